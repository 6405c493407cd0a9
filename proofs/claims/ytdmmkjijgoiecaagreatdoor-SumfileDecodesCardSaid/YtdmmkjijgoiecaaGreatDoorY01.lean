import Derived.WalkKit
set_option linter.all false
set_option maxHeartbeats 4000000
namespace Go.Proofs.YtdmmkjijgoiecaaGreatDoor
theorem aB{p:Prop}[Decidable p](h:¬p):decide p=false:=decide_eq_false h
theorem aC{p:Prop}[Decidable p](h:p):decide p=true:=decide_eq_true h
theorem aD{α}{a b:α}:a ∈[b]↔a=b:=List.mem_singleton
theorem aF{α}{a b:List α}:(a++b).length=a.length+b.length:=List.length_append
theorem aG{α}{a:α}{l:List α}:(a::l).length=l.length+1:=rfl
theorem aH{α β}{l:List α}(f:α → β):(l.map f).length=l.length:=List.length_map f
theorem aI{α}:([]:List α).length=0:=rfl
theorem aJ{α}{a:α}{l:List α}:(a::l)[0]? =some a:=rfl
theorem aK{α}{a:α}{i}{l:List α}:(a::l)[i+1]? =l[i]?:=rfl
theorem aL{α}{l:List α}{i:Nat}:l.toArray[i]? =l[i]?:=List.getElem?_toArray
theorem aM{α}{b:α}{l}{a:α}:a ∈ b::l↔a=b∨a ∈ l:=List.mem_cons
theorem aN{α}{l:List α}{i}(h:i<l.length):l[i]? =some l[i]:=List.getElem?_eq_getElem h
theorem aO{α}(l:List α)(i)(a:α):l.toArray.setIfInBounds i a=(l.set i a).toArray:=List.setIfInBounds_toArray l i a
theorem aP{α}{x:α}{l:List α}{a}:(x::l).set 0 a=a::l:=rfl
theorem aQ{α}{x:α}{l:List α}{i a}:(x::l).set (i+1) a=x::l.set i a:=rfl
theorem aR{α}{l:List α}{n}(h:n<l.length):l[n]∈ l:=List.getElem_mem h
theorem aS{α}(a b c:List α):a++b++c=a++(b++c):=List.append_assoc a b c
theorem aT{α}{a:α}:¬a ∈[]:=List.not_mem_nil
theorem aU{α β}{f:α → β}:List.map f []=[]:=rfl
theorem aV{α β}{f:α → β}{a}{l:List α}:List.map f (a::l)=f a::List.map f l:=rfl
theorem aW{α}{a:α}{x y:List α}:a::x++y=a::(x++y):=rfl
theorem aX{α}(l:List α):[]++l=l:=rfl
theorem aY(n:Nat):n ≤ n:=Nat.le_refl n
theorem aZ{n m k:Nat}:n ≤ m → m ≤ k → n ≤ k:=Nat.le_trans
theorem bA(n:Nat):0 ≤ n:=Nat.zero_le n
theorem bB{α}{i:Nat}{b:α}{l:Array α}:l[i]? =some b↔∃ h,l[i]'h=b:=Array.getElem?_eq_some_iff
theorem bC{α}{i}{l:List α}(h:i<l.length):List.take (i+1) l=List.take i l++[l[i]]:=List.take_succ_eq_append_getElem h
theorem bD{α}{i}{l:List α}(h:i<l.length):List.drop i l=l[i]::List.drop (i+1) l:=List.drop_eq_getElem_cons h
theorem bE{α}{i}{l:List α}:l.length ≤ i → List.take i l=l:=List.take_of_length_le
theorem bF{α}{l:List α}:List.take l.length l=l:=List.take_length
theorem bG{α}(y:α){a:α}{l}:a ∈ l → a ∈ y::l:=List.mem_cons_of_mem y
theorem bH{α}{l:Array α}(v):(l.push v).size=l.size+1:=Array.size_push v
theorem bI{α}[BEq α][LawfulBEq α]{a b:α}:(a==b)=false↔a ≠ b:=beq_eq_false_iff_ne
theorem bJ{p:Prop}[Decidable p]:(decide p=true)=p:=decide_eq_true_eq
theorem rI{a b:Int}(h:a=b):Ending.returned (.int .i64 a)=.returned (.int .i64 b):=by rw[h]
end Go.Proofs.YtdmmkjijgoiecaaGreatDoor
