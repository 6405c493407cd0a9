
set_option linter.all false
set_option maxHeartbeats 4000000
namespace Go.Proofs.YtdmmkjijgoiecaaGreatDoor
theorem aB{p:Prop}[Decidable p](h:¬p):decide p=false:=decide_eq_false h
theorem aC{p:Prop}[Decidable p](h:p):decide p=true:=decide_eq_true h
theorem aD{α}{a b:α}:a ∈[b]↔a=b:=List.mem_singleton
theorem aF{α}{a b:List α}:(a++b).length=a.length+b.length:=List.length_append
theorem aG{α}{a:α}{l:List α}:(a::l).length=l.length+1:=rfl
theorem aH{α β}{l:List α}(f:α → β):(l.map f).length=l.length:=List.length_map f
theorem aI{α}:([]:List α).length=0:=rfl
theorem aJ{α}{a:α}{l:List α}:(a::l)[0]? =some a:=rfl
theorem aK{α}{a:α}{i}{l:List α}:(a::l)[i+1]? =l[i]?:=rfl
theorem aL{α}{l:List α}{i:Nat}:l.toArray[i]? =l[i]?:=List.getElem?_toArray
theorem aM{α}{b:α}{l}{a:α}:a ∈ b::l↔a=b∨a ∈ l:=List.mem_cons
theorem aN{α}{l:List α}{i}(h:i<l.length):l[i]? =some l[i]:=List.getElem?_eq_getElem h
theorem aO{α}(l:List α)(i)(a:α):l.toArray.setIfInBounds i a=(l.set i a).toArray:=List.setIfInBounds_toArray l i a
theorem aP{α}{x:α}{l:List α}{a}:(x::l).set 0 a=a::l:=rfl
theorem aQ{α}{x:α}{l:List α}{i a}:(x::l).set (i+1) a=x::l.set i a:=rfl
theorem aR{α}{l:List α}{n}(h:n<l.length):l[n]∈ l:=List.getElem_mem h
theorem aS{α}(a b c:List α):a++b++c=a++(b++c):=List.append_assoc a b c
theorem aT{α}{a:α}:¬a ∈[]:=List.not_mem_nil
theorem aU{α β}{f:α → β}:List.map f []=[]:=rfl
theorem aV{α β}{f:α → β}{a}{l:List α}:List.map f (a::l)=f a::List.map f l:=rfl
theorem aW{α}{a:α}{x y:List α}:a::x++y=a::(x++y):=rfl
theorem aX{α}(l:List α):[]++l=l:=rfl
theorem aY(n:Nat):n ≤ n:=Nat.le_refl n
theorem aZ{n m k:Nat}:n ≤ m → m ≤ k → n ≤ k:=Nat.le_trans
theorem bA(n:Nat):0 ≤ n:=Nat.zero_le n
theorem bB{α}{i:Nat}{b:α}{l:Array α}:l[i]? =some b↔∃ h,l[i]'h=b:=Array.getElem?_eq_some_iff
theorem bC{α}{i}{l:List α}(h:i<l.length):List.take (i+1) l=List.take i l++[l[i]]:=List.take_succ_eq_append_getElem h
theorem bD{α}{i}{l:List α}(h:i<l.length):List.drop i l=l[i]::List.drop (i+1) l:=List.drop_eq_getElem_cons h
theorem bE{α}{i}{l:List α}:l.length ≤ i → List.take i l=l:=List.take_of_length_le
theorem bF{α}{l:List α}:List.take l.length l=l:=List.take_length
theorem bG{α}(y:α){a:α}{l}:a ∈ l → a ∈ y::l:=List.mem_cons_of_mem y
theorem bH{α}{l:Array α}(v):(l.push v).size=l.size+1:=Array.size_push v
theorem bI{α}[BEq α][LawfulBEq α]{a b:α}:(a==b)=false↔a ≠ b:=beq_eq_false_iff_ne
theorem bJ{p:Prop}[Decidable p]:(decide p=true)=p:=decide_eq_true_eq
end Go.Proofs.YtdmmkjijgoiecaaGreatDoor
namespace Go.Proofs.YtdmmkjijgoiecaaGreatDoor
namespace vr
def yR(n:Nat):UInt8:=UInt8.ofNat n
theorem vB(n:Nat)(h:n<256):(yR n).toNat=n:=by unfold yR;rw[UInt8.toNat_ofNat'];omega
def nbF:Nat→Nat→List UInt8
 | 0,n=>[yR n]
 | f+1,n=>if n<128 then [yR n] else yR (n % 128+128) :: nbF f (n / 128)
def nb(n:Nat):List UInt8:=nbF n n
theorem aJQ:∀(f g n:Nat),n≤f→n≤g→nbF f n=nbF g n
 | 0,0,_,_,_=>rfl
 | 0,g+1,n,h,_=>by
  have:n=0:=by omega
  subst this;simp[nbF]
 | f+1,0,n,_,h=>by
  have:n=0:=by omega
  subst this;simp[nbF]
 | f+1,g+1,n,h,h'=>by
  unfold nbF;split
  ·rfl
  ·rw[aJQ f g (n / 128) (by omega) (by omega)]
theorem iP(n:Nat)(h:n<128):nb n=[yR n]:=by
 unfold nb;cases n with
 | zero=>rfl
 | succ n=>unfold nbF;rw[if_pos h]
theorem oP(n:Nat)(h:128≤n):nb n=yR (n % 128+128) :: nb (n / 128):=by
 unfold nb;obtain⟨m,rfl⟩:∃m,n=m+1:=⟨n-1,by omega⟩
 conv=>lhs;unfold nbF
 rw[if_neg (by omega),aJQ m ((m+1) / 128) _ (by omega) (by omega)]
theorem iM(n:Nat)(h:n≤268435456):(nb n).length≤5:=by
 by_cases h1:n<128
 ·rw[iP n h1];simp
 rw[oP n (by omega)]
 by_cases Y:n / 128<128
 ·rw[iP _ Y];simp
 rw[oP _ (by omega)]
 by_cases h3:n / 128 / 128<128
 ·rw[iP _ h3];simp
 rw[oP _ (by omega)]
 by_cases J:n / 128 / 128 / 128<128
 ·rw[iP _ J];simp
 rw[oP _ (by omega),iP _ (by omega)];simp
theorem aDw(n:Nat):0<(nb n).length:=by
 by_cases J:n<128
 ·rw[iP n J];simp
 ·rw[oP n (by omega)];simp
def cntF:Nat→Nat→List UInt8→Nat×Nat×Nat
 | _,_,[]=>(0,0,1)
 | i,n,b :: r=>
  if b.toNat=0∧0<i then(0,0,3)
  else if i=4∧1<b.toNat∨268435456<n+b.toNat % 128 * 2 ^ (7 * i) then(0,0,2)
  else if b.toNat<128 then(n+b.toNat % 128 * 2 ^ (7 * i),i+1,0)
  else if 4≤i then(0,0,2)
  else cntF (i+1) (n+b.toNat % 128 * 2 ^ (7 * i)) r
def cnt(l:List UInt8):Nat×Nat×Nat:=cntF 0 0 l
end vr
end Go.Proofs.YtdmmkjijgoiecaaGreatDoor
