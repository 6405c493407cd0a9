import Derived.Test.YtdmmkjijgoiecaaGreatDoorY01
import Derived.Lib.SlicesCompact
set_option linter.all false
set_option maxHeartbeats 4000000
namespace Go.Proofs.YtdmmkjijgoiecaaGreatDoor
namespace inn
open Lib
structure aF8{α:Type}(lt:α→α→Prop):Prop where
 irr:∀a,¬lt a a
 tr:∀a b c,lt a b→lt b c→lt a c
 tot:∀a b,lt a b∨a=b∨lt b a
theorem vF{α:Type}{lt:α→α→Prop}(o:aF8 lt){l m:List α}(hl:l.Pairwise lt)(J:m.Pairwise lt)(h:∀x,x∈l↔x∈m):l=m:=by
 have nl:l.Nodup:=hl.imp (fun {a b} hab e=>by subst e;exact o.irr _ hab);have nm:m.Nodup:=J.imp (fun {a b} hab e=>by subst e;exact o.irr _ hab);exact List.Perm.eq_of_pairwise (fun a b _ _ h1 Y=>absurd (o.tr _ _ _ h1 Y) (o.irr a)) hl J ((List.perm_ext_iff_of_nodup nl nm).2 h)
theorem vP{α:Type}[Inhabited α][DecidableEq α]{lt:α→α→Prop}(o:aF8 lt)(J:List α)(hs:J.Pairwise (fun a b=>lt a b∨a=b)) :
 ∀m,m≤J.length→(compactUpTo J.toArray m).Pairwise lt∧∀x,x∈compactUpTo J.toArray m↔x∈J.take m
 | 0,_=>by simp[compactUpTo]
 | m+1,hm=>by
  obtain⟨h1,h2⟩:=vP o J hs m (by omega);have hd:J.toArray[m]! = J[m]:=by simp[aN (show m<J.length by omega)]
  rw[compactUpTo_succ,bC (by omega),hd];rcases Y:keeps J.toArray m with _ | _
  ·have h0:0<m:=by
    rcases Nat.eq_zero_or_pos m with h | h
    ·subst h;simp[keeps]at Y
    ·exact h
   have a1:J.toArray[m-1]! = J[m-1]:=by simp[aN (show m-1<J.length by omega)]
   have he:J[m] = J[m-1]:=by
    unfold keeps at Y;rw[decide_eq_false_iff_not,hd,a1]at Y;simp only[not_or,Decidable.not_not]at Y;exact Y.2
   rw[if_neg (by simp),List.append_nil];refine⟨h1,fun x=>?_⟩;rw[h2 x,List.mem_append,aD];constructor
   ·exact Or.inl
   ·rintro(h | rfl)
    ·exact h
    ·rw[he,List.mem_take_iff_getElem]
     exact⟨m-1,by omega,rfl⟩
  ·rw[if_pos rfl]
   refine⟨List.pairwise_append.2 ⟨h1,by simp,fun x hx y hy=>?_⟩,fun x=>?_⟩
   ·rw[aD]at hy
    subst hy;rw[h2 x,List.mem_take_iff_getElem]at hx;obtain⟨j,hj,rfl⟩:=hx;have a4:j<m:=by omega
    have a1:J.toArray[m-1]! = J[m-1]:=by simp[aN (show m-1<J.length by omega)]
    have a3:J[m-1]≠J[m]:=by
     unfold keeps at Y;rw[decide_eq_true_iff,hd,a1]at Y;rcases Y with h | h
     ·omega
     ·exact fun e=>h e.symm
    have a0:lt J[m-1] J[m]:=by
     have:=List.pairwise_iff_getElem.1 hs (m-1) m (by omega) (by omega) (by omega);rcases this with h | h
     ·exact h
     ·exact absurd h a3
    rcases Nat.lt_or_ge j (m-1)with a2 | a2
    ·have:=List.pairwise_iff_getElem.1 hs j (m-1) (by omega) (by omega) a2
     rcases this with h | h
     ·exact o.tr _ _ _ h a0
     ·rw[h];exact a0
    ·have:j=m-1:=by omega
     subst this;exact a0
   ·rw[List.mem_append,List.mem_append,h2 x]
def aAE{α:Type}(lt:α→α→Prop)[DecidableRel lt][DecidableEq α](m:List α)(x:α):List α:=
 let k:=(m.takeWhile fun y=>decide (lt y x)).length
 if m[k]? = some x then m else m.take k++[x]++m.drop k
theorem aG6{α:Type}{lt:α→α→Prop}[DecidableRel lt][DecidableEq α](o:aF8 lt)(m:List α)(x:α)(hm:m.Pairwise lt):(aAE lt m x).Pairwise lt∧∀y,y∈aAE lt m x↔y∈m∨y=x:=by
 have Y:m=m.takeWhile (fun y=>decide (lt y x))++m.dropWhile (fun y=>decide (lt y x)):=List.takeWhile_append_dropWhile.symm;have hR:aAE lt m x=if m[(m.takeWhile fun y=>decide (lt y x)).length]? = some x then m else m.take (m.takeWhile fun y=>decide (lt y x)).length++[x]++m.drop (m.takeWhile fun y=>decide (lt y x)).length:=rfl
 have a3:∀y∈m.takeWhile (fun y=>decide (lt y x)),lt y x:=fun y hy=>by
  have:=List.all_takeWhile (p:=fun y=>decide (lt y x)) (l:=m);rw[List.all_eq_true]at this
  simpa using this y hy
 have a1:∀y r,m.dropWhile (fun y=>decide (lt y x))=y :: r→¬lt y x:=fun y r e=>by
  have:=List.head?_dropWhile_not (fun y=>decide (lt y x)) m;rw[e]at this
  simpa using this
 generalize m.takeWhile (fun y=>decide (lt y x))=t at *;generalize m.dropWhile (fun y=>decide (lt y x))=d at *;subst Y;have a0:(t++d)[t.length]? = d.head?:=by
  rw[List.getElem?_append_right (aY _),Nat.sub_self];cases d <;> rfl
 rw[a0,List.take_left,List.drop_left]at hR;rw[hR];obtain⟨p1,p2,p3⟩:=List.pairwise_append.1 hm;by_cases h:d.head? = some x
 ·rw[if_pos h]
  refine⟨hm,fun y=>⟨Or.inl,?_⟩⟩;rintro(hy | rfl)
  ·exact hy
  ·cases d with
   | nil=>simp at h
   | cons a r=>simp at h;subst h;simp
 ·rw[if_neg h]
  have a2:∀y∈d,lt x y:=fun y hy=>by
   cases d with
   | nil=>cases hy
   | cons a r=>
    have ha:lt x a:=by
     rcases o.tot x a with J | J | J
     ·exact J
     ·subst J;simp at h
     ·exact absurd J (a1 a r rfl)
    rcases aM.1 hy with rfl | hy
    ·exact ha
    ·exact o.tr _ _ _ ha (List.rel_of_pairwise_cons p2 hy)
  refine⟨List.pairwise_append.2 ⟨List.pairwise_append.2 ⟨p1,by simp,fun a ha b hb=>by rw[aD]at hb;subst hb;exact a3 a ha⟩,p2,fun a ha b hb=>?_⟩,fun y=>?_⟩
  ·rcases List.mem_append.1 ha with ha | ha
   ·exact p3 a ha b hb
   ·rw[aD]at ha;subst ha;exact a2 b hb
  ·simp only[List.mem_append,aD]
   constructor
   ·rintro((J | J) | J)
    ·exact Or.inl (Or.inl J)
    ·exact Or.inr J
    ·exact Or.inl (Or.inr J)
   ·rintro((J | J) | J)
    ·exact Or.inl (Or.inl J)
    ·exact Or.inr J
    ·exact Or.inl (Or.inr J)
def jN{α:Type}(lt:α→α→Prop)[DecidableRel lt][DecidableEq α](l:List α):List α:=l.foldl (aAE lt) []
theorem gG{α:Type}{lt:α→α→Prop}[DecidableRel lt][DecidableEq α](o:aF8 lt)(l:List α):(jN lt l).Pairwise lt∧∀y,y∈jN lt l↔y∈l:=by
 have:∀(l m:List α),m.Pairwise lt→(l.foldl (aAE lt) m).Pairwise lt∧∀y,y∈l.foldl (aAE lt) m↔y∈m∨y∈l:=by
  intro l
  induction l with
  | nil=>intro m Y;exact⟨Y,by simp⟩
  | cons x l ih=>
   intro m Y;obtain⟨h1,J⟩:=aG6 o m x Y;obtain⟨h3,h4⟩:=ih _ h1;refine⟨h3,fun y=>?_⟩;show y∈l.foldl (aAE lt) (aAE lt m x)↔_;rw[h4 y,J y,aM];constructor
   ·rintro((h | h) | h)
    ·exact Or.inl h
    ·exact Or.inr (Or.inl h)
    ·exact Or.inr (Or.inr h)
   ·rintro(h | h | h)
    ·exact Or.inl (Or.inl h)
    ·exact Or.inl (Or.inr h)
    ·exact Or.inr h
 obtain⟨h1,J⟩:=this l [] List.Pairwise.nil;exact⟨h1,fun y=>by rw[show jN lt l=l.foldl (aAE lt) [] from rfl,J y];simp⟩
theorem aBV{α:Type}(lt:α→α→Prop)[DecidableRel lt][DecidableEq α](l:List α)(x:α):jN lt (l++[x])=aAE lt (jN lt l) x:=by
 unfold jN;rw[List.foldl_append];rfl
theorem aAC{α:Type}[Inhabited α][DecidableEq α]{lt:α→α→Prop}[DecidableRel lt](o:aF8 lt)(l J:List α)(hp:J.Perm l)(hs:J.Pairwise (fun a b=>lt a b∨a=b)):compact J=jN lt l:=by
 obtain⟨h1,Y⟩:=vP o J hs J.length (aY _);obtain⟨h3,h4⟩:=gG o l;refine vF o h1 h3 fun x=>?_
 show x∈compactUpTo J.toArray J.length↔_;rw[Y x,bF,h4 x,hp.mem_iff]
theorem mP:aF8 (fun a b:List UInt8=>a<b):=⟨fun a=>List.lt_irrefl a,fun _ _ _ h k=>List.lt_trans h k,fun a b=>by
 by_cases h:a<b
 ·exact Or.inl h
 ·rcases List.le_iff_lt_or_eq.1 (List.not_lt.1 h)with h | h
  ·exact Or.inr (Or.inr h)
  ·exact Or.inr (Or.inl h.symm)⟩
theorem aAz(l:List (List UInt8)):compact (l.mergeSort fun x y=>decide (x≤y))=jN (fun a b:List UInt8=>a<b) l:=by
 refine aAC mP l _ (List.mergeSort_perm _ _) ?_;have J:(l.mergeSort fun x y=>decide (x≤y)).Pairwise (fun x y=>decide (x≤y)=true):=List.pairwise_mergeSort (by intro a b c h k;simp only[bJ]at *;exact List.le_trans h k) (by intro a b;simp only[Bool.or_eq_true,bJ];exact List.le_total a b) _;refine J.imp fun {a b} h=>?_
 simp only[bJ]at h;exact List.le_iff_lt_or_eq.1 h
end inn
end Go.Proofs.YtdmmkjijgoiecaaGreatDoor
