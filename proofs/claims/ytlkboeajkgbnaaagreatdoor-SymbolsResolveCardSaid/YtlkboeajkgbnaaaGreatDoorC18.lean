import Derived.Lib.SlicesCompact
set_option linter.all false
set_option maxHeartbeats 4000000
namespace Go.Proofs.YtlkboeajkgbnaaaGreatDoor
namespace inn
open Lib
structure Ordr{α:Type}(lt:α→α→Prop):Prop where
 irr:∀a,¬lt a a
 tr:∀a b c,lt a b→lt b c→lt a c
 tot:∀a b,lt a b∨a=b∨lt b a
theorem rises_ext{α:Type}{lt:α→α→Prop}(o:Ordr lt){l m:List α}(hl:l.Pairwise lt)(hm:m.Pairwise lt)(h:∀x,x∈l↔x∈m):l=m:=by
 have nl:l.Nodup:=hl.imp (fun {a b} hab e=>by subst e;exact o.irr _ hab);have nm:m.Nodup:=hm.imp (fun {a b} hab e=>by subst e;exact o.irr _ hab);exact List.Perm.eq_of_pairwise (fun a b _ _ h1 h2=>absurd (o.tr _ _ _ h1 h2) (o.irr a)) hl hm ((List.perm_ext_iff_of_nodup nl nm).2 h)
theorem compact_rises{α:Type}[Inhabited α][DecidableEq α]{lt:α→α→Prop}(o:Ordr lt)(zs:List α)(hs:zs.Pairwise (fun a b=>lt a b∨a=b)) :
 ∀m,m≤zs.length→(compactUpTo zs.toArray m).Pairwise lt∧∀x,x∈compactUpTo zs.toArray m↔x∈zs.take m
 | 0,_=>by simp[compactUpTo]
 | m+1,hm=>by
  obtain⟨h1,h2⟩:=compact_rises o zs hs m (by omega);have hd:zs.toArray[m]! = zs[m]:=by simp[List.getElem?_eq_getElem (show m<zs.length by omega)]
  rw[compactUpTo_succ,List.take_succ_eq_append_getElem (by omega),hd];rcases hk:keeps zs.toArray m with _ | _
  ·have h0:0<m:=by
    rcases Nat.eq_zero_or_pos m with h | h
    ·subst h;simp[keeps]at hk
    ·exact h
   have hd1:zs.toArray[m-1]! = zs[m-1]:=by simp[List.getElem?_eq_getElem (show m-1<zs.length by omega)]
   have he:zs[m] = zs[m-1]:=by
    unfold keeps at hk;rw[decide_eq_false_iff_not,hd,hd1]at hk;simp only[not_or,Decidable.not_not]at hk;exact hk.2
   rw[if_neg (by simp),List.append_nil];refine⟨h1,fun x=>?_⟩;rw[h2 x,List.mem_append,List.mem_singleton];constructor
   ·exact Or.inl
   ·rintro(h | rfl)
    ·exact h
    ·rw[he,List.mem_take_iff_getElem]
     exact⟨m-1,by omega,rfl⟩
  ·rw[if_pos rfl]
   refine⟨List.pairwise_append.2 ⟨h1,by simp,fun x hx y hy=>?_⟩,fun x=>?_⟩
   ·rw[List.mem_singleton]at hy
    subst hy;rw[h2 x,List.mem_take_iff_getElem]at hx;obtain⟨j,hj,rfl⟩:=hx;have hjm:j<m:=by omega
    have hd1:zs.toArray[m-1]! = zs[m-1]:=by simp[List.getElem?_eq_getElem (show m-1<zs.length by omega)]
    have hne:zs[m-1]≠zs[m]:=by
     unfold keeps at hk;rw[decide_eq_true_iff,hd,hd1]at hk;rcases hk with h | h
     ·omega
     ·exact fun e=>h e.symm
    have hlt:lt zs[m-1] zs[m]:=by
     have:=List.pairwise_iff_getElem.1 hs (m-1) m (by omega) (by omega) (by omega);rcases this with h | h
     ·exact h
     ·exact absurd h hne
    rcases Nat.lt_or_ge j (m-1)with hj1 | hj1
    ·have:=List.pairwise_iff_getElem.1 hs j (m-1) (by omega) (by omega) hj1
     rcases this with h | h
     ·exact o.tr _ _ _ h hlt
     ·rw[h];exact hlt
    ·have:j=m-1:=by omega
     subst this;exact hlt
   ·rw[List.mem_append,List.mem_append,h2 x]
def into{α:Type}(lt:α→α→Prop)[DecidableRel lt][DecidableEq α](m:List α)(x:α):List α:=
 let k:=(m.takeWhile fun y=>decide (lt y x)).length
 if m[k]? = some x then m else m.take k++[x]++m.drop k
theorem into_spec{α:Type}{lt:α→α→Prop}[DecidableRel lt][DecidableEq α](o:Ordr lt)(m:List α)(x:α)(hm:m.Pairwise lt):(into lt m x).Pairwise lt∧∀y,y∈into lt m x↔y∈m∨y=x:=by
 have hsplit:m=m.takeWhile (fun y=>decide (lt y x))++m.dropWhile (fun y=>decide (lt y x)):=List.takeWhile_append_dropWhile.symm;have hR:into lt m x=if m[(m.takeWhile fun y=>decide (lt y x)).length]? = some x then m else m.take (m.takeWhile fun y=>decide (lt y x)).length++[x]++m.drop (m.takeWhile fun y=>decide (lt y x)).length:=rfl
 have htl:∀y∈m.takeWhile (fun y=>decide (lt y x)),lt y x:=fun y hy=>by
  have:=List.all_takeWhile (p:=fun y=>decide (lt y x)) (l:=m);rw[List.all_eq_true]at this
  simpa using this y hy
 have hdh:∀y r,m.dropWhile (fun y=>decide (lt y x))=y :: r→¬lt y x:=fun y r e=>by
  have:=List.head?_dropWhile_not (fun y=>decide (lt y x)) m;rw[e]at this
  simpa using this
 generalize m.takeWhile (fun y=>decide (lt y x))=t at *;generalize m.dropWhile (fun y=>decide (lt y x))=d at *;subst hsplit;have hget:(t++d)[t.length]? = d.head?:=by
  rw[List.getElem?_append_right (Nat.le_refl _),Nat.sub_self];cases d <;> rfl
 rw[hget,List.take_left,List.drop_left]at hR;rw[hR];obtain⟨p1,p2,p3⟩:=List.pairwise_append.1 hm;by_cases h:d.head? = some x
 ·rw[if_pos h]
  refine⟨hm,fun y=>⟨Or.inl,?_⟩⟩;rintro(hy | rfl)
  ·exact hy
  ·cases d with
   | nil=>simp at h
   | cons a r=>simp at h;subst h;simp
 ·rw[if_neg h]
  have hxd:∀y∈d,lt x y:=fun y hy=>by
   cases d with
   | nil=>cases hy
   | cons a r=>
    have ha:lt x a:=by
     rcases o.tot x a with h1 | h1 | h1
     ·exact h1
     ·subst h1;simp at h
     ·exact absurd h1 (hdh a r rfl)
    rcases List.mem_cons.1 hy with rfl | hy
    ·exact ha
    ·exact o.tr _ _ _ ha (List.rel_of_pairwise_cons p2 hy)
  refine⟨List.pairwise_append.2 ⟨List.pairwise_append.2 ⟨p1,by simp,fun a ha b hb=>by rw[List.mem_singleton]at hb;subst hb;exact htl a ha⟩,p2,fun a ha b hb=>?_⟩,fun y=>?_⟩
  ·rcases List.mem_append.1 ha with ha | ha
   ·exact p3 a ha b hb
   ·rw[List.mem_singleton]at ha;subst ha;exact hxd b hb
  ·simp only[List.mem_append,List.mem_singleton]
   constructor
   ·rintro((h1 | h1) | h1)
    ·exact Or.inl (Or.inl h1)
    ·exact Or.inr h1
    ·exact Or.inl (Or.inr h1)
   ·rintro((h1 | h1) | h1)
    ·exact Or.inl (Or.inl h1)
    ·exact Or.inr h1
    ·exact Or.inl (Or.inr h1)
def intoAll{α:Type}(lt:α→α→Prop)[DecidableRel lt][DecidableEq α](l:List α):List α:=l.foldl (into lt) []
theorem intoAll_spec{α:Type}{lt:α→α→Prop}[DecidableRel lt][DecidableEq α](o:Ordr lt)(l:List α):(intoAll lt l).Pairwise lt∧∀y,y∈intoAll lt l↔y∈l:=by
 have:∀(l m:List α),m.Pairwise lt→(l.foldl (into lt) m).Pairwise lt∧∀y,y∈l.foldl (into lt) m↔y∈m∨y∈l:=by
  intro l
  induction l with
  | nil=>intro m hm;exact⟨hm,by simp⟩
  | cons x l ih=>
   intro m hm;obtain⟨h1,h2⟩:=into_spec o m x hm;obtain⟨h3,h4⟩:=ih _ h1;refine⟨h3,fun y=>?_⟩;show y∈l.foldl (into lt) (into lt m x)↔_;rw[h4 y,h2 y,List.mem_cons];constructor
   ·rintro((h | h) | h)
    ·exact Or.inl h
    ·exact Or.inr (Or.inl h)
    ·exact Or.inr (Or.inr h)
   ·rintro(h | h | h)
    ·exact Or.inl (Or.inl h)
    ·exact Or.inl (Or.inr h)
    ·exact Or.inr h
 obtain⟨h1,h2⟩:=this l [] List.Pairwise.nil;exact⟨h1,fun y=>by rw[show intoAll lt l=l.foldl (into lt) [] from rfl,h2 y];simp⟩
theorem intoAll_snoc{α:Type}(lt:α→α→Prop)[DecidableRel lt][DecidableEq α](l:List α)(x:α):intoAll lt (l++[x])=into lt (intoAll lt l) x:=by
 unfold intoAll;rw[List.foldl_append];rfl
theorem compact_sorted{α:Type}[Inhabited α][DecidableEq α]{lt:α→α→Prop}[DecidableRel lt](o:Ordr lt)(l zs:List α)(hp:zs.Perm l)(hs:zs.Pairwise (fun a b=>lt a b∨a=b)):compact zs=intoAll lt l:=by
 obtain⟨h1,h2⟩:=compact_rises o zs hs zs.length (Nat.le_refl _);obtain⟨h3,h4⟩:=intoAll_spec o l;refine rises_ext o h1 h3 fun x=>?_
 show x∈compactUpTo zs.toArray zs.length↔_;rw[h2 x,List.take_length,h4 x,hp.mem_iff]
theorem ordS:Ordr (fun a b:List UInt8=>a<b):=⟨fun a=>List.lt_irrefl a,fun _ _ _ h k=>List.lt_trans h k,fun a b=>by
 by_cases h:a<b
 ·exact Or.inl h
 ·rcases List.le_iff_lt_or_eq.1 (List.not_lt.1 h)with h | h
  ·exact Or.inr (Or.inr h)
  ·exact Or.inr (Or.inl h.symm)⟩
theorem sorted_s(l:List (List UInt8)):compact (l.mergeSort fun x y=>decide (x≤y))=intoAll (fun a b:List UInt8=>a<b) l:=by
 refine compact_sorted ordS l _ (List.mergeSort_perm _ _) ?_;have h1:(l.mergeSort fun x y=>decide (x≤y)).Pairwise (fun x y=>decide (x≤y)=true):=List.pairwise_mergeSort (by intro a b c h k;simp only[decide_eq_true_eq]at *;exact List.le_trans h k) (by intro a b;simp only[Bool.or_eq_true,decide_eq_true_eq];exact List.le_total a b) _;refine h1.imp fun {a b} h=>?_
 simp only[decide_eq_true_eq]at h;exact List.le_iff_lt_or_eq.1 h
end inn
end Go.Proofs.YtlkboeajkgbnaaaGreatDoor
