import Derived.Deep.AppendSrc
import Derived.Deep.Draws
import Derived.Deep.RegionHeld3
import Derived.Lib.Hide
import Derived.Lib.SlicesCompact
import Derived.ProofKit
import Derived.Test.YtlkboeajkgbnaaaGreatDoorRows
import Derived.WalkKit
set_option linter.all false
set_option maxHeartbeats 4000000
namespace Go.Proofs.YtlkboeajkgbnaaaGreatDoor
namespace po
def upS(m:List (List UInt8))(x:List UInt8):Nat:=(m.takeWhile fun y=>decide (y<x)).length
theorem up_idx:∀(m:List (List UInt8)) (x:List UInt8),m.Pairwise (fun a b=>a<b)→x∈m→upS m x=m.idxOf x
 | [],x,_,h=>by simp at h
 | y :: m,x,hp,h=>by
  have hp':=List.pairwise_cons.1 hp;by_cases e:y=x
  ·subst e
   have:¬(y<y):=List.lt_irrefl y;unfold upS;simp[this]
  ·have hx:x∈m:=by rcases List.mem_cons.1 h with h | h;exact absurd h.symm e;exact h
   have hlt:=hp'.1 x hx;have ih:=up_idx m x hp'.2 hx;unfold upS at ih ⊢;simp only[List.takeWhile_cons,decide_eq_true hlt,if_true,List.length_cons];rw[List.idxOf_cons,show(y==x)=false by simpa using e,ih];rfl
theorem search_end(m:List (List UInt8))(x:List UInt8)(i:Nat)(hi:i≤m.length)(h1:∀j (hj:j<m.length),j<i→m[j]<x)(h2:∀j (hj:j<m.length),i≤j→¬m[j]<x):upS m x=i:=by
 unfold upS;have e:m.takeWhile (fun y=>decide (y<x))=m.take i:=by
  conv=>lhs;rw[←List.take_append_drop i m]
  rw[List.takeWhile_append_of_pos (by
   intro y hy;obtain⟨j,hj,rfl⟩:=List.mem_iff_getElem.1 hy;rw[List.getElem_take];rw[List.length_take]at hj
   exact decide_eq_true (h1 j (by omega) (by omega)))]
  rcases hd:m.drop i with _ | ⟨z,r⟩
  ·simp
  ·have hlt:i<m.length:=by
    rcases Nat.lt_or_ge i m.length with h | h
    ·exact h
    ·rw[List.drop_of_length_le h]at hd;cases hd
   rw[List.drop_eq_getElem_cons hlt]at hd;injection hd with hz _;rw[List.takeWhile_cons_of_neg (by rw[←hz];simpa using h2 i hlt (Nat.le_refl _))];simp
 rw[e,List.length_take];omega
theorem sorted_lt(m:List (List UInt8))(x:List UInt8)(hp:m.Pairwise (fun a b=>a<b))(i j:Nat)(hi:i<m.length)(hj:j<m.length)(hij:i≤j)(h:m[j]<x):m[i]<x:=by
 rcases Nat.lt_or_ge i j with h1 | h1
 ·exact List.lt_trans (List.pairwise_iff_getElem.1 hp i j hi hj h1) h
 ·have:i=j:=by omega
  subst this;exact h
theorem up_at(m:List (List UInt8))(x:List UInt8)(hp:m.Pairwise (fun a b=>a<b)):(∃h:upS m x<m.length,m[upS m x] = x)↔x∈m:=by
 constructor
 ·rintro⟨h,e⟩;rw[←e];exact List.getElem_mem h
 ·intro h
  have e:=up_idx m x hp h;have hl:=List.idxOf_lt_length_iff.2 h;refine⟨by omega,?_⟩;simp only[e];exact List.getElem_idxOf hl
end po
end Go.Proofs.YtlkboeajkgbnaaaGreatDoor
