import Derived.Test.YtdmmkjijgoiecaaGreatDoorY09
import Derived.Test.YtdmmkjijgoiecaaGreatDoorY02
set_option linter.all false
set_option maxHeartbeats 4000000
namespace Go.Proofs.YtdmmkjijgoiecaaGreatDoor
namespace po
open vr inn
def shr:List UInt8→List UInt8→Nat
 | a :: x,b :: y=>if a=b then shr x y+1 else 0
 | _,_=>0
theorem xB:∀a b,shr a b≤a.length
 | [],[]=>by simp[shr]
 | [],_ :: _=>by simp[shr]
 | _ :: _,[]=>by simp[shr]
 | a :: x,b :: y=>by
  unfold shr;split
  ·have:=xB x y;simp;omega
  ·simp
theorem vJ:∀a b,shr a b≤b.length
 | [],[]=>by simp[shr]
 | [],_ :: _=>by simp[shr]
 | _ :: _,[]=>by simp[shr]
 | a :: x,b :: y=>by
  unfold shr;split
  ·have:=vJ x y;simp;omega
  ·simp
theorem aEo:∀(a b:List UInt8) (k:Nat),k<shr a b→∀(J:k<a.length) (Y:k<b.length),a[k] = b[k]
 | [],[],k,h,J,_=>by simp at J
 | [],_ :: _,k,h,J,_=>by simp at J
 | _ :: _,[],k,h,_,Y=>by simp at Y
 | a :: x,b :: y,k,h,J,Y=>by
  unfold shr at h;split at h
  ·rename_i e
   cases k with
   | zero=>simpa using e
   | succ k=>simpa using aEo x y k (by omega) (by simpa using J) (by simpa using Y)
  ·omega
theorem aAr:∀(a b:List UInt8) (J:shr a b<a.length) (Y:shr a b<b.length),a[shr a b]≠b[shr a b]
 | [],[],J,_=>by simp at J
 | [],_ :: _,J,_=>by simp at J
 | _ :: _,[],_,Y=>by simp at Y
 | a :: x,b :: y,J,Y=>by
  by_cases e:a=b
  · have e2 : shr (a :: x) (b :: y) = shr x y + 1 := by conv=>lhs;unfold shr
                                                        rw[if_pos e]
    have:=aAr x y (by rw[e2]at J;simpa using J) (by rw[e2]at Y;simpa using Y);simp only[e2]
    simpa using this
  · have e2 : shr (a :: x) (b :: y) = 0 := by conv=>lhs;unfold shr
                                              rw[if_neg e]
    simp only[e2]
    simpa using e
theorem aCL:∀(a b:List UInt8),a.take (shr a b)=b.take (shr a b)
 | [],[]=>by simp[shr]
 | [],_ :: _=>by simp[shr]
 | _ :: _,[]=>by simp[shr]
 | a :: x,b :: y=>by
  by_cases e:a=b
  · have J : shr (a :: x) (b :: y) = shr x y + 1 := by conv=>lhs;unfold shr
                                                       rw[if_pos e]
    rw[J,List.take_succ_cons,List.take_succ_cons,aCL x y,e]
  · have J : shr (a :: x) (b :: y) = 0 := by conv=>lhs;unfold shr
                                             rw[if_neg e]
    rw[J];simp
def one(a x:List UInt8):List UInt8:=nb (shr a x)++(nb (x.length-shr a x)++x.drop (shr a x))
def yO(m:List (List UInt8))(k:Nat):List UInt8:=m.getD k []
def pv(m:List (List UInt8))(k:Nat):List UInt8:=if k=0 then [] else yO m (k-1)
theorem wP(m:List (List UInt8))(k:Nat)(h:k<m.length):yO m k=m[k]:=by unfold yO;simp[h]
theorem aFq(m:List (List UInt8))(k:Nat):pv m (k+1)=yO m k:=by unfold pv;rw[if_neg (by omega)];rfl
def pP(m:List (List UInt8)):Nat→List UInt8
 | 0=>nb m.length
 | k+1=>pP m k++one (pv m k) (yO m k)
theorem aIN(m:List (List UInt8))(k B:Nat)(h:∀x∈m,x.length≤B):(yO m k).length≤B:=by
 rcases Nat.lt_or_ge k m.length with J | J
 ·rw[wP m k J];exact h _ (aR J)
 ·unfold yO;rw[List.getD_eq_getElem?_getD,List.getElem?_eq_none J];simp
theorem aJw(a x:List UInt8)(X:Nat)(h:x.length≤X)(hX:X≤20000):(one a x).length≤X+10:=by
 have h1:=vJ a x;have Y:=lI (shr a x) (by omega);have J:=lI (x.length-shr a x) (by omega);unfold one;simp only[aF,List.length_drop];omega
theorem aIh(m:List (List UInt8))(X:Nat)(Y:m.length≤100000)(J:X≤20000)(h:∀x∈m,x.length≤X):∀k,(pP m k).length≤5+k * (X+10)
 | 0=>by have:=lI m.length (by omega);simpa[pP] using this
 | k+1=>by
  have h1:=aIh m X Y J h k;have h2:=aJw (pv m k) (yO m k) X (aIN m k _ h) J;show(pP m k++one (pv m k) (yO m k)).length≤_;rw[aF,Nat.succ_mul];omega
theorem aKE(m:List (List UInt8))(Y:m.length≤6000)(h:∀x∈m,x.length≤1000):∀k,k≤m.length→(pP m k).length≤40000000:=fun k hk=>by
 have h1:=aIh m 1000 (by omega) (by omega) h k;have J:k * (1000+10)≤6000 * (1000+10):=Nat.mul_le_mul_right _ (by omega);omega
theorem yN(l:List UInt8):(bs l).data.toList=l:=by simp[bs]
theorem aID(l:List UInt8):(bs l).size=l.length:=by simp[bs,ByteArray.size]
theorem aEI(S:List UInt8)(k:Nat)(h:k≤268435456):iK (S,0) (k:Int)=(S++nb k,0):=by
 unfold iK;rw[if_neg (by simp),if_neg (by omega)];rfl
theorem aHw(S x:List UInt8)(h:x.length≤200000):aG9 (S,0) (bs x)=(S++(nb x.length++x),0):=by
 unfold aG9;rw[if_neg (by simp),if_neg (by rw[aID];omega),aID,yN]
theorem aEn(x:List UInt8)(k:Nat):(bs x).extract k (bs x).size=bs (x.drop k):=by
 apply ByteArray.ext
 apply Array.ext'
 rw[ByteArray.data_extract,Array.toList_extract,List.extract_eq_take_drop,yN,yN,aID];rw[bE];rw[List.length_drop];omega
def upS(m:List (List UInt8))(x:List UInt8):Nat:=(m.takeWhile fun y=>decide (y<x)).length
theorem aD9:∀(m:List (List UInt8)) (x:List UInt8),m.Pairwise (fun a b=>a<b)→x∈m→upS m x=m.idxOf x
 | [],x,_,h=>by simp at h
 | y :: m,x,hp,h=>by
  have J:=List.pairwise_cons.1 hp;by_cases e:y=x
  ·subst e
   have:¬(y<y):=List.lt_irrefl y;unfold upS;simp[this]
  ·have hx:x∈m:=by rcases aM.1 h with h | h;exact absurd h.symm e;exact h
   have Y:=J.1 x hx;have ih:=aD9 m x J.2 hx;unfold upS at ih ⊢;simp only[List.takeWhile_cons,aC Y,if_true,aG];rw[List.idxOf_cons,show(y==x)=false by simpa using e,ih];rfl
theorem aGY(l:List (List UInt8)):(jN (fun a b:List UInt8=>a<b) l).Pairwise (fun a b=>a<b):=(gG mP l).1
theorem search_end(m:List (List UInt8))(x:List UInt8)(i:Nat)(hi:i≤m.length)(h1:∀j (Y:j<m.length),j<i→m[j]<x)(h2:∀j (Y:j<m.length),i≤j→¬m[j]<x):upS m x=i:=by
 unfold upS;have e:m.takeWhile (fun y=>decide (y<x))=m.take i:=by
  conv=>lhs;rw[←List.take_append_drop i m]
  rw[List.takeWhile_append_of_pos (by
   intro y hy;obtain⟨j,Y,rfl⟩:=List.mem_iff_getElem.1 hy;rw[List.getElem_take];rw[List.length_take]at Y
   exact aC (h1 j (by omega) (by omega)))]
  rcases hd:m.drop i with _ | ⟨z,r⟩
  ·simp
  ·have J:i<m.length:=by
    rcases Nat.lt_or_ge i m.length with h | h
    ·exact h
    ·rw[List.drop_of_length_le h]at hd;cases hd
   rw[bD J]at hd;injection hd with hz _;rw[List.takeWhile_cons_of_neg (by rw[←hz];simpa using h2 i J (aY _))];simp
 rw[e,List.length_take];omega
theorem aGX(m:List (List UInt8))(x:List UInt8)(hp:m.Pairwise (fun a b=>a<b))(i j:Nat)(hi:i<m.length)(hj:j<m.length)(Y:i≤j)(h:m[j]<x):m[i]<x:=by
 rcases Nat.lt_or_ge i j with J | J
 ·exact List.lt_trans (List.pairwise_iff_getElem.1 hp i j hi hj J) h
 ·have:i=j:=by omega
  subst this;exact h
theorem aMO(m:List (List UInt8))(x:List UInt8)(J:m.Pairwise (fun a b=>a<b)):(∃h:upS m x<m.length,m[upS m x] = x)↔x∈m:=by
 constructor
 ·rintro⟨h,e⟩;rw[←e];exact aR h
 ·intro h
  have e:=aD9 m x J h;have hl:=List.idxOf_lt_length_iff.2 h;refine⟨by omega,?_⟩;simp only[e];exact List.getElem_idxOf hl
end po
end Go.Proofs.YtdmmkjijgoiecaaGreatDoor
