import Derived.Test.YtdmmkjijgoiecaaGreatDoorB03
import Derived.Test.YtdmmkjijgoiecaaGreatDoorB05
set_option linter.all false
set_option maxHeartbeats 4000000
namespace Go.Proofs.YtdmmkjijgoiecaaGreatDoor
namespace po
open vr inn
def shr:List UInt8→List UInt8→Nat
 | a :: x,b :: y=>if a=b then shr x y+1 else 0
 | _,_=>0
theorem zL:∀a b,shr a b≤a.length
 | [],[]=>by simp[shr]
 | [],_ :: _=>by simp[shr]
 | _ :: _,[]=>by simp[shr]
 | a :: x,b :: y=>by
  unfold shr;split
  ·have:=zL x y;simp;omega
  ·simp
theorem qY:∀a b,shr a b≤b.length
 | [],[]=>by simp[shr]
 | [],_ :: _=>by simp[shr]
 | _ :: _,[]=>by simp[shr]
 | a :: x,b :: y=>by
  unfold shr;split
  ·have:=qY x y;simp;omega
  ·simp
theorem aFN:∀(a b:List UInt8) (k:Nat),k<shr a b→∀(J:k<a.length) (Y:k<b.length),a[k] = b[k]
 | [],[],k,h,J,_=>by simp at J
 | [],_ :: _,k,h,J,_=>by simp at J
 | _ :: _,[],k,h,_,Y=>by simp at Y
 | a :: x,b :: y,k,h,J,Y=>by
  unfold shr at h;split at h
  ·rename_i e
   cases k with
   | zero=>simpa using e
   | succ k=>simpa using aFN x y k (by omega) (by simpa using J) (by simpa using Y)
  ·omega
theorem aBw:∀(a b:List UInt8) (J:shr a b<a.length) (Y:shr a b<b.length),a[shr a b]≠b[shr a b]
 | [],[],J,_=>by simp at J
 | [],_ :: _,J,_=>by simp at J
 | _ :: _,[],_,Y=>by simp at Y
 | a :: x,b :: y,J,Y=>by
  by_cases e:a=b
  · have e2 : shr (a :: x) (b :: y) = shr x y + 1 := by conv=>lhs;unfold shr
                                                        rw[if_pos e]
    have:=aBw x y (by rw[e2]at J;simpa using J) (by rw[e2]at Y;simpa using Y)
    simp only[e2]
    simpa using this
  · have e2 : shr (a :: x) (b :: y) = 0 := by conv=>lhs;unfold shr
                                              rw[if_neg e]
    simp only[e2]
    simpa using e
theorem aEu:∀(a b:List UInt8),a.take (shr a b)=b.take (shr a b)
 | [],[]=>by simp[shr]
 | [],_ :: _=>by simp[shr]
 | _ :: _,[]=>by simp[shr]
 | a :: x,b :: y=>by
  by_cases e:a=b
  · have J : shr (a :: x) (b :: y) = shr x y + 1 := by conv=>lhs;unfold shr
                                                       rw[if_pos e]
    rw[J,List.take_succ_cons,List.take_succ_cons,aEu x y,e]
  · have J : shr (a :: x) (b :: y) = 0 := by conv=>lhs;unfold shr
                                             rw[if_neg e]
    rw[J];simp
def one(a x:List UInt8):List UInt8:=nb (shr a x)++(nb (x.length-shr a x)++x.drop (shr a x))
def at1(m:List (List UInt8))(k:Nat):List UInt8:=m.getD k []
def pv(m:List (List UInt8))(k:Nat):List UInt8:=if k=0 then [] else at1 m (k-1)
theorem oK(m:List (List UInt8))(k:Nat)(h:k<m.length):at1 m k=m[k]:=by unfold at1;simp[h]
theorem aAK(m:List (List UInt8))(k:Nat):pv m (k+1)=at1 m k:=by unfold pv;rw[if_neg (by omega)];rfl
def pP(m:List (List UInt8)):Nat→List UInt8
 | 0=>nb m.length
 | k+1=>pP m k++one (pv m k) (at1 m k)
theorem aC8(m:List (List UInt8))(k B:Nat)(h:∀x∈m,x.length≤B):(at1 m k).length≤B:=by
 rcases Nat.lt_or_ge k m.length with J | J
 ·rw[oK m k J];exact h _ (aR J)
 ·unfold at1;rw[List.getD_eq_getElem?_getD,List.getElem?_eq_none J];simp
theorem aLT(a x:List UInt8)(X:Nat)(h:x.length≤X)(J:X≤20000):(one a x).length≤X+10:=by
 have h1:=qY a x;have h2:=iM (shr a x) (by omega)
 have Y:=iM (x.length-shr a x) (by omega)
 unfold one;simp only[aF,List.length_drop];omega
theorem aFc(m:List (List UInt8))(X:Nat)(Y:m.length≤100000)(J:X≤20000)(h:∀x∈m,x.length≤X):∀k,(pP m k).length≤5+k * (X+10)
 | 0=>by have:=iM m.length (by omega);simpa[pP] using this
 | k+1=>by
  have h1:=aFc m X Y J h k;have h2:=aLT (pv m k) (at1 m k) X (aC8 m k _ h) J
  show(pP m k++one (pv m k) (at1 m k)).length≤_
  rw[aF,Nat.succ_mul];omega
theorem aNj(m:List (List UInt8))(J:m.length≤1000)(h:∀x∈m,x.length≤20000):∀k,k≤m.length→(pP m k).length≤40000000:=fun k Y=>by
 have h1:=aFc m 20000 (by omega) (by omega) h k
 have h2:k * (20000+10)≤1000 * (20000+10):=Nat.mul_le_mul_right _ (by omega)
 omega
theorem aDf(m:List (List UInt8))(J:m.length≤6000)(h:∀x∈m,x.length≤1000):∀k,k≤m.length→(pP m k).length≤40000000:=fun k Y=>by
 have h1:=aFc m 1000 (by omega) (by omega) h k
 have h2:k * (1000+10)≤6000 * (1000+10):=Nat.mul_le_mul_right _ (by omega)
 omega
theorem aAi(l:List UInt8):(bs l).data.toList=l:=by simp[bs]
theorem aKZ(l:List UInt8):(bs l).size=l.length:=by simp[bs,ByteArray.size]
theorem aGO(s:ByteArray):bs s.data.toList=s:=aJ4 s
theorem aFS(S:List UInt8)(k:Nat)(h:k≤268435456):iX (S,0) (k:Int)=(S++nb k,0):=by
 unfold iX;rw[if_neg (by simp),if_neg (by omega)]
 rfl
theorem aKA(S x:List UInt8)(h:x.length≤200000):aK3 (S,0) (bs x)=(S++(nb x.length++x),0):=by
 unfold aK3;rw[if_neg (by simp),if_neg (by rw[aKZ];omega),aKZ,aAi]
theorem yM(x:List UInt8)(k:Nat):(bs x).extract k (bs x).size=bs (x.drop k):=by
 apply ByteArray.ext
 apply Array.ext'
 rw[ByteArray.data_extract,Array.toList_extract,List.extract_eq_take_drop,aAi,aAi,aKZ];rw[bE];rw[List.length_drop];omega
def upS(m:List (List UInt8))(x:List UInt8):Nat:=(m.takeWhile fun y=>decide (y<x)).length
theorem aGm:∀(m:List (List UInt8)) (x:List UInt8),m.Pairwise (fun a b=>a<b)→x∈m→upS m x=m.idxOf x
 | [],x,_,h=>by simp at h
 | y :: m,x,hp,h=>by
  have J:=List.pairwise_cons.1 hp
  by_cases e:y=x
  ·subst e
   have:¬(y<y):=List.lt_irrefl y;unfold upS;simp[this]
  ·have hx:x∈m:=by rcases aM.1 h with h | h;exact absurd h.symm e;exact h
   have Y:=J.1 x hx;have ih:=aGm m x J.2 hx;unfold upS at ih ⊢;simp only[List.takeWhile_cons,aC Y,if_true,aG];rw[List.idxOf_cons,show(y==x)=false by simpa using e,ih]
   rfl
theorem aIe(l:List (List UInt8)):(kE (fun a b:List UInt8=>a<b) l).Pairwise (fun a b=>a<b):=(gQ nS l).1
theorem search_end(m:List (List UInt8))(x:List UInt8)(i:Nat)(hi:i≤m.length)(h1:∀j (Y:j<m.length),j<i→m[j]<x)(h2:∀j (Y:j<m.length),i≤j→¬m[j]<x):upS m x=i:=by
 unfold upS;have e:m.takeWhile (fun y=>decide (y<x))=m.take i:=by
  conv=>lhs;rw[←List.take_append_drop i m]
  rw[List.takeWhile_append_of_pos (by
   intro y hy;obtain⟨j,Y,rfl⟩:=List.mem_iff_getElem.1 hy;rw[List.getElem_take];rw[List.length_take]at Y
   exact aC (h1 j (by omega) (by omega)))]
  rcases hd:m.drop i with _ | ⟨z,r⟩
  ·simp
  ·have J:i<m.length:=by
    rcases Nat.lt_or_ge i m.length with h | h
    ·exact h
    ·rw[List.drop_of_length_le h]at hd;cases hd
   rw[bD J]at hd;injection hd with hz _;rw[List.takeWhile_cons_of_neg (by rw[←hz];simpa using h2 i J (aY _))]
   simp
 rw[e,List.length_take];omega
theorem aH0(m:List (List UInt8))(x:List UInt8)(Y:m.Pairwise (fun a b=>a<b))(i j:Nat)(hi:i<m.length)(hj:j<m.length)(a0:i≤j)(h:m[j]<x):m[i]<x:=by
 rcases Nat.lt_or_ge i j with J | J
 ·exact List.lt_trans (List.pairwise_iff_getElem.1 Y i j hi hj J) h
 ·have:i=j:=by omega
  subst this;exact h
theorem aOO(m:List (List UInt8))(x:List UInt8)(J:m.Pairwise (fun a b=>a<b)):(∃h:upS m x<m.length,m[upS m x] = x)↔x∈m:=by
 constructor
 ·rintro⟨h,e⟩;rw[←e];exact aR h
 ·intro h
  have e:=aGm m x J h;have hl:=List.idxOf_lt_length_iff.2 h;refine⟨by omega,?_⟩
  simp only[e];exact List.getElem_idxOf hl
end po
end Go.Proofs.YtdmmkjijgoiecaaGreatDoor
