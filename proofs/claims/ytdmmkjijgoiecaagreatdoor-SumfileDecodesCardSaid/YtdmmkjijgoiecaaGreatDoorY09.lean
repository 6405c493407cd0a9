import Derived.Deep.RegionHeld3
import Derived.Test.YtdmmkjijgoiecaaGreatDoorY04
set_option linter.all false
set_option maxHeartbeats 4000000
namespace Go.Proofs.YtdmmkjijgoiecaaGreatDoor
open Lib(hid)
set_option maxRecDepth 100000
namespace vr
open RowKit mem
def iK(st:List UInt8×Int)(n:Int):List UInt8×Int:=if st.2≠0 then st else if n<0∨268435456<n then(st.1,2) else(st.1++nb n.toNat,0)
def aG9(st:List UInt8×Int)(s:ByteArray):List UInt8×Int:=if st.2≠0 then st else if 200000<(s.size:Int) then(st.1,9) else(st.1++(nb s.size++s.data.toList),0)
def qJ(st:List UInt8×Int):List UInt8:=if st.2≠0 then [] else st.1
theorem yE:∀(l:List UInt8) (i n:Nat),((cntF i n l).2.2=0→(cntF i n l).2.1≤i+l.length∧(cntF i n l).1≤268435456)∧((cntF i n l).2.2≠0→(cntF i n l).1=0∧(cntF i n l).2.1=0)
 | [],i,n=>by simp[cntF]
 | b :: r,i,n=>by
  unfold cntF;split
  ·simp
  ·split
   ·simp
   ·split
    ·simp;omega
    ·split
     ·simp
     ·have:=yE r (i+1) (n+b.toNat % 128 * 2 ^ (7 * i))
      refine⟨fun h=>?_,this.2⟩;have J:=this.1 h;simp only[aG];omega
def ct(s:ByteArray)(p:Nat):Nat×Nat×Nat:=cnt (s.data.toList.drop p)
theorem aFj(s:ByteArray)(p:Nat)(J:p≤s.size)(h:(ct s p).2.2=0):p+(ct s p).2.1≤s.size∧(ct s p).1≤268435456:=by
 have:=(yE (s.data.toList.drop p) 0 0).1 h;rw[List.length_drop,nK]at this;unfold ct cnt;omega
theorem yG(s:ByteArray)(p:Nat)(h:(ct s p).2.2≠0):(ct s p).1=0∧(ct s p).2.1=0:=(yE (s.data.toList.drop p) 0 0).2 h
theorem aE5(s:ByteArray)(p:Nat)(J:p≤s.size):p+(ct s p).2.1≤s.size:=by
 by_cases h:(ct s p).2.2=0
 ·exact(aFj s p J h).1
 ·rw[(yG s p h).2];exact J
theorem extract_drop(s:ByteArray)(p:Nat):(s.extract p s.size).data.toList=s.data.toList.drop p:=by
 rw[ByteArray.data_extract,Array.toList_extract];rw[List.extract_eq_take_drop];rw[bE];rw[List.length_drop,nK];omega
structure RD(w:World)(r:Nat)(s:ByteArray)(p:Nat)(e:Int):Prop where
 box:bV w r 196 #[.string s,.int .i64 (p:Int),.int .i64 e]
theorem RD.setP{w:World}{r:Nat}{s:ByteArray}{p:Nat}{e:Int}(h:RD w r s p e)(q:Nat):RD (w.setCell ⟨r,1,none⟩ (.int .i64 (q:Int))) r s q e:=⟨h.box.put 1 _⟩
theorem RD.setE{w:World}{r:Nat}{s:ByteArray}{p:Nat}{e:Int}(h:RD w r s p e)(d:Int):RD (w.setCell ⟨r,2,none⟩ (.int .i64 d)) r s p d:=⟨h.box.put 2 _⟩
theorem RD.drew{w:World}{r:Nat}{s:ByteArray}{p:Nat}{e:Int}(h:RD w r s p e):RD w.drew r s p e:=⟨h.box⟩
def nV(s:ByteArray)(p:Nat)(e:Int):Nat:=if e≠0 then 0 else(ct s p).1
def nP(s:ByteArray)(p:Nat)(e:Int):Nat:=if e≠0 then p else p+(ct s p).2.1
def nE(s:ByteArray)(p:Nat)(e:Int):Int:=if e≠0 then e else((ct s p).2.2:Nat)
def jE(w:World)(r:Nat)(s:ByteArray)(v:Value)(p:Nat)(er:Int)(e:Ending)(w':World):Prop:=e=.returned v∧RD w' r s p er∧Fr [r] w w'
theorem gM(w:World)(r:Nat)(s:ByteArray)(p:Nat)(er:Int)(h:RD w r s p er)(hs:s.size≤maxLen)(hp:p≤s.size) :
 Calls Tryz.prog 109 #[.pointer (some ⟨r,0,none⟩)] w (jE w r s (.int .i64 (nV s p er)) (nP s p er) (nE s p er)):=by
 have c0:w.cell? ⟨r,0,none⟩=some (.string s):=h.box.cell 0;have c1:w.cell? ⟨r,1,none⟩=some (.int .i64 (p:Int)):=h.box.cell 1;have c2:w.cell? ⟨r,2,none⟩=some (.int .i64 er):=h.box.cell 2;have H:=hid h;clear h;by_cases hE:er=0
 ·subst hE
  have J:nV s p 0=(ct s p).1:=if_neg (by simp);have Y:nP s p 0=p+(ct s p).2.1:=if_neg (by simp);have e3:nE s p 0=((ct s p).2.2:Nat):=if_neg (by simp);rw[J,Y,e3];clear J Y e3;have a1:=aE5 s p hp;have K:=hid (fun w'=>fP (s.extract p s.size) w' (by simp;omega));rw[extract_drop]at K;have K:Hid (∀w',Calls Tryz.prog 155 #[.string (s.extract p s.size)] w' fun e a0=>e=.returned (.tuple #[.int .i64 (ct s p).1,.int .i64 (ct s p).2.1,.int .i64 (ct s p).2.2])∧w'=a0):=K;generalize (ct s p).1=a at *;generalize (ct s p).2.1=b at *;generalize (ct s p).2.2=c at *;have hS:=hid ((H.out.drew.setE (c:Int)).setP (p+b));have hF:=hid (((Fr.refl [r] w).drew.setCell (p:=⟨r,2,none⟩) (Or.inl (by simp)) (.int .i64 (c:Int))).setCell (p:=⟨r,1,none⟩) (Or.inl (by simp)) (.int .i64 ((p+b:Nat):Int)));have f1:=H.out.box.free 1;have f2:=H.out.box.free 2;unfold maxLen at hs;clear H;go_enter Tryz.func109,Tryz.ntmps109
  go_wp2_with fail
  go_region_held3 (fun w'=>w'.cell? ⟨r,0,none⟩=some (.string s)∧w'.cell? ⟨r,1,none⟩=some (.int .i64 (p:Int)))
   (first | exact⟨c0,c1⟩ | go_keep)
   ((go_at_call 155;refine(K.out _).mono ?_;rintro e w2 ⟨rfl,rfl⟩))
  go_wp2_with fail;go_ret;exact⟨rfl,hS.out,hF.out⟩
 ·have J:nV s p er=0:=if_pos hE
  have Y:nP s p er=p:=if_pos hE;have e3:nE s p er=er:=if_pos hE;rw[J,Y,e3];have d0:(er != 0)=true:=by simp;exact hE
  clear J Y e3 hp hs;go_enter Tryz.func109,Tryz.ntmps109;go_wp2_with fail;go_ret;exact⟨rfl,H.out,Fr.refl _ _⟩
theorem aBO(s:ByteArray)(w:World):Calls Tryz.prog 94 #[.string s] w fun e w'=>e=.returned (.pointer (some ⟨w.heap.size,0,none⟩))∧w'=w.alloc (.cells #[.string s,.int .i64 0,.int .i64 0] 196):=by
 go_enter Tryz.func94,Tryz.ntmps94;go_wp2_with fail;go_ret;exact⟨rfl,rfl⟩
def fE(er d:Int):Int:=if er=0 then d else er
theorem rQ(w:World)(r:Nat)(s:ByteArray)(p:Nat)(er d:Int)(h:RD w r s p er) :
 Calls Tryz.prog 154 #[.pointer (some ⟨r,0,none⟩),.int .i64 d] w (jE w r s (.tuple #[]) p (fE er d)):=by
 have c2:w.cell? ⟨r,2,none⟩=some (.int .i64 er):=h.box.cell 2;have f2:=h.box.free 2;have H:=hid h;clear h;by_cases Y:er=0
 ·subst Y
  have J:fE 0 d=d:=if_pos rfl;rw[J];have hS:=hid (H.out.setE d);have hF:=hid ((Fr.refl [r] w).setCell (p:=⟨r,2,none⟩) (Or.inl (by simp)) (.int .i64 d));clear J;go_enter Tryz.func154,Tryz.ntmps154;go_wp2_with fail;go_end0;exact⟨rfl,hS.out,hF.out⟩
 ·have J:fE er d=er:=if_neg Y
  rw[J];have d0:(er==0)=false:=by simp;exact Y
  clear J f2;go_enter Tryz.func154,Tryz.ntmps154;go_wp2_with fail;go_end0;exact⟨rfl,H.out,Fr.refl _ _⟩
def dE(s:ByteArray)(p:Nat)(er:Int):Int:=if er=0∧p<s.size then 6 else er
theorem oV(w:World)(r:Nat)(s:ByteArray)(p:Nat)(er:Int)(h:RD w r s p er) :
 Calls Tryz.prog 93 #[.pointer (some ⟨r,0,none⟩)] w (jE w r s (.tuple #[.int .i64 (p:Int),.int .i64 (dE s p er)]) p er):=by
 have c0:w.cell? ⟨r,0,none⟩=some (.string s):=h.box.cell 0;have c1:w.cell? ⟨r,1,none⟩=some (.int .i64 (p:Int)):=h.box.cell 1;have c2:w.cell? ⟨r,2,none⟩=some (.int .i64 er):=h.box.cell 2;have H:=hid h;clear h;by_cases Y:er=0
 ·subst Y
  by_cases hp:p<s.size
  ·have J:dE s p 0=6:=if_pos ⟨rfl,hp⟩
   rw[J];have d1:decide ((p:Int)<(s.size:Int))=true:=aC (by omega);clear J;go_enter Tryz.func93,Tryz.ntmps93;go_wp2_with fail;go_region;go_wp2_with fail;go_ret2;exact⟨rfl,H.out.drew,(Fr.refl _ _).drew⟩
  ·have J:dE s p 0=0:=if_neg (by omega)
   rw[J];have d1:decide ((p:Int)<(s.size:Int))=false:=aB (by omega);clear J;go_enter Tryz.func93,Tryz.ntmps93;go_wp2_with fail;go_region;go_wp2_with fail;go_region;go_wp2_with fail;go_ret2;exact⟨rfl,H.out.drew.drew,(Fr.refl _ _).drew.drew⟩
 ·have J:dE s p er=er:=if_neg (fun h=>Y h.1)
  rw[J];have d0:(er==0)=false:=by simp;exact Y
  clear J;go_enter Tryz.func93,Tryz.ntmps93;go_wp2_with fail;go_region;go_wp2_with fail;go_region;go_wp2_with fail;go_ret2;exact⟨rfl,H.out.drew.drew,(Fr.refl _ _).drew.drew⟩
def tx(s:ByteArray)(p:Nat)(e:Int):ByteArray×Nat×Int:=
 if e≠0 then(⟨#[]⟩,p,e)
 else if(ct s p).2.2≠0 then(⟨#[]⟩,p,((ct s p).2.2:Nat))
 else if s.size-(p+(ct s p).2.1)<(ct s p).1 then(⟨#[]⟩,p,1)
 else(s.extract (p+(ct s p).2.1) (p+(ct s p).2.1+(ct s p).1),p+(ct s p).2.1+(ct s p).1,0)
theorem aC5(s:ByteArray)(q n:Nat)(h:q+n≤s.size):(s.extract q s.size).extract 0 n=s.extract q (q+n):=by
 rw[ByteArray.extract_extract];congr 1;omega
theorem rE(s:ByteArray)(q:Nat)(_h:q≤s.size):(s.extract q s.size).size=s.size-q:=by
 rw[ByteArray.size_extract];omega
theorem aFh(w:World)(r:Nat)(s:ByteArray)(p:Nat)(er:Int)(h:RD w r s p er)(hs:s.size≤maxLen)(hp:p≤s.size) :
 Calls Tryz.prog 92 #[.pointer (some ⟨r,0,none⟩)] w (jE w r s (.string (tx s p er).1) (tx s p er).2.1 (tx s p er).2.2):=by
 have c0:w.cell? ⟨r,0,none⟩=some (.string s):=h.box.cell 0;have c1:w.cell? ⟨r,1,none⟩=some (.int .i64 (p:Int)):=h.box.cell 1;have c2:w.cell? ⟨r,2,none⟩=some (.int .i64 er):=h.box.cell 2;have f1:=h.box.free 1;have f2:=h.box.free 2;have H:=hid h;clear h;by_cases hE:er=0
 ·subst hE
  have a0:=aE5 s p hp;have K:=hid (fun w'=>fP (s.extract p s.size) w' (by simp;omega));rw[extract_drop]at K;have K:Hid (∀w',Calls Tryz.prog 155 #[.string (s.extract p s.size)] w' fun e a2=>e=.returned (.tuple #[.int .i64 (ct s p).1,.int .i64 (ct s p).2.1,.int .i64 (ct s p).2.2])∧w'=a2):=K;by_cases hc:(ct s p).2.2=0
  ·by_cases hn:s.size-(p+(ct s p).2.1)<(ct s p).1
   ·have hv:tx s p 0=(⟨#[]⟩,p,1):=by unfold tx;rw[if_neg (by simp),if_neg (by simp[hc]),if_pos hn]
    rw[hv];rw[hc]at K;clear hv hc;generalize (ct s p).1=a at *;generalize (ct s p).2.1=b at *;have hS:=hid (H.out.drew.drew.setE 1);have hF:=hid ((Fr.refl [r] w).drew.drew.setCell (p:=⟨r,2,none⟩) (Or.inl (by simp)) (.int .i64 1));have d1:decide (((s.extract (p+b) s.size).size:Int)<(a:Int))=true:=aC (by rw[rE s _ a0];omega);have J:=rE s (p+b) a0;have J:=hid J;unfold maxLen at hs;clear H;go_enter Tryz.func92,Tryz.ntmps92;go_wp2_with fail
    go_region_held3 (fun w'=>w'.cell? ⟨r,0,none⟩=some (.string s)∧w'.cell? ⟨r,1,none⟩=some (.int .i64 (p:Int)))
     (first | exact⟨c0,c1⟩ | go_keep)
     ((go_at_call 155;refine(K.out _).mono ?_;rintro e w2 ⟨rfl,rfl⟩))
    go_wp2_with fail;go_region;go_wp2_with fail;go_ret;exact⟨rfl,hS.out,hF.out⟩
   ·have a4:=aFj s p hp hc
    have hv:tx s p 0=(s.extract (p+(ct s p).2.1) (p+(ct s p).2.1+(ct s p).1),p+(ct s p).2.1+(ct s p).1,0):=by unfold tx;rw[if_neg (by simp),if_neg (by simp[hc]),if_neg hn]
    rw[hv];rw[hc]at K;clear hv hc;generalize (ct s p).1=a at *;generalize (ct s p).2.1=b at *;have hS:=hid (H.out.drew.drew.setP (p+b+a));have hF:=hid ((Fr.refl [r] w).drew.drew.setCell (p:=⟨r,1,none⟩) (Or.inl (by simp)) (.int .i64 ((p+b+a:Nat):Int)));have J:=rE s (p+b) a0;have d1:decide (((s.extract (p+b) s.size).size:Int)<(a:Int))=false:=aB (by omega);have a3:(a:Int)≤((s.extract (p+b) s.size).size:Int):=by omega
    have J:=hid J;have hex:=hid (aC5 s (p+b) a (by omega));have a1:Hid (((p:Int)+((b:Int)+(a:Int)))=((p+b+a:Nat):Int)):=hid (by omega);unfold maxLen at hs;clear H;go_enter Tryz.func92,Tryz.ntmps92;go_wp2_with fail
    go_region_held3 (fun w'=>w'.cell? ⟨r,0,none⟩=some (.string s)∧w'.cell? ⟨r,1,none⟩=some (.int .i64 (p:Int)))
     (first | exact⟨c0,c1⟩ | go_keep)
     ((go_at_call 155;refine(K.out _).mono ?_;rintro e w2 ⟨rfl,rfl⟩))
    go_wp2_with fail;go_region;go_wp2_with fail;go_ret;refine⟨?_,?_,?_⟩
    ·rw[←hex.out];rfl
    ·have:=hS.out
     rw[←a1.out]at this;exact this
    ·have:=hF.out
     rw[←a1.out]at this;exact this
  ·have Y:=yG s p hc
   have hv:tx s p 0=((⟨#[]⟩:ByteArray),p,(((ct s p).2.2:Nat):Int)):=by unfold tx;rw[if_neg (by simp),if_pos hc]
   rw[hv];rw[Y.1,Y.2]at K;clear hv Y a0;generalize (ct s p).2.2=c at *;have hS:=hid (H.out.drew.drew.setE (c:Int));have hF:=hid ((Fr.refl [r] w).drew.drew.setCell (p:=⟨r,2,none⟩) (Or.inl (by simp)) (.int .i64 (c:Int)));have d1:((c:Int)==0)=false:=by simp;omega
   have d2:((c:Int) != 0)=true:=by simp;omega
   unfold maxLen at hs;clear H;go_enter Tryz.func92,Tryz.ntmps92;go_wp2_with fail
   go_region_held3 (fun w'=>w'.cell? ⟨r,0,none⟩=some (.string s)∧w'.cell? ⟨r,1,none⟩=some (.int .i64 (p:Int)))
    (first | exact⟨c0,c1⟩ | go_keep)
    ((go_at_call 155;refine(K.out _).mono ?_;rintro e w2 ⟨rfl,rfl⟩))
   go_wp2_with fail;go_region;go_wp2_with fail;go_ret;exact⟨rfl,hS.out,hF.out⟩
 ·have hv:tx s p er=(⟨#[]⟩,p,er):=by unfold tx;rw[if_pos hE]
  rw[hv];have d0:(er != 0)=true:=by simp;exact hE
  clear hv hp hs;go_enter Tryz.func92,Tryz.ntmps92;go_wp2_with fail;go_ret;exact⟨rfl,H.out,Fr.refl _ _⟩
end vr
end Go.Proofs.YtdmmkjijgoiecaaGreatDoor
