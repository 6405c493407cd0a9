import Derived.Laws.DeepStrings4
import Derived.Test.YtdmmkjijgoiecaaGreatDoorY09
set_option linter.all false
set_option maxHeartbeats 4000000
namespace Go.Proofs.YtdmmkjijgoiecaaGreatDoor
open Lib(hid)
set_option maxRecDepth 100000
namespace vr
open RowKit mem
theorem aIZ(W:World)(s:ByteArray)(q a:Nat)(h:q+a≤s.size):(Instr.slice 9 (.string s) (some (.int .i64 (q:Int))) (some (.int .i64 ((q:Int)+(a:Int)))) none).run Tryz.prog W=.ok (.string (s.extract q (q+a))) W:=by
 rw[run_slice_string_if W 9 s .i64 .i64 _ _ Tryz.underlying9,if_pos (by omega),if_pos (by omega)];rw[show((q:Int)+(a:Int)).toNat=q+a from by omega,Int.toNat_natCast]
structure RR(w:World)(r:Nat)(s:ByteArray)(p:Nat)(e:Int):Prop where
 box:bV w r 81 #[.string s,.int .i64 (p:Int),.int .i64 e]
theorem RR.setP{w:World}{r:Nat}{s:ByteArray}{p:Nat}{e:Int}(h:RR w r s p e)(q:Nat):RR (w.setCell ⟨r,1,none⟩ (.int .i64 (q:Int))) r s q e:=⟨h.box.put 1 _⟩
theorem RR.setE{w:World}{r:Nat}{s:ByteArray}{p:Nat}{e:Int}(h:RR w r s p e)(d:Int):RR (w.setCell ⟨r,2,none⟩ (.int .i64 d)) r s p d:=⟨h.box.put 2 _⟩
theorem RR.drew{w:World}{r:Nat}{s:ByteArray}{p:Nat}{e:Int}(h:RR w r s p e):RR w.drew r s p e:=⟨h.box⟩
def sN(w:World)(r:Nat)(s:ByteArray)(v:Value)(p:Nat)(er:Int)(e:Ending)(w':World):Prop:=e=.returned v∧RR w' r s p er∧Fr [r] w w'
theorem jZ(w:World)(r:Nat)(s:ByteArray)(p:Nat)(er:Int)(h:RR w r s p er)(hs:s.size≤maxLen)(hp:p≤s.size) :
 Calls Tryz.prog 48 #[.pointer (some ⟨r,0,none⟩)] w (sN w r s (.int .i64 (nV s p er)) (nP s p er) (nE s p er)):=by
 have c0:w.cell? ⟨r,0,none⟩=some (.string s):=h.box.cell 0;have c1:w.cell? ⟨r,1,none⟩=some (.int .i64 (p:Int)):=h.box.cell 1;have c2:w.cell? ⟨r,2,none⟩=some (.int .i64 er):=h.box.cell 2;have f1:=h.box.free 1;have f2:=h.box.free 2;have H:=hid h;clear h;have K0:=fun w'=>wK s p w' hs hp
 unfold aFy at K0;have K:Hid (∀w',Calls Tryz.prog 103 #[.string s,.int .i64 (p:Int)] w' fun e a0=>e=.returned (.tuple #[.int .i64 (ct s p).1,.int .i64 (pl p (ct s p)),.int .i64 (ct s p).2.2])∧w'=a0):=hid K0;clear K0;by_cases hE:er=0
 ·subst hE
  have Y:nV s p 0=(ct s p).1:=if_neg (by simp);have e2:nP s p 0=p+(ct s p).2.1:=if_neg (by simp);have e3:nE s p 0=((ct s p).2.2:Nat):=if_neg (by simp);rw[Y,e2,e3];clear Y e2 e3;by_cases hc:(ct s p).2.2=0
  ·have e4:pl p (ct s p)=p+(ct s p).2.1:=if_pos hc
   rw[hc,e4]at K;rw[hc];clear e4 hc;generalize (ct s p).1=a at *;generalize p+(ct s p).2.1=q at *;have hS:=hid (H.out.drew.setP q);have hF:=hid ((Fr.refl [r] w).drew.setCell (p:=⟨r,1,none⟩) (Or.inl (by simp)) (.int .i64 (q:Int)));clear H hs hp;go_enter Tryz.func48,Tryz.ntmps48;go_wp2_with fail
   go_region_held3 (fun w'=>w'.cell? ⟨r,0,none⟩=some (.string s)∧w'.cell? ⟨r,1,none⟩=some (.int .i64 (p:Int)))
    (first | exact⟨c0,c1⟩ | go_keep)
    ((go_at_call 103;refine(K.out _).mono ?_;rintro e w2 ⟨rfl,rfl⟩))
   go_wp2_with fail;go_ret;exact⟨rfl,hS.out,hF.out⟩
  ·have e4:pl p (ct s p)=0:=if_neg hc
   have J:=yG s p hc;rw[e4,J.1]at K;rw[J.1,J.2,Nat.add_zero];clear e4 J;generalize (ct s p).2.2=c at *;have d1:((c:Int) != 0)=true:=by simp;omega
   have hS:=hid (H.out.drew.setE (c:Int));have hF:=hid ((Fr.refl [r] w).drew.setCell (p:=⟨r,2,none⟩) (Or.inl (by simp)) (.int .i64 (c:Int)));clear H hs hp hc;go_enter Tryz.func48,Tryz.ntmps48;go_wp2_with fail
   go_region_held3 (fun w'=>w'.cell? ⟨r,0,none⟩=some (.string s)∧w'.cell? ⟨r,1,none⟩=some (.int .i64 (p:Int)))
    (first | exact⟨c0,c1⟩ | go_keep)
    ((go_at_call 103;refine(K.out _).mono ?_;rintro e w2 ⟨rfl,rfl⟩))
   go_wp2_with fail;go_ret;exact⟨rfl,hS.out,hF.out⟩
 ·have Y:nV s p er=0:=if_pos hE
  have e2:nP s p er=p:=if_pos hE;have e3:nE s p er=er:=if_pos hE;rw[Y,e2,e3];have d0:(er != 0)=true:=by simp;exact hE
  clear Y e2 e3 hp hs;generalize (ct s p).1=a at *;generalize pl p (ct s p)=b at *;generalize (ct s p).2.2=c at *;go_enter Tryz.func48,Tryz.ntmps48;go_wp2_with fail
  go_region_held3 (fun w'=>w'.cell? ⟨r,0,none⟩=some (.string s)∧w'.cell? ⟨r,1,none⟩=some (.int .i64 (p:Int)))
   (first | exact⟨c0,c1⟩ | go_keep)
   ((go_at_call 103;refine(K.out _).mono ?_;rintro e w2 ⟨rfl,rfl⟩))
  go_wp2_with fail;go_ret;exact⟨rfl,H.out.drew,(Fr.refl _ _).drew⟩
theorem aER(w:World)(r:Nat)(s:ByteArray)(p:Nat)(er:Int)(h:RR w r s p er)(hs:s.size≤maxLen)(hp:p≤s.size) :
 Calls Tryz.prog 50 #[.pointer (some ⟨r,0,none⟩)] w (sN w r s (.string (tx s p er).1) (tx s p er).2.1 (tx s p er).2.2):=by
 have c1:w.cell? ⟨r,1,none⟩=some (.int .i64 (p:Int)):=h.box.cell 1;have K0:=jZ w r s p er h hs hp;unfold sN at K0;have K:=hid K0;clear K0 h;by_cases hE:er=0
 ·subst hE
  have e1:nV s p 0=(ct s p).1:=if_neg (by simp);have e2:nP s p 0=p+(ct s p).2.1:=if_neg (by simp);have e3:nE s p 0=((ct s p).2.2:Nat):=if_neg (by simp);rw[e1,e2,e3]at K;clear e1 e2 e3;by_cases hc:(ct s p).2.2=0
  ·have a3:=aFj s p hp hc
   rw[hc]at K;by_cases hn:s.size-(p+(ct s p).2.1)<(ct s p).1
   ·have hv:tx s p 0=(⟨#[]⟩,p,1):=by unfold tx;rw[if_neg (by simp),if_neg (by simp[hc]),if_pos hn]
    rw[hv];clear hv hc;generalize (ct s p).1=a at *;generalize p+(ct s p).2.1=q at *;have d1:decide ((s.size:Int)-(q:Int)<(a:Int))=true:=aC (by omega);unfold maxLen at hs;go_enter Tryz.func50,Tryz.ntmps50;go_wp2_with fail;refine K.out.mono ?_;rintro e w2 ⟨rfl,J,Y⟩;have g0:w2.cell? ⟨r,0,none⟩=some (.string s):=J.box.cell 0;have g1:w2.cell? ⟨r,1,none⟩=some (.int .i64 (q:Int)):=J.box.cell 1;have g2:w2.cell? ⟨r,2,none⟩=some (.int .i64 0):=J.box.cell 2;have k1:=J.box.free 1;have k2:=J.box.free 2;have hS:=hid ((J.drew.setP p).setE 1);have hF:=hid (((Y.drew).setCell (p:=⟨r,1,none⟩) (Or.inl (by simp)) (.int .i64 (p:Int))).setCell (p:=⟨r,2,none⟩) (Or.inl (by simp)) (.int .i64 1));clear J Y c1 K;go_wp2_with fail;go_region;go_wp2_with fail;go_ret;exact⟨rfl,hS.out,hF.out⟩
   ·have hv:tx s p 0=(s.extract (p+(ct s p).2.1) (p+(ct s p).2.1+(ct s p).1),p+(ct s p).2.1+(ct s p).1,0):=by unfold tx;rw[if_neg (by simp),if_neg (by simp[hc]),if_neg hn]
    rw[hv];clear hv hc;generalize (ct s p).1=a at *;generalize p+(ct s p).2.1=q at *;have d1:decide ((s.size:Int)-(q:Int)<(a:Int))=false:=aB (by omega);have a1:q+a≤s.size:=by omega
    unfold maxLen at hs;have a4:=fun W=>aIZ W s q a a1
    have a2:IntKind.i64.wrap (q:Int)=(q:Int):=IntWalk.i64_in _ (by omega);go_enter Tryz.func50,Tryz.ntmps50;go_wp2_with fail;refine K.out.mono ?_;rintro e w2 ⟨rfl,J,Y⟩;have g0:w2.cell? ⟨r,0,none⟩=some (.string s):=J.box.cell 0;have g1:w2.cell? ⟨r,1,none⟩=some (.int .i64 (q:Int)):=J.box.cell 1;have g2:w2.cell? ⟨r,2,none⟩=some (.int .i64 0):=J.box.cell 2;have k1:=J.box.free 1;have hS:=hid ((J.drew.setP (q+a)).drew);have hF:=hid (((Y.drew).setCell (p:=⟨r,1,none⟩) (Or.inl (by simp)) (.int .i64 ((q+a:Nat):Int))).drew);clear J Y c1 K;go_wp2_with fail;go_region;go_wp2_with fail;go_region;go_wp2_with fail;go_ret;exact⟨rfl,hS.out,hF.out⟩
  ·have a0:=yG s p hc
   have hv:tx s p 0=((⟨#[]⟩:ByteArray),p,(((ct s p).2.2:Nat):Int)):=by unfold tx;rw[if_neg (by simp),if_pos hc]
   rw[hv];rw[a0.1,a0.2,Nat.add_zero]at K;clear hv a0;generalize (ct s p).2.2=c at *;have d2:((c:Int) != 0)=true:=by simp;omega
   go_enter Tryz.func50,Tryz.ntmps50;go_wp2_with fail;refine K.out.mono ?_;rintro e w2 ⟨rfl,J,Y⟩;have g2:w2.cell? ⟨r,2,none⟩=some (.int .i64 (c:Int)):=J.box.cell 2;have hS:=hid J;have hF:=hid Y;clear J Y c1 K;go_wp2_with fail;go_ret;exact⟨rfl,hS.out,hF.out⟩
 ·have hv:tx s p er=(⟨#[]⟩,p,er):=by unfold tx;rw[if_pos hE]
  rw[hv];have e1:nV s p er=0:=if_pos hE;have e2:nP s p er=p:=if_pos hE;have e3:nE s p er=er:=if_pos hE;rw[e1,e2,e3]at K;have d0:(er != 0)=true:=by simp;exact hE
  clear hv hp hs e1 e2 e3;go_enter Tryz.func50,Tryz.ntmps50;go_wp2_with fail;refine K.out.mono ?_;rintro e w2 ⟨rfl,J,Y⟩;have g2:w2.cell? ⟨r,2,none⟩=some (.int .i64 er):=J.box.cell 2;have hS:=hid J;have hF:=hid Y;clear J Y c1 K;go_wp2_with fail;go_ret;exact⟨rfl,hS.out,hF.out⟩
theorem aJz(w:World)(r:Nat)(s:ByteArray)(p:Nat)(er d:Int)(h:RR w r s p er) :
 Calls Tryz.prog 160 #[.pointer (some ⟨r,0,none⟩),.int .i64 d] w (sN w r s (.tuple #[]) p (fE er d)):=by
 have c2:w.cell? ⟨r,2,none⟩=some (.int .i64 er):=h.box.cell 2;have f2:=h.box.free 2;have H:=hid h;clear h;by_cases Y:er=0
 ·subst Y
  have J:fE 0 d=d:=if_pos rfl;rw[J];have hS:=hid (H.out.setE d);have hF:=hid ((Fr.refl [r] w).setCell (p:=⟨r,2,none⟩) (Or.inl (by simp)) (.int .i64 d));clear J;go_enter Tryz.func160,Tryz.ntmps160;go_wp2_with fail;go_end0;exact⟨rfl,hS.out,hF.out⟩
 ·have J:fE er d=er:=if_neg Y
  rw[J];have d0:(er==0)=false:=by simp;exact Y
  clear J f2;go_enter Tryz.func160,Tryz.ntmps160;go_wp2_with fail;go_end0;exact⟨rfl,H.out,Fr.refl _ _⟩
theorem aEL(w:World)(r:Nat)(s:ByteArray)(p:Nat)(er:Int)(h:RR w r s p er) :
 Calls Tryz.prog 51 #[.pointer (some ⟨r,0,none⟩)] w (sN w r s (.tuple #[.int .i64 (p:Int),.int .i64 (dE s p er)]) p er):=by
 have c0:w.cell? ⟨r,0,none⟩=some (.string s):=h.box.cell 0;have c1:w.cell? ⟨r,1,none⟩=some (.int .i64 (p:Int)):=h.box.cell 1;have c2:w.cell? ⟨r,2,none⟩=some (.int .i64 er):=h.box.cell 2;have H:=hid h;clear h;by_cases Y:er=0
 ·subst Y
  by_cases hp:p<s.size
  ·have J:dE s p 0=6:=if_pos ⟨rfl,hp⟩
   rw[J];have d1:decide ((p:Int)<(s.size:Int))=true:=aC (by omega);clear J;go_enter Tryz.func51,Tryz.ntmps51;go_wp2_with fail;go_region;go_wp2_with fail;go_ret2;exact⟨rfl,H.out.drew,(Fr.refl _ _).drew⟩
  ·have J:dE s p 0=0:=if_neg (by omega)
   rw[J];have d1:decide ((p:Int)<(s.size:Int))=false:=aB (by omega);clear J;go_enter Tryz.func51,Tryz.ntmps51;go_wp2_with fail;go_region;go_wp2_with fail;go_region;go_wp2_with fail;go_ret2;exact⟨rfl,H.out.drew.drew,(Fr.refl _ _).drew.drew⟩
 ·have J:dE s p er=er:=if_neg (fun h=>Y h.1)
  rw[J];have d0:(er==0)=false:=by simp;exact Y
  clear J;go_enter Tryz.func51,Tryz.ntmps51;go_wp2_with fail;go_region;go_wp2_with fail;go_region;go_wp2_with fail;go_ret2;exact⟨rfl,H.out.drew.drew,(Fr.refl _ _).drew.drew⟩
end vr
end Go.Proofs.YtdmmkjijgoiecaaGreatDoor
