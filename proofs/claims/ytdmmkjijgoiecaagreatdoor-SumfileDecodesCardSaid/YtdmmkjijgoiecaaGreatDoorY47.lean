import Derived.Test.YtdmmkjijgoiecaaGreatDoorY46
set_option linter.all false
set_option maxHeartbeats 4000000
namespace Go.Proofs.YtdmmkjijgoiecaaGreatDoor
open Lib(hid)
set_option maxRecDepth 100000
namespace sf
open RowKit Go.Sort Shelf mem vr po
def aF0:ByteArray:=⟨#[119,101,102,116]⟩
theorem aFn{t:ByteArray}(h:4≤t.size):kZ t=((t.extract 0 4).data.toList==uK):=by unfold kZ;rw[aC h,Bool.true_and]
theorem aIb{t:ByteArray}(h:¬4≤t.size):kZ t=false:=by unfold kZ;rw[aB h,Bool.false_and]
theorem xG(y:ByteArray)(q:Bool)(h:(y.data.toList==uK)=q):(y.toList==[119,101,102,116])=q∧(y.data==aF0.data)=q:=by
 have J:y.toList=y.data.toList:=Lib.toList_data y;have Y:(y.data=aF0.data)↔(y.data.toList=uK):=⟨fun h=>by rw[h];rfl,fun h=>Array.ext' h⟩;refine⟨by rw[J];exact h,?_⟩;rw[←h,Bool.eq_iff_iff,beq_iff_eq,beq_iff_eq];exact Y
theorem aCT(t:ByteArray)(h:4≤t.size)(W:World):(Instr.slice 9 (.string t) none (some (.int .i64 4)) none).run Tryz.prog W=.ok (.string (t.extract 0 4)) W:=
 run_slice_string_h (P:=Tryz.prog) W 9 t Tryz.underlying9 .i64 4 (by omega) (by omega)
theorem aAI(t:ByteArray)(h:4≤t.size)(W:World):(Instr.slice 9 (.string t) (some (.int .i64 4)) none none).run Tryz.prog W=.ok (.string (bX t)) W:=
 run_slice_string_l (P:=Tryz.prog) W 9 t Tryz.underlying9 .i64 4 (by omega) (by omega)
theorem aIC(t:ByteArray)(w:World):Calls Tryz.prog 193 #[.string t,.string ⟨#[119,101,102,116]⟩] w fun e w'=>e=.returned (.bool (kZ t))∧w'=w:=by
 by_cases Y:4≤t.size
 ·have e1:decide ((4:Int)≤(t.size:Int))=true:=aC (by omega)
  have hs:=fun W=>aCT t Y W
  rw[aFn Y];generalize t.extract 0 4=y at *;rcases J:(y.data.toList==uK)with _ | _
  ·obtain⟨q1,q2⟩:=xG y _ J
   unfold aF0 at q2;clear J;go_enter Tryz.func193,Tryz.ntmps193;go_wp2_with fail;go_ret;exact⟨rfl,rfl⟩
  ·obtain⟨q1,q2⟩:=xG y _ J
   unfold aF0 at q2;clear J;go_enter Tryz.func193,Tryz.ntmps193;go_wp2_with fail;go_ret;exact⟨rfl,rfl⟩
 ·have e1:decide ((4:Int)≤(t.size:Int))=false:=aB (by omega)
  rw[aIb Y];clear Y;go_enter Tryz.func193,Tryz.ntmps193;go_wp2_with fail;go_ret;exact⟨rfl,rfl⟩
theorem aEM(t:ByteArray)(w:World):Calls Tryz.prog 47 #[.string t] w fun e w'=>e=.returned (.bool (kZ t))∧w'=w:=by
 by_cases Y:4≤t.size
 ·have e1:decide ((4:Int)≤(t.size:Int))=true:=aC (by omega)
  have hs:=fun W=>aCT t Y W
  rw[aFn Y];generalize t.extract 0 4=y at *;rcases J:(y.data.toList==uK)with _ | _
  ·obtain⟨q1,q2⟩:=xG y _ J
   unfold aF0 at q2;clear J;go_enter Tryz.func47,Tryz.ntmps47;go_wp2_with fail;go_ret;exact⟨rfl,rfl⟩
  ·obtain⟨q1,q2⟩:=xG y _ J
   unfold aF0 at q2;clear J;go_enter Tryz.func47,Tryz.ntmps47;go_wp2_with fail;go_ret;exact⟨rfl,rfl⟩
 ·have e1:decide ((4:Int)≤(t.size:Int))=false:=aB (by omega)
  rw[aIb Y];clear Y;go_enter Tryz.func47,Tryz.ntmps47;go_wp2_with fail;go_ret;exact⟨rfl,rfl⟩
def aEm(t:ByteArray):ByteArray:=if kZ t=true then bX t else t
theorem aAi{t:ByteArray}(h:kZ t=false):aEm t=t:=by unfold aEm;rw[h];rfl
theorem pE{t:ByteArray}(h:kZ t=true):aEm t=bX t:=by unfold aEm;rw[h];rfl
theorem aAw{t:ByteArray}(h:kZ t=true):4≤t.size:=by
 unfold kZ at h;rw[Bool.and_eq_true,bJ]at h;exact h.1
theorem aHU(t:ByteArray)(w:World):Calls Tryz.prog 161 #[.string t,.string ⟨#[119,101,102,116]⟩] w fun e w'=>e=.returned (.tuple #[.string (aEm t),.bool (kZ t)])∧w'=w:=by
 have K:=hid (aIC t w);rcases hb:kZ t with _ | _
 ·rw[aAi hb]
  rw[hb]at K;clear hb;go_enter Tryz.func161,Tryz.ntmps161;go_wp2_with fail;refine K.out.mono ?_;rintro e J ⟨rfl,rfl⟩;clear K;go_wp2_with fail;go_ret2;exact⟨rfl,rfl⟩
 ·rw[pE hb]
  have hs:=fun W=>aAI t (aAw hb) W
  rw[hb]at K;clear hb;generalize bX t=y at *;go_enter Tryz.func161,Tryz.ntmps161;go_wp2_with fail;refine K.out.mono ?_;rintro e J ⟨rfl,rfl⟩;clear K;go_wp2_with fail;go_ret2;exact⟨rfl,rfl⟩
theorem aJA(t:ByteArray)(w:World):Calls Tryz.prog 108 #[.string t,.string ⟨#[119,101,102,116]⟩] w fun e w'=>e=.returned (.tuple #[.string (aEm t),.bool (kZ t)])∧w'=w:=by
 have K:=hid (aHU t w);generalize aEm t=y at *;generalize kZ t=q at *;go_enter Tryz.func108,Tryz.ntmps108;go_wp2_with fail;refine K.out.mono ?_;rintro e J ⟨rfl,rfl⟩;clear K;go_wp2_with fail;go_ret2;exact⟨rfl,rfl⟩
def gT(t:ByteArray):Int:=if kZ t=false then 5 else nE (bX t) 0 0
def aF7(t:ByteArray)(w:World)(e:Ending)(w':World):Prop:=
 (gT t=0∧∃r,e=.returned (.tuple #[.pointer (some ⟨r,0,none⟩),.int .i64 (nV (bX t) 0 0),.int .i64 0])∧RD w' r (bX t) (nP (bX t) 0 0) 0∧w.heap.size≤r∧Below w.heap.size w w') ∨
 (gT t≠0∧e=.returned (.tuple #[.pointer none,.int .i64 0,.int .i64 (gT t)])∧Below w.heap.size w w')
theorem zI{t:ByteArray}(h:kZ t=false):gT t=5:=by unfold gT;rw[if_pos h]
theorem tO{t:ByteArray}(h:kZ t=true):gT t=nE (bX t) 0 0:=by unfold gT;rw[if_neg (by rw[h];simp)]
theorem xN(t:ByteArray):(bX t).size≤t.size:=by
 unfold bX;rw[ByteArray.size_extract];omega
theorem aBB(t:ByteArray)(w:World)(hs:t.size≤maxLen):Calls Tryz.prog 54 #[.string t] w (aF7 t w):=by
 have KC:=hid (aJA t w);have R0:=hid (Below.refl w.heap.size w);rcases hb:kZ t with _ | _
 ·have hE:Hid (aF7 t w (.returned (.tuple #[.pointer none,.int .i64 0,.int .i64 5])) w):=hid (Or.inr ⟨by rw[zI hb];decide,by rw[zI hb],R0.out⟩)
  rw[aAi hb,hb]at KC;clear hb;go_enter Tryz.func54,Tryz.ntmps54;go_wp2_with fail;refine KC.out.mono ?_;rintro e Y ⟨rfl,rfl⟩;clear KC;go_wp2_with fail;go_ret3;exact hE.out
 ·rw[pE hb,hb]at KC
  have a6:(bX t).size≤maxLen:=aZ (xN t) hs;have a2:Hid (∀r w',nE (bX t) 0 0=0→RD w' r (bX t) (nP (bX t) 0 0) 0→w.heap.size≤r→Below w.heap.size w w'→aF7 t w (.returned (.tuple #[.pointer (some ⟨r,0,none⟩),.int .i64 (nV (bX t) 0 0),.int .i64 0])) w'):=hid (fun r w' h0 a b c=>Or.inl ⟨by rw[tO hb];exact h0,r,rfl,a,b,c⟩);have J:Hid (∀w',nE (bX t) 0 0≠0→Below w.heap.size w w'→aF7 t w (.returned (.tuple #[.pointer none,.int .i64 0,.int .i64 (nE (bX t) 0 0)])) w'):=hid (fun w' h0 c=>Or.inr ⟨by rw[tO hb];exact h0,by rw[tO hb],c⟩);clear hb;generalize bX t=S at *;have KN:=hid (aBO S w);have HW:Hid (RD (w.alloc (.cells #[.string S,.int .i64 0,.int .i64 0] 196)) w.heap.size S 0 0∧Below w.heap.size w (w.alloc (.cells #[.string S,.int .i64 0,.int .i64 0] 196))):=hid ⟨⟨bV.new w _ _⟩,R0.out.alloc (aY _) _⟩;generalize a8:w.alloc (.cells #[.string S,.int .i64 0,.int .i64 0] 196)=W1 at *
  have KM:=hid (gM W1 w.heap.size S 0 0 HW.out.1 a6 (bA _));have KD:=hid (fun(w':World) (p:Nat) (er:Int) (h:RD w' w.heap.size S p er)=>oV w' w.heap.size S p er h);have HF:Hid (∀Y,Fr [w.heap.size] W1 Y→Below w.heap.size w Y):=hid (fun Y f=>HW.out.2.trans (f.below (by simp) HW.out.2.size));have HT:Hid (∀Y w3,Fr [w.heap.size] W1 Y→Fr [w.heap.size] Y w3→Fr [w.heap.size] W1 w3):=hid (fun Y w3 a b=>a.trans b (fun x hx=>Or.inl hx) (fun x hx=>Or.inl hx));unfold jE at KM KD;clear hs a6 HW R0;by_cases hE:nE S 0 0=0
  ·obtain⟨a7,_⟩:=aCQ (bA S.size) hE
   have a3:=hid (fun r w'=>a2.out r w' hE);have q0:(((nP S 0 0:Nat):Int)==0)=false:=by rw[bI];omega
   rw[hE]at KM;clear a2 J hE a7;generalize nP S 0 0=p1 at *;generalize nV S 0 0=v at *;generalize hr:w.heap.size=r at *;go_enter Tryz.func54,Tryz.ntmps54;go_wp2_with fail;refine KC.out.mono ?_;rintro e Y ⟨rfl,rfl⟩;clear KC;go_wp2_with fail;refine KN.out.mono ?_;rintro e w3 ⟨rfl,rfl⟩;clear KN;go_wp2_with fail;refine KM.out.mono ?_;rintro e w4 ⟨rfl,h4,f4⟩;have H4:=hid h4;have F4:=hid f4;have K5:=hid (KD.out w4 p1 0 h4);clear KM KD h4 f4;go_wp2_with fail;refine K5.out.mono ?_;rintro e w5 ⟨rfl,h5,f5⟩;have HE:=hid (a3.out r w5 h5 (by omega) (HF.out _ (HT.out _ _ F4.out f5)));clear h5 f5 K5 H4 F4 a3 HF HT;go_wp2_with fail;go_ret3;exact HE.out
  ·have a5:=(aBp hE).1
   have a0:=hid (fun w'=>J.out w' hE);have a4:dE S 0 (nE S 0 0)=nE S 0 0:=by unfold dE;rw[if_neg (fun h=>hE h.1)]
   rw[a5]at KM;have a1:=hid (fun(w':World) (h:RD w' w.heap.size S 0 (nE S 0 0))=>KD.out w' 0 (nE S 0 0) h);rw[a4]at a1;clear a2 J hE a5 KD a4;generalize nE S 0 0=er at *;generalize nV S 0 0=v at *;generalize hr:w.heap.size=r at *;go_enter Tryz.func54,Tryz.ntmps54;go_wp2_with fail;refine KC.out.mono ?_;rintro e Y ⟨rfl,rfl⟩;clear KC;go_wp2_with fail;refine KN.out.mono ?_;rintro e w3 ⟨rfl,rfl⟩;clear KN;go_wp2_with fail;refine KM.out.mono ?_;rintro e w4 ⟨rfl,h4,f4⟩;have F4:=hid f4;have K5:=hid (a1.out w4 h4);clear KM a1 h4 f4;go_wp2_with fail;refine K5.out.mono ?_;rintro e w5 ⟨rfl,h5,f5⟩;have HE:=hid (a0.out w5 (HF.out _ (HT.out _ _ F4.out f5)));clear h5 f5 K5 F4 a0 HF HT;go_wp2_with fail;go_ret3;exact HE.out
def aCe(t:ByteArray):Nat:=if gT t=0 then nV (bX t) 0 0 else 0
def aB1(t:ByteArray):Bool:=gT t==0
def aGd(t:ByteArray)(w:World)(e:Ending)(w':World):Prop:=e=.returned (.tuple #[.int .i64 (aCe t),.bool (aB1 t)])∧Below w.heap.size w w'
theorem aDr(t:ByteArray)(w:World)(hs:t.size≤maxLen):Calls Tryz.prog 14 #[.string t] w (aGd t w):=by
 have K:=hid (aBB t w hs);have J:Hid (gT t=0→aCe t=nV (bX t) 0 0∧aB1 t=true):=hid (fun h=>by unfold aCe aB1;rw[if_pos h,h];exact⟨rfl,rfl⟩);have Y:Hid (gT t≠0→aCe t=0∧aB1 t=false):=hid (fun h=>by unfold aCe aB1;rw[if_neg h];exact⟨rfl,by simpa using h⟩);obtain⟨V,hV⟩:∃V,Hid (V=aCe t):=⟨_,hid rfl⟩;obtain⟨B,hB⟩:∃B,Hid (B=aB1 t):=⟨_,hid rfl⟩;unfold aGd;rw[←hV.out,←hB.out]at J Y ⊢;unfold aF7 at K;go_enter Tryz.func14,Tryz.ntmps14;go_wp2_with fail;refine K.out.mono ?_;rintro e w2 (⟨h0,r,rfl,a0,hr,b2⟩ | ⟨h0,rfl,b2⟩)
 ·obtain⟨a1,a2⟩:=J.out h0
  have B2:=hid b2;replace a1:=hid a1;replace a2:=hid a2;clear K J Y h0 a0 hr b2;go_wp2_with fail;go_ret2;exact⟨by rw[a1.out,a2.out];rfl,B2.out⟩
 ·obtain⟨a1,a2⟩:=Y.out h0
  have B2:=hid b2;replace a1:=hid a1;replace a2:=hid a2;have q0:(gT t==0)=false:=by simpa using h0
  clear K J Y h0 b2;go_wp2_with fail;go_ret2;exact⟨by rw[a1.out,a2.out];rfl,B2.out⟩
theorem aB8(t:ByteArray)(w:World)(hs:t.size≤maxLen):Calls Tryz.prog 15 #[.string t] w (aGd t w):=by
 have KB:=hid (aEM t w);have R0:=hid (Below.refl w.heap.size w);rcases hb:kZ t with _ | _
 ·have hE:Hid (aGd t w (.returned (.tuple #[.int .i64 0,.bool false])) w):=hid ⟨by unfold aCe aB1;rw[zI hb];rfl,R0.out⟩
  rw[hb]at KB;clear hb;go_enter Tryz.func15,Tryz.ntmps15;go_wp2_with fail;refine KB.out.mono ?_;rintro e Y ⟨rfl,rfl⟩;clear KB;go_wp2_with fail;go_ret2;exact hE.out
 ·have a0:(bX t).size≤maxLen:=aZ (xN t) hs
  have a1:=fun W=>aAI t (aAw hb) W
  have hE:Hid (∀w',Below w.heap.size w w'→aGd t w (.returned (.tuple #[.int .i64 (nV (bX t) 0 0),.bool (nE (bX t) 0 0==0)])) w'):=hid (fun w' c=>⟨by
   unfold aCe aB1;rw[tO hb];by_cases h:nE (bX t) 0 0=0
   ·rw[if_pos h]
   ·rw[if_neg h,(aBp h).2],c⟩)
  rw[hb]at KB;clear hb;generalize bX t=S at *;have HW:Hid (RR (w.alloc (.cells #[.string S,.int .i64 0,.int .i64 0] 81)) w.heap.size S 0 0∧Below w.heap.size w (w.alloc (.cells #[.string S,.int .i64 0,.int .i64 0] 81))):=hid ⟨⟨bV.new w _ _⟩,R0.out.alloc (aY _) _⟩;obtain⟨W1,J⟩:∃W1,Hid (W1=w.alloc (.cells #[.string S,.int .i64 0,.int .i64 0] 81)):=⟨_,hid rfl⟩;rw[←J.out]at HW;have KM:=hid (jZ W1 w.heap.size S 0 0 HW.out.1 a0 (bA _));have HF:Hid (∀Y,Fr [w.heap.size] W1 Y→Below w.heap.size w Y):=hid (fun Y f=>HW.out.2.trans (f.below (by simp) HW.out.2.size));unfold sN at KM;clear hs a0 HW R0;generalize nE S 0 0=er at *;generalize nP S 0 0=p1 at *;generalize nV S 0 0=v at *;go_enter Tryz.func15,Tryz.ntmps15;go_wp2_with fail;refine KB.out.mono ?_;rintro e Y ⟨rfl,rfl⟩;clear KB;go_upto_region 4 with fail;rw[←J.out];go_wp2_with fail;refine KM.out.mono ?_;rintro e w3 ⟨rfl,h3,f3⟩
  have c2:w3.cell? ⟨Y.heap.size,2,none⟩=some (.int .i64 er):=h3.box.cell 2;have B3:=hid (HF.out _ f3);clear KM HF h3 f3 J;go_wp2_with fail;go_quiet (fail);have B4:=hid (hE.out _ (eZ B3.out B3.out.size nq));clear B3 hE;go_wp2_with fail;go_ret2;exact B4.out
def aEB(t:ByteArray)(w:World)(e:Ending)(w':World):Prop:=
 (jT t=0∧∃b A cap,e=.returned (.tuple #[.pointer (some ⟨b,0,none⟩),.string (iE t),.int .i64 0])∧Pl w' b A cap (fZ t)∧Below w.heap.size w w') ∨
 (jT t≠0∧e=.returned (.tuple #[.pointer none,.string ⟨#[]⟩,.int .i64 (jT t)])∧Below w.heap.size w w')
theorem aBG{t:ByteArray}(h:gT t≠0):jT t=gT t:=by
 unfold jT gT at *;split at h
 ·rename_i hb
  rw[if_pos hb,if_pos hb]
 ·rename_i hb
  rw[if_neg hb,if_neg hb,if_pos h]
theorem aCc{t:ByteArray}(h:gT t=0)(hv:nV (bX t) 0 0≠1):jT t=5:=by
 unfold jT;unfold gT at h;split at h
 ·simp at h
 ·rename_i hb
  rw[if_neg hb,if_neg (by simpa using h),if_pos hv]
theorem aAh{t:ByteArray}(h:gT t=0)(hv:nV (bX t) 0 0=1)(J:(kD (bX t) (nP (bX t) 0 0)).2.2.1≠0):jT t=(kD (bX t) (nP (bX t) 0 0)).2.2.1:=by
 unfold jT;unfold gT at h;split at h
 ·simp at h
 ·rename_i hb
  rw[if_neg hb,if_neg (by simpa using h),if_neg (by simpa using hv),if_pos J]
theorem aAb{t:ByteArray}(h:gT t=0)(hv:nV (bX t) 0 0=1)(J:(kD (bX t) (nP (bX t) 0 0)).2.2.1=0):jT t=dE (bX t) (vr.tx (bX t) (kD (bX t) (nP (bX t) 0 0)).1 0).2.1 (vr.tx (bX t) (kD (bX t) (nP (bX t) 0 0)).1 0).2.2:=by
 unfold jT;unfold gT at h;split at h
 ·simp at h
 ·rename_i hb
  rw[if_neg hb,if_neg (by simpa using h),if_neg (by simpa using hv),if_neg (by simpa using J)]
theorem aHJ{t:ByteArray}(h:gT t=0):nE (bX t) 0 0=0:=by
 unfold gT at h;split at h
 ·simp at h
 ·exact h
theorem aHl(t:ByteArray)(w:World)(hs:t.size≤200000000):Calls Tryz.prog 43 #[.string t] w (aEB t w):=by
 have K:=hid (aBB t w (by unfold maxLen;omega));unfold aF7 at K;have ad:(bX t).size≤200000000:=aZ (xN t) hs;have a3:Hid (∀w',gT t≠0→Below w.heap.size w w'→aEB t w (.returned (.tuple #[.pointer none,.string ⟨#[]⟩,.int .i64 (gT t)])) w'):=hid (fun w' h c=>Or.inr ⟨by rw[aBG h];exact h,by rw[aBG h],c⟩);have a4:Hid (∀w',gT t=0→nV (bX t) 0 0≠1→Below w.heap.size w w'→aEB t w (.returned (.tuple #[.pointer none,.string ⟨#[]⟩,.int .i64 5])) w'):=hid (fun w' h hv c=>Or.inr ⟨by rw[aCc h hv];decide,by rw[aCc h hv],c⟩);have a0:Hid (∀w',gT t=0→nV (bX t) 0 0=1→(kD (bX t) (nP (bX t) 0 0)).2.2.1≠0→Below w.heap.size w w'→aEB t w (.returned (.tuple #[.pointer none,.string ⟨#[]⟩,.int .i64 (kD (bX t) (nP (bX t) 0 0)).2.2.1])) w'):=hid (fun w' h hv hp c=>Or.inr ⟨by rw[aAh h hv hp];exact hp,by rw[aAh h hv hp],c⟩);have Y:Hid (∀w' b A cap,gT t=0→nV (bX t) 0 0=1→(kD (bX t) (nP (bX t) 0 0)).2.2.1=0→dE (bX t) (vr.tx (bX t) (kD (bX t) (nP (bX t) 0 0)).1 0).2.1 (vr.tx (bX t) (kD (bX t) (nP (bX t) 0 0)).1 0).2.2=0→Pl w' b A cap (kD (bX t) (nP (bX t) 0 0)).2.2.2→Below w.heap.size w w'→aEB t w (.returned (.tuple #[.pointer (some ⟨b,0,none⟩),.string (vr.tx (bX t) (kD (bX t) (nP (bX t) 0 0)).1 0).1,.int .i64 0])) w'):=hid (fun w' b A cap h hv hp hd pl c=>Or.inl ⟨by rw[aAb h hv hp];exact hd,b,A,cap,rfl,pl,c⟩)
 have J:Hid (∀w',gT t=0→nV (bX t) 0 0=1→(kD (bX t) (nP (bX t) 0 0)).2.2.1=0→dE (bX t) (vr.tx (bX t) (kD (bX t) (nP (bX t) 0 0)).1 0).2.1 (vr.tx (bX t) (kD (bX t) (nP (bX t) 0 0)).1 0).2.2≠0→Below w.heap.size w w'→aEB t w (.returned (.tuple #[.pointer none,.string ⟨#[]⟩,.int .i64 (dE (bX t) (vr.tx (bX t) (kD (bX t) (nP (bX t) 0 0)).1 0).2.1 (vr.tx (bX t) (kD (bX t) (nP (bX t) 0 0)).1 0).2.2)])) w'):=hid (fun w' h hv hp hd c=>Or.inr ⟨by rw[aAb h hv hp];exact hd,by rw[aAb h hv hp],c⟩);have a5:Hid (gT t=0→nP (bX t) 0 0≤(bX t).size):=hid (fun h=>(aCQ (bA _) (aHJ h)).2);clear hs;generalize bX t=S at *;go_enter Tryz.func43,Tryz.ntmps43;go_wp2_with fail;refine K.out.mono ?_;rintro e w2 (⟨h0,r,rfl,a6,hr,b2⟩ | ⟨h0,rfl,b2⟩);rotate_left
 ·have q0:(gT t != 0)=true:=by simpa using h0
  have HE:=hid (a3.out w2 h0 b2);clear K a3 a4 a0 Y J a5 h0 b2;generalize gT t=er at *;go_wp2_with fail;go_ret3;exact HE.out
 by_cases hv:nV S 0 0=1;rotate_left
 ·have q1:(((nV S 0 0:Nat):Int) != 1)=true:=by rw[bne_iff_ne];omega
  have HE:=hid (a4.out w2 h0 hv b2);clear K a3 a4 a0 Y J a5 h0 b2 hv a6 hr;generalize nV S 0 0=v at *;go_wp2_with fail;go_ret3;exact HE.out
 have q1:(((nV S 0 0:Nat):Int) != 1)=false:=by rw[hv];rfl
 have hq:=a5.out h0;have KP:=hid (po.qA w w2 r S (nP S 0 0) a6 b2 hr ad hq);unfold kM at KP
 have a1:Hid (∀p' er m,kD S (nP S 0 0)=(p',er,0,m)→er=0∧p'≤S.size):=hid (fun p' er m h=>by
  have:=aAg S _ hq p' er m h
  exact⟨this.1,this.2.1⟩)
 replace a0:=hid (fun w'=>a0.out w' h0 hv);replace Y:=hid (fun w' b A cap=>Y.out w' b A cap h0 hv);replace J:=hid (fun w'=>J.out w' h0 hv);clear K a3 a4 a5 h0 hv hq b2 a6 hr;generalize nV S 0 0=v at *;generalize kD S (nP S 0 0)=R at *;obtain⟨p1,aa,d,m⟩:=R;dsimp only at a0 Y J KP;go_wp2_with fail;refine KP.out.mono ?_;rintro e w3 (⟨h0,b,A,cap,rfl,pr⟩ | ⟨h0,rfl,_,b3⟩);rotate_left
 ·have q2:(d != 0)=true:=by simpa using h0
  have HE:=hid (a0.out w3 h0 b3);clear KP a0 Y J a1 h0 b3;go_wp2_with fail;go_ret3;exact HE.out
 subst h0;obtain⟨rfl,a8⟩:=a1.out p1 aa m rfl;replace Y:=hid (fun w' b A cap=>Y.out w' b A cap rfl);replace J:=hid (fun w'=>J.out w' rfl);have a7:=hid pr;have KT:=hid (aFh w3 r S p1 0 pr.rd (by unfold maxLen;omega) a8);have KD:=hid (fun(w':World) (p:Nat) (er:Int) (h:RD w' r S p er)=>oV w' r S p er h);unfold jE at KT KD;clear KP a0 a1 a8 pr;generalize vr.tx S p1 0=X at *;obtain⟨x,p2,e2⟩:=X;dsimp only at Y J KT;go_wp2_with fail;refine KT.out.mono ?_;rintro e w4 ⟨rfl,h4,f4⟩;have a9:=hid (a7.out.step h4 f4);have K5:=hid (KD.out w4 p2 e2 h4);clear KT KD h4 f4 a7;generalize dE S p2 e2=d2 at *;go_wp2_with fail;refine K5.out.mono ?_;rintro e w5 ⟨rfl,h5,f5⟩;have a2:=hid (a9.out.step h5 f5);clear K5 h5 f5 a9;by_cases hd:d2=0
 ·have q3:(d2 != 0)=false:=by simpa using hd
  have HE:=hid (Y.out w5 b A cap hd a2.out.pl a2.out.on);clear Y J hd a2;go_wp2_with fail;go_ret3;exact HE.out
 ·have q3:(d2 != 0)=true:=by simpa using hd
  have HE:=hid (J.out w5 hd a2.out.on);clear Y J hd a2;go_wp2_with fail;go_ret3;exact HE.out
end sf
set_option maxHeartbeats 8000000
namespace sf
open RowKit Go.Sort Shelf mem vr po inn sy
open re (MU SU gH Ev dF fQ nS oL kJ zC RDP aGi su0 uZ TP seven zJ)
open nm (jI bR)
theorem aAN(b:ByteArray)(w:World)(hs:b.size+3≤maxLen)(a9:jI w):Calls Tryz.prog 12 #[.string b] w (RDP (oP b) (gU b) w):=by
 obtain⟨W,a5⟩:∃W,Hid (W=w.alloc (.cells #[.string ⟨#[]⟩,.slice none 0 0,.slice none 0 0,.slice none 0 0,.slice none 0 0,.slice none 0 0,.slice none 0 0] 29)):=⟨_,hid rfl⟩;have b0:Below w.heap.size w W:=by rw[a5.out];exact(Below.refl _ _).alloc (aY _) _
 have B:bV W w.heap.size 29 #[.string ⟨#[]⟩,.slice none 0 0,.slice none 0 0,.slice none 0 0,.slice none 0 0,.slice none 0 0,.slice none 0 0]:=by rw[a5.out];exact bV.new _ _ _
 obtain⟨bx,a3⟩:∃bx,Hid (bx=w.heap.size):=⟨_,hid rfl⟩;rw[←a3.out]at B;have am:bx<W.heap.size:=B.lt;have HB:Hid (∀w2,Below W.heap.size W w2→bV w2 bx 29 #[.string ⟨#[]⟩,.slice none 0 0,.slice none 0 0,.slice none 0 0,.slice none 0 0,.slice none 0 0,.slice none 0 0]):=hid (fun w2 h=>B.kept (Fr.of_below h []) (by simp));have HT:Hid (∀w2,Below W.heap.size W w2→jI w2):=hid (fun w2 h=>bR (bR a9 b0) h)
 have FZ:Hid (∀(w2:World) (d:Int),Below W.heap.size W w2→gU b=d→d≠0→bV (((((((w2.setCell ⟨bx,0,none⟩ (.string ⟨#[]⟩)).setCell ⟨bx,1,none⟩ (.slice none 0 0)).setCell ⟨bx,2,none⟩ (.slice none 0 0)).setCell ⟨bx,3,none⟩ (.slice none 0 0)).setCell ⟨bx,4,none⟩ (.slice none 0 0)).setCell ⟨bx,5,none⟩ (.slice none 0 0)).setCell ⟨bx,6,none⟩ (.slice none 0 0)) bx 29 #[.string ⟨#[]⟩,.slice none 0 0,.slice none 0 0,.slice none 0 0,.slice none 0 0,.slice none 0 0,.slice none 0 0]∧RDP (oP b) (gU b) w (.returned (.tuple #[.agg #[.string ⟨#[]⟩,.slice none 0 0,.slice none 0 0,.slice none 0 0,.slice none 0 0,.slice none 0 0,.slice none 0 0],.int .i64 d])) (((((((w2.setCell ⟨bx,0,none⟩ (.string ⟨#[]⟩)).setCell ⟨bx,1,none⟩ (.slice none 0 0)).setCell ⟨bx,2,none⟩ (.slice none 0 0)).setCell ⟨bx,3,none⟩ (.slice none 0 0)).setCell ⟨bx,4,none⟩ (.slice none 0 0)).setCell ⟨bx,5,none⟩ (.slice none 0 0)).setCell ⟨bx,6,none⟩ (.slice none 0 0))):=hid (fun w2 d h hd h0=>by
  obtain⟨k1,k2,k3⟩:=seven w2 w bx 29 _ _ _ _ _ _ _ (.string ⟨#[]⟩) (.slice none 0 0) (.slice none 0 0) (.slice none 0 0) (.slice none 0 0) (.slice none 0 0) (.slice none 0 0) (HB.out w2 h) (b0.trans (h.mono b0.size)) (by rw[a3.out];exact aY _);refine⟨k1,?_⟩
  exact aEY hd h0 k2)
 have FS:Hid (∀(w2:World) (u:MU),Below W.heap.size W w2→gU b=0→u.su=kJ (fZ (cr.bQ b)) (iE (cr.bQ b))→(∀w3,Fr [bx] w2 w3→gH w3 u)→bV (((((((w2.setCell ⟨bx,0,none⟩ (.string u.name)).setCell ⟨bx,1,none⟩ (.slice u.gA u.gives.length u.gc)).setCell ⟨bx,2,none⟩ (.slice u.wA u.wants.length u.wc)).setCell ⟨bx,3,none⟩ (.slice u.kA u.keeps.length u.kc)).setCell ⟨bx,4,none⟩ (.slice u.s.oA u.s.os.length u.s.oc)).setCell ⟨bx,5,none⟩ (.slice u.s.fA u.s.fs.length u.s.fc)).setCell ⟨bx,6,none⟩ (.slice u.s.cA u.s.cs.length u.s.cc)) bx 29 #[.string u.name,.slice u.gA u.gives.length u.gc,.slice u.wA u.wants.length u.wc,.slice u.kA u.keeps.length u.kc,.slice u.s.oA u.s.os.length u.s.oc,.slice u.s.fA u.s.fs.length u.s.fc,.slice u.s.cA u.s.cs.length u.s.cc]∧RDP (oP b) (gU b) w (.returned (.tuple #[.agg #[.string u.name,.slice u.gA u.gives.length u.gc,.slice u.wA u.wants.length u.wc,.slice u.kA u.keeps.length u.kc,.slice u.s.oA u.s.os.length u.s.oc,.slice u.s.fA u.s.fs.length u.s.fc,.slice u.s.cA u.s.cs.length u.s.cc],.int .i64 0])) (((((((w2.setCell ⟨bx,0,none⟩ (.string u.name)).setCell ⟨bx,1,none⟩ (.slice u.gA u.gives.length u.gc)).setCell ⟨bx,2,none⟩ (.slice u.wA u.wants.length u.wc)).setCell ⟨bx,3,none⟩ (.slice u.kA u.keeps.length u.kc)).setCell ⟨bx,4,none⟩ (.slice u.s.oA u.s.os.length u.s.oc)).setCell ⟨bx,5,none⟩ (.slice u.s.fA u.s.fs.length u.s.fc)).setCell ⟨bx,6,none⟩ (.slice u.s.cA u.s.cs.length u.s.cc))):=hid (fun w2 u h h0 hu hm=>by
  obtain⟨k1,k2,k3⟩:=seven w2 w bx 29 _ _ _ _ _ _ _ (.string u.name) (.slice u.gA u.gives.length u.gc) (.slice u.wA u.wants.length u.wc) (.slice u.kA u.keeps.length u.kc) (.slice u.s.oA u.s.os.length u.s.oc) (.slice u.s.fA u.s.fs.length u.s.fc) (.slice u.s.cA u.s.cs.length u.s.cc) (HB.out w2 h) (b0.trans (h.mono b0.size)) (by rw[a3.out];exact aY _);refine⟨k1,?_⟩
  exact aHD h0 k2 hu (hm _ k3))
 have R0:=hid (Below.refl W.heap.size W);have KO:=hid (cr.aIv b W hs);unfold cr.qB at KO;clear a9 b0 B hs;by_cases hL:200000<b.size
 ·have q0:decide ((200000:Int)<(b.size:Int))=true:=aC (by omega)
  obtain⟨a0,a1⟩:=FZ.out W 9 R0.out (d1 hL) (by decide);replace a0:=hid a0;replace a1:=hid a1;have J:=HB.out W R0.out;have z0:W.cell? ⟨bx,0,none⟩=some (.string ⟨#[]⟩):=J.cell 0;have v0:=J.free 0;have z1:W.cell? ⟨bx,1,none⟩=some (.slice none 0 0):=J.cell 1;have v1:=J.free 1;have z2:W.cell? ⟨bx,2,none⟩=some (.slice none 0 0):=J.cell 2;have v2:=J.free 2;have z3:W.cell? ⟨bx,3,none⟩=some (.slice none 0 0):=J.cell 3;have v3:=J.free 3;have z4:W.cell? ⟨bx,4,none⟩=some (.slice none 0 0):=J.cell 4;have v4:=J.free 4;have z5:W.cell? ⟨bx,5,none⟩=some (.slice none 0 0):=J.cell 5;have v5:=J.free 5;have z6:W.cell? ⟨bx,6,none⟩=some (.slice none 0 0):=J.cell 6;have v6:=J.free 6;clear J FZ FS HB HT KO R0;go_enter Tryz.func12,Tryz.ntmps12;go_upto_region 1 with fail;rw[←a5.out,←a3.out];go_wp2_with fail;refine bodyPost_ret (re.results_cell_tmp rfl _ _ _ _ _ _ _ _ rfl rfl a0.out zJ rfl (by kernel_rfl)) rfl ?_
  exact a1.out
 have q0:decide ((200000:Int)<(b.size:Int))=false:=aB (by omega);have D2:=hid (d2 hL);have D3:=hid (d3 hL);have D4:=hid (d4 hL);have D5:=hid (d5 hL);have D6:=hid (d6 hL);have D7:=hid (d7 hL);have ao:=aA6 b
 have a6:Hid (jT (cr.bQ b)=0→(fZ (cr.bQ b)).Pairwise (fun a b=>a<b)∧(fZ (cr.bQ b)).length≤6000∧(∀x∈fZ (cr.bQ b),x.length≤1000)∧(iE (cr.bQ b)).size≤200000):=hid (fun h=>by
  obtain⟨_,h2,h3,h4,h5⟩:=wI h
  exact⟨h2,h3,h4,by omega⟩)
 have KY:=hid (fun(w2:World)=>aHl (cr.bQ b) w2 (by omega));unfold aEB at KY;generalize gU b=DE at *;generalize cr.okS b=ok at *;generalize cr.bQ b=t at *;clear hL ao;go_enter Tryz.func12,Tryz.ntmps12;go_upto_region 1 with fail;rw[←a5.out,←a3.out];clear a5 a3;go_wp2_with fail;refine KO.out.mono ?_;rintro e w2 ⟨rfl,b2⟩;have B2:=hid (R0.out.trans b2);clear b2 KO;rcases ok with _ | _
 ·have hd:=D2.out rfl
  obtain⟨a0,a1⟩:=FZ.out w2 (14) B2.out hd (by decide);replace a0:=hid a0;replace a1:=hid a1;have J:=HB.out w2 B2.out;have z0:w2.cell? ⟨bx,0,none⟩=some (.string ⟨#[]⟩):=J.cell 0;have v0:=J.free 0;have z1:w2.cell? ⟨bx,1,none⟩=some (.slice none 0 0):=J.cell 1;have v1:=J.free 1;have z2:w2.cell? ⟨bx,2,none⟩=some (.slice none 0 0):=J.cell 2;have v2:=J.free 2;have z3:w2.cell? ⟨bx,3,none⟩=some (.slice none 0 0):=J.cell 3;have v3:=J.free 3;have z4:w2.cell? ⟨bx,4,none⟩=some (.slice none 0 0):=J.cell 4;have v4:=J.free 4;have z5:w2.cell? ⟨bx,5,none⟩=some (.slice none 0 0):=J.cell 5;have v5:=J.free 5;have z6:w2.cell? ⟨bx,6,none⟩=some (.slice none 0 0):=J.cell 6;have v6:=J.free 6;clear J FZ FS HB HT KY D2 D3 D4 D5 D6 D7 a6 hd;go_wp2_with fail;refine bodyPost_ret (re.results_cell_tmp rfl _ _ _ _ _ _ _ _ rfl rfl a0.out zJ rfl (by kernel_rfl)) rfl ?_;exact a1.out
 replace D3:=hid (D3.out rfl);replace D4:=hid (D4.out rfl);replace D5:=hid (D5.out rfl);replace D6:=hid (D6.out rfl);replace D7:=hid (D7.out rfl);clear D2;have KA:=hid (KY.out w2);generalize iE t=x at *;generalize fZ t=m at *;generalize jT t=EB at *;clear KY;go_wp2_with fail;refine KA.out.mono ?_;rintro e w3 (⟨h0,pb,pA,pc,rfl,ah,b3⟩ | ⟨h0,rfl,b3⟩);rotate_left
 ·have q1:(EB != 0)=true:=by simpa using h0
  have B3:=hid (B2.out.trans (b3.mono B2.out.size));have hd:=D3.out h0;obtain⟨a0,a1⟩:=FZ.out w3 (EB) B3.out hd h0;replace a0:=hid a0;replace a1:=hid a1;have J:=HB.out w3 B3.out;have z0:w3.cell? ⟨bx,0,none⟩=some (.string ⟨#[]⟩):=J.cell 0;have v0:=J.free 0;have z1:w3.cell? ⟨bx,1,none⟩=some (.slice none 0 0):=J.cell 1;have v1:=J.free 1;have z2:w3.cell? ⟨bx,2,none⟩=some (.slice none 0 0):=J.cell 2;have v2:=J.free 2;have z3:w3.cell? ⟨bx,3,none⟩=some (.slice none 0 0):=J.cell 3;have v3:=J.free 3;have z4:w3.cell? ⟨bx,4,none⟩=some (.slice none 0 0):=J.cell 4;have v4:=J.free 4;have z5:w3.cell? ⟨bx,5,none⟩=some (.slice none 0 0):=J.cell 5;have v5:=J.free 5;have z6:w3.cell? ⟨bx,6,none⟩=some (.slice none 0 0):=J.cell 6;have v6:=J.free 6;clear J FZ FS HB HT KA D3 D4 D5 D6 D7 a6 hd b3 B2 h0;go_wp2_with fail;refine bodyPost_ret (re.results_cell_tmp rfl _ _ _ _ _ _ _ _ rfl rfl a0.out zJ rfl (by kernel_rfl)) rfl ?_
  exact a1.out
 subst h0;obtain⟨ho,ap,af,aj⟩:=a6.out rfl;replace D4:=hid (D4.out rfl);replace D5:=hid (D5.out rfl);replace D6:=hid (D6.out rfl);replace D7:=hid (D7.out rfl);have B3:=hid (B2.out.trans (b3.mono B2.out.size));have P3:=hid ah;have KR:=hid (re.aFX (s:=x) ah (by omega) (fun y hy=>aZ (af y hy) (by unfold maxLen;decide)) (by unfold maxLen;omega));have ad:Hid (oL m x=0→∀(w5:World) (u:MU),gH w5 u→u.su=kJ m x→EK w5 u):=hid (fun h w5 u hm e=>aFk hm ho af aj h e);have a2:Hid (oL m x=0→((iW (kJ m x)).length=m.length↔iW (kJ m x)=m)):=hid (fun h=>aKv ho h);unfold aGi at KR;clear KA D3 a6 b3 B2 ah ho af aj;go_wp2_with fail;refine KR.out.mono ?_;rintro e w4 ⟨u,rfl,hu,ak,b4⟩;have B4:=hid (B3.out.trans (b4.mono B3.out.size));have P4:=hid (P3.out.below b4);have ae:Hid (∀(G:List Nat) (w2:World),Fr G w4 w2→(∀x∈G,x<W.heap.size)→gH w2 u):=hid (fun G w5 f hG=>ak G w5 f (fun y hy=>Nat.lt_of_lt_of_le (hG y hy) B3.out.size))
 replace hu:=hid hu;clear ak b4 KR B3 P3;unfold MU.val MU.row;go_upto_region 10 with fail;have Bu:=hid (bV.new w4 29 #[.string u.name,.slice u.gA u.gives.length u.gc,.slice u.wA u.wants.length u.wc,.slice u.kA u.keeps.length u.kc,.slice u.s.oA u.s.os.length u.s.oc,.slice u.s.fA u.s.fs.length u.s.fc,.slice u.s.cA u.s.cs.length u.s.cc]);have F5:Hid (Fr [] w4 (w4.alloc (.cells #[.string u.name,.slice u.gA u.gives.length u.gc,.slice u.wA u.wants.length u.wc,.slice u.kA u.keeps.length u.kc,.slice u.s.oA u.s.os.length u.s.oc,.slice u.s.fA u.s.fs.length u.s.fc,.slice u.s.cA u.s.cs.length u.s.cc] 29))):=hid ((Fr.refl [] w4).alloc _);have B5:=hid (B4.out.alloc B4.out.size (.cells #[.string u.name,.slice u.gA u.gives.length u.gc,.slice u.wA u.wants.length u.wc,.slice u.kA u.keeps.length u.kc,.slice u.s.oA u.s.os.length u.s.oc,.slice u.s.fA u.s.fs.length u.s.fc,.slice u.s.cA u.s.cs.length u.s.cc] 29))
 have P5:=hid (P4.out.below (F5.out.all));generalize w4.alloc (.cells #[.string u.name,.slice u.gA u.gives.length u.gc,.slice u.wA u.wants.length u.wc,.slice u.kA u.keeps.length u.kc,.slice u.s.oA u.s.os.length u.s.oc,.slice u.s.fA u.s.fs.length u.s.fc,.slice u.s.cA u.s.cs.length u.s.cc] 29)=w5 at *;generalize w4.heap.size=ub at *;have ag:Hid (∀Y,Below w5.heap.size w5 Y→gH Y u):=hid (fun Y h=>ae.out [] Y (F5.out.trans (Fr.of_below h []) (by simp) (by simp)) (by simp))
 have aa:Hid (∀Y w7,Below w5.heap.size w5 Y→Fr [bx] Y w7→gH w7 u):=hid (fun Y w7 h f=>by
  have f1:Fr [] w4 Y:=F5.out.trans (Fr.of_below h []) (by simp) (by simp)
  exact ae.out [bx] w7 (f1.trans f (by simp) (fun g hg=>Or.inl hg)) (by simpa using am))
 have HU:Hid (∀Y,Below w5.heap.size w5 Y→bV Y ub 29 #[.string u.name,.slice u.gA u.gives.length u.gc,.slice u.wA u.wants.length u.wc,.slice u.kA u.keeps.length u.kc,.slice u.s.oA u.s.os.length u.s.oc,.slice u.s.fA u.s.fs.length u.s.fc,.slice u.s.cA u.s.cs.length u.s.cc]):=hid (fun Y h=>Bu.out.kept (Fr.of_below h []) (by simp));have R5:=hid (Below.refl w5.heap.size w5);have HW:Hid (∀Y,Below w5.heap.size w5 Y→Below W.heap.size W Y):=hid (fun Y h=>B5.out.trans (h.mono B5.out.size));clear Bu F5 ae P4 B4;by_cases hE:oL m x=0;rotate_left
 ·have q1:(oL m x==0)=false:=by simpa using hE
  have q2:(oL m x != 0)=true:=by simpa using hE
  have hd:=D4.out hE;generalize oL m x=E at *;obtain⟨a0,a1⟩:=FZ.out w5 (E) B5.out hd hE;replace a0:=hid a0;replace a1:=hid a1;have J:=HB.out w5 B5.out;have z0:w5.cell? ⟨bx,0,none⟩=some (.string ⟨#[]⟩):=J.cell 0;have v0:=J.free 0;have z1:w5.cell? ⟨bx,1,none⟩=some (.slice none 0 0):=J.cell 1;have v1:=J.free 1;have z2:w5.cell? ⟨bx,2,none⟩=some (.slice none 0 0):=J.cell 2;have v2:=J.free 2;have z3:w5.cell? ⟨bx,3,none⟩=some (.slice none 0 0):=J.cell 3;have v3:=J.free 3;have z4:w5.cell? ⟨bx,4,none⟩=some (.slice none 0 0):=J.cell 4;have v4:=J.free 4;have z5:w5.cell? ⟨bx,5,none⟩=some (.slice none 0 0):=J.cell 5;have v5:=J.free 5;have z6:w5.cell? ⟨bx,6,none⟩=some (.slice none 0 0):=J.cell 6;have v6:=J.free 6;clear J FZ FS HB HT D4 D5 D6 D7 hd ad a2 ag aa HU HW R5 hE hu P5;go_wp2_with fail;refine bodyPost_ret (re.results_cell_tmp rfl _ _ _ _ _ _ _ _ rfl rfl a0.out zJ rfl (by kernel_rfl)) rfl ?_
  exact a1.out
 replace D5:=hid (D5.out hE);replace D6:=hid (D6.out hE);replace D7:=hid (D7.out hE);replace a2:=hid (a2.out hE);have a8:Hid (∀Y,Below w5.heap.size w5 Y→EK Y u):=hid (fun Y h=>ad.out hE Y u (ag.out Y h) hu.out);have q1:(oL m x==0)=true:=by simpa using hE
 have KC:=hid (aAP w5 u (a8.out w5 R5.out).k (HT.out w5 (HW.out w5 R5.out)));have KX:=hid (fun(Y:World) (h:Below w5.heap.size w5 Y)=>uZ Y u (a8.out Y h).k.m (aZ (a8.out Y h).l (by decide)));have ai:jG ((nS (dF u.su)).map re.tx)=iW u.su:=rfl;rw[ai]at KX;rw[hu.out]at KC KX;unfold sy.dG at KC;unfold TP at KX;unfold MU.val MU.row at KC KX;have a7:=hid (fun Y (h:Below w5.heap.size w5 Y) h0=>FS.out Y u (HW.out Y h) h0 hu.out (fun w7 f=>aa.out Y w7 h f));clear ai D4 ad a8 HT hu ag aa FS hE;generalize iW (kJ m x)=TT at *;generalize fH (vR (kJ m x))=C at *;generalize oL m x=E at *;have x0:w5.cell? ⟨ub,0,none⟩=some (.string u.name):=(HU.out w5 R5.out).cell 0;have x1:w5.cell? ⟨ub,1,none⟩=some (.slice u.gA u.gives.length u.gc):=(HU.out w5 R5.out).cell 1;have x2:w5.cell? ⟨ub,2,none⟩=some (.slice u.wA u.wants.length u.wc):=(HU.out w5 R5.out).cell 2
 have x3:w5.cell? ⟨ub,3,none⟩=some (.slice u.kA u.keeps.length u.kc):=(HU.out w5 R5.out).cell 3;have x4:w5.cell? ⟨ub,4,none⟩=some (.slice u.s.oA u.s.os.length u.s.oc):=(HU.out w5 R5.out).cell 4;have x5:w5.cell? ⟨ub,5,none⟩=some (.slice u.s.fA u.s.fs.length u.s.fc):=(HU.out w5 R5.out).cell 5;have x6:w5.cell? ⟨ub,6,none⟩=some (.slice u.s.cA u.s.cs.length u.s.cc):=(HU.out w5 R5.out).cell 6;go_wp2_with fail;refine KC.out.mono ?_;rintro e Y ⟨rfl,b6⟩;have B6:=hid b6;clear b6 KC x0 x1 x2 x3 x4 x5 x6;by_cases hC:C=0;rotate_left
 ·have q2:(C==0)=false:=by simpa using hC
  have q3:(C != 0)=true:=by simpa using hC
  have B7:=hid (HW.out Y B6.out);have hd:=D5.out hC;have FS:=0;obtain⟨a0,a1⟩:=FZ.out Y (C) B7.out hd hC;replace a0:=hid a0;replace a1:=hid a1;have J:=HB.out Y B7.out;have z0:Y.cell? ⟨bx,0,none⟩=some (.string ⟨#[]⟩):=J.cell 0;have v0:=J.free 0;have z1:Y.cell? ⟨bx,1,none⟩=some (.slice none 0 0):=J.cell 1;have v1:=J.free 1;have z2:Y.cell? ⟨bx,2,none⟩=some (.slice none 0 0):=J.cell 2;have v2:=J.free 2;have z3:Y.cell? ⟨bx,3,none⟩=some (.slice none 0 0):=J.cell 3;have v3:=J.free 3;have z4:Y.cell? ⟨bx,4,none⟩=some (.slice none 0 0):=J.cell 4;have v4:=J.free 4;have z5:Y.cell? ⟨bx,5,none⟩=some (.slice none 0 0):=J.cell 5;have v5:=J.free 5;have z6:Y.cell? ⟨bx,6,none⟩=some (.slice none 0 0):=J.cell 6;have v6:=J.free 6;clear J FZ FS HB D5 D6 D7 hd a2 HU HW R5 hC P5 KX a7 B6;go_wp2_with fail;refine bodyPost_ret (re.results_cell_tmp rfl _ _ _ _ _ _ _ _ rfl rfl a0.out zJ rfl (by kernel_rfl)) rfl ?_
  exact a1.out
 have q2:(C==0)=true:=by simpa using hC
 replace D6:=hid (D6.out hC);replace D7:=hid (D7.out hC);have KA:=hid (KX.out Y B6.out);have x0:Y.cell? ⟨ub,0,none⟩=some (.string u.name):=(HU.out Y B6.out).cell 0;have x1:Y.cell? ⟨ub,1,none⟩=some (.slice u.gA u.gives.length u.gc):=(HU.out Y B6.out).cell 1;have x2:Y.cell? ⟨ub,2,none⟩=some (.slice u.wA u.wants.length u.wc):=(HU.out Y B6.out).cell 2;have x3:Y.cell? ⟨ub,3,none⟩=some (.slice u.kA u.keeps.length u.kc):=(HU.out Y B6.out).cell 3;have x4:Y.cell? ⟨ub,4,none⟩=some (.slice u.s.oA u.s.os.length u.s.oc):=(HU.out Y B6.out).cell 4;have x5:Y.cell? ⟨ub,5,none⟩=some (.slice u.s.fA u.s.fs.length u.s.fc):=(HU.out Y B6.out).cell 5;have x6:Y.cell? ⟨ub,6,none⟩=some (.slice u.s.cA u.s.cs.length u.s.cc):=(HU.out Y B6.out).cell 6;go_wp2_with fail;refine KA.out.mono ?_;rintro e w7 ⟨A7,c7,rfl,_,b7⟩;have B7:=hid (B6.out.trans (b7.mono B6.out.size));have KL:=hid (uQ w7 pb pA pc m (P5.out.below B7.out))
 clear KA KX b7 B6 x0 x1 x2 x3 x4 x5 x6 D5;go_wp2_with fail;refine KL.out.mono ?_;rintro e w8 ⟨rfl,rfl⟩;clear KL;by_cases a4:TT.length=m.length;rotate_left
 ·have q3:((TT.length:Int) != (m.length:Int))=true:=by rw[bne_iff_ne];omega
  have B8:=hid (HW.out _ B7.out);have hd:=D6.out (fun e=>a4 (a2.out.2 e));have FS:=0;obtain⟨a0,a1⟩:=FZ.out w7 (3) B8.out hd (by decide);replace a0:=hid a0;replace a1:=hid a1;have J:=HB.out w7 B8.out;have z0:w7.cell? ⟨bx,0,none⟩=some (.string ⟨#[]⟩):=J.cell 0;have v0:=J.free 0;have z1:w7.cell? ⟨bx,1,none⟩=some (.slice none 0 0):=J.cell 1;have v1:=J.free 1;have z2:w7.cell? ⟨bx,2,none⟩=some (.slice none 0 0):=J.cell 2;have v2:=J.free 2;have z3:w7.cell? ⟨bx,3,none⟩=some (.slice none 0 0):=J.cell 3;have v3:=J.free 3;have z4:w7.cell? ⟨bx,4,none⟩=some (.slice none 0 0):=J.cell 4;have v4:=J.free 4;have z5:w7.cell? ⟨bx,5,none⟩=some (.slice none 0 0):=J.cell 5;have v5:=J.free 5;have z6:w7.cell? ⟨bx,6,none⟩=some (.slice none 0 0):=J.cell 6;have v6:=J.free 6;clear J FZ FS HB D6 D7 hd a2 HU HW R5 a4 P5 a7 B7;go_wp2_with fail;refine bodyPost_ret (re.results_cell_tmp rfl _ _ _ _ _ _ _ _ rfl rfl a0.out zJ rfl (by kernel_rfl)) rfl ?_
  exact a1.out
 have q3:((TT.length:Int) != (m.length:Int))=false:=by rw[a4];simp
 obtain⟨a0,a1⟩:=a7.out _ B7.out (D7.out (a2.out.1 a4));replace a0:=hid a0;replace a1:=hid a1;have J:=HB.out _ (HW.out _ B7.out);have z0:w7.cell? ⟨bx,0,none⟩=some (.string ⟨#[]⟩):=J.cell 0;have v0:=J.free 0;have z1:w7.cell? ⟨bx,1,none⟩=some (.slice none 0 0):=J.cell 1;have v1:=J.free 1;have z2:w7.cell? ⟨bx,2,none⟩=some (.slice none 0 0):=J.cell 2;have v2:=J.free 2;have z3:w7.cell? ⟨bx,3,none⟩=some (.slice none 0 0):=J.cell 3;have v3:=J.free 3;have z4:w7.cell? ⟨bx,4,none⟩=some (.slice none 0 0):=J.cell 4;have v4:=J.free 4;have z5:w7.cell? ⟨bx,5,none⟩=some (.slice none 0 0):=J.cell 5;have v5:=J.free 5;have z6:w7.cell? ⟨bx,6,none⟩=some (.slice none 0 0):=J.cell 6;have v6:=J.free 6;have x0:w7.cell? ⟨ub,0,none⟩=some (.string u.name):=(HU.out w7 B7.out).cell 0;have x1:w7.cell? ⟨ub,1,none⟩=some (.slice u.gA u.gives.length u.gc):=(HU.out w7 B7.out).cell 1;have x2:w7.cell? ⟨ub,2,none⟩=some (.slice u.wA u.wants.length u.wc):=(HU.out w7 B7.out).cell 2
 have x3:w7.cell? ⟨ub,3,none⟩=some (.slice u.kA u.keeps.length u.kc):=(HU.out w7 B7.out).cell 3;have x4:w7.cell? ⟨ub,4,none⟩=some (.slice u.s.oA u.s.os.length u.s.oc):=(HU.out w7 B7.out).cell 4;have x5:w7.cell? ⟨ub,5,none⟩=some (.slice u.s.fA u.s.fs.length u.s.fc):=(HU.out w7 B7.out).cell 5;have x6:w7.cell? ⟨ub,6,none⟩=some (.slice u.s.cA u.s.cs.length u.s.cc):=(HU.out w7 B7.out).cell 6;clear J FZ HB D6 D7 a2 HU HW R5 a7 B7 P5 a4;go_wp2_with fail;refine bodyPost_ret (re.results_cell_tmp rfl _ _ _ _ _ _ _ _ rfl rfl a0.out zJ rfl (by kernel_rfl)) rfl ?_;exact a1.out
end sf
namespace sf
open RowKit Go.Sort Shelf mem vr po inn sy
open re (MU SU gH Ev dF fQ nS sH muA aE3 aMn aME aDA RDP WkP)
open nm (jI bR)
theorem aJ6:iW sH=[[97]]:=aMn
theorem aM2:gZ sH=[0,0,0,0,0,0,0]:=by
 unfold gZ;rw[aJ6,aME]
theorem aLW:oK sH=[119,101,102,116,1,1,0,1,97,7,0,0,0,0,0,0,0]:=by
 unfold oK tC;rw[aJ6,aM2]
 kernel_rfl
theorem aMV:dg.bZ (⟨#[97]⟩:ByteArray)=true:=by kernel_rfl
theorem aAS{x:Int}{l:List Int}(h:x=0):fH (x :: l)=fH l:=by
 show(if x=0 then fH l else x)=_;rw[if_pos h]
theorem aMU:fH (vR sH)=0:=by
 have h1:iL (dg.bZ sH.name) 11=0:=by
  show iL (dg.bZ (⟨#[97]⟩:ByteArray)) 11=0;rw[aMV];rfl
 have Y:iJ sH.sys=0:=by
  unfold iJ;rw[if_neg (by simp[sH])];rfl
 have J:fH [iL (fV (sH.gives.map re.tx)) 13,iL (sH.gives.all (inD sH)) 7,iL (fV (sH.wants.map re.tx)) 13,iL (sH.wants.all (inD sH)) 7,iL (sH.gives.all (fun s=>!inW sH s)) 8,iL (decide (sH.keeps.length≤6000)) 4,iL (fV (sH.keeps.map re.tx)) 13,iL (sH.keeps.all dO) 11] = (0:Int):=by kernel_rfl
 unfold vR;rw[aAS h1,aAS Y];exact J
theorem aLm:mU sH=0:=by
 unfold mU;rw[if_neg (by rw[aMU];simp),if_neg (by rw[aJ6];decide),if_neg (by rw[aJ6];decide),if_neg (by rw[aLW];decide)]
theorem aL6:aDA sH:=by
 unfold aDA sH;simp
theorem aH2:(dF sH).length≤900000:=by decide
theorem aFa:gU (gP sH)=0∧oP (gP sH)=sH:=aGo aLm aL6 (aZ aH2 (by decide))
theorem aEV:(gP sH).size=20:=by
 rw[aBr,aLW];rfl
theorem aJU:(gP sH).extract 0 9=⟨#[119,101,102,116,1,1,0,1,97]⟩:=by
 apply ByteArray.ext
 apply Array.ext'
 rw[extract_toList];unfold gP cr.kE;rw[cr.aDv,aKr,aLW];rfl
theorem aMT(w:World):EK w muA:=aKY (aE3 w) aH2 (fun s hs=>by
 have:s=⟨#[97]⟩:=by
  have h:Ev.t s∈dF sH:=hs
  simpa[dF,sH,re.fB,re.pY,re.qL,re.qU] using h
 subst this;unfold maxLen
 decide)
theorem aGs(w:World)(J:jI w):Calls Tryz.prog 11 #[] w (WkP w):=by
 have K1:=hid (aDJ w muA (aMT w) J);unfold aGc at K1;have e1:aGh muA.su=gP sH:=by
  show aGh sH=_;unfold aGh;rw[if_pos aLm]
 have e2:mU muA.su=0:=aLm;rw[e1,e2]at K1;have K2:=hid (fun(Y:World) (b:Below w.heap.size w Y)=>aAN (gP sH) Y (by rw[aEV];unfold maxLen;decide) (bR J b));rw[aFa.1,aFa.2]at K2;have hz:=aEV;have h9:=aJU;have a2:∀W,(Instr.slice 9 (.string (gP sH)) none (some (.int .i64 9)) none).run Tryz.prog W=.ok (.string ⟨#[119,101,102,116,1,1,0,1,97]⟩) W:=fun W=>by
  rw[run_slice_string_h (P:=Tryz.prog) W 9 (gP sH) Tryz.underlying9 .i64 9 (by omega) (by omega)];exact congrArg (fun z=>Result.ok (Value.string z) W) h9
 have a3:(((gP sH).size:Int)==20)=true:=by rw[hz];rfl
 have a0:((gP sH).size==20)=true:=by rw[hz];rfl
 unfold RDP at K2;unfold WkP;clear e1 e2 h9 J;generalize gP sH=F at *;have hv:muA.val=.agg #[.string ⟨#[97]⟩,.slice none 0 0,.slice none 0 0,.slice none 0 0,.slice none 0 0,.slice none 0 0,.slice none 0 0]:=rfl;rw[hv]at K1;clear hv;go_enter Tryz.func11,Tryz.ntmps11;go_wp2_with fail;refine K1.out.mono ?_;rintro e w1 ⟨rfl,b1⟩;have B1:=hid b1;have K3:=hid (K2.out w1 b1);clear b1 K1 K2;go_wp2_with fail;refine K3.out.mono ?_;rintro e Y ⟨u,rfl,hu,_,b2⟩;have B2:=hid (B1.out.trans (b2.mono B1.out.size));have hn:Hid (u.name=⟨#[97]⟩):=hid (congrArg SU.name hu);clear b2 K3 hu B1;unfold MU.val MU.row;go_upto_region 3 with fail;have Bx:=bV.new Y 29 #[.string u.name,.slice u.gA u.gives.length u.gc,.slice u.wA u.wants.length u.wc,.slice u.kA u.keeps.length u.kc,.slice u.s.oA u.s.os.length u.s.oc,.slice u.s.fA u.s.fs.length u.s.fc,.slice u.s.cA u.s.cs.length u.s.cc];have B4:=hid (B2.out.alloc B2.out.size (.cells #[.string u.name,.slice u.gA u.gives.length u.gc,.slice u.wA u.wants.length u.wc,.slice u.kA u.keeps.length u.kc,.slice u.s.oA u.s.os.length u.s.oc,.slice u.s.fA u.s.fs.length u.s.fc,.slice u.s.cA u.s.cs.length u.s.cc] 29))
 have x0:=Bx.cell 0;generalize Y.alloc (.cells #[.string u.name,.slice u.gA u.gives.length u.gc,.slice u.wA u.wants.length u.wc,.slice u.kA u.keeps.length u.kc,.slice u.s.oA u.s.os.length u.s.oc,.slice u.s.fA u.s.fs.length u.s.fc,.slice u.s.cA u.s.cs.length u.s.cc] 29)=wz at *;have a1:wz.cell? ⟨Y.heap.size,0,none⟩=some (.string ⟨#[97]⟩):=by rw[←hn.out];exact x0
 clear x0 Bx hn B2 hz;go_wp2_with fail;go_ret;exact⟨rfl,B4.out⟩
end sf
namespace po
open RowKit Go.Sort Shelf mem vr inn
structure QR(w0 w:World)(r:Nat)(A:Option Addr)(cap:Nat)(S:ByteArray)(p:Nat)(er:Int)(m:List (List UInt8)):Prop where
 rd:RR w r S p er
 seg:Seg w 9 A cap (m.map encStr)
 on:Below w0.heap.size w0 w
 hr:w0.heap.size≤r
 ha:∀g∈blk A,w0.heap.size≤g
theorem QR.step{w0 w w':World}{r:Nat}{A:Option Addr}{cap:Nat}{S:ByteArray}{p Y:Nat}{er J:Int}{m:List (List UInt8)}(h:QR w0 w r A cap S p er m)(h2:RR w' r S Y J)(hf:Fr [r] w w'):QR w0 w' r A cap S Y J m:=by
 have h3:r∉blk A:=h.seg.ne_box h.rd.box (by decide);exact⟨h2,h.seg.kept hf (fun g hg e=>by rw[aD]at e;subst e;exact h3 hg),h.on.trans (hf.below (by simpa using h.hr) h.on.size),h.hr,h.ha⟩
theorem QR.bel{w0 w w':World}{r:Nat}{A:Option Addr}{cap:Nat}{S:ByteArray}{p:Nat}{er:Int}{m:List (List UInt8)}(h:QR w0 w r A cap S p er m)(hb:Below w.heap.size w w'):QR w0 w' r A cap S p er m:=
 ⟨⟨h.rd.box.kept (Fr.of_below hb []) (by simp)⟩,h.seg.kept (Fr.of_below hb []) (by simp),h.on.trans (hb.mono h.on.size),h.hr,h.ha⟩
theorem QR.setE{w0 w:World}{r:Nat}{A:Option Addr}{cap:Nat}{S:ByteArray}{p:Nat}{er:Int}{m:List (List UInt8)}(h:QR w0 w r A cap S p er m)(d:Int):QR w0 (w.setCell ⟨r,2,none⟩ (.int .i64 d)) r A cap S p d m:=
 h.step (h.rd.setE d) ((Fr.refl [r] w).setCell (p:=⟨r,2,none⟩) (Or.inl (by simp)) _)
theorem QR.c2{w0 w:World}{r:Nat}{A:Option Addr}{cap:Nat}{S:ByteArray}{p:Nat}{er:Int}{m:List (List UInt8)}(h:QR w0 w r A cap S p er m):w.cell? ⟨r,2,none⟩=some (.int .i64 er)∧w.frozen? ⟨r,2,none⟩=false:=⟨h.rd.box.cell 2,h.rd.box.free 2⟩
theorem vT{w0 w w3 w4:World}{r:Nat}{A A3:Option Addr}{cap J:Nat}{S:ByteArray}{p:Nat}{er:Int}{m:List (List UInt8)}{x:List UInt8}(h:QR w0 w r A cap S p er m)(hw:Fr [] w w3)(hs:Seg w4 9 A3 J (m.map encStr++[encStr x]))(f3:Fr (blk A) w3 w4)(a0:blk A3=blk A∨blk A3=[w3.heap.size]):QR w0 w4 r A3 J S p er (m++[x]):=by
 have nr:r∉blk A:=h.seg.ne_box h.rd.box (by decide);have hF:Fr (blk A) w w4:=hw.trans f3 (by simp) (fun g Y=>Or.inl Y);have h4:=hw.size;have h5:=h.on.size;refine⟨⟨h.rd.box.kept hF nr⟩,by rw[List.map_append];exact hs,h.on.trans (hF.below (fun g Y=>h.ha g Y) h5),h.hr,fun g Y=>?_⟩;rcases a0 with e | e
 ·exact h.ha g (e ▸ Y)
 ·rw[e,aD]at Y
  subst Y;omega
def QRd(w0:World)(r:Nat)(S:ByteArray)(R:Nat×Int×Int×List (List UInt8))(e:Ending)(w':World):Prop:=
 (R.2.2.1=0∧∃A cap,e=.returned (.tuple #[.slice A R.2.2.2.length cap,.int .i64 0])∧QR w0 w' r A cap S R.1 0 R.2.2.2) ∨
 (R.2.2.1≠0∧e=.returned (.tuple #[.slice none 0 0,.int .i64 R.2.2.1])∧Below w0.heap.size w0 w')
theorem aLX{w0 w':World}{r:Nat}{S:ByteArray}{R:Nat×Int×Int×List (List UInt8)}{p k:Nat}{m:List (List UInt8)}{A:Option Addr}{cap:Nat}(Y:R=(p,0,0,m))(J:m.length=k)(h:QR w0 w' r A cap S p 0 m):QRd w0 r S R (.returned (.tuple #[.slice A k cap,.int .i64 0])) w':=by
 subst Y J;exact Or.inl ⟨rfl,A,cap,rfl,h⟩
theorem rV{w0 w':World}{r:Nat}{S:ByteArray}{R:Nat×Int×Int×List (List UInt8)}{d:Int}(J:R.2.2.1=d)(hd:d≠0)(h:Below w0.heap.size w0 w'):QRd w0 r S R (.returned (.tuple #[.slice none 0 0,.int .i64 d])) w':=by
 subst J;exact Or.inr ⟨hd,rfl,h⟩
def LQ(S:ByteArray)(n:Nat)(R:Nat×Int×Int×List (List UInt8))(k p:Nat)(er:Int)(m:List (List UInt8)):Prop:=
 (er=0∧kK S (n-k) p m=R∧p≤S.size∧(∀x∈m,x.length≤1000)∧m.length=k)∨(er≠0∧R.2.2.1=er)
theorem aMv{S:ByteArray}{n k p p':Nat}{R:Nat×Int×Int×List (List UInt8)}{m:List (List UInt8)}{x:List UInt8}(h:kK S (n-k) p m=R)(hp:p≤S.size)(hk:k<n)(hm:∀x∈m,x.length≤1000)(hl:m.length=k)(ht:tQ S p m=(p',0,0,m++[x])):LQ S n R (k+1) p' 0 (m++[x]):=by
 obtain⟨j,hj⟩:∃j,n-k=j+1:=⟨n-k-1,by omega⟩;have a0:n-(k+1)=j:=by omega
 rw[hj,kK,ht,if_pos rfl]at h;obtain⟨_,a2,y,hy,Y,_,_⟩:=aD6 S p m p' 0 _ hp ht;have a1:y=x:=by simpa using(List.append_cancel_left hy).symm
 subst a1;refine Or.inl ⟨rfl,by rw[a0];exact h,a2,fun z J=>?_,by simp[hl]⟩;rcases List.mem_append.1 J with J | J
 ·exact hm z J
 ·rw[aD]at J;subst J;exact Y
theorem aD8{S:ByteArray}{n k p:Nat}{R U:Nat×Int×Int×List (List UInt8)}{m:List (List UInt8)}{d:Int}(h:kK S (n-k) p m=R)(hk:k<n)(ht:tQ S p m=U)(J:U.2.2.1=d)(hd:d≠0):R.2.2.1=d:=by
 obtain⟨j,Y⟩:∃j,n-k=j+1:=⟨n-k-1,by omega⟩;rw[Y,kK,ht,if_neg (by rw[J];exact hd)]at h;rw[←h,J]
theorem aLH(S:ByteArray)(p:Nat)(e:Int)(h:e≠0):vr.tx S p e=(⟨#[]⟩,p,e):=by unfold vr.tx;rw[if_pos h]
theorem vB(w0 w:World)(r:Nat)(S:ByteArray)(p:Nat)(h:RR w r S p 0)(on:Below w0.heap.size w0 w)(hr:w0.heap.size≤r)(hS:S.size≤200000000)(hp:p≤S.size) :
 Calls Tryz.prog 49 #[.pointer (some ⟨r,0,none⟩)] w (QRd w0 r S (kD S p)):=by
 have H0:Hid (QR w0 w r none 0 S p 0 []):=hid ⟨h,Seg.nil _ _,on,hr,by simp[blk]⟩;have KN:=hid (fun(w':World) (A:Option Addr) (cap q:Nat) (er:Int) (m:List (List UInt8)) (h:QR w0 w' r A cap S q er m) (hq:q≤S.size)=>jZ w' r S q er h.rd (by unfold maxLen;omega) hq);have KT:=hid (fun(w':World) (A:Option Addr) (cap q:Nat) (er:Int) (m:List (List UInt8)) (h:QR w0 w' r A cap S q er m) (hq:q≤S.size)=>aER w' r S q er h.rd (by unfold maxLen;omega) hq);unfold sN at KN KT;clear h on hr;obtain⟨i0,bd,b9,bf,bb⟩:=info_parts Go.Proofs.YtdmmkjijgoiecaaGreatDoor.inn.nX;have Hi:=hid bd;have a8:=hid b9;have a9:=hid bf;have a7:=hid bb;clear bd b9 bf bb;have K1:=hid (KN.out w none 0 p 0 [] H0.out hp);by_cases c1:nE S p 0=0
 case neg=>
  have ax:=(aBp c1).2;have hR:Hid ((kD S p).2.2.1=nE S p 0):=hid (by unfold kD;rw[if_pos c1]);have ae:=hid c1;have d1:(nE S p 0==0)=false:=by simpa using c1
  rw[ax]at K1;clear c1 ax hp hS KN KT Hi a8 a9 a7;generalize kD S p=R at *;generalize nE S p 0=er at *;generalize nP S p 0=p1 at *;go_enter Tryz.func49,Tryz.ntmps49;go_wp2_with fail;refine K1.out.mono ?_;rintro e w1 ⟨rfl,h1,f1⟩;have H1:=hid (H0.out.step h1 f1);clear h1 f1 K1 H0;obtain⟨a6,a5⟩:=H1.out.c2;go_wp2_with fail;go_loopw [7] (fun i wr=>i=.int .i64 0∧Hid (QR w0 wr r none 0 S p1 er [])) (fun _ _=>0)
  case atStart=>exact⟨rfl,H1⟩
  case round=>
   clear a6 a5;obtain⟨rfl,HQ⟩:=hrel;rename_i wr _;have J:=hid HQ.out.on;obtain⟨ap,ar⟩:=HQ.out.c2;have e9:(er != 0)=true:=by simpa using ae.out
   go_wp2_with fail;go_quiet (fail);have aa:=hid (sf.eZ J.out J.out.size nq);go_wp2_with fail;go_ret2;exact rV hR.out ae.out aa.out
 by_cases c2:6000<nV S p 0
 case pos=>
  have hR:Hid ((kD S p).2.2.1=4):=hid (by unfold kD;rw[if_neg (by simp[c1]),if_pos c2]);have d1:decide ((6000:Int)<((nV S p 0:Nat):Int))=true:=aC (by omega);have d2:decide ((0:Int)<((nV S p 0:Nat):Int))=true:=aC (by omega);have d3:decide (0<nV S p 0)=true:=aC (by omega);have d4:0<nV S p 0:=by omega
  rw[c1]at K1;clear c1 c2 hp hS KN KT Hi a8 a9 a7;generalize kD S p=R at *;generalize nP S p 0=p1 at *;generalize nV S p 0=v at *;go_enter Tryz.func49,Tryz.ntmps49;go_wp2_with fail;refine K1.out.mono ?_;rintro e w1 ⟨rfl,h1,f1⟩;have H1:=hid (H0.out.step h1 f1);clear h1 f1 K1 H0;obtain⟨a6,a5⟩:=H1.out.c2;have H2:=hid (H1.out.setE 4);go_wp2_with fail;go_loopw [7] (fun i wr=>i=.int .i64 0∧Hid (QR w0 wr r none 0 S p1 4 [])) (fun _ _=>0)
  case atStart=>exact⟨rfl,H2⟩
  case round=>
   clear a6 a5;obtain⟨rfl,HQ⟩:=hrel;rename_i wr _;have J:=hid HQ.out.on;obtain⟨ap,ar⟩:=HQ.out.c2;have e9:((4:Int) != 0)=true:=by decide
   go_wp2_with fail;go_quiet (fail);have aa:=hid (sf.eZ J.out J.out.size nq);go_wp2_with fail;go_ret2;exact rV hR.out (by decide) aa.out
 have hv:kD S p=kK S (nV S p 0) (nP S p 0) []:=by unfold kD;rw[if_neg (by simp[c1]),if_neg c2]
 obtain⟨_,ba⟩:=aCQ hp c1;have L0:Hid (LQ S (nV S p 0) (kD S p) 0 (nP S p 0) 0 []):=hid (Or.inl ⟨rfl,by rw[hv];rfl,ba,by simp,rfl⟩);have d1:decide ((6000:Int)<((nV S p 0:Nat):Int))=false:=aB (by omega);rw[c1]at K1;clear hv c1 hp ba;generalize kD S p=R at *;generalize nP S p 0=p1 at *;generalize nV S p 0=n at *;go_enter Tryz.func49,Tryz.ntmps49;go_wp2_with fail;refine K1.out.mono ?_;rintro e w1 ⟨rfl,h1,f1⟩;have H1:=hid (H0.out.step h1 f1);clear h1 f1 K1 H0;obtain⟨a6,a5⟩:=H1.out.c2;go_wp2_with fail;clear a6 a5;go_loopw [5,6,7] (fun l a i wr=>∃(k q:Nat) (er:Int) (m:List (List UInt8)) (A:Option Addr) (cap:Nat),k≤n∧l=.slice A m.length cap∧a=encStr (m.getLastD [])∧i=.int .i64 k∧Hid (QR w0 wr r A cap S q er m)∧Hid (LQ S n R k q er m)) (fun _ _ i _=>n-(intOf i).toNat)
 case atStart=>exact⟨0,p1,0,[],none,0,by omega,rfl,rfl,rfl,H1,L0⟩
 case round=>
  obtain⟨k,q,er,m,A,cap,hk,rfl,rfl,rfl,HQ,ay⟩:=hrel;rename_i wr _;clear L0 H1;by_cases hd:er=0
  case neg=>
   have hR:Hid (R.2.2.1=er):=hid (by
    rcases ay.out with⟨h,_⟩ | ⟨_,h⟩
    ·exact absurd h hd
    ·exact h)
   have ae:=hid hd;have e8:(er==0)=false:=by simpa using hd
   clear ay hd KN KT Hi a8 a9 a7;by_cases av:k<n
   ·have e1:decide ((k:Int)<(n:Int))=true:=aC (by omega)
    have J:=hid HQ.out.on;obtain⟨ap,ar⟩:=HQ.out.c2;have e9:(er != 0)=true:=by simpa using ae.out
    go_wp2_with fail;go_quiet (fail);have aa:=hid (sf.eZ J.out J.out.size nq);go_wp2_with fail;go_ret2;exact rV hR.out ae.out aa.out
   ·have e1:decide ((k:Int)<(n:Int))=false:=aB (by omega)
    have J:=hid HQ.out.on;obtain⟨ap,ar⟩:=HQ.out.c2;have e9:(er != 0)=true:=by simpa using ae.out
    go_wp2_with fail;go_quiet (fail);have aa:=hid (sf.eZ J.out J.out.size nq);go_wp2_with fail;go_ret2;exact rV hR.out ae.out aa.out
  subst hd;obtain⟨af,aj,ah,b1⟩:kK S (n-k) q m=R∧q≤S.size∧(∀x∈m,x.length≤1000)∧m.length=k:=by
   rcases ay.out with⟨_,h⟩ | ⟨h,_⟩
   ·exact h
   ·exact absurd rfl h
  clear ay;by_cases av:k<n
  case neg=>
   obtain rfl:k=n:=by omega
   have e1:decide ((k:Int)<(k:Int))=false:=aB (by omega);have hR:R=(q,0,0,m):=by
    rw[Nat.sub_self,kK]at af;exact af.symm
   have T:=hid (aLX hR rfl HQ.out);obtain⟨a6,a5⟩:=HQ.out.c2;clear hR af HQ KN KT Hi a8 a9 a7 ah;go_wp2_with fail;go_ret2;exact T.out
  have e1:decide ((k:Int)<(n:Int))=true:=aC (by omega);have K1:=hid (KN.out wr A cap q 0 m HQ.out aj);obtain⟨a6,a5⟩:=HQ.out.c2;by_cases c1:nE S q 0=0
  case neg=>
   have hR:Hid (R.2.2.1=nE S q 0):=hid (aD8 af av rfl (by unfold tQ;rw[if_pos c1]) c1);have ax:=aBp c1;have K2:=hid (fun(w':World) (h:QR w0 w' r A cap S (nP S q 0) (nE S q 0) m)=>KT.out w' A cap (nP S q 0) (nE S q 0) m h (by rw[ax.1];exact aj));have ae:=hid c1;rw[aLH S _ _ c1]at K2;clear c1 ax af KN KT Hi a8 a9 a7 ah aj;generalize nE S q 0=er at *;generalize nP S q 0=q1 at *;generalize nV S q 0=v at *;go_wp2_with fail;refine K1.out.mono ?_;rintro e w2 ⟨rfl,h1,f1⟩;have H2:=hid (HQ.out.step h1 f1);clear h1 f1 K1 HQ a6 a5;go_wp2_with fail;refine(K2.out _ H2.out).mono ?_;rintro e w3 ⟨rfl,h1,f1⟩;have H3:=hid (H2.out.step h1 f1);clear h1 f1 K2 H2;have J:=hid H3.out.on;obtain⟨ap,ar⟩:=H3.out.c2;have e9:(er != 0)=true:=by simpa using ae.out
   go_wp2_with fail;go_quiet (fail);have aa:=hid (sf.eZ J.out J.out.size nq);go_wp2_with fail;go_ret2;exact rV hR.out ae.out aa.out
  obtain⟨_,az⟩:=aCQ aj c1;have K2:=hid (fun(w':World) (h:QR w0 w' r A cap S (nP S q 0) 0 m)=>KT.out w' A cap (nP S q 0) 0 m h az);rw[c1]at K1;by_cases c2:(vr.tx S (nP S q 0) 0).2.2=0
  case neg=>
   have hR:Hid (R.2.2.1=(vr.tx S (nP S q 0) 0).2.2):=hid (aD8 af av rfl (by unfold tQ;rw[if_neg (by simp[c1]),if_pos c2]) c2);have ae:=hid c2;clear c1 c2 af KN KT Hi a8 a9 a7 ah aj az;generalize (vr.tx S (nP S q 0) 0).2.2=er at *;generalize (vr.tx S (nP S q 0) 0).2.1=q2 at *;generalize (vr.tx S (nP S q 0) 0).1=t at *;generalize nP S q 0=q1 at *;generalize nV S q 0=v at *;go_wp2_with fail;refine K1.out.mono ?_;rintro e w2 ⟨rfl,h1,f1⟩;have H2:=hid (HQ.out.step h1 f1);clear h1 f1 K1 HQ a6 a5;go_wp2_with fail;refine(K2.out _ H2.out).mono ?_;rintro e w3 ⟨rfl,h1,f1⟩;have H3:=hid (H2.out.step h1 f1);clear h1 f1 K2 H2;have J:=hid H3.out.on;obtain⟨ap,ar⟩:=H3.out.c2;have e9:(er != 0)=true:=by simpa using ae.out
   go_wp2_with fail;go_quiet (fail);have aa:=hid (sf.eZ J.out J.out.size nq);go_wp2_with fail;go_ret2;exact rV hR.out ae.out aa.out
  have bg:(m.getLastD []).length≤1000:=by
   rcases oW m with rfl | ⟨m',x,rfl⟩
   ·simp
   ·rw[eH];exact ah x (by simp)
  have bl:=aKN (S:=S) (p:=nP S q 0) az;obtain⟨U,hU⟩:∃U,tQ S q m=U:=⟨_,rfl⟩;have HB:=hid (fun(d:Int) (h:U.2.2.1=d) (hd:d≠0)=>aD8 af av hU h hd);have HO:=hid (fun(q':Nat) (x:List UInt8) (h:U=(q',0,0,m++[x]))=>aMv af aj av ah b1 (hU.trans h));unfold tQ at hU;rw[if_neg (by simp[c1]),if_neg (by simp[c2])]at hU;rw[c2]at K2;have et:(vr.tx S (nP S q 0) 0).1=⟨(vr.tx S (nP S q 0) 0).1.data.toList.toArray⟩:=(aKR _).symm;rw[et]at K2;have bc:Hid (m≠[]↔0<k):=hid (by rw[←b1,List.length_pos_iff]);have bh:=hid b1;have ak:Hid (m.length=(m.map encStr).length):=hid (by simp);clear et c1 c2 aj az ah af KN KT b1;generalize (vr.tx S (nP S q 0) 0).2.1=q2 at *;generalize (vr.tx S (nP S q 0) 0).1.data.toList=t at *;generalize nP S q 0=q1 at *;generalize nV S q 0=v at *;have bm:m.length≤n:=by have:=bh.out;omega
  have bk:n≤6000:=by omega
  generalize b8:m.getLastD [] = a at *;replace b8:=hid b8;have HR:=hid hU.symm;clear hU;unfold encStr;go_wp2_with fail;refine K1.out.mono ?_;rintro e w2 ⟨rfl,h1,f1⟩;have H2:=hid (HQ.out.step h1 f1);clear h1 f1 K1 HQ a6 a5;go_wp2_with fail;refine(K2.out _ H2.out).mono ?_;rintro e w3 ⟨rfl,h1,f1⟩;have H3:=hid (H2.out.step h1 f1);clear h1 f1 K2 H2;obtain⟨a6,a5⟩:=H3.out.c2;by_cases c3:a.length<v
  case pos=>
   have hR:Hid (R.2.2.1=2):=hid (HB.out 2 (by rw[HR.out.trans (if_pos c3)]) (by decide));have d3:decide ((a.length:Int)<(v:Int))=true:=aC (by omega);have H4:=hid (H3.out.setE 2);clear HR HB HO Hi a8 a9 a7;have J:=hid H4.out.on;obtain⟨ap,ar⟩:=H4.out.c2;have e9:((2:Int) != 0)=true:=by decide
   go_wp2_with fail;go_quiet (fail);have aa:=hid (sf.eZ J.out J.out.size nq);go_wp2_with fail;go_ret2;exact rV hR.out (by decide) aa.out
  have HR:=hid (HR.out.trans (if_neg c3));have d3:decide ((a.length:Int)<(v:Int))=false:=aB (by omega);have b7:(a.take v).length=v:=by rw[List.length_take];omega
  have ah:(a.take v++t).length=v+t.length:=by rw[aF,b7]
  have bi:(ByteArray.mk a.toArray).size=a.length:=by simp[ByteArray.size]
  have bo:∀W,(Instr.slice 9 (.string ⟨a.toArray⟩) none (some (.int .i64 (v:Int))) none).run Tryz.prog W=.ok (.string ⟨(a.take v).toArray⟩) W:=by
   intro W;rw[run_slice_string_h (P:=Tryz.prog) W 9 ⟨a.toArray⟩ Tryz.underlying9 .i64 v (by omega) (by rw[bi];omega)];refine congrArg (fun z=>Result.ok (Value.string z) W) ?_
   apply ByteArray.ext
   apply Array.ext'
   rw[ByteArray.data_extract,Array.toList_extract,List.extract_eq_take_drop];simp
  have q1:¬9223372036854775807<(a.take v).length+t.length:=by rw[b7];omega
  have s1:(ByteArray.mk (a.take v).toArray++ByteArray.mk t.toArray)=ByteArray.mk (a.take v++t).toArray:=ByteArray.mk_append_mk _ _;have KS:=hid (fun w'=>aC3 w' a (a.take v++t) (by unfold maxLen;omega) (by rw[ah];unfold maxLen;omega));unfold encStr at KS;have ao:v≤shr a (a.take v++t):=aDE v a _ (by omega) (by rw[ah];omega) (by rw[List.take_left' b7]);have b2:=xB a (a.take v++t);generalize a.take v++t=x at *;generalize a.take v=a1 at *;by_cases c4:1000<x.length
  case pos=>
   have hR:Hid (R.2.2.1=9):=hid (HB.out 9 (by rw[HR.out.trans (if_pos c4)]) (by decide));have d4:decide ((1000:Int)<(x.length:Int))=true:=aC (by omega);have H4:=hid (H3.out.setE 9);clear HR HB HO KS ao b2;go_upto_region 21 with fail;generalize ag:w3.setCell ⟨r,2,none⟩ (.int .i64 9)=wz at *;clear ag;have a3:=hid (H4.out.seg.alloc (.cells #[.string ⟨x.toArray⟩] 9));have ad:Hid (Fr [] wz (World.alloc (wz) (.cells #[.string ⟨x.toArray⟩] 9))):=hid ((Fr.refl [] _).alloc _)
   go_wp2_with (at_builtin
                refine dQ (u:=encStr x) rfl (.tmp 85) (.tmp 87) _ rfl a3.out ak.out Tryz.underlying22 Hi.out a8.out a9.out a7.out rfl rfl rfl (dH _ _ _) rfl (by omega) (by omega) ?_;intro A3 a2 w4 a0 f3 a4;have Y:=hid (vT (x:=x) H4.out ad.out a0 f3 a4)
                clear a0 f3 a4)
   go_roundw
   case rel=>exact⟨k+1,_,9,m++[x],A3,a2,by omega,by first | rfl | (rw[aF];rfl),by rw[eH],by go_num,Y,hid (Or.inr ⟨by decide,hR.out⟩)⟩
   case measure=>simp[intOf];omega
  have HR:=hid (HR.out.trans (if_neg c4));have d4:decide ((1000:Int)<(x.length:Int))=false:=aB (by omega);have am:Op.bytesLess x a=decide (x<a):=mD x a;by_cases au:0<k
  case neg=>
   have e5:decide ((0:Int)<(k:Int))=false:=aB (by omega);have e7:decide (0<k)=false:=aB au;have bj:=hid au;have ai:¬(m≠[]∧¬a<x):=fun h=>au (bc.out.1 h.1)
   clear am au;have HR:=hid (HR.out.trans (if_neg ai));clear ai;by_cases c6:v<shr a x
   case pos=>
    have hR:Hid (R.2.2.1=3):=hid (HB.out 3 (by rw[HR.out.trans (if_pos c6)]) (by decide));have d6:(((shr a x:Nat):Int) != (v:Int))=true:=by rw[bne_iff_ne];omega
    clear HR HB HO ao;generalize shr a x=u at *;go_wp2_with fail;refine(KS.out _).mono ?_;rintro e wb ⟨rfl,b3⟩;have H4:=hid (H3.out.bel b3);obtain⟨b5,b4⟩:=H4.out.c2;have H5:=hid (H4.out.setE 3);clear b3 KS H3 a6 a5;go_upto_region 21 with fail;generalize ag:wb.setCell ⟨r,2,none⟩ (.int .i64 3)=wz at *;clear ag;have a3:=hid (H5.out.seg.alloc (.cells #[.string ⟨x.toArray⟩] 9));have ad:Hid (Fr [] wz (World.alloc (wz) (.cells #[.string ⟨x.toArray⟩] 9))):=hid ((Fr.refl [] _).alloc _)
    go_wp2_with (at_builtin
                 refine dQ (u:=encStr x) rfl (.tmp 85) (.tmp 87) _ rfl a3.out ak.out Tryz.underlying22 Hi.out a8.out a9.out a7.out rfl rfl rfl (dH _ _ _) rfl (by omega) (by omega) ?_;intro A3 a2 w4 a0 f3 a4;have Y:=hid (vT (x:=x) H5.out ad.out a0 f3 a4)
                 clear a0 f3 a4)
    go_roundw
    case rel=>exact⟨k+1,_,3,m++[x],A3,a2,by omega,by first | rfl | (rw[aF];rfl),by rw[eH],by go_num,Y,hid (Or.inr ⟨by decide,hR.out⟩)⟩
    case measure=>simp[intOf];omega
   have HR:=hid (HR.out.trans (if_neg c6));have aw:shr a x=v:=by omega
   have b6:=hid (HO.out q2 x HR.out);have d6:(((shr a x:Nat):Int) != (v:Int))=false:=by rw[aw];simp
   clear HR HB HO ao aw;generalize shr a x=u at *;go_wp2_with fail;refine(KS.out _).mono ?_;rintro e wb ⟨rfl,b3⟩;have H4:=hid (H3.out.bel b3);obtain⟨b5,b4⟩:=H4.out.c2;clear b3 KS H3 a6 a5;have a3:=hid (H4.out.seg.alloc (.cells #[.string ⟨x.toArray⟩] 9));have ad:Hid (Fr [] wb (World.alloc (wb) (.cells #[.string ⟨x.toArray⟩] 9))):=hid ((Fr.refl [] _).alloc _)
   go_wp2_with (at_builtin
                refine dQ (u:=encStr x) rfl (.tmp 85) (.tmp 87) _ rfl a3.out ak.out Tryz.underlying22 Hi.out a8.out a9.out a7.out rfl rfl rfl (dH _ _ _) rfl (by omega) (by omega) ?_;intro A3 a2 w4 a0 f3 a4;have Y:=hid (vT (x:=x) H4.out ad.out a0 f3 a4)
                clear a0 f3 a4)
   go_roundw
   case rel=>exact⟨k+1,_,0,m++[x],A3,a2,by omega,by first | rfl | (rw[aF];rfl),by rw[eH],by go_num,Y,b6⟩
   case measure=>simp[intOf];omega
  have e5:decide ((0:Int)<(k:Int))=true:=aC (by omega);have e7:decide (0<k)=true:=aC au;by_cases c5:a<x
  case pos=>
   have ai:¬(m≠[]∧¬a<x):=fun h=>h.2 c5
   have e2:(x==a)=false:=by
    rw[bI];rintro rfl;exact List.lt_irrefl _ c5
   have e6:Op.bytesLess x a=false:=by rw[am];exact aB (fun h=>List.lt_irrefl a (List.lt_trans c5 h))
   have bn:=fun W=>zQ x a false (by rw[e6,e2];rfl) W
   clear am c5;have HR:=hid (HR.out.trans (if_neg ai));clear ai;by_cases c6:v<shr a x
   case pos=>
    have hR:Hid (R.2.2.1=3):=hid (HB.out 3 (by rw[HR.out.trans (if_pos c6)]) (by decide));have d6:(((shr a x:Nat):Int) != (v:Int))=true:=by rw[bne_iff_ne];omega
    clear HR HB HO ao;generalize shr a x=u at *;go_wp2_with fail;refine(KS.out _).mono ?_;rintro e wb ⟨rfl,b3⟩;have H4:=hid (H3.out.bel b3);obtain⟨b5,b4⟩:=H4.out.c2;have H5:=hid (H4.out.setE 3);clear b3 KS H3 a6 a5;go_upto_region 21 with fail;generalize ag:wb.setCell ⟨r,2,none⟩ (.int .i64 3)=wz at *;clear ag;have a3:=hid (H5.out.seg.alloc (.cells #[.string ⟨x.toArray⟩] 9));have ad:Hid (Fr [] wz (World.alloc (wz) (.cells #[.string ⟨x.toArray⟩] 9))):=hid ((Fr.refl [] _).alloc _)
    go_wp2_with (at_builtin
                 refine dQ (u:=encStr x) rfl (.tmp 85) (.tmp 87) _ rfl a3.out ak.out Tryz.underlying22 Hi.out a8.out a9.out a7.out rfl rfl rfl (dH _ _ _) rfl (by omega) (by omega) ?_;intro A3 a2 w4 a0 f3 a4;have Y:=hid (vT (x:=x) H5.out ad.out a0 f3 a4)
                 clear a0 f3 a4)
    go_roundw
    case rel=>exact⟨k+1,_,3,m++[x],A3,a2,by omega,by first | rfl | (rw[aF];rfl),by rw[eH],by go_num,Y,hid (Or.inr ⟨by decide,hR.out⟩)⟩
    case measure=>simp[intOf];omega
   have HR:=hid (HR.out.trans (if_neg c6));have aw:shr a x=v:=by omega
   have b6:=hid (HO.out q2 x HR.out);have d6:(((shr a x:Nat):Int) != (v:Int))=false:=by rw[aw];simp
   clear HR HB HO ao aw;generalize shr a x=u at *;go_wp2_with fail;refine(KS.out _).mono ?_;rintro e wb ⟨rfl,b3⟩;have H4:=hid (H3.out.bel b3);obtain⟨b5,b4⟩:=H4.out.c2;clear b3 KS H3 a6 a5;have a3:=hid (H4.out.seg.alloc (.cells #[.string ⟨x.toArray⟩] 9));have ad:Hid (Fr [] wb (World.alloc (wb) (.cells #[.string ⟨x.toArray⟩] 9))):=hid ((Fr.refl [] _).alloc _)
   go_wp2_with (at_builtin
                refine dQ (u:=encStr x) rfl (.tmp 85) (.tmp 87) _ rfl a3.out ak.out Tryz.underlying22 Hi.out a8.out a9.out a7.out rfl rfl rfl (dH _ _ _) rfl (by omega) (by omega) ?_;intro A3 a2 w4 a0 f3 a4;have Y:=hid (vT (x:=x) H4.out ad.out a0 f3 a4)
                clear a0 f3 a4)
   go_roundw
   case rel=>exact⟨k+1,_,0,m++[x],A3,a2,by omega,by first | rfl | (rw[aF];rfl),by rw[eH],by go_num,Y,b6⟩
   case measure=>simp[intOf];omega
  have ai:m≠[]∧¬a<x:=⟨bc.out.2 au,c5⟩;have hR:Hid (R.2.2.1=13):=hid (HB.out 13 (by rw[HR.out.trans (if_pos ai)]) (by decide));have H4:=hid (H3.out.setE 13);have hcs:(Op.bytesLess x a=true)∨(Op.bytesLess x a=false∧(x==a)=true):=by
   rcases mP.tot x a with h | h | h
   ·exact Or.inl (by rw[am];exact aC h)
   ·subst h
    exact Or.inr ⟨by rw[am];exact aB (List.lt_irrefl _),by simp⟩
   ·exact absurd h c5
  clear HR HB HO KS ao b2 am ai c5;rcases hcs with e6 | ⟨e6,e2⟩
  ·go_upto_region 21 with fail
   generalize ag:w3.setCell ⟨r,2,none⟩ (.int .i64 13)=wz at *;clear ag;have a3:=hid (H4.out.seg.alloc (.cells #[.string ⟨x.toArray⟩] 9));have ad:Hid (Fr [] wz (World.alloc (wz) (.cells #[.string ⟨x.toArray⟩] 9))):=hid ((Fr.refl [] _).alloc _)
   go_wp2_with (at_builtin
                refine dQ (u:=encStr x) rfl (.tmp 85) (.tmp 87) _ rfl a3.out ak.out Tryz.underlying22 Hi.out a8.out a9.out a7.out rfl rfl rfl (dH _ _ _) rfl (by omega) (by omega) ?_;intro A3 a2 w4 a0 f3 a4;have Y:=hid (vT (x:=x) H4.out ad.out a0 f3 a4)
                clear a0 f3 a4)
   go_roundw
   case rel=>exact⟨k+1,_,13,m++[x],A3,a2,by omega,by first | rfl | (rw[aF];rfl),by rw[eH],by go_num,Y,hid (Or.inr ⟨by decide,hR.out⟩)⟩
   case measure=>simp[intOf];omega
  ·go_upto_region 21 with fail
   generalize ag:w3.setCell ⟨r,2,none⟩ (.int .i64 13)=wz at *;clear ag;have a3:=hid (H4.out.seg.alloc (.cells #[.string ⟨x.toArray⟩] 9));have ad:Hid (Fr [] wz (World.alloc (wz) (.cells #[.string ⟨x.toArray⟩] 9))):=hid ((Fr.refl [] _).alloc _)
   go_wp2_with (at_builtin
                refine dQ (u:=encStr x) rfl (.tmp 85) (.tmp 87) _ rfl a3.out ak.out Tryz.underlying22 Hi.out a8.out a9.out a7.out rfl rfl rfl (dH _ _ _) rfl (by omega) (by omega) ?_;intro A3 a2 w4 a0 f3 a4;have Y:=hid (vT (x:=x) H4.out ad.out a0 f3 a4)
                clear a0 f3 a4)
   go_roundw
   case rel=>exact⟨k+1,_,13,m++[x],A3,a2,by omega,by first | rfl | (rw[aF];rfl),by rw[eH],by go_num,Y,hid (Or.inr ⟨by decide,hR.out⟩)⟩
   case measure=>simp[intOf];omega
end po
end Go.Proofs.YtdmmkjijgoiecaaGreatDoor
