import Derived.Test.YtdmmkjijgoiecaaGreatDoorY22
set_option linter.all false
set_option maxHeartbeats 4000000
namespace Go.Proofs.YtdmmkjijgoiecaaGreatDoor
open Lib(hid)
set_option maxRecDepth 100000
namespace nm
open RowKit Go.Sort
def dU(s:ByteArray)(w:World)(e:Ending)(w':World):Prop:=e=.returned (.tuple #[.string (fn0 s),.int .i64 (iQ s),.string (jY s),.string (iU s),.int .i64 (kW s)])∧∃n,w'=w.drewN n
theorem eQ(s:ByteArray)(w:World)(hs:s.size≤maxLen):Calls Tryz.prog 195 #[.string s] w fun e w'=>e=.returned (.tuple #[.string (fn0 s),.string (bK s)])∧∃n,w'=w.drewN n:=dg.aAn s w hs
theorem dB(s:ByteArray)(w:World)(hs:s.size≤maxLen):Calls Tryz.prog 195 #[.string (s.extract 1 s.size)] w fun e w'=>e=.returned (.tuple #[.string (fn0 (bL s)),.string (bK (bL s))])∧∃n,w'=w.drewN n:=dg.aAn (bL s) w (aZ (fJ s) hs)
theorem jJ(s:ByteArray)(w:World)(hs:s.size≤maxLen):Calls Tryz.prog 168 #[.string s] w fun e w'=>e=.returned (.tuple #[.int .i64 (dg.rd s).1,.int .i64 (dg.rd s).2])∧w=w':=dg.vB s w hs
theorem lJ(s:ByteArray)(w:World)(hs:s.size≤maxLen):Calls Tryz.prog 168 #[.string (s.extract 1 s.size)] w fun e w'=>e=.returned (.tuple #[.int .i64 (dg.rd (bL s)).1,.int .i64 (dg.rd (bL s)).2])∧w=w':=dg.vB (bL s) w (aZ (fJ s) hs)
theorem kL{s:ByteArray}{c:Int}{J m t Y:ByteArray}{l:Int}(eC:pC (bK s)=(c,J))(eM:pM J=(m,t,Y))(eL:pL Y=l):iQ s=c∧jY s=m∧iU s=t∧kW s=l:=by
 unfold iQ jY iU kW;rw[eC];dsimp only;rw[eM];exact⟨rfl,rfl,rfl,eL⟩
theorem lens(s r:ByteArray):(bK s).size≤s.size∧(bK (bL (bK s))).size≤(bL (bK s)).size∧(bL (bK s)).size≤(bK s).size∧(bL r).size≤r.size∧(bK (bL r)).size≤(bL r).size∧(fn0 (bL (bK s))).size≤(bL (bK s)).size:=
 ⟨dR s,dR _,fJ _,fJ _,dR _,gJ _⟩
theorem fO(r:ByteArray)(h:0<r.size):((r.extract 0 1).toList==[40])=decide (bM r=40):=by
 rw[ByteArray.toList_eq,gF];have hl:=dg.cZ r;rcases hr:r.data.toList with _ | ⟨c,t⟩
 ·rw[hr]at hl;simp at hl;omega
 ·unfold bM
  rw[hr,List.headD_cons];have e:((c :: t).drop 0).take (1-0)=[c]:=rfl;rw[e,Bool.eq_iff_iff,beq_iff_eq,bJ];constructor
  ·intro J
   have:c=40:=by simpa using J
   rw[this];rfl
  ·intro J
   have:c=40:=by apply UInt8.toNat_inj.1;show c.toNat=40;omega
   rw[this]
theorem jX(r:ByteArray):(r.toList==[41])=decide (r=sQ):=by
 rw[ByteArray.toList_eq,Bool.eq_iff_iff,beq_iff_eq,bJ];exact⟨fun h=>eY h,fun h=>by rw[h];rfl⟩
theorem aGW(s:ByteArray)(w:World)(hs:s.size≤maxLen)(J:(bK s).size=0):Calls Tryz.prog 167 #[.string s] w (dU s w):=by
 have eC:pC (bK s)=((0:Int),(bK s)):=by unfold pC;rw[if_pos (Or.inl J)]
 have eM:pM (bK s)=(⟨#[]⟩,⟨#[]⟩,(bK s)):=by unfold pM;rw[if_pos (Or.inl J)]
 have eL:pL (bK s)=(-1:Int):=by unfold pL;rw[if_pos (Or.inl J)]
 have Hv:=hid (kL eC eM eL);clear eC eM eL;obtain⟨l1,l2,l3,l4,l5,l6⟩:=lens s (bK s);have K1:=hid (fun w=>eQ s w hs);clear l2 l3 l4 l5 l6;generalize bK s=r at *;generalize Y:fn0 s=fv at *;have Hf:=hid Y;clear Y;have a0:=dg.fC r J;clear J;unfold maxLen at hs;go_enter Tryz.func167,Tryz.ntmps167;go_wp2_with fail;refine(K1.out _).mono ?_;rintro e w' ⟨rfl,q1,rfl⟩;go_wp2_with fail;refine bodyPost_ret (v:=.tuple #[.string fv,.int .i64 0,.string ⟨#[]⟩,.string ⟨#[]⟩,.int .i64 (-1)]) (by simp only[results,Tryz.results167];go_simp) rfl ?_;exact⟨by rw[Hf.out,Hv.out.1,Hv.out.2.1,Hv.out.2.2.1,Hv.out.2.2.2],_,rfl⟩
theorem aGv(s:ByteArray)(w:World)(hs:s.size≤maxLen)(a0:¬(bK s).size=0)(a1:bM (bK s)≠126)(J:bM (bK s)=43):Calls Tryz.prog 167 #[.string s] w (dU s w):=by
 have eC:pC (bK s)=((0:Int),(bK s)):=by unfold pC;rw[if_pos (Or.inr a1)]
 have eM:pM (bK s)=(⟨#[]⟩,⟨#[]⟩,(bK s)):=by unfold pM;rw[if_pos (Or.inr J)]
 have eL:pL (bK s)=(dg.rd (bL (bK s))).1:=by unfold pL;rw[if_neg (by rintro(g | g);exact a0 g;exact g J)]
 have Hv:=hid (kL eC eM eL);clear eC eM eL;obtain⟨l1,l2,l3,l4,l5,l6⟩:=lens s (bK s);have K1:=hid (fun w=>eQ s w hs);have K5:=hid (fun w=>lJ (bK s) w (by omega));clear l2 l3 l4 l5 l6;generalize (dg.rd (bL (bK s))).1=lv at *;generalize (dg.rd (bL (bK s))).2=le at *;generalize bK s=r at *;generalize a2:fn0 s=fv at *;have Hf:=hid a2;clear a2;have er:0<r.size:=by omega
 have a5:=dg.bU r a0;have Y:bM r=(r[0].toNat:Int):=by unfold bM;rw[dg.bS r er]
 have a6:((r[0].toNat:Int)==126)=false:=by rw[←Y,bI];exact a1
 have a3:((r[0].toNat:Int) != 43)=false:=by rw[←Y,J];rfl
 have a4:((r[0].toNat:Int)==43)=true:=by rw[←Y,J];rfl
 clear a1 a0;clear J;clear Y;unfold maxLen at hs;go_enter Tryz.func167,Tryz.ntmps167;go_wp2_with fail;refine(K1.out _).mono ?_;rintro e w' ⟨rfl,q1,rfl⟩;go_wp2_with fail;refine(K5.out _).mono ?_;rintro e w' ⟨rfl,rfl⟩;go_wp2_with fail;refine bodyPost_ret (v:=.tuple #[.string fv,.int .i64 0,.string ⟨#[]⟩,.string ⟨#[]⟩,.int .i64 lv]) (by simp only[results,Tryz.results167];go_simp) rfl ?_;exact⟨by rw[Hf.out,Hv.out.1,Hv.out.2.1,Hv.out.2.2.1,Hv.out.2.2.2],_,rfl⟩
theorem aGl(s:ByteArray)(w:World)(hs:s.size≤maxLen)(a1:¬(bK s).size=0)(a2:bM (bK s)≠126)(a0:bM (bK s)≠43)(J:bM (bK s)≠40)(a3:(bK (bL (bK s))).size=0):Calls Tryz.prog 167 #[.string s] w (dU s w):=by
 have eC:pC (bK s)=((0:Int),(bK s)):=by unfold pC;rw[if_pos (Or.inr a2)]
 have eM:pM (bK s)=((bK s).extract 0 1,fn0 (bL (bK s)),(bK (bL (bK s)))):=by unfold pM;rw[if_neg (by rintro(g | g);exact a1 g;exact a0 g),if_neg (fun g=>J g.1)]
 have eL:pL (bK (bL (bK s)))=(-1:Int):=by unfold pL;rw[if_pos (Or.inl a3)]
 have Hv:=hid (kL eC eM eL);clear eC eM eL;obtain⟨l1,l2,l3,l4,l5,l6⟩:=lens s (bK s);have K1:=hid (fun w=>eQ s w hs);have K4:=hid (fun w=>dB (bK s) w (by omega));clear l2 l3 l4 l5 l6;generalize (bK (bL (bK s)))=r3 at *;generalize fn0 (bL (bK s))=tv at *;generalize bK s=r at *;generalize a4:fn0 s=fv at *;have Hf:=hid a4;clear a4;have er:0<r.size:=by omega
 have a8:=dg.bU r a1;have Y:bM r=(r[0].toNat:Int):=by unfold bM;rw[dg.bS r er]
 have a9:((r[0].toNat:Int)==126)=false:=by rw[←Y,bI];exact a2
 have a6:((r[0].toNat:Int) != 43)=true:=by rw[←Y,bne_iff_ne];exact a0
 have a5:=fO r er;rw[aB J]at a5;clear J;have a7:=dg.fC r3 a3;clear a3;clear a2 a1;clear a0;clear Y;unfold maxLen at hs;go_enter Tryz.func167,Tryz.ntmps167;go_wp2_with fail;refine(K1.out _).mono ?_;rintro e w' ⟨rfl,q1,rfl⟩;go_wp2_with fail;refine(K4.out _).mono ?_;rintro e w' ⟨rfl,q2,rfl⟩;go_wp2_with fail;refine bodyPost_ret (v:=.tuple #[.string fv,.int .i64 0,.string (r.extract 0 1),.string tv,.int .i64 (-1)]) (by simp only[results,Tryz.results167];go_simp) rfl ?_;exact⟨by rw[Hf.out,Hv.out.1,Hv.out.2.1,Hv.out.2.2.1,Hv.out.2.2.2],_,rfl⟩
theorem aGe(s:ByteArray)(w:World)(hs:s.size≤maxLen)(a1:¬(bK s).size=0)(a2:bM (bK s)≠126)(a0:bM (bK s)≠43)(J:bM (bK s)≠40)(a6:¬(bK (bL (bK s))).size=0)(a3:bM (bK (bL (bK s)))≠43):Calls Tryz.prog 167 #[.string s] w (dU s w):=by
 have eC:pC (bK s)=((0:Int),(bK s)):=by unfold pC;rw[if_pos (Or.inr a2)]
 have eM:pM (bK s)=((bK s).extract 0 1,fn0 (bL (bK s)),(bK (bL (bK s)))):=by unfold pM;rw[if_neg (by rintro(g | g);exact a1 g;exact a0 g),if_neg (fun g=>J g.1)]
 have eL:pL (bK (bL (bK s)))=(-1:Int):=by unfold pL;rw[if_pos (Or.inr a3)]
 have Hv:=hid (kL eC eM eL);clear eC eM eL;obtain⟨l1,l2,l3,l4,l5,l6⟩:=lens s (bK s);have K1:=hid (fun w=>eQ s w hs);have K4:=hid (fun w=>dB (bK s) w (by omega));clear l2 l3 l4 l5 l6;generalize (bK (bL (bK s)))=r3 at *;generalize fn0 (bL (bK s))=tv at *;generalize bK s=r at *;generalize a5:fn0 s=fv at *;have Hf:=hid a5;clear a5;have er:0<r.size:=by omega
 have aa:=dg.bU r a1;have Y:bM r=(r[0].toNat:Int):=by unfold bM;rw[dg.bS r er]
 have ad:((r[0].toNat:Int)==126)=false:=by rw[←Y,bI];exact a2
 have a8:((r[0].toNat:Int) != 43)=true:=by rw[←Y,bne_iff_ne];exact a0
 have a7:=fO r er;rw[aB J]at a7;clear J;have eq:0<r3.size:=by omega
 have a9:=dg.bU r3 a6;have a4:bM r3=(r3[0].toNat:Int):=by unfold bM;rw[dg.bS r3 eq]
 clear a6;have ae:((r3[0].toNat:Int)==43)=false:=by rw[←a4,bI];exact a3
 clear a3 a4;clear a2 a1;clear a0;clear Y;unfold maxLen at hs;go_enter Tryz.func167,Tryz.ntmps167;go_wp2_with fail;refine(K1.out _).mono ?_;rintro e w' ⟨rfl,q1,rfl⟩;go_wp2_with fail;refine(K4.out _).mono ?_;rintro e w' ⟨rfl,q2,rfl⟩;go_wp2_with fail;refine bodyPost_ret (v:=.tuple #[.string fv,.int .i64 0,.string (r.extract 0 1),.string tv,.int .i64 (-1)]) (by simp only[results,Tryz.results167];go_simp) rfl ?_;exact⟨by rw[Hf.out,Hv.out.1,Hv.out.2.1,Hv.out.2.2.1,Hv.out.2.2.2],_,rfl⟩
theorem aGf(s:ByteArray)(w:World)(hs:s.size≤maxLen)(a1:¬(bK s).size=0)(a2:bM (bK s)≠126)(a0:bM (bK s)≠43)(J:bM (bK s)≠40)(a3:¬(bK (bL (bK s))).size=0)(a4:bM (bK (bL (bK s)))=43):Calls Tryz.prog 167 #[.string s] w (dU s w):=by
 have eC:pC (bK s)=((0:Int),(bK s)):=by unfold pC;rw[if_pos (Or.inr a2)]
 have eM:pM (bK s)=((bK s).extract 0 1,fn0 (bL (bK s)),(bK (bL (bK s)))):=by unfold pM;rw[if_neg (by rintro(g | g);exact a1 g;exact a0 g),if_neg (fun g=>J g.1)]
 have eL:pL (bK (bL (bK s)))=(dg.rd (bL (bK (bL (bK s))))).1:=by unfold pL;rw[if_neg (by rintro(g | g);exact a3 g;exact g a4)]
 have Hv:=hid (kL eC eM eL);clear eC eM eL;obtain⟨l1,l2,l3,l4,l5,l6⟩:=lens s (bK s);have K1:=hid (fun w=>eQ s w hs);have K4:=hid (fun w=>dB (bK s) w (by omega));have K5:=hid (fun w=>lJ (bK (bL (bK s))) w (by omega));clear l2 l3 l4 l5 l6;generalize (dg.rd (bL (bK (bL (bK s))))).1=lv at *;generalize (dg.rd (bL (bK (bL (bK s))))).2=le at *;generalize (bK (bL (bK s)))=r3 at *;generalize fn0 (bL (bK s))=tv at *;generalize bK s=r at *;generalize a6:fn0 s=fv at *;have Hf:=hid a6;clear a6;have er:0<r.size:=by omega
 have aa:=dg.bU r a1;have Y:bM r=(r[0].toNat:Int):=by unfold bM;rw[dg.bS r er]
 have ad:((r[0].toNat:Int)==126)=false:=by rw[←Y,bI];exact a2
 have a8:((r[0].toNat:Int) != 43)=true:=by rw[←Y,bne_iff_ne];exact a0
 have a7:=fO r er;rw[aB J]at a7;clear J;have eq:0<r3.size:=by omega
 have a9:=dg.bU r3 a3;have a5:bM r3=(r3[0].toNat:Int):=by unfold bM;rw[dg.bS r3 eq]
 clear a3;have ae:((r3[0].toNat:Int)==43)=true:=by rw[←a5,a4];rfl
 clear a4 a5;clear a2 a1;clear a0;clear Y;unfold maxLen at hs;go_enter Tryz.func167,Tryz.ntmps167;go_wp2_with fail;refine(K1.out _).mono ?_;rintro e w' ⟨rfl,q1,rfl⟩;go_wp2_with fail;refine(K4.out _).mono ?_;rintro e w' ⟨rfl,q2,rfl⟩;go_wp2_with fail;refine(K5.out _).mono ?_;rintro e w' ⟨rfl,rfl⟩;go_wp2_with fail;refine bodyPost_ret (v:=.tuple #[.string fv,.int .i64 0,.string (r.extract 0 1),.string tv,.int .i64 lv]) (by simp only[results,Tryz.results167];go_simp) rfl ?_;exact⟨by rw[Hf.out,Hv.out.1,Hv.out.2.1,Hv.out.2.2.1,Hv.out.2.2.2],_,rfl⟩
theorem aG4(s:ByteArray)(w:World)(hs:s.size≤maxLen)(a0:¬(bK s).size=0)(a1:bM (bK s)≠126)(Y:bM (bK s)≠43)(a4:bM (bK s)=40)(a2:(bK (bL (bK s)))≠sQ)(a3:(bK (bL (bK s))).size=0):Calls Tryz.prog 167 #[.string s] w (dU s w):=by
 have eC:pC (bK s)=((0:Int),(bK s)):=by unfold pC;rw[if_pos (Or.inr a1)]
 have eM:pM (bK s)=((bK s).extract 0 1,fn0 (bL (bK s)),(bK (bL (bK s)))):=by unfold pM;rw[if_neg (by rintro(g | g);exact a0 g;exact Y g),if_neg (fun g=>a2 g.2)]
 have eL:pL (bK (bL (bK s)))=(-1:Int):=by unfold pL;rw[if_pos (Or.inl a3)]
 have Hv:=hid (kL eC eM eL);clear eC eM eL;obtain⟨l1,l2,l3,l4,l5,l6⟩:=lens s (bK s);have K1:=hid (fun w=>eQ s w hs);have K4:=hid (fun w=>dB (bK s) w (by omega));clear l2 l3 l4 l5 l6;generalize (bK (bL (bK s)))=r3 at *;generalize fn0 (bL (bK s))=tv at *;generalize bK s=r at *;generalize a5:fn0 s=fv at *;have Hf:=hid a5;clear a5;have er:0<r.size:=by omega
 have aa:=dg.bU r a0;have J:bM r=(r[0].toNat:Int):=by unfold bM;rw[dg.bS r er]
 have ad:((r[0].toNat:Int)==126)=false:=by rw[←J,bI];exact a1
 have a8:((r[0].toNat:Int) != 43)=true:=by rw[←J,bne_iff_ne];exact Y
 have a6:=fO r er;rw[aC a4]at a6;clear a4;have a7:=jX r3;rw[aB a2]at a7;clear a2;have a9:=dg.fC r3 a3;clear a3;clear a1 a0;clear Y;clear J;unfold maxLen at hs;go_enter Tryz.func167,Tryz.ntmps167;go_wp2_with fail;refine(K1.out _).mono ?_;rintro e w' ⟨rfl,q1,rfl⟩;go_wp2_with fail;refine(K4.out _).mono ?_;rintro e w' ⟨rfl,q2,rfl⟩;go_wp2_with fail;refine bodyPost_ret (v:=.tuple #[.string fv,.int .i64 0,.string (r.extract 0 1),.string tv,.int .i64 (-1)]) (by simp only[results,Tryz.results167];go_simp) rfl ?_;exact⟨by rw[Hf.out,Hv.out.1,Hv.out.2.1,Hv.out.2.2.1,Hv.out.2.2.2],_,rfl⟩
theorem aGC(s:ByteArray)(w:World)(hs:s.size≤maxLen)(a0:¬(bK s).size=0)(a1:bM (bK s)≠126)(Y:bM (bK s)≠43)(a4:bM (bK s)=40)(a2:(bK (bL (bK s)))≠sQ)(a7:¬(bK (bL (bK s))).size=0)(a3:bM (bK (bL (bK s)))≠43):Calls Tryz.prog 167 #[.string s] w (dU s w):=by
 have eC:pC (bK s)=((0:Int),(bK s)):=by unfold pC;rw[if_pos (Or.inr a1)]
 have eM:pM (bK s)=((bK s).extract 0 1,fn0 (bL (bK s)),(bK (bL (bK s)))):=by unfold pM;rw[if_neg (by rintro(g | g);exact a0 g;exact Y g),if_neg (fun g=>a2 g.2)]
 have eL:pL (bK (bL (bK s)))=(-1:Int):=by unfold pL;rw[if_pos (Or.inr a3)]
 have Hv:=hid (kL eC eM eL);clear eC eM eL;obtain⟨l1,l2,l3,l4,l5,l6⟩:=lens s (bK s);have K1:=hid (fun w=>eQ s w hs);have K4:=hid (fun w=>dB (bK s) w (by omega));clear l2 l3 l4 l5 l6;generalize (bK (bL (bK s)))=r3 at *;generalize fn0 (bL (bK s))=tv at *;generalize bK s=r at *;generalize a6:fn0 s=fv at *;have Hf:=hid a6;clear a6;have er:0<r.size:=by omega
 have ae:=dg.bU r a0;have J:bM r=(r[0].toNat:Int):=by unfold bM;rw[dg.bS r er]
 have af:((r[0].toNat:Int)==126)=false:=by rw[←J,bI];exact a1
 have aa:((r[0].toNat:Int) != 43)=true:=by rw[←J,bne_iff_ne];exact Y
 have a8:=fO r er;rw[aC a4]at a8;clear a4;have a9:=jX r3;rw[aB a2]at a9;clear a2;have eq:0<r3.size:=by omega
 have ad:=dg.bU r3 a7;have a5:bM r3=(r3[0].toNat:Int):=by unfold bM;rw[dg.bS r3 eq]
 clear a7;have ag:((r3[0].toNat:Int)==43)=false:=by rw[←a5,bI];exact a3
 clear a3 a5;clear a1 a0;clear Y;clear J;unfold maxLen at hs;go_enter Tryz.func167,Tryz.ntmps167;go_wp2_with fail;refine(K1.out _).mono ?_;rintro e w' ⟨rfl,q1,rfl⟩;go_wp2_with fail;refine(K4.out _).mono ?_;rintro e w' ⟨rfl,q2,rfl⟩;go_wp2_with fail;refine bodyPost_ret (v:=.tuple #[.string fv,.int .i64 0,.string (r.extract 0 1),.string tv,.int .i64 (-1)]) (by simp only[results,Tryz.results167];go_simp) rfl ?_;exact⟨by rw[Hf.out,Hv.out.1,Hv.out.2.1,Hv.out.2.2.1,Hv.out.2.2.2],_,rfl⟩
theorem aFV(s:ByteArray)(w:World)(hs:s.size≤maxLen)(a0:¬(bK s).size=0)(a1:bM (bK s)≠126)(Y:bM (bK s)≠43)(a5:bM (bK s)=40)(a2:(bK (bL (bK s)))≠sQ)(a3:¬(bK (bL (bK s))).size=0)(a4:bM (bK (bL (bK s)))=43):Calls Tryz.prog 167 #[.string s] w (dU s w):=by
 have eC:pC (bK s)=((0:Int),(bK s)):=by unfold pC;rw[if_pos (Or.inr a1)]
 have eM:pM (bK s)=((bK s).extract 0 1,fn0 (bL (bK s)),(bK (bL (bK s)))):=by unfold pM;rw[if_neg (by rintro(g | g);exact a0 g;exact Y g),if_neg (fun g=>a2 g.2)]
 have eL:pL (bK (bL (bK s)))=(dg.rd (bL (bK (bL (bK s))))).1:=by unfold pL;rw[if_neg (by rintro(g | g);exact a3 g;exact g a4)]
 have Hv:=hid (kL eC eM eL);clear eC eM eL;obtain⟨l1,l2,l3,l4,l5,l6⟩:=lens s (bK s);have K1:=hid (fun w=>eQ s w hs);have K4:=hid (fun w=>dB (bK s) w (by omega));have K5:=hid (fun w=>lJ (bK (bL (bK s))) w (by omega));clear l2 l3 l4 l5 l6;generalize (dg.rd (bL (bK (bL (bK s))))).1=lv at *;generalize (dg.rd (bL (bK (bL (bK s))))).2=le at *;generalize (bK (bL (bK s)))=r3 at *;generalize fn0 (bL (bK s))=tv at *;generalize bK s=r at *;generalize a7:fn0 s=fv at *;have Hf:=hid a7;clear a7;have er:0<r.size:=by omega
 have ae:=dg.bU r a0;have J:bM r=(r[0].toNat:Int):=by unfold bM;rw[dg.bS r er]
 have af:((r[0].toNat:Int)==126)=false:=by rw[←J,bI];exact a1
 have aa:((r[0].toNat:Int) != 43)=true:=by rw[←J,bne_iff_ne];exact Y
 have a8:=fO r er;rw[aC a5]at a8;clear a5;have a9:=jX r3;rw[aB a2]at a9;clear a2;have eq:0<r3.size:=by omega
 have ad:=dg.bU r3 a3;have a6:bM r3=(r3[0].toNat:Int):=by unfold bM;rw[dg.bS r3 eq]
 clear a3;have ag:((r3[0].toNat:Int)==43)=true:=by rw[←a6,a4];rfl
 clear a4 a6;clear a1 a0;clear Y;clear J;unfold maxLen at hs;go_enter Tryz.func167,Tryz.ntmps167;go_wp2_with fail;refine(K1.out _).mono ?_;rintro e w' ⟨rfl,q1,rfl⟩;go_wp2_with fail;refine(K4.out _).mono ?_;rintro e w' ⟨rfl,q2,rfl⟩;go_wp2_with fail;refine(K5.out _).mono ?_;rintro e w' ⟨rfl,rfl⟩;go_wp2_with fail;refine bodyPost_ret (v:=.tuple #[.string fv,.int .i64 0,.string (r.extract 0 1),.string tv,.int .i64 lv]) (by simp only[results,Tryz.results167];go_simp) rfl ?_;exact⟨by rw[Hf.out,Hv.out.1,Hv.out.2.1,Hv.out.2.2.1,Hv.out.2.2.2],_,rfl⟩
theorem aG1(s:ByteArray)(w:World)(hs:s.size≤maxLen)(a1:¬(bK s).size=0)(a2:bM (bK s)≠126)(a0:bM (bK s)≠43)(J:bM (bK s)=40)(a3:(bK (bL (bK s)))=sQ):Calls Tryz.prog 167 #[.string s] w (dU s w):=by
 have eC:pC (bK s)=((0:Int),(bK s)):=by unfold pC;rw[if_pos (Or.inr a2)]
 have eM:pM (bK s)=((bK s).extract 0 1,fn0 (bL (bK s)),⟨#[]⟩):=by unfold pM;rw[if_neg (by rintro(g | g);exact a1 g;exact a0 g),if_pos ⟨J,a3⟩]
 have eL:pL (⟨#[]⟩:ByteArray)=(-1:Int):=by unfold pL;rw[if_pos (Or.inl (show(⟨#[]⟩:ByteArray).size=0 from rfl))]
 have Hv:=hid (kL eC eM eL);clear eC eM eL;obtain⟨l1,l2,l3,l4,l5,l6⟩:=lens s (bK s);have K1:=hid (fun w=>eQ s w hs);have K4:=hid (fun w=>dB (bK s) w (by omega));clear l2 l3 l4 l5 l6;generalize (bK (bL (bK s)))=r3 at *;generalize fn0 (bL (bK s))=tv at *;generalize bK s=r at *;generalize a4:fn0 s=fv at *;have Hf:=hid a4;clear a4;have er:0<r.size:=by omega
 have a8:=dg.bU r a1;have Y:bM r=(r[0].toNat:Int):=by unfold bM;rw[dg.bS r er]
 have a9:((r[0].toNat:Int)==126)=false:=by rw[←Y,bI];exact a2
 have a7:((r[0].toNat:Int) != 43)=true:=by rw[←Y,bne_iff_ne];exact a0
 have a5:=fO r er;rw[aC J]at a5;clear J;have a6:=jX r3;rw[aC a3]at a6;clear a3;clear a2 a1;clear a0;clear Y;unfold maxLen at hs;go_enter Tryz.func167,Tryz.ntmps167;go_wp2_with fail;refine(K1.out _).mono ?_;rintro e w' ⟨rfl,q1,rfl⟩;go_wp2_with fail;refine(K4.out _).mono ?_;rintro e w' ⟨rfl,q2,rfl⟩;go_wp2_with fail;refine bodyPost_ret (v:=.tuple #[.string fv,.int .i64 0,.string (r.extract 0 1),.string tv,.int .i64 (-1)]) (by simp only[results,Tryz.results167];go_simp) rfl ?_;exact⟨by rw[Hf.out,Hv.out.1,Hv.out.2.1,Hv.out.2.2.1,Hv.out.2.2.2],_,rfl⟩
theorem aG5(s:ByteArray)(w:World)(hs:s.size≤maxLen)(a0:¬(bK s).size=0)(a1:bM (bK s)=126)(J:(bK (bL (bK s))).size=0):Calls Tryz.prog 167 #[.string s] w (dU s w):=by
 obtain⟨cv,Y⟩:∃cv,(dg.rd (fn0 (bL (bK s)))).1=cv:=⟨_,rfl⟩;have K3:∀w,Calls Tryz.prog 168 #[.string (fn0 (bL (bK s)))] w fun e w'=>e=.returned (.tuple #[.int .i64 cv,.int .i64 (dg.rd (fn0 (bL (bK s)))).2])∧w=w':=fun w=>by
  have:=jJ (fn0 (bL (bK s))) w (by have:=dR s;have:=fJ (bK s);have:=gJ (bL (bK s));omega);rw[Y]at this;exact this
 have K3:=hid K3;have eC:pC (bK s)=(cv,(bK (bL (bK s)))):=by unfold pC;rw[if_neg (by rintro(g | g);exact a0 g;exact g a1),Y]
 clear Y;have eM:pM (bK (bL (bK s)))=(⟨#[]⟩,⟨#[]⟩,(bK (bL (bK s)))):=by unfold pM;rw[if_pos (Or.inl J)]
 have eL:pL (bK (bL (bK s)))=(-1:Int):=by unfold pL;rw[if_pos (Or.inl J)]
 have Hv:=hid (kL eC eM eL);clear eC eM eL;obtain⟨l1,l2,l3,l4,l5,l6⟩:=lens s (bK (bL (bK s)));have K1:=hid (fun w=>eQ s w hs);have K2:=hid (fun w=>dB (bK s) w (by omega));clear l2 l3 l4 l5 l6;generalize (dg.rd (fn0 (bL (bK s)))).2=ce at *;generalize fn0 (bL (bK s))=ct at *;generalize bK (bL (bK s))=r2 at *;generalize bK s=r at *;generalize a3:fn0 s=fv at *;have Hf:=hid a3;clear a3;have er:0<r.size:=by omega
 have a5:=dg.bU r a0;have a2:bM r=(r[0].toNat:Int):=by unfold bM;rw[dg.bS r er]
 have a6:((r[0].toNat:Int)==126)=true:=by rw[←a2,a1];rfl
 have a4:=dg.fC r2 J;clear J;clear a1 a0;clear a2;unfold maxLen at hs;go_enter Tryz.func167,Tryz.ntmps167;go_wp2_with fail;refine(K1.out _).mono ?_;rintro e w' ⟨rfl,q1,rfl⟩;go_wp2_with fail;refine(K2.out _).mono ?_;rintro e w' ⟨rfl,q2,rfl⟩;go_wp2_with fail;refine(K3.out _).mono ?_;rintro e w' ⟨rfl,rfl⟩;go_wp2_with fail;refine bodyPost_ret (v:=.tuple #[.string fv,.int .i64 cv,.string ⟨#[]⟩,.string ⟨#[]⟩,.int .i64 (-1)]) (by simp only[results,Tryz.results167];go_simp) rfl ?_;exact⟨by rw[Hf.out,Hv.out.1,Hv.out.2.1,Hv.out.2.2.1,Hv.out.2.2.2],_,rfl⟩
theorem aFY(s:ByteArray)(w:World)(hs:s.size≤maxLen)(a2:¬(bK s).size=0)(a3:bM (bK s)=126)(a4:¬(bK (bL (bK s))).size=0)(J:bM (bK (bL (bK s)))=43):Calls Tryz.prog 167 #[.string s] w (dU s w):=by
 obtain⟨cv,a0⟩:∃cv,(dg.rd (fn0 (bL (bK s)))).1=cv:=⟨_,rfl⟩;have K3:∀w,Calls Tryz.prog 168 #[.string (fn0 (bL (bK s)))] w fun e w'=>e=.returned (.tuple #[.int .i64 cv,.int .i64 (dg.rd (fn0 (bL (bK s)))).2])∧w=w':=fun w=>by
  have:=jJ (fn0 (bL (bK s))) w (by have:=dR s;have:=fJ (bK s);have:=gJ (bL (bK s));omega);rw[a0]at this;exact this
 have K3:=hid K3;have eC:pC (bK s)=(cv,(bK (bL (bK s)))):=by unfold pC;rw[if_neg (by rintro(g | g);exact a2 g;exact g a3),a0]
 clear a0;have eM:pM (bK (bL (bK s)))=(⟨#[]⟩,⟨#[]⟩,(bK (bL (bK s)))):=by unfold pM;rw[if_pos (Or.inr J)]
 have eL:pL (bK (bL (bK s)))=(dg.rd (bL (bK (bL (bK s))))).1:=by unfold pL;rw[if_neg (by rintro(g | g);exact a4 g;exact g J)]
 have Hv:=hid (kL eC eM eL);clear eC eM eL;obtain⟨l1,l2,l3,l4,l5,l6⟩:=lens s (bK (bL (bK s)));have K1:=hid (fun w=>eQ s w hs);have K2:=hid (fun w=>dB (bK s) w (by omega));have K5:=hid (fun w=>lJ (bK (bL (bK s))) w (by omega));clear l2 l3 l4 l5 l6;generalize (dg.rd (fn0 (bL (bK s)))).2=ce at *;generalize fn0 (bL (bK s))=ct at *;generalize (dg.rd (bL (bK (bL (bK s))))).1=lv at *;generalize (dg.rd (bL (bK (bL (bK s))))).2=le at *;generalize bK (bL (bK s))=Y at *;generalize bK s=r at *;generalize a6:fn0 s=fv at *;have Hf:=hid a6;clear a6;have er:0<r.size:=by omega
 have aa:=dg.bU r a2;have a5:bM r=(r[0].toNat:Int):=by unfold bM;rw[dg.bS r er]
 have ad:((r[0].toNat:Int)==126)=true:=by rw[←a5,a3];rfl
 have ep:0<Y.size:=by omega
 have a8:=dg.bU Y a4;have a1:bM Y=(Y[0].toNat:Int):=by unfold bM;rw[dg.bS Y ep]
 clear a4;have a7:((Y[0].toNat:Int) != 43)=false:=by rw[←a1,J];rfl
 have a9:((Y[0].toNat:Int)==43)=true:=by rw[←a1,J];rfl
 clear a3 a2;clear J;clear a5;clear a1;unfold maxLen at hs;go_enter Tryz.func167,Tryz.ntmps167;go_wp2_with fail;refine(K1.out _).mono ?_;rintro e w' ⟨rfl,q1,rfl⟩;go_wp2_with fail;refine(K2.out _).mono ?_;rintro e w' ⟨rfl,q2,rfl⟩;go_wp2_with fail;refine(K3.out _).mono ?_;rintro e w' ⟨rfl,rfl⟩;go_wp2_with fail;refine(K5.out _).mono ?_;rintro e w' ⟨rfl,rfl⟩;go_wp2_with fail;refine bodyPost_ret (v:=.tuple #[.string fv,.int .i64 cv,.string ⟨#[]⟩,.string ⟨#[]⟩,.int .i64 lv]) (by simp only[results,Tryz.results167];go_simp) rfl ?_;exact⟨by rw[Hf.out,Hv.out.1,Hv.out.2.1,Hv.out.2.2.1,Hv.out.2.2.2],_,rfl⟩
theorem aGy(s:ByteArray)(w:World)(hs:s.size≤maxLen)(a2:¬(bK s).size=0)(a3:bM (bK s)=126)(a5:¬(bK (bL (bK s))).size=0)(a1:bM (bK (bL (bK s)))≠43)(Y:bM (bK (bL (bK s)))≠40)(a4:(bK (bL (bK (bL (bK s))))).size=0):Calls Tryz.prog 167 #[.string s] w (dU s w):=by
 obtain⟨cv,a0⟩:∃cv,(dg.rd (fn0 (bL (bK s)))).1=cv:=⟨_,rfl⟩;have K3:∀w,Calls Tryz.prog 168 #[.string (fn0 (bL (bK s)))] w fun e w'=>e=.returned (.tuple #[.int .i64 cv,.int .i64 (dg.rd (fn0 (bL (bK s)))).2])∧w=w':=fun w=>by
  have:=jJ (fn0 (bL (bK s))) w (by have:=dR s;have:=fJ (bK s);have:=gJ (bL (bK s));omega);rw[a0]at this;exact this
 have K3:=hid K3;have eC:pC (bK s)=(cv,(bK (bL (bK s)))):=by unfold pC;rw[if_neg (by rintro(g | g);exact a2 g;exact g a3),a0]
 clear a0;have eM:pM (bK (bL (bK s)))=((bK (bL (bK s))).extract 0 1,fn0 (bL (bK (bL (bK s)))),(bK (bL (bK (bL (bK s)))))):=by unfold pM;rw[if_neg (by rintro(g | g);exact a5 g;exact a1 g),if_neg (fun g=>Y g.1)]
 have eL:pL (bK (bL (bK (bL (bK s)))))=(-1:Int):=by unfold pL;rw[if_pos (Or.inl a4)]
 have Hv:=hid (kL eC eM eL);clear eC eM eL;obtain⟨l1,l2,l3,l4,l5,l6⟩:=lens s (bK (bL (bK s)));have K1:=hid (fun w=>eQ s w hs);have K2:=hid (fun w=>dB (bK s) w (by omega));have K4:=hid (fun w=>dB (bK (bL (bK s))) w (by omega));clear l2 l3 l4 l5 l6;generalize (dg.rd (fn0 (bL (bK s)))).2=ce at *;generalize fn0 (bL (bK s))=ct at *;generalize (bK (bL (bK (bL (bK s)))))=r3 at *;generalize fn0 (bL (bK (bL (bK s))))=tv at *;generalize bK (bL (bK s))=J at *;generalize bK s=r at *;generalize a8:fn0 s=fv at *;have Hf:=hid a8;clear a8;have er:0<r.size:=by omega
 have af:=dg.bU r a2;have a6:bM r=(r[0].toNat:Int):=by unfold bM;rw[dg.bS r er]
 have ag:((r[0].toNat:Int)==126)=true:=by rw[←a6,a3];rfl
 have ep:0<J.size:=by omega
 have ae:=dg.bU J a5;have a7:bM J=(J[0].toNat:Int):=by unfold bM;rw[dg.bS J ep]
 clear a5;have aa:((J[0].toNat:Int) != 43)=true:=by rw[←a7,bne_iff_ne];exact a1
 have a9:=fO J ep;rw[aB Y]at a9;clear Y;have ad:=dg.fC r3 a4;clear a4;clear a3 a2;clear a1;clear a6;clear a7;unfold maxLen at hs;go_enter Tryz.func167,Tryz.ntmps167;go_wp2_with fail;refine(K1.out _).mono ?_;rintro e w' ⟨rfl,q1,rfl⟩;go_wp2_with fail;refine(K2.out _).mono ?_;rintro e w' ⟨rfl,q2,rfl⟩;go_wp2_with fail;refine(K3.out _).mono ?_;rintro e w' ⟨rfl,rfl⟩;go_wp2_with fail;refine(K4.out _).mono ?_;rintro e w' ⟨rfl,q3,rfl⟩;go_wp2_with fail;refine bodyPost_ret (v:=.tuple #[.string fv,.int .i64 cv,.string (J.extract 0 1),.string tv,.int .i64 (-1)]) (by simp only[results,Tryz.results167];go_simp) rfl ?_;exact⟨by rw[Hf.out,Hv.out.1,Hv.out.2.1,Hv.out.2.2.1,Hv.out.2.2.2],_,rfl⟩
theorem aFL(s:ByteArray)(w:World)(hs:s.size≤maxLen)(a2:¬(bK s).size=0)(a3:bM (bK s)=126)(a5:¬(bK (bL (bK s))).size=0)(a1:bM (bK (bL (bK s)))≠43)(Y:bM (bK (bL (bK s)))≠40)(aa:¬(bK (bL (bK (bL (bK s))))).size=0)(a4:bM (bK (bL (bK (bL (bK s)))))≠43):Calls Tryz.prog 167 #[.string s] w (dU s w):=by
 obtain⟨cv,a0⟩:∃cv,(dg.rd (fn0 (bL (bK s)))).1=cv:=⟨_,rfl⟩;have K3:∀w,Calls Tryz.prog 168 #[.string (fn0 (bL (bK s)))] w fun e w'=>e=.returned (.tuple #[.int .i64 cv,.int .i64 (dg.rd (fn0 (bL (bK s)))).2])∧w=w':=fun w=>by
  have:=jJ (fn0 (bL (bK s))) w (by have:=dR s;have:=fJ (bK s);have:=gJ (bL (bK s));omega);rw[a0]at this;exact this
 have K3:=hid K3;have eC:pC (bK s)=(cv,(bK (bL (bK s)))):=by unfold pC;rw[if_neg (by rintro(g | g);exact a2 g;exact g a3),a0]
 clear a0;have eM:pM (bK (bL (bK s)))=((bK (bL (bK s))).extract 0 1,fn0 (bL (bK (bL (bK s)))),(bK (bL (bK (bL (bK s)))))):=by unfold pM;rw[if_neg (by rintro(g | g);exact a5 g;exact a1 g),if_neg (fun g=>Y g.1)]
 have eL:pL (bK (bL (bK (bL (bK s)))))=(-1:Int):=by unfold pL;rw[if_pos (Or.inr a4)]
 have Hv:=hid (kL eC eM eL);clear eC eM eL;obtain⟨l1,l2,l3,l4,l5,l6⟩:=lens s (bK (bL (bK s)));have K1:=hid (fun w=>eQ s w hs);have K2:=hid (fun w=>dB (bK s) w (by omega));have K4:=hid (fun w=>dB (bK (bL (bK s))) w (by omega));clear l2 l3 l4 l5 l6;generalize (dg.rd (fn0 (bL (bK s)))).2=ce at *;generalize fn0 (bL (bK s))=ct at *;generalize (bK (bL (bK (bL (bK s)))))=r3 at *;generalize fn0 (bL (bK (bL (bK s))))=tv at *;generalize bK (bL (bK s))=J at *;generalize bK s=r at *;generalize a9:fn0 s=fv at *;have Hf:=hid a9;clear a9;have er:0<r.size:=by omega
 have ah:=dg.bU r a2;have a6:bM r=(r[0].toNat:Int):=by unfold bM;rw[dg.bS r er]
 have ai:((r[0].toNat:Int)==126)=true:=by rw[←a6,a3];rfl
 have ep:0<J.size:=by omega
 have ag:=dg.bU J a5;have a7:bM J=(J[0].toNat:Int):=by unfold bM;rw[dg.bS J ep]
 clear a5;have ae:((J[0].toNat:Int) != 43)=true:=by rw[←a7,bne_iff_ne];exact a1
 have ad:=fO J ep;rw[aB Y]at ad;clear Y;have eq:0<r3.size:=by omega
 have af:=dg.bU r3 aa;have a8:bM r3=(r3[0].toNat:Int):=by unfold bM;rw[dg.bS r3 eq]
 clear aa;have aj:((r3[0].toNat:Int)==43)=false:=by rw[←a8,bI];exact a4
 clear a4 a8;clear a3 a2;clear a1;clear a6;clear a7;unfold maxLen at hs;go_enter Tryz.func167,Tryz.ntmps167;go_wp2_with fail;refine(K1.out _).mono ?_;rintro e w' ⟨rfl,q1,rfl⟩;go_wp2_with fail;refine(K2.out _).mono ?_;rintro e w' ⟨rfl,q2,rfl⟩;go_wp2_with fail;refine(K3.out _).mono ?_;rintro e w' ⟨rfl,rfl⟩;go_wp2_with fail;refine(K4.out _).mono ?_;rintro e w' ⟨rfl,q3,rfl⟩;go_wp2_with fail;refine bodyPost_ret (v:=.tuple #[.string fv,.int .i64 cv,.string (J.extract 0 1),.string tv,.int .i64 (-1)]) (by simp only[results,Tryz.results167];go_simp) rfl ?_;exact⟨by rw[Hf.out,Hv.out.1,Hv.out.2.1,Hv.out.2.2.1,Hv.out.2.2.2],_,rfl⟩
theorem aGV(s:ByteArray)(w:World)(hs:s.size≤maxLen)(a2:¬(bK s).size=0)(a3:bM (bK s)=126)(a6:¬(bK (bL (bK s))).size=0)(a1:bM (bK (bL (bK s)))≠43)(Y:bM (bK (bL (bK s)))≠40)(a4:¬(bK (bL (bK (bL (bK s))))).size=0)(a5:bM (bK (bL (bK (bL (bK s)))))=43):Calls Tryz.prog 167 #[.string s] w (dU s w):=by
 obtain⟨cv,a0⟩:∃cv,(dg.rd (fn0 (bL (bK s)))).1=cv:=⟨_,rfl⟩;have K3:∀w,Calls Tryz.prog 168 #[.string (fn0 (bL (bK s)))] w fun e w'=>e=.returned (.tuple #[.int .i64 cv,.int .i64 (dg.rd (fn0 (bL (bK s)))).2])∧w=w':=fun w=>by
  have:=jJ (fn0 (bL (bK s))) w (by have:=dR s;have:=fJ (bK s);have:=gJ (bL (bK s));omega);rw[a0]at this;exact this
 have K3:=hid K3;have eC:pC (bK s)=(cv,(bK (bL (bK s)))):=by unfold pC;rw[if_neg (by rintro(g | g);exact a2 g;exact g a3),a0]
 clear a0;have eM:pM (bK (bL (bK s)))=((bK (bL (bK s))).extract 0 1,fn0 (bL (bK (bL (bK s)))),(bK (bL (bK (bL (bK s)))))):=by unfold pM;rw[if_neg (by rintro(g | g);exact a6 g;exact a1 g),if_neg (fun g=>Y g.1)]
 have eL:pL (bK (bL (bK (bL (bK s)))))=(dg.rd (bL (bK (bL (bK (bL (bK s))))))).1:=by unfold pL;rw[if_neg (by rintro(g | g);exact a4 g;exact g a5)]
 have Hv:=hid (kL eC eM eL);clear eC eM eL;obtain⟨l1,l2,l3,l4,l5,l6⟩:=lens s (bK (bL (bK s)));have K1:=hid (fun w=>eQ s w hs);have K2:=hid (fun w=>dB (bK s) w (by omega));have K4:=hid (fun w=>dB (bK (bL (bK s))) w (by omega));have K5:=hid (fun w=>lJ (bK (bL (bK (bL (bK s))))) w (by omega));clear l2 l3 l4 l5 l6;generalize (dg.rd (fn0 (bL (bK s)))).2=ce at *;generalize fn0 (bL (bK s))=ct at *;generalize (dg.rd (bL (bK (bL (bK (bL (bK s))))))).1=lv at *;generalize (dg.rd (bL (bK (bL (bK (bL (bK s))))))).2=le at *;generalize (bK (bL (bK (bL (bK s)))))=r3 at *;generalize fn0 (bL (bK (bL (bK s))))=tv at *;generalize bK (bL (bK s))=J at *;generalize bK s=r at *;generalize aa:fn0 s=fv at *;have Hf:=hid aa;clear aa;have er:0<r.size:=by omega
 have ah:=dg.bU r a2;have a7:bM r=(r[0].toNat:Int):=by unfold bM;rw[dg.bS r er]
 have ai:((r[0].toNat:Int)==126)=true:=by rw[←a7,a3];rfl
 have ep:0<J.size:=by omega
 have ag:=dg.bU J a6;have a8:bM J=(J[0].toNat:Int):=by unfold bM;rw[dg.bS J ep]
 clear a6;have ae:((J[0].toNat:Int) != 43)=true:=by rw[←a8,bne_iff_ne];exact a1
 have ad:=fO J ep;rw[aB Y]at ad;clear Y;have eq:0<r3.size:=by omega
 have af:=dg.bU r3 a4;have a9:bM r3=(r3[0].toNat:Int):=by unfold bM;rw[dg.bS r3 eq]
 clear a4;have aj:((r3[0].toNat:Int)==43)=true:=by rw[←a9,a5];rfl
 clear a5 a9;clear a3 a2;clear a1;clear a7;clear a8;unfold maxLen at hs;go_enter Tryz.func167,Tryz.ntmps167;go_wp2_with fail;refine(K1.out _).mono ?_;rintro e w' ⟨rfl,q1,rfl⟩;go_wp2_with fail;refine(K2.out _).mono ?_;rintro e w' ⟨rfl,q2,rfl⟩;go_wp2_with fail;refine(K3.out _).mono ?_;rintro e w' ⟨rfl,rfl⟩;go_wp2_with fail;refine(K4.out _).mono ?_;rintro e w' ⟨rfl,q3,rfl⟩;go_wp2_with fail;refine(K5.out _).mono ?_;rintro e w' ⟨rfl,rfl⟩;go_wp2_with fail;refine bodyPost_ret (v:=.tuple #[.string fv,.int .i64 cv,.string (J.extract 0 1),.string tv,.int .i64 lv]) (by simp only[results,Tryz.results167];go_simp) rfl ?_;exact⟨by rw[Hf.out,Hv.out.1,Hv.out.2.1,Hv.out.2.2.1,Hv.out.2.2.2],_,rfl⟩
theorem aGF(s:ByteArray)(w:World)(hs:s.size≤maxLen)(a1:¬(bK s).size=0)(a2:bM (bK s)=126)(a5:¬(bK (bL (bK s))).size=0)(a0:bM (bK (bL (bK s)))≠43)(a6:bM (bK (bL (bK s)))=40)(a3:(bK (bL (bK (bL (bK s)))))≠sQ)(a4:(bK (bL (bK (bL (bK s))))).size=0):Calls Tryz.prog 167 #[.string s] w (dU s w):=by
 obtain⟨cv,Y⟩:∃cv,(dg.rd (fn0 (bL (bK s)))).1=cv:=⟨_,rfl⟩;have K3:∀w,Calls Tryz.prog 168 #[.string (fn0 (bL (bK s)))] w fun e w'=>e=.returned (.tuple #[.int .i64 cv,.int .i64 (dg.rd (fn0 (bL (bK s)))).2])∧w=w':=fun w=>by
  have:=jJ (fn0 (bL (bK s))) w (by have:=dR s;have:=fJ (bK s);have:=gJ (bL (bK s));omega);rw[Y]at this;exact this
 have K3:=hid K3;have eC:pC (bK s)=(cv,(bK (bL (bK s)))):=by unfold pC;rw[if_neg (by rintro(g | g);exact a1 g;exact g a2),Y]
 clear Y;have eM:pM (bK (bL (bK s)))=((bK (bL (bK s))).extract 0 1,fn0 (bL (bK (bL (bK s)))),(bK (bL (bK (bL (bK s)))))):=by unfold pM;rw[if_neg (by rintro(g | g);exact a5 g;exact a0 g),if_neg (fun g=>a3 g.2)]
 have eL:pL (bK (bL (bK (bL (bK s)))))=(-1:Int):=by unfold pL;rw[if_pos (Or.inl a4)]
 have Hv:=hid (kL eC eM eL);clear eC eM eL;obtain⟨l1,l2,l3,l4,l5,l6⟩:=lens s (bK (bL (bK s)));have K1:=hid (fun w=>eQ s w hs);have K2:=hid (fun w=>dB (bK s) w (by omega));have K4:=hid (fun w=>dB (bK (bL (bK s))) w (by omega));clear l2 l3 l4 l5 l6;generalize (dg.rd (fn0 (bL (bK s)))).2=ce at *;generalize fn0 (bL (bK s))=ct at *;generalize (bK (bL (bK (bL (bK s)))))=r3 at *;generalize fn0 (bL (bK (bL (bK s))))=tv at *;generalize bK (bL (bK s))=J at *;generalize bK s=r at *;generalize a9:fn0 s=fv at *;have Hf:=hid a9;clear a9;have er:0<r.size:=by omega
 have ah:=dg.bU r a1;have a7:bM r=(r[0].toNat:Int):=by unfold bM;rw[dg.bS r er]
 have ai:((r[0].toNat:Int)==126)=true:=by rw[←a7,a2];rfl
 have ep:0<J.size:=by omega
 have ag:=dg.bU J a5;have a8:bM J=(J[0].toNat:Int):=by unfold bM;rw[dg.bS J ep]
 clear a5;have ae:((J[0].toNat:Int) != 43)=true:=by rw[←a8,bne_iff_ne];exact a0
 have aa:=fO J ep;rw[aC a6]at aa;clear a6;have ad:=jX r3;rw[aB a3]at ad;clear a3;have af:=dg.fC r3 a4;clear a4;clear a2 a1;clear a0;clear a7;clear a8;unfold maxLen at hs;go_enter Tryz.func167,Tryz.ntmps167;go_wp2_with fail;refine(K1.out _).mono ?_;rintro e w' ⟨rfl,q1,rfl⟩;go_wp2_with fail;refine(K2.out _).mono ?_;rintro e w' ⟨rfl,q2,rfl⟩;go_wp2_with fail;refine(K3.out _).mono ?_;rintro e w' ⟨rfl,rfl⟩;go_wp2_with fail;refine(K4.out _).mono ?_;rintro e w' ⟨rfl,q3,rfl⟩;go_wp2_with fail;refine bodyPost_ret (v:=.tuple #[.string fv,.int .i64 cv,.string (J.extract 0 1),.string tv,.int .i64 (-1)]) (by simp only[results,Tryz.results167];go_simp) rfl ?_;exact⟨by rw[Hf.out,Hv.out.1,Hv.out.2.1,Hv.out.2.2.1,Hv.out.2.2.2],_,rfl⟩
theorem aFH(s:ByteArray)(w:World)(hs:s.size≤maxLen)(a1:¬(bK s).size=0)(a2:bM (bK s)=126)(a5:¬(bK (bL (bK s))).size=0)(a0:bM (bK (bL (bK s)))≠43)(a6:bM (bK (bL (bK s)))=40)(a3:(bK (bL (bK (bL (bK s)))))≠sQ)(ad:¬(bK (bL (bK (bL (bK s))))).size=0)(a4:bM (bK (bL (bK (bL (bK s)))))≠43):Calls Tryz.prog 167 #[.string s] w (dU s w):=by
 obtain⟨cv,Y⟩:∃cv,(dg.rd (fn0 (bL (bK s)))).1=cv:=⟨_,rfl⟩;have K3:∀w,Calls Tryz.prog 168 #[.string (fn0 (bL (bK s)))] w fun e w'=>e=.returned (.tuple #[.int .i64 cv,.int .i64 (dg.rd (fn0 (bL (bK s)))).2])∧w=w':=fun w=>by
  have:=jJ (fn0 (bL (bK s))) w (by have:=dR s;have:=fJ (bK s);have:=gJ (bL (bK s));omega);rw[Y]at this;exact this
 have K3:=hid K3;have eC:pC (bK s)=(cv,(bK (bL (bK s)))):=by unfold pC;rw[if_neg (by rintro(g | g);exact a1 g;exact g a2),Y]
 clear Y;have eM:pM (bK (bL (bK s)))=((bK (bL (bK s))).extract 0 1,fn0 (bL (bK (bL (bK s)))),(bK (bL (bK (bL (bK s)))))):=by unfold pM;rw[if_neg (by rintro(g | g);exact a5 g;exact a0 g),if_neg (fun g=>a3 g.2)]
 have eL:pL (bK (bL (bK (bL (bK s)))))=(-1:Int):=by unfold pL;rw[if_pos (Or.inr a4)]
 have Hv:=hid (kL eC eM eL);clear eC eM eL;obtain⟨l1,l2,l3,l4,l5,l6⟩:=lens s (bK (bL (bK s)));have K1:=hid (fun w=>eQ s w hs);have K2:=hid (fun w=>dB (bK s) w (by omega));have K4:=hid (fun w=>dB (bK (bL (bK s))) w (by omega));clear l2 l3 l4 l5 l6;generalize (dg.rd (fn0 (bL (bK s)))).2=ce at *;generalize fn0 (bL (bK s))=ct at *;generalize (bK (bL (bK (bL (bK s)))))=r3 at *;generalize fn0 (bL (bK (bL (bK s))))=tv at *;generalize bK (bL (bK s))=J at *;generalize bK s=r at *;generalize aa:fn0 s=fv at *;have Hf:=hid aa;clear aa;have er:0<r.size:=by omega
 have aj:=dg.bU r a1;have a7:bM r=(r[0].toNat:Int):=by unfold bM;rw[dg.bS r er]
 have ak:((r[0].toNat:Int)==126)=true:=by rw[←a7,a2];rfl
 have ep:0<J.size:=by omega
 have ai:=dg.bU J a5;have a8:bM J=(J[0].toNat:Int):=by unfold bM;rw[dg.bS J ep]
 clear a5;have ag:((J[0].toNat:Int) != 43)=true:=by rw[←a8,bne_iff_ne];exact a0
 have ae:=fO J ep;rw[aC a6]at ae;clear a6;have af:=jX r3;rw[aB a3]at af;clear a3;have eq:0<r3.size:=by omega
 have ah:=dg.bU r3 ad;have a9:bM r3=(r3[0].toNat:Int):=by unfold bM;rw[dg.bS r3 eq]
 clear ad;have am:((r3[0].toNat:Int)==43)=false:=by rw[←a9,bI];exact a4
 clear a4 a9;clear a2 a1;clear a0;clear a7;clear a8;unfold maxLen at hs;go_enter Tryz.func167,Tryz.ntmps167;go_wp2_with fail;refine(K1.out _).mono ?_;rintro e w' ⟨rfl,q1,rfl⟩;go_wp2_with fail;refine(K2.out _).mono ?_;rintro e w' ⟨rfl,q2,rfl⟩;go_wp2_with fail;refine(K3.out _).mono ?_;rintro e w' ⟨rfl,rfl⟩;go_wp2_with fail;refine(K4.out _).mono ?_;rintro e w' ⟨rfl,q3,rfl⟩;go_wp2_with fail;refine bodyPost_ret (v:=.tuple #[.string fv,.int .i64 cv,.string (J.extract 0 1),.string tv,.int .i64 (-1)]) (by simp only[results,Tryz.results167];go_simp) rfl ?_;exact⟨by rw[Hf.out,Hv.out.1,Hv.out.2.1,Hv.out.2.2.1,Hv.out.2.2.2],_,rfl⟩
theorem aGu(s:ByteArray)(w:World)(hs:s.size≤maxLen)(a1:¬(bK s).size=0)(a2:bM (bK s)=126)(a6:¬(bK (bL (bK s))).size=0)(a0:bM (bK (bL (bK s)))≠43)(a7:bM (bK (bL (bK s)))=40)(a3:(bK (bL (bK (bL (bK s)))))≠sQ)(a4:¬(bK (bL (bK (bL (bK s))))).size=0)(a5:bM (bK (bL (bK (bL (bK s)))))=43):Calls Tryz.prog 167 #[.string s] w (dU s w):=by
 obtain⟨cv,Y⟩:∃cv,(dg.rd (fn0 (bL (bK s)))).1=cv:=⟨_,rfl⟩;have K3:∀w,Calls Tryz.prog 168 #[.string (fn0 (bL (bK s)))] w fun e w'=>e=.returned (.tuple #[.int .i64 cv,.int .i64 (dg.rd (fn0 (bL (bK s)))).2])∧w=w':=fun w=>by
  have:=jJ (fn0 (bL (bK s))) w (by have:=dR s;have:=fJ (bK s);have:=gJ (bL (bK s));omega);rw[Y]at this;exact this
 have K3:=hid K3;have eC:pC (bK s)=(cv,(bK (bL (bK s)))):=by unfold pC;rw[if_neg (by rintro(g | g);exact a1 g;exact g a2),Y]
 clear Y;have eM:pM (bK (bL (bK s)))=((bK (bL (bK s))).extract 0 1,fn0 (bL (bK (bL (bK s)))),(bK (bL (bK (bL (bK s)))))):=by unfold pM;rw[if_neg (by rintro(g | g);exact a6 g;exact a0 g),if_neg (fun g=>a3 g.2)]
 have eL:pL (bK (bL (bK (bL (bK s)))))=(dg.rd (bL (bK (bL (bK (bL (bK s))))))).1:=by unfold pL;rw[if_neg (by rintro(g | g);exact a4 g;exact g a5)]
 have Hv:=hid (kL eC eM eL);clear eC eM eL;obtain⟨l1,l2,l3,l4,l5,l6⟩:=lens s (bK (bL (bK s)));have K1:=hid (fun w=>eQ s w hs);have K2:=hid (fun w=>dB (bK s) w (by omega));have K4:=hid (fun w=>dB (bK (bL (bK s))) w (by omega));have K5:=hid (fun w=>lJ (bK (bL (bK (bL (bK s))))) w (by omega));clear l2 l3 l4 l5 l6;generalize (dg.rd (fn0 (bL (bK s)))).2=ce at *;generalize fn0 (bL (bK s))=ct at *;generalize (dg.rd (bL (bK (bL (bK (bL (bK s))))))).1=lv at *;generalize (dg.rd (bL (bK (bL (bK (bL (bK s))))))).2=le at *;generalize (bK (bL (bK (bL (bK s)))))=r3 at *;generalize fn0 (bL (bK (bL (bK s))))=tv at *;generalize bK (bL (bK s))=J at *;generalize bK s=r at *;generalize ad:fn0 s=fv at *;have Hf:=hid ad;clear ad;have er:0<r.size:=by omega
 have aj:=dg.bU r a1;have a8:bM r=(r[0].toNat:Int):=by unfold bM;rw[dg.bS r er]
 have ak:((r[0].toNat:Int)==126)=true:=by rw[←a8,a2];rfl
 have ep:0<J.size:=by omega
 have ai:=dg.bU J a6;have a9:bM J=(J[0].toNat:Int):=by unfold bM;rw[dg.bS J ep]
 clear a6;have ag:((J[0].toNat:Int) != 43)=true:=by rw[←a9,bne_iff_ne];exact a0
 have ae:=fO J ep;rw[aC a7]at ae;clear a7;have af:=jX r3;rw[aB a3]at af;clear a3;have eq:0<r3.size:=by omega
 have ah:=dg.bU r3 a4;have aa:bM r3=(r3[0].toNat:Int):=by unfold bM;rw[dg.bS r3 eq]
 clear a4;have am:((r3[0].toNat:Int)==43)=true:=by rw[←aa,a5];rfl
 clear a5 aa;clear a2 a1;clear a0;clear a8;clear a9;unfold maxLen at hs;go_enter Tryz.func167,Tryz.ntmps167;go_wp2_with fail;refine(K1.out _).mono ?_;rintro e w' ⟨rfl,q1,rfl⟩;go_wp2_with fail;refine(K2.out _).mono ?_;rintro e w' ⟨rfl,q2,rfl⟩;go_wp2_with fail;refine(K3.out _).mono ?_;rintro e w' ⟨rfl,rfl⟩;go_wp2_with fail;refine(K4.out _).mono ?_;rintro e w' ⟨rfl,q3,rfl⟩;go_wp2_with fail;refine(K5.out _).mono ?_;rintro e w' ⟨rfl,rfl⟩;go_wp2_with fail;refine bodyPost_ret (v:=.tuple #[.string fv,.int .i64 cv,.string (J.extract 0 1),.string tv,.int .i64 lv]) (by simp only[results,Tryz.results167];go_simp) rfl ?_;exact⟨by rw[Hf.out,Hv.out.1,Hv.out.2.1,Hv.out.2.2.1,Hv.out.2.2.2],_,rfl⟩
theorem aG0(s:ByteArray)(w:World)(hs:s.size≤maxLen)(a2:¬(bK s).size=0)(a3:bM (bK s)=126)(a5:¬(bK (bL (bK s))).size=0)(a1:bM (bK (bL (bK s)))≠43)(Y:bM (bK (bL (bK s)))=40)(a4:(bK (bL (bK (bL (bK s)))))=sQ):Calls Tryz.prog 167 #[.string s] w (dU s w):=by
 obtain⟨cv,a0⟩:∃cv,(dg.rd (fn0 (bL (bK s)))).1=cv:=⟨_,rfl⟩;have K3:∀w,Calls Tryz.prog 168 #[.string (fn0 (bL (bK s)))] w fun e w'=>e=.returned (.tuple #[.int .i64 cv,.int .i64 (dg.rd (fn0 (bL (bK s)))).2])∧w=w':=fun w=>by
  have:=jJ (fn0 (bL (bK s))) w (by have:=dR s;have:=fJ (bK s);have:=gJ (bL (bK s));omega);rw[a0]at this;exact this
 have K3:=hid K3;have eC:pC (bK s)=(cv,(bK (bL (bK s)))):=by unfold pC;rw[if_neg (by rintro(g | g);exact a2 g;exact g a3),a0]
 clear a0;have eM:pM (bK (bL (bK s)))=((bK (bL (bK s))).extract 0 1,fn0 (bL (bK (bL (bK s)))),⟨#[]⟩):=by unfold pM;rw[if_neg (by rintro(g | g);exact a5 g;exact a1 g),if_pos ⟨Y,a4⟩]
 have eL:pL (⟨#[]⟩:ByteArray)=(-1:Int):=by unfold pL;rw[if_pos (Or.inl (show(⟨#[]⟩:ByteArray).size=0 from rfl))]
 have Hv:=hid (kL eC eM eL);clear eC eM eL;obtain⟨l1,l2,l3,l4,l5,l6⟩:=lens s (bK (bL (bK s)));have K1:=hid (fun w=>eQ s w hs);have K2:=hid (fun w=>dB (bK s) w (by omega));have K4:=hid (fun w=>dB (bK (bL (bK s))) w (by omega));clear l2 l3 l4 l5 l6;generalize (dg.rd (fn0 (bL (bK s)))).2=ce at *;generalize fn0 (bL (bK s))=ct at *;generalize (bK (bL (bK (bL (bK s)))))=r3 at *;generalize fn0 (bL (bK (bL (bK s))))=tv at *;generalize bK (bL (bK s))=J at *;generalize bK s=r at *;generalize a8:fn0 s=fv at *;have Hf:=hid a8;clear a8;have er:0<r.size:=by omega
 have af:=dg.bU r a2;have a6:bM r=(r[0].toNat:Int):=by unfold bM;rw[dg.bS r er]
 have ag:((r[0].toNat:Int)==126)=true:=by rw[←a6,a3];rfl
 have ep:0<J.size:=by omega
 have ae:=dg.bU J a5;have a7:bM J=(J[0].toNat:Int):=by unfold bM;rw[dg.bS J ep]
 clear a5;have ad:((J[0].toNat:Int) != 43)=true:=by rw[←a7,bne_iff_ne];exact a1
 have a9:=fO J ep;rw[aC Y]at a9;clear Y;have aa:=jX r3;rw[aC a4]at aa;clear a4;clear a3 a2;clear a1;clear a6;clear a7;unfold maxLen at hs;go_enter Tryz.func167,Tryz.ntmps167;go_wp2_with fail;refine(K1.out _).mono ?_;rintro e w' ⟨rfl,q1,rfl⟩;go_wp2_with fail;refine(K2.out _).mono ?_;rintro e w' ⟨rfl,q2,rfl⟩;go_wp2_with fail;refine(K3.out _).mono ?_;rintro e w' ⟨rfl,rfl⟩;go_wp2_with fail;refine(K4.out _).mono ?_;rintro e w' ⟨rfl,q3,rfl⟩;go_wp2_with fail;refine bodyPost_ret (v:=.tuple #[.string fv,.int .i64 cv,.string (J.extract 0 1),.string tv,.int .i64 (-1)]) (by simp only[results,Tryz.results167];go_simp) rfl ?_;exact⟨by rw[Hf.out,Hv.out.1,Hv.out.2.1,Hv.out.2.2.1,Hv.out.2.2.2],_,rfl⟩
theorem aFM(s:ByteArray)(w:World)(hs:s.size≤maxLen):Calls Tryz.prog 167 #[.string s] w (dU s w):=by
 by_cases J:(bK s).size=0
 ·exact aGW s w hs J
 by_cases Y:bM (bK s)=126
 ·by_cases a5:(bK (bL (bK s))).size=0
  ·exact aG5 s w hs J Y a5
  by_cases a0:bM (bK (bL (bK s)))=43
  ·exact aFY s w hs J Y a5 a0
  by_cases a2:bM (bK (bL (bK s)))=40
  ·by_cases a4:(bK (bL (bK (bL (bK s)))))=sQ
   ·exact aG0 s w hs J Y a5 a0 a2 a4
   by_cases a1:(bK (bL (bK (bL (bK s))))).size=0
   ·exact aGF s w hs J Y a5 a0 a2 a4 a1
   by_cases a3:bM (bK (bL (bK (bL (bK s)))))=43
   ·exact aGu s w hs J Y a5 a0 a2 a4 a1 a3
   exact aFH s w hs J Y a5 a0 a2 a4 a1 a3
  by_cases a1:(bK (bL (bK (bL (bK s))))).size=0
  ·exact aGy s w hs J Y a5 a0 a2 a1
  by_cases a3:bM (bK (bL (bK (bL (bK s)))))=43
  ·exact aGV s w hs J Y a5 a0 a2 a1 a3
  exact aFL s w hs J Y a5 a0 a2 a1 a3
 by_cases a0:bM (bK s)=43
 ·exact aGv s w hs J Y a0
 by_cases a2:bM (bK s)=40
 ·by_cases a4:(bK (bL (bK s)))=sQ
  ·exact aG1 s w hs J Y a0 a2 a4
  by_cases a1:(bK (bL (bK s))).size=0
  ·exact aG4 s w hs J Y a0 a2 a4 a1
  by_cases a3:bM (bK (bL (bK s)))=43
  ·exact aFV s w hs J Y a0 a2 a4 a1 a3
  exact aGC s w hs J Y a0 a2 a4 a1 a3
 by_cases a1:(bK (bL (bK s))).size=0
 ·exact aGl s w hs J Y a0 a2 a1
 by_cases a3:bM (bK (bL (bK s)))=43
 ·exact aGf s w hs J Y a0 a2 a1 a3
 exact aGe s w hs J Y a0 a2 a1 a3
end nm
end Go.Proofs.YtdmmkjijgoiecaaGreatDoor
