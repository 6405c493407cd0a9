import Derived.Test.YtdmmkjijgoiecaaGreatDoorB18
set_option linter.all false
set_option maxHeartbeats 4000000
namespace Go.Proofs.YtdmmkjijgoiecaaGreatDoor
open Lib(hid)
set_option maxRecDepth 100000
set_option maxHeartbeats 1000000
namespace nm
open RowKit Go.Sort
def dV(s:ByteArray)(w:World)(e:Ending)(w':World):Prop:=e=.returned (.tuple #[.string (fn0 s),.int .i64 (jH s),.string (lC s),.string (jJ s),.int .i64 (lM s)])∧∃n,w'=w.drewN n
theorem eU(s:ByteArray)(w:World)(hs:s.size≤maxLen):Calls Tryz.prog 195 #[.string s] w fun e w'=>e=.returned (.tuple #[.string (fn0 s),.string (bK s)])∧∃n,w'=w.drewN n:=dg.aA9 s w hs
theorem dC(s:ByteArray)(w:World)(hs:s.size≤maxLen):Calls Tryz.prog 195 #[.string (s.extract 1 s.size)] w fun e w'=>e=.returned (.tuple #[.string (fn0 (bL s)),.string (bK (bL s))])∧∃n,w'=w.drewN n:=dg.aA9 (bL s) w (aZ (fJ s) hs)
theorem jW(s:ByteArray)(w:World)(hs:s.size≤maxLen):Calls Tryz.prog 168 #[.string s] w fun e w'=>e=.returned (.tuple #[.int .i64 (dg.rd s).1,.int .i64 (dg.rd s).2])∧w=w':=dg.xG s w hs
theorem mK(s:ByteArray)(w:World)(hs:s.size≤maxLen):Calls Tryz.prog 168 #[.string (s.extract 1 s.size)] w fun e w'=>e=.returned (.tuple #[.int .i64 (dg.rd (bL s)).1,.int .i64 (dg.rd (bL s)).2])∧w=w':=dg.xG (bL s) w (aZ (fJ s) hs)
theorem lT{s:ByteArray}{c:Int}{Y m t J:ByteArray}{l:Int}(eC:pC (bK s)=(c,Y))(eM:pM Y=(m,t,J))(eL:pL J=l):jH s=c∧lC s=m∧jJ s=t∧lM s=l:=by
 unfold jH lC jJ lM;rw[eC];dsimp only;rw[eM];exact⟨rfl,rfl,rfl,eL⟩
theorem lens(s r:ByteArray):(bK s).size≤s.size∧(bK (bL (bK s))).size≤(bL (bK s)).size∧(bL (bK s)).size≤(bK s).size∧(bL r).size≤r.size∧(bK (bL r)).size≤(bL r).size∧(fn0 (bL (bK s))).size≤(bL (bK s)).size:=
 ⟨dS s,dS _,fJ _,fJ _,dS _,gW _⟩
theorem gD(r:ByteArray)(h:0<r.size):((r.extract 0 1).toList==[40])=decide (bM r=40):=by
 rw[ByteArray.toList_eq,gT];have hl:=dg.cB r
 rcases hr:r.data.toList with _ | ⟨c,t⟩
 ·rw[hr]at hl;simp at hl;omega
 ·unfold bM
  rw[hr,List.headD_cons];have e:((c :: t).drop 0).take (1-0)=[c]:=rfl;rw[e,Bool.eq_iff_iff,beq_iff_eq,bJ];constructor
  ·intro J
   have:c=40:=by simpa using J
   rw[this];rfl
  ·intro J
   have:c=40:=by apply UInt8.toNat_inj.1;show c.toNat=40;omega
   rw[this]
theorem kU(r:ByteArray):(r.toList==[41])=decide (r=vG):=by
 rw[ByteArray.toList_eq,Bool.eq_iff_iff,beq_iff_eq,bJ];exact⟨fun h=>fB h,fun h=>by rw[h];rfl⟩
theorem aHI(s:ByteArray)(w:World)(hs:s.size≤maxLen)(J:(bK s).size=0):Calls Tryz.prog 167 #[.string s] w (dV s w):=by
 have eC:pC (bK s)=((0:Int),(bK s)):=by unfold pC;rw[if_pos (Or.inl J)]
 have eM:pM (bK s)=(⟨#[]⟩,⟨#[]⟩,(bK s)):=by unfold pM;rw[if_pos (Or.inl J)]
 have eL:pL (bK s)=(-1:Int):=by unfold pL;rw[if_pos (Or.inl J)]
 have Hv:=hid (lT eC eM eL);clear eC eM eL;obtain⟨l1,l2,l3,l4,l5,l6⟩:=lens s (bK s);have K1:=hid (fun w=>eU s w hs)
 clear l2 l3 l4 l5 l6;generalize bK s=r at *;generalize Y:fn0 s=fv at *;have Hf:=hid Y;clear Y;have a0:=dg.fH r J;clear J;unfold maxLen at hs;go_enter Tryz.func167,Tryz.ntmps167;go_wp2_with fail;refine(K1.out _).mono ?_;rintro e w' ⟨rfl,q1,rfl⟩;go_wp2_with fail;refine bodyPost_ret (v:=.tuple #[.string fv,.int .i64 0,.string ⟨#[]⟩,.string ⟨#[]⟩,.int .i64 (-1)]) (by simp only[results,Tryz.results167];go_simp) rfl ?_
 exact⟨by rw[Hf.out,Hv.out.1,Hv.out.2.1,Hv.out.2.2.1,Hv.out.2.2.2],_,rfl⟩
theorem aHx(s:ByteArray)(w:World)(hs:s.size≤maxLen)(a1:¬(bK s).size=0)(a0:bM (bK s)≠126)(J:bM (bK s)=43):Calls Tryz.prog 167 #[.string s] w (dV s w):=by
 have eC:pC (bK s)=((0:Int),(bK s)):=by unfold pC;rw[if_pos (Or.inr a0)]
 have eM:pM (bK s)=(⟨#[]⟩,⟨#[]⟩,(bK s)):=by unfold pM;rw[if_pos (Or.inr J)]
 have eL:pL (bK s)=(dg.rd (bL (bK s))).1:=by unfold pL;rw[if_neg (by rintro(g | g);exact a1 g;exact g J)]
 have Hv:=hid (lT eC eM eL);clear eC eM eL;obtain⟨l1,l2,l3,l4,l5,l6⟩:=lens s (bK s);have K1:=hid (fun w=>eU s w hs)
 have K5:=hid (fun w=>mK (bK s) w (by omega))
 clear l2 l3 l4 l5 l6;generalize (dg.rd (bL (bK s))).1=lv at *;generalize (dg.rd (bL (bK s))).2=le at *;generalize bK s=r at *;generalize a2:fn0 s=fv at *;have Hf:=hid a2;clear a2;have er:0<r.size:=by omega
 have a6:=dg.bV r a1;have Y:bM r=(r[0].toNat:Int):=by unfold bM;rw[dg.bS r er]
 have a3:((r[0].toNat:Int)==126)=false:=by rw[←Y,bI];exact a0
 have a4:((r[0].toNat:Int) != 43)=false:=by rw[←Y,J];rfl
 have a5:((r[0].toNat:Int)==43)=true:=by rw[←Y,J];rfl
 clear a0 a1;clear J;clear Y;unfold maxLen at hs;go_enter Tryz.func167,Tryz.ntmps167;go_wp2_with fail;refine(K1.out _).mono ?_;rintro e w' ⟨rfl,q1,rfl⟩;go_wp2_with fail;refine(K5.out _).mono ?_;rintro e w' ⟨rfl,rfl⟩;go_wp2_with fail;refine bodyPost_ret (v:=.tuple #[.string fv,.int .i64 0,.string ⟨#[]⟩,.string ⟨#[]⟩,.int .i64 lv]) (by simp only[results,Tryz.results167];go_simp) rfl ?_
 exact⟨by rw[Hf.out,Hv.out.1,Hv.out.2.1,Hv.out.2.2.1,Hv.out.2.2.2],_,rfl⟩
theorem aHK(s:ByteArray)(w:World)(hs:s.size≤maxLen)(a1:¬(bK s).size=0)(a0:bM (bK s)≠126)(Y:bM (bK s)≠43)(J:bM (bK s)≠40)(a3:(bK (bL (bK s))).size=0):Calls Tryz.prog 167 #[.string s] w (dV s w):=by
 have eC:pC (bK s)=((0:Int),(bK s)):=by unfold pC;rw[if_pos (Or.inr a0)]
 have eM:pM (bK s)=((bK s).extract 0 1,fn0 (bL (bK s)),(bK (bL (bK s)))):=by unfold pM;rw[if_neg (by rintro(g | g);exact a1 g;exact Y g),if_neg (fun g=>J g.1)]
 have eL:pL (bK (bL (bK s)))=(-1:Int):=by unfold pL;rw[if_pos (Or.inl a3)]
 have Hv:=hid (lT eC eM eL);clear eC eM eL;obtain⟨l1,l2,l3,l4,l5,l6⟩:=lens s (bK s);have K1:=hid (fun w=>eU s w hs)
 have K4:=hid (fun w=>dC (bK s) w (by omega))
 clear l2 l3 l4 l5 l6;generalize (bK (bL (bK s)))=r3 at *;generalize fn0 (bL (bK s))=tv at *;generalize bK s=r at *;generalize a4:fn0 s=fv at *;have Hf:=hid a4;clear a4;have er:0<r.size:=by omega
 have a9:=dg.bV r a1;have a2:bM r=(r[0].toNat:Int):=by unfold bM;rw[dg.bS r er]
 have a7:((r[0].toNat:Int)==126)=false:=by rw[←a2,bI];exact a0
 have a8:((r[0].toNat:Int) != 43)=true:=by rw[←a2,bne_iff_ne];exact Y
 have a5:=gD r er;rw[aB J]at a5;clear J;have a6:=dg.fH r3 a3;clear a3;clear a0 a1;clear Y;clear a2;unfold maxLen at hs;go_enter Tryz.func167,Tryz.ntmps167;go_wp2_with fail;refine(K1.out _).mono ?_;rintro e w' ⟨rfl,q1,rfl⟩;go_wp2_with fail;refine(K4.out _).mono ?_;rintro e w' ⟨rfl,q2,rfl⟩;go_wp2_with fail;refine bodyPost_ret (v:=.tuple #[.string fv,.int .i64 0,.string (r.extract 0 1),.string tv,.int .i64 (-1)]) (by simp only[results,Tryz.results167];go_simp) rfl ?_
 exact⟨by rw[Hf.out,Hv.out.1,Hv.out.2.1,Hv.out.2.2.1,Hv.out.2.2.2],_,rfl⟩
theorem aHP(s:ByteArray)(w:World)(hs:s.size≤maxLen)(a2:¬(bK s).size=0)(a1:bM (bK s)≠126)(a0:bM (bK s)≠43)(J:bM (bK s)≠40)(a6:¬(bK (bL (bK s))).size=0)(Y:bM (bK (bL (bK s)))≠43):Calls Tryz.prog 167 #[.string s] w (dV s w):=by
 have eC:pC (bK s)=((0:Int),(bK s)):=by unfold pC;rw[if_pos (Or.inr a1)]
 have eM:pM (bK s)=((bK s).extract 0 1,fn0 (bL (bK s)),(bK (bL (bK s)))):=by unfold pM;rw[if_neg (by rintro(g | g);exact a2 g;exact a0 g),if_neg (fun g=>J g.1)]
 have eL:pL (bK (bL (bK s)))=(-1:Int):=by unfold pL;rw[if_pos (Or.inr Y)]
 have Hv:=hid (lT eC eM eL);clear eC eM eL;obtain⟨l1,l2,l3,l4,l5,l6⟩:=lens s (bK s);have K1:=hid (fun w=>eU s w hs)
 have K4:=hid (fun w=>dC (bK s) w (by omega))
 clear l2 l3 l4 l5 l6;generalize (bK (bL (bK s)))=r3 at *;generalize fn0 (bL (bK s))=tv at *;generalize bK s=r at *;generalize a4:fn0 s=fv at *;have Hf:=hid a4;clear a4;have er:0<r.size:=by omega
 have af:=dg.bV r a2;have a3:bM r=(r[0].toNat:Int):=by unfold bM;rw[dg.bS r er]
 have aa:((r[0].toNat:Int)==126)=false:=by rw[←a3,bI];exact a1
 have ae:((r[0].toNat:Int) != 43)=true:=by rw[←a3,bne_iff_ne];exact a0
 have a7:=gD r er;rw[aB J]at a7;clear J;have eq:0<r3.size:=by omega
 have a9:=dg.bV r3 a6;have a5:bM r3=(r3[0].toNat:Int):=by unfold bM;rw[dg.bS r3 eq]
 clear a6;have a8:((r3[0].toNat:Int)==43)=false:=by rw[←a5,bI];exact Y
 clear Y a5;clear a1 a2;clear a0;clear a3;unfold maxLen at hs;go_enter Tryz.func167,Tryz.ntmps167;go_wp2_with fail;refine(K1.out _).mono ?_;rintro e w' ⟨rfl,q1,rfl⟩;go_wp2_with fail;refine(K4.out _).mono ?_;rintro e w' ⟨rfl,q2,rfl⟩;go_wp2_with fail;refine bodyPost_ret (v:=.tuple #[.string fv,.int .i64 0,.string (r.extract 0 1),.string tv,.int .i64 (-1)]) (by simp only[results,Tryz.results167];go_simp) rfl ?_
 exact⟨by rw[Hf.out,Hv.out.1,Hv.out.2.1,Hv.out.2.2.1,Hv.out.2.2.2],_,rfl⟩
theorem aIt(s:ByteArray)(w:World)(hs:s.size≤maxLen)(a2:¬(bK s).size=0)(a1:bM (bK s)≠126)(a0:bM (bK s)≠43)(J:bM (bK s)≠40)(a4:¬(bK (bL (bK s))).size=0)(Y:bM (bK (bL (bK s)))=43):Calls Tryz.prog 167 #[.string s] w (dV s w):=by
 have eC:pC (bK s)=((0:Int),(bK s)):=by unfold pC;rw[if_pos (Or.inr a1)]
 have eM:pM (bK s)=((bK s).extract 0 1,fn0 (bL (bK s)),(bK (bL (bK s)))):=by unfold pM;rw[if_neg (by rintro(g | g);exact a2 g;exact a0 g),if_neg (fun g=>J g.1)]
 have eL:pL (bK (bL (bK s)))=(dg.rd (bL (bK (bL (bK s))))).1:=by unfold pL;rw[if_neg (by rintro(g | g);exact a4 g;exact g Y)]
 have Hv:=hid (lT eC eM eL);clear eC eM eL;obtain⟨l1,l2,l3,l4,l5,l6⟩:=lens s (bK s);have K1:=hid (fun w=>eU s w hs)
 have K4:=hid (fun w=>dC (bK s) w (by omega))
 have K5:=hid (fun w=>mK (bK (bL (bK s))) w (by omega))
 clear l2 l3 l4 l5 l6;generalize (dg.rd (bL (bK (bL (bK s))))).1=lv at *;generalize (dg.rd (bL (bK (bL (bK s))))).2=le at *;generalize (bK (bL (bK s)))=r3 at *;generalize fn0 (bL (bK s))=tv at *;generalize bK s=r at *;generalize a5:fn0 s=fv at *;have Hf:=hid a5;clear a5;have er:0<r.size:=by omega
 have af:=dg.bV r a2;have a3:bM r=(r[0].toNat:Int):=by unfold bM;rw[dg.bS r er]
 have aa:((r[0].toNat:Int)==126)=false:=by rw[←a3,bI];exact a1
 have ae:((r[0].toNat:Int) != 43)=true:=by rw[←a3,bne_iff_ne];exact a0
 have a7:=gD r er;rw[aB J]at a7;clear J;have eq:0<r3.size:=by omega
 have a9:=dg.bV r3 a4;have a6:bM r3=(r3[0].toNat:Int):=by unfold bM;rw[dg.bS r3 eq]
 clear a4;have a8:((r3[0].toNat:Int)==43)=true:=by rw[←a6,Y];rfl
 clear Y a6;clear a1 a2;clear a0;clear a3;unfold maxLen at hs;go_enter Tryz.func167,Tryz.ntmps167;go_wp2_with fail;refine(K1.out _).mono ?_;rintro e w' ⟨rfl,q1,rfl⟩;go_wp2_with fail;refine(K4.out _).mono ?_;rintro e w' ⟨rfl,q2,rfl⟩;go_wp2_with fail;refine(K5.out _).mono ?_;rintro e w' ⟨rfl,rfl⟩;go_wp2_with fail;refine bodyPost_ret (v:=.tuple #[.string fv,.int .i64 0,.string (r.extract 0 1),.string tv,.int .i64 lv]) (by simp only[results,Tryz.results167];go_simp) rfl ?_
 exact⟨by rw[Hf.out,Hv.out.1,Hv.out.2.1,Hv.out.2.2.1,Hv.out.2.2.2],_,rfl⟩
theorem aIA(s:ByteArray)(w:World)(hs:s.size≤maxLen)(a1:¬(bK s).size=0)(a0:bM (bK s)≠126)(Y:bM (bK s)≠43)(a5:bM (bK s)=40)(J:(bK (bL (bK s)))≠vG)(a3:(bK (bL (bK s))).size=0):Calls Tryz.prog 167 #[.string s] w (dV s w):=by
 have eC:pC (bK s)=((0:Int),(bK s)):=by unfold pC;rw[if_pos (Or.inr a0)]
 have eM:pM (bK s)=((bK s).extract 0 1,fn0 (bL (bK s)),(bK (bL (bK s)))):=by unfold pM;rw[if_neg (by rintro(g | g);exact a1 g;exact Y g),if_neg (fun g=>J g.2)]
 have eL:pL (bK (bL (bK s)))=(-1:Int):=by unfold pL;rw[if_pos (Or.inl a3)]
 have Hv:=hid (lT eC eM eL);clear eC eM eL;obtain⟨l1,l2,l3,l4,l5,l6⟩:=lens s (bK s);have K1:=hid (fun w=>eU s w hs)
 have K4:=hid (fun w=>dC (bK s) w (by omega))
 clear l2 l3 l4 l5 l6;generalize (bK (bL (bK s)))=r3 at *;generalize fn0 (bL (bK s))=tv at *;generalize bK s=r at *;generalize a4:fn0 s=fv at *;have Hf:=hid a4;clear a4;have er:0<r.size:=by omega
 have ae:=dg.bV r a1;have a2:bM r=(r[0].toNat:Int):=by unfold bM;rw[dg.bS r er]
 have a9:((r[0].toNat:Int)==126)=false:=by rw[←a2,bI];exact a0
 have aa:((r[0].toNat:Int) != 43)=true:=by rw[←a2,bne_iff_ne];exact Y
 have a7:=gD r er;rw[aC a5]at a7;clear a5;have a6:=kU r3;rw[aB J]at a6;clear J;have a8:=dg.fH r3 a3;clear a3;clear a0 a1;clear Y;clear a2;unfold maxLen at hs;go_enter Tryz.func167,Tryz.ntmps167;go_wp2_with fail;refine(K1.out _).mono ?_;rintro e w' ⟨rfl,q1,rfl⟩;go_wp2_with fail;refine(K4.out _).mono ?_;rintro e w' ⟨rfl,q2,rfl⟩;go_wp2_with fail;refine bodyPost_ret (v:=.tuple #[.string fv,.int .i64 0,.string (r.extract 0 1),.string tv,.int .i64 (-1)]) (by simp only[results,Tryz.results167];go_simp) rfl ?_
 exact⟨by rw[Hf.out,Hv.out.1,Hv.out.2.1,Hv.out.2.2.1,Hv.out.2.2.2],_,rfl⟩
theorem aHY(s:ByteArray)(w:World)(hs:s.size≤maxLen)(a3:¬(bK s).size=0)(a2:bM (bK s)≠126)(a1:bM (bK s)≠43)(a6:bM (bK s)=40)(a0:(bK (bL (bK s)))≠vG)(a8:¬(bK (bL (bK s))).size=0)(J:bM (bK (bL (bK s)))≠43):Calls Tryz.prog 167 #[.string s] w (dV s w):=by
 have eC:pC (bK s)=((0:Int),(bK s)):=by unfold pC;rw[if_pos (Or.inr a2)]
 have eM:pM (bK s)=((bK s).extract 0 1,fn0 (bL (bK s)),(bK (bL (bK s)))):=by unfold pM;rw[if_neg (by rintro(g | g);exact a3 g;exact a1 g),if_neg (fun g=>a0 g.2)]
 have eL:pL (bK (bL (bK s)))=(-1:Int):=by unfold pL;rw[if_pos (Or.inr J)]
 have Hv:=hid (lT eC eM eL);clear eC eM eL;obtain⟨l1,l2,l3,l4,l5,l6⟩:=lens s (bK s);have K1:=hid (fun w=>eU s w hs)
 have K4:=hid (fun w=>dC (bK s) w (by omega))
 clear l2 l3 l4 l5 l6;generalize (bK (bL (bK s)))=Y at *;generalize fn0 (bL (bK s))=tv at *;generalize bK s=r at *;generalize a5:fn0 s=fv at *;have Hf:=hid a5;clear a5;have er:0<r.size:=by omega
 have ai:=dg.bV r a3;have a4:bM r=(r[0].toNat:Int):=by unfold bM;rw[dg.bS r er]
 have ag:((r[0].toNat:Int)==126)=false:=by rw[←a4,bI];exact a2
 have ah:((r[0].toNat:Int) != 43)=true:=by rw[←a4,bne_iff_ne];exact a1
 have aa:=gD r er;rw[aC a6]at aa;clear a6;have a9:=kU Y;rw[aB a0]at a9;clear a0;have eq:0<Y.size:=by omega
 have af:=dg.bV Y a8;have a7:bM Y=(Y[0].toNat:Int):=by unfold bM;rw[dg.bS Y eq]
 clear a8;have ae:((Y[0].toNat:Int)==43)=false:=by rw[←a7,bI];exact J
 clear J a7;clear a2 a3;clear a1;clear a4;unfold maxLen at hs;go_enter Tryz.func167,Tryz.ntmps167;go_wp2_with fail;refine(K1.out _).mono ?_;rintro e w' ⟨rfl,q1,rfl⟩;go_wp2_with fail;refine(K4.out _).mono ?_;rintro e w' ⟨rfl,q2,rfl⟩;go_wp2_with fail;refine bodyPost_ret (v:=.tuple #[.string fv,.int .i64 0,.string (r.extract 0 1),.string tv,.int .i64 (-1)]) (by simp only[results,Tryz.results167];go_simp) rfl ?_
 exact⟨by rw[Hf.out,Hv.out.1,Hv.out.2.1,Hv.out.2.2.1,Hv.out.2.2.2],_,rfl⟩
theorem aIx(s:ByteArray)(w:World)(hs:s.size≤maxLen)(a3:¬(bK s).size=0)(a2:bM (bK s)≠126)(a1:bM (bK s)≠43)(a7:bM (bK s)=40)(a0:(bK (bL (bK s)))≠vG)(a5:¬(bK (bL (bK s))).size=0)(J:bM (bK (bL (bK s)))=43):Calls Tryz.prog 167 #[.string s] w (dV s w):=by
 have eC:pC (bK s)=((0:Int),(bK s)):=by unfold pC;rw[if_pos (Or.inr a2)]
 have eM:pM (bK s)=((bK s).extract 0 1,fn0 (bL (bK s)),(bK (bL (bK s)))):=by unfold pM;rw[if_neg (by rintro(g | g);exact a3 g;exact a1 g),if_neg (fun g=>a0 g.2)]
 have eL:pL (bK (bL (bK s)))=(dg.rd (bL (bK (bL (bK s))))).1:=by unfold pL;rw[if_neg (by rintro(g | g);exact a5 g;exact g J)]
 have Hv:=hid (lT eC eM eL);clear eC eM eL;obtain⟨l1,l2,l3,l4,l5,l6⟩:=lens s (bK s);have K1:=hid (fun w=>eU s w hs)
 have K4:=hid (fun w=>dC (bK s) w (by omega))
 have K5:=hid (fun w=>mK (bK (bL (bK s))) w (by omega))
 clear l2 l3 l4 l5 l6;generalize (dg.rd (bL (bK (bL (bK s))))).1=lv at *;generalize (dg.rd (bL (bK (bL (bK s))))).2=le at *;generalize (bK (bL (bK s)))=Y at *;generalize fn0 (bL (bK s))=tv at *;generalize bK s=r at *;generalize a6:fn0 s=fv at *;have Hf:=hid a6;clear a6;have er:0<r.size:=by omega
 have ai:=dg.bV r a3;have a4:bM r=(r[0].toNat:Int):=by unfold bM;rw[dg.bS r er]
 have ag:((r[0].toNat:Int)==126)=false:=by rw[←a4,bI];exact a2
 have ah:((r[0].toNat:Int) != 43)=true:=by rw[←a4,bne_iff_ne];exact a1
 have aa:=gD r er;rw[aC a7]at aa;clear a7;have a9:=kU Y;rw[aB a0]at a9;clear a0;have eq:0<Y.size:=by omega
 have af:=dg.bV Y a5;have a8:bM Y=(Y[0].toNat:Int):=by unfold bM;rw[dg.bS Y eq]
 clear a5;have ae:((Y[0].toNat:Int)==43)=true:=by rw[←a8,J];rfl
 clear J a8;clear a2 a3;clear a1;clear a4;unfold maxLen at hs;go_enter Tryz.func167,Tryz.ntmps167;go_wp2_with fail;refine(K1.out _).mono ?_;rintro e w' ⟨rfl,q1,rfl⟩;go_wp2_with fail;refine(K4.out _).mono ?_;rintro e w' ⟨rfl,q2,rfl⟩;go_wp2_with fail;refine(K5.out _).mono ?_;rintro e w' ⟨rfl,rfl⟩;go_wp2_with fail;refine bodyPost_ret (v:=.tuple #[.string fv,.int .i64 0,.string (r.extract 0 1),.string tv,.int .i64 lv]) (by simp only[results,Tryz.results167];go_simp) rfl ?_
 exact⟨by rw[Hf.out,Hv.out.1,Hv.out.2.1,Hv.out.2.2.1,Hv.out.2.2.2],_,rfl⟩
theorem aIg(s:ByteArray)(w:World)(hs:s.size≤maxLen)(a2:¬(bK s).size=0)(a1:bM (bK s)≠126)(a0:bM (bK s)≠43)(J:bM (bK s)=40)(Y:(bK (bL (bK s)))=vG):Calls Tryz.prog 167 #[.string s] w (dV s w):=by
 have eC:pC (bK s)=((0:Int),(bK s)):=by unfold pC;rw[if_pos (Or.inr a1)]
 have eM:pM (bK s)=((bK s).extract 0 1,fn0 (bL (bK s)),⟨#[]⟩):=by unfold pM;rw[if_neg (by rintro(g | g);exact a2 g;exact a0 g),if_pos ⟨J,Y⟩]
 have eL:pL (⟨#[]⟩:ByteArray)=(-1:Int):=by unfold pL;rw[if_pos (Or.inl (show(⟨#[]⟩:ByteArray).size=0 from rfl))]
 have Hv:=hid (lT eC eM eL);clear eC eM eL;obtain⟨l1,l2,l3,l4,l5,l6⟩:=lens s (bK s);have K1:=hid (fun w=>eU s w hs)
 have K4:=hid (fun w=>dC (bK s) w (by omega))
 clear l2 l3 l4 l5 l6;generalize (bK (bL (bK s)))=r3 at *;generalize fn0 (bL (bK s))=tv at *;generalize bK s=r at *;generalize a4:fn0 s=fv at *;have Hf:=hid a4;clear a4;have er:0<r.size:=by omega
 have a9:=dg.bV r a2;have a3:bM r=(r[0].toNat:Int):=by unfold bM;rw[dg.bS r er]
 have a7:((r[0].toNat:Int)==126)=false:=by rw[←a3,bI];exact a1
 have a8:((r[0].toNat:Int) != 43)=true:=by rw[←a3,bne_iff_ne];exact a0
 have a6:=gD r er;rw[aC J]at a6;clear J;have a5:=kU r3;rw[aC Y]at a5;clear Y;clear a1 a2;clear a0;clear a3;unfold maxLen at hs;go_enter Tryz.func167,Tryz.ntmps167;go_wp2_with fail;refine(K1.out _).mono ?_;rintro e w' ⟨rfl,q1,rfl⟩;go_wp2_with fail;refine(K4.out _).mono ?_;rintro e w' ⟨rfl,q2,rfl⟩;go_wp2_with fail;refine bodyPost_ret (v:=.tuple #[.string fv,.int .i64 0,.string (r.extract 0 1),.string tv,.int .i64 (-1)]) (by simp only[results,Tryz.results167];go_simp) rfl ?_
 exact⟨by rw[Hf.out,Hv.out.1,Hv.out.2.1,Hv.out.2.2.1,Hv.out.2.2.2],_,rfl⟩
theorem aHU(s:ByteArray)(w:World)(hs:s.size≤maxLen)(a1:¬(bK s).size=0)(a0:bM (bK s)=126)(J:(bK (bL (bK s))).size=0):Calls Tryz.prog 167 #[.string s] w (dV s w):=by
 obtain⟨cv,Y⟩:∃cv,(dg.rd (fn0 (bL (bK s)))).1=cv:=⟨_,rfl⟩;have K3:∀w,Calls Tryz.prog 168 #[.string (fn0 (bL (bK s)))] w fun e w'=>e=.returned (.tuple #[.int .i64 cv,.int .i64 (dg.rd (fn0 (bL (bK s)))).2])∧w=w':=fun w=>by
  have:=jW (fn0 (bL (bK s))) w (by have:=dS s;have:=fJ (bK s);have:=gW (bL (bK s));omega)
  rw[Y]at this;exact this
 have K3:=hid K3;have eC:pC (bK s)=(cv,(bK (bL (bK s)))):=by unfold pC;rw[if_neg (by rintro(g | g);exact a1 g;exact g a0),Y]
 clear Y;have eM:pM (bK (bL (bK s)))=(⟨#[]⟩,⟨#[]⟩,(bK (bL (bK s)))):=by unfold pM;rw[if_pos (Or.inl J)]
 have eL:pL (bK (bL (bK s)))=(-1:Int):=by unfold pL;rw[if_pos (Or.inl J)]
 have Hv:=hid (lT eC eM eL);clear eC eM eL;obtain⟨l1,l2,l3,l4,l5,l6⟩:=lens s (bK (bL (bK s)));have K1:=hid (fun w=>eU s w hs)
 have K2:=hid (fun w=>dC (bK s) w (by omega))
 clear l2 l3 l4 l5 l6;generalize (dg.rd (fn0 (bL (bK s)))).2=ce at *;generalize fn0 (bL (bK s))=ct at *;generalize bK (bL (bK s))=r2 at *;generalize bK s=r at *;generalize a2:fn0 s=fv at *;have Hf:=hid a2;clear a2;have er:0<r.size:=by omega
 have a6:=dg.bV r a1;have a3:bM r=(r[0].toNat:Int):=by unfold bM;rw[dg.bS r er]
 have a5:((r[0].toNat:Int)==126)=true:=by rw[←a3,a0];rfl
 have a4:=dg.fH r2 J;clear J;clear a0 a1;clear a3;unfold maxLen at hs;go_enter Tryz.func167,Tryz.ntmps167;go_wp2_with fail;refine(K1.out _).mono ?_;rintro e w' ⟨rfl,q1,rfl⟩;go_wp2_with fail;refine(K2.out _).mono ?_;rintro e w' ⟨rfl,q2,rfl⟩;go_wp2_with fail;refine(K3.out _).mono ?_;rintro e w' ⟨rfl,rfl⟩;go_wp2_with fail;refine bodyPost_ret (v:=.tuple #[.string fv,.int .i64 cv,.string ⟨#[]⟩,.string ⟨#[]⟩,.int .i64 (-1)]) (by simp only[results,Tryz.results167];go_simp) rfl ?_
 exact⟨by rw[Hf.out,Hv.out.1,Hv.out.2.1,Hv.out.2.2.1,Hv.out.2.2.2],_,rfl⟩
theorem aH6(s:ByteArray)(w:World)(hs:s.size≤maxLen)(a3:¬(bK s).size=0)(a2:bM (bK s)=126)(a0:¬(bK (bL (bK s))).size=0)(J:bM (bK (bL (bK s)))=43):Calls Tryz.prog 167 #[.string s] w (dV s w):=by
 obtain⟨cv,Y⟩:∃cv,(dg.rd (fn0 (bL (bK s)))).1=cv:=⟨_,rfl⟩;have K3:∀w,Calls Tryz.prog 168 #[.string (fn0 (bL (bK s)))] w fun e w'=>e=.returned (.tuple #[.int .i64 cv,.int .i64 (dg.rd (fn0 (bL (bK s)))).2])∧w=w':=fun w=>by
  have:=jW (fn0 (bL (bK s))) w (by have:=dS s;have:=fJ (bK s);have:=gW (bL (bK s));omega)
  rw[Y]at this;exact this
 have K3:=hid K3;have eC:pC (bK s)=(cv,(bK (bL (bK s)))):=by unfold pC;rw[if_neg (by rintro(g | g);exact a3 g;exact g a2),Y]
 clear Y;have eM:pM (bK (bL (bK s)))=(⟨#[]⟩,⟨#[]⟩,(bK (bL (bK s)))):=by unfold pM;rw[if_pos (Or.inr J)]
 have eL:pL (bK (bL (bK s)))=(dg.rd (bL (bK (bL (bK s))))).1:=by unfold pL;rw[if_neg (by rintro(g | g);exact a0 g;exact g J)]
 have Hv:=hid (lT eC eM eL);clear eC eM eL;obtain⟨l1,l2,l3,l4,l5,l6⟩:=lens s (bK (bL (bK s)));have K1:=hid (fun w=>eU s w hs)
 have K2:=hid (fun w=>dC (bK s) w (by omega))
 have K5:=hid (fun w=>mK (bK (bL (bK s))) w (by omega))
 clear l2 l3 l4 l5 l6;generalize (dg.rd (fn0 (bL (bK s)))).2=ce at *;generalize fn0 (bL (bK s))=ct at *;generalize (dg.rd (bL (bK (bL (bK s))))).1=lv at *;generalize (dg.rd (bL (bK (bL (bK s))))).2=le at *;generalize bK (bL (bK s))=r2 at *;generalize bK s=r at *;generalize a4:fn0 s=fv at *;have Hf:=hid a4;clear a4;have er:0<r.size:=by omega
 have aa:=dg.bV r a3;have a5:bM r=(r[0].toNat:Int):=by unfold bM;rw[dg.bS r er]
 have a7:((r[0].toNat:Int)==126)=true:=by rw[←a5,a2];rfl
 have ep:0<r2.size:=by omega
 have a6:=dg.bV r2 a0;have a1:bM r2=(r2[0].toNat:Int):=by unfold bM;rw[dg.bS r2 ep]
 clear a0;have a8:((r2[0].toNat:Int) != 43)=false:=by rw[←a1,J];rfl
 have a9:((r2[0].toNat:Int)==43)=true:=by rw[←a1,J];rfl
 clear a2 a3;clear J;clear a5;clear a1;unfold maxLen at hs;go_enter Tryz.func167,Tryz.ntmps167;go_wp2_with fail;refine(K1.out _).mono ?_;rintro e w' ⟨rfl,q1,rfl⟩;go_wp2_with fail;refine(K2.out _).mono ?_;rintro e w' ⟨rfl,q2,rfl⟩;go_wp2_with fail;refine(K3.out _).mono ?_;rintro e w' ⟨rfl,rfl⟩;go_wp2_with fail;refine(K5.out _).mono ?_;rintro e w' ⟨rfl,rfl⟩;go_wp2_with fail;refine bodyPost_ret (v:=.tuple #[.string fv,.int .i64 cv,.string ⟨#[]⟩,.string ⟨#[]⟩,.int .i64 lv]) (by simp only[results,Tryz.results167];go_simp) rfl ?_
 exact⟨by rw[Hf.out,Hv.out.1,Hv.out.2.1,Hv.out.2.2.1,Hv.out.2.2.2],_,rfl⟩
theorem aHB(s:ByteArray)(w:World)(hs:s.size≤maxLen)(a4:¬(bK s).size=0)(a3:bM (bK s)=126)(a1:¬(bK (bL (bK s))).size=0)(a2:bM (bK (bL (bK s)))≠43)(Y:bM (bK (bL (bK s)))≠40)(a5:(bK (bL (bK (bL (bK s))))).size=0):Calls Tryz.prog 167 #[.string s] w (dV s w):=by
 obtain⟨cv,a0⟩:∃cv,(dg.rd (fn0 (bL (bK s)))).1=cv:=⟨_,rfl⟩;have K3:∀w,Calls Tryz.prog 168 #[.string (fn0 (bL (bK s)))] w fun e w'=>e=.returned (.tuple #[.int .i64 cv,.int .i64 (dg.rd (fn0 (bL (bK s)))).2])∧w=w':=fun w=>by
  have:=jW (fn0 (bL (bK s))) w (by have:=dS s;have:=fJ (bK s);have:=gW (bL (bK s));omega)
  rw[a0]at this;exact this
 have K3:=hid K3;have eC:pC (bK s)=(cv,(bK (bL (bK s)))):=by unfold pC;rw[if_neg (by rintro(g | g);exact a4 g;exact g a3),a0]
 clear a0;have eM:pM (bK (bL (bK s)))=((bK (bL (bK s))).extract 0 1,fn0 (bL (bK (bL (bK s)))),(bK (bL (bK (bL (bK s)))))):=by unfold pM;rw[if_neg (by rintro(g | g);exact a1 g;exact a2 g),if_neg (fun g=>Y g.1)]
 have eL:pL (bK (bL (bK (bL (bK s)))))=(-1:Int):=by unfold pL;rw[if_pos (Or.inl a5)]
 have Hv:=hid (lT eC eM eL);clear eC eM eL;obtain⟨l1,l2,l3,l4,l5,l6⟩:=lens s (bK (bL (bK s)));have K1:=hid (fun w=>eU s w hs)
 have K2:=hid (fun w=>dC (bK s) w (by omega))
 have K4:=hid (fun w=>dC (bK (bL (bK s))) w (by omega))
 clear l2 l3 l4 l5 l6;generalize (dg.rd (fn0 (bL (bK s)))).2=ce at *;generalize fn0 (bL (bK s))=ct at *;generalize (bK (bL (bK (bL (bK s)))))=r3 at *;generalize fn0 (bL (bK (bL (bK s))))=tv at *;generalize bK (bL (bK s))=J at *;generalize bK s=r at *;generalize a6:fn0 s=fv at *;have Hf:=hid a6;clear a6;have er:0<r.size:=by omega
 have ah:=dg.bV r a4;have a8:bM r=(r[0].toNat:Int):=by unfold bM;rw[dg.bS r er]
 have af:((r[0].toNat:Int)==126)=true:=by rw[←a8,a3];rfl
 have ep:0<J.size:=by omega
 have ae:=dg.bV J a1;have a7:bM J=(J[0].toNat:Int):=by unfold bM;rw[dg.bS J ep]
 clear a1;have ag:((J[0].toNat:Int) != 43)=true:=by rw[←a7,bne_iff_ne];exact a2
 have a9:=gD J ep;rw[aB Y]at a9;clear Y;have aa:=dg.fH r3 a5;clear a5;clear a3 a4;clear a2;clear a8;clear a7;unfold maxLen at hs;go_enter Tryz.func167,Tryz.ntmps167;go_wp2_with fail;refine(K1.out _).mono ?_;rintro e w' ⟨rfl,q1,rfl⟩;go_wp2_with fail;refine(K2.out _).mono ?_;rintro e w' ⟨rfl,q2,rfl⟩;go_wp2_with fail;refine(K3.out _).mono ?_;rintro e w' ⟨rfl,rfl⟩;go_wp2_with fail;refine(K4.out _).mono ?_;rintro e w' ⟨rfl,q3,rfl⟩;go_wp2_with fail;refine bodyPost_ret (v:=.tuple #[.string fv,.int .i64 cv,.string (J.extract 0 1),.string tv,.int .i64 (-1)]) (by simp only[results,Tryz.results167];go_simp) rfl ?_
 exact⟨by rw[Hf.out,Hv.out.1,Hv.out.2.1,Hv.out.2.2.1,Hv.out.2.2.2],_,rfl⟩
theorem aIG(s:ByteArray)(w:World)(hs:s.size≤maxLen)(a5:¬(bK s).size=0)(a4:bM (bK s)=126)(a2:¬(bK (bL (bK s))).size=0)(a3:bM (bK (bL (bK s)))≠43)(Y:bM (bK (bL (bK s)))≠40)(aa:¬(bK (bL (bK (bL (bK s))))).size=0)(a0:bM (bK (bL (bK (bL (bK s)))))≠43):Calls Tryz.prog 167 #[.string s] w (dV s w):=by
 obtain⟨cv,a1⟩:∃cv,(dg.rd (fn0 (bL (bK s)))).1=cv:=⟨_,rfl⟩;have K3:∀w,Calls Tryz.prog 168 #[.string (fn0 (bL (bK s)))] w fun e w'=>e=.returned (.tuple #[.int .i64 cv,.int .i64 (dg.rd (fn0 (bL (bK s)))).2])∧w=w':=fun w=>by
  have:=jW (fn0 (bL (bK s))) w (by have:=dS s;have:=fJ (bK s);have:=gW (bL (bK s));omega)
  rw[a1]at this;exact this
 have K3:=hid K3;have eC:pC (bK s)=(cv,(bK (bL (bK s)))):=by unfold pC;rw[if_neg (by rintro(g | g);exact a5 g;exact g a4),a1]
 clear a1;have eM:pM (bK (bL (bK s)))=((bK (bL (bK s))).extract 0 1,fn0 (bL (bK (bL (bK s)))),(bK (bL (bK (bL (bK s)))))):=by unfold pM;rw[if_neg (by rintro(g | g);exact a2 g;exact a3 g),if_neg (fun g=>Y g.1)]
 have eL:pL (bK (bL (bK (bL (bK s)))))=(-1:Int):=by unfold pL;rw[if_pos (Or.inr a0)]
 have Hv:=hid (lT eC eM eL);clear eC eM eL;obtain⟨l1,l2,l3,l4,l5,l6⟩:=lens s (bK (bL (bK s)));have K1:=hid (fun w=>eU s w hs)
 have K2:=hid (fun w=>dC (bK s) w (by omega))
 have K4:=hid (fun w=>dC (bK (bL (bK s))) w (by omega))
 clear l2 l3 l4 l5 l6;generalize (dg.rd (fn0 (bL (bK s)))).2=ce at *;generalize fn0 (bL (bK s))=ct at *;generalize (bK (bL (bK (bL (bK s)))))=r3 at *;generalize fn0 (bL (bK (bL (bK s))))=tv at *;generalize bK (bL (bK s))=J at *;generalize bK s=r at *;generalize a6:fn0 s=fv at *;have Hf:=hid a6;clear a6;have er:0<r.size:=by omega
 have ak:=dg.bV r a5;have a8:bM r=(r[0].toNat:Int):=by unfold bM;rw[dg.bS r er]
 have ai:((r[0].toNat:Int)==126)=true:=by rw[←a8,a4];rfl
 have ep:0<J.size:=by omega
 have ah:=dg.bV J a2;have a7:bM J=(J[0].toNat:Int):=by unfold bM;rw[dg.bS J ep]
 clear a2;have aj:((J[0].toNat:Int) != 43)=true:=by rw[←a7,bne_iff_ne];exact a3
 have ae:=gD J ep;rw[aB Y]at ae;clear Y;have eq:0<r3.size:=by omega
 have ag:=dg.bV r3 aa;have a9:bM r3=(r3[0].toNat:Int):=by unfold bM;rw[dg.bS r3 eq]
 clear aa;have af:((r3[0].toNat:Int)==43)=false:=by rw[←a9,bI];exact a0
 clear a0 a9;clear a4 a5;clear a3;clear a8;clear a7;unfold maxLen at hs;go_enter Tryz.func167,Tryz.ntmps167;go_wp2_with fail;refine(K1.out _).mono ?_;rintro e w' ⟨rfl,q1,rfl⟩;go_wp2_with fail;refine(K2.out _).mono ?_;rintro e w' ⟨rfl,q2,rfl⟩;go_wp2_with fail;refine(K3.out _).mono ?_;rintro e w' ⟨rfl,rfl⟩;go_wp2_with fail;refine(K4.out _).mono ?_;rintro e w' ⟨rfl,q3,rfl⟩;go_wp2_with fail;refine bodyPost_ret (v:=.tuple #[.string fv,.int .i64 cv,.string (J.extract 0 1),.string tv,.int .i64 (-1)]) (by simp only[results,Tryz.results167];go_simp) rfl ?_
 exact⟨by rw[Hf.out,Hv.out.1,Hv.out.2.1,Hv.out.2.2.1,Hv.out.2.2.2],_,rfl⟩
theorem aHZ(s:ByteArray)(w:World)(hs:s.size≤maxLen)(a5:¬(bK s).size=0)(a4:bM (bK s)=126)(a2:¬(bK (bL (bK s))).size=0)(a3:bM (bK (bL (bK s)))≠43)(Y:bM (bK (bL (bK s)))≠40)(a6:¬(bK (bL (bK (bL (bK s))))).size=0)(a0:bM (bK (bL (bK (bL (bK s)))))=43):Calls Tryz.prog 167 #[.string s] w (dV s w):=by
 obtain⟨cv,a1⟩:∃cv,(dg.rd (fn0 (bL (bK s)))).1=cv:=⟨_,rfl⟩;have K3:∀w,Calls Tryz.prog 168 #[.string (fn0 (bL (bK s)))] w fun e w'=>e=.returned (.tuple #[.int .i64 cv,.int .i64 (dg.rd (fn0 (bL (bK s)))).2])∧w=w':=fun w=>by
  have:=jW (fn0 (bL (bK s))) w (by have:=dS s;have:=fJ (bK s);have:=gW (bL (bK s));omega)
  rw[a1]at this;exact this
 have K3:=hid K3;have eC:pC (bK s)=(cv,(bK (bL (bK s)))):=by unfold pC;rw[if_neg (by rintro(g | g);exact a5 g;exact g a4),a1]
 clear a1;have eM:pM (bK (bL (bK s)))=((bK (bL (bK s))).extract 0 1,fn0 (bL (bK (bL (bK s)))),(bK (bL (bK (bL (bK s)))))):=by unfold pM;rw[if_neg (by rintro(g | g);exact a2 g;exact a3 g),if_neg (fun g=>Y g.1)]
 have eL:pL (bK (bL (bK (bL (bK s)))))=(dg.rd (bL (bK (bL (bK (bL (bK s))))))).1:=by unfold pL;rw[if_neg (by rintro(g | g);exact a6 g;exact g a0)]
 have Hv:=hid (lT eC eM eL);clear eC eM eL;obtain⟨l1,l2,l3,l4,l5,l6⟩:=lens s (bK (bL (bK s)));have K1:=hid (fun w=>eU s w hs)
 have K2:=hid (fun w=>dC (bK s) w (by omega))
 have K4:=hid (fun w=>dC (bK (bL (bK s))) w (by omega))
 have K5:=hid (fun w=>mK (bK (bL (bK (bL (bK s))))) w (by omega))
 clear l2 l3 l4 l5 l6;generalize (dg.rd (fn0 (bL (bK s)))).2=ce at *;generalize fn0 (bL (bK s))=ct at *;generalize (dg.rd (bL (bK (bL (bK (bL (bK s))))))).1=lv at *;generalize (dg.rd (bL (bK (bL (bK (bL (bK s))))))).2=le at *;generalize (bK (bL (bK (bL (bK s)))))=r3 at *;generalize fn0 (bL (bK (bL (bK s))))=tv at *;generalize bK (bL (bK s))=J at *;generalize bK s=r at *;generalize a7:fn0 s=fv at *;have Hf:=hid a7;clear a7;have er:0<r.size:=by omega
 have ak:=dg.bV r a5;have a9:bM r=(r[0].toNat:Int):=by unfold bM;rw[dg.bS r er]
 have ai:((r[0].toNat:Int)==126)=true:=by rw[←a9,a4];rfl
 have ep:0<J.size:=by omega
 have ah:=dg.bV J a2;have a8:bM J=(J[0].toNat:Int):=by unfold bM;rw[dg.bS J ep]
 clear a2;have aj:((J[0].toNat:Int) != 43)=true:=by rw[←a8,bne_iff_ne];exact a3
 have ae:=gD J ep;rw[aB Y]at ae;clear Y;have eq:0<r3.size:=by omega
 have ag:=dg.bV r3 a6;have aa:bM r3=(r3[0].toNat:Int):=by unfold bM;rw[dg.bS r3 eq]
 clear a6;have af:((r3[0].toNat:Int)==43)=true:=by rw[←aa,a0];rfl
 clear a0 aa;clear a4 a5;clear a3;clear a9;clear a8;unfold maxLen at hs;go_enter Tryz.func167,Tryz.ntmps167;go_wp2_with fail;refine(K1.out _).mono ?_;rintro e w' ⟨rfl,q1,rfl⟩;go_wp2_with fail;refine(K2.out _).mono ?_;rintro e w' ⟨rfl,q2,rfl⟩;go_wp2_with fail;refine(K3.out _).mono ?_;rintro e w' ⟨rfl,rfl⟩;go_wp2_with fail;refine(K4.out _).mono ?_;rintro e w' ⟨rfl,q3,rfl⟩;go_wp2_with fail;refine(K5.out _).mono ?_;rintro e w' ⟨rfl,rfl⟩;go_wp2_with fail;refine bodyPost_ret (v:=.tuple #[.string fv,.int .i64 cv,.string (J.extract 0 1),.string tv,.int .i64 lv]) (by simp only[results,Tryz.results167];go_simp) rfl ?_
 exact⟨by rw[Hf.out,Hv.out.1,Hv.out.2.1,Hv.out.2.2.1,Hv.out.2.2.2],_,rfl⟩
theorem aHV(s:ByteArray)(w:World)(hs:s.size≤maxLen)(a4:¬(bK s).size=0)(a3:bM (bK s)=126)(a0:¬(bK (bL (bK s))).size=0)(a2:bM (bK (bL (bK s)))≠43)(a7:bM (bK (bL (bK s)))=40)(a1:(bK (bL (bK (bL (bK s)))))≠vG)(a5:(bK (bL (bK (bL (bK s))))).size=0):Calls Tryz.prog 167 #[.string s] w (dV s w):=by
 obtain⟨cv,Y⟩:∃cv,(dg.rd (fn0 (bL (bK s)))).1=cv:=⟨_,rfl⟩;have K3:∀w,Calls Tryz.prog 168 #[.string (fn0 (bL (bK s)))] w fun e w'=>e=.returned (.tuple #[.int .i64 cv,.int .i64 (dg.rd (fn0 (bL (bK s)))).2])∧w=w':=fun w=>by
  have:=jW (fn0 (bL (bK s))) w (by have:=dS s;have:=fJ (bK s);have:=gW (bL (bK s));omega)
  rw[Y]at this;exact this
 have K3:=hid K3;have eC:pC (bK s)=(cv,(bK (bL (bK s)))):=by unfold pC;rw[if_neg (by rintro(g | g);exact a4 g;exact g a3),Y]
 clear Y;have eM:pM (bK (bL (bK s)))=((bK (bL (bK s))).extract 0 1,fn0 (bL (bK (bL (bK s)))),(bK (bL (bK (bL (bK s)))))):=by unfold pM;rw[if_neg (by rintro(g | g);exact a0 g;exact a2 g),if_neg (fun g=>a1 g.2)]
 have eL:pL (bK (bL (bK (bL (bK s)))))=(-1:Int):=by unfold pL;rw[if_pos (Or.inl a5)]
 have Hv:=hid (lT eC eM eL);clear eC eM eL;obtain⟨l1,l2,l3,l4,l5,l6⟩:=lens s (bK (bL (bK s)));have K1:=hid (fun w=>eU s w hs)
 have K2:=hid (fun w=>dC (bK s) w (by omega))
 have K4:=hid (fun w=>dC (bK (bL (bK s))) w (by omega))
 clear l2 l3 l4 l5 l6;generalize (dg.rd (fn0 (bL (bK s)))).2=ce at *;generalize fn0 (bL (bK s))=ct at *;generalize (bK (bL (bK (bL (bK s)))))=r3 at *;generalize fn0 (bL (bK (bL (bK s))))=tv at *;generalize bK (bL (bK s))=J at *;generalize bK s=r at *;generalize a6:fn0 s=fv at *;have Hf:=hid a6;clear a6;have er:0<r.size:=by omega
 have aj:=dg.bV r a4;have a9:bM r=(r[0].toNat:Int):=by unfold bM;rw[dg.bS r er]
 have ah:((r[0].toNat:Int)==126)=true:=by rw[←a9,a3];rfl
 have ep:0<J.size:=by omega
 have ag:=dg.bV J a0;have a8:bM J=(J[0].toNat:Int):=by unfold bM;rw[dg.bS J ep]
 clear a0;have ai:((J[0].toNat:Int) != 43)=true:=by rw[←a8,bne_iff_ne];exact a2
 have ae:=gD J ep;rw[aC a7]at ae;clear a7;have aa:=kU r3;rw[aB a1]at aa;clear a1;have af:=dg.fH r3 a5;clear a5;clear a3 a4;clear a2;clear a9;clear a8;unfold maxLen at hs;go_enter Tryz.func167,Tryz.ntmps167;go_wp2_with fail;refine(K1.out _).mono ?_;rintro e w' ⟨rfl,q1,rfl⟩;go_wp2_with fail;refine(K2.out _).mono ?_;rintro e w' ⟨rfl,q2,rfl⟩;go_wp2_with fail;refine(K3.out _).mono ?_;rintro e w' ⟨rfl,rfl⟩;go_wp2_with fail;refine(K4.out _).mono ?_;rintro e w' ⟨rfl,q3,rfl⟩;go_wp2_with fail;refine bodyPost_ret (v:=.tuple #[.string fv,.int .i64 cv,.string (J.extract 0 1),.string tv,.int .i64 (-1)]) (by simp only[results,Tryz.results167];go_simp) rfl ?_
 exact⟨by rw[Hf.out,Hv.out.1,Hv.out.2.1,Hv.out.2.2.1,Hv.out.2.2.2],_,rfl⟩
theorem aID(s:ByteArray)(w:World)(hs:s.size≤maxLen)(a5:¬(bK s).size=0)(a4:bM (bK s)=126)(a1:¬(bK (bL (bK s))).size=0)(a3:bM (bK (bL (bK s)))≠43)(a7:bM (bK (bL (bK s)))=40)(a2:(bK (bL (bK (bL (bK s)))))≠vG)(ae:¬(bK (bL (bK (bL (bK s))))).size=0)(Y:bM (bK (bL (bK (bL (bK s)))))≠43):Calls Tryz.prog 167 #[.string s] w (dV s w):=by
 obtain⟨cv,a0⟩:∃cv,(dg.rd (fn0 (bL (bK s)))).1=cv:=⟨_,rfl⟩;have K3:∀w,Calls Tryz.prog 168 #[.string (fn0 (bL (bK s)))] w fun e w'=>e=.returned (.tuple #[.int .i64 cv,.int .i64 (dg.rd (fn0 (bL (bK s)))).2])∧w=w':=fun w=>by
  have:=jW (fn0 (bL (bK s))) w (by have:=dS s;have:=fJ (bK s);have:=gW (bL (bK s));omega)
  rw[a0]at this;exact this
 have K3:=hid K3;have eC:pC (bK s)=(cv,(bK (bL (bK s)))):=by unfold pC;rw[if_neg (by rintro(g | g);exact a5 g;exact g a4),a0]
 clear a0;have eM:pM (bK (bL (bK s)))=((bK (bL (bK s))).extract 0 1,fn0 (bL (bK (bL (bK s)))),(bK (bL (bK (bL (bK s)))))):=by unfold pM;rw[if_neg (by rintro(g | g);exact a1 g;exact a3 g),if_neg (fun g=>a2 g.2)]
 have eL:pL (bK (bL (bK (bL (bK s)))))=(-1:Int):=by unfold pL;rw[if_pos (Or.inr Y)]
 have Hv:=hid (lT eC eM eL);clear eC eM eL;obtain⟨l1,l2,l3,l4,l5,l6⟩:=lens s (bK (bL (bK s)));have K1:=hid (fun w=>eU s w hs)
 have K2:=hid (fun w=>dC (bK s) w (by omega))
 have K4:=hid (fun w=>dC (bK (bL (bK s))) w (by omega))
 clear l2 l3 l4 l5 l6;generalize (dg.rd (fn0 (bL (bK s)))).2=ce at *;generalize fn0 (bL (bK s))=ct at *;generalize (bK (bL (bK (bL (bK s)))))=r3 at *;generalize fn0 (bL (bK (bL (bK s))))=tv at *;generalize bK (bL (bK s))=J at *;generalize bK s=r at *;generalize a6:fn0 s=fv at *;have Hf:=hid a6;clear a6;have er:0<r.size:=by omega
 have ao:=dg.bV r a5;have a9:bM r=(r[0].toNat:Int):=by unfold bM;rw[dg.bS r er]
 have ak:((r[0].toNat:Int)==126)=true:=by rw[←a9,a4];rfl
 have ep:0<J.size:=by omega
 have aj:=dg.bV J a1;have a8:bM J=(J[0].toNat:Int):=by unfold bM;rw[dg.bS J ep]
 clear a1;have am:((J[0].toNat:Int) != 43)=true:=by rw[←a8,bne_iff_ne];exact a3
 have ag:=gD J ep;rw[aC a7]at ag;clear a7;have af:=kU r3;rw[aB a2]at af;clear a2;have eq:0<r3.size:=by omega
 have ai:=dg.bV r3 ae;have aa:bM r3=(r3[0].toNat:Int):=by unfold bM;rw[dg.bS r3 eq]
 clear ae;have ah:((r3[0].toNat:Int)==43)=false:=by rw[←aa,bI];exact Y
 clear Y aa;clear a4 a5;clear a3;clear a9;clear a8;unfold maxLen at hs;go_enter Tryz.func167,Tryz.ntmps167;go_wp2_with fail;refine(K1.out _).mono ?_;rintro e w' ⟨rfl,q1,rfl⟩;go_wp2_with fail;refine(K2.out _).mono ?_;rintro e w' ⟨rfl,q2,rfl⟩;go_wp2_with fail;refine(K3.out _).mono ?_;rintro e w' ⟨rfl,rfl⟩;go_wp2_with fail;refine(K4.out _).mono ?_;rintro e w' ⟨rfl,q3,rfl⟩;go_wp2_with fail;refine bodyPost_ret (v:=.tuple #[.string fv,.int .i64 cv,.string (J.extract 0 1),.string tv,.int .i64 (-1)]) (by simp only[results,Tryz.results167];go_simp) rfl ?_
 exact⟨by rw[Hf.out,Hv.out.1,Hv.out.2.1,Hv.out.2.2.1,Hv.out.2.2.2],_,rfl⟩
theorem aHs(s:ByteArray)(w:World)(hs:s.size≤maxLen)(a5:¬(bK s).size=0)(a4:bM (bK s)=126)(a1:¬(bK (bL (bK s))).size=0)(a3:bM (bK (bL (bK s)))≠43)(a8:bM (bK (bL (bK s)))=40)(a2:(bK (bL (bK (bL (bK s)))))≠vG)(a6:¬(bK (bL (bK (bL (bK s))))).size=0)(Y:bM (bK (bL (bK (bL (bK s)))))=43):Calls Tryz.prog 167 #[.string s] w (dV s w):=by
 obtain⟨cv,a0⟩:∃cv,(dg.rd (fn0 (bL (bK s)))).1=cv:=⟨_,rfl⟩;have K3:∀w,Calls Tryz.prog 168 #[.string (fn0 (bL (bK s)))] w fun e w'=>e=.returned (.tuple #[.int .i64 cv,.int .i64 (dg.rd (fn0 (bL (bK s)))).2])∧w=w':=fun w=>by
  have:=jW (fn0 (bL (bK s))) w (by have:=dS s;have:=fJ (bK s);have:=gW (bL (bK s));omega)
  rw[a0]at this;exact this
 have K3:=hid K3;have eC:pC (bK s)=(cv,(bK (bL (bK s)))):=by unfold pC;rw[if_neg (by rintro(g | g);exact a5 g;exact g a4),a0]
 clear a0;have eM:pM (bK (bL (bK s)))=((bK (bL (bK s))).extract 0 1,fn0 (bL (bK (bL (bK s)))),(bK (bL (bK (bL (bK s)))))):=by unfold pM;rw[if_neg (by rintro(g | g);exact a1 g;exact a3 g),if_neg (fun g=>a2 g.2)]
 have eL:pL (bK (bL (bK (bL (bK s)))))=(dg.rd (bL (bK (bL (bK (bL (bK s))))))).1:=by unfold pL;rw[if_neg (by rintro(g | g);exact a6 g;exact g Y)]
 have Hv:=hid (lT eC eM eL);clear eC eM eL;obtain⟨l1,l2,l3,l4,l5,l6⟩:=lens s (bK (bL (bK s)));have K1:=hid (fun w=>eU s w hs)
 have K2:=hid (fun w=>dC (bK s) w (by omega))
 have K4:=hid (fun w=>dC (bK (bL (bK s))) w (by omega))
 have K5:=hid (fun w=>mK (bK (bL (bK (bL (bK s))))) w (by omega))
 clear l2 l3 l4 l5 l6;generalize (dg.rd (fn0 (bL (bK s)))).2=ce at *;generalize fn0 (bL (bK s))=ct at *;generalize (dg.rd (bL (bK (bL (bK (bL (bK s))))))).1=lv at *;generalize (dg.rd (bL (bK (bL (bK (bL (bK s))))))).2=le at *;generalize (bK (bL (bK (bL (bK s)))))=r3 at *;generalize fn0 (bL (bK (bL (bK s))))=tv at *;generalize bK (bL (bK s))=J at *;generalize bK s=r at *;generalize a7:fn0 s=fv at *;have Hf:=hid a7;clear a7;have er:0<r.size:=by omega
 have ao:=dg.bV r a5;have aa:bM r=(r[0].toNat:Int):=by unfold bM;rw[dg.bS r er]
 have ak:((r[0].toNat:Int)==126)=true:=by rw[←aa,a4];rfl
 have ep:0<J.size:=by omega
 have aj:=dg.bV J a1;have a9:bM J=(J[0].toNat:Int):=by unfold bM;rw[dg.bS J ep]
 clear a1;have am:((J[0].toNat:Int) != 43)=true:=by rw[←a9,bne_iff_ne];exact a3
 have ag:=gD J ep;rw[aC a8]at ag;clear a8;have af:=kU r3;rw[aB a2]at af;clear a2;have eq:0<r3.size:=by omega
 have ai:=dg.bV r3 a6;have ae:bM r3=(r3[0].toNat:Int):=by unfold bM;rw[dg.bS r3 eq]
 clear a6;have ah:((r3[0].toNat:Int)==43)=true:=by rw[←ae,Y];rfl
 clear Y ae;clear a4 a5;clear a3;clear aa;clear a9;unfold maxLen at hs;go_enter Tryz.func167,Tryz.ntmps167;go_wp2_with fail;refine(K1.out _).mono ?_;rintro e w' ⟨rfl,q1,rfl⟩;go_wp2_with fail;refine(K2.out _).mono ?_;rintro e w' ⟨rfl,q2,rfl⟩;go_wp2_with fail;refine(K3.out _).mono ?_;rintro e w' ⟨rfl,rfl⟩;go_wp2_with fail;refine(K4.out _).mono ?_;rintro e w' ⟨rfl,q3,rfl⟩;go_wp2_with fail;refine(K5.out _).mono ?_;rintro e w' ⟨rfl,rfl⟩;go_wp2_with fail;refine bodyPost_ret (v:=.tuple #[.string fv,.int .i64 cv,.string (J.extract 0 1),.string tv,.int .i64 lv]) (by simp only[results,Tryz.results167];go_simp) rfl ?_
 exact⟨by rw[Hf.out,Hv.out.1,Hv.out.2.1,Hv.out.2.2.1,Hv.out.2.2.2],_,rfl⟩
theorem aHq(s:ByteArray)(w:World)(hs:s.size≤maxLen)(a5:¬(bK s).size=0)(a4:bM (bK s)=126)(a1:¬(bK (bL (bK s))).size=0)(a3:bM (bK (bL (bK s)))≠43)(Y:bM (bK (bL (bK s)))=40)(a2:(bK (bL (bK (bL (bK s)))))=vG):Calls Tryz.prog 167 #[.string s] w (dV s w):=by
 obtain⟨cv,a0⟩:∃cv,(dg.rd (fn0 (bL (bK s)))).1=cv:=⟨_,rfl⟩;have K3:∀w,Calls Tryz.prog 168 #[.string (fn0 (bL (bK s)))] w fun e w'=>e=.returned (.tuple #[.int .i64 cv,.int .i64 (dg.rd (fn0 (bL (bK s)))).2])∧w=w':=fun w=>by
  have:=jW (fn0 (bL (bK s))) w (by have:=dS s;have:=fJ (bK s);have:=gW (bL (bK s));omega)
  rw[a0]at this;exact this
 have K3:=hid K3;have eC:pC (bK s)=(cv,(bK (bL (bK s)))):=by unfold pC;rw[if_neg (by rintro(g | g);exact a5 g;exact g a4),a0]
 clear a0;have eM:pM (bK (bL (bK s)))=((bK (bL (bK s))).extract 0 1,fn0 (bL (bK (bL (bK s)))),⟨#[]⟩):=by unfold pM;rw[if_neg (by rintro(g | g);exact a1 g;exact a3 g),if_pos ⟨Y,a2⟩]
 have eL:pL (⟨#[]⟩:ByteArray)=(-1:Int):=by unfold pL;rw[if_pos (Or.inl (show(⟨#[]⟩:ByteArray).size=0 from rfl))]
 have Hv:=hid (lT eC eM eL);clear eC eM eL;obtain⟨l1,l2,l3,l4,l5,l6⟩:=lens s (bK (bL (bK s)));have K1:=hid (fun w=>eU s w hs)
 have K2:=hid (fun w=>dC (bK s) w (by omega))
 have K4:=hid (fun w=>dC (bK (bL (bK s))) w (by omega))
 clear l2 l3 l4 l5 l6;generalize (dg.rd (fn0 (bL (bK s)))).2=ce at *;generalize fn0 (bL (bK s))=ct at *;generalize (bK (bL (bK (bL (bK s)))))=r3 at *;generalize fn0 (bL (bK (bL (bK s))))=tv at *;generalize bK (bL (bK s))=J at *;generalize bK s=r at *;generalize a6:fn0 s=fv at *;have Hf:=hid a6;clear a6;have er:0<r.size:=by omega
 have ah:=dg.bV r a5;have a8:bM r=(r[0].toNat:Int):=by unfold bM;rw[dg.bS r er]
 have af:((r[0].toNat:Int)==126)=true:=by rw[←a8,a4];rfl
 have ep:0<J.size:=by omega
 have ae:=dg.bV J a1;have a7:bM J=(J[0].toNat:Int):=by unfold bM;rw[dg.bS J ep]
 clear a1;have ag:((J[0].toNat:Int) != 43)=true:=by rw[←a7,bne_iff_ne];exact a3
 have aa:=gD J ep;rw[aC Y]at aa;clear Y;have a9:=kU r3;rw[aC a2]at a9;clear a2;clear a4 a5;clear a3;clear a8;clear a7;unfold maxLen at hs;go_enter Tryz.func167,Tryz.ntmps167;go_wp2_with fail;refine(K1.out _).mono ?_;rintro e w' ⟨rfl,q1,rfl⟩;go_wp2_with fail;refine(K2.out _).mono ?_;rintro e w' ⟨rfl,q2,rfl⟩;go_wp2_with fail;refine(K3.out _).mono ?_;rintro e w' ⟨rfl,rfl⟩;go_wp2_with fail;refine(K4.out _).mono ?_;rintro e w' ⟨rfl,q3,rfl⟩;go_wp2_with fail;refine bodyPost_ret (v:=.tuple #[.string fv,.int .i64 cv,.string (J.extract 0 1),.string tv,.int .i64 (-1)]) (by simp only[results,Tryz.results167];go_simp) rfl ?_
 exact⟨by rw[Hf.out,Hv.out.1,Hv.out.2.1,Hv.out.2.2.1,Hv.out.2.2.2],_,rfl⟩
theorem aIF(s:ByteArray)(w:World)(hs:s.size≤maxLen):Calls Tryz.prog 167 #[.string s] w (dV s w):=by
 by_cases J:(bK s).size=0
 ·exact aHI s w hs J
 by_cases Y:bM (bK s)=126
 ·by_cases a4:(bK (bL (bK s))).size=0
  ·exact aHU s w hs J Y a4
  by_cases a0:bM (bK (bL (bK s)))=43
  ·exact aH6 s w hs J Y a4 a0
  by_cases a1:bM (bK (bL (bK s)))=40
  ·by_cases a5:(bK (bL (bK (bL (bK s)))))=vG
   ·exact aHq s w hs J Y a4 a0 a1 a5
   by_cases a2:(bK (bL (bK (bL (bK s))))).size=0
   ·exact aHV s w hs J Y a4 a0 a1 a5 a2
   by_cases a3:bM (bK (bL (bK (bL (bK s)))))=43
   ·exact aHs s w hs J Y a4 a0 a1 a5 a2 a3
   exact aID s w hs J Y a4 a0 a1 a5 a2 a3
  by_cases a2:(bK (bL (bK (bL (bK s))))).size=0
  ·exact aHB s w hs J Y a4 a0 a1 a2
  by_cases a3:bM (bK (bL (bK (bL (bK s)))))=43
  ·exact aHZ s w hs J Y a4 a0 a1 a2 a3
  exact aIG s w hs J Y a4 a0 a1 a2 a3
 by_cases a0:bM (bK s)=43
 ·exact aHx s w hs J Y a0
 by_cases a1:bM (bK s)=40
 ·by_cases a5:(bK (bL (bK s)))=vG
  ·exact aIg s w hs J Y a0 a1 a5
  by_cases a2:(bK (bL (bK s))).size=0
  ·exact aIA s w hs J Y a0 a1 a5 a2
  by_cases a3:bM (bK (bL (bK s)))=43
  ·exact aIx s w hs J Y a0 a1 a5 a2 a3
  exact aHY s w hs J Y a0 a1 a5 a2 a3
 by_cases a2:(bK (bL (bK s))).size=0
 ·exact aHK s w hs J Y a0 a1 a2
 by_cases a3:bM (bK (bL (bK s)))=43
 ·exact aIt s w hs J Y a0 a1 a2 a3
 exact aHP s w hs J Y a0 a1 a2 a3
end nm
end Go.Proofs.YtdmmkjijgoiecaaGreatDoor
