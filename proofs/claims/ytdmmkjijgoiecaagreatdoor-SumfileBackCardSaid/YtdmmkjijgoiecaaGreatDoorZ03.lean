import Derived.Test.YtdmmkjijgoiecaaGreatDoorB29
import Derived.Test.YtdmmkjijgoiecaaGreatDoorZ02
set_option linter.all false
set_option maxHeartbeats 4000000
namespace Go.Proofs.YtdmmkjijgoiecaaGreatDoor
open Lib(hid)
set_option maxRecDepth 100000
namespace re
open RowKit Shelf mem sy vr po
theorem uO:Tryz.prog.underlying 99=some (.struct (Tryz.prog.fieldsOf 99)):=by kernel_rfl
theorem aNq{w0:World}{r pb:Nat}{s:ByteArray}{p:Nat}{er:Int}{pA:Option Addr}{pc:Nat}{m:List (List UInt8)}{w:World}(hp:Pl w0 pb pA pc m)(hm:m.length≤1000000)(a6:∀x∈m,x.length≤maxLen)(hs:s.size≤maxLen)(a9:p≤s.size)(ai:er≠6)(h:PD w0 r s p er w) :
 Calls Tryz.prog 98 #[uD r pb] w (OP EOb MO.o r (PD w0 r s) (vN m s p er).1 (vN m s p er).2.1 (vN m s p er).2.2 w):=by
 obtain⟨W,a0⟩:∃W,Hid (W=(w.alloc (.cells #[.pointer (some ⟨r,0,none⟩),.pointer (some ⟨pb,0,none⟩)] 141)).alloc (.cells #[.string ⟨#[]⟩,.string ⟨#[]⟩,.slice none 0 0] 99)):=⟨_,hid rfl⟩;have hz:(w.alloc (.cells #[.pointer (some ⟨r,0,none⟩),.pointer (some ⟨pb,0,none⟩)] 141)).heap.size=w.heap.size+1:=bH _;have hW:PD w0 r s p er W:=by rw[a0.out];exact(h.alloc _).alloc _
 have hf:Hid (Fr [] w W):=hid (by rw[a0.out];exact((Fr.refl [] w).alloc _).alloc _)
 have B0:bT W w.heap.size 141 #[.pointer (some ⟨r,0,none⟩),.pointer (some ⟨pb,0,none⟩)]:=by rw[a0.out];exact(bT.new w _ _).kept ((Fr.refl [] _).alloc _) (by simp)
 have B1:bT W (w.heap.size+1) 99 #[.string ⟨#[]⟩,.string ⟨#[]⟩,.slice none 0 0]:=by rw[a0.out,←hz];exact bT.new _ _ _
 have ay:=h.lt;have n0:w.heap.size≠r:=by omega
 have n1:w.heap.size+1≠r:=by omega
 have HB:Hid (∀J,Fr [r] W J→bT J w.heap.size 141 #[.pointer (some ⟨r,0,none⟩),.pointer (some ⟨pb,0,none⟩)]∧bT J (w.heap.size+1) 99 #[.string ⟨#[]⟩,.string ⟨#[]⟩,.slice none 0 0]):=hid (fun J f=>⟨B0.kept f (by simpa using n0),B1.kept f (by simpa using n1)⟩)
 have HT:=hid (fun(J:World) (q:Nat) (e:Int) (hq:q≤s.size) (x:PD w0 r s q e J)=>gF (pb:=pb) hp hm hs hq x)
 have HN:=hid (fun(J:World) (q:Nat) (e:Int) (hq:q≤s.size) (x:PD w0 r s q e J)=>gY J r s q e x.rd hs hq)
 have ax:Hid (w0.heap.size≤W.heap.size):=hid hW.be.size;have aw:Hid (r<W.heap.size):=hid hW.lt;have q1:=hid (eB s p er a9);have q2:=hid (eB s (nP s p er) (tN m s p er) q1.out);have e1:=lN m s p er ai;have au:=hid (lN m s (nP s p er) (tN m s p er) e1)
 have a8:Hid (∀(w8:World) (q:Nat) (e:Int) (Y:Nat) (cs:Array Value) (x y z:Value),SW w0 r s q e W 99 Y cs w8→bT ((((w8).setCell ⟨w.heap.size+1,0,none⟩ x).setCell ⟨w.heap.size+1,1,none⟩ y).setCell ⟨w.heap.size+1,2,none⟩ z) (w.heap.size+1) 99 #[x,y,z]∧PD w0 r s q e ((((w8).setCell ⟨w.heap.size+1,0,none⟩ x).setCell ⟨w.heap.size+1,1,none⟩ y).setCell ⟨w.heap.size+1,2,none⟩ z)∧Fr [r] w ((((w8).setCell ⟨w.heap.size+1,0,none⟩ x).setCell ⟨w.heap.size+1,1,none⟩ y).setCell ⟨w.heap.size+1,2,none⟩ z)∧Fr [w.heap.size+1] w8 ((((w8).setCell ⟨w.heap.size+1,0,none⟩ x).setCell ⟨w.heap.size+1,1,none⟩ y).setCell ⟨w.heap.size+1,2,none⟩ z)):=hid (fun w8 q e Y cs x y z g=>by
  have b:=(HB.out w8 g.fr).2;have l0:w0.heap.size≤w.heap.size+1:=aZ h.be.size (Nat.le_succ _);have fa:Fr [r] w w8:=hf.out.trans g.fr (by simp) (fun x hx=>Or.inl hx)
  exact⟨(((b).put 0 x).put 1 y).put 2 z,(((g.pd).set n1 l0 0 x).set n1 l0 1 y).set n1 l0 2 z,(((fa).setCell (p:=⟨w.heap.size+1,0,none⟩) (Or.inr (Nat.le_succ _)) x).setCell (p:=⟨w.heap.size+1,1,none⟩) (Or.inr (Nat.le_succ _)) y).setCell (p:=⟨w.heap.size+1,2,none⟩) (Or.inr (Nat.le_succ _)) z,((((Fr.refl [w.heap.size+1] w8)).setCell (p:=⟨w.heap.size+1,0,none⟩) (Or.inl (by simp)) x).setCell (p:=⟨w.heap.size+1,1,none⟩) (Or.inl (by simp)) y).setCell (p:=⟨w.heap.size+1,2,none⟩) (Or.inl (by simp)) z⟩)
 have K1:=hid (HT.out W p er a9 hW);have x0:W.cell? ⟨w.heap.size,0,none⟩=some (.pointer (some ⟨r,0,none⟩)):=B0.cell 0;have x1:W.cell? ⟨w.heap.size,1,none⟩=some (.pointer (some ⟨pb,0,none⟩)):=B0.cell 1;have aj:Hid (∀(J:World) (q:Nat) (e:Int),q≤s.size→e≠6→PD w0 r s q e J→Fr [r] W J→Calls Tryz.prog 158 #[uD r pb,.func (.func 159) #[] #[.pointer (some ⟨w.heap.size,0,none⟩)]] J (yO EMk 2 (fun m:Mk=>m) r (PD w0 r s) 101 (dA (nT m s) s q e).1 (dA (nT m s) s q e).2.1 (dA (nT m s) s q e).2.2 J)):=hid (fun J q e hq he x f=>aL2 hs hq x he (hid (aNo m s)) (hid (fun w3 q3 e3 ar b1 x3 f3=>aLX hp hm a6 hs ar x3 ((HB.out J f).1.kept f3 (by simpa using n0)) n0)))
 have sa:Hid ((tT m s p er).size≤maxLen):=hid (kG m s _ _ a6);have sb:Hid ((tT m s (nP s p er) (tN m s p er)).size≤maxLen):=hid (kG m s _ _ a6);have ag:Hid (w.heap.size+1<W.heap.size):=hid B1.lt;unfold PP at HT K1;unfold OP vN;dsimp only;clear hp hm a6 hs a9 h hW B0 B1 ay n0 n1 hf ai e1 HN;unfold uD at *;generalize tT m s p er=a at *;generalize nP s p er=p1 at *;generalize tN m s p er=e1 at *;have az:=hid (fun(w3:World) (x:PD w0 r s p1 e1 w3)=>HT.out w3 p1 e1 q1.out x)
 generalize tT m s p1 e1=b at *;generalize nP s p1 e1=p2 at *;generalize tN m s p1 e1=e2 at *;have av:=hid (fun(w3:World) (x:PD w0 r s p2 e2 w3) (f:Fr [r] W w3)=>aj.out w3 p2 e2 q2.out au.out x f)
 generalize (dA (nT m s) s p2 e2).1=L at *;generalize (dA (nT m s) s p2 e2).2.1=p3 at *;generalize (dA (nT m s) s p2 e2).2.2=e3 at *;clear HT aj;go_enter Tryz.func98,Tryz.ntmps98;go_upto_region 1 with fail;rw[←a0.out]
 try rw[hz]
 clear hz a0;generalize ae:w.heap.size=bx at *;replace ae:=hid ae;go_wp2_with fail;refine K1.out.mono ?_;rintro e J ⟨rfl,y2,f2⟩;have S3:=hid (SW.new y2 f2 ax.out aw.out 99 #[.string a,.string ⟨#[]⟩,.slice none 0 0]);clear y2 f2 K1 x0 x1;go_upto_region 2 with fail;generalize J.alloc (.cells #[.string a,.string ⟨#[]⟩,.slice none 0 0] 99)=w3 at *;generalize J.heap.size=Y at *;have x0:w3.cell? ⟨bx,0,none⟩=some (.pointer (some ⟨r,0,none⟩)):=(HB.out _ S3.out.fr).1.cell 0;have x1:w3.cell? ⟨bx,1,none⟩=some (.pointer (some ⟨pb,0,none⟩)):=(HB.out _ S3.out.fr).1.cell 1;have K2:=hid (az.out w3 S3.out.pd);go_wp2_with fail;refine K2.out.mono ?_;rintro e w4 ⟨rfl,y4,f4⟩;have S4:=hid (S3.out.read y4 f4);have c4:=S4.out.bx.cell 1;have g4:=S4.out.bx.free 1;clear y4 f4 K2 x0 x1 S3;go_upto_region 3 with fail;have S5:=hid (S4.out.put 1 (.string b));generalize w4.setCell ⟨Y,1,none⟩ (.string b)=w5 at *
 clear c4 g4 S4;have x0:w5.cell? ⟨bx,0,none⟩=some (.pointer (some ⟨r,0,none⟩)):=(HB.out _ S5.out.fr).1.cell 0;have x1:w5.cell? ⟨bx,1,none⟩=some (.pointer (some ⟨pb,0,none⟩)):=(HB.out _ S5.out.fr).1.cell 1;have K3:=hid (av.out w5 S5.out.pd S5.out.fr);have ao:=hid (show Y<w5.heap.size from S5.out.bx.lt);unfold yO at K3;go_wp2_with fail;refine K3.out.mono ?_;rintro e w6 ⟨A,cap,bs,hL,rfl,ak,y6,f6,aa,af⟩;have S6:=hid (S5.out.read y6 f6);have c6:=S6.out.bx.cell 2;have g6:=S6.out.bx.free 2
 have a7:Hid (∀W9,Fr [Y,bx+1] w6 W9→PD w0 r s p3 e3 W9→Fr [r] w W9→∃x:MO,(Ending.returned (.agg #[.string a,.string b,.slice A bs.length cap]):Ending)=.returned (.agg (EOb.row x).toArray)∧MO.o x=(⟨a,b,L⟩:SO)∧PD w0 r s p3 e3 W9∧Fr [r] w W9∧EOb.ok W9 x∧∀y∈EOb.bl x,bx≤y):=hid (by
  intro W9 f9 d9 r9;have n9:∀g∈blk A,g∉[Y,bx+1]:=fun g hg h1=>by
   have a1:=aa g hg;have a2:=ao.out;have a3:=ag.out;have a4:=S5.out.fr.size;simp only[aM,aT,or_false]at h1;omega
  have a5:=ak.kept f9 n9;refine⟨⟨⟨a,b,bs⟩,A,cap⟩,rfl,by rw[←hL,List.map_id'],d9,r9,⟨⟨sa.out,sb.out,aAa (f:=oI) (fun _=>rfl) (by decide) a5,aZ a5.le a5.max,fun x hx=>(af x hx).1.1,fun x hx=>(af x hx).1.2,a5.le⟩,fun g hg=>a5.lt g hg⟩,fun y hy=>?_⟩
  have a1:=aa y hy;have a4:=S5.out.fr.size;have a3:=ag.out
  omega)
 clear y6 f6 K3 x0 x1 S5 ak aa af hL sa sb;generalize bs.length=z at *;go_upto_region 4 with fail;have S7:=hid (S6.out.put 2 (.slice A z cap));have F7:Hid (Fr [Y,bx+1] w6 (w6.setCell ⟨Y,2,none⟩ (.slice A z cap))):=hid ((Fr.refl [Y,bx+1] w6).setCell (p:=⟨Y,2,none⟩) (Or.inl (by simp)) _)
 generalize w6.setCell ⟨Y,2,none⟩ (.slice A z cap)=w7 at *;clear c6 g6 S6;have x0:w7.cell? ⟨Y,0,none⟩=some (.string a):=S7.out.bx.cell 0;have x1:w7.cell? ⟨Y,1,none⟩=some (.string b):=S7.out.bx.cell 1;have x2:w7.cell? ⟨Y,2,none⟩=some (.slice A z cap):=S7.out.bx.cell 2;have B7:=hid (HB.out _ S7.out.fr).2;have z0:w7.cell? ⟨bx+1,0,none⟩=some (.string ⟨#[]⟩):=B7.out.cell 0;have z1:w7.cell? ⟨bx+1,1,none⟩=some (.string ⟨#[]⟩):=B7.out.cell 1;have z2:w7.cell? ⟨bx+1,2,none⟩=some (.slice none 0 0):=B7.out.cell 2;have v0:=B7.out.free 0;have v1:=B7.out.free 1;have v2:=B7.out.free 2;obtain⟨hB,hD,am,ah⟩:=a8.out w7 p3 e3 Y _ (.string a) (.string b) (.slice A z cap) S7.out;have ap:=hid hB;have HX:=hid (a7.out _ (F7.out.trans ah (fun x hx=>Or.inl hx) (fun x hx=>Or.inl (by simp only[aD]at hx;subst hx;simp))) hD am)
 clear hB hD am ah a8 a7;go_wp2_with fail;refine bodyPost_ret (results_cell_row rfl _ _ _ _ _ _ _ rfl ap.out uO rfl (by kernel_rfl)) rfl ?_
 rw[ae.out];exact HX.out
end re
set_option maxRecDepth 100000
namespace re
open RowKit Shelf mem sy vr po
theorem uC:Tryz.prog.underlying 105=some (.struct (Tryz.prog.fieldsOf 105)):=by kernel_rfl
theorem aM4{w0:World}{r pb:Nat}{s:ByteArray}{p:Nat}{er:Int}{pA:Option Addr}{pc:Nat}{m:List (List UInt8)}{w:World}(hp:Pl w0 pb pA pc m)(hm:m.length≤1000000)(am:∀x∈m,x.length≤maxLen)(hs:s.size≤maxLen)(ah:p≤s.size)(ax:er≠6)(h:PD w0 r s p er w) :
 Calls Tryz.prog 102 #[uD r pb] w (OP ECo MC.c r (PD w0 r s) (lW m s p er).1 (lW m s p er).2.1 (lW m s p er).2.2 w):=by
 obtain⟨W,a5⟩:∃W,Hid (W=(w.alloc (.cells #[.pointer (some ⟨r,0,none⟩),.pointer (some ⟨pb,0,none⟩)] 141)).alloc (.cells #[.int .i64 0,.string ⟨#[]⟩,.string ⟨#[]⟩,.int .i64 0,.string ⟨#[]⟩,.slice none 0 0] 105)):=⟨_,hid rfl⟩;have hz:(w.alloc (.cells #[.pointer (some ⟨r,0,none⟩),.pointer (some ⟨pb,0,none⟩)] 141)).heap.size=w.heap.size+1:=bH _;have hW:PD w0 r s p er W:=by rw[a5.out];exact(h.alloc _).alloc _
 have hf:Hid (Fr [] w W):=hid (by rw[a5.out];exact((Fr.refl [] w).alloc _).alloc _)
 have B0:bT W w.heap.size 141 #[.pointer (some ⟨r,0,none⟩),.pointer (some ⟨pb,0,none⟩)]:=by rw[a5.out];exact(bT.new w _ _).kept ((Fr.refl [] _).alloc _) (by simp)
 have B1:bT W (w.heap.size+1) 105 #[.int .i64 0,.string ⟨#[]⟩,.string ⟨#[]⟩,.int .i64 0,.string ⟨#[]⟩,.slice none 0 0]:=by rw[a5.out,←hz];exact bT.new _ _ _
 have bd:=h.lt;have n0:w.heap.size≠r:=by omega
 have n1:w.heap.size+1≠r:=by omega
 have HB:Hid (∀w2,Fr [r] W w2→bT w2 w.heap.size 141 #[.pointer (some ⟨r,0,none⟩),.pointer (some ⟨pb,0,none⟩)]∧bT w2 (w.heap.size+1) 105 #[.int .i64 0,.string ⟨#[]⟩,.string ⟨#[]⟩,.int .i64 0,.string ⟨#[]⟩,.slice none 0 0]):=hid (fun w2 f=>⟨B0.kept f (by simpa using n0),B1.kept f (by simpa using n1)⟩)
 have HT:=hid (fun(w2:World) (q:Nat) (e:Int) (hq:q≤s.size) (x:PD w0 r s q e w2)=>gF (pb:=pb) hp hm hs hq x)
 have HN:=hid (fun(w2:World) (q:Nat) (e:Int) (hq:q≤s.size) (x:PD w0 r s q e w2)=>gY w2 r s q e x.rd hs hq)
 have bc:Hid (w0.heap.size≤W.heap.size):=hid hW.be.size;have bb:Hid (r<W.heap.size):=hid hW.lt;have q1:=hid (eB s p er ah);have q2:=hid (eB s (nP s p er) (nE s p er) q1.out)
 have ag:Hid (∀(w8:World) (q:Nat) (e:Int) (b3:Nat) (cs:Array Value) (Y x1 x2 x3 x4 x5:Value),SW w0 r s q e W 105 b3 cs w8→bT (((((((w8).setCell ⟨w.heap.size+1,0,none⟩ Y).setCell ⟨w.heap.size+1,1,none⟩ x1).setCell ⟨w.heap.size+1,2,none⟩ x2).setCell ⟨w.heap.size+1,3,none⟩ x3).setCell ⟨w.heap.size+1,4,none⟩ x4).setCell ⟨w.heap.size+1,5,none⟩ x5) (w.heap.size+1) 105 #[Y,x1,x2,x3,x4,x5]∧PD w0 r s q e (((((((w8).setCell ⟨w.heap.size+1,0,none⟩ Y).setCell ⟨w.heap.size+1,1,none⟩ x1).setCell ⟨w.heap.size+1,2,none⟩ x2).setCell ⟨w.heap.size+1,3,none⟩ x3).setCell ⟨w.heap.size+1,4,none⟩ x4).setCell ⟨w.heap.size+1,5,none⟩ x5)∧Fr [r] w (((((((w8).setCell ⟨w.heap.size+1,0,none⟩ Y).setCell ⟨w.heap.size+1,1,none⟩ x1).setCell ⟨w.heap.size+1,2,none⟩ x2).setCell ⟨w.heap.size+1,3,none⟩ x3).setCell ⟨w.heap.size+1,4,none⟩ x4).setCell ⟨w.heap.size+1,5,none⟩ x5)∧Fr [w.heap.size+1] w8 (((((((w8).setCell ⟨w.heap.size+1,0,none⟩ Y).setCell ⟨w.heap.size+1,1,none⟩ x1).setCell ⟨w.heap.size+1,2,none⟩ x2).setCell ⟨w.heap.size+1,3,none⟩ x3).setCell ⟨w.heap.size+1,4,none⟩ x4).setCell ⟨w.heap.size+1,5,none⟩ x5)):=hid (fun w8 q e b3 cs Y x1 x2 x3 x4 x5 g=>by
  have b:=(HB.out w8 g.fr).2;have l0:w0.heap.size≤w.heap.size+1:=aZ h.be.size (Nat.le_succ _);have fa:Fr [r] w w8:=hf.out.trans g.fr (by simp) (fun x hx=>Or.inl hx)
  exact⟨((((((b).put 0 Y).put 1 x1).put 2 x2).put 3 x3).put 4 x4).put 5 x5,((((((g.pd).set n1 l0 0 Y).set n1 l0 1 x1).set n1 l0 2 x2).set n1 l0 3 x3).set n1 l0 4 x4).set n1 l0 5 x5,((((((fa).setCell (p:=⟨w.heap.size+1,0,none⟩) (Or.inr (Nat.le_succ _)) Y).setCell (p:=⟨w.heap.size+1,1,none⟩) (Or.inr (Nat.le_succ _)) x1).setCell (p:=⟨w.heap.size+1,2,none⟩) (Or.inr (Nat.le_succ _)) x2).setCell (p:=⟨w.heap.size+1,3,none⟩) (Or.inr (Nat.le_succ _)) x3).setCell (p:=⟨w.heap.size+1,4,none⟩) (Or.inr (Nat.le_succ _)) x4).setCell (p:=⟨w.heap.size+1,5,none⟩) (Or.inr (Nat.le_succ _)) x5,(((((((Fr.refl [w.heap.size+1] w8)).setCell (p:=⟨w.heap.size+1,0,none⟩) (Or.inl (by simp)) Y).setCell (p:=⟨w.heap.size+1,1,none⟩) (Or.inl (by simp)) x1).setCell (p:=⟨w.heap.size+1,2,none⟩) (Or.inl (by simp)) x2).setCell (p:=⟨w.heap.size+1,3,none⟩) (Or.inl (by simp)) x3).setCell (p:=⟨w.heap.size+1,4,none⟩) (Or.inl (by simp)) x4).setCell (p:=⟨w.heap.size+1,5,none⟩) (Or.inl (by simp)) x5⟩)
 have K1:=hid (HN.out W p er ah hW);have Y:W.cell? ⟨w.heap.size,0,none⟩=some (.pointer (some ⟨r,0,none⟩)):=B0.cell 0;have a9:Hid (∀p e,(tT m s p e).size≤maxLen):=hid (fun p e=>kG m s p e am)
 have hQ:Hid (∀p e,p≤s.size→nP s p e≤s.size):=hid (fun p e hp=>eB s p e hp)
 have ai:Hid (∀p e,e≠6→nE s p e≠6):=hid (fun p e he=>rV s p e he)
 have aa:Hid (∀p e,e≠6→tN m s p e≠6):=hid (fun p e he=>lN m s p e he)
 have b5:Hid (∀(w2:World) (q:Nat) (e:Int),q≤s.size→e≠6→PD w0 r s q e w2→Calls Tryz.prog 96 #[uD r pb,.func (.func 95) #[uD r pb] #[]] w2 (LP w0 r s 9 (dA (fG m s) s q e).1.length ((dA (fG m s) s q e).1.map Value.string) (dA (fG m s) s q e).2.1 (dA (fG m s) s q e).2.2 w2)):=hid (fun w2 q e hq he x=>aD9 hp hm hs hq x (uQ s q e he))
 have au:Hid (∀q e k,∀x∈(dX (fG m s) k q e).1,x.size≤maxLen):=hid (fun q e k=>zP m s am k q e)
 have b1:Hid (∀(q:Nat) (e:Int),∀x∈(dA (fG m s) s q e).1,x.size≤maxLen):=hid (fun q e=>au.out _ _ _)
 have ap:Hid (w.heap.size+1<W.heap.size):=hid B1.lt;have HO:Hid (∀w2,RD w2 r s (nP s p er) (nE s p er)→Fr [r] W w2→PD w0 r s (nP s p er) (nE s p er) w2):=hid (fun w2 x f=>hW.of f x)
 have b7:Hid (∀(wa wb:World) (q:Nat) (e:Int) (q2:Nat) (e2:Int),PD w0 r s q e wa→RD wb r s q2 e2→Fr [r] wa wb→PD w0 r s q2 e2 wb):=hid (fun wa wb q e q2 e2 x y f=>x.of f y)
 have E0:=hid ax;unfold PP at HT;unfold jS at K1 HN;unfold OP lW;dsimp only;clear hp hm am hs ah h hW B0 B1 bd n0 n1 hf ax au q2;unfold uD at *;have E1:=hid (ai.out p er E0.out);generalize nV s p er=k0 at *;generalize nP s p er=p1 at *;generalize nE s p er=e1 at *;have b4:=hid (fun(w3:World) (x:PD w0 r s p1 e1 w3)=>HT.out w3 p1 e1 q1.out x)
 have q2:=hid (hQ.out p1 e1 q1.out);have E2:=hid (aa.out p1 e1 E1.out);have sa:=hid (a9.out p1 e1);generalize tT m s p1 e1=a at *;generalize nP s p1 e1=p2 at *;generalize tN m s p1 e1=e2 at *;have ay:=hid (fun(w3:World) (x:PD w0 r s p2 e2 w3)=>HT.out w3 p2 e2 q2.out x)
 have q3:=hid (hQ.out p2 e2 q2.out);have E3:=hid (aa.out p2 e2 E2.out);have sb:=hid (a9.out p2 e2);generalize tT m s p2 e2=b at *;generalize nP s p2 e2=p3 at *;generalize tN m s p2 e2=e3 at *;have ar:=hid (fun(w3:World) (x:PD w0 r s p3 e3 w3)=>HN.out w3 p3 e3 q3.out x)
 have q4:=hid (hQ.out p3 e3 q3.out);have E4:=hid (ai.out p3 e3 E3.out);generalize nV s p3 e3=k3 at *;generalize nP s p3 e3=p4 at *;generalize nE s p3 e3=e4 at *;have aw:=hid (fun(w3:World) (x:PD w0 r s p4 e4 w3)=>HT.out w3 p4 e4 q4.out x)
 have q5:=hid (hQ.out p4 e4 q4.out);have E5:=hid (aa.out p4 e4 E4.out);have sc:=hid (a9.out p4 e4);generalize tT m s p4 e4=c at *;generalize nP s p4 e4=p5 at *;generalize tN m s p4 e4=e5 at *;have b6:=hid (fun(w3:World) (x:PD w0 r s p5 e5 w3)=>b5.out w3 p5 e5 q5.out E5.out x)
 have sL:=hid (b1.out p5 e5);generalize (dA (fG m s) s p5 e5).1=L at *;generalize (dA (fG m s) s p5 e5).2.1=p6 at *;generalize (dA (fG m s) s p5 e5).2.2=e6 at *;clear HT b5 HN b1 a9 hQ ai aa E0 E1 E2 E3 E4 E5 q1 q2 q3 q4 q5;go_enter Tryz.func102,Tryz.ntmps102;go_upto_region 1 with fail;rw[←a5.out]
 try rw[hz]
 clear hz a5;generalize ak:w.heap.size=bx at *;replace ak:=hid ak;go_wp2_with fail;refine K1.out.mono ?_;rintro e w2 ⟨rfl,y2,f2⟩;have S3:=hid (SW.new (HO.out w2 y2 f2) f2 bc.out bb.out 105 #[.int .i64 (k0:Int),.string ⟨#[]⟩,.string ⟨#[]⟩,.int .i64 0,.string ⟨#[]⟩,.slice none 0 0]);clear y2 f2 K1 Y HO;go_upto_region 2 with fail;generalize w2.alloc (.cells #[.int .i64 (k0:Int),.string ⟨#[]⟩,.string ⟨#[]⟩,.int .i64 0,.string ⟨#[]⟩,.slice none 0 0] 105)=w3 at *;generalize w2.heap.size=b3 at *;have Y:w3.cell? ⟨bx,0,none⟩=some (.pointer (some ⟨r,0,none⟩)):=(HB.out _ S3.out.fr).1.cell 0;have x1:w3.cell? ⟨bx,1,none⟩=some (.pointer (some ⟨pb,0,none⟩)):=(HB.out _ S3.out.fr).1.cell 1;have K2:=hid (b4.out w3 S3.out.pd);go_wp2_with fail;refine K2.out.mono ?_;rintro e w4 ⟨rfl,y4,f4⟩;have T4:=hid (S3.out.read y4 f4);have c4:=T4.out.bx.cell 1;have g4:=T4.out.bx.free 1;clear y4 f4 K2 Y x1 S3 b4
 go_upto_region 3 with fail;have a7:=hid (T4.out.put 1 (.string a));generalize w4.setCell ⟨b3,1,none⟩ (.string a)=w5 at *;clear c4 g4 T4;have Y:w5.cell? ⟨bx,0,none⟩=some (.pointer (some ⟨r,0,none⟩)):=(HB.out _ a7.out.fr).1.cell 0;have x1:w5.cell? ⟨bx,1,none⟩=some (.pointer (some ⟨pb,0,none⟩)):=(HB.out _ a7.out.fr).1.cell 1;have K2:=hid (ay.out w5 a7.out.pd);go_wp2_with fail;refine K2.out.mono ?_;rintro e w6 ⟨rfl,y4,f4⟩;have T4:=hid (a7.out.read y4 f4);have c4:=T4.out.bx.cell 2;have g4:=T4.out.bx.free 2;clear y4 f4 K2 Y x1 a7 ay;go_upto_region 4 with fail;have a0:=hid (T4.out.put 2 (.string b));generalize w6.setCell ⟨b3,2,none⟩ (.string b)=w7 at *;clear c4 g4 T4;have Y:w7.cell? ⟨bx,0,none⟩=some (.pointer (some ⟨r,0,none⟩)):=(HB.out _ a0.out.fr).1.cell 0;have x1:w7.cell? ⟨bx,1,none⟩=some (.pointer (some ⟨pb,0,none⟩)):=(HB.out _ a0.out.fr).1.cell 1;have K2:=hid (ar.out w7 a0.out.pd)
 go_wp2_with fail;refine K2.out.mono ?_;rintro e w8 ⟨rfl,y4,f4⟩;have T4:=hid (a0.out.read (b7.out _ _ _ _ _ _ a0.out.pd y4 f4) f4);have c4:=T4.out.bx.cell 3;have g4:=T4.out.bx.free 3;clear y4 f4 K2 Y x1 a0 ar;go_upto_region 5 with fail;have a6:=hid (T4.out.put 3 (.int .i64 (k3:Int)));generalize w8.setCell ⟨b3,3,none⟩ (.int .i64 (k3:Int))=w9 at *;clear c4 g4 T4;have Y:w9.cell? ⟨bx,0,none⟩=some (.pointer (some ⟨r,0,none⟩)):=(HB.out _ a6.out.fr).1.cell 0;have x1:w9.cell? ⟨bx,1,none⟩=some (.pointer (some ⟨pb,0,none⟩)):=(HB.out _ a6.out.fr).1.cell 1;have K2:=hid (aw.out w9 a6.out.pd);go_wp2_with fail;refine K2.out.mono ?_;rintro e ba ⟨rfl,y4,f4⟩;have T4:=hid (a6.out.read y4 f4);have c4:=T4.out.bx.cell 4;have g4:=T4.out.bx.free 4;clear y4 f4 K2 Y x1 a6 aw;go_upto_region 6 with fail;have J:=hid (T4.out.put 4 (.string c));generalize ba.setCell ⟨b3,4,none⟩ (.string c)=a8 at *
 clear c4 g4 T4;have Y:a8.cell? ⟨bx,0,none⟩=some (.pointer (some ⟨r,0,none⟩)):=(HB.out _ J.out.fr).1.cell 0;have x1:a8.cell? ⟨bx,1,none⟩=some (.pointer (some ⟨pb,0,none⟩)):=(HB.out _ J.out.fr).1.cell 1;have K3:=hid (b6.out a8 J.out.pd);have b8:=hid (show b3<a8.heap.size from J.out.bx.lt);unfold LP at K3;go_wp2_with fail;refine K3.out.mono ?_;rintro e wx ⟨A,cap,rfl,az,y6,f6,aj⟩;have T6:=hid (J.out.read y6 f6);have c6:=T6.out.bx.cell 5;have g6:=T6.out.bx.free 5
 have af:Hid (∀W9,Fr [b3,bx+1] wx W9→PD w0 r s p6 e6 W9→Fr [r] w W9→∃x:MC,(Ending.returned (.agg #[.int .i64 (k0:Int),.string a,.string b,.int .i64 (k3:Int),.string c,.slice A L.length cap]):Ending)=.returned (.agg (ECo.row x).toArray)∧MC.c x=(⟨(k0:Int),a,b,(k3:Int),c,L⟩:SC)∧PD w0 r s p6 e6 W9∧Fr [r] w W9∧ECo.ok W9 x∧∀y∈ECo.bl x,bx≤y):=hid (by
  intro W9 f9 d9 r9;have n9:∀g∈blk A,g∉[b3,bx+1]:=fun g hg h1=>by
   have a1:=aj g hg;have a2:=b8.out;have a3:=ap.out;have a4:=J.out.fr.size;simp only[aM,aT,or_false]at h1;omega
  have ae:=az.kept f9 n9;have ao:L.length≤cap:=by have:=ae.1;rwa[aH]at this
  refine⟨⟨⟨(k0:Int),a,b,(k3:Int),c,L⟩,A,cap⟩,rfl,rfl,d9,r9,⟨⟨sa.out,sb.out,sc.out,ae.rd,aZ ao ae.2.1,ao,sL.out⟩,fun g hg=>ae.lt g hg⟩,fun y hy=>?_⟩
  have a1:=aj y hy;have a4:=J.out.fr.size;have a3:=ap.out
  omega)
 clear y6 f6 K3 Y x1 J az aj sa sb sc sL;generalize L.length=z at *;go_upto_region 7 with fail;have S7:=hid (T6.out.put 5 (.slice A z cap));have F7:Hid (Fr [b3,bx+1] wx (wx.setCell ⟨b3,5,none⟩ (.slice A z cap))):=hid ((Fr.refl [b3,bx+1] wx).setCell (p:=⟨b3,5,none⟩) (Or.inl (by simp)) _)
 generalize wx.setCell ⟨b3,5,none⟩ (.slice A z cap)=wy at *;clear c6 g6 T6;have Y:wy.cell? ⟨b3,0,none⟩=some (.int .i64 (k0:Int)):=S7.out.bx.cell 0;have x1:wy.cell? ⟨b3,1,none⟩=some (.string a):=S7.out.bx.cell 1;have x2:wy.cell? ⟨b3,2,none⟩=some (.string b):=S7.out.bx.cell 2;have x3:wy.cell? ⟨b3,3,none⟩=some (.int .i64 (k3:Int)):=S7.out.bx.cell 3;have x4:wy.cell? ⟨b3,4,none⟩=some (.string c):=S7.out.bx.cell 4;have x5:wy.cell? ⟨b3,5,none⟩=some (.slice A z cap):=S7.out.bx.cell 5;have B7:=hid (HB.out _ S7.out.fr).2;have z0:wy.cell? ⟨bx+1,0,none⟩=some (.int .i64 0):=B7.out.cell 0;have v0:=B7.out.free 0;have z1:wy.cell? ⟨bx+1,1,none⟩=some (.string ⟨#[]⟩):=B7.out.cell 1;have v1:=B7.out.free 1;have z2:wy.cell? ⟨bx+1,2,none⟩=some (.string ⟨#[]⟩):=B7.out.cell 2;have v2:=B7.out.free 2;have z3:wy.cell? ⟨bx+1,3,none⟩=some (.int .i64 0):=B7.out.cell 3;have v3:=B7.out.free 3;have z4:wy.cell? ⟨bx+1,4,none⟩=some (.string ⟨#[]⟩):=B7.out.cell 4
 have v4:=B7.out.free 4;have z5:wy.cell? ⟨bx+1,5,none⟩=some (.slice none 0 0):=B7.out.cell 5;have v5:=B7.out.free 5;obtain⟨hB,hD,b2,av⟩:=ag.out wy p6 e6 b3 _ (.int .i64 (k0:Int)) (.string a) (.string b) (.int .i64 (k3:Int)) (.string c) (.slice A z cap) S7.out;have b9:=hid hB;have HX:=hid (af.out _ (F7.out.trans av (fun x hx=>Or.inl hx) (fun x hx=>Or.inl (by simp only[aD]at hx;subst hx;simp))) hD b2)
 clear hB hD b2 av ag af;go_wp2_with fail;refine bodyPost_ret (results_cell_row rfl _ _ _ _ _ _ _ rfl b9.out uC rfl (by kernel_rfl)) rfl ?_
 rw[ak.out];exact HX.out
end re
set_option maxRecDepth 100000
set_option maxHeartbeats 8000000
namespace re
open RowKit Shelf mem sy vr po
theorem uSm:Tryz.prog.underlying 29=some (.struct (Tryz.prog.fieldsOf 29)):=by kernel_rfl
theorem results_cell_tmp{P:Program}{fn:Func}{p q:Tmp}{ty:TypeId}(h:fn.results=#[.cell p ty,.tmp q])(tmps:Array Value)(w:World)(g:Nat)(t:TypeId)(cs:Array Value)(fr:Nat×Nat)(d:TypeDesc)(v:Value)
 (Y:tmps.getD p undef=.pointer (some ⟨g,0,none⟩)) (hq:tmps.getD q undef=v) (hg:w.heap[g]? = some (.cells cs t fr))
 (hu:P.underlying ty=some d) (hd:(match d with | .struct _ | .array _ _=>true | _=>false)=true) (hi:(P.info? ty).map (·.size)=some cs.size) :
 (results fn tmps).run P w=.ok (.tuple #[.agg cs,v]) w:=by
 subst hq;have J:tmps[p]?.getD undef=.pointer (some ⟨g,0,none⟩):=by simpa using Y
 simp[results,h,J,asAddr,run_loadVar_row w g t ty cs fr d hg hu hd hi]
theorem seven(w8:World)(W:World)(b:Nat)(t:TypeId)(z0 z1 z2 z3 z4 z5 z6:Value)(J Y x2 x3 x4 x5 x6:Value)(hb:bT w8 b t #[z0,z1,z2,z3,z4,z5,z6])(hw:Below W.heap.size W w8)(hl:W.heap.size≤b) :
 bT (((((((w8.setCell ⟨b,0,none⟩ J).setCell ⟨b,1,none⟩ Y).setCell ⟨b,2,none⟩ x2).setCell ⟨b,3,none⟩ x3).setCell ⟨b,4,none⟩ x4).setCell ⟨b,5,none⟩ x5).setCell ⟨b,6,none⟩ x6) b t #[J,Y,x2,x3,x4,x5,x6]∧Below W.heap.size W (((((((w8.setCell ⟨b,0,none⟩ J).setCell ⟨b,1,none⟩ Y).setCell ⟨b,2,none⟩ x2).setCell ⟨b,3,none⟩ x3).setCell ⟨b,4,none⟩ x4).setCell ⟨b,5,none⟩ x5).setCell ⟨b,6,none⟩ x6)∧Fr [b] w8 (((((((w8.setCell ⟨b,0,none⟩ J).setCell ⟨b,1,none⟩ Y).setCell ⟨b,2,none⟩ x2).setCell ⟨b,3,none⟩ x3).setCell ⟨b,4,none⟩ x4).setCell ⟨b,5,none⟩ x5).setCell ⟨b,6,none⟩ x6):=by
 have f:Fr [b] w8 (((((((w8.setCell ⟨b,0,none⟩ J).setCell ⟨b,1,none⟩ Y).setCell ⟨b,2,none⟩ x2).setCell ⟨b,3,none⟩ x3).setCell ⟨b,4,none⟩ x4).setCell ⟨b,5,none⟩ x5).setCell ⟨b,6,none⟩ x6):=
  (((((((Fr.refl [b] w8).setCell (p:=⟨b,0,none⟩) (Or.inl (by simp)) J).setCell (p:=⟨b,1,none⟩) (Or.inl (by simp)) Y).setCell (p:=⟨b,2,none⟩) (Or.inl (by simp)) x2).setCell (p:=⟨b,3,none⟩) (Or.inl (by simp)) x3).setCell (p:=⟨b,4,none⟩) (Or.inl (by simp)) x4).setCell (p:=⟨b,5,none⟩) (Or.inl (by simp)) x5).setCell (p:=⟨b,6,none⟩) (Or.inl (by simp)) x6
 have b0:bT (w8.setCell ⟨b,0,none⟩ J) b t #[J,z1,z2,z3,z4,z5,z6]:=hb.put 0 J;clear hb;generalize w8.setCell ⟨b,0,none⟩ J=v0 at *;have b1:bT (v0.setCell ⟨b,1,none⟩ Y) b t #[J,Y,z2,z3,z4,z5,z6]:=b0.put 1 Y;clear b0;generalize v0.setCell ⟨b,1,none⟩ Y=v1 at *;have b2:bT (v1.setCell ⟨b,2,none⟩ x2) b t #[J,Y,x2,z3,z4,z5,z6]:=b1.put 2 x2;clear b1;generalize v1.setCell ⟨b,2,none⟩ x2=v2 at *;have b3:bT (v2.setCell ⟨b,3,none⟩ x3) b t #[J,Y,x2,x3,z4,z5,z6]:=b2.put 3 x3;clear b2;generalize v2.setCell ⟨b,3,none⟩ x3=v3 at *;have b4:bT (v3.setCell ⟨b,4,none⟩ x4) b t #[J,Y,x2,x3,x4,z5,z6]:=b3.put 4 x4;clear b3;generalize v3.setCell ⟨b,4,none⟩ x4=v4 at *;have b5:bT (v4.setCell ⟨b,5,none⟩ x5) b t #[J,Y,x2,x3,x4,x5,z6]:=b4.put 5 x5;clear b4;generalize v4.setCell ⟨b,5,none⟩ x5=v5 at *;exact⟨b5.put 6 x6,fO hw f (fun x hx=>by rw[aD]at hx;omega),f⟩
def aEL(S:SU)(er:Int)(w:World)(e:Ending)(w':World):Prop:=∃u:MU,e=.returned (.tuple #[u.val,.int .i64 er])∧u.su=S∧(∀(G:List Nat) (J:World),Fr G w' J→(∀x∈G,x<w.heap.size)→eY J u)∧Below w.heap.size w w'
theorem aCn{lo Y:Nat}{gA wA kA oA fA cA:Option Addr}{gc wc kc oc fc cc:Nat}{g w k:List ByteArray}{os:List MO}{fs:List SF}{cs:List MC}{eO eF eC:TypeId}{W:World}(n:ByteArray)(hg:TL1 lo gA gc g W)(hw:TL1 lo wA wc w W)(hk:TL1 lo kA kc k W)(ho:LL EOb 3 eO lo oA oc os W)(hf:LL EFn 3 eF lo fA fc fs W)(hc:LL ECo 6 eC lo cA cc cs W)(hl:Y≤lo) :
 ∀(G:List Nat) (w2:World),Fr G W w2→(∀x∈G,x<Y)→eY w2 ⟨n,gA,gc,g,wA,wc,w,kA,kc,k,⟨oA,oc,os,fA,fc,fs,cA,cc,cs⟩⟩:=fun G w2 f hG=>by
 have J:∀x∈G,x<lo:=fun x hx=>Nat.lt_of_lt_of_le (hG x hx) hl
 exact aJ1 n (hg.kept f J) (hw.kept f J) (hk.kept f J) (LL.kept gOb ho f J) (LL.kept gFn hf f J) (LL.kept gCo hc f J)
theorem aCs{pb:Nat}{s:ByteArray}{pA:Option Addr}{pc:Nat}{m:List (List UInt8)}{w:World}(hp:Pl w pb pA pc m)(hm:m.length≤1000000)(au:∀x∈m,x.length≤maxLen)(hs:s.size≤maxLen) :
 Calls Tryz.prog 44 #[.pointer (some ⟨pb,0,none⟩),.string s] w (aEL (kF m s) (oQ m s) w):=by
 obtain⟨W1,aa⟩:∃W1,Hid (W1=w.alloc (.cells #[.string ⟨#[]⟩,.slice none 0 0,.slice none 0 0,.slice none 0 0,.slice none 0 0,.slice none 0 0,.slice none 0 0] 29)):=⟨_,hid rfl⟩;obtain⟨W2,ae⟩:∃W2,Hid (W2=W1.alloc (.cells #[.string s,.int .i64 0,.int .i64 0] 196)):=⟨_,hid rfl⟩;obtain⟨r,hr⟩:∃r,Hid (r=W1.heap.size):=⟨_,hid rfl⟩;obtain⟨W,ah⟩:∃W,Hid (W=W2.alloc (.cells #[.pointer (some ⟨r,0,none⟩),.pointer (some ⟨pb,0,none⟩)] 141)):=⟨_,hid rfl⟩;have z1:W1.heap.size=w.heap.size+1:=by rw[aa.out];exact bH _
 have z2:W2.heap.size=w.heap.size+2:=by rw[ae.out];show(W1.heap.push _).size=_;rw[bH,z1]
 have z3:W.heap.size=w.heap.size+3:=by rw[ah.out];show(W2.heap.push _).size=_;rw[bH,z2]
 have KN:Hid (Calls Tryz.prog 94 #[.string s] W1 fun e w'=>e=.returned (.pointer (some ⟨r,0,none⟩))∧W2=w'):=hid (by
  rw[ae.out,hr.out]
  exact(aDB s W1).mono (fun e w' h=>⟨h.1,h.2.symm⟩))
 have bb:Fr [] w W1:=by rw[aa.out];exact(Fr.refl [] w).alloc _
 have b9:Fr [] W1 W2:=by rw[ae.out];exact(Fr.refl [] W1).alloc _
 have ap:Fr [] W2 W:=by rw[ah.out];exact(Fr.refl [] W2).alloc _
 have be:Below w.heap.size w W:=by
  have f1:Fr [] w W2:=bb.trans b9 (fun x J=>Or.inl J) (fun x J=>Or.inl J)
  have f:Fr [] w W:=f1.trans ap (fun x J=>Or.inl J) (fun x J=>Or.inl J)
  exact f.below (by simp) (aY _)
 have hW:PD w r s 0 0 W:=by
  refine⟨⟨?_⟩,be,by rw[hr.out,z1];omega⟩
  have b:bT W2 r 196 #[.string s,.int .i64 0,.int .i64 0]:=by rw[ae.out,hr.out];exact bT.new _ _ _
  exact b.kept ap (by simp)
 have B0:bT W (w.heap.size+2) 141 #[.pointer (some ⟨r,0,none⟩),.pointer (some ⟨pb,0,none⟩)]:=by rw[ah.out,←z2];exact bT.new _ _ _
 have B1:bT W w.heap.size 29 #[.string ⟨#[]⟩,.slice none 0 0,.slice none 0 0,.slice none 0 0,.slice none 0 0,.slice none 0 0,.slice none 0 0]:=by
  have b:bT W1 w.heap.size 29 #[.string ⟨#[]⟩,.slice none 0 0,.slice none 0 0,.slice none 0 0,.slice none 0 0,.slice none 0 0,.slice none 0 0]:=by rw[aa.out];exact bT.new _ _ _
  exact(b.kept b9 (by simp)).kept ap (by simp)
 have bd:r=w.heap.size+1:=by rw[hr.out,z1]
 have n0:w.heap.size+2≠r:=by omega
 have n1:w.heap.size≠r:=by omega
 have HB:Hid (∀w2,Fr [r] W w2→bT w2 (w.heap.size+2) 141 #[.pointer (some ⟨r,0,none⟩),.pointer (some ⟨pb,0,none⟩)]∧bT w2 w.heap.size 29 #[.string ⟨#[]⟩,.slice none 0 0,.slice none 0 0,.slice none 0 0,.slice none 0 0,.slice none 0 0,.slice none 0 0]):=hid (fun w2 f=>⟨B0.kept f (by simpa using n0),B1.kept f (by simpa using n1)⟩)
 have a4:Hid (∀(w8:World) (q:Nat) (e:Int) (b3:Nat) (cs:Array Value) (x0 x1 x2 x3 x4 x5 x6:Value),SW w r s q e W 29 b3 cs w8→bT (((((((w8.setCell ⟨w.heap.size,0,none⟩ x0).setCell ⟨w.heap.size,1,none⟩ x1).setCell ⟨w.heap.size,2,none⟩ x2).setCell ⟨w.heap.size,3,none⟩ x3).setCell ⟨w.heap.size,4,none⟩ x4).setCell ⟨w.heap.size,5,none⟩ x5).setCell ⟨w.heap.size,6,none⟩ x6) w.heap.size 29 #[x0,x1,x2,x3,x4,x5,x6]∧Below w.heap.size w (((((((w8.setCell ⟨w.heap.size,0,none⟩ x0).setCell ⟨w.heap.size,1,none⟩ x1).setCell ⟨w.heap.size,2,none⟩ x2).setCell ⟨w.heap.size,3,none⟩ x3).setCell ⟨w.heap.size,4,none⟩ x4).setCell ⟨w.heap.size,5,none⟩ x5).setCell ⟨w.heap.size,6,none⟩ x6)∧Fr [w.heap.size] w8 (((((((w8.setCell ⟨w.heap.size,0,none⟩ x0).setCell ⟨w.heap.size,1,none⟩ x1).setCell ⟨w.heap.size,2,none⟩ x2).setCell ⟨w.heap.size,3,none⟩ x3).setCell ⟨w.heap.size,4,none⟩ x4).setCell ⟨w.heap.size,5,none⟩ x5).setCell ⟨w.heap.size,6,none⟩ x6)):=hid (fun w8 q e b3 cs x0 x1 x2 x3 x4 x5 x6 g=>seven w8 w w.heap.size _ _ _ _ _ _ _ _ x0 x1 x2 x3 x4 x5 x6 (HB.out w8 g.fr).2 g.pd.be (aY _))
 have ax:Hid (r<W.heap.size∧w.heap.size<W.heap.size):=hid ⟨by omega,by omega⟩
 have K1:=hid (gF (w0:=w) (pb:=pb) hp hm hs (bA _) hW);have ai:Hid (∀(w2:World) (q:Nat) (e:Int),q≤s.size→e≠6→PD w r s q e w2→Calls Tryz.prog 96 #[uD r pb,.func (.func 95) #[uD r pb] #[]] w2 (LP w r s 9 (dA (fG m s) s q e).1.length ((dA (fG m s) s q e).1.map Value.string) (dA (fG m s) s q e).2.1 (dA (fG m s) s q e).2.2 w2)):=hid (fun w2 q e hq he x=>aD9 hp hm hs hq x (uQ s q e he))
 have ay:=hid (fun(w2:World) (x:PD w r s (nP s 0 0) (tN m s 0 0) w2)=>ai.out w2 _ _ (aHQ m s).1 (aHQ m s).2 x)
 have b8:=hid (fun(w2:World) (x:PD w r s (rdG m s).2.1 (rdG m s).2.2 w2)=>ai.out w2 _ _ (aH3 m s).1 (aH3 m s).2 x)
 have b7:=hid (fun(w2:World) (x:PD w r s (rdW m s).2.1 (rdW m s).2.2 w2)=>ai.out w2 _ _ (aIj m s).1 (aIj m s).2 x)
 have b6:=hid (fun(w2:World) (x:PD w r s (uS m s).2.1 (uS m s).2.2 w2)=>aLG (pb:=pb) hs (aD5 m s).1 x (aD5 m s).2 (hid (aNQ m s)) (hid (fun w3 q3 e3 af av x3 f3=>aNq hp hm au hs af av x3)))
 have az:=hid (fun(w2:World) (x:PD w r s (vP m s).2.1 (vP m s).2.2 w2)=>list_fn (pb:=pb) hs (aDQ m s).1 x (aDQ m s).2 (hid (aNf m s)) (hid (fun w3 q3 e3 af av x3 f3=>aOA hp hm au hs af x3)))
 have b5:=hid (fun(w2:World) (x:PD w r s (lF m s).2.1 (lF m s).2.2 w2)=>aL6 (pb:=pb) hs (aE5 m s).1 x (aE5 m s).2 (hid (aNI m s)) (hid (fun w3 q3 e3 af av x3 f3=>aM4 hp hm au hs af av x3)))
 have KD:=hid (fun(w2:World) (x:PD w r s (vH m s).2.1 (vH m s).2.2 w2)=>rQ w2 r s (vH m s).2.1 (vH m s).2.2 x.rd)
 have ba:Hid (∀wa wb,PD w r s (vH m s).2.1 (vH m s).2.2 wa→RD wb r s (vH m s).2.1 (vH m s).2.2→Fr [r] wa wb→PD w r s (vH m s).2.1 (vH m s).2.2 wb):=hid (fun wa wb x y f=>x.of f y)
 change Hid (∀(w2:World) (x:PD w r s (nP s 0 0) (tN m s 0 0) w2),Calls _ _ _ w2 (LP w r s _ (rdG m s).1.length ((rdG m s).1.map Value.string) (rdG m s).2.1 (rdG m s).2.2 w2))at ay;change Hid (∀(w2:World) (x:PD w r s (rdG m s).2.1 (rdG m s).2.2 w2),Calls _ _ _ w2 (LP w r s _ (rdW m s).1.length ((rdW m s).1.map Value.string) (rdW m s).2.1 (rdW m s).2.2 w2))at b8;change Hid (∀(w2:World) (x:PD w r s (rdW m s).2.1 (rdW m s).2.2 w2),Calls _ _ _ w2 (LP w r s _ (uS m s).1.length ((uS m s).1.map Value.string) (uS m s).2.1 (uS m s).2.2 w2))at b7;change Hid (∀(w2:World) (x:PD w r s (uS m s).2.1 (uS m s).2.2 w2),Calls _ _ _ w2 (yO EOb 3 MO.o r (PD w r s) _ (vP m s).1 (vP m s).2.1 (vP m s).2.2 w2))at b6;change Hid (∀(w2:World) (x:PD w r s (vP m s).2.1 (vP m s).2.2 w2),Calls _ _ _ w2 (yO EFn 3 (fun m:SF=>m) r (PD w r s) _ (lF m s).1 (lF m s).2.1 (lF m s).2.2 w2))at az
 change Hid (∀(w2:World) (x:PD w r s (lF m s).2.1 (lF m s).2.2 w2),Calls _ _ _ w2 (yO ECo 6 MC.c r (PD w r s) _ (vH m s).1 (vH m s).2.1 (vH m s).2.2 w2))at b5;have b4:Hid (oQ m s=0→kF m s=⟨tT m s 0 0,(rdG m s).1,(rdW m s).1,(uS m s).1,⟨(vP m s).1,(lF m s).1,(vH m s).1⟩⟩):=hid (fun h=>by unfold kF;rw[if_pos h];rfl)
 have ag:Hid (oQ m s≠0→kF m s=su0):=hid (fun h=>by unfold kF;rw[if_neg h])
 have x0:W.cell? ⟨w.heap.size+2,0,none⟩=some (.pointer (some ⟨r,0,none⟩)):=B0.cell 0;have x1:W.cell? ⟨w.heap.size+2,1,none⟩=some (.pointer (some ⟨pb,0,none⟩)):=B0.cell 1;have bf:Hid (w.heap.size≤W.heap.size):=hid (by omega)
 have hE:Hid (dE s (vH m s).2.1 (vH m s).2.2=oQ m s):=hid rfl;unfold PP at K1;unfold jS at KD;rw[hE.out]at KD;clear hp hm au hs hW B0 B1 n0 n1 bb b9 ap be ai hE bd;unfold uD at *;generalize tT m s 0 0=a at *;generalize nP s 0 0=p0 at *;generalize tN m s 0 0=e0 at *;generalize (rdG m s).1=lg at *;generalize (rdG m s).2.1=p1 at *;generalize (rdG m s).2.2=e1 at *;generalize (rdW m s).1=lw at *;generalize (rdW m s).2.1=p2 at *;generalize (rdW m s).2.2=e2 at *;generalize (uS m s).1=lk at *;generalize (uS m s).2.1=p3 at *;generalize (uS m s).2.2=e3 at *;generalize (vP m s).1=lo at *;generalize (vP m s).2.1=p4 at *;generalize (vP m s).2.2=e4 at *;generalize (lF m s).1=lf at *;generalize (lF m s).2.1=p5 at *;generalize (lF m s).2.2=e5 at *;generalize (vH m s).1=lc at *;generalize (vH m s).2.1=p6 at *;generalize (vH m s).2.2=e6 at *;generalize oQ m s=E at *;generalize kF m s=V at *
 go_enter Tryz.func44,Tryz.ntmps44;go_upto_region 1 with fail;rw[←aa.out];go_wp2_with fail;refine KN.out.mono ?_;rintro e w' ⟨rfl,rfl⟩;go_upto_region 2 with fail;rw[←ah.out]
 try rw[z2]
 clear KN aa ae ah hr z1 z2 z3;generalize a7:w.heap.size=bx at *;replace a7:=hid a7;go_wp2_with fail;refine K1.out.mono ?_;rintro e w2 ⟨rfl,y2,f2⟩;have S3:=hid (SW.new y2 f2 (by rw[a7.out];exact bf.out) ax.out.1 29 #[.string a,.slice none 0 0,.slice none 0 0,.slice none 0 0,.slice none 0 0,.slice none 0 0,.slice none 0 0])
 clear y2 f2 K1 x0 x1;go_upto_region 3 with fail;generalize w2.alloc (.cells #[.string a,.slice none 0 0,.slice none 0 0,.slice none 0 0,.slice none 0 0,.slice none 0 0,.slice none 0 0] 29)=w3 at *;generalize w2.heap.size=b3 at *
 have Y:Hid (∀x∈[r,b3,bx],x<b3+1):=hid (fun x J=>by
  have h1:=S3.out.nw;have h2:=ax.out;simp only[aM,aT,or_false]at J
  omega)
 have x0:w3.cell? ⟨bx+2,0,none⟩=some (.pointer (some ⟨r,0,none⟩)):=(HB.out _ S3.out.fr).1.cell 0;have x1:w3.cell? ⟨bx+2,1,none⟩=some (.pointer (some ⟨pb,0,none⟩)):=(HB.out _ S3.out.fr).1.cell 1;have KX:=hid (ay.out w3 S3.out.pd);have a0:b3+1≤w3.heap.size:=S3.out.bx.lt;go_wp2_with fail;refine KX.out.mono ?_;rintro e w4 hP;obtain⟨gA,gc,rfl,tl,y4,f4⟩:=LP.tl hP a0;have Tg:=hid tl;have T4:=hid (S3.out.read y4 f4);have c4:=T4.out.bx.cell 1;have g4:=T4.out.bx.free 1;clear y4 f4 KX x0 x1 S3 ay hP a0 tl;go_upto_region 4 with fail;have a9:=hid (T4.out.put 1 (.slice gA lg.length gc));have F4:Hid (Fr [b3] w4 (w4.setCell ⟨b3,1,none⟩ (.slice gA lg.length gc))):=hid ((Fr.refl [b3] w4).setCell (p:=⟨b3,1,none⟩) (Or.inl (by simp)) _)
 generalize w4.setCell ⟨b3,1,none⟩ (.slice gA lg.length gc)=w5 at *;have Tg:=hid (Tg.out.kept F4.out (fun x J=>Y.out x (by rw[aD]at J;subst J;simp)))
 clear c4 g4 T4 F4;have x0:w5.cell? ⟨bx+2,0,none⟩=some (.pointer (some ⟨r,0,none⟩)):=(HB.out _ a9.out.fr).1.cell 0;have x1:w5.cell? ⟨bx+2,1,none⟩=some (.pointer (some ⟨pb,0,none⟩)):=(HB.out _ a9.out.fr).1.cell 1;have KX:=hid (b8.out w5 a9.out.pd);have a0:b3+1≤w5.heap.size:=a9.out.bx.lt;go_wp2_with fail;refine KX.out.mono ?_;rintro e w6 hP;obtain⟨wA,wc,rfl,tl,y4,f4⟩:=LP.tl hP a0;have Tg:=hid (Tg.out.kept f4 (fun x J=>Y.out x (by rw[aD]at J;subst J;simp)))
 have Tw:=hid tl;have T4:=hid (a9.out.read y4 f4);have c4:=T4.out.bx.cell 2;have g4:=T4.out.bx.free 2;clear y4 f4 KX x0 x1 a9 b8 hP a0 tl;go_upto_region 5 with fail;have a5:=hid (T4.out.put 2 (.slice wA lw.length wc));have F4:Hid (Fr [b3] w6 (w6.setCell ⟨b3,2,none⟩ (.slice wA lw.length wc))):=hid ((Fr.refl [b3] w6).setCell (p:=⟨b3,2,none⟩) (Or.inl (by simp)) _)
 generalize w6.setCell ⟨b3,2,none⟩ (.slice wA lw.length wc)=w7 at *;have Tg:=hid (Tg.out.kept F4.out (fun x J=>Y.out x (by rw[aD]at J;subst J;simp)))
 have Tw:=hid (Tw.out.kept F4.out (fun x J=>Y.out x (by rw[aD]at J;subst J;simp)))
 clear c4 g4 T4 F4;have x0:w7.cell? ⟨bx+2,0,none⟩=some (.pointer (some ⟨r,0,none⟩)):=(HB.out _ a5.out.fr).1.cell 0;have x1:w7.cell? ⟨bx+2,1,none⟩=some (.pointer (some ⟨pb,0,none⟩)):=(HB.out _ a5.out.fr).1.cell 1;have KX:=hid (b7.out w7 a5.out.pd);have a0:b3+1≤w7.heap.size:=a5.out.bx.lt;go_wp2_with fail;refine KX.out.mono ?_;rintro e w8 hP;obtain⟨kA,kc,rfl,tl,y4,f4⟩:=LP.tl hP a0;have Tg:=hid (Tg.out.kept f4 (fun x J=>Y.out x (by rw[aD]at J;subst J;simp)))
 have Tw:=hid (Tw.out.kept f4 (fun x J=>Y.out x (by rw[aD]at J;subst J;simp)))
 have Tk:=hid tl;have T4:=hid (a5.out.read y4 f4);have c4:=T4.out.bx.cell 3;have g4:=T4.out.bx.free 3;clear y4 f4 KX x0 x1 a5 b7 hP a0 tl;go_upto_region 6 with fail;have a8:=hid (T4.out.put 3 (.slice kA lk.length kc));have F4:Hid (Fr [b3] w8 (w8.setCell ⟨b3,3,none⟩ (.slice kA lk.length kc))):=hid ((Fr.refl [b3] w8).setCell (p:=⟨b3,3,none⟩) (Or.inl (by simp)) _)
 generalize w8.setCell ⟨b3,3,none⟩ (.slice kA lk.length kc)=w9 at *;have Tg:=hid (Tg.out.kept F4.out (fun x J=>Y.out x (by rw[aD]at J;subst J;simp)))
 have Tw:=hid (Tw.out.kept F4.out (fun x J=>Y.out x (by rw[aD]at J;subst J;simp)))
 have Tk:=hid (Tk.out.kept F4.out (fun x J=>Y.out x (by rw[aD]at J;subst J;simp)))
 clear c4 g4 T4 F4;have x0:w9.cell? ⟨bx+2,0,none⟩=some (.pointer (some ⟨r,0,none⟩)):=(HB.out _ a8.out.fr).1.cell 0;have x1:w9.cell? ⟨bx+2,1,none⟩=some (.pointer (some ⟨pb,0,none⟩)):=(HB.out _ a8.out.fr).1.cell 1;have KX:=hid (b6.out w9 a8.out.pd);have a0:b3+1≤w9.heap.size:=a8.out.bx.lt;go_wp2_with fail;refine KX.out.mono ?_;rintro e ao hP;obtain⟨oA,oc,ob,ho,rfl,tl,y4,f4⟩:=yO.ll hP a0;replace ho:=hid ho;have Tg:=hid (Tg.out.kept f4 (fun x J=>Y.out x (by rw[aD]at J;subst J;simp)))
 have Tw:=hid (Tw.out.kept f4 (fun x J=>Y.out x (by rw[aD]at J;subst J;simp)))
 have Tk:=hid (Tk.out.kept f4 (fun x J=>Y.out x (by rw[aD]at J;subst J;simp)))
 have To:=hid tl;have T4:=hid (a8.out.read y4 f4);have c4:=T4.out.bx.cell 4;have g4:=T4.out.bx.free 4;clear y4 f4 KX x0 x1 a8 b6 hP a0 tl;go_upto_region 7 with fail;have a1:=hid (T4.out.put 4 (.slice oA ob.length oc));have F4:Hid (Fr [b3] ao (ao.setCell ⟨b3,4,none⟩ (.slice oA ob.length oc))):=hid ((Fr.refl [b3] ao).setCell (p:=⟨b3,4,none⟩) (Or.inl (by simp)) _)
 generalize ao.setCell ⟨b3,4,none⟩ (.slice oA ob.length oc)=aj at *;have Tg:=hid (Tg.out.kept F4.out (fun x J=>Y.out x (by rw[aD]at J;subst J;simp)))
 have Tw:=hid (Tw.out.kept F4.out (fun x J=>Y.out x (by rw[aD]at J;subst J;simp)))
 have Tk:=hid (Tk.out.kept F4.out (fun x J=>Y.out x (by rw[aD]at J;subst J;simp)))
 have To:=hid (LL.kept gOb To.out F4.out (fun x J=>Y.out x (by rw[aD]at J;subst J;simp)))
 clear c4 g4 T4 F4;have x0:aj.cell? ⟨bx+2,0,none⟩=some (.pointer (some ⟨r,0,none⟩)):=(HB.out _ a1.out.fr).1.cell 0;have x1:aj.cell? ⟨bx+2,1,none⟩=some (.pointer (some ⟨pb,0,none⟩)):=(HB.out _ a1.out.fr).1.cell 1;have KX:=hid (az.out aj a1.out.pd);have a0:b3+1≤aj.heap.size:=a1.out.bx.lt;go_wp2_with fail;refine KX.out.mono ?_;rintro e ak hP;obtain⟨fA,fc,fb,hf,rfl,tl,y4,f4⟩:=yO.ll hP a0;replace hf:=hid hf;have Tg:=hid (Tg.out.kept f4 (fun x J=>Y.out x (by rw[aD]at J;subst J;simp)))
 have Tw:=hid (Tw.out.kept f4 (fun x J=>Y.out x (by rw[aD]at J;subst J;simp)))
 have Tk:=hid (Tk.out.kept f4 (fun x J=>Y.out x (by rw[aD]at J;subst J;simp)))
 have To:=hid (LL.kept gOb To.out f4 (fun x J=>Y.out x (by rw[aD]at J;subst J;simp)))
 have Tf:=hid tl;have T4:=hid (a1.out.read y4 f4);have c4:=T4.out.bx.cell 5;have g4:=T4.out.bx.free 5;clear y4 f4 KX x0 x1 a1 az hP a0 tl;go_upto_region 8 with fail;have a2:=hid (T4.out.put 5 (.slice fA fb.length fc));have F4:Hid (Fr [b3] ak (ak.setCell ⟨b3,5,none⟩ (.slice fA fb.length fc))):=hid ((Fr.refl [b3] ak).setCell (p:=⟨b3,5,none⟩) (Or.inl (by simp)) _)
 generalize ak.setCell ⟨b3,5,none⟩ (.slice fA fb.length fc)=aw at *;have Tg:=hid (Tg.out.kept F4.out (fun x J=>Y.out x (by rw[aD]at J;subst J;simp)))
 have Tw:=hid (Tw.out.kept F4.out (fun x J=>Y.out x (by rw[aD]at J;subst J;simp)))
 have Tk:=hid (Tk.out.kept F4.out (fun x J=>Y.out x (by rw[aD]at J;subst J;simp)))
 have To:=hid (LL.kept gOb To.out F4.out (fun x J=>Y.out x (by rw[aD]at J;subst J;simp)))
 have Tf:=hid (LL.kept gFn Tf.out F4.out (fun x J=>Y.out x (by rw[aD]at J;subst J;simp)))
 clear c4 g4 T4 F4;have x0:aw.cell? ⟨bx+2,0,none⟩=some (.pointer (some ⟨r,0,none⟩)):=(HB.out _ a2.out.fr).1.cell 0;have x1:aw.cell? ⟨bx+2,1,none⟩=some (.pointer (some ⟨pb,0,none⟩)):=(HB.out _ a2.out.fr).1.cell 1;have KX:=hid (b5.out aw a2.out.pd);have a0:b3+1≤aw.heap.size:=a2.out.bx.lt;go_wp2_with fail;refine KX.out.mono ?_;rintro e am hP;obtain⟨cA,cc,cb,hc,rfl,tl,y4,f4⟩:=yO.ll hP a0;replace hc:=hid hc;have Tg:=hid (Tg.out.kept f4 (fun x J=>Y.out x (by rw[aD]at J;subst J;simp)))
 have Tw:=hid (Tw.out.kept f4 (fun x J=>Y.out x (by rw[aD]at J;subst J;simp)))
 have Tk:=hid (Tk.out.kept f4 (fun x J=>Y.out x (by rw[aD]at J;subst J;simp)))
 have To:=hid (LL.kept gOb To.out f4 (fun x J=>Y.out x (by rw[aD]at J;subst J;simp)))
 have Tf:=hid (LL.kept gFn Tf.out f4 (fun x J=>Y.out x (by rw[aD]at J;subst J;simp)))
 have Tc:=hid tl;have T4:=hid (a2.out.read y4 f4);have c4:=T4.out.bx.cell 6;have g4:=T4.out.bx.free 6;clear y4 f4 KX x0 x1 a2 b5 hP a0 tl;go_upto_region 9 with fail;have a3:=hid (T4.out.put 6 (.slice cA cb.length cc));have F4:Hid (Fr [b3] am (am.setCell ⟨b3,6,none⟩ (.slice cA cb.length cc))):=hid ((Fr.refl [b3] am).setCell (p:=⟨b3,6,none⟩) (Or.inl (by simp)) _)
 generalize am.setCell ⟨b3,6,none⟩ (.slice cA cb.length cc)=bc at *;have Tg:=hid (Tg.out.kept F4.out (fun x J=>Y.out x (by rw[aD]at J;subst J;simp)))
 have Tw:=hid (Tw.out.kept F4.out (fun x J=>Y.out x (by rw[aD]at J;subst J;simp)))
 have Tk:=hid (Tk.out.kept F4.out (fun x J=>Y.out x (by rw[aD]at J;subst J;simp)))
 have To:=hid (LL.kept gOb To.out F4.out (fun x J=>Y.out x (by rw[aD]at J;subst J;simp)))
 have Tf:=hid (LL.kept gFn Tf.out F4.out (fun x J=>Y.out x (by rw[aD]at J;subst J;simp)))
 have Tc:=hid (LL.kept gCo Tc.out F4.out (fun x J=>Y.out x (by rw[aD]at J;subst J;simp)))
 clear c4 g4 T4 F4;have x0:bc.cell? ⟨bx+2,0,none⟩=some (.pointer (some ⟨r,0,none⟩)):=(HB.out _ a3.out.fr).1.cell 0;have KX:=hid (KD.out bc a3.out.pd);go_wp2_with fail;refine KX.out.mono ?_;rintro e wx ⟨rfl,y4,f4⟩;have Tg:=hid (Tg.out.kept f4 (fun x J=>Y.out x (by rw[aD]at J;subst J;simp)))
 have Tw:=hid (Tw.out.kept f4 (fun x J=>Y.out x (by rw[aD]at J;subst J;simp)))
 have Tk:=hid (Tk.out.kept f4 (fun x J=>Y.out x (by rw[aD]at J;subst J;simp)))
 have To:=hid (LL.kept gOb To.out f4 (fun x J=>Y.out x (by rw[aD]at J;subst J;simp)))
 have Tf:=hid (LL.kept gFn Tf.out f4 (fun x J=>Y.out x (by rw[aD]at J;subst J;simp)))
 have Tc:=hid (LL.kept gCo Tc.out f4 (fun x J=>Y.out x (by rw[aD]at J;subst J;simp)))
 have S9:=hid (a3.out.read (ba.out _ _ a3.out.pd y4 f4) f4);clear y4 f4 KX x0 a3 KD ba;have B7:=hid (HB.out _ S9.out.fr).2;have x0:wx.cell? ⟨b3,0,none⟩=some (.string a):=S9.out.bx.cell 0;have x1:wx.cell? ⟨b3,1,none⟩=some (.slice gA lg.length gc):=S9.out.bx.cell 1;have x2:wx.cell? ⟨b3,2,none⟩=some (.slice wA lw.length wc):=S9.out.bx.cell 2;have x3:wx.cell? ⟨b3,3,none⟩=some (.slice kA lk.length kc):=S9.out.bx.cell 3;have x4:wx.cell? ⟨b3,4,none⟩=some (.slice oA ob.length oc):=S9.out.bx.cell 4;have x5:wx.cell? ⟨b3,5,none⟩=some (.slice fA fb.length fc):=S9.out.bx.cell 5;have x6:wx.cell? ⟨b3,6,none⟩=some (.slice cA cb.length cc):=S9.out.bx.cell 6;have z0:wx.cell? ⟨bx,0,none⟩=some (.string ⟨#[]⟩):=B7.out.cell 0;have v0:=B7.out.free 0;have z1:wx.cell? ⟨bx,1,none⟩=some (.slice none 0 0):=B7.out.cell 1;have v1:=B7.out.free 1;have z2:wx.cell? ⟨bx,2,none⟩=some (.slice none 0 0):=B7.out.cell 2
 have v2:=B7.out.free 2;have z3:wx.cell? ⟨bx,3,none⟩=some (.slice none 0 0):=B7.out.cell 3;have v3:=B7.out.free 3;have z4:wx.cell? ⟨bx,4,none⟩=some (.slice none 0 0):=B7.out.cell 4;have v4:=B7.out.free 4;have z5:wx.cell? ⟨bx,5,none⟩=some (.slice none 0 0):=B7.out.cell 5;have v5:=B7.out.free 5;have z6:wx.cell? ⟨bx,6,none⟩=some (.slice none 0 0):=B7.out.cell 6;have v6:=B7.out.free 6
 by_cases hE:E=0
 ·subst hE
  obtain⟨hB,hD,ar⟩:=a4.out wx p6 e6 b3 _ (.string a) (.slice gA lg.length gc) (.slice wA lw.length wc) (.slice kA lk.length kc) (.slice oA ob.length oc) (.slice fA fb.length fc) (.slice cA cb.length cc) S9.out;have b2:=hid hB;have b1:=hid hD;have a6:=hid ar;have hV:=hid (b4.out rfl);clear hB hD ar a4 b4 ag HB;go_wp2_with fail;refine bodyPost_ret (results_cell_tmp rfl _ _ _ _ _ _ _ _ rfl rfl b2.out uSm rfl (by kernel_rfl)) rfl ?_
  refine⟨⟨a,gA,gc,lg,wA,wc,lw,kA,kc,lk,⟨oA,oc,ob,fA,fc,fb,cA,cc,cb⟩⟩,rfl,?_,?_,by rw[a7.out];exact b1.out⟩
  ·rw[hV.out]
   unfold MU.su MS.sys;rw[ho.out,hc.out];have:=hf.out;rw[List.map_id']at this;rw[this]
  ·exact aCn a (Tg.out.kept a6.out (fun x J=>Y.out x (by rw[aD]at J;subst J;simp))) (Tw.out.kept a6.out (fun x J=>Y.out x (by rw[aD]at J;subst J;simp))) (Tk.out.kept a6.out (fun x J=>Y.out x (by rw[aD]at J;subst J;simp))) (LL.kept gOb To.out a6.out (fun x J=>Y.out x (by rw[aD]at J;subst J;simp))) (LL.kept gFn Tf.out a6.out (fun x J=>Y.out x (by rw[aD]at J;subst J;simp))) (LL.kept gCo Tc.out a6.out (fun x J=>Y.out x (by rw[aD]at J;subst J;simp))) (by rw[a7.out];exact Nat.le_of_lt (Y.out bx (by simp)))
 ·have e0:(E != 0)=true:=by simpa using hE
  obtain⟨hB,hD,ar⟩:=a4.out wx p6 e6 b3 _ (.string ⟨#[]⟩) (.slice none 0 0) (.slice none 0 0) (.slice none 0 0) (.slice none 0 0) (.slice none 0 0) (.slice none 0 0) S9.out;have b2:=hid hB;have b1:=hid hD;have hV:=hid (ag.out hE);clear hB hD ar a4 b4 ag HB To Tf Tc Tg Tw Tk hE;go_wp2_with fail;refine bodyPost_ret (results_cell_tmp rfl _ _ _ _ _ _ _ _ rfl rfl b2.out uSm rfl (by kernel_rfl)) rfl ?_
  refine⟨⟨⟨#[]⟩,none,0,[],none,0,[],none,0,[],⟨none,0,[],none,0,[],none,0,[]⟩⟩,rfl,?_,?_,by rw[a7.out];exact b1.out⟩
  ·rw[hV.out];rfl
  ·exact fun _ _ _ _=>⟨fun h=>by simp at h,fun h=>by simp at h,fun h=>by simp at h,⟨fun h=>by simp at h,fun h=>by simp at h,fun h=>by simp at h,by simp,by simp,by simp,by simp,by simp,by simp⟩⟩
end re
set_option maxRecDepth 100000
namespace re
open RowKit Shelf mem sy
theorem below_drewN{N:Nat}{W w:World}(h:Below N W w)(J:N≤w.heap.size)(n:Nat):Below N W (w.drewN n):=h.trans (((Fr.refl [] w).drewN n).below (by simp) J)
structure aJp:Prop where
 m:∀(a:Mk) (w:World),(binOp .neq 101 (.agg #[.int .i64 a.at_,.string a.tag]) (.agg #[.int .i64 a.at_,.string a.tag])).run Tryz.prog w=.ok (.bool false) w
 f:∀(a:SF) (w:World),(binOp .neq 103 (.agg #[.string a.name,.string a.kinds,.string a.ret]) (.agg #[.string a.name,.string a.kinds,.string a.ret])).run Tryz.prog w=.ok (.bool false) w
 gm:∀(op:BinOp) (x y:Operand) (xs ys:Array Value) (w:World),(eqGuard op 101 x y (.agg xs) (.agg ys)).run Tryz.prog w=.ok () w
 gf:∀(op:BinOp) (x y:Operand) (xs ys:Array Value) (w:World),(eqGuard op 103 x y (.agg xs) (.agg ys)).run Tryz.prog w=.ok () w
theorem aCz:Tryz.prog.underlying 103=some (.struct (Tryz.prog.fieldsOf 103)):=by kernel_rfl
theorem aCM:Tryz.prog.stoodInHeld 103=false:=by kernel_rfl
theorem aBA:(Tryz.prog.fieldsOf 103).toList.map (fun f=>(f.name == "_",f.type,f.offset))=[(false,9,0),(false,9,1),(false,9,2)]:=by kernel_rfl
theorem aCl:Tryz.prog.eqGuardType Tryz.prog.depth 101=false:=by kernel_rfl
theorem aCT:Tryz.prog.eqGuardType Tryz.prog.depth 103=false:=by kernel_rfl
theorem aLq(a:SF)(w:World):(binOp .neq 103 (.agg #[.string a.name,.string a.kinds,.string a.ret]) (.agg #[.string a.name,.string a.kinds,.string a.ret])).run Tryz.prog w=.ok (.bool false) w:=by
 rw[run_neq_struct,run_equalIn_struct _ _ _ _ _ aCz aCM];have h:=aBA;generalize (Tryz.prog.fieldsOf 103).toList=fs at *
 rcases fs with _ | ⟨J,_ | ⟨f1,_ | ⟨Y,_ | ⟨f3,fs⟩⟩⟩⟩
 all_goals first | (simp at h;done) | skip
 simp only[aV,aU,List.cons.injEq,Prod.mk.injEq,and_true]at h;obtain⟨⟨a0,b0,c0⟩,⟨a1,b1,c1⟩,⟨a2,b2,c2⟩⟩:=h;have p0:(part J.type #[.string a.name,.string a.kinds,.string a.ret] J.offset).run Tryz.prog w=.ok (.string a.name) w:=by rw[b0,c0];kernel_rfl
 have p1:(part f1.type #[.string a.name,.string a.kinds,.string a.ret] f1.offset).run Tryz.prog w=.ok (.string a.kinds) w:=by rw[b1,c1];kernel_rfl
 have p2:(part Y.type #[.string a.name,.string a.kinds,.string a.ret] Y.offset).run Tryz.prog w=.ok (.string a.ret) w:=by rw[b2,c2];kernel_rfl
 have i0:(Op.equalIn 9999 J.type (.string a.name) (.string a.name)).run Tryz.prog w=.ok (a.name.toList==a.name.toList) w:=by rw[b0];exact run_equalIn_string w 9998 _ _ _ Tryz.underlying9
 have i1:(Op.equalIn 9999 f1.type (.string a.kinds) (.string a.kinds)).run Tryz.prog w=.ok (a.kinds.toList==a.kinds.toList) w:=by rw[b1];exact run_equalIn_string w 9998 _ _ _ Tryz.underlying9
 have i2:(Op.equalIn 9999 Y.type (.string a.ret) (.string a.ret)).run Tryz.prog w=.ok (a.ret.toList==a.ret.toList) w:=by rw[b2];exact run_equalIn_string w 9998 _ _ _ Tryz.underlying9
 rw[nm.gX 9999 _ _ J _ _ _ _ w a0 p0 p0 i0,nm.gX 9999 _ _ f1 _ _ _ _ w a1 p1 p1 i1,nm.gX 9999 _ _ Y _ _ _ _ w a2 p2 p2 i2];simp[Op.eqFields,Sem.run_pure,Result.andThen]
theorem aOP:aJp:=⟨fun a w=>by
 have h:=aFk a a w;rw[qA.2 rfl]at h
 exact h,aLq,fun op x y xs ys w=>run_eqGuard_agg w op _ x y xs ys aCl,fun op x y xs ys w=>run_eqGuard_agg w op _ x y xs ys aCT⟩
theorem aEF(hm:aJp)(o:SO)(xA yA:Option Addr)(xc yc:Nat)(w:World)(hx:MOk w ⟨o,xA,xc⟩)(hy:MOk w ⟨o,yA,yc⟩) :
 Calls Tryz.prog 110 #[.agg #[.string o.name,.string o.kinds,.slice xA o.marks.length xc],.agg #[.string o.name,.string o.kinds,.slice yA o.marks.length yc]] w (cZ true w):=by
 obtain⟨W,Y⟩:∃W,Hid (W=(w.alloc (.cells #[.string o.name,.string o.kinds,.slice xA o.marks.length xc] 99)).alloc (.cells #[.string o.name,.string o.kinds,.slice yA o.marks.length yc] 99)):=⟨_,hid rfl⟩;have hz:(w.alloc (.cells #[.string o.name,.string o.kinds,.slice xA o.marks.length xc] 99)).heap.size=w.heap.size+1:=bH _;have b1:Below w.heap.size w (w.alloc (.cells #[.string o.name,.string o.kinds,.slice xA o.marks.length xc] 99)):=(Below.refl _ _).alloc (aY _) _;have b0:Below w.heap.size w W:=by rw[Y.out];exact b1.alloc b1.size _
 have BX:bT W w.heap.size 99 #[.string o.name,.string o.kinds,.slice xA o.marks.length xc]:=by rw[Y.out];exact(bT.new w _ _).kept ((Fr.refl [] _).alloc _) (by simp)
 have BY:bT W (w.heap.size+1) 99 #[.string o.name,.string o.kinds,.slice yA o.marks.length yc]:=by rw[Y.out,←hz];exact bT.new _ _ _
 have HX:Hid (∀J,Below W.heap.size W J→zW J xA 2 (o.marks.map oI)∧zW J yA 2 (o.marks.map oI)):=hid (fun J b=>⟨(hx.m.below b0).below b,(hy.m.below b0).below b⟩)
 have HC:Hid (∀J,Below W.heap.size W J→J.cell? ⟨w.heap.size,2,none⟩=some (.slice xA o.marks.length xc)∧J.cell? ⟨w.heap.size+1,2,none⟩=some (.slice yA o.marks.length yc)):=hid (fun J b=>⟨(BX.kept (Fr.of_below b []) (by simp)).cell 2,(BY.kept (Fr.of_below b []) (by simp)).cell 2⟩)
 have HE:Hid (∀J,Below W.heap.size W J→Below w.heap.size w J):=hid (fun J b=>b0.trans (b.mono b0.size))
 have R0:=hid (Below.refl W.heap.size W);have x0:W.cell? ⟨w.heap.size,0,none⟩=some (.string o.name):=BX.cell 0;have x1:W.cell? ⟨w.heap.size,1,none⟩=some (.string o.kinds):=BX.cell 1;have x2:W.cell? ⟨w.heap.size,2,none⟩=some (.slice xA o.marks.length xc):=BX.cell 2;have y0:W.cell? ⟨w.heap.size+1,0,none⟩=some (.string o.name):=BY.cell 0;have y1:W.cell? ⟨w.heap.size+1,1,none⟩=some (.string o.kinds):=BY.cell 1;have y2:W.cell? ⟨w.heap.size+1,2,none⟩=some (.slice yA o.marks.length yc):=BY.cell 2;have a2:=hx.ml;unfold maxLen at a2;dsimp only at a2;have HM:=hid hm;clear hx hy b1 b0 BX BY hm;unfold cZ;generalize hN:o.marks.length=n at *;replace hN:=hid hN;have s0:(o.name.data != o.name.data)=false:=by simp
 have s1:(o.kinds.data != o.kinds.data)=false:=by simp
 have s2:(((n:Nat):Int) != (n:Int))=false:=by simp
 go_enter Tryz.func110,Tryz.ntmps110;go_upto_region 1 with fail;rw[←Y.out]
 try rw[hz]
 clear hz Y;generalize a1:w.heap.size=bx at *;replace a1:=hid a1;go_wp2_with fail;clear x0 x1 x2 y0 y1 y2 s0 s1 s2
 go_loopw [5] (fun i wr=>∃k:Nat,k≤n∧i=.int .i64 k∧Hid (Below W.heap.size W wr)) (fun i _=>n-(intOf i).toNat)
 case atStart=>exact⟨0,by omega,rfl,R0⟩
 case round=>
  obtain⟨k,hk,rfl,hb⟩:=hrel
  rename World=>wr
  obtain⟨x2,y2⟩:=HC.out wr hb.out
  by_cases a5:k<n
  ·have e1:decide ((k:Int)<(n:Int))=true:=aC (by omega)
   have a0:k<o.marks.length:=by rw[hN.out];exact a5
   obtain⟨t1,t2⟩:=HX.out wr hb.out;obtain⟨g1,o1,rfl,a4,c0,c1⟩:=qJ t1 a0;obtain⟨g2,o2,rfl,a3,d0,d1⟩:=qJ t2 a0;generalize o.marks[k] = a at *;have EQ:=HM.out.m a;have GU:=HM.out.gm;clear t1 t2 a4 a3 a0;go_wp2_with fail
   go_quiet (fail)
   have a6:=hid (below_drewN hb.out hb.out.size nq);go_wp2_with fail
   go_roundw
   case rel=>exact⟨k+1,by omega,by go_num,a6⟩
   case measure=>simp[intOf];omega
  ·obtain rfl:k=n:=by omega
   have e1:decide ((k:Int)<(k:Int))=false:=aB (by omega)
   have E:=hid (HE.out wr hb.out);go_wp2_with fail;go_ret;exact⟨rfl,by rw[a1.out];exact E.out⟩
end re
set_option maxRecDepth 100000
namespace re
open RowKit Go.Sort Shelf mem sy
theorem aBW{α β:Type}(f:α→β){l m:List α}(h:l.map f=m.map f){k:Nat}(hk:k<l.length)(J:k<m.length):f l[k] = f m[k]:=by
 have Y:(l.map f)[k]? = (m.map f)[k]?:=by rw[h]
 rw[List.getElem?_map,List.getElem?_map,aN hk,aN J]at Y
 simpa using Y
theorem aAo(a:Int):jX a a=0:=by
 unfold jX;rw[if_neg (Int.lt_irrefl a),if_neg (Int.lt_irrefl a)]
theorem wX(a:ByteArray):gK a a=0:=by
 have h:lQ a a=false:=by
  unfold lQ;rw[bytesLess_eq];simp[List.lt_irrefl]
 unfold gK;rw[h];rfl
theorem aCJ:∀l:List ByteArray,kL (List.zipWith gK l l++[0])=0
 | []=>rfl
 | a :: l=>by
  rw[List.zipWith_cons_cons,wX];exact aCJ l
theorem aCd(a:SC):uV a a=0:=by
 rw[aBO,aAo,aAo,aAo,wX,wX,wX,aS];exact aCJ a.args
theorem aFA(hm:aJp)(x y:MS)(w:World)(hx:vO w x)(hy:vO w y)(e:x.sys=y.sys)(ai:∀c∈x.sys.cons,c.args.length≤8796093022208) :
 Calls Tryz.prog 55 #[x.val,y.val] w (cZ true w):=by
 have eo:x.os.map MO.o=y.os.map MO.o:=congrArg SS.objs e;have ef:x.fs=y.fs:=congrArg SS.fns e;have ec:x.cs.map MC.c=y.cs.map MC.c:=congrArg SS.cons e;have lo:x.os.length=y.os.length:=by have:=congrArg List.length eo;simpa using this
 have lc:x.cs.length=y.cs.length:=by have:=congrArg List.length ec;simpa using this
 obtain⟨no,a9⟩:∃n,Hid (n=x.os.length):=⟨_,hid rfl⟩;obtain⟨nf,aa⟩:∃n,Hid (n=x.fs.length):=⟨_,hid rfl⟩;obtain⟨nc,a4⟩:∃n,Hid (n=x.cs.length):=⟨_,hid rfl⟩;obtain⟨W,a8⟩:∃W,Hid (W=(w.alloc (.cells #[.slice x.oA no x.oc,.slice x.fA nf x.fc,.slice x.cA nc x.cc] 27)).alloc (.cells #[.slice y.oA no y.oc,.slice y.fA nf y.fc,.slice y.cA nc y.cc] 27)):=⟨_,hid rfl⟩;have b1:Below w.heap.size w (w.alloc (.cells #[.slice x.oA no x.oc,.slice x.fA nf x.fc,.slice x.cA nc x.cc] 27)):=(Below.refl _ _).alloc (aY _) _;have b0:Below w.heap.size w W:=by rw[a8.out];exact b1.alloc b1.size _
 have hz:(w.alloc (.cells #[.slice x.oA no x.oc,.slice x.fA nf x.fc,.slice x.cA nc x.cc] 27)).heap.size=w.heap.size+1:=bH _;have BX:bT W w.heap.size 27 #[.slice x.oA no x.oc,.slice x.fA nf x.fc,.slice x.cA nc x.cc]:=by rw[a8.out];exact(bT.new w _ _).kept ((Fr.refl [] _).alloc _) (by simp)
 have BY:bT W (w.heap.size+1) 27 #[.slice y.oA no y.oc,.slice y.fA nf y.fc,.slice y.cA nc y.cc]:=by rw[a8.out,←hz];exact bT.new _ _ _
 have HX:Hid (∀J,Below W.heap.size W J→vO J x∧vO J y):=hid (fun J b=>⟨(hx.below b0).below b,(hy.below b0).below b⟩)
 have HC:Hid (∀J,Below W.heap.size W J→(J.cell? ⟨w.heap.size,0,none⟩=some (.slice x.oA no x.oc)∧J.cell? ⟨w.heap.size,1,none⟩=some (.slice x.fA nf x.fc)∧J.cell? ⟨w.heap.size,2,none⟩=some (.slice x.cA nc x.cc))∧J.cell? ⟨w.heap.size+1,0,none⟩=some (.slice y.oA no y.oc)∧J.cell? ⟨w.heap.size+1,1,none⟩=some (.slice y.fA nf y.fc)∧J.cell? ⟨w.heap.size+1,2,none⟩=some (.slice y.cA nc y.cc)):=hid (fun J b=>by
  have p:=BX.kept (Fr.of_below b []) (by simp)
  have q:=BY.kept (Fr.of_below b []) (by simp)
  exact⟨⟨p.cell 0,p.cell 1,p.cell 2⟩,q.cell 0,q.cell 1,q.cell 2⟩)
 have HE:Hid (∀J,Below W.heap.size W J→Below w.heap.size w J):=hid (fun J b=>b0.trans (b.mono b0.size))
 have R0:=hid (Below.refl W.heap.size W)
 have KO:Hid (∀(k:Nat) (Y:k<x.os.length) (h2:k<y.os.length) (J:World),Below W.heap.size W J→Calls Tryz.prog 110 #[.agg #[.string x.os[k].o.name,.string x.os[k].o.kinds,.slice x.os[k].mA x.os[k].o.marks.length x.os[k].mc],.agg #[.string y.os[k].o.name,.string y.os[k].o.kinds,.slice y.os[k].mA y.os[k].o.marks.length y.os[k].mc]] J (cZ true J)):=hid (fun k Y h2 J b=>by
  have q:=aBW MO.o eo Y h2;have a1:=(HX.out J b).1.ok _ (aR Y);have a2:=(HX.out J b).2.ok _ (aR h2);generalize x.os[k] = p1 at *;generalize y.os[k] = p2 at *;obtain⟨o1,A1,c1⟩:=p1;obtain⟨o2,A2,c2⟩:=p2;dsimp only at q ⊢;subst q
  exact aEF hm o1 A1 A2 c1 c2 J a1 a2)
 have KC:Hid (∀(k:Nat) (Y:k<x.cs.length) (h2:k<y.cs.length) (J:World),Below W.heap.size W J→Calls Tryz.prog 111 #[.agg #[.int .i64 x.cs[k].c.op,.string x.cs[k].c.a,.string x.cs[k].c.b,.int .i64 x.cs[k].c.k,.string x.cs[k].c.tag,.slice x.cs[k].aA x.cs[k].c.args.length x.cs[k].ac],.agg #[.int .i64 y.cs[k].c.op,.string y.cs[k].c.a,.string y.cs[k].c.b,.int .i64 y.cs[k].c.k,.string y.cs[k].c.tag,.slice y.cs[k].aA y.cs[k].c.args.length y.cs[k].ac]] J (fun e w'=>e=.returned (.int .i64 0)∧Below J.heap.size J w')):=hid (fun k Y h2 J b=>by
  have q:=aBW MC.c ec Y h2;have a1:=(HX.out J b).1.ck _ (aR Y);have a2:=(HX.out J b).2.ck _ (aR h2);have a3:=ai x.cs[k].c (List.mem_map.2 ⟨_,aR Y,rfl⟩);have h:=uK x.cs[k] y.cs[k] J a1 a2 a3 (by rw[←q];exact a3)
  unfold sy.dD at h;rw[←q,aCd]at h
  exact h)
 have HO:Hid (∀(k:Nat) (Y:k<x.os.length) (J:World),Below W.heap.size W J→∃h2:k<y.os.length,(∃b off,x.oA=some ⟨b,off,none⟩∧b<J.heap.size∧J.cell? ⟨b,off+k * 3,none⟩=some (.string x.os[k].o.name)∧J.cell? ⟨b,off+k * 3+1,none⟩=some (.string x.os[k].o.kinds)∧J.cell? ⟨b,off+k * 3+2,none⟩=some (.slice x.os[k].mA x.os[k].o.marks.length x.os[k].mc))∧(∃b off,y.oA=some ⟨b,off,none⟩∧b<J.heap.size∧J.cell? ⟨b,off+k * 3,none⟩=some (.string y.os[k].o.name)∧J.cell? ⟨b,off+k * 3+1,none⟩=some (.string y.os[k].o.kinds)∧J.cell? ⟨b,off+k * 3+2,none⟩=some (.slice y.os[k].mA y.os[k].o.marks.length y.os[k].mc))):=hid (fun k Y J b=>⟨by omega,iK (HX.out J b).1.o Y,iK (HX.out J b).2.o (by omega)⟩)
 have HF:Hid (∀(k:Nat) (Y:k<x.fs.length) (J:World),Below W.heap.size W J→(∃b off,x.fA=some ⟨b,off,none⟩∧b<J.heap.size∧J.cell? ⟨b,off+k * 3,none⟩=some (.string x.fs[k].name)∧J.cell? ⟨b,off+k * 3+1,none⟩=some (.string x.fs[k].kinds)∧J.cell? ⟨b,off+k * 3+2,none⟩=some (.string x.fs[k].ret))∧(∃b off,y.fA=some ⟨b,off,none⟩∧b<J.heap.size∧J.cell? ⟨b,off+k * 3,none⟩=some (.string x.fs[k].name)∧J.cell? ⟨b,off+k * 3+1,none⟩=some (.string x.fs[k].kinds)∧J.cell? ⟨b,off+k * 3+2,none⟩=some (.string x.fs[k].ret))):=hid (fun k Y J b=>⟨lS (HX.out J b).1.f Y,lS (fs:=x.fs) (by rw[ef];exact(HX.out J b).2.f) Y⟩)
 have HK:Hid (∀(k:Nat) (Y:k<x.cs.length) (J:World),Below W.heap.size W J→∃h2:k<y.cs.length,(∃b off,x.cA=some ⟨b,off,none⟩∧b<J.heap.size∧J.cell? ⟨b,off+k * 6,none⟩=some (.int .i64 x.cs[k].c.op)∧J.cell? ⟨b,off+k * 6+1,none⟩=some (.string x.cs[k].c.a)∧J.cell? ⟨b,off+k * 6+2,none⟩=some (.string x.cs[k].c.b)∧J.cell? ⟨b,off+k * 6+3,none⟩=some (.int .i64 x.cs[k].c.k)∧J.cell? ⟨b,off+k * 6+4,none⟩=some (.string x.cs[k].c.tag)∧J.cell? ⟨b,off+k * 6+5,none⟩=some (.slice x.cs[k].aA x.cs[k].c.args.length x.cs[k].ac))∧(∃b off,y.cA=some ⟨b,off,none⟩∧b<J.heap.size∧J.cell? ⟨b,off+k * 6,none⟩=some (.int .i64 y.cs[k].c.op)∧J.cell? ⟨b,off+k * 6+1,none⟩=some (.string y.cs[k].c.a)∧J.cell? ⟨b,off+k * 6+2,none⟩=some (.string y.cs[k].c.b)∧J.cell? ⟨b,off+k * 6+3,none⟩=some (.int .i64 y.cs[k].c.k)∧J.cell? ⟨b,off+k * 6+4,none⟩=some (.string y.cs[k].c.tag)∧J.cell? ⟨b,off+k * 6+5,none⟩=some (.slice y.cs[k].aA y.cs[k].c.args.length y.cs[k].ac))):=hid (fun k Y J b=>⟨by omega,kH (HX.out J b).1.c Y,kH (HX.out J b).2.c (by omega)⟩)
 obtain⟨⟨x0,x1,x2⟩,y0,y1,y2⟩:=HC.out W R0.out;have mo:=hx.ol;have mf:=hx.fl;have mc:=hx.cl;unfold maxLen at mo mf mc;have HM:=hid hm;unfold MS.val;rw[←lo,←lc,←ef,←a9.out,←aa.out,←a4.out];rw[←a9.out]at mo;rw[←aa.out]at mf;rw[←a4.out]at mc;clear hx hy e eo ef ec lo lc b1 b0 hz BX BY hm ai HX;unfold cZ at KO ⊢;have s0:(((no:Nat):Int) != (no:Int))=false:=by simp
 have s1:(((nf:Nat):Int) != (nf:Int))=false:=by simp
 have s2:(((nc:Nat):Int) != (nc:Int))=false:=by simp
 go_enter Tryz.func55,Tryz.ntmps55;go_upto_region 1 with fail;rw[←a8.out];clear a8;generalize ag:w.heap.size=bx at *;replace ag:=hid ag;go_wp2_with fail;clear x0 x1 x2 y0 y1 y2 s0 s1 s2
 go_loopw [5] (fun i wr=>∃k:Nat,k≤no∧i=.int .i64 k∧Hid (Below W.heap.size W wr)) (fun i _=>no-(intOf i).toNat)
 case atStart=>exact⟨0,by omega,rfl,R0⟩
 case round=>
  obtain⟨k,hk,rfl,hb⟩:=hrel
  rename World=>wr
  by_cases ah:k<no
  ·have e1:decide ((k:Int)<(no:Int))=true:=aC (by omega)
   obtain⟨h2,⟨g1,o1,a1,_,u0,u1,u2⟩,⟨g2,o2,a2,_,v0,v1,v2⟩⟩:=HO.out k (by rw[←a9.out];exact ah) wr hb.out
   have KK:=hid (fun(d:Nat) (os:Array Obj)=>Calls.regrown_of (KO.out k (by rw[←a9.out];exact ah) h2 (grow (redrawn wr d) os) (hb.out.trans ((below_regrown wr d os).mono hb.out.size))))
   obtain⟨⟨x0,x1,x2⟩,y0,y1,y2⟩:=HC.out wr hb.out;rw[a1]at x0;rw[a2]at y0;clear x1 x2 y1 y2 a1 a2;generalize x.os[k]'(by rw[←a9.out];exact ah)=p1 at *
   generalize y.os[k] = p2 at *;have r0:=cell_regrown x0;have r1:=cell_regrown y0;have r2:=cell_regrown u0;have r3:=cell_regrown u1;have r4:=cell_regrown u2;have r5:=cell_regrown v0;have r6:=cell_regrown v1;have r7:=cell_regrown v2;go_wp2_with fail;refine wp_region_quiet_below (by kernel_rfl) (by kernel_rfl) ?_
   repeat (quiet_step (exact KK.out _ _))
   refine wpQuiet_nil ?_;intro _ ae;obtain⟨⟨dq,a5⟩,a6⟩:=ae;subst a6;have a7:=hid (hb.out.trans ((below_regrown wr dq a5).mono hb.out.size));clear r0 r1 r2 r3 r4 r5 r6 r7 u0 u1 u2 v0 v1 v2 x0 y0 KK;generalize grow (redrawn wr dq) a5=wz at *;go_wp2_with fail
   go_roundw
   case rel=>exact⟨k+1,by omega,by go_num,a7⟩
   case measure=>simp[intOf];omega
  ·obtain rfl:k=no:=by omega
   have e1:decide ((k:Int)<(k:Int))=false:=aB (by omega)
   obtain⟨⟨x0,x1,x2⟩,y0,y1,y2⟩:=HC.out wr hb.out;go_wp2_with fail;clear x0 x1 x2 y0 y1 y2;have R1:=hb
   go_loopw [6] (fun i wr=>∃k:Nat,k≤nf∧i=.int .i64 k∧Hid (Below W.heap.size W wr)) (fun i _=>nf-(intOf i).toNat)
   case atStart=>exact⟨0,by omega,rfl,R1⟩
   case round=>
    obtain⟨j,hj,rfl,a0⟩:=hrel;clear hb R1
    rename World=>ws
    by_cases aj:j<nf
    ·have e2:decide ((j:Int)<(nf:Int))=true:=aC (by omega)
     obtain⟨⟨g1,o1,a1,_,u0,u1,u2⟩,⟨g2,o2,a2,_,v0,v1,v2⟩⟩:=HF.out j (by rw[←aa.out];exact aj) ws a0.out
     obtain⟨⟨x0,x1,x2⟩,y0,y1,y2⟩:=HC.out ws a0.out;rw[a1]at x1;rw[a2]at y1;clear x0 x2 y0 y2 a1 a2;generalize x.fs[j]'(by rw[←aa.out];exact aj)=a at *
     have EQ:=HM.out.f a;have GU:=HM.out.gf;go_wp2_with fail
     go_quiet (fail)
     have a7:=hid (below_drewN a0.out a0.out.size nq);go_wp2_with fail
     go_roundw
     case rel=>exact⟨j+1,by omega,by go_num,a7⟩
     case measure=>simp[intOf];omega
    ·obtain rfl:j=nf:=by omega
     have e2:decide ((j:Int)<(j:Int))=false:=aB (by omega)
     obtain⟨⟨x0,x1,x2⟩,y0,y1,y2⟩:=HC.out ws a0.out;go_wp2_with fail;clear x0 x1 x2 y0 y1 y2;have R2:=a0
     go_loopw [7] (fun i wr=>∃k:Nat,k≤nc∧i=.int .i64 k∧Hid (Below W.heap.size W wr)) (fun i _=>nc-(intOf i).toNat)
     case atStart=>exact⟨0,by omega,rfl,R2⟩
     case round=>
      obtain⟨i,hi,rfl,hb⟩:=hrel;clear a0 R2
      rename World=>wt
      by_cases af:i<nc
      ·have e3:decide ((i:Int)<(nc:Int))=true:=aC (by omega)
       obtain⟨h2,⟨g1,o1,a1,_,u0,u1,u2,u3,u4,u5⟩,⟨g2,o2,a2,_,v0,v1,v2,v3,v4,v5⟩⟩:=HK.out i (by rw[←a4.out];exact af) wt hb.out
       have KK:=hid (fun(d:Nat) (os:Array Obj)=>Calls.regrown_of (KC.out i (by rw[←a4.out];exact af) h2 (grow (redrawn wt d) os) (hb.out.trans ((below_regrown wt d os).mono hb.out.size))))
       obtain⟨⟨x0,x1,x2⟩,y0,y1,y2⟩:=HC.out wt hb.out;rw[a1]at x2;rw[a2]at y2;clear x0 x1 y0 y1 a1 a2;generalize x.cs[i]'(by rw[←a4.out];exact af)=p1 at *
       generalize y.cs[i] = p2 at *;have r0:=cell_regrown x2;have r1:=cell_regrown y2;have r2:=cell_regrown u0;have r3:=cell_regrown u1;have r4:=cell_regrown u2;have r5:=cell_regrown u3;have r6:=cell_regrown u4;have r7:=cell_regrown u5;have q2:=cell_regrown v0;have q3:=cell_regrown v1;have q4:=cell_regrown v2;have q5:=cell_regrown v3;have q6:=cell_regrown v4;have q7:=cell_regrown v5;go_wp2_with fail;refine wp_region_quiet_below (by kernel_rfl) (by kernel_rfl) ?_
       repeat (quiet_step (exact KK.out _ _))
       refine wpQuiet_nil ?_;intro _ ae;obtain⟨⟨dq,a5⟩,a6⟩:=ae;subst a6;have a7:=hid (hb.out.trans ((below_regrown wt dq a5).mono hb.out.size));clear r0 r1 r2 r3 r4 r5 r6 r7 q2 q3 q4 q5 q6 q7 u0 u1 u2 u3 u4 u5 v0 v1 v2 v3 v4 v5 x2 y2 KK;generalize grow (redrawn wt dq) a5=wz at *;go_wp2_with fail
       go_roundw
       case rel=>exact⟨i+1,by omega,by go_num,a7⟩
       case measure=>simp[intOf];omega
      ·obtain rfl:i=nc:=by omega
       have e3:decide ((i:Int)<(i:Int))=false:=aB (by omega)
       obtain⟨⟨x0,x1,x2⟩,y0,y1,y2⟩:=HC.out wt hb.out;have E:=hid (HE.out wt hb.out);go_wp2_with fail;go_ret;exact⟨rfl,by rw[ag.out];exact E.out⟩
end re
set_option maxRecDepth 100000
namespace re
open RowKit Go.Sort Shelf mem vr po inn
theorem aKS(w:World)(A B:Option Addr)(c d:Nat)(l:List (List UInt8))(hA:Rd w A (l.map encStr))(hB:Rd w B (l.map encStr))(a2:l.length≤10000000) :
 Calls Tryz.prog 53 #[.slice A l.length c,.slice B l.length d] w fun e w'=>e=.returned (.bool true)∧Below w.heap.size w w':=by
 rcases Nat.eq_zero_or_pos l.length with hz | hz
 ·rw[hz];exact inn.aBd w A B c d
 obtain⟨g1,o1,rfl,Y,h1⟩:=uE hA hz;obtain⟨g2,o2,rfl,a0,h2⟩:=uE hB hz;have H1:=hid h1;have H2:=hid h2;have L1:=hid Y;have L2:=hid a0;clear h1 h2 hA hB Y a0;have d0:(((l.length:Nat):Int) != (l.length:Int))=false:=by simp
 go_enter Tryz.func53,Tryz.ntmps53;go_wp2_with fail
 go_loopw [5] (fun i wr=>∃k:Nat,k≤l.length∧i=.int .i64 k∧Hid (Below w.heap.size w wr)) (fun i _=>l.length-(intOf i).toNat)
 case atStart=>exact⟨0,by omega,rfl,hid (Below.refl _ _)⟩
 case round=>
  obtain⟨k,hk,rfl,hb⟩:=hrel;rename_i wr _
  by_cases J:k<l.length
  ·have e1:decide ((k:Int)<(l.length:Int))=true:=aC (by omega)
   have ck:wr.cell? ⟨g1,o1+k,none⟩=some (encStr l[k]):=(hb.out.cell (p:=⟨g1,o1+k,none⟩) L1.out).trans (H1.out k J);have cm:wr.cell? ⟨g2,o2+k,none⟩=some (encStr l[k]):=(hb.out.cell (p:=⟨g2,o2+k,none⟩) L2.out).trans (H2.out k J);unfold encStr at ck cm;generalize (ByteArray.mk l[k].toArray)=z at *;have e2:(z.data != z.data)=false:=by simp
   have a1:=hid hb.out.drew;clear hb;go_wp2_with fail
   go_region
   go_wp2_with fail
   go_roundw
   case rel=>exact⟨k+1,by omega,by go_num,a1⟩
   case measure=>simp[intOf];omega
  ·obtain rfl:k=l.length:=by omega
   have e1:decide ((l.length:Int)<(l.length:Int))=false:=aB (by omega)
   go_wp2_with fail;go_ret;exact⟨rfl,hb.out⟩
theorem aHX(l:List (List UInt8)):jP (jP l)=jP l:=
 inn.wW inn.nS (inn.gQ inn.nS _).1 (inn.gQ inn.nS l).1 (fun x=>wS (jP l) x)
theorem aMI(w:World)(A:Option Addr)(c:Nat)(m:List (List UInt8))(h:Rd w A ((jP m).map encStr))(J:(jP m).length≤1000000) :
 Calls Tryz.prog 30 #[.slice A (jP m).length c] w (aBV w (jP m)):=by
 have k:=aMc w A c (jP m) h J;rw[aHX]at k;exact k
end re
namespace re
open RowKit Shelf mem sy vr po
section
variable {w0:World} {x r:Nat} {pA:Option Addr} {pc:Nat} {m:List (List UInt8)} {s:ByteArray} {p:Nat} {er:Int}
theorem aFE(h6:er≠6)(Y:nE s p er≠0):tN m s p er=nE s p er∧tT m s p er=⟨#[]⟩:=by
 have J:tN m s p er=nE s p er:=by
  unfold tN;split
  ·rfl
  ·unfold fE;rw[if_neg Y]
 refine⟨J,?_⟩;unfold tT;rw[J,aAm _ (rV s p er h6),aC Y];rfl
theorem aIT(hE:nE s p er=0)(Y:nV s p er<m.length):tN m s p er=0∧tT m s p er=ByteArray.mk (m[nV s p er]).toArray:=by
 have J:tN m s p er=0:=by
  unfold tN;rw[if_pos Y,hE]
 refine⟨J,?_⟩;unfold tT;rw[J,aN Y];rfl
theorem aK1(hE:nE s p er=0)(Y:¬nV s p er<m.length):tN m s p er=2∧tT m s p er=⟨#[]⟩:=by
 have J:tN m s p er=2:=by
  unfold tN;rw[if_neg Y,hE];rfl
 refine⟨J,?_⟩;unfold tT;rw[J];rfl
end
end re
set_option maxRecDepth 100000
namespace re
open RowKit ChangeShapes WideShapes mem sy
theorem qH:reachBytes=RB:=of_decide_eq_true (by kernel_rfl)
end re
end Go.Proofs.YtdmmkjijgoiecaaGreatDoor
