import Derived.Test.YtdmmkjijgoiecaaGreatDoorZ07
set_option linter.all false
set_option maxHeartbeats 4000000
namespace Go.Proofs.YtdmmkjijgoiecaaGreatDoor
open Lib(hid)
set_option maxRecDepth 100000
namespace sf
open RowKit Go.Sort Shelf mem vr po inn sy
open re (MU SU eY aAq mR RB WkP GSP pV)
open nm (iE bQ)
theorem aDZ(u:MU)(w:World)(hs:eY w u)(hb:aAq RB u)(Y:iE w):Calls Tryz.prog 3 #[u.val] w (WkP w):=by
 obtain⟨W,a0⟩:∃W,Hid (W=w.alloc (.cells u.row 29)):=⟨_,hid rfl⟩;have b0:Below w.heap.size w W:=by rw[a0.out];exact(Below.refl _ _).alloc (aY _) _
 have B:bT W w.heap.size 29 u.row:=by rw[a0.out];exact bT.new _ _ _
 have HC:Hid (∀J,Below W.heap.size W J→J.cell? ⟨w.heap.size,0,none⟩=some (.string u.name)∧J.cell? ⟨w.heap.size,1,none⟩=some (.slice u.gA u.gives.length u.gc)∧J.cell? ⟨w.heap.size,2,none⟩=some (.slice u.wA u.wants.length u.wc)∧J.cell? ⟨w.heap.size,3,none⟩=some (.slice u.kA u.keeps.length u.kc)∧J.cell? ⟨w.heap.size,4,none⟩=some (.slice u.s.oA u.s.os.length u.s.oc)∧J.cell? ⟨w.heap.size,5,none⟩=some (.slice u.s.fA u.s.fs.length u.s.fc)∧J.cell? ⟨w.heap.size,6,none⟩=some (.slice u.s.cA u.s.cs.length u.s.cc)):=hid (fun J b=>by
  have x:=B.kept (Fr.of_below b []) (by simp)
  exact⟨x.cell 0,x.cell 1,x.cell 2,x.cell 3,x.cell 4,x.cell 5,x.cell 6⟩)
 have HE:Hid (∀J,Below W.heap.size W J→Below w.heap.size w J):=hid (fun J b=>b0.trans (b.mono b0.size))
 have R0:=hid (Below.refl W.heap.size W);have KG:=hid (pV u W (hs.below b0) hb);have KE:=hid (fun(h:mR u.su) (J:World) (b:Below W.heap.size W J)=>mP J u (aBn ((hs.below b0).below b) hb h) (bQ (bQ Y b0) b))
 have KR:=hid (fun(h:mR u.su) (J:World) (b:Below W.heap.size W J)=>aD0 J u (aBn ((hs.below b0).below b) hb h))
 have KW:=hid (fun(J:World) (b:Below W.heap.size W J)=>xH J (bQ (bQ Y b0) b))
 obtain⟨x0,x1,x2,x3,x4,x5,x6⟩:=HC.out W R0.out;unfold GSP at KG;unfold aAd at KE KR;unfold WkP at KW ⊢;unfold MU.val at KG KE KR ⊢;unfold MU.row at *;clear hs hb Y b0 B;generalize jT u.su=F at *;generalize fV u.su=E at *;have s1:(F.data==F.data)=true:=by simp
 have s2:(E==E)=true:=by simp
 go_enter Tryz.func3,Tryz.ntmps3;go_upto_region 1 with fail;rw[←a0.out];clear a0;generalize a1:w.heap.size=bx at *;replace a1:=hid a1;go_wp2_with fail;refine KG.out.mono ?_;rintro e J ⟨r,rfl,b2,hr⟩;have B2:=hid b2;replace hr:=hid hr;clear b2 KG x0 x1 x2 x3 x4 x5 x6
 rcases r with _ | _
 rotate_left
 ·have T:=hid (HE.out _ B2.out)
  clear KE KR KW hr HC HE;go_wp2_with fail;go_ret;exact⟨rfl,by rw[a1.out];exact T.out⟩
 have a2:=hr.out rfl;have KA:=hid (KE.out a2 J B2.out);obtain⟨x0,x1,x2,x3,x4,x5,x6⟩:=HC.out J B2.out;go_wp2_with fail;refine KA.out.mono ?_;rintro e w3 ⟨rfl,b3⟩;have B3:=hid (B2.out.trans (b3.mono B2.out.size));have a3:=hid (KR.out a2 w3 B3.out);clear b3 KA KE B2 x0 x1 x2 x3 x4 x5 x6;obtain⟨x0,x1,x2,x3,x4,x5,x6⟩:=HC.out w3 B3.out;go_wp2_with fail;refine a3.out.mono ?_;rintro e w4 ⟨rfl,b4⟩;have B4:=hid (B3.out.trans (b4.mono B3.out.size));have a4:=hid (KW.out w4 B4.out);clear b4 a3 KR KW B3 x0 x1 x2 x3 x4 x5 x6 HC a2 hr;go_wp2_with fail;refine a4.out.mono ?_;rintro e w5 ⟨rfl,b5⟩;have T:=hid (HE.out _ (B4.out.trans (b5.mono B4.out.size)));clear b5 a4 B4 HE;go_wp2_with fail;go_ret;exact⟨rfl,by rw[a1.out];exact T.out⟩
end sf
set_option maxRecDepth 100000
namespace sf
open RowKit ChangeShapes WideShapes mem sy
open re (yG RB qH WkP)
open nm (iE)
theorem pf_encodes(H:Type)(enc:TypeId×Value→H)(W:World){base:Nat}(v:Value)(d:DataW H)(p:List MemPlace)(k:DataW.Trod enc Tryz.prog W 0 (fun _=>true) true 29 v d p)(o:Value.okWide Tryz.prog W .any base 29 v)(hw:∀n∈d.weights Tryz.prog 29,n≤reachBytes)(J:iE W) :
 Calls Tryz.prog 3 #[v] W (WkP W):=by
 obtain⟨u,rfl,hs,hb⟩:=yG (B:=RB) v d p k o (fun n Y=>by rw[←qH];exact hw n Y)
 exact aDZ u W hs hb J
end sf
end Go.Proofs.YtdmmkjijgoiecaaGreatDoor
