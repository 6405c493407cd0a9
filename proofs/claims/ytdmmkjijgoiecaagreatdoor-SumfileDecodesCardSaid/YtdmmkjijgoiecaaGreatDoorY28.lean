import Derived.Test.YtdmmkjijgoiecaaGreatDoorY26
import Derived.Test.YtdmmkjijgoiecaaGreatDoorY31
set_option linter.all false
set_option maxHeartbeats 4000000
namespace Go.Proofs.YtdmmkjijgoiecaaGreatDoor
open Lib(hid)
set_option maxRecDepth 100000
namespace re
open RowKit Shelf mem sy vr po
theorem aKL:(Tryz.prog.info? 99).map (fun i=>(i.zero,i.size,i.bytes))=some (some (.agg #[.string ⟨#[]⟩,.string ⟨#[]⟩,.slice none 0 0]),3,56):=by kernel_rfl
theorem aES:∃i,Tryz.prog.info? 99=some i∧i.zero=some (.agg #[.string ⟨#[]⟩,.string ⟨#[]⟩,.slice none 0 0])∧i.size=3∧i.bytes=56:=by
 have h:=aKL;rcases hi:Tryz.prog.info? 99 with _ | i
 ·rw[hi]at h;cases h
 ·rw[hi]at h
  simp only[Option.map_some,Option.some.injEq,Prod.mk.injEq]at h;exact⟨i,rfl,h.1,h.2.1,h.2.2⟩
theorem aKp{w0:World}{r pb:Nat}{s:ByteArray}{p:Nat}{er:Int}{one:Nat→Int→SO×Nat×Int}{w:World}(hs:s.size≤maxLen)(ak:p≤s.size)(h:PD w0 r s p er w)(he:er≠6)
 (b4:Hid (∀q e,q≤s.size→e≠6→(one q e).2.1≤s.size∧(one q e).2.2≠6))
 (HT:Hid (∀(J:World) (q:Nat) (e:Int),q≤s.size→e≠6→PD w0 r s q e J→Fr [r] w J→Calls Tryz.prog 98 #[rD r pb] J (OP zG MO.o r (PD w0 r s) (one q e).1 (one q e).2.1 (one q e).2.2 J))) :
 Calls Tryz.prog 97 #[rD r pb,.func (.func 98) #[rD r pb] #[]] w (wN zG 3 MO.o r (PD w0 r s) 99 (cK one s p er).1 (cK one s p er).2.1 (cK one s p er).2.2 w):=by
 have hW:=h.alloc (.cells #[.pointer (some ⟨r,0,none⟩),.pointer (some ⟨pb,0,none⟩)] 141);have B:=bV.new w 141 #[.pointer (some ⟨r,0,none⟩),.pointer (some ⟨pb,0,none⟩)];obtain⟨W,a6⟩:∃W,Hid (W=w.alloc (.cells #[.pointer (some ⟨r,0,none⟩),.pointer (some ⟨pb,0,none⟩)] 141)):=⟨_,hid rfl⟩;have ah:w.heap.size≠r:=by have:=h.lt;omega
 have a3:Hid (∀(J:World) A cap (xs:List MO) q e,jP zG 3 [r] (PD w0 r s) q e W 99 A cap xs J→wN zG 3 MO.o r (PD w0 r s) 99 (xs.map MO.o) q e w (.returned (.slice A xs.length cap)) J):=hid (fun J A cap xs q e x=>x.end_ a6.out);have hf:Fr [] w W:=by rw[a6.out];exact(Fr.refl [] w).alloc _
 have az:Hid (∀(J:World) (q:Nat) (e:Int),q≤s.size→e≠6→PD w0 r s q e J→Fr [r] W J→Calls Tryz.prog 98 #[rD r pb] J (OP zG MO.o r (PD w0 r s) (one q e).1 (one q e).2.1 (one q e).2.2 J)):=hid (fun J q e a b c f=>HT.out J q e a b c (hf.trans f (by simp) (fun x hx=>Or.inl hx)));rw[←a6.out]at hW B;have bc:Hid (w0.heap.size≤W.heap.size):=hid hW.be.size;have aj:r<W.heap.size:=hW.lt;have b8:Hid (r+1≤W.heap.size):=hid aj;have HB:Hid (∀J,Fr [r] W J→J.cell? ⟨w.heap.size,0,none⟩=some (.pointer (some ⟨r,0,none⟩))∧J.cell? ⟨w.heap.size,1,none⟩=some (.pointer (some ⟨pb,0,none⟩))):=hid (fun J f=>⟨(B.kept f (by simpa using ah)).cell 0,(B.kept f (by simpa using ah)).cell 1⟩);have x0:W.cell? ⟨w.heap.size,0,none⟩=some (.pointer (some ⟨r,0,none⟩)):=B.cell 0;have K:=hid (gM W r s p er hW.rd hs ak);have b1:Hid (∀J,RD J r s (nP s p er) (nE s p er)→Fr [r] W J→jP zG 3 [r] (PD w0 r s) (nP s p er) (nE s p er) W 99 none 0 [] J):=hid (fun J x f=>jP.start (hW.of f x) f (by simpa using aj))
 have af:=hid (fun(J:World) (q:Nat) (e:Int) (x:PD w0 r s q e J)=>lS (pb:=pb) x);have ad:=hid (eB s p er ak);have a8:=hid (sO s p er he);obtain⟨R,hR⟩:∃R,Hid (R=cK one s p er):=⟨_,hid rfl⟩;rw[←hR.out];have ag:Hid (R=dX one (nV s p er) (nP s p er) (eL s p er)):=hid hR.out;have a9:Hid (eL s p er=if 6000<nV s p er then fE (nE s p er) 4 else nE s p er):=hid rfl;unfold jE at K;unfold PP at af;have a7:=hid (sK s p er he);clear hW B h hs ak ah hR he hf HT aj;generalize nP s p er=p1 at *;generalize nE s p er=e1 at *;generalize nV s p er=n at *;generalize eL s p er=e2 at *;obtain⟨i0,ay,au,b3,ax⟩:=aES;have Hi:=hid ay;have b9:=hid au;have bb:=hid b3;have b7:=hid ax;clear ay au b3 ax;unfold rD at af az ⊢;go_enter Tryz.func97,Tryz.ntmps97;go_upto_region 1 with fail;rw[←a6.out];clear a6;generalize w.heap.size=bx at *;go_wp2_with fail;refine K.out.mono ?_
 rintro e J ⟨rfl,x2,f2⟩;have L2:=hid (b1.out J x2 f2);obtain⟨c0,c1⟩:=HB.out J f2;clear x2 f2 K x0 b1;by_cases h6:6000<n
 ·have d6:decide (6000<(n:Int))=true:=aC (by omega)
  have aa:e2=fE e1 4:=by rw[a9.out,if_pos h6]
  have KF:=hid (rQ J r s p1 e1 4 L2.out.pd.rd);rw[←aa]at KF;unfold jE at KF;clear a9 aa;go_wp2_with fail;refine KF.out.mono ?_;rintro e w3 ⟨rfl,x3,f3⟩;have L3:=hid (L2.out.read yX (L2.out.pd.of f3 x3) f3);clear x3 f3 KF c0 c1 L2;have a2:Hid (jP zG 3 [r] (PD w0 r s) p1 e2 W 99 none 0 [] w3):=L3;have a4:Hid (R=(([]:List MO).map MO.o++(dX one (n-0) p1 e2).1,(dX one (n-0) p1 e2).2)):=hid ag.out;clear L3 ag;obtain⟨c0,c1⟩:=HB.out w3 a2.out.fr;go_wp2_with fail;go_loopw [6,7] (fun v i wr=>∃(k:Nat) (A:Option Addr) (cap:Nat) (xs:List MO) (q:Nat) (eq:Int),k≤n∧i=.int .i64 k∧v=.slice A xs.length cap∧xs.length≤k∧Hid (jP zG 3 [r] (PD w0 r s) q eq W 99 A cap xs wr)∧Hid (q≤s.size)∧Hid (eq≠6)∧Hid (n≤6000∨cB eq=true)∧Hid (R=(xs.map MO.o++(dX one (n-k) q eq).1,(dX one (n-k) q eq).2))) (fun _ i _=>n-(intOf i).toNat)
  case atStart=>exact⟨0,none,0,[],p1,e2,by omega,rfl,rfl,by simp,a2,ad,a8,a7,a4⟩
  case round=>
   obtain⟨k,A,cap,xs,q,eq,hk,rfl,rfl,ba,HL,hq,ae,hh,a0⟩:=hrel;clear a2 a4 c0 c1 a7 ad a8;obtain⟨c0,c1⟩:=HB.out wr HL.out.fr;by_cases b5:k<n
   ·have d1:decide ((k:Int)<(n:Int))=true:=aC (by omega)
    have KW:=hid (af.out wr q eq HL.out.pd);obtain⟨j,hj⟩:∃j,n-k=j+1:=⟨n-k-1,by omega⟩;have a5:n-(k+1)=j:=by omega
    rcases hb:cB eq with _ | _
    ·rw[hb]at KW
     have ap:n≤6000:=by
      rcases hh.out with h1 | h1
      ·exact h1
      ·rw[hb]at h1;cases h1
     exact absurd h6 (by omega)
    ·rw[hb]at KW
     have Y:Hid (R=(xs.map MO.o,q,eq)):=hid (by
      rw[a0.out,hj];show(xs.map MO.o++(if cB eq then _ else _:List SO×Nat×Int).1,(if cB eq then _ else _:List SO×Nat×Int).2)=_;rw[hb]
      simp)
     clear a0 hh hj a5;have a1:=hid (fun(w4:World) (x:PD w0 r s q eq w4) (f:Fr [r] wr w4)=>HL.out.read yX x f);go_wp2_with fail;refine KW.out.mono ?_;rintro e w4 ⟨rfl,x4,f4⟩;have L4:=hid (a1.out w4 x4 f4);clear x4 f4 KW a1 HL;go_wp2_with fail;go_ret;rw[Y.out];exact a3.out _ _ _ _ _ _ L4.out
   ·obtain rfl:k=n:=by omega
    have d1:decide ((k:Int)<(k:Int))=false:=aB (by omega);have Y:Hid (R=(xs.map MO.o,q,eq)):=hid (by rw[a0.out,Nat.sub_self];simp[dX]);go_wp2_with fail;go_ret;rw[Y.out];exact a3.out _ _ _ _ _ _ HL.out
 ·have d6:decide (6000<(n:Int))=false:=aB (by omega)
  have aa:e2=e1:=by rw[a9.out,if_neg h6]
  subst aa;have L3:=L2;clear a9 c0 c1 L2;have a2:Hid (jP zG 3 [r] (PD w0 r s) p1 e2 W 99 none 0 [] J):=L3;have a4:Hid (R=(([]:List MO).map MO.o++(dX one (n-0) p1 e2).1,(dX one (n-0) p1 e2).2)):=hid ag.out;clear L3 ag;obtain⟨c0,c1⟩:=HB.out J a2.out.fr;go_wp2_with fail;go_loopw [6,7] (fun v i wr=>∃(k:Nat) (A:Option Addr) (cap:Nat) (xs:List MO) (q:Nat) (eq:Int),k≤n∧i=.int .i64 k∧v=.slice A xs.length cap∧xs.length≤k∧Hid (jP zG 3 [r] (PD w0 r s) q eq W 99 A cap xs wr)∧Hid (q≤s.size)∧Hid (eq≠6)∧Hid (n≤6000∨cB eq=true)∧Hid (R=(xs.map MO.o++(dX one (n-k) q eq).1,(dX one (n-k) q eq).2))) (fun _ i _=>n-(intOf i).toNat)
  case atStart=>exact⟨0,none,0,[],p1,e2,by omega,rfl,rfl,by simp,a2,ad,a8,a7,a4⟩
  case round=>
   obtain⟨k,A,cap,xs,q,eq,hk,rfl,rfl,ba,HL,hq,ae,hh,a0⟩:=hrel;clear a2 a4 c0 c1 a7 ad a8;obtain⟨c0,c1⟩:=HB.out wr HL.out.fr;by_cases b5:k<n
   ·have d1:decide ((k:Int)<(n:Int))=true:=aC (by omega)
    have KW:=hid (af.out wr q eq HL.out.pd);obtain⟨j,hj⟩:∃j,n-k=j+1:=⟨n-k-1,by omega⟩;have a5:n-(k+1)=j:=by omega
    rcases hb:cB eq with _ | _
    ·rw[hb]at KW
     have ap:n≤6000:=by
      rcases hh.out with h1 | h1
      ·exact h1
      ·rw[hb]at h1;cases h1
     have Y:Hid (R=((xs.map MO.o++[(one q eq).1])++(dX one (n-(k+1)) (one q eq).2.1 (one q eq).2.2).1,(dX one (n-(k+1)) (one q eq).2.1 (one q eq).2.2).2)):=hid (by
      rw[a0.out,hj,a5];show(xs.map MO.o++(if cB eq then _ else _:List SO×Nat×Int).1,(if cB eq then _ else _:List SO×Nat×Int).2)=_;rw[hb]
      simp)
     obtain⟨ao,ai⟩:=b4.out q eq hq.out ae.out;replace ao:=hid ao;replace ai:=hid ai;clear a0 hh hj a5;have a1:=hid (fun(w4:World) (x:PD w0 r s q eq w4) (f:Fr [r] wr w4)=>HL.out.read yX x f);go_wp2_with fail;refine KW.out.mono ?_;rintro e w4 ⟨rfl,x4,f4⟩;have L4:=hid (a1.out w4 x4 f4);have KT:=hid (az.out w4 q eq hq.out ae.out x4 L4.out.fr);clear x4 f4 KW a1 HL;unfold OP at KT;generalize (one q eq).1=y at *;generalize (one q eq).2.1=q2 at *;generalize (one q eq).2.2=e3 at *;go_wp2_with fail;refine KT.out.mono ?_;rintro e w5 ⟨b,he,am,x5,f5,o5,n5⟩;obtain rfl:e=.returned (.agg #[.string b.o.name,.string b.o.kinds,.slice b.mA b.o.marks.length b.mc]):=he;have N5:=hid (L4.out.new n5);have L5:=hid (L4.out.read yX x5 f5);have O5:=hid o5;replace am:=hid am;clear x5 f5 KT L4 hq ae n5 o5
     go_wp2_with (at_builtin;refine iV (us:=[.string b.o.name,.string b.o.kinds,.slice b.mA b.o.marks.length b.mc]) rfl _ _ _ rfl (L5.out.sg.alloc _) Tryz.underlying23 Hi.out b9.out bb.out b7.out rfl rfl rfl rfl (iZ _ _ [.string b.o.name,.string b.o.kinds,.slice b.mA b.o.marks.length b.mc]) (yX.one b) (by omega) (by omega) ?_;intro A3 aw w6 av f6 b2;have L6:=hid (L5.out.push (aB9 w0 r s) yX b8.out O5.out N5.out av f6 b2);clear av f6 b2)
     have ar:(xs++[b]).length=xs.length+1:=by simp
     have b6:Hid (R=((xs++[b]).map MO.o++(dX one (n-(k+1)) q2 e3).1,(dX one (n-(k+1)) q2 e3).2)):=hid (by rw[List.map_append,List.map_singleton,am.out];exact Y.out);go_roundw
     case rel=>exact⟨k+1,A3,aw,xs++[b],q2,e3,by omega,by go_num,by rw[ar],by omega,L6,ao,ai,hid (Or.inl ap),b6⟩
     case measure=>simp[intOf];omega
    ·rw[hb]at KW
     have Y:Hid (R=(xs.map MO.o,q,eq)):=hid (by
      rw[a0.out,hj];show(xs.map MO.o++(if cB eq then _ else _:List SO×Nat×Int).1,(if cB eq then _ else _:List SO×Nat×Int).2)=_;rw[hb]
      simp)
     clear a0 hh hj a5;have a1:=hid (fun(w4:World) (x:PD w0 r s q eq w4) (f:Fr [r] wr w4)=>HL.out.read yX x f);go_wp2_with fail;refine KW.out.mono ?_;rintro e w4 ⟨rfl,x4,f4⟩;have L4:=hid (a1.out w4 x4 f4);clear x4 f4 KW a1 HL;go_wp2_with fail;go_ret;rw[Y.out];exact a3.out _ _ _ _ _ _ L4.out
   ·obtain rfl:k=n:=by omega
    have d1:decide ((k:Int)<(k:Int))=false:=aB (by omega);have Y:Hid (R=(xs.map MO.o,q,eq)):=hid (by rw[a0.out,Nat.sub_self];simp[dX]);go_wp2_with fail;go_ret;rw[Y.out];exact a3.out _ _ _ _ _ _ HL.out
theorem aKb:(Tryz.prog.info? 105).map (fun i=>(i.zero,i.size,i.bytes))=some (some (.agg #[.int .i64 0,.string ⟨#[]⟩,.string ⟨#[]⟩,.int .i64 0,.string ⟨#[]⟩,.slice none 0 0]),6,88):=by kernel_rfl
theorem aE6:∃i,Tryz.prog.info? 105=some i∧i.zero=some (.agg #[.int .i64 0,.string ⟨#[]⟩,.string ⟨#[]⟩,.int .i64 0,.string ⟨#[]⟩,.slice none 0 0])∧i.size=6∧i.bytes=88:=by
 have h:=aKb;rcases hi:Tryz.prog.info? 105 with _ | i
 ·rw[hi]at h;cases h
 ·rw[hi]at h
  simp only[Option.map_some,Option.some.injEq,Prod.mk.injEq]at h;exact⟨i,rfl,h.1,h.2.1,h.2.2⟩
theorem aKi{w0:World}{r pb:Nat}{s:ByteArray}{p:Nat}{er:Int}{one:Nat→Int→SC×Nat×Int}{w:World}(hs:s.size≤maxLen)(ak:p≤s.size)(h:PD w0 r s p er w)(he:er≠6)
 (b4:Hid (∀q e,q≤s.size→e≠6→(one q e).2.1≤s.size∧(one q e).2.2≠6))
 (HT:Hid (∀(J:World) (q:Nat) (e:Int),q≤s.size→e≠6→PD w0 r s q e J→Fr [r] w J→Calls Tryz.prog 102 #[rD r pb] J (OP zR MC.c r (PD w0 r s) (one q e).1 (one q e).2.1 (one q e).2.2 J))) :
 Calls Tryz.prog 101 #[rD r pb,.func (.func 102) #[rD r pb] #[]] w (wN zR 6 MC.c r (PD w0 r s) 105 (cK one s p er).1 (cK one s p er).2.1 (cK one s p er).2.2 w):=by
 have hW:=h.alloc (.cells #[.pointer (some ⟨r,0,none⟩),.pointer (some ⟨pb,0,none⟩)] 141);have B:=bV.new w 141 #[.pointer (some ⟨r,0,none⟩),.pointer (some ⟨pb,0,none⟩)];obtain⟨W,a6⟩:∃W,Hid (W=w.alloc (.cells #[.pointer (some ⟨r,0,none⟩),.pointer (some ⟨pb,0,none⟩)] 141)):=⟨_,hid rfl⟩;have ah:w.heap.size≠r:=by have:=h.lt;omega
 have a3:Hid (∀(J:World) A cap (xs:List MC) q e,jP zR 6 [r] (PD w0 r s) q e W 105 A cap xs J→wN zR 6 MC.c r (PD w0 r s) 105 (xs.map MC.c) q e w (.returned (.slice A xs.length cap)) J):=hid (fun J A cap xs q e x=>x.end_ a6.out);have hf:Fr [] w W:=by rw[a6.out];exact(Fr.refl [] w).alloc _
 have az:Hid (∀(J:World) (q:Nat) (e:Int),q≤s.size→e≠6→PD w0 r s q e J→Fr [r] W J→Calls Tryz.prog 102 #[rD r pb] J (OP zR MC.c r (PD w0 r s) (one q e).1 (one q e).2.1 (one q e).2.2 J)):=hid (fun J q e a b c f=>HT.out J q e a b c (hf.trans f (by simp) (fun x hx=>Or.inl hx)));rw[←a6.out]at hW B;have bc:Hid (w0.heap.size≤W.heap.size):=hid hW.be.size;have aj:r<W.heap.size:=hW.lt;have b8:Hid (r+1≤W.heap.size):=hid aj;have HB:Hid (∀J,Fr [r] W J→J.cell? ⟨w.heap.size,0,none⟩=some (.pointer (some ⟨r,0,none⟩))∧J.cell? ⟨w.heap.size,1,none⟩=some (.pointer (some ⟨pb,0,none⟩))):=hid (fun J f=>⟨(B.kept f (by simpa using ah)).cell 0,(B.kept f (by simpa using ah)).cell 1⟩);have x0:W.cell? ⟨w.heap.size,0,none⟩=some (.pointer (some ⟨r,0,none⟩)):=B.cell 0;have K:=hid (gM W r s p er hW.rd hs ak);have b1:Hid (∀J,RD J r s (nP s p er) (nE s p er)→Fr [r] W J→jP zR 6 [r] (PD w0 r s) (nP s p er) (nE s p er) W 105 none 0 [] J):=hid (fun J x f=>jP.start (hW.of f x) f (by simpa using aj))
 have af:=hid (fun(J:World) (q:Nat) (e:Int) (x:PD w0 r s q e J)=>lS (pb:=pb) x);have ad:=hid (eB s p er ak);have a8:=hid (sO s p er he);obtain⟨R,hR⟩:∃R,Hid (R=cK one s p er):=⟨_,hid rfl⟩;rw[←hR.out];have ag:Hid (R=dX one (nV s p er) (nP s p er) (eL s p er)):=hid hR.out;have a9:Hid (eL s p er=if 6000<nV s p er then fE (nE s p er) 4 else nE s p er):=hid rfl;unfold jE at K;unfold PP at af;have a7:=hid (sK s p er he);clear hW B h hs ak ah hR he hf HT aj;generalize nP s p er=p1 at *;generalize nE s p er=e1 at *;generalize nV s p er=n at *;generalize eL s p er=e2 at *;obtain⟨i0,ay,au,b3,ax⟩:=aE6;have Hi:=hid ay;have b9:=hid au;have bb:=hid b3;have b7:=hid ax;clear ay au b3 ax;unfold rD at af az ⊢;go_enter Tryz.func101,Tryz.ntmps101;go_upto_region 1 with fail;rw[←a6.out];clear a6;generalize w.heap.size=bx at *;go_wp2_with fail;refine K.out.mono ?_
 rintro e J ⟨rfl,x2,f2⟩;have L2:=hid (b1.out J x2 f2);obtain⟨c0,c1⟩:=HB.out J f2;clear x2 f2 K x0 b1;by_cases h6:6000<n
 ·have d6:decide (6000<(n:Int))=true:=aC (by omega)
  have aa:e2=fE e1 4:=by rw[a9.out,if_pos h6]
  have KF:=hid (rQ J r s p1 e1 4 L2.out.pd.rd);rw[←aa]at KF;unfold jE at KF;clear a9 aa;go_wp2_with fail;refine KF.out.mono ?_;rintro e w3 ⟨rfl,x3,f3⟩;have L3:=hid (L2.out.read gCo (L2.out.pd.of f3 x3) f3);clear x3 f3 KF c0 c1 L2;have a2:Hid (jP zR 6 [r] (PD w0 r s) p1 e2 W 105 none 0 [] w3):=L3;have a4:Hid (R=(([]:List MC).map MC.c++(dX one (n-0) p1 e2).1,(dX one (n-0) p1 e2).2)):=hid ag.out;clear L3 ag;obtain⟨c0,c1⟩:=HB.out w3 a2.out.fr;go_wp2_with fail;go_loopw [6,7] (fun v i wr=>∃(k:Nat) (A:Option Addr) (cap:Nat) (xs:List MC) (q:Nat) (eq:Int),k≤n∧i=.int .i64 k∧v=.slice A xs.length cap∧xs.length≤k∧Hid (jP zR 6 [r] (PD w0 r s) q eq W 105 A cap xs wr)∧Hid (q≤s.size)∧Hid (eq≠6)∧Hid (n≤6000∨cB eq=true)∧Hid (R=(xs.map MC.c++(dX one (n-k) q eq).1,(dX one (n-k) q eq).2))) (fun _ i _=>n-(intOf i).toNat)
  case atStart=>exact⟨0,none,0,[],p1,e2,by omega,rfl,rfl,by simp,a2,ad,a8,a7,a4⟩
  case round=>
   obtain⟨k,A,cap,xs,q,eq,hk,rfl,rfl,ba,HL,hq,ae,hh,a0⟩:=hrel;clear a2 a4 c0 c1 a7 ad a8;obtain⟨c0,c1⟩:=HB.out wr HL.out.fr;by_cases b5:k<n
   ·have d1:decide ((k:Int)<(n:Int))=true:=aC (by omega)
    have KW:=hid (af.out wr q eq HL.out.pd);obtain⟨j,hj⟩:∃j,n-k=j+1:=⟨n-k-1,by omega⟩;have a5:n-(k+1)=j:=by omega
    rcases hb:cB eq with _ | _
    ·rw[hb]at KW
     have ap:n≤6000:=by
      rcases hh.out with h1 | h1
      ·exact h1
      ·rw[hb]at h1;cases h1
     exact absurd h6 (by omega)
    ·rw[hb]at KW
     have Y:Hid (R=(xs.map MC.c,q,eq)):=hid (by
      rw[a0.out,hj];show(xs.map MC.c++(if cB eq then _ else _:List SC×Nat×Int).1,(if cB eq then _ else _:List SC×Nat×Int).2)=_;rw[hb]
      simp)
     clear a0 hh hj a5;have a1:=hid (fun(w4:World) (x:PD w0 r s q eq w4) (f:Fr [r] wr w4)=>HL.out.read gCo x f);go_wp2_with fail;refine KW.out.mono ?_;rintro e w4 ⟨rfl,x4,f4⟩;have L4:=hid (a1.out w4 x4 f4);clear x4 f4 KW a1 HL;go_wp2_with fail;go_ret;rw[Y.out];exact a3.out _ _ _ _ _ _ L4.out
   ·obtain rfl:k=n:=by omega
    have d1:decide ((k:Int)<(k:Int))=false:=aB (by omega);have Y:Hid (R=(xs.map MC.c,q,eq)):=hid (by rw[a0.out,Nat.sub_self];simp[dX]);go_wp2_with fail;go_ret;rw[Y.out];exact a3.out _ _ _ _ _ _ HL.out
 ·have d6:decide (6000<(n:Int))=false:=aB (by omega)
  have aa:e2=e1:=by rw[a9.out,if_neg h6]
  subst aa;have L3:=L2;clear a9 c0 c1 L2;have a2:Hid (jP zR 6 [r] (PD w0 r s) p1 e2 W 105 none 0 [] J):=L3;have a4:Hid (R=(([]:List MC).map MC.c++(dX one (n-0) p1 e2).1,(dX one (n-0) p1 e2).2)):=hid ag.out;clear L3 ag;obtain⟨c0,c1⟩:=HB.out J a2.out.fr;go_wp2_with fail;go_loopw [6,7] (fun v i wr=>∃(k:Nat) (A:Option Addr) (cap:Nat) (xs:List MC) (q:Nat) (eq:Int),k≤n∧i=.int .i64 k∧v=.slice A xs.length cap∧xs.length≤k∧Hid (jP zR 6 [r] (PD w0 r s) q eq W 105 A cap xs wr)∧Hid (q≤s.size)∧Hid (eq≠6)∧Hid (n≤6000∨cB eq=true)∧Hid (R=(xs.map MC.c++(dX one (n-k) q eq).1,(dX one (n-k) q eq).2))) (fun _ i _=>n-(intOf i).toNat)
  case atStart=>exact⟨0,none,0,[],p1,e2,by omega,rfl,rfl,by simp,a2,ad,a8,a7,a4⟩
  case round=>
   obtain⟨k,A,cap,xs,q,eq,hk,rfl,rfl,ba,HL,hq,ae,hh,a0⟩:=hrel;clear a2 a4 c0 c1 a7 ad a8;obtain⟨c0,c1⟩:=HB.out wr HL.out.fr;by_cases b5:k<n
   ·have d1:decide ((k:Int)<(n:Int))=true:=aC (by omega)
    have KW:=hid (af.out wr q eq HL.out.pd);obtain⟨j,hj⟩:∃j,n-k=j+1:=⟨n-k-1,by omega⟩;have a5:n-(k+1)=j:=by omega
    rcases hb:cB eq with _ | _
    ·rw[hb]at KW
     have ap:n≤6000:=by
      rcases hh.out with h1 | h1
      ·exact h1
      ·rw[hb]at h1;cases h1
     have Y:Hid (R=((xs.map MC.c++[(one q eq).1])++(dX one (n-(k+1)) (one q eq).2.1 (one q eq).2.2).1,(dX one (n-(k+1)) (one q eq).2.1 (one q eq).2.2).2)):=hid (by
      rw[a0.out,hj,a5];show(xs.map MC.c++(if cB eq then _ else _:List SC×Nat×Int).1,(if cB eq then _ else _:List SC×Nat×Int).2)=_;rw[hb]
      simp)
     obtain⟨ao,ai⟩:=b4.out q eq hq.out ae.out;replace ao:=hid ao;replace ai:=hid ai;clear a0 hh hj a5;have a1:=hid (fun(w4:World) (x:PD w0 r s q eq w4) (f:Fr [r] wr w4)=>HL.out.read gCo x f);go_wp2_with fail;refine KW.out.mono ?_;rintro e w4 ⟨rfl,x4,f4⟩;have L4:=hid (a1.out w4 x4 f4);have KT:=hid (az.out w4 q eq hq.out ae.out x4 L4.out.fr);clear x4 f4 KW a1 HL;unfold OP at KT;generalize (one q eq).1=y at *;generalize (one q eq).2.1=q2 at *;generalize (one q eq).2.2=e3 at *;go_wp2_with fail;refine KT.out.mono ?_;rintro e w5 ⟨b,he,am,x5,f5,o5,n5⟩;obtain rfl:e=.returned (.agg #[.int .i64 b.c.op,.string b.c.a,.string b.c.b,.int .i64 b.c.k,.string b.c.tag,.slice b.aA b.c.args.length b.ac]):=he;have N5:=hid (L4.out.new n5);have L5:=hid (L4.out.read gCo x5 f5);have O5:=hid o5;replace am:=hid am;clear x5 f5 KT L4 hq ae n5 o5
     go_wp2_with (at_builtin;refine iV (us:=[.int .i64 b.c.op,.string b.c.a,.string b.c.b,.int .i64 b.c.k,.string b.c.tag,.slice b.aA b.c.args.length b.ac]) rfl _ _ _ rfl (L5.out.sg.alloc _) Tryz.underlying25 Hi.out b9.out bb.out b7.out rfl rfl rfl rfl (iZ _ _ [.int .i64 b.c.op,.string b.c.a,.string b.c.b,.int .i64 b.c.k,.string b.c.tag,.slice b.aA b.c.args.length b.ac]) (gCo.one b) (by omega) (by omega) ?_;intro A3 aw w6 av f6 b2;have L6:=hid (L5.out.push (aB9 w0 r s) gCo b8.out O5.out N5.out av f6 b2);clear av f6 b2)
     have ar:(xs++[b]).length=xs.length+1:=by simp
     have b6:Hid (R=((xs++[b]).map MC.c++(dX one (n-(k+1)) q2 e3).1,(dX one (n-(k+1)) q2 e3).2)):=hid (by rw[List.map_append,List.map_singleton,am.out];exact Y.out);go_roundw
     case rel=>exact⟨k+1,A3,aw,xs++[b],q2,e3,by omega,by go_num,by rw[ar],by omega,L6,ao,ai,hid (Or.inl ap),b6⟩
     case measure=>simp[intOf];omega
    ·rw[hb]at KW
     have Y:Hid (R=(xs.map MC.c,q,eq)):=hid (by
      rw[a0.out,hj];show(xs.map MC.c++(if cB eq then _ else _:List SC×Nat×Int).1,(if cB eq then _ else _:List SC×Nat×Int).2)=_;rw[hb]
      simp)
     clear a0 hh hj a5;have a1:=hid (fun(w4:World) (x:PD w0 r s q eq w4) (f:Fr [r] wr w4)=>HL.out.read gCo x f);go_wp2_with fail;refine KW.out.mono ?_;rintro e w4 ⟨rfl,x4,f4⟩;have L4:=hid (a1.out w4 x4 f4);clear x4 f4 KW a1 HL;go_wp2_with fail;go_ret;rw[Y.out];exact a3.out _ _ _ _ _ _ L4.out
   ·obtain rfl:k=n:=by omega
    have d1:decide ((k:Int)<(k:Int))=false:=aB (by omega);have Y:Hid (R=(xs.map MC.c,q,eq)):=hid (by rw[a0.out,Nat.sub_self];simp[dX]);go_wp2_with fail;go_ret;rw[Y.out];exact a3.out _ _ _ _ _ _ HL.out
theorem aKu:(Tryz.prog.info? 101).map (fun i=>(i.zero,i.size,i.bytes))=some (some (.agg #[.int .i64 0,.string ⟨#[]⟩]),2,24):=by kernel_rfl
theorem aEX:∃i,Tryz.prog.info? 101=some i∧i.zero=some (.agg #[.int .i64 0,.string ⟨#[]⟩])∧i.size=2∧i.bytes=24:=by
 have h:=aKu;rcases hi:Tryz.prog.info? 101 with _ | i
 ·rw[hi]at h;cases h
 ·rw[hi]at h
  simp only[Option.map_some,Option.some.injEq,Prod.mk.injEq]at h;exact⟨i,rfl,h.1,h.2.1,h.2.2⟩
theorem aJ9{w0:World}{r pb rb:Nat}{s:ByteArray}{p:Nat}{er:Int}{one:Nat→Int→Mk×Nat×Int}{w:World}(hs:s.size≤maxLen)(ak:p≤s.size)(h:PD w0 r s p er w)(he:er≠6)
 (b4:Hid (∀q e,q≤s.size→e≠6→(one q e).2.1≤s.size∧(one q e).2.2≠6))
 (HT:Hid (∀(J:World) (q:Nat) (e:Int),q≤s.size→e≠6→PD w0 r s q e J→Fr [r] w J→Calls Tryz.prog 159 #[.pointer (some ⟨rb,0,none⟩)] J (OP EMk (fun m:Mk=>m) r (PD w0 r s) (one q e).1 (one q e).2.1 (one q e).2.2 J))) :
 Calls Tryz.prog 158 #[rD r pb,.func (.func 159) #[] #[.pointer (some ⟨rb,0,none⟩)]] w (wN EMk 2 (fun m:Mk=>m) r (PD w0 r s) 101 (cK one s p er).1 (cK one s p er).2.1 (cK one s p er).2.2 w):=by
 have hW:=h.alloc (.cells #[.pointer (some ⟨r,0,none⟩),.pointer (some ⟨pb,0,none⟩)] 141);have B:=bV.new w 141 #[.pointer (some ⟨r,0,none⟩),.pointer (some ⟨pb,0,none⟩)];obtain⟨W,a6⟩:∃W,Hid (W=w.alloc (.cells #[.pointer (some ⟨r,0,none⟩),.pointer (some ⟨pb,0,none⟩)] 141)):=⟨_,hid rfl⟩;have ah:w.heap.size≠r:=by have:=h.lt;omega
 have a3:Hid (∀(J:World) A cap (xs:List Mk) q e,jP EMk 2 [r] (PD w0 r s) q e W 101 A cap xs J→wN EMk 2 (fun m:Mk=>m) r (PD w0 r s) 101 (xs.map (fun m:Mk=>m)) q e w (.returned (.slice A xs.length cap)) J):=hid (fun J A cap xs q e x=>x.end_ a6.out);have hf:Fr [] w W:=by rw[a6.out];exact(Fr.refl [] w).alloc _
 have az:Hid (∀(J:World) (q:Nat) (e:Int),q≤s.size→e≠6→PD w0 r s q e J→Fr [r] W J→Calls Tryz.prog 159 #[.pointer (some ⟨rb,0,none⟩)] J (OP EMk (fun m:Mk=>m) r (PD w0 r s) (one q e).1 (one q e).2.1 (one q e).2.2 J)):=hid (fun J q e a b c f=>HT.out J q e a b c (hf.trans f (by simp) (fun x hx=>Or.inl hx)));rw[←a6.out]at hW B;have bc:Hid (w0.heap.size≤W.heap.size):=hid hW.be.size;have aj:r<W.heap.size:=hW.lt;have b8:Hid (r+1≤W.heap.size):=hid aj;have HB:Hid (∀J,Fr [r] W J→J.cell? ⟨w.heap.size,0,none⟩=some (.pointer (some ⟨r,0,none⟩))∧J.cell? ⟨w.heap.size,1,none⟩=some (.pointer (some ⟨pb,0,none⟩))):=hid (fun J f=>⟨(B.kept f (by simpa using ah)).cell 0,(B.kept f (by simpa using ah)).cell 1⟩);have x0:W.cell? ⟨w.heap.size,0,none⟩=some (.pointer (some ⟨r,0,none⟩)):=B.cell 0;have K:=hid (gM W r s p er hW.rd hs ak);have b1:Hid (∀J,RD J r s (nP s p er) (nE s p er)→Fr [r] W J→jP EMk 2 [r] (PD w0 r s) (nP s p er) (nE s p er) W 101 none 0 [] J):=hid (fun J x f=>jP.start (hW.of f x) f (by simpa using aj))
 have af:=hid (fun(J:World) (q:Nat) (e:Int) (x:PD w0 r s q e J)=>lS (pb:=pb) x);have ad:=hid (eB s p er ak);have a8:=hid (sO s p er he);obtain⟨R,hR⟩:∃R,Hid (R=cK one s p er):=⟨_,hid rfl⟩;rw[←hR.out];have ag:Hid (R=dX one (nV s p er) (nP s p er) (eL s p er)):=hid hR.out;have a9:Hid (eL s p er=if 6000<nV s p er then fE (nE s p er) 4 else nE s p er):=hid rfl;unfold jE at K;unfold PP at af;have a7:=hid (sK s p er he);clear hW B h hs ak ah hR he hf HT aj;generalize nP s p er=p1 at *;generalize nE s p er=e1 at *;generalize nV s p er=n at *;generalize eL s p er=e2 at *;obtain⟨i0,ay,au,b3,ax⟩:=aEX;have Hi:=hid ay;have b9:=hid au;have bb:=hid b3;have b7:=hid ax;clear ay au b3 ax;unfold rD at af az ⊢;go_enter Tryz.func158,Tryz.ntmps158;go_upto_region 1 with fail;rw[←a6.out];clear a6;generalize w.heap.size=bx at *;go_wp2_with fail;refine K.out.mono ?_
 rintro e J ⟨rfl,x2,f2⟩;have L2:=hid (b1.out J x2 f2);obtain⟨c0,c1⟩:=HB.out J f2;clear x2 f2 K x0 b1;by_cases h6:6000<n
 ·have d6:decide (6000<(n:Int))=true:=aC (by omega)
  have aa:e2=fE e1 4:=by rw[a9.out,if_pos h6]
  have KF:=hid (rQ J r s p1 e1 4 L2.out.pd.rd);rw[←aa]at KF;unfold jE at KF;clear a9 aa;go_wp2_with fail;refine KF.out.mono ?_;rintro e w3 ⟨rfl,x3,f3⟩;have L3:=hid (L2.out.read gMk (L2.out.pd.of f3 x3) f3);clear x3 f3 KF c0 c1 L2;have a2:Hid (jP EMk 2 [r] (PD w0 r s) p1 e2 W 101 none 0 [] w3):=L3;have a4:Hid (R=(([]:List Mk).map (fun m:Mk=>m)++(dX one (n-0) p1 e2).1,(dX one (n-0) p1 e2).2)):=hid ag.out;clear L3 ag;obtain⟨c0,c1⟩:=HB.out w3 a2.out.fr;go_wp2_with fail;go_loopw [6,7] (fun v i wr=>∃(k:Nat) (A:Option Addr) (cap:Nat) (xs:List Mk) (q:Nat) (eq:Int),k≤n∧i=.int .i64 k∧v=.slice A xs.length cap∧xs.length≤k∧Hid (jP EMk 2 [r] (PD w0 r s) q eq W 101 A cap xs wr)∧Hid (q≤s.size)∧Hid (eq≠6)∧Hid (n≤6000∨cB eq=true)∧Hid (R=(xs.map (fun m:Mk=>m)++(dX one (n-k) q eq).1,(dX one (n-k) q eq).2))) (fun _ i _=>n-(intOf i).toNat)
  case atStart=>exact⟨0,none,0,[],p1,e2,by omega,rfl,rfl,by simp,a2,ad,a8,a7,a4⟩
  case round=>
   obtain⟨k,A,cap,xs,q,eq,hk,rfl,rfl,ba,HL,hq,ae,hh,a0⟩:=hrel;clear a2 a4 c0 c1 a7 ad a8;obtain⟨c0,c1⟩:=HB.out wr HL.out.fr;by_cases b5:k<n
   ·have d1:decide ((k:Int)<(n:Int))=true:=aC (by omega)
    have KW:=hid (af.out wr q eq HL.out.pd);obtain⟨j,hj⟩:∃j,n-k=j+1:=⟨n-k-1,by omega⟩;have a5:n-(k+1)=j:=by omega
    rcases hb:cB eq with _ | _
    ·rw[hb]at KW
     have ap:n≤6000:=by
      rcases hh.out with h1 | h1
      ·exact h1
      ·rw[hb]at h1;cases h1
     exact absurd h6 (by omega)
    ·rw[hb]at KW
     have Y:Hid (R=(xs.map (fun m:Mk=>m),q,eq)):=hid (by
      rw[a0.out,hj];show(xs.map (fun m:Mk=>m)++(if cB eq then _ else _:List Mk×Nat×Int).1,(if cB eq then _ else _:List Mk×Nat×Int).2)=_;rw[hb]
      simp)
     clear a0 hh hj a5;have a1:=hid (fun(w4:World) (x:PD w0 r s q eq w4) (f:Fr [r] wr w4)=>HL.out.read gMk x f);go_wp2_with fail;refine KW.out.mono ?_;rintro e w4 ⟨rfl,x4,f4⟩;have L4:=hid (a1.out w4 x4 f4);clear x4 f4 KW a1 HL;go_wp2_with fail;go_ret;rw[Y.out];exact a3.out _ _ _ _ _ _ L4.out
   ·obtain rfl:k=n:=by omega
    have d1:decide ((k:Int)<(k:Int))=false:=aB (by omega);have Y:Hid (R=(xs.map (fun m:Mk=>m),q,eq)):=hid (by rw[a0.out,Nat.sub_self];simp[dX]);go_wp2_with fail;go_ret;rw[Y.out];exact a3.out _ _ _ _ _ _ HL.out
 ·have d6:decide (6000<(n:Int))=false:=aB (by omega)
  have aa:e2=e1:=by rw[a9.out,if_neg h6]
  subst aa;have L3:=L2;clear a9 c0 c1 L2;have a2:Hid (jP EMk 2 [r] (PD w0 r s) p1 e2 W 101 none 0 [] J):=L3;have a4:Hid (R=(([]:List Mk).map (fun m:Mk=>m)++(dX one (n-0) p1 e2).1,(dX one (n-0) p1 e2).2)):=hid ag.out;clear L3 ag;obtain⟨c0,c1⟩:=HB.out J a2.out.fr;go_wp2_with fail;go_loopw [6,7] (fun v i wr=>∃(k:Nat) (A:Option Addr) (cap:Nat) (xs:List Mk) (q:Nat) (eq:Int),k≤n∧i=.int .i64 k∧v=.slice A xs.length cap∧xs.length≤k∧Hid (jP EMk 2 [r] (PD w0 r s) q eq W 101 A cap xs wr)∧Hid (q≤s.size)∧Hid (eq≠6)∧Hid (n≤6000∨cB eq=true)∧Hid (R=(xs.map (fun m:Mk=>m)++(dX one (n-k) q eq).1,(dX one (n-k) q eq).2))) (fun _ i _=>n-(intOf i).toNat)
  case atStart=>exact⟨0,none,0,[],p1,e2,by omega,rfl,rfl,by simp,a2,ad,a8,a7,a4⟩
  case round=>
   obtain⟨k,A,cap,xs,q,eq,hk,rfl,rfl,ba,HL,hq,ae,hh,a0⟩:=hrel;clear a2 a4 c0 c1 a7 ad a8;obtain⟨c0,c1⟩:=HB.out wr HL.out.fr;by_cases b5:k<n
   ·have d1:decide ((k:Int)<(n:Int))=true:=aC (by omega)
    have KW:=hid (af.out wr q eq HL.out.pd);obtain⟨j,hj⟩:∃j,n-k=j+1:=⟨n-k-1,by omega⟩;have a5:n-(k+1)=j:=by omega
    rcases hb:cB eq with _ | _
    ·rw[hb]at KW
     have ap:n≤6000:=by
      rcases hh.out with h1 | h1
      ·exact h1
      ·rw[hb]at h1;cases h1
     have Y:Hid (R=((xs.map (fun m:Mk=>m)++[(one q eq).1])++(dX one (n-(k+1)) (one q eq).2.1 (one q eq).2.2).1,(dX one (n-(k+1)) (one q eq).2.1 (one q eq).2.2).2)):=hid (by
      rw[a0.out,hj,a5];show(xs.map (fun m:Mk=>m)++(if cB eq then _ else _:List Mk×Nat×Int).1,(if cB eq then _ else _:List Mk×Nat×Int).2)=_;rw[hb]
      simp)
     obtain⟨ao,ai⟩:=b4.out q eq hq.out ae.out;replace ao:=hid ao;replace ai:=hid ai;clear a0 hh hj a5;have a1:=hid (fun(w4:World) (x:PD w0 r s q eq w4) (f:Fr [r] wr w4)=>HL.out.read gMk x f);go_wp2_with fail;refine KW.out.mono ?_;rintro e w4 ⟨rfl,x4,f4⟩;have L4:=hid (a1.out w4 x4 f4);have KT:=hid (az.out w4 q eq hq.out ae.out x4 L4.out.fr);clear x4 f4 KW a1 HL;unfold OP at KT;generalize (one q eq).1=y at *;generalize (one q eq).2.1=q2 at *;generalize (one q eq).2.2=e3 at *;go_wp2_with fail;refine KT.out.mono ?_;rintro e w5 ⟨b,he,am,x5,f5,o5,n5⟩;obtain rfl:e=.returned (.agg #[.int .i64 b.at_,.string b.tag]):=he;have N5:=hid (L4.out.new n5);have L5:=hid (L4.out.read gMk x5 f5);have O5:=hid o5;replace am:=hid am;clear x5 f5 KT L4 hq ae n5 o5
     go_wp2_with (at_builtin;refine iV (us:=[.int .i64 b.at_,.string b.tag]) rfl _ _ _ rfl (L5.out.sg.alloc _) Tryz.underlying97 Hi.out b9.out bb.out b7.out rfl rfl rfl rfl (iZ _ _ [.int .i64 b.at_,.string b.tag]) (gMk.one b) (by omega) (by omega) ?_;intro A3 aw w6 av f6 b2;have L6:=hid (L5.out.push (aB9 w0 r s) gMk b8.out O5.out N5.out av f6 b2);clear av f6 b2)
     have ar:(xs++[b]).length=xs.length+1:=by simp
     have b6:Hid (R=((xs++[b]).map (fun m:Mk=>m)++(dX one (n-(k+1)) q2 e3).1,(dX one (n-(k+1)) q2 e3).2)):=hid (by rw[List.map_append,List.map_singleton,am.out];exact Y.out);go_roundw
     case rel=>exact⟨k+1,A3,aw,xs++[b],q2,e3,by omega,by go_num,by rw[ar],by omega,L6,ao,ai,hid (Or.inl ap),b6⟩
     case measure=>simp[intOf];omega
    ·rw[hb]at KW
     have Y:Hid (R=(xs.map (fun m:Mk=>m),q,eq)):=hid (by
      rw[a0.out,hj];show(xs.map (fun m:Mk=>m)++(if cB eq then _ else _:List Mk×Nat×Int).1,(if cB eq then _ else _:List Mk×Nat×Int).2)=_;rw[hb]
      simp)
     clear a0 hh hj a5;have a1:=hid (fun(w4:World) (x:PD w0 r s q eq w4) (f:Fr [r] wr w4)=>HL.out.read gMk x f);go_wp2_with fail;refine KW.out.mono ?_;rintro e w4 ⟨rfl,x4,f4⟩;have L4:=hid (a1.out w4 x4 f4);clear x4 f4 KW a1 HL;go_wp2_with fail;go_ret;rw[Y.out];exact a3.out _ _ _ _ _ _ L4.out
   ·obtain rfl:k=n:=by omega
    have d1:decide ((k:Int)<(k:Int))=false:=aB (by omega);have Y:Hid (R=(xs.map (fun m:Mk=>m),q,eq)):=hid (by rw[a0.out,Nat.sub_self];simp[dX]);go_wp2_with fail;go_ret;rw[Y.out];exact a3.out _ _ _ _ _ _ HL.out
theorem PD.set{w0 w:World}{r:Nat}{s:ByteArray}{p:Nat}{er:Int}(h:PD w0 r s p er w){b:Nat}(hb:b≠r)(h0:w0.heap.size≤b)(i:Nat)(v:Value):PD w0 r s p er (w.setCell ⟨b,i,none⟩ v):=by
 have f:Fr [b] w (w.setCell ⟨b,i,none⟩ v):=(Fr.refl [b] w).setCell (p:=⟨b,i,none⟩) (Or.inl (by simp)) _;exact⟨⟨h.rd.box.kept f (by simpa using hb.symm)⟩,fI h.be f (fun x J=>by rw[aD]at J;rw[J];exact h0),h.ge⟩
structure SW(w0:World)(r:Nat)(s:ByteArray)(p:Nat)(er:Int)(W:World)(t:TypeId)(b:Nat)(cs:Array Value)(w:World):Prop where
 pd:PD w0 r s p er w
 fr:Fr [r] W w
 bx:bV w b t cs
 nw:W.heap.size≤b
 h0:w0.heap.size≤W.heap.size
 hr:r<W.heap.size
theorem SW.read{w0 W w Y:World}{r:Nat}{s:ByteArray}{p q:Nat}{er e2:Int}{t:TypeId}{b:Nat}{cs:Array Value}(h:SW w0 r s p er W t b cs w)(x:PD w0 r s q e2 Y)(f:Fr [r] w Y):SW w0 r s q e2 W t b cs Y:=
 ⟨x,h.fr.trans f (fun x J=>Or.inl J) (fun x J=>Or.inl J),h.bx.kept f (by rw[aD];have:=h.nw;have:=h.hr;omega),h.nw,h.h0,h.hr⟩
theorem SW.put{w0 W w:World}{r:Nat}{s:ByteArray}{p:Nat}{er:Int}{t:TypeId}{b:Nat}{cs:Array Value}(h:SW w0 r s p er W t b cs w)(i:Nat)(v:Value):SW w0 r s p er W t b (cs.setIfInBounds i v) (w.setCell ⟨b,i,none⟩ v):=
 ⟨h.pd.set (by have:=h.nw;have:=h.hr;omega) (aZ h.h0 h.nw) i v,h.fr.setCell (p:=⟨b,i,none⟩) (Or.inr h.nw) v,h.bx.put i v,h.nw,h.h0,h.hr⟩
theorem SW.new{w0 W w:World}{r:Nat}{s:ByteArray}{p:Nat}{er:Int}(x:PD w0 r s p er w)(f:Fr [r] W w)(h0:w0.heap.size≤W.heap.size)(hr:r<W.heap.size)(t:TypeId)(cs:Array Value):SW w0 r s p er W t w.heap.size cs (w.alloc (.cells cs t)):=
 ⟨x.alloc _,f.alloc _,bV.new w t cs,f.size,h0,hr⟩
def mH(m:List (List UInt8))(s:ByteArray)(p:Nat)(er:Int):SF×Nat×Int:=
 (⟨tT m s p er,tT m s (nP s p er) (tN m s p er),tT m s (nP s (nP s p er) (tN m s p er)) (tN m s (nP s p er) (tN m s p er))⟩,
  nP s (nP s (nP s p er) (tN m s p er)) (tN m s (nP s p er) (tN m s p er)),tN m s (nP s (nP s p er) (tN m s p er)) (tN m s (nP s p er) (tN m s p er)))
theorem uF:Tryz.prog.underlying 103=some (.struct (Tryz.prog.fieldsOf 103)):=by kernel_rfl
theorem aLg{w0:World}{r pb:Nat}{s:ByteArray}{p:Nat}{er:Int}{pA:Option Addr}{pc:Nat}{m:List (List UInt8)}{w:World}(hp:Pl w0 pb pA pc m)(hm:m.length≤1000000)(hs:s.size≤maxLen)(a1:p≤s.size)(h:PD w0 r s p er w) :
 Calls Tryz.prog 100 #[rD r pb] w (PP w0 r s (.agg #[.string (mH m s p er).1.name,.string (mH m s p er).1.kinds,.string (mH m s p er).1.ret]) (mH m s p er).2.1 (mH m s p er).2.2 w):=by
 obtain⟨W,J⟩:∃W,Hid (W=(w.alloc (.cells #[.pointer (some ⟨r,0,none⟩),.pointer (some ⟨pb,0,none⟩)] 141)).alloc (.cells #[.string ⟨#[]⟩,.string ⟨#[]⟩,.string ⟨#[]⟩] 103)):=⟨_,hid rfl⟩;have hz:(w.alloc (.cells #[.pointer (some ⟨r,0,none⟩),.pointer (some ⟨pb,0,none⟩)] 141)).heap.size=w.heap.size+1:=bH _;have hW:PD w0 r s p er W:=by rw[J.out];exact(h.alloc _).alloc _
 have hf:Hid (Fr [] w W):=hid (by rw[J.out];exact((Fr.refl [] w).alloc _).alloc _);have B0:bV W w.heap.size 141 #[.pointer (some ⟨r,0,none⟩),.pointer (some ⟨pb,0,none⟩)]:=by rw[J.out];exact(bV.new w _ _).kept ((Fr.refl [] _).alloc _) (by simp)
 have B1:bV W (w.heap.size+1) 103 #[.string ⟨#[]⟩,.string ⟨#[]⟩,.string ⟨#[]⟩]:=by rw[J.out,←hz];exact bV.new _ _ _
 have a5:=h.lt;have n0:w.heap.size≠r:=by omega
 have n1:w.heap.size+1≠r:=by omega
 have HB:Hid (∀w2,Fr [r] W w2→bV w2 w.heap.size 141 #[.pointer (some ⟨r,0,none⟩),.pointer (some ⟨pb,0,none⟩)]∧bV w2 (w.heap.size+1) 103 #[.string ⟨#[]⟩,.string ⟨#[]⟩,.string ⟨#[]⟩]):=hid (fun w2 f=>⟨B0.kept f (by simpa using n0),B1.kept f (by simpa using n1)⟩);have HT:=hid (fun(w2:World) (q:Nat) (e:Int) (hq:q≤s.size) (x:PD w0 r s q e w2)=>fT (pb:=pb) hp hm hs hq x);have a9:Hid (w0.heap.size≤W.heap.size):=hid hW.be.size;have a6:Hid (r<W.heap.size):=hid hW.lt;have q1:=hid (eB s p er a1);have q2:=hid (eB s (nP s p er) (tN m s p er) q1.out)
 have a0:Hid (∀(w8:World) (q:Nat) (e:Int) (b3:Nat) (cs:Array Value) (x y z:Value),SW w0 r s q e W 103 b3 cs w8→bV (((w8.setCell ⟨w.heap.size+1,0,none⟩ x).setCell ⟨w.heap.size+1,1,none⟩ y).setCell ⟨w.heap.size+1,2,none⟩ z) (w.heap.size+1) 103 #[x,y,z]∧PD w0 r s q e (((w8.setCell ⟨w.heap.size+1,0,none⟩ x).setCell ⟨w.heap.size+1,1,none⟩ y).setCell ⟨w.heap.size+1,2,none⟩ z)∧Fr [r] w (((w8.setCell ⟨w.heap.size+1,0,none⟩ x).setCell ⟨w.heap.size+1,1,none⟩ y).setCell ⟨w.heap.size+1,2,none⟩ z)):=hid (fun w8 q e b3 cs x y z g=>by
  have b:=(HB.out w8 g.fr).2;have l0:w0.heap.size≤w.heap.size+1:=aZ h.be.size (Nat.le_succ _);have fa:Fr [r] w w8:=hf.out.trans g.fr (by simp) (fun x hx=>Or.inl hx)
  exact⟨((b.put 0 x).put 1 y).put 2 z,((g.pd.set n1 l0 0 x).set n1 l0 1 y).set n1 l0 2 z,((fa.setCell (p:=⟨w.heap.size+1,0,none⟩) (Or.inr (Nat.le_succ _)) x).setCell (p:=⟨w.heap.size+1,1,none⟩) (Or.inr (Nat.le_succ _)) y).setCell (p:=⟨w.heap.size+1,2,none⟩) (Or.inr (Nat.le_succ _)) z⟩)
 have K1:=hid (HT.out W p er a1 hW);have x0:W.cell? ⟨w.heap.size,0,none⟩=some (.pointer (some ⟨r,0,none⟩)):=B0.cell 0;have x1:W.cell? ⟨w.heap.size,1,none⟩=some (.pointer (some ⟨pb,0,none⟩)):=B0.cell 1;have HF:=hid (Fr.refl [r] W);unfold PP at HT K1 ⊢;unfold mH;dsimp only;clear hp hm hs a1 h hW B0 B1 a5 n0 n1 hf;unfold rD at *;generalize tT m s p er=a at *;generalize nP s p er=p1 at *;generalize tN m s p er=e1 at *;have a3:=hid (fun(Y:World) (x:PD w0 r s p1 e1 Y)=>HT.out Y p1 e1 q1.out x);generalize tT m s p1 e1=b at *;generalize nP s p1 e1=p2 at *;generalize tN m s p1 e1=e2 at *;have a7:=hid (fun(Y:World) (x:PD w0 r s p2 e2 Y)=>HT.out Y p2 e2 q2.out x);generalize tT m s p2 e2=c at *;generalize nP s p2 e2=p3 at *;generalize tN m s p2 e2=e3 at *;clear HT;go_enter Tryz.func100,Tryz.ntmps100;go_upto_region 1 with fail;rw[←J.out]
 try rw[hz]
 clear hz J;generalize w.heap.size=bx at *;go_wp2_with fail;refine K1.out.mono ?_;rintro e w2 ⟨rfl,y2,f2⟩;have S3:=hid (SW.new y2 f2 a9.out a6.out 103 #[.string a,.string ⟨#[]⟩,.string ⟨#[]⟩]);clear y2 f2 K1 x0 x1;go_upto_region 2 with fail;generalize w2.alloc (.cells #[.string a,.string ⟨#[]⟩,.string ⟨#[]⟩] 103)=Y at *;generalize w2.heap.size=b3 at *;have x0:Y.cell? ⟨bx,0,none⟩=some (.pointer (some ⟨r,0,none⟩)):=(HB.out _ S3.out.fr).1.cell 0;have x1:Y.cell? ⟨bx,1,none⟩=some (.pointer (some ⟨pb,0,none⟩)):=(HB.out _ S3.out.fr).1.cell 1;have K2:=hid (a3.out Y S3.out.pd);go_wp2_with fail;refine K2.out.mono ?_;rintro e w4 ⟨rfl,y4,f4⟩;have S4:=hid (S3.out.read y4 f4);have c4:=S4.out.bx.cell 1;have g4:=S4.out.bx.free 1;clear y4 f4 K2 x0 x1 S3;go_upto_region 3 with fail;have S5:=hid (S4.out.put 1 (.string b));generalize w4.setCell ⟨b3,1,none⟩ (.string b)=w5 at *;clear c4 g4 S4;have x0:w5.cell? ⟨bx,0,none⟩=some (.pointer (some ⟨r,0,none⟩)):=(HB.out _ S5.out.fr).1.cell 0
 have x1:w5.cell? ⟨bx,1,none⟩=some (.pointer (some ⟨pb,0,none⟩)):=(HB.out _ S5.out.fr).1.cell 1;have K3:=hid (a7.out w5 S5.out.pd);go_wp2_with fail;refine K3.out.mono ?_;rintro e w6 ⟨rfl,y6,f6⟩;have S6:=hid (S5.out.read y6 f6);have c6:=S6.out.bx.cell 2;have g6:=S6.out.bx.free 2;clear y6 f6 K3 x0 x1 S5;go_upto_region 4 with fail;have S7:=hid (S6.out.put 2 (.string c));generalize w6.setCell ⟨b3,2,none⟩ (.string c)=w7 at *;clear c6 g6 S6;have x0:w7.cell? ⟨b3,0,none⟩=some (.string a):=S7.out.bx.cell 0;have x1:w7.cell? ⟨b3,1,none⟩=some (.string b):=S7.out.bx.cell 1;have x2:w7.cell? ⟨b3,2,none⟩=some (.string c):=S7.out.bx.cell 2;have B7:=hid (HB.out _ S7.out.fr).2;have z0:w7.cell? ⟨bx+1,0,none⟩=some (.string ⟨#[]⟩):=B7.out.cell 0;have z1:w7.cell? ⟨bx+1,1,none⟩=some (.string ⟨#[]⟩):=B7.out.cell 1;have z2:w7.cell? ⟨bx+1,2,none⟩=some (.string ⟨#[]⟩):=B7.out.cell 2;have v0:=B7.out.free 0;have v1:=B7.out.free 1
 have v2:=B7.out.free 2;obtain⟨hB,hD,a2⟩:=a0.out w7 p3 e3 b3 _ (.string a) (.string b) (.string c) S7.out;have a8:=hid hB;have aa:=hid hD;have a4:=hid a2;clear hB hD a2 a0;go_wp2_with fail;refine bodyPost_ret (results_cell_row rfl _ _ _ _ _ _ _ rfl a8.out uF rfl (by kernel_rfl)) rfl ?_;exact⟨rfl,aa.out,a4.out⟩
def mO(m:List (List UInt8))(s:ByteArray)(p:Nat)(er:Int):Mk×Nat×Int:=
 (⟨(nV s p er:Nat),tT m s (nP s p er) (nE s p er)⟩,nP s (nP s p er) (nE s p er),tN m s (nP s p er) (nE s p er))
theorem uM:Tryz.prog.underlying 101=some (.struct (Tryz.prog.fieldsOf 101)):=by kernel_rfl
theorem aIf{w0:World}{r pb rb:Nat}{s:ByteArray}{p:Nat}{er:Int}{pA:Option Addr}{pc:Nat}{m:List (List UInt8)}{w:World}(hp:Pl w0 pb pA pc m)(hm:m.length≤1000000)(hs:s.size≤maxLen)(a2:p≤s.size)(h:PD w0 r s p er w)(a5:bV w rb 141 #[.pointer (some ⟨r,0,none⟩),.pointer (some ⟨pb,0,none⟩)])(a4:rb≠r) :
 Calls Tryz.prog 159 #[.pointer (some ⟨rb,0,none⟩)] w (PP w0 r s (.agg #[.int .i64 (mO m s p er).1.at_,.string (mO m s p er).1.tag]) (mO m s p er).2.1 (mO m s p er).2.2 w):=by
 obtain⟨W,Y⟩:∃W,Hid (W=w.alloc (.cells #[.int .i64 0,.string ⟨#[]⟩] 101)):=⟨_,hid rfl⟩;have hW:PD w0 r s p er W:=by rw[Y.out];exact h.alloc _
 have hf:Hid (Fr [] w W):=hid (by rw[Y.out];exact(Fr.refl [] w).alloc _);have B0:bV W rb 141 #[.pointer (some ⟨r,0,none⟩),.pointer (some ⟨pb,0,none⟩)]:=a5.kept hf.out (by simp);have B1:bV W w.heap.size 101 #[.int .i64 0,.string ⟨#[]⟩]:=by rw[Y.out];exact bV.new _ _ _
 have a7:=h.lt;have n1:w.heap.size≠r:=by omega
 have HB:Hid (∀J,Fr [r] W J→bV J rb 141 #[.pointer (some ⟨r,0,none⟩),.pointer (some ⟨pb,0,none⟩)]∧bV J w.heap.size 101 #[.int .i64 0,.string ⟨#[]⟩]):=hid (fun J f=>⟨B0.kept f (by simpa using a4),B1.kept f (by simpa using n1)⟩);have aa:Hid (w0.heap.size≤W.heap.size):=hid hW.be.size;have a8:Hid (r<W.heap.size):=hid hW.lt;have q1:=hid (eB s p er a2)
 have a0:Hid (∀(w8:World) (q:Nat) (e:Int) (b3:Nat) (cs:Array Value) (x y:Value),SW w0 r s q e W 101 b3 cs w8→bV ((w8.setCell ⟨w.heap.size,0,none⟩ x).setCell ⟨w.heap.size,1,none⟩ y) w.heap.size 101 #[x,y]∧PD w0 r s q e ((w8.setCell ⟨w.heap.size,0,none⟩ x).setCell ⟨w.heap.size,1,none⟩ y)∧Fr [r] w ((w8.setCell ⟨w.heap.size,0,none⟩ x).setCell ⟨w.heap.size,1,none⟩ y)):=hid (fun w8 q e b3 cs x y g=>by
  have b:=(HB.out w8 g.fr).2;have l0:w0.heap.size≤w.heap.size:=h.be.size;have fa:Fr [r] w w8:=hf.out.trans g.fr (by simp) (fun x hx=>Or.inl hx)
  exact⟨(b.put 0 x).put 1 y,(g.pd.set n1 l0 0 x).set n1 l0 1 y,(fa.setCell (p:=⟨w.heap.size,0,none⟩) (Or.inr (aY _)) x).setCell (p:=⟨w.heap.size,1,none⟩) (Or.inr (aY _)) y⟩)
 have K1:=hid (gM W r s p er hW.rd hs a2);have HO:Hid (∀J,RD J r s (nP s p er) (nE s p er)→Fr [r] W J→PD w0 r s (nP s p er) (nE s p er) J):=hid (fun J x f=>hW.of f x);have a1:=hid (fun(w3:World) (x:PD w0 r s (nP s p er) (nE s p er) w3)=>fT (pb:=pb) hp hm hs q1.out x);have x0:W.cell? ⟨rb,0,none⟩=some (.pointer (some ⟨r,0,none⟩)):=B0.cell 0;unfold PP at a1 ⊢;unfold jE at K1;unfold mO;dsimp only;clear hp hm hs a2 h hW B0 B1 a7 n1 hf a5 a4;unfold rD at *;generalize nV s p er=a at *;generalize nP s p er=p1 at *;generalize nE s p er=e1 at *;generalize tT m s p1 e1=c at *;generalize nP s p1 e1=p2 at *;generalize tN m s p1 e1=e2 at *;go_enter Tryz.func159,Tryz.ntmps159;go_upto_region 1 with fail;rw[←Y.out];clear Y;generalize w.heap.size=bx at *;go_wp2_with fail;refine K1.out.mono ?_;rintro e J ⟨rfl,y2,f2⟩;have S3:=hid (SW.new (HO.out J y2 f2) f2 aa.out a8.out 101 #[.int .i64 (a:Int),.string ⟨#[]⟩])
 clear y2 f2 K1 x0 HO;go_upto_region 2 with fail;generalize J.alloc (.cells #[.int .i64 (a:Int),.string ⟨#[]⟩] 101)=w3 at *;generalize J.heap.size=b3 at *;have x0:w3.cell? ⟨rb,0,none⟩=some (.pointer (some ⟨r,0,none⟩)):=(HB.out _ S3.out.fr).1.cell 0;have x1:w3.cell? ⟨rb,1,none⟩=some (.pointer (some ⟨pb,0,none⟩)):=(HB.out _ S3.out.fr).1.cell 1;have K2:=hid (a1.out w3 S3.out.pd);go_wp2_with fail;refine K2.out.mono ?_;rintro e w6 ⟨rfl,y6,f6⟩;have S6:=hid (S3.out.read y6 f6);have c6:=S6.out.bx.cell 1;have g6:=S6.out.bx.free 1;clear y6 f6 K2 x0 x1 S3 a1;go_upto_region 3 with fail;have S7:=hid (S6.out.put 1 (.string c));generalize w6.setCell ⟨b3,1,none⟩ (.string c)=w7 at *;clear c6 g6 S6;have x0:w7.cell? ⟨b3,0,none⟩=some (.int .i64 (a:Int)):=S7.out.bx.cell 0;have x1:w7.cell? ⟨b3,1,none⟩=some (.string c):=S7.out.bx.cell 1;have B7:=hid (HB.out _ S7.out.fr).2;have z0:w7.cell? ⟨bx,0,none⟩=some (.int .i64 0):=B7.out.cell 0
 have z1:w7.cell? ⟨bx,1,none⟩=some (.string ⟨#[]⟩):=B7.out.cell 1;have v0:=B7.out.free 0;have v1:=B7.out.free 1;obtain⟨hB,hD,a3⟩:=a0.out w7 p2 e2 b3 _ (.int .i64 (a:Int)) (.string c) S7.out;have a9:=hid hB;have ad:=hid hD;have a6:=hid a3;clear hB hD a3 a0;go_wp2_with fail;refine bodyPost_ret (results_cell_row rfl _ _ _ _ _ _ _ rfl a9.out uM rfl (by kernel_rfl)) rfl ?_;exact⟨rfl,ad.out,a6.out⟩
theorem aK5(s:ByteArray)(p:Nat)(er:Int)(J:p≤s.size):nV s p er≤268435456:=by
 unfold nV;split
 ·omega
 ·by_cases h:(ct s p).2.2=0
  ·exact(aFj s p J h).2
  ·rw[(yG s p h).1];omega
theorem aK0(s:ByteArray)(p:Nat)(er:Int)(J:p≤s.size):(Lit.int .i64 (nV s p er:Nat)).wf=true:=by
 have:=aK5 s p er J;show(decide ((-9223372036854775808:Int)≤(nV s p er:Nat))&&decide (((nV s p er:Nat):Int)≤9223372036854775807))=true;simp only[Bool.and_eq_true,bJ];omega
theorem jO(m:List (List UInt8))(s:ByteArray)(p:Nat)(er:Int)(h:∀x∈m,x.length≤maxLen):(tT m s p er).size≤maxLen:=by
 have h0:(ByteArray.mk #[]).size≤maxLen:=by unfold maxLen;decide
 unfold tT;split
 ·exact h0
 ·rcases J:m[nV s p er]? with _ | x
  ·exact h0
  ·simp only[Option.map_some,Option.getD_some]
   have:=h x (List.mem_of_getElem? J)
   simpa[ByteArray.size] using this
theorem xM(m:List (List UInt8))(s:ByteArray)(h:∀x∈m,x.length≤maxLen):∀(k q:Nat) (e:Int),∀x∈(dX (fD m s) k q e).1,x.size≤maxLen
 | 0,q,e,x,J=>by simp[dX]at J
 | k+1,q,e,x,J=>by
  unfold dX at J;split at J
  ·simp at J
  ·rcases aM.1 J with rfl | J
   ·exact jO m s q e h
   ·exact xM m s h k _ _ x J
def Okp(s:ByteArray){α:Type}(one:Nat→Int→α×Nat×Int):Prop:=∀q e,q≤s.size→e≠6→(one q e).2.1≤s.size∧(one q e).2.2≠6
theorem aD7(m:List (List UInt8))(s:ByteArray):Okp s (fD m s):=fun q e Y J=>⟨eB s q e Y,kX m s q e J⟩
theorem aLs(m:List (List UInt8))(s:ByteArray):Okp s (mO m s):=fun q e Y J=>⟨eB s _ _ (eB s q e Y),kX m s _ _ (pG s q e J)⟩
theorem aLM(m:List (List UInt8))(s:ByteArray):Okp s (mH m s):=fun q e Y J=>⟨eB s _ _ (eB s _ _ (eB s q e Y)),kX m s _ _ (kX m s _ _ (kX m s q e J))⟩
theorem aK4{s:ByteArray}{α:Type}{one:Nat→Int→α×Nat×Int}(h:Okp s one):∀(k q:Nat) (e:Int),q≤s.size→e≠6→(dX one k q e).2.1≤s.size∧(dX one k q e).2.2≠6
 | 0,q,e,hq,he=>⟨hq,he⟩
 | k+1,q,e,hq,he=>by
  unfold dX;split
  ·exact⟨hq,he⟩
  ·exact aK4 h k _ _ (h q e hq he).1 (h q e hq he).2
theorem nJ{s:ByteArray}{α:Type}{one:Nat→Int→α×Nat×Int}(h:Okp s one):Okp s (fun q e=>cK one s q e):=fun q e Y J=>aK4 h _ _ _ (eB s q e Y) (sO s q e J)
theorem aKo{w0:World}{r pb rb:Nat}{s:ByteArray}{p:Nat}{er:Int}{pA:Option Addr}{pc:Nat}{m:List (List UInt8)}{w:World}(hp:Pl w0 pb pA pc m)(hm:m.length≤1000000)(Y:∀x∈m,x.length≤maxLen)(hs:s.size≤maxLen)(J:p≤s.size)(h:PD w0 r s p er w)(a0:bV w rb 141 #[.pointer (some ⟨r,0,none⟩),.pointer (some ⟨pb,0,none⟩)])(a1:rb≠r) :
 Calls Tryz.prog 159 #[.pointer (some ⟨rb,0,none⟩)] w (OP EMk (fun m:Mk=>m) r (PD w0 r s) (mO m s p er).1 (mO m s p er).2.1 (mO m s p er).2.2 w):=
 (aIf hp hm hs J h a0 a1).mono (fun e w' x=>⟨(mO m s p er).1,x.1,rfl,x.2.1,x.2.2,⟨jO m s _ _ Y,aK0 s p er J⟩,fun x hx=>by cases hx⟩)
theorem aMy{w0:World}{r pb:Nat}{s:ByteArray}{p:Nat}{er:Int}{pA:Option Addr}{pc:Nat}{m:List (List UInt8)}{w:World}(hp:Pl w0 pb pA pc m)(hm:m.length≤1000000)(J:∀x∈m,x.length≤maxLen)(hs:s.size≤maxLen)(Y:p≤s.size)(h:PD w0 r s p er w) :
 Calls Tryz.prog 100 #[rD r pb] w (OP EFn (fun m:SF=>m) r (PD w0 r s) (mH m s p er).1 (mH m s p er).2.1 (mH m s p er).2.2 w):=
 (aLg hp hm hs Y h).mono (fun e w' x=>⟨(mH m s p er).1,x.1,rfl,x.2.1,x.2.2,⟨jO m s _ _ J,jO m s _ _ J,jO m s _ _ J⟩,fun x hx=>by cases hx⟩)
def sV(m:List (List UInt8))(s:ByteArray)(p:Nat)(er:Int):SO×Nat×Int:=
 (⟨tT m s p er,tT m s (nP s p er) (tN m s p er),(cK (mO m s) s (nP s (nP s p er) (tN m s p er)) (tN m s (nP s p er) (tN m s p er))).1⟩,
  (cK (mO m s) s (nP s (nP s p er) (tN m s p er)) (tN m s (nP s p er) (tN m s p er))).2)
def kY(m:List (List UInt8))(s:ByteArray)(p:Nat)(er:Int):SC×Nat×Int:=
 let Y:=nP s p er
 let J:=nE s p er
 let p2:=nP s Y J
 let e2:=tN m s Y J
 let p3:=nP s p2 e2
 let e3:=tN m s p2 e2
 let p4:=nP s p3 e3
 let e4:=nE s p3 e3
 let p5:=nP s p4 e4
 let e5:=tN m s p4 e4
 (⟨(nV s p er:Nat),tT m s Y J,tT m s p2 e2,(nV s p3 e3:Nat),tT m s p4 e4,(cK (fD m s) s p5 e5).1⟩,(cK (fD m s) s p5 e5).2)
theorem aLZ(m:List (List UInt8))(s:ByteArray):Okp s (sV m s):=fun q e Y J=>nJ (aLs m s) _ _ (eB s _ _ (eB s q e Y)) (kX m s _ _ (kX m s q e J))
theorem aLR(m:List (List UInt8))(s:ByteArray):Okp s (kY m s):=fun q e Y J=>nJ (aD7 m s) _ _ (eB s _ _ (eB s _ _ (eB s _ _ (eB s _ _ (eB s q e Y))))) (kX m s _ _ (pG s _ _ (kX m s _ _ (kX m s _ _ (pG s q e J)))))
theorem uO:Tryz.prog.underlying 99=some (.struct (Tryz.prog.fieldsOf 99)):=by kernel_rfl
theorem aLi{w0:World}{r pb:Nat}{s:ByteArray}{p:Nat}{er:Int}{pA:Option Addr}{pc:Nat}{m:List (List UInt8)}{w:World}(hp:Pl w0 pb pA pc m)(hm:m.length≤1000000)(a6:∀x∈m,x.length≤maxLen)(hs:s.size≤maxLen)(aa:p≤s.size)(af:er≠6)(h:PD w0 r s p er w) :
 Calls Tryz.prog 98 #[rD r pb] w (OP zG MO.o r (PD w0 r s) (sV m s p er).1 (sV m s p er).2.1 (sV m s p er).2.2 w):=by
 obtain⟨W,a0⟩:∃W,Hid (W=(w.alloc (.cells #[.pointer (some ⟨r,0,none⟩),.pointer (some ⟨pb,0,none⟩)] 141)).alloc (.cells #[.string ⟨#[]⟩,.string ⟨#[]⟩,.slice none 0 0] 99)):=⟨_,hid rfl⟩;have hz:(w.alloc (.cells #[.pointer (some ⟨r,0,none⟩),.pointer (some ⟨pb,0,none⟩)] 141)).heap.size=w.heap.size+1:=bH _;have hW:PD w0 r s p er W:=by rw[a0.out];exact(h.alloc _).alloc _
 have hf:Hid (Fr [] w W):=hid (by rw[a0.out];exact((Fr.refl [] w).alloc _).alloc _);have B0:bV W w.heap.size 141 #[.pointer (some ⟨r,0,none⟩),.pointer (some ⟨pb,0,none⟩)]:=by rw[a0.out];exact(bV.new w _ _).kept ((Fr.refl [] _).alloc _) (by simp)
 have B1:bV W (w.heap.size+1) 99 #[.string ⟨#[]⟩,.string ⟨#[]⟩,.slice none 0 0]:=by rw[a0.out,←hz];exact bV.new _ _ _
 have ay:=h.lt;have n0:w.heap.size≠r:=by omega
 have n1:w.heap.size+1≠r:=by omega
 have HB:Hid (∀J,Fr [r] W J→bV J w.heap.size 141 #[.pointer (some ⟨r,0,none⟩),.pointer (some ⟨pb,0,none⟩)]∧bV J (w.heap.size+1) 99 #[.string ⟨#[]⟩,.string ⟨#[]⟩,.slice none 0 0]):=hid (fun J f=>⟨B0.kept f (by simpa using n0),B1.kept f (by simpa using n1)⟩);have HT:=hid (fun(J:World) (q:Nat) (e:Int) (hq:q≤s.size) (x:PD w0 r s q e J)=>fT (pb:=pb) hp hm hs hq x);have HN:=hid (fun(J:World) (q:Nat) (e:Int) (hq:q≤s.size) (x:PD w0 r s q e J)=>gM J r s q e x.rd hs hq);have am:Hid (w0.heap.size≤W.heap.size):=hid hW.be.size;have au:Hid (r<W.heap.size):=hid hW.lt;have q1:=hid (eB s p er aa);have q2:=hid (eB s (nP s p er) (tN m s p er) q1.out);have e1:=kX m s p er af;have ap:=hid (kX m s (nP s p er) (tN m s p er) e1)
 have a7:Hid (∀(w8:World) (q:Nat) (e:Int) (Y:Nat) (cs:Array Value) (x y z:Value),SW w0 r s q e W 99 Y cs w8→bV ((((w8).setCell ⟨w.heap.size+1,0,none⟩ x).setCell ⟨w.heap.size+1,1,none⟩ y).setCell ⟨w.heap.size+1,2,none⟩ z) (w.heap.size+1) 99 #[x,y,z]∧PD w0 r s q e ((((w8).setCell ⟨w.heap.size+1,0,none⟩ x).setCell ⟨w.heap.size+1,1,none⟩ y).setCell ⟨w.heap.size+1,2,none⟩ z)∧Fr [r] w ((((w8).setCell ⟨w.heap.size+1,0,none⟩ x).setCell ⟨w.heap.size+1,1,none⟩ y).setCell ⟨w.heap.size+1,2,none⟩ z)∧Fr [w.heap.size+1] w8 ((((w8).setCell ⟨w.heap.size+1,0,none⟩ x).setCell ⟨w.heap.size+1,1,none⟩ y).setCell ⟨w.heap.size+1,2,none⟩ z)):=hid (fun w8 q e Y cs x y z g=>by
  have b:=(HB.out w8 g.fr).2;have l0:w0.heap.size≤w.heap.size+1:=aZ h.be.size (Nat.le_succ _);have fa:Fr [r] w w8:=hf.out.trans g.fr (by simp) (fun x hx=>Or.inl hx)
  exact⟨(((b).put 0 x).put 1 y).put 2 z,(((g.pd).set n1 l0 0 x).set n1 l0 1 y).set n1 l0 2 z,(((fa).setCell (p:=⟨w.heap.size+1,0,none⟩) (Or.inr (Nat.le_succ _)) x).setCell (p:=⟨w.heap.size+1,1,none⟩) (Or.inr (Nat.le_succ _)) y).setCell (p:=⟨w.heap.size+1,2,none⟩) (Or.inr (Nat.le_succ _)) z,((((Fr.refl [w.heap.size+1] w8)).setCell (p:=⟨w.heap.size+1,0,none⟩) (Or.inl (by simp)) x).setCell (p:=⟨w.heap.size+1,1,none⟩) (Or.inl (by simp)) y).setCell (p:=⟨w.heap.size+1,2,none⟩) (Or.inl (by simp)) z⟩)
 have K1:=hid (HT.out W p er aa hW);have x0:W.cell? ⟨w.heap.size,0,none⟩=some (.pointer (some ⟨r,0,none⟩)):=B0.cell 0;have x1:W.cell? ⟨w.heap.size,1,none⟩=some (.pointer (some ⟨pb,0,none⟩)):=B0.cell 1;have ag:Hid (∀(J:World) (q:Nat) (e:Int),q≤s.size→e≠6→PD w0 r s q e J→Fr [r] W J→Calls Tryz.prog 158 #[rD r pb,.func (.func 159) #[] #[.pointer (some ⟨w.heap.size,0,none⟩)]] J (wN EMk 2 (fun m:Mk=>m) r (PD w0 r s) 101 (cK (mO m s) s q e).1 (cK (mO m s) s q e).2.1 (cK (mO m s) s q e).2.2 J)):=hid (fun J q e hq he x f=>aJ9 hs hq x he (hid (aLs m s)) (hid (fun w3 q3 e3 ax az x3 f3=>aKo hp hm a6 hs ax x3 ((HB.out J f).1.kept f3 (by simpa using n0)) n0)));have sa:Hid ((tT m s p er).size≤maxLen):=hid (jO m s _ _ a6);have sb:Hid ((tT m s (nP s p er) (tN m s p er)).size≤maxLen):=hid (jO m s _ _ a6);have ah:Hid (w.heap.size+1<W.heap.size):=hid B1.lt
 unfold PP at HT K1;unfold OP sV;dsimp only;clear hp hm a6 hs aa h hW B0 B1 ay n0 n1 hf af e1 HN;unfold rD at *;generalize tT m s p er=a at *;generalize nP s p er=p1 at *;generalize tN m s p er=e1 at *;have ar:=hid (fun(w3:World) (x:PD w0 r s p1 e1 w3)=>HT.out w3 p1 e1 q1.out x);generalize tT m s p1 e1=b at *;generalize nP s p1 e1=p2 at *;generalize tN m s p1 e1=e2 at *;have av:=hid (fun(w3:World) (x:PD w0 r s p2 e2 w3) (f:Fr [r] W w3)=>ag.out w3 p2 e2 q2.out ap.out x f);generalize (cK (mO m s) s p2 e2).1=L at *;generalize (cK (mO m s) s p2 e2).2.1=p3 at *;generalize (cK (mO m s) s p2 e2).2.2=e3 at *;clear HT ag;go_enter Tryz.func98,Tryz.ntmps98;go_upto_region 1 with fail;rw[←a0.out]
 try rw[hz]
 clear hz a0;generalize ad:w.heap.size=bx at *;replace ad:=hid ad;go_wp2_with fail;refine K1.out.mono ?_;rintro e J ⟨rfl,y2,f2⟩;have S3:=hid (SW.new y2 f2 am.out au.out 99 #[.string a,.string ⟨#[]⟩,.slice none 0 0]);clear y2 f2 K1 x0 x1;go_upto_region 2 with fail;generalize J.alloc (.cells #[.string a,.string ⟨#[]⟩,.slice none 0 0] 99)=w3 at *;generalize J.heap.size=Y at *;have x0:w3.cell? ⟨bx,0,none⟩=some (.pointer (some ⟨r,0,none⟩)):=(HB.out _ S3.out.fr).1.cell 0;have x1:w3.cell? ⟨bx,1,none⟩=some (.pointer (some ⟨pb,0,none⟩)):=(HB.out _ S3.out.fr).1.cell 1;have K2:=hid (ar.out w3 S3.out.pd);go_wp2_with fail;refine K2.out.mono ?_;rintro e w4 ⟨rfl,y4,f4⟩;have S4:=hid (S3.out.read y4 f4);have c4:=S4.out.bx.cell 1;have g4:=S4.out.bx.free 1;clear y4 f4 K2 x0 x1 S3;go_upto_region 3 with fail;have S5:=hid (S4.out.put 1 (.string b));generalize w4.setCell ⟨Y,1,none⟩ (.string b)=w5 at *
 clear c4 g4 S4;have x0:w5.cell? ⟨bx,0,none⟩=some (.pointer (some ⟨r,0,none⟩)):=(HB.out _ S5.out.fr).1.cell 0;have x1:w5.cell? ⟨bx,1,none⟩=some (.pointer (some ⟨pb,0,none⟩)):=(HB.out _ S5.out.fr).1.cell 1;have K3:=hid (av.out w5 S5.out.pd S5.out.fr);have ao:=hid (show Y<w5.heap.size from S5.out.bx.lt);unfold wN at K3;go_wp2_with fail;refine K3.out.mono ?_;rintro e w6 ⟨A,cap,bs,hL,rfl,ai,y6,f6,ae,a9⟩;have S6:=hid (S5.out.read y6 f6);have c6:=S6.out.bx.cell 2;have g6:=S6.out.bx.free 2
 have a8:Hid (∀W9,Fr [Y,bx+1] w6 W9→PD w0 r s p3 e3 W9→Fr [r] w W9→∃x:MO,(Ending.returned (.agg #[.string a,.string b,.slice A bs.length cap]):Ending)=.returned (.agg (zG.row x).toArray)∧MO.o x=(⟨a,b,L⟩:SO)∧PD w0 r s p3 e3 W9∧Fr [r] w W9∧zG.ok W9 x∧∀y∈zG.bl x,bx≤y):=hid (by
  intro W9 f9 d9 r9;have n9:∀g∈blk A,g∉[Y,bx+1]:=fun g hg h1=>by
   have a1:=ae g hg;have a2:=ao.out;have a3:=ah.out;have a4:=S5.out.fr.size;simp only[aM,aT,or_false]at h1;omega
  have a5:=ai.kept f9 n9;refine⟨⟨⟨a,b,bs⟩,A,cap⟩,rfl,by rw[←hL,List.map_id'],d9,r9,⟨⟨sa.out,sb.out,yC (f:=tZ) (fun _=>rfl) (by decide) a5,aZ a5.le a5.max,fun x hx=>(a9 x hx).1.1,fun x hx=>(a9 x hx).1.2,a5.le⟩,fun g hg=>a5.lt g hg⟩,fun y hy=>?_⟩;have a1:=ae y hy;have a4:=S5.out.fr.size;have a3:=ah.out
  omega)
 clear y6 f6 K3 x0 x1 S5 ai ae a9 hL sa sb;generalize bs.length=z at *;go_upto_region 4 with fail;have S7:=hid (S6.out.put 2 (.slice A z cap));have F7:Hid (Fr [Y,bx+1] w6 (w6.setCell ⟨Y,2,none⟩ (.slice A z cap))):=hid ((Fr.refl [Y,bx+1] w6).setCell (p:=⟨Y,2,none⟩) (Or.inl (by simp)) _);generalize w6.setCell ⟨Y,2,none⟩ (.slice A z cap)=w7 at *;clear c6 g6 S6;have x0:w7.cell? ⟨Y,0,none⟩=some (.string a):=S7.out.bx.cell 0;have x1:w7.cell? ⟨Y,1,none⟩=some (.string b):=S7.out.bx.cell 1;have x2:w7.cell? ⟨Y,2,none⟩=some (.slice A z cap):=S7.out.bx.cell 2;have B7:=hid (HB.out _ S7.out.fr).2;have z0:w7.cell? ⟨bx+1,0,none⟩=some (.string ⟨#[]⟩):=B7.out.cell 0;have z1:w7.cell? ⟨bx+1,1,none⟩=some (.string ⟨#[]⟩):=B7.out.cell 1;have z2:w7.cell? ⟨bx+1,2,none⟩=some (.slice none 0 0):=B7.out.cell 2;have v0:=B7.out.free 0;have v1:=B7.out.free 1;have v2:=B7.out.free 2;obtain⟨hB,hD,aj,ak⟩:=a7.out w7 p3 e3 Y _ (.string a) (.string b) (.slice A z cap) S7.out
 have aw:=hid hB;have HX:=hid (a8.out _ (F7.out.trans ak (fun x hx=>Or.inl hx) (fun x hx=>Or.inl (by simp only[aD]at hx;subst hx;simp))) hD aj);clear hB hD aj ak a7 a8;go_wp2_with fail;refine bodyPost_ret (results_cell_row rfl _ _ _ _ _ _ _ rfl aw.out uO rfl (by kernel_rfl)) rfl ?_;rw[ad.out];exact HX.out
def yI(m:List (List UInt8))(s:ByteArray):List ByteArray×Nat×Int:=cK (fD m s) s (nP s 0 0) (tN m s 0 0)
def xV(m:List (List UInt8))(s:ByteArray):List ByteArray×Nat×Int:=cK (fD m s) s (yI m s).2.1 (yI m s).2.2
def rZ(m:List (List UInt8))(s:ByteArray):List ByteArray×Nat×Int:=cK (fD m s) s (xV m s).2.1 (xV m s).2.2
def tF(m:List (List UInt8))(s:ByteArray):List SO×Nat×Int:=cK (sV m s) s (rZ m s).2.1 (rZ m s).2.2
def kK(m:List (List UInt8))(s:ByteArray):List SF×Nat×Int:=cK (mH m s) s (tF m s).2.1 (tF m s).2.2
def sW(m:List (List UInt8))(s:ByteArray):List SC×Nat×Int:=cK (kY m s) s (kK m s).2.1 (kK m s).2.2
def oL(m:List (List UInt8))(s:ByteArray):Int:=dE s (sW m s).2.1 (sW m s).2.2
def rdA(m:List (List UInt8))(s:ByteArray):SU:=⟨tT m s 0 0,(yI m s).1,(xV m s).1,(rZ m s).1,⟨(tF m s).1,(kK m s).1,(sW m s).1⟩⟩
def su0:SU:=⟨⟨#[]⟩,[],[],[],⟨[],[],[]⟩⟩
def kJ(m:List (List UInt8))(s:ByteArray):SU:=if oL m s=0 then rdA m s else su0
def RDP(S:SU)(er:Int)(w:World)(e:Ending)(w':World):Prop:=∃u:MU,e=.returned (.tuple #[u.val,.int .i64 er])∧u.su=S∧gH w' u∧Below w.heap.size w w'
theorem aFQ(m:List (List UInt8))(s:ByteArray):nP s 0 0≤s.size∧tN m s 0 0≠6:=aD7 m s 0 0 (bA _) (by decide)
theorem aGT(m:List (List UInt8))(s:ByteArray):(yI m s).2.1≤s.size∧(yI m s).2.2≠6:=nJ (aD7 m s) _ _ (aFQ m s).1 (aFQ m s).2
theorem aGz(m:List (List UInt8))(s:ByteArray):(xV m s).2.1≤s.size∧(xV m s).2.2≠6:=nJ (aD7 m s) _ _ (aGT m s).1 (aGT m s).2
theorem aDf(m:List (List UInt8))(s:ByteArray):(rZ m s).2.1≤s.size∧(rZ m s).2.2≠6:=nJ (aD7 m s) _ _ (aGz m s).1 (aGz m s).2
theorem aDq(m:List (List UInt8))(s:ByteArray):(tF m s).2.1≤s.size∧(tF m s).2.2≠6:=nJ (aLZ m s) _ _ (aDf m s).1 (aDf m s).2
theorem aCS(m:List (List UInt8))(s:ByteArray):(kK m s).2.1≤s.size∧(kK m s).2.2≠6:=nJ (aLM m s) _ _ (aDq m s).1 (aDq m s).2
theorem aMt(m:List (List UInt8))(s:ByteArray):(sW m s).2.1≤s.size∧(sW m s).2.2≠6:=nJ (aLR m s) _ _ (aCS m s).1 (aCS m s).2
structure LL{β:Type}(E:El β)(sz:Nat)(e:TypeId)(lo:Nat)(A:Option Addr)(cap:Nat)(bs:List β)(w:World):Prop where
 sg:Sg sz w e A cap bs.length (bs.flatMap E.row)
 nw:∀x∈blk A,lo≤x
 ok:∀b∈bs,E.ok w b∧∀x∈E.bl b,lo≤x
theorem LL.kept{β:Type}{E:El β}{sz:Nat}{e:TypeId}{lo:Nat}{A:Option Addr}{cap:Nat}{bs:List β}{w w':World}{F:List Nat}(G:E.Good sz)(h:LL E sz e lo A cap bs w)(f:Fr F w w')(hF:∀x∈F,x<lo):LL E sz e lo A cap bs w':=
 ⟨h.sg.kept f (fun x J Y=>by have:=h.nw x J;have:=hF x Y;omega),h.nw,fun b hb=>⟨G.kept (h.ok b hb).1 f (fun x J Y=>by have:=(h.ok b hb).2 x J;have:=hF x Y;omega),(h.ok b hb).2⟩⟩
structure TL1(lo:Nat)(A:Option Addr)(cap:Nat)(xs:List ByteArray)(w:World):Prop where
 rd:Rd w A (xs.map Value.string)
 nw:∀x∈blk A,lo≤x
theorem TL1.kept{lo:Nat}{A:Option Addr}{cap:Nat}{xs:List ByteArray}{w w':World}{F:List Nat}(h:TL1 lo A cap xs w)(f:Fr F w w')(hF:∀x∈F,x<lo):TL1 lo A cap xs w':=
 ⟨h.rd.kept f (fun x J Y=>by have:=h.nw x J;have:=hF x Y;omega),h.nw⟩
theorem aHn{lo:Nat}{gA wA kA oA fA cA:Option Addr}{gc wc kc oc fc cc:Nat}{g w k:List ByteArray}{os:List MO}{fs:List SF}{cs:List MC}{eO eF eC:TypeId}{W:World}(n:ByteArray)(hg:TL1 lo gA gc g W)(hw:TL1 lo wA wc w W)(hk:TL1 lo kA kc k W)(Y:LL zG 3 eO lo oA oc os W)(hf:LL EFn 3 eF lo fA fc fs W)(hc:LL zR 6 eC lo cA cc cs W) :
 gH W ⟨n,gA,gc,g,wA,wc,w,kA,kc,k,⟨oA,oc,os,fA,fc,fs,cA,cc,cs⟩⟩:=
 ⟨hg.rd,hw.rd,hk.rd,⟨yC (f:=MO.row) (fun _=>rfl) (by decide) Y.sg,yC (f:=lF) (fun _=>rfl) (by decide) hf.sg,yC (f:=MC.row) (fun _=>rfl) (by decide) hc.sg,fun x J=>(Y.ok x J).1.1,fun x J=>(hf.ok x J).1,fun x J=>(hc.ok x J).1.1,aZ Y.sg.le Y.sg.max,aZ hf.sg.le hf.sg.max,aZ hc.sg.le hc.sg.max⟩⟩
theorem wN.ll{α β:Type}{E:El β}{sz:Nat}{pr:β→α}{r:Nat}{D:Nat→Int→World→Prop}{e:TypeId}{L:List α}{q:Nat}{eq:Int}{w w':World}{en:Ending}{lo:Nat}(h:wN E sz pr r D e L q eq w en w')(hl:lo≤w.heap.size):∃A cap bs,bs.map pr=L∧en=.returned (.slice A bs.length cap)∧LL E sz e lo A cap bs w'∧D q eq w'∧Fr [r] w w':=by
 obtain⟨A,cap,bs,h1,h2,h3,h4,h5,h6,Y⟩:=h;exact⟨A,cap,bs,h1,h2,⟨h3,fun x J=>aZ hl (h6 x J),fun b hb=>⟨(Y b hb).1,fun x J=>aZ hl ((Y b hb).2 x J)⟩⟩,h4,h5⟩
theorem LP.tl{w0:World}{r:Nat}{s:ByteArray}{e:TypeId}{n:Nat}{xs:List ByteArray}{q:Nat}{eq:Int}{w w':World}{J:Ending}{lo:Nat}(h:LP w0 r s e n (xs.map Value.string) q eq w J w')(hl:lo≤w.heap.size):∃A cap,J=.returned (.slice A n cap)∧TL1 lo A cap xs w'∧PD w0 r s q eq w'∧Fr [r] w w':=by
 obtain⟨A,cap,h1,Y,h3,h4,h5⟩:=h;exact⟨A,cap,h1,⟨Y.rd,fun x hx=>aZ hl (h5 x hx)⟩,h3,h4⟩
end re
namespace sf
open RowKit Go.Sort Shelf mem sy
noncomputable def pB(P:Prop):Bool:=@decide P (Classical.propDecidable P)
theorem aDT{P:Prop}:pB P=true↔P:=by unfold pB;exact @decide_eq_true_iff P (Classical.propDecidable P)
theorem aK1{P:Prop}(h:¬P):pB P=false:=by
 rcases hb:pB P with _ | _
 ·rfl
 ·exact absurd (aDT.1 hb) h
def EqP(P:Prop)(w:World)(e:Ending)(w':World):Prop:=e=.returned (.bool (pB P))∧Below w.heap.size w w'
theorem aHH{P:Prop}{w w':World}(h:¬P)(b:Below w.heap.size w w'):EqP P w (.returned (.bool false)) w':=⟨by rw[aK1 h],b⟩
theorem aFl{P:Prop}{w w':World}(h:P)(b:Below w.heap.size w w'):EqP P w (.returned (.bool true)) w':=⟨by rw[aDT.2 h],b⟩
theorem aLy{a b:ByteArray}(h:¬a=b):(a.toList==b.toList)=false:=by
 rw[bI];exact fun e=>h (aBi e)
end sf
end Go.Proofs.YtdmmkjijgoiecaaGreatDoor
