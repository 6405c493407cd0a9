import Derived.Deep.CutBlock
import Derived.Test.YtdmmkjijgoiecaaGreatDoorY45
set_option linter.all false
set_option maxHeartbeats 4000000
namespace Go.Proofs.YtdmmkjijgoiecaaGreatDoor
open Lib(hid)
set_option maxRecDepth 100000
set_option maxHeartbeats 8000000
namespace re
open RowKit Shelf mem sy vr po
theorem aGQ{P:Program}{sz:Nat}{w:World}{ops:Array Oper}{o:Oper}{a:Act}{K:Act→World→Prop}{Q:Exit→Act→World→Prop}{E:Prop}(a2:o.guard=none)(s x:Operand)(t:TypeId)
 (ho:o.op=.call { callee:=.builtin .append,args:=#[s,x],argTypes:=#[t,t] }) {e:TypeId} {A:Option Addr} {cap n bytes:Nat} {cs us:List Value} {i:TypeInfo} {z:Value} (h:Sg sz w e A cap n cs) (ht:P.underlying t=some (.slice e)) (hi:P.info? e=some i) (hz:i.zero=some z) (hs:i.size=sz) (hb:i.bytes=bytes) (a3:z.cells.size=sz)
 {ad:Addr} (a0:a.eval s=.slice A n cap) (hex:a.eval x=.slice (some ad) 1 1) (hl:us.length=sz) (hu:∀j v,us[j]? = some v→w.cell? (ad.add j)=some v) (h1:∀u∈us,u.oneCell'=true) (a4:n+1≤9223372036854775807) (a1:(n+1) * bytes≤140737488355328)
 (hK:∀Y J w',Sg sz w' e Y J (n+1) (cs++us)→Fr (blk A) w w'→(blk Y=blk A∨blk Y=[w.heap.size])→K (a.put o.dst (.slice Y (n+1) J)) w') :
 if Region.wanted o (yielded ops a.tmps)=true then Oper.wp P o a w K Q else E:=by
 have hw:Region.wanted o (yielded ops a.tmps)=true:=by simp[Region.wanted,a2]
 rw[if_pos hw];obtain⟨Y,J,w',hr,h2,h3,h4⟩:=h.push (ty:=o.type) ht hi hz hs hb a3 hl hu h1 a4 a1;unfold Oper.wp execOp;simp only[ho,resolve,invoke,builtin,Sem.run_bind,Sem.run_pure,Result.andThen_ok,List.map_toArray,aV,aU,a0,hex,hr];exact hK _ _ _ h2 h3 h4
theorem LL.tl{e:TypeId}{lo:Nat}{A:Option Addr}{cap:Nat}{xs:List ByteArray}{w:World}(h:LL ETx 1 e lo A cap xs w):TL1 lo A cap xs w:=
 ⟨aLx (yC (f:=fun s:ByteArray=>[Value.string s]) (fun _=>rfl) (by decide) h.sg),h.nw⟩
theorem jP.ll{β:Type}{E:El β}{sz:Nat}{F:List Nat}{D:Nat→Int→World→Prop}{p:Nat}{er:Int}{W w:World}{e:TypeId}{A:Option Addr}{cap lo:Nat}{xs:List β}(h:jP E sz F D p er W e A cap xs w)(hl:lo≤W.heap.size):LL E sz e lo A cap xs w:=
 ⟨h.sg,fun x J=>aZ hl (h.nw x J),fun b hb=>⟨(h.ok b hb).1,fun x J=>aZ hl ((h.ok b hb).2 x J).1⟩⟩
theorem aEc{s:ByteArray}{pA:Option Addr}{pc:Nat}{m:List (List UInt8)}{w:World}(hp:Rd w pA (m.map encStr))(hm:m.length≤1000000)(bh:∀x∈m,x.length≤maxLen)(hs:s.size≤maxLen) :
 Calls Tryz.prog 52 #[.slice pA m.length pc,.string s] w (aGi (kJ m s) (oL m s) w):=by
 obtain⟨W1,bc⟩:∃W1,Hid (W1=w.alloc (.cells #[.string ⟨#[]⟩,.slice none 0 0,.slice none 0 0,.slice none 0 0,.slice none 0 0,.slice none 0 0,.slice none 0 0] 29)):=⟨_,hid rfl⟩;obtain⟨r,hr⟩:∃r,Hid (r=W1.heap.size):=⟨_,hid rfl⟩;obtain⟨x,hx⟩:∃x,Hid (x=W1.heap.size+1):=⟨_,hid rfl⟩;obtain⟨J,br⟩:∃J,Hid (J=W1.heap.size+1+1):=⟨_,hid rfl⟩;obtain⟨W2,bb⟩:∃W2,Hid (W2=W1.alloc (.cells #[.string s,.int .i64 0,.int .i64 0] 81)):=⟨_,hid rfl⟩;obtain⟨W3,bj⟩:∃W3,Hid (W3=W2.alloc (.cells #[.slice pA m.length pc,.pointer (some ⟨r,0,none⟩)] 153)):=⟨_,hid rfl⟩;obtain⟨W,bm⟩:∃W,Hid (W=W3.alloc (.cells #[.string ⟨#[]⟩,.slice none 0 0,.slice none 0 0,.slice none 0 0,.slice none 0 0,.slice none 0 0,.slice none 0 0] 29)):=⟨_,hid rfl⟩;have z1:W1.heap.size=w.heap.size+1:=by rw[bc.out];exact bH _
 have z2:W2.heap.size=w.heap.size+2:=by rw[bb.out];show(W1.heap.push _).size=_;rw[bH,z1]
 have z3:W3.heap.size=w.heap.size+3:=by rw[bj.out];show(W2.heap.push _).size=_;rw[bH,z2]
 have z4:W.heap.size=w.heap.size+4:=by rw[bm.out];show(W3.heap.push _).size=_;rw[bH,z3]
 have df:Fr [] w W1:=by rw[bc.out];exact(Fr.refl [] w).alloc _
 have cq:Fr [] W1 W2:=by rw[bb.out];exact(Fr.refl [] W1).alloc _
 have c6:Fr [] W2 W3:=by rw[bj.out];exact(Fr.refl [] W2).alloc _
 have eb:Fr [] W3 W:=by rw[bm.out];exact(Fr.refl [] W3).alloc _
 have cx:Below w.heap.size w W3:=by
  have f1:Fr [] w W2:=df.trans cq (fun x hx=>Or.inl hx) (fun x hx=>Or.inl hx);have f:Fr [] w W3:=f1.trans c6 (fun x hx=>Or.inl hx) (fun x hx=>Or.inl hx);exact f.below (by simp) (aY _)
 have dk:QD w x r pA pc m s 0 0 W3:=by
  refine⟨⟨?_⟩,?_,cx,by rw[hr.out];omega,by rw[hr.out,hx.out];omega⟩
  ·have b:bV W2 r 81 #[.string s,.int .i64 0,.int .i64 0]:=by rw[bb.out,hr.out];exact bV.new _ _ _
   exact b.kept c6 (by simp)
  ·have e:x=W2.heap.size:=by rw[hx.out,z2,z1]
   rw[bj.out,e];exact bV.new _ _ _
 have B1:bV W3 w.heap.size 29 #[.string ⟨#[]⟩,.slice none 0 0,.slice none 0 0,.slice none 0 0,.slice none 0 0,.slice none 0 0,.slice none 0 0]:=by
  have b:bV W1 w.heap.size 29 #[.string ⟨#[]⟩,.slice none 0 0,.slice none 0 0,.slice none 0 0,.slice none 0 0,.slice none 0 0,.slice none 0 0]:=by rw[bc.out];exact bV.new _ _ _
  exact(b.kept cq (by simp)).kept c6 (by simp)
 have HR:=hid (aCa w x r pA pc m s)
 have S0:Hid (wM (QD w x r pA pc m s) [r] 0 0 W3 29 J #[.string ⟨#[]⟩,.slice none 0 0,.slice none 0 0,.slice none 0 0,.slice none 0 0,.slice none 0 0,.slice none 0 0] W):=hid (by
  have h:=wM.new (aCa w x r pA pc m s) dk (Fr.refl [r] W3) (by have:=hr.out;simp;omega) 29 #[.string ⟨#[]⟩,.slice none 0 0,.slice none 0 0,.slice none 0 0,.slice none 0 0,.slice none 0 0,.slice none 0 0];have e:W3.heap.size=J:=by rw[br.out,z3,z1]
  rw[←bm.out,e]at h
  exact h)
 have HB:Hid (∀w2,Fr [r] W3 w2→bV w2 w.heap.size 29 #[.string ⟨#[]⟩,.slice none 0 0,.slice none 0 0,.slice none 0 0,.slice none 0 0,.slice none 0 0,.slice none 0 0]):=hid (fun w2 f=>B1.kept f (by have:=hr.out;simp;omega))
 have a0:Hid (x+1≤W3.heap.size∧r<J∧x<J∧w.heap.size<r∧J=W3.heap.size∧w.heap.size<J):=hid (by
  have a1:=hr.out;have a2:=hx.out;have a3:=br.out
  omega)
 have bg:Hid (∀q e w2,QD w x r pA pc m s q e w2→w2.cell? ⟨x,0,none⟩=some (.slice pA m.length pc)∧w2.cell? ⟨x,1,none⟩=some (.pointer (some ⟨r,0,none⟩))∧w2.cell? ⟨r,2,none⟩=some (.int .i64 e)):=hid (fun q e w2 d=>d.cells);have e7:Hid (∀q e w2,QD w x r pA pc m s q e w2→Below w.heap.size w w2):=hid (fun q e w2 d=>d.be);have ec:Hid (∀q e w2,QD w x r pA pc m s q e w2→QD w x r pA pc m s q e w2.drew):=hid (fun q e w2 d=>d.kept (G:=[]) ((Fr.refl [] w2).drew) (by simp));have HT:Hid (∀(w2:World) (q:Nat) (e:Int),q≤s.size→e≠6→QD w x r pA pc m s q e w2→Calls Tryz.prog 104 #[.pointer (some ⟨x,0,none⟩)] w2 (QPP (QD w x r pA pc m s) r (.string (tT m s q e)) (nP s q e) (tN m s q e) w2)):=hid (fun w2 q e hq he d=>yH hp hm hs hq he d);have HN:Hid (∀(w2:World) (q:Nat) (e:Int),q≤s.size→QD w x r pA pc m s q e w2→Calls Tryz.prog 48 #[.pointer (some ⟨r,0,none⟩)] w2 (QPP (QD w x r pA pc m s) r (.int .i64 (nV s q e)) (nP s q e) (nE s q e) w2)):=hid (fun w2 q e hq d=>(jZ w2 r s q e d.rr hs hq).mono (fun e w' k=>⟨k.1,d.of k.2.2 k.2.1,k.2.2⟩))
 have HM:Hid (∀(w2:World) (q:Nat) (e:Int),q≤s.size→QD w x r pA pc m s q e w2→Calls Tryz.prog 106 #[.pointer (some ⟨x,0,none⟩)] w2 (QPP (QD w x r pA pc m s) r (.int .i64 (nM s q e:Int)) (nP s q e) (eL s q e) w2)):=hid (fun w2 q e hq d=>yK hs hq d);have HX:Hid (∀(w2:World) (q:Nat) (e:Int),q≤s.size→e≠6→QD w x r pA pc m s q e w2→Calls Tryz.prog 105 #[.pointer (some ⟨x,0,none⟩)] w2 (wN ETx 1 (fun s:ByteArray=>s) r (QD w x r pA pc m s) 9 (cK (fD m s) s q e).1 (cK (fD m s) s q e).2.1 (cK (fD m s) s q e).2.2 w2)):=hid (fun w2 q e hq he d=>aEt hp hm hs hq he d);have HO:Hid (∀(w2:World) (q:Nat) (e:Int),q≤s.size→e≠6→QD w x r pA pc m s q e w2→Calls Tryz.prog 107 #[.pointer (some ⟨x,0,none⟩)] w2 (OP zG MO.o r (QD w x r pA pc m s) (sV m s q e).1 (sV m s q e).2.1 (sV m s q e).2.2 w2)):=hid (fun w2 q e hq he d=>aJX hp hm bh hs hq he d);have dh:Hid (∀(w2:World) (q:Nat) (e:Int),QD w x r pA pc m s q e w2→Calls Tryz.prog 51 #[.pointer (some ⟨r,0,none⟩)] w2 (QPP (QD w x r pA pc m s) r (.tuple #[.int .i64 (q:Int),.int .i64 (dE s q e)]) q e w2)):=hid (fun w2 q e d=>(aEL w2 r s q e d.rr).mono (fun e w' k=>⟨k.1,d.of k.2.2 k.2.1,k.2.2⟩))
 have b7:Hid (∀q e,(tT m s q e).size≤maxLen):=hid (fun q e=>jO m s q e bh);have ei:Hid (∀(q:Nat) (e:Int),∀y∈(cK (fD m s) s q e).1,y.size≤maxLen):=hid (fun q e=>xM m s bh _ _ _);have okO:=hid (aLZ m s);have okF:=hid (aLM m s);have dc:=hid (aLR m s);unfold Okp at okO okF dc;have hQ:Hid (∀p e,p≤s.size→nP s p e≤s.size):=hid (fun p e hp=>eB s p e hp);have bq:Hid (∀p e,e≠6→nE s p e≠6):=hid (fun p e he=>pG s p e he);have b6:Hid (∀p e,e≠6→tN m s p e≠6):=hid (fun p e he=>kX m s p e he);have K1:=hid (HT.out W 0 0 (bA _) (by decide) S0.out.pd);have cz:Hid (∀w2,QD w x r pA pc m s (nP s 0 0) (tN m s 0 0) w2→Calls Tryz.prog 105 #[.pointer (some ⟨x,0,none⟩)] w2 (wN ETx 1 (fun s:ByteArray=>s) r (QD w x r pA pc m s) 9 (yI m s).1 (yI m s).2.1 (yI m s).2.2 w2)):=hid (fun w2 d=>HX.out w2 _ _ (aFQ m s).1 (aFQ m s).2 d);have d9:Hid (∀w2,QD w x r pA pc m s (yI m s).2.1 (yI m s).2.2 w2→Calls Tryz.prog 105 #[.pointer (some ⟨x,0,none⟩)] w2 (wN ETx 1 (fun s:ByteArray=>s) r (QD w x r pA pc m s) 9 (xV m s).1 (xV m s).2.1 (xV m s).2.2 w2)):=hid (fun w2 d=>HX.out w2 _ _ (aGT m s).1 (aGT m s).2 d)
 have d0:Hid (∀w2,QD w x r pA pc m s (xV m s).2.1 (xV m s).2.2 w2→Calls Tryz.prog 105 #[.pointer (some ⟨x,0,none⟩)] w2 (wN ETx 1 (fun s:ByteArray=>s) r (QD w x r pA pc m s) 9 (rZ m s).1 (rZ m s).2.1 (rZ m s).2.2 w2)):=hid (fun w2 d=>HX.out w2 _ _ (aGz m s).1 (aGz m s).2 d);have cu:=hid (fun w2 d=>HM.out w2 (rZ m s).2.1 (rZ m s).2.2 (aDf m s).1 d);have co:=hid (fun w2 d=>HM.out w2 (tF m s).2.1 (tF m s).2.2 (aDq m s).1 d);have cn:=hid (fun w2 d=>HM.out w2 (kK m s).2.1 (kK m s).2.2 (aCS m s).1 d);have qO:=hid (eB s (rZ m s).2.1 (rZ m s).2.2 (aDf m s).1);have qF:=hid (eB s (tF m s).2.1 (tF m s).2.2 (aDq m s).1);have qC:=hid (eB s (kK m s).2.1 (kK m s).2.2 (aCS m s).1);have EO:=hid (sO s (rZ m s).2.1 (rZ m s).2.2 (aDf m s).2);have EF:=hid (sO s (tF m s).2.1 (tF m s).2.2 (aDq m s).2);have EC:=hid (sO s (kK m s).2.1 (kK m s).2.2 (aCS m s).2)
 have eg:=aDx s (rZ m s).2.1 (rZ m s).2.2;have ed:=aDx s (tF m s).2.1 (tF m s).2.2;have ef:=aDx s (kK m s).2.1 (kK m s).2.2;have hO:Hid (tF m s=dX (sV m s) (nM s (rZ m s).2.1 (rZ m s).2.2) (nP s (rZ m s).2.1 (rZ m s).2.2) (eL s (rZ m s).2.1 (rZ m s).2.2)):=hid (rA _ s _ _ (aDf m s).2);have hF:Hid (kK m s=dX (mH m s) (nM s (tF m s).2.1 (tF m s).2.2) (nP s (tF m s).2.1 (tF m s).2.2) (eL s (tF m s).2.1 (tF m s).2.2)):=hid (rA _ s _ _ (aDq m s).2);have hC:Hid (sW m s=dX (kY m s) (nM s (kK m s).2.1 (kK m s).2.2) (nP s (kK m s).2.1 (kK m s).2.2) (eL s (kK m s).2.1 (kK m s).2.2)):=hid (rA _ s _ _ (aCS m s).2);have cj:Hid (oL m s=0→kJ m s=⟨tT m s 0 0,(yI m s).1,(xV m s).1,(rZ m s).1,⟨(tF m s).1,(kK m s).1,(sW m s).1⟩⟩):=hid (fun h=>by unfold kJ;rw[if_pos h];rfl);have bd:Hid (oL m s≠0→kJ m s=su0):=hid (fun h=>by unfold kJ;rw[if_neg h])
 have e1:Hid (dE s (sW m s).2.1 (sW m s).2.2=oL m s):=hid rfl;have ea:Hid (∀q e,mH m s q e=(⟨tT m s q e,tT m s (nP s q e) (tN m s q e),tT m s (nP s (nP s q e) (tN m s q e)) (tN m s (nP s q e) (tN m s q e))⟩,nP s (nP s (nP s q e) (tN m s q e)) (tN m s (nP s q e) (tN m s q e)),tN m s (nP s (nP s q e) (tN m s q e)) (tN m s (nP s q e) (tN m s q e)))):=hid (fun q e=>rfl);have dz:Hid (∀q e,q≤s.size→e≠6→∀w2,QD w x r pA pc m s (nP s (nP s (nP s (nP s (nP s q e) (nE s q e)) (tN m s (nP s q e) (nE s q e))) (tN m s (nP s (nP s q e) (nE s q e)) (tN m s (nP s q e) (nE s q e)))) (nE s (nP s (nP s (nP s q e) (nE s q e)) (tN m s (nP s q e) (nE s q e))) (tN m s (nP s (nP s q e) (nE s q e)) (tN m s (nP s q e) (nE s q e))))) (tN m s (nP s (nP s (nP s (nP s q e) (nE s q e)) (tN m s (nP s q e) (nE s q e))) (tN m s (nP s (nP s q e) (nE s q e)) (tN m s (nP s q e) (nE s q e)))) (nE s (nP s (nP s (nP s q e) (nE s q e)) (tN m s (nP s q e) (nE s q e))) (tN m s (nP s (nP s q e) (nE s q e)) (tN m s (nP s q e) (nE s q e))))) w2→Calls Tryz.prog 105 #[.pointer (some ⟨x,0,none⟩)] w2 (wN ETx 1 (fun s:ByteArray=>s) r (QD w x r pA pc m s) 9 (kY m s q e).1.args (kY m s q e).2.1 (kY m s q e).2.2 w2)):=hid (fun q e hq he w2 d=>HX.out w2 _ _ (eB s _ _ (eB s _ _ (eB s _ _ (eB s _ _ (eB s q e hq))))) (kX m s _ _ (pG s _ _ (kX m s _ _ (kX m s _ _ (pG s q e he))))) d)
 have du:Hid (∀(q:Nat) (e:Int),∀y∈(kY m s q e).1.args,y.size≤maxLen):=hid (fun q e=>xM m s bh _ _ _);have e6:Hid (∀q e,kY m s q e=(⟨(nV s q e:Nat),tT m s (nP s q e) (nE s q e),tT m s (nP s (nP s q e) (nE s q e)) (tN m s (nP s q e) (nE s q e)),(nV s (nP s (nP s (nP s q e) (nE s q e)) (tN m s (nP s q e) (nE s q e))) (tN m s (nP s (nP s q e) (nE s q e)) (tN m s (nP s q e) (nE s q e))):Nat),tT m s (nP s (nP s (nP s (nP s q e) (nE s q e)) (tN m s (nP s q e) (nE s q e))) (tN m s (nP s (nP s q e) (nE s q e)) (tN m s (nP s q e) (nE s q e)))) (nE s (nP s (nP s (nP s q e) (nE s q e)) (tN m s (nP s q e) (nE s q e))) (tN m s (nP s (nP s q e) (nE s q e)) (tN m s (nP s q e) (nE s q e)))),(kY m s q e).1.args⟩,(kY m s q e).2)):=hid (fun q e=>rfl);have eh:Hid (J<W.heap.size):=hid S0.out.bx.lt;clear hp hm bh hs dk B1 z1 z2 df cq c6 eb cx HM z4;unfold QPP at K1 HT HN cu co cn dh
 generalize QD w x r pA pc m s=D at *;generalize yI m s=G at *;generalize xV m s=WT at *;generalize rZ m s=KT at *;generalize tF m s=OT at *;generalize kK m s=FT at *;generalize sW m s=CT at *;generalize oL m s=E at *;generalize kJ m s=V at *;generalize nM s KT.2.1 KT.2.2=nO at *;generalize nP s KT.2.1 KT.2.2=pO at *;generalize eL s KT.2.1 KT.2.2=eO at *;generalize nM s OT.2.1 OT.2.2=nF at *;generalize nP s OT.2.1 OT.2.2=pF at *;generalize eL s OT.2.1 OT.2.2=eF at *;generalize nM s FT.2.1 FT.2.2=nC at *;generalize nP s FT.2.1 FT.2.2=pC at *;generalize eL s FT.2.1 FT.2.2=eC at *;generalize sV m s=o1 at *;generalize tT m s 0 0=a at *;generalize nP s 0 0=p0 at *;generalize tN m s 0 0=e0 at *;go_enter Tryz.func52,Tryz.ntmps52;go_upto_region 1 with fail;rw[←bc.out];go_upto_region 3 with fail;rw[←br.out,←hx.out,←hr.out,←bb.out,←bj.out,←bm.out];clear bc bb bj bm br hx hr z3;generalize bf:w.heap.size=bx at *
 replace bf:=hid bf;go_wp2_with fail;refine K1.out.mono ?_;rintro e w2 ⟨rfl,y4,f4⟩;have T4:=hid (S0.out.read y4 f4);have c4:=T4.out.bx.cell 0;have g4:=T4.out.bx.free 0;clear y4 f4 K1 S0;go_upto_region 4 with fail;have S3:=hid (wM.put HR.out a0.out.1 T4.out 0 (.string a));generalize w2.setCell ⟨J,0,none⟩ (.string a)=w3 at *;clear c4 g4 T4
 have Y:Hid (∀y∈[r,J,bx],y<J+1):=hid (fun y hy=>by
  have h2:=a0.out;simp only[aM,aT,or_false]at hy
  omega)
 have KX:=hid (cz.out w3 S3.out.pd);have ar:J+1≤w3.heap.size:=S3.out.bx.lt;go_wp2_with fail;refine KX.out.mono ?_;rintro e w4 hP;obtain⟨gA,gc,gb,hg,rfl,tl,y4,f4⟩:=wN.ll hP ar;replace hg:=hid hg;have Tg:=hid tl;have T4:=hid (S3.out.read y4 f4);have c4:=T4.out.bx.cell 1;have g4:=T4.out.bx.free 1;clear y4 f4 KX S3 cz hP ar tl;go_upto_region 5 with fail;have bu:=hid (wM.put HR.out a0.out.1 T4.out 1 (.slice gA gb.length gc));have F4:Hid (Fr [J] w4 (w4.setCell ⟨J,1,none⟩ (.slice gA gb.length gc))):=hid ((Fr.refl [J] w4).setCell (p:=⟨J,1,none⟩) (Or.inl (by simp)) _);generalize w4.setCell ⟨J,1,none⟩ (.slice gA gb.length gc)=w5 at *;have Tg:=hid (LL.kept sS Tg.out F4.out (fun y hy=>Y.out y (by rw[aD]at hy;subst hy;simp)));clear c4 g4 T4 F4;have KX:=hid (d9.out w5 bu.out.pd);have ar:J+1≤w5.heap.size:=bu.out.bx.lt;go_wp2_with fail;refine KX.out.mono ?_;rintro e w6 hP
 obtain⟨wA,wc,wb,hw,rfl,tl,y4,f4⟩:=wN.ll hP ar;replace hw:=hid hw;have Tg:=hid (LL.kept sS Tg.out f4 (fun y hy=>Y.out y (by rw[aD]at hy;subst hy;simp)));have Tw:=hid tl;have T4:=hid (bu.out.read y4 f4);have c4:=T4.out.bx.cell 2;have g4:=T4.out.bx.free 2;clear y4 f4 KX bu d9 hP ar tl;go_upto_region 6 with fail;have bp:=hid (wM.put HR.out a0.out.1 T4.out 2 (.slice wA wb.length wc));have F4:Hid (Fr [J] w6 (w6.setCell ⟨J,2,none⟩ (.slice wA wb.length wc))):=hid ((Fr.refl [J] w6).setCell (p:=⟨J,2,none⟩) (Or.inl (by simp)) _);generalize w6.setCell ⟨J,2,none⟩ (.slice wA wb.length wc)=w7 at *;have Tg:=hid (LL.kept sS Tg.out F4.out (fun y hy=>Y.out y (by rw[aD]at hy;subst hy;simp)));have Tw:=hid (LL.kept sS Tw.out F4.out (fun y hy=>Y.out y (by rw[aD]at hy;subst hy;simp)));clear c4 g4 T4 F4;have KX:=hid (d0.out w7 bp.out.pd);have ar:J+1≤w7.heap.size:=bp.out.bx.lt
 go_wp2_with fail;refine KX.out.mono ?_;rintro e w8 hP;obtain⟨kA,kc,kb,hk,rfl,tl,y4,f4⟩:=wN.ll hP ar;replace hk:=hid hk;have Tg:=hid (LL.kept sS Tg.out f4 (fun y hy=>Y.out y (by rw[aD]at hy;subst hy;simp)));have Tw:=hid (LL.kept sS Tw.out f4 (fun y hy=>Y.out y (by rw[aD]at hy;subst hy;simp)));have Tk:=hid tl;have T4:=hid (bp.out.read y4 f4);have c4:=T4.out.bx.cell 3;have g4:=T4.out.bx.free 3;clear y4 f4 KX bp d0 hP ar tl;go_upto_region 7 with fail;have cp:=hid (wM.put HR.out a0.out.1 T4.out 3 (.slice kA kb.length kc));have F4:Hid (Fr [J] w8 (w8.setCell ⟨J,3,none⟩ (.slice kA kb.length kc))):=hid ((Fr.refl [J] w8).setCell (p:=⟨J,3,none⟩) (Or.inl (by simp)) _);generalize w8.setCell ⟨J,3,none⟩ (.slice kA kb.length kc)=w9 at *;have Tg:=hid (LL.kept sS Tg.out F4.out (fun y hy=>Y.out y (by rw[aD]at hy;subst hy;simp)));have Tw:=hid (LL.kept sS Tw.out F4.out (fun y hy=>Y.out y (by rw[aD]at hy;subst hy;simp)))
 have Tk:=hid (LL.kept sS Tk.out F4.out (fun y hy=>Y.out y (by rw[aD]at hy;subst hy;simp)));clear c4 g4 T4 F4;have KX:=hid (cu.out w9 cp.out.pd);go_wp2_with fail;refine KX.out.mono ?_;rintro e Wo ⟨rfl,y4,f4⟩;have Tg:=hid (LL.kept sS Tg.out f4 (fun y hy=>Y.out y (by rw[aD]at hy;subst hy;simp)));have Tw:=hid (LL.kept sS Tw.out f4 (fun y hy=>Y.out y (by rw[aD]at hy;subst hy;simp)));have Tk:=hid (LL.kept sS Tk.out f4 (fun y hy=>Y.out y (by rw[aD]at hy;subst hy;simp)));have SA:=hid (cp.out.read y4 f4);clear y4 f4 KX cp cu
 go_upto_block 0 with fail
 have ad:Hid (∀y∈[r,J],y<Wo.heap.size):=hid (fun y hy=>by
  have a1:=SA.out.bx.lt;have a2:=a0.out;simp only[aM,aT,or_false]at hy
  omega)
 have a6:Hid (x+1≤Wo.heap.size∧J+1≤Wo.heap.size∧r≠J∧x+1≤J):=hid (by
  have a1:=SA.out.bx.lt;have a2:=a0.out
  omega)
 have L0:Hid (jP zG 3 [r,J] D pO eO Wo 99 none 0 [] Wo):=hid (jP.start SA.out.pd (Fr.refl _ _) ad.out);have ap:Hid (OT=(([]:List MO).map MO.o++(dX o1 (nO-0) pO eO).1,(dX o1 (nO-0) pO eO).2)):=hid hO.out;have B0:Hid (bV Wo J 29 #[.string a,.slice gA gb.length gc,.slice wA wb.length wc,.slice kA kb.length kc,.slice none ([]:List MO).length 0,.slice none 0 0,.slice none 0 0]):=hid SA.out.bx;have av:Hid (Fr [r] W3 Wo):=hid SA.out.fr;clear SA hO
 go_cut [9] from 36 to 59 (fun _ wx=>∃(A:Option Addr) (cap:Nat) (xs:List MO) (q:Nat) (eq:Int),Hid (OT=(xs.map MO.o,q,eq))∧Hid (jP zG 3 [r,J] D q eq Wo 99 A cap xs wx)∧Hid (bV wx J 29 #[.string a,.slice gA gb.length gc,.slice wA wb.length wc,.slice kA kb.length kc,.slice A xs.length cap,.slice none 0 0,.slice none 0 0]))
 case first=>
  go_wp2_with fail;go_loopw [9] (fun i wr=>∃(k:Nat) (A:Option Addr) (cap:Nat) (xs:List MO) (q:Nat) (eq:Int),k≤nO∧i=.int .i64 k∧xs.length≤k∧Hid (jP zG 3 [r,J] D q eq Wo 99 A cap xs wr)∧Hid (bV wr J 29 #[.string a,.slice gA gb.length gc,.slice wA wb.length wc,.slice kA kb.length kc,.slice A xs.length cap,.slice none 0 0,.slice none 0 0])∧Hid (q≤s.size)∧Hid (eq≠6)∧Hid (OT=(xs.map MO.o++(dX o1 (nO-k) q eq).1,(dX o1 (nO-k) q eq).2))) (fun i _=>nO-(intOf i).toNat)
  case atStart=>exact⟨0,none,0,[],pO,eO,by omega,rfl,by simp,L0,B0,qO,EO,ap⟩
  case round=>
   obtain⟨k,A,cap,xs,q,eq,hk,rfl,dn,HL,a9,hq,a4,a8⟩:=hrel;clear L0 ap B0 qO EO;obtain⟨c0,c1,c2⟩:=bg.out _ _ _ HL.out.pd;by_cases b9:k<nO
   ·have d1:decide ((k:Int)<(nO:Int))=true:=aC (by omega)
    by_cases h0:eq=0
    ·subst h0
     have a5:=hid (go_round o1 MO.o b9 a8.out);obtain⟨ae,aa⟩:=okO.out q 0 hq.out a4.out;replace ae:=hid ae;replace aa:=hid aa;have Ld:=hid (HL.out.read yX (ec.out _ _ _ HL.out.pd) ((Fr.refl [r,J] wr).drew));have Bd:Hid (bV wr.drew J 29 #[.string a,.slice gA gb.length gc,.slice wA wb.length wc,.slice kA kb.length kc,.slice A xs.length cap,.slice none 0 0,.slice none 0 0]):=a9;have KO:=hid (HO.out wr.drew q 0 hq.out a4.out Ld.out.pd);unfold OP at KO;have e4:wr.cell? ⟨J,4,none⟩=some (.slice A xs.length cap):=a9.out.cell 4;have dw:wr.drew.cell? ⟨J,4,none⟩=some (.slice A xs.length cap):=a9.out.cell 4;obtain⟨i0,aj,af,ak,ai⟩:=aES;replace aj:=hid aj;replace af:=hid af;replace ak:=hid ak;replace ai:=hid ai;clear HL a9 a8;generalize (o1 q 0).1=y at *;generalize (o1 q 0).2.1=q2 at *;generalize (o1 q 0).2.2=e3 at *;clear hq a4;have e9:xs.length+1≤9223372036854775807:=by omega
     have dv:(xs.length+1) * 56≤140737488355328:=by omega
     go_upto_region 11 with fail
     go_region_law
      (first
       | (go_simp;go_at_call 107;refine KO.out.mono ?_;rintro e w5 ⟨b,he,bz,d5,f5,o5,n5⟩;obtain rfl:e=.returned (.agg #[.string b.o.name,.string b.o.kinds,.slice b.mA b.o.marks.length b.mc]):=he;have N5:=hid (Ld.out.new n5);have L5:=hid (Ld.out.read yX d5 (Fr.more f5 (show r∈[r,J] by simp)));have O5:=hid o5;have B5:=hid (Bd.out.kept f5 (by have:=a6.out.2.2.1;simpa using this.symm));have e5:=B5.out.cell 4;have dy:(w5.alloc (.cells #[.string b.o.name,.string b.o.kinds,.slice b.mA b.o.marks.length b.mc] 99)).cell? ⟨J,4,none⟩=some (.slice A xs.length cap):=(B5.out.kept ((Fr.refl [] w5).alloc _) (by simp)).cell 4;replace bz:=hid bz;clear d5 f5 o5 n5)
       | (refine aGQ (us:=[.string b.o.name,.string b.o.kinds,.slice b.mA b.o.marks.length b.mc]) (by rfl) (.tmp 53) (.tmp 56) _ (by rfl) (L5.out.sg.alloc _) Tryz.underlying23 aj.out af.out ak.out ai.out rfl (by rfl) (by rfl) rfl (iZ _ _ [.string b.o.name,.string b.o.kinds,.slice b.mA b.o.marks.length b.mc]) (yX.one b) e9 dv ?_;intro A3 a7 w9 au f6 aw;have L9:=hid (L5.out.push HR.out yX a6.out.1 O5.out N5.out au f6 aw);have B9:=hid ((B5.out.kept ((Fr.refl [] w5).alloc _) (by simp)).kept f6 (fun hx=>by have a1:=L5.out.nw J hx;have a2:=ad.out J (by simp);omega));have c9:=B9.out.cell 4;have v9:=B9.out.free 4;clear au f6 aw))
     all_goals
      have ao:(xs++[b]).length=xs.length+1:=by simp
      have ba:Hid (OT=((xs++[b]).map MO.o++(dX o1 (nO-(k+1)) q2 e3).1,(dX o1 (nO-(k+1)) q2 e3).2)):=hid (by rw[List.map_append,List.map_singleton,bz.out];exact a5.out);have fs:Fr [J] w9 (w9.setCell ⟨J,4,none⟩ (.slice A3 (xs.length+1) a7)):=(Fr.refl [J] w9).setCell (p:=⟨J,4,none⟩) (Or.inl (by simp)) _;have bn:=hid (L9.out.read yX (HR.out.kept L9.out.pd fs (fun y hy=>by rw[aD]at hy;have:=a6.out.2.2.2;omega)) (Fr.more fs (show J∈[r,J] by simp)));have bi:=hid (B9.out.put 4 (.slice A3 (xs.length+1) a7));clear fs c9 v9 L9 B9 a5 bz e5 dy e4 dw;generalize w9.setCell ⟨J,4,none⟩ (.slice A3 (xs.length+1) a7)=wz at *;go_wp2_with fail;go_roundw
      case rel=>exact⟨k+1,A3,a7,xs++[b],q2,e3,by omega,by go_num,by omega,bn,by rw[ao];exact bi,ae,aa,ba⟩
      case measure=>simp[intOf];omega
    ·have d2:(eq==0)=false:=by simpa using h0
     have a5:=hid (xC o1 MO.o a4.out h0 a8.out);clear hq a4 a8 h0;go_wp2_with fail
     go_meet
     exact⟨A,cap,xs,q,eq,a5,HL,a9⟩
   ·obtain rfl:k=nO:=by omega
    have d1:decide ((k:Int)<(k:Int))=false:=aB (by omega);have a5:=hid (xH o1 MO.o a8.out);clear hq a4 a8;go_wp2_with fail
    go_meet
    exact⟨A,cap,xs,q,eq,a5,HL,a9⟩
 obtain⟨oA,oc,ob,q4,e4,ho,Lo,Bo⟩:=hcut
 rename World=>wB
 obtain rfl:q4=OT.2.1:=by rw[ho.out]
 obtain rfl:e4=OT.2.2:=by rw[ho.out]
 have cd:ob.map MO.o=OT.1:=by rw[ho.out]
 replace cd:=hid cd
 have c8:Hid (wM D [r] OT.2.1 OT.2.2 W3 29 J #[.string a,.slice gA gb.length gc,.slice wA wb.length wc,.slice kA kb.length kc,.slice oA ob.length oc,.slice none 0 0,.slice none 0 0] wB):=hid ⟨Lo.out.pd,av.out.trans Lo.out.fr (fun y hy=>Or.inl hy) (fun y hy=>by
  have a2:=a0.out;simp only[aM,aT,or_false]at hy;rcases hy with rfl | rfl
  ·exact Or.inl (by simp)
  ·exact Or.inr (by omega)),Bo.out,by have a2:=a0.out;omega,fun y hy=>by have a2:=a0.out;rw[aD]at hy;omega⟩
 have Tg:=hid (LL.kept sS Tg.out Lo.out.fr (fun y hy=>Y.out y (by simp only[aM,aT,or_false]at hy;rcases hy with rfl | rfl <;> simp)));have Tw:=hid (LL.kept sS Tw.out Lo.out.fr (fun y hy=>Y.out y (by simp only[aM,aT,or_false]at hy;rcases hy with rfl | rfl <;> simp)));have Tk:=hid (LL.kept sS Tk.out Lo.out.fr (fun y hy=>Y.out y (by simp only[aM,aT,or_false]at hy;rcases hy with rfl | rfl <;> simp)));have To:=hid (Lo.out.ll a6.out.2.1);clear Lo Bo ho av ad a6;have KX:=hid (co.out wB c8.out.pd);go_wp2_with fail;refine KX.out.mono ?_;rintro e Wf ⟨rfl,y4,f4⟩;have Tg:=hid (LL.kept sS Tg.out f4 (fun y hy=>Y.out y (by rw[aD]at hy;subst hy;simp)));have Tw:=hid (LL.kept sS Tw.out f4 (fun y hy=>Y.out y (by rw[aD]at hy;subst hy;simp)));have Tk:=hid (LL.kept sS Tk.out f4 (fun y hy=>Y.out y (by rw[aD]at hy;subst hy;simp)))
 have To:=hid (LL.kept yX To.out f4 (fun y hy=>Y.out y (by rw[aD]at hy;subst hy;simp)));have SA:=hid (c8.out.read y4 f4);clear y4 f4 KX c8 co
 go_upto_block 2 with fail
 have ad:Hid (∀y∈[r,J],y<Wf.heap.size):=hid (fun y hy=>by
  have a1:=SA.out.bx.lt;have a2:=a0.out;simp only[aM,aT,or_false]at hy
  omega)
 have a6:Hid (x+1≤Wf.heap.size∧J+1≤Wf.heap.size∧r≠J∧x+1≤J):=hid (by
  have a1:=SA.out.bx.lt;have a2:=a0.out
  omega)
 have L0:Hid (jP EFn 3 [r,J] D pF eF Wf 103 none 0 [] Wf):=hid (jP.start SA.out.pd (Fr.refl _ _) ad.out);have ap:Hid (FT=(([]:List SF).map (fun m:SF=>m)++(dX (mH m s) (nF-0) pF eF).1,(dX (mH m s) (nF-0) pF eF).2)):=hid hF.out;have B0:Hid (bV Wf J 29 #[.string a,.slice gA gb.length gc,.slice wA wb.length wc,.slice kA kb.length kc,.slice oA ob.length oc,.slice none ([]:List SF).length 0,.slice none 0 0]):=hid SA.out.bx;have av:Hid (Fr [r] W3 Wf):=hid SA.out.fr;clear SA hF
 go_cut [10,11] from 62 to 93 (fun _ _ wx=>∃(A:Option Addr) (cap:Nat) (xs:List SF) (q:Nat) (eq:Int),Hid (FT=(xs.map (fun m:SF=>m),q,eq))∧Hid (jP EFn 3 [r,J] D q eq Wf 103 A cap xs wx)∧Hid (bV wx J 29 #[.string a,.slice gA gb.length gc,.slice wA wb.length wc,.slice kA kb.length kc,.slice oA ob.length oc,.slice A xs.length cap,.slice none 0 0]))
 case first=>
  go_wp2_with fail;go_loopw [10] (fun i wr=>∃(k:Nat) (A:Option Addr) (cap:Nat) (xs:List SF) (q:Nat) (eq:Int),k≤nF∧i=.int .i64 k∧xs.length≤k∧Hid (jP EFn 3 [r,J] D q eq Wf 103 A cap xs wr)∧Hid (bV wr J 29 #[.string a,.slice gA gb.length gc,.slice wA wb.length wc,.slice kA kb.length kc,.slice oA ob.length oc,.slice A xs.length cap,.slice none 0 0])∧Hid (q≤s.size)∧Hid (eq≠6)∧Hid (FT=(xs.map (fun m:SF=>m)++(dX (mH m s) (nF-k) q eq).1,(dX (mH m s) (nF-k) q eq).2))) (fun i _=>nF-(intOf i).toNat)
  case atStart=>exact⟨0,none,0,[],pF,eF,by omega,rfl,by simp,L0,B0,qF,EF,ap⟩
  case round=>
   obtain⟨k,A,cap,xs,q,eq,hk,rfl,dn,HL,a9,hq,a4,a8⟩:=hrel;clear L0 ap B0 qF EF;obtain⟨c0,c1,c2⟩:=bg.out _ _ _ HL.out.pd;by_cases b9:k<nF
   ·have d1:decide ((k:Int)<(nF:Int))=true:=aC (by omega)
    by_cases h0:eq=0
    ·subst h0
     have a5:=hid (go_round (mH m s) (fun m:SF=>m) b9 a8.out);obtain⟨ae,aa⟩:=okF.out q 0 hq.out a4.out;rw[ea.out q 0]at a5 ae aa;dsimp only at a5 ae aa;replace ae:=hid ae;replace aa:=hid aa;have de:=hid (HT.out wr q 0 hq.out a4.out HL.out.pd);have dj:=hid (fun w5 (d:D (nP s q 0) (tN m s q 0) w5)=>HT.out w5 _ _ (hQ.out q 0 hq.out) (b6.out q 0 a4.out) d);have di:=hid (fun w5 (d:D (nP s (nP s q 0) (tN m s q 0)) (tN m s (nP s q 0) (tN m s q 0)) w5)=>HT.out w5 _ _ (hQ.out _ _ (hQ.out q 0 hq.out)) (b6.out _ _ (b6.out q 0 a4.out)) d);have s1:=hid (b7.out q 0);have s2:=hid (b7.out (nP s q 0) (tN m s q 0));have s3:=hid (b7.out (nP s (nP s q 0) (tN m s q 0)) (tN m s (nP s q 0) (tN m s q 0)));clear a8;generalize tT m s q 0=a1 at *;generalize nP s q 0=q1 at *;generalize tN m s q 0=b3 at *;generalize tT m s q1 b3=a2 at *;generalize nP s q1 b3=q2 at *;generalize tN m s q1 b3=ay at *
     generalize tT m s q2 ay=a3 at *;generalize nP s q2 ay=q3 at *;generalize tN m s q2 ay=ax at *;go_wp2_with fail;refine de.out.mono ?_;rintro e v0 ⟨rfl,da,fa⟩;have b2:=hid (wM.new HR.out da fa (fun y hy=>Nat.lt_of_lt_of_le (ad.out y (by rw[aD]at hy;subst hy;simp)) HL.out.fr.size) 103 #[.string a1,.string ⟨#[]⟩,.string ⟨#[]⟩]);clear da fa de c0 c1 c2;go_upto_region 17 with fail;generalize v0.alloc (.cells #[.string a1,.string ⟨#[]⟩,.string ⟨#[]⟩] 103)=v1 at *;generalize v0.heap.size=mb at *;have KX:=hid (dj.out v1 b2.out.pd);go_wp2_with fail;refine KX.out.mono ?_;rintro e v2 ⟨rfl,da,fa⟩;have T4:=hid (b2.out.read da fa);have k4:=T4.out.bx.cell 1;have g4:=T4.out.bx.free 1;clear da fa KX b2 dj;go_upto_region 18 with fail;have az:=hid (wM.put HR.out (aZ a6.out.1 HL.out.fr.size) T4.out 1 (.string a2));generalize v2.setCell ⟨mb,1,none⟩ (.string a2)=v3 at *
     clear k4 g4 T4;have KX:=hid (di.out v3 az.out.pd);go_wp2_with fail;refine KX.out.mono ?_;rintro e v4 ⟨rfl,da,fa⟩;have T4:=hid (az.out.read da fa);have k4:=T4.out.bx.cell 2;have g4:=T4.out.bx.free 2;clear da fa KX az di;go_upto_region 19 with fail;have ag:=hid (wM.put HR.out (aZ a6.out.1 HL.out.fr.size) T4.out 2 (.string a3));generalize v4.setCell ⟨mb,2,none⟩ (.string a3)=v5 at *;clear k4 g4 T4;have b1:Hid (Fr [r] wr v5):=hid ag.out.fr;have L8:=hid (HL.out.read gFn ag.out.pd (Fr.more b1.out (show r∈[r,J] by simp)));have b4:=hid (a9.out.kept b1.out (by have:=a6.out.2.2.1;simpa using this.symm));have ck:Hid (∀o w9,Fr (blk A) (v5.alloc o) w9→bV w9 J 29 #[.string a,.slice gA gb.length gc,.slice wA wb.length wc,.slice kA kb.length kc,.slice oA ob.length oc,.slice A xs.length cap,.slice none 0 0]):=hid (fun o w9 f=>(b4.out.kept ((Fr.refl [] v5).alloc o) (by simp)).kept f (fun hx=>by have a1:=L8.out.nw J hx;have a2:=ad.out J (by simp);omega))
     have m0:v5.cell? ⟨mb,0,none⟩=some (.string a1):=ag.out.bx.cell 0;have m1:v5.cell? ⟨mb,1,none⟩=some (.string a2):=ag.out.bx.cell 1;have m2:v5.cell? ⟨mb,2,none⟩=some (.string a3):=ag.out.bx.cell 2;have e2:v5.cell? ⟨J,5,none⟩=some (.slice A xs.length cap):=b4.out.cell 5;obtain⟨i0,aj,af,ak,ai⟩:=aFe;replace aj:=hid aj;replace af:=hid af;replace ak:=hid ak;replace ai:=hid ai;have cw:Hid (EFn.ok v5 (⟨a1,a2,a3⟩:SF)):=hid (⟨s1.out,s2.out,s3.out⟩);have cf:Hid (∀y∈EFn.bl (⟨a1,a2,a3⟩:SF),Wf.heap.size≤y∧y∉blk A):=hid (fun y hy=>by cases hy);clear HL a9 b1 ag b4 hq a4
     go_wp2_with (at_builtin;refine iV (us:=[.string a1,.string a2,.string a3]) rfl _ _ _ rfl (L8.out.sg.alloc _) Tryz.underlying24 aj.out af.out ak.out ai.out rfl rfl rfl rfl (iZ _ _ [.string a1,.string a2,.string a3]) (gFn.one (⟨a1,a2,a3⟩:SF)) (by omega) (by omega) ?_;intro A3 a7 w9 au f6 aw;have L9:=hid (L8.out.push HR.out gFn a6.out.1 (b:=(⟨a1,a2,a3⟩:SF)) cw.out cf.out au f6 aw);have B9:=hid (ck.out _ _ f6);have c9:=B9.out.cell 5;have v9:=B9.out.free 5;clear au f6 aw)
     have ao:(xs++[(⟨a1,a2,a3⟩:SF)]).length=xs.length+1:=by simp
     have ba:Hid (FT=((xs++[(⟨a1,a2,a3⟩:SF)]).map (fun m:SF=>m)++(dX (mH m s) (nF-(k+1)) q3 ax).1,(dX (mH m s) (nF-(k+1)) q3 ax).2)):=hid (by rw[List.map_append,List.map_singleton];exact a5.out);have fs:Fr [J] w9 (w9.setCell ⟨J,5,none⟩ (.slice A3 (xs.length+1) a7)):=(Fr.refl [J] w9).setCell (p:=⟨J,5,none⟩) (Or.inl (by simp)) _;have bn:=hid (L9.out.read gFn (HR.out.kept L9.out.pd fs (fun y hy=>by rw[aD]at hy;have:=a6.out.2.2.2;omega)) (Fr.more fs (show J∈[r,J] by simp)));have bi:=hid (B9.out.put 5 (.slice A3 (xs.length+1) a7));clear fs c9 v9 L9 B9 a5;generalize w9.setCell ⟨J,5,none⟩ (.slice A3 (xs.length+1) a7)=wz at *;go_roundw
     case rel=>exact⟨k+1,A3,a7,xs++[(⟨a1,a2,a3⟩:SF)],q3,ax,by omega,by go_num,by omega,bn,by rw[ao];exact bi,ae,aa,ba⟩
     case measure=>simp[intOf];omega
    ·have d2:(eq==0)=false:=by simpa using h0
     have a5:=hid (xC (mH m s) (fun m:SF=>m) a4.out h0 a8.out);clear hq a4 a8 h0;go_wp2_with fail
     go_meet
     exact⟨A,cap,xs,q,eq,a5,HL,a9⟩
   ·obtain rfl:k=nF:=by omega
    have d1:decide ((k:Int)<(k:Int))=false:=aB (by omega);have a5:=hid (xH (mH m s) (fun m:SF=>m) a8.out);clear hq a4 a8;go_wp2_with fail
    go_meet
    exact⟨A,cap,xs,q,eq,a5,HL,a9⟩
 obtain⟨fA,fc,fb,q4,e4,hf,Lf,Bf⟩:=hcut
 rename World=>wC
 obtain rfl:q4=FT.2.1:=by rw[hf.out]
 obtain rfl:e4=FT.2.2:=by rw[hf.out]
 have ca:fb.map (fun m:SF=>m)=FT.1:=by rw[hf.out]
 replace ca:=hid ca
 have cv:Hid (wM D [r] FT.2.1 FT.2.2 W3 29 J #[.string a,.slice gA gb.length gc,.slice wA wb.length wc,.slice kA kb.length kc,.slice oA ob.length oc,.slice fA fb.length fc,.slice none 0 0] wC):=hid ⟨Lf.out.pd,av.out.trans Lf.out.fr (fun y hy=>Or.inl hy) (fun y hy=>by
  have a2:=a0.out;simp only[aM,aT,or_false]at hy;rcases hy with rfl | rfl
  ·exact Or.inl (by simp)
  ·exact Or.inr (by omega)),Bf.out,by have a2:=a0.out;omega,fun y hy=>by have a2:=a0.out;rw[aD]at hy;omega⟩
 have Tg:=hid (LL.kept sS Tg.out Lf.out.fr (fun y hy=>Y.out y (by simp only[aM,aT,or_false]at hy;rcases hy with rfl | rfl <;> simp)));have Tw:=hid (LL.kept sS Tw.out Lf.out.fr (fun y hy=>Y.out y (by simp only[aM,aT,or_false]at hy;rcases hy with rfl | rfl <;> simp)));have Tk:=hid (LL.kept sS Tk.out Lf.out.fr (fun y hy=>Y.out y (by simp only[aM,aT,or_false]at hy;rcases hy with rfl | rfl <;> simp)));have To:=hid (LL.kept yX To.out Lf.out.fr (fun y hy=>Y.out y (by simp only[aM,aT,or_false]at hy;rcases hy with rfl | rfl <;> simp)));have Tf:=hid (Lf.out.ll a6.out.2.1);clear Lf Bf hf av ad a6;have KX:=hid (cn.out wC cv.out.pd);go_wp2_with fail;refine KX.out.mono ?_;rintro e Wc ⟨rfl,y4,f4⟩;have Tg:=hid (LL.kept sS Tg.out f4 (fun y hy=>Y.out y (by rw[aD]at hy;subst hy;simp)))
 have Tw:=hid (LL.kept sS Tw.out f4 (fun y hy=>Y.out y (by rw[aD]at hy;subst hy;simp)));have Tk:=hid (LL.kept sS Tk.out f4 (fun y hy=>Y.out y (by rw[aD]at hy;subst hy;simp)));have To:=hid (LL.kept yX To.out f4 (fun y hy=>Y.out y (by rw[aD]at hy;subst hy;simp)));have Tf:=hid (LL.kept gFn Tf.out f4 (fun y hy=>Y.out y (by rw[aD]at hy;subst hy;simp)));have SA:=hid (cv.out.read y4 f4);clear y4 f4 KX cv cn
 go_upto_block 4 with fail
 have ad:Hid (∀y∈[r,J],y<Wc.heap.size):=hid (fun y hy=>by
  have a1:=SA.out.bx.lt;have a2:=a0.out;simp only[aM,aT,or_false]at hy
  omega)
 have a6:Hid (x+1≤Wc.heap.size∧J+1≤Wc.heap.size∧r≠J∧x+1≤J):=hid (by
  have a1:=SA.out.bx.lt;have a2:=a0.out
  omega)
 have L0:Hid (jP zR 6 [r,J] D pC eC Wc 105 none 0 [] Wc):=hid (jP.start SA.out.pd (Fr.refl _ _) ad.out);have ap:Hid (CT=(([]:List MC).map MC.c++(dX (kY m s) (nC-0) pC eC).1,(dX (kY m s) (nC-0) pC eC).2)):=hid hC.out;have B0:Hid (bV Wc J 29 #[.string a,.slice gA gb.length gc,.slice wA wb.length wc,.slice kA kb.length kc,.slice oA ob.length oc,.slice fA fb.length fc,.slice none ([]:List MC).length 0]):=hid SA.out.bx;have av:Hid (Fr [r] W3 Wc):=hid SA.out.fr;clear SA hC
 go_cut [12,13] from 96 to 142 (fun _ _ wx=>∃(A:Option Addr) (cap:Nat) (xs:List MC) (q:Nat) (eq:Int),Hid (CT=(xs.map MC.c,q,eq))∧Hid (jP zR 6 [r,J] D q eq Wc 105 A cap xs wx)∧Hid (bV wx J 29 #[.string a,.slice gA gb.length gc,.slice wA wb.length wc,.slice kA kb.length kc,.slice oA ob.length oc,.slice fA fb.length fc,.slice A xs.length cap]))
 case first=>
  go_wp2_with fail;go_loopw [12] (fun i wr=>∃(k:Nat) (A:Option Addr) (cap:Nat) (xs:List MC) (q:Nat) (eq:Int),k≤nC∧i=.int .i64 k∧xs.length≤k∧Hid (jP zR 6 [r,J] D q eq Wc 105 A cap xs wr)∧Hid (bV wr J 29 #[.string a,.slice gA gb.length gc,.slice wA wb.length wc,.slice kA kb.length kc,.slice oA ob.length oc,.slice fA fb.length fc,.slice A xs.length cap])∧Hid (q≤s.size)∧Hid (eq≠6)∧Hid (CT=(xs.map MC.c++(dX (kY m s) (nC-k) q eq).1,(dX (kY m s) (nC-k) q eq).2))) (fun i _=>nC-(intOf i).toNat)
  case atStart=>exact⟨0,none,0,[],pC,eC,by omega,rfl,by simp,L0,B0,qC,EC,ap⟩
  case round=>
   obtain⟨k,A,cap,xs,q,eq,hk,rfl,dn,HL,a9,hq,a4,a8⟩:=hrel;clear L0 ap B0 qC EC;obtain⟨c0,c1,c2⟩:=bg.out _ _ _ HL.out.pd;by_cases b9:k<nC
   ·have d1:decide ((k:Int)<(nC:Int))=true:=aC (by omega)
    by_cases h0:eq=0
    ·subst h0
     have a5:=hid (go_round (kY m s) MC.c b9 a8.out);obtain⟨ae,aa⟩:=dc.out q 0 hq.out a4.out;rw[e6.out q 0]at a5;dsimp only at a5;replace ae:=hid ae;replace aa:=hid aa;have dd:=hid (HN.out wr q 0 hq.out HL.out.pd);have dl:=hid (fun w5 (d:D (nP s q 0) (nE s q 0) w5)=>HT.out w5 _ _ (hQ.out _ _ hq.out) (bq.out q 0 a4.out) d);have db:=hid (fun w5 (d:D (nP s (nP s q 0) (nE s q 0)) (tN m s (nP s q 0) (nE s q 0)) w5)=>HT.out w5 _ _ (hQ.out _ _ (hQ.out _ _ hq.out)) (b6.out _ _ (bq.out q 0 a4.out)) d);have d8:=hid (fun w5 (d:D (nP s (nP s (nP s q 0) (nE s q 0)) (tN m s (nP s q 0) (nE s q 0))) (tN m s (nP s (nP s q 0) (nE s q 0)) (tN m s (nP s q 0) (nE s q 0))) w5)=>HN.out w5 _ _ (hQ.out _ _ (hQ.out _ _ (hQ.out _ _ hq.out))) d);have dp:=hid (fun w5 (d:D (nP s (nP s (nP s (nP s q 0) (nE s q 0)) (tN m s (nP s q 0) (nE s q 0))) (tN m s (nP s (nP s q 0) (nE s q 0)) (tN m s (nP s q 0) (nE s q 0)))) (nE s (nP s (nP s (nP s q 0) (nE s q 0)) (tN m s (nP s q 0) (nE s q 0))) (tN m s (nP s (nP s q 0) (nE s q 0)) (tN m s (nP s q 0) (nE s q 0)))) w5)=>HT.out w5 _ _ (hQ.out _ _ (hQ.out _ _ (hQ.out _ _ (hQ.out _ _ hq.out)))) (bq.out _ _ (b6.out _ _ (b6.out _ _ (bq.out q 0 a4.out)))) d)
     have cy:=hid (dz.out q 0 hq.out a4.out);have s1:=hid (b7.out (nP s q 0) (nE s q 0));have s2:=hid (b7.out (nP s (nP s q 0) (nE s q 0)) (tN m s (nP s q 0) (nE s q 0)));have s4:=hid (b7.out (nP s (nP s (nP s (nP s q 0) (nE s q 0)) (tN m s (nP s q 0) (nE s q 0))) (tN m s (nP s (nP s q 0) (nE s q 0)) (tN m s (nP s q 0) (nE s q 0)))) (nE s (nP s (nP s (nP s q 0) (nE s q 0)) (tN m s (nP s q 0) (nE s q 0))) (tN m s (nP s (nP s q 0) (nE s q 0)) (tN m s (nP s q 0) (nE s q 0)))));have sL:=hid (du.out q 0);clear a8;generalize (kY m s q 0).1.args=args at *;generalize (kY m s q 0).2.1=q6 at *;generalize (kY m s q 0).2.2=c7 at *;generalize nV s q 0=k0 at *;generalize nP s q 0=q1 at *;generalize nE s q 0=b3 at *;generalize tT m s q1 b3=t1 at *;generalize nP s q1 b3=q2 at *;generalize tN m s q1 b3=ay at *;generalize tT m s q2 ay=t2 at *;generalize nP s q2 ay=q3 at *;generalize tN m s q2 ay=ax at *
     generalize nV s q3 ax=k3 at *;generalize nP s q3 ax=q4 at *;generalize nE s q3 ax=cg at *;generalize tT m s q4 cg=t4 at *;generalize nP s q4 cg=q5 at *;generalize tN m s q4 cg=ee at *;go_wp2_with fail;refine dd.out.mono ?_;rintro e v0 ⟨rfl,da,fa⟩;have b2:=hid (wM.new HR.out da fa (fun y hy=>Nat.lt_of_lt_of_le (ad.out y (by rw[aD]at hy;subst hy;simp)) HL.out.fr.size) 105 #[.int .i64 (k0:Int),.string ⟨#[]⟩,.string ⟨#[]⟩,.int .i64 0,.string ⟨#[]⟩,.slice none 0 0]);clear da fa dd c0 c1 c2;go_upto_region 25 with fail;generalize v0.alloc (.cells #[.int .i64 (k0:Int),.string ⟨#[]⟩,.string ⟨#[]⟩,.int .i64 0,.string ⟨#[]⟩,.slice none 0 0] 105)=v1 at *;generalize v0.heap.size=mb at *;have KX:=hid (dl.out v1 b2.out.pd);go_wp2_with fail;refine KX.out.mono ?_;rintro e v2 ⟨rfl,da,fa⟩;have T4:=hid (b2.out.read da fa);have k4:=T4.out.bx.cell 1;have g4:=T4.out.bx.free 1
     clear da fa KX b2 dl;go_upto_region 26 with fail;have az:=hid (wM.put HR.out (aZ a6.out.1 HL.out.fr.size) T4.out 1 (.string t1));generalize v2.setCell ⟨mb,1,none⟩ (.string t1)=v3 at *;clear k4 g4 T4;have KX:=hid (db.out v3 az.out.pd);go_wp2_with fail;refine KX.out.mono ?_;rintro e v4 ⟨rfl,da,fa⟩;have T4:=hid (az.out.read da fa);have k4:=T4.out.bx.cell 2;have g4:=T4.out.bx.free 2;clear da fa KX az db;go_upto_region 27 with fail;have ag:=hid (wM.put HR.out (aZ a6.out.1 HL.out.fr.size) T4.out 2 (.string t2));generalize v4.setCell ⟨mb,2,none⟩ (.string t2)=v5 at *;clear k4 g4 T4;have KX:=hid (d8.out v5 ag.out.pd);obtain⟨c0,c1,c2⟩:=bg.out _ _ _ ag.out.pd;go_wp2_with fail;refine KX.out.mono ?_;rintro e v6 ⟨rfl,da,fa⟩;have T4:=hid (ag.out.read da fa);have k4:=T4.out.bx.cell 3;have g4:=T4.out.bx.free 3;clear da fa KX ag d8 c0 c1 c2;go_upto_region 28 with fail
     have cm:=hid (wM.put HR.out (aZ a6.out.1 HL.out.fr.size) T4.out 3 (.int .i64 (k3:Int)));generalize v6.setCell ⟨mb,3,none⟩ (.int .i64 (k3:Int))=v7 at *;clear k4 g4 T4;have KX:=hid (dp.out v7 cm.out.pd);go_wp2_with fail;refine KX.out.mono ?_;rintro e v8 ⟨rfl,da,fa⟩;have T4:=hid (cm.out.read da fa);have k4:=T4.out.bx.cell 4;have g4:=T4.out.bx.free 4;clear da fa KX cm dp;go_upto_region 29 with fail;have bk:=hid (wM.put HR.out (aZ a6.out.1 HL.out.fr.size) T4.out 4 (.string t4));generalize v8.setCell ⟨mb,4,none⟩ (.string t4)=v9 at *;clear k4 g4 T4;have KX:=hid (cy.out v9 bk.out.pd);go_wp2_with fail;refine KX.out.mono ?_;rintro e bo hP;obtain⟨aA,ac,ab,dm,rfl,tl,da,fa⟩:=wN.ll hP (aY _);rw[List.map_id']at dm;subst dm;have Tx:=hid tl;have T4:=hid (bk.out.read da fa);have k4:=T4.out.bx.cell 5;have g4:=T4.out.bx.free 5;have dx:=hid (show mb<v9.heap.size from bk.out.bx.lt)
     have e8:=hid (show wr.heap.size≤v9.heap.size from bk.out.fr.size);have dq:Hid (∀y∈blk aA,v9.heap.size≤y):=hid (fun y hy=>tl.nw y hy);clear tl hP;clear da fa KX bk cy;go_upto_region 30 with fail;have am:=hid (wM.put HR.out (aZ a6.out.1 HL.out.fr.size) T4.out 5 (.slice aA ab.length ac));have Fx:Hid (Fr [mb] bo (bo.setCell ⟨mb,5,none⟩ (.slice aA ab.length ac))):=hid ((Fr.refl [mb] bo).setCell (p:=⟨mb,5,none⟩) (Or.inl (by simp)) _);generalize bo.setCell ⟨mb,5,none⟩ (.slice aA ab.length ac)=ah at *;clear k4 g4 T4;have b1:Hid (Fr [r] wr ah):=hid am.out.fr;have L8:=hid (HL.out.read gCo am.out.pd (Fr.more b1.out (show r∈[r,J] by simp)));have b4:=hid (a9.out.kept b1.out (by have:=a6.out.2.2.1;simpa using this.symm));have ck:Hid (∀o w9,Fr (blk A) (ah.alloc o) w9→bV w9 J 29 #[.string a,.slice gA gb.length gc,.slice wA wb.length wc,.slice kA kb.length kc,.slice oA ob.length oc,.slice fA fb.length fc,.slice A xs.length cap]):=hid (fun o w9 f=>(b4.out.kept ((Fr.refl [] ah).alloc o) (by simp)).kept f (fun hx=>by have a1:=L8.out.nw J hx;have a2:=ad.out J (by simp);omega))
     have m0:ah.cell? ⟨mb,0,none⟩=some (.int .i64 (k0:Int)):=am.out.bx.cell 0;have m1:ah.cell? ⟨mb,1,none⟩=some (.string t1):=am.out.bx.cell 1;have m2:ah.cell? ⟨mb,2,none⟩=some (.string t2):=am.out.bx.cell 2;have m3:ah.cell? ⟨mb,3,none⟩=some (.int .i64 (k3:Int)):=am.out.bx.cell 3;have m4:ah.cell? ⟨mb,4,none⟩=some (.string t4):=am.out.bx.cell 4;have m5:ah.cell? ⟨mb,5,none⟩=some (.slice aA ab.length ac):=am.out.bx.cell 5;have e2:ah.cell? ⟨J,6,none⟩=some (.slice A xs.length cap):=b4.out.cell 6;obtain⟨i0,aj,af,ak,ai⟩:=aE6;replace aj:=hid aj;replace af:=hid af;replace ak:=hid ak;replace ai:=hid ai;have Ty:=hid (LL.kept sS Tx.out Fx.out (fun y hy=>by rw[aD]at hy;have:=dx.out;omega));have cw:Hid (zR.ok ah (⟨⟨(k0:Int),t1,t2,(k3:Int),t4,ab⟩,aA,ac⟩:MC)):=hid (⟨⟨s1.out,s2.out,s4.out,Ty.out.tl.rd,aZ Ty.out.sg.le Ty.out.sg.max,Ty.out.sg.le,sL.out⟩,fun g hg=>Ty.out.sg.lt g hg⟩)
     have cf:Hid (∀y∈zR.bl (⟨⟨(k0:Int),t1,t2,(k3:Int),t4,ab⟩,aA,ac⟩:MC),Wc.heap.size≤y∧y∉blk A):=hid (HL.out.new (l:=blk aA) (fun y hy=>aZ e8.out (dq.out y hy)));clear HL a9 b1 am b4 hq a4
     go_wp2_with (at_builtin;refine iV (us:=[.int .i64 (k0:Int),.string t1,.string t2,.int .i64 (k3:Int),.string t4,.slice aA ab.length ac]) rfl _ _ _ rfl (L8.out.sg.alloc _) Tryz.underlying25 aj.out af.out ak.out ai.out rfl rfl rfl rfl (iZ _ _ [.int .i64 (k0:Int),.string t1,.string t2,.int .i64 (k3:Int),.string t4,.slice aA ab.length ac]) (gCo.one (⟨⟨(k0:Int),t1,t2,(k3:Int),t4,ab⟩,aA,ac⟩:MC)) (by omega) (by omega) ?_;intro A3 a7 w9 au f6 aw;have L9:=hid (L8.out.push HR.out gCo a6.out.1 (b:=(⟨⟨(k0:Int),t1,t2,(k3:Int),t4,ab⟩,aA,ac⟩:MC)) cw.out cf.out au f6 aw);have B9:=hid (ck.out _ _ f6);have c9:=B9.out.cell 6;have v9:=B9.out.free 6;clear au f6 aw)
     have ao:(xs++[(⟨⟨(k0:Int),t1,t2,(k3:Int),t4,ab⟩,aA,ac⟩:MC)]).length=xs.length+1:=by simp
     have ba:Hid (CT=((xs++[(⟨⟨(k0:Int),t1,t2,(k3:Int),t4,ab⟩,aA,ac⟩:MC)]).map MC.c++(dX (kY m s) (nC-(k+1)) q6 c7).1,(dX (kY m s) (nC-(k+1)) q6 c7).2)):=hid (by rw[List.map_append,List.map_singleton];exact a5.out);have fs:Fr [J] w9 (w9.setCell ⟨J,6,none⟩ (.slice A3 (xs.length+1) a7)):=(Fr.refl [J] w9).setCell (p:=⟨J,6,none⟩) (Or.inl (by simp)) _;have bn:=hid (L9.out.read gCo (HR.out.kept L9.out.pd fs (fun y hy=>by rw[aD]at hy;have:=a6.out.2.2.2;omega)) (Fr.more fs (show J∈[r,J] by simp)));have bi:=hid (B9.out.put 6 (.slice A3 (xs.length+1) a7));clear fs c9 v9 L9 B9 a5;generalize w9.setCell ⟨J,6,none⟩ (.slice A3 (xs.length+1) a7)=wz at *;go_roundw
     case rel=>exact⟨k+1,A3,a7,xs++[(⟨⟨(k0:Int),t1,t2,(k3:Int),t4,ab⟩,aA,ac⟩:MC)],q6,c7,by omega,by go_num,by omega,bn,by rw[ao];exact bi,ae,aa,ba⟩
     case measure=>simp[intOf];omega
    ·have d2:(eq==0)=false:=by simpa using h0
     have a5:=hid (xC (kY m s) MC.c a4.out h0 a8.out);clear hq a4 a8 h0;go_wp2_with fail
     go_meet
     exact⟨A,cap,xs,q,eq,a5,HL,a9⟩
   ·obtain rfl:k=nC:=by omega
    have d1:decide ((k:Int)<(k:Int))=false:=aB (by omega);have a5:=hid (xH (kY m s) MC.c a8.out);clear hq a4 a8;go_wp2_with fail
    go_meet
    exact⟨A,cap,xs,q,eq,a5,HL,a9⟩
 obtain⟨cA,cc,cb,q4,e4,hc,Lc,Bc⟩:=hcut
 rename World=>wE
 obtain rfl:q4=CT.2.1:=by rw[hc.out]
 obtain rfl:e4=CT.2.2:=by rw[hc.out]
 have ci:cb.map MC.c=CT.1:=by rw[hc.out]
 replace ci:=hid ci
 have bv:Hid (wM D [r] CT.2.1 CT.2.2 W3 29 J #[.string a,.slice gA gb.length gc,.slice wA wb.length wc,.slice kA kb.length kc,.slice oA ob.length oc,.slice fA fb.length fc,.slice cA cb.length cc] wE):=hid ⟨Lc.out.pd,av.out.trans Lc.out.fr (fun y hy=>Or.inl hy) (fun y hy=>by
  have a2:=a0.out;simp only[aM,aT,or_false]at hy;rcases hy with rfl | rfl
  ·exact Or.inl (by simp)
  ·exact Or.inr (by omega)),Bc.out,by have a2:=a0.out;omega,fun y hy=>by have a2:=a0.out;rw[aD]at hy;omega⟩
 have Tg:=hid (LL.kept sS Tg.out Lc.out.fr (fun y hy=>Y.out y (by simp only[aM,aT,or_false]at hy;rcases hy with rfl | rfl <;> simp)));have Tw:=hid (LL.kept sS Tw.out Lc.out.fr (fun y hy=>Y.out y (by simp only[aM,aT,or_false]at hy;rcases hy with rfl | rfl <;> simp)));have Tk:=hid (LL.kept sS Tk.out Lc.out.fr (fun y hy=>Y.out y (by simp only[aM,aT,or_false]at hy;rcases hy with rfl | rfl <;> simp)));have To:=hid (LL.kept yX To.out Lc.out.fr (fun y hy=>Y.out y (by simp only[aM,aT,or_false]at hy;rcases hy with rfl | rfl <;> simp)));have Tf:=hid (LL.kept gFn Tf.out Lc.out.fr (fun y hy=>Y.out y (by simp only[aM,aT,or_false]at hy;rcases hy with rfl | rfl <;> simp)));have Tc:=hid (Lc.out.ll a6.out.2.1);clear Lc Bc hc av ad a6;obtain⟨c0,c1,c2⟩:=bg.out _ _ _ bv.out.pd
 have KX:=hid (dh.out wE _ _ bv.out.pd);rw[e1.out]at KX;go_wp2_with fail;refine KX.out.mono ?_;rintro e wx ⟨rfl,y4,f4⟩;have Tg:=hid (LL.kept sS Tg.out f4 (fun y hy=>Y.out y (by rw[aD]at hy;subst hy;simp)));have Tw:=hid (LL.kept sS Tw.out f4 (fun y hy=>Y.out y (by rw[aD]at hy;subst hy;simp)));have Tk:=hid (LL.kept sS Tk.out f4 (fun y hy=>Y.out y (by rw[aD]at hy;subst hy;simp)));have To:=hid (LL.kept yX To.out f4 (fun y hy=>Y.out y (by rw[aD]at hy;subst hy;simp)));have Tf:=hid (LL.kept gFn Tf.out f4 (fun y hy=>Y.out y (by rw[aD]at hy;subst hy;simp)));have Tc:=hid (LL.kept gCo Tc.out f4 (fun y hy=>Y.out y (by rw[aD]at hy;subst hy;simp)));have S9:=hid (bv.out.read y4 f4);clear y4 f4 KX bv c0 c1 c2;have B7:=hid (HB.out wx S9.out.fr);have x0:wx.cell? ⟨J,0,none⟩=some (.string a):=S9.out.bx.cell 0
 have x1:wx.cell? ⟨J,1,none⟩=some (.slice gA gb.length gc):=S9.out.bx.cell 1;have x2:wx.cell? ⟨J,2,none⟩=some (.slice wA wb.length wc):=S9.out.bx.cell 2;have x3:wx.cell? ⟨J,3,none⟩=some (.slice kA kb.length kc):=S9.out.bx.cell 3;have x4:wx.cell? ⟨J,4,none⟩=some (.slice oA ob.length oc):=S9.out.bx.cell 4;have x5:wx.cell? ⟨J,5,none⟩=some (.slice fA fb.length fc):=S9.out.bx.cell 5;have x6:wx.cell? ⟨J,6,none⟩=some (.slice cA cb.length cc):=S9.out.bx.cell 6;have z0:wx.cell? ⟨bx,0,none⟩=some (.string ⟨#[]⟩):=B7.out.cell 0;have v0:=B7.out.free 0;have z1:wx.cell? ⟨bx,1,none⟩=some (.slice none 0 0):=B7.out.cell 1;have v1:=B7.out.free 1;have z2:wx.cell? ⟨bx,2,none⟩=some (.slice none 0 0):=B7.out.cell 2;have v2:=B7.out.free 2;have z3:wx.cell? ⟨bx,3,none⟩=some (.slice none 0 0):=B7.out.cell 3;have v3:=B7.out.free 3;have z4:wx.cell? ⟨bx,4,none⟩=some (.slice none 0 0):=B7.out.cell 4;have v4:=B7.out.free 4
 have z5:wx.cell? ⟨bx,5,none⟩=some (.slice none 0 0):=B7.out.cell 5;have v5:=B7.out.free 5;have z6:wx.cell? ⟨bx,6,none⟩=some (.slice none 0 0):=B7.out.cell 6;have v6:=B7.out.free 6;have b5:Below w.heap.size w wx:=by rw[bf.out];exact e7.out _ _ _ S9.out.pd
 have c5:w.heap.size≤bx:=by rw[bf.out];exact aY _
 by_cases hE:E=0
 ·subst hE
  obtain⟨hB,hD,bw⟩:=seven wx w bx _ _ _ _ _ _ _ _ (.string a) (.slice gA gb.length gc) (.slice wA wb.length wc) (.slice kA kb.length kc) (.slice oA ob.length oc) (.slice fA fb.length fc) (.slice cA cb.length cc) B7.out b5 c5;have ch:=hid hB;have ce:=hid hD;have b8:=hid bw;have hV:=hid (cj.out rfl);clear hB hD bw cj bd HB b5 c5;go_wp2_with fail;refine bodyPost_ret (results_cell_tmp rfl _ _ _ _ _ _ _ _ rfl rfl ch.out zJ rfl (by kernel_rfl)) rfl ?_;refine⟨⟨a,gA,gc,gb,wA,wc,wb,kA,kc,kb,⟨oA,oc,ob,fA,fc,fb,cA,cc,cb⟩⟩,rfl,?_,?_,ce.out⟩
  ·rw[hV.out]
   unfold MU.su MS.sys;dsimp only;have h1:=hg.out;have h2:=hw.out;have h3:=hk.out;have h4:=ca.out;rw[List.map_id']at h1 h2 h3 h4;rw[cd.out,ci.out,h1,h2,h3,h4]
  ·exact aBw a (LL.kept sS Tg.out b8.out (fun y hy=>Y.out y (by rw[aD]at hy;subst hy;simp))).tl (LL.kept sS Tw.out b8.out (fun y hy=>Y.out y (by rw[aD]at hy;subst hy;simp))).tl (LL.kept sS Tk.out b8.out (fun y hy=>Y.out y (by rw[aD]at hy;subst hy;simp))).tl (LL.kept yX To.out b8.out (fun y hy=>Y.out y (by rw[aD]at hy;subst hy;simp))) (LL.kept gFn Tf.out b8.out (fun y hy=>Y.out y (by rw[aD]at hy;subst hy;simp))) (LL.kept gCo Tc.out b8.out (fun y hy=>Y.out y (by rw[aD]at hy;subst hy;simp))) (by rw[bf.out];exact Nat.le_of_lt (Y.out bx (by simp)))
 ·have e0:(E != 0)=true:=by simpa using hE
  obtain⟨hB,hD,bw⟩:=seven wx w bx _ _ _ _ _ _ _ _ (.string ⟨#[]⟩) (.slice none 0 0) (.slice none 0 0) (.slice none 0 0) (.slice none 0 0) (.slice none 0 0) (.slice none 0 0) B7.out b5 c5;have ch:=hid hB;have ce:=hid hD;have hV:=hid (bd.out hE);clear hB hD bw cj bd HB To Tf Tc Tg Tw Tk hE b5 c5;go_wp2_with fail;refine bodyPost_ret (results_cell_tmp rfl _ _ _ _ _ _ _ _ rfl rfl ch.out zJ rfl (by kernel_rfl)) rfl ?_;refine⟨⟨⟨#[]⟩,none,0,[],none,0,[],none,0,[],⟨none,0,[],none,0,[],none,0,[]⟩⟩,rfl,?_,?_,ce.out⟩
  ·rw[hV.out];rfl
  ·exact fun _ _ _ _=>⟨fun h=>by simp at h,fun h=>by simp at h,fun h=>by simp at h,⟨fun h=>by simp at h,fun h=>by simp at h,fun h=>by simp at h,by simp,by simp,by simp,by simp,by simp,by simp⟩⟩
end re
namespace sf
open RowKit Go.Sort Shelf mem sy inn
theorem aHc(w:World)(A B:Option Addr)(c d:Nat)(l m:List (List UInt8))(hA:Rd w A (l.map encStr))(hB:Rd w B (m.map encStr))(a3:l.length≤maxLen)(a9:m.length≤maxLen) :
 Calls Tryz.prog 53 #[.slice A l.length c,.slice B m.length d] w (EqP (l=m) w):=by
 by_cases hlen:l.length=m.length;rotate_left
 ·have hP:Hid (¬l=m):=hid (fun e=>hlen (by rw[e]))
  have d0:(((l.length:Nat):Int) != (m.length:Int))=true:=by rw[bne_iff_ne];omega
  clear hA hB hlen;generalize l.length=n1 at *;generalize m.length=n2 at *;generalize (l=m)=Q at *;go_enter Tryz.func53,Tryz.ntmps53;go_wp2_with fail;go_ret;exact aHH hP.out (Below.refl _ _)
 rcases Nat.eq_zero_or_pos l.length with hz | hz
 ·obtain rfl:=List.eq_nil_of_length_eq_zero hz
  obtain rfl:=List.eq_nil_of_length_eq_zero (hlen.symm.trans hz);refine(inn.aAe w A B c d).mono ?_;rintro e w' ⟨rfl,b⟩;exact aFl rfl b
 obtain⟨g1,o1,rfl,a5,J⟩:=sM hA hz;obtain⟨g2,o2,rfl,a6,Y⟩:=sM hB (by omega);have H1:=hid J;have H2:=hid Y;have L1:=hid a5;have L2:=hid a6;have a1:Hid ((∀j (J:j<l.length) (Y:j<m.length),l[j] = m[j])→l=m):=hid (fun h=>List.ext_getElem hlen (fun j a b=>h j a b));have a4:Hid (∀j (J:j<l.length) (Y:j<m.length),¬l[j] = m[j]→¬l=m):=hid (fun j J Y h e=>h (by subst e;rfl));unfold maxLen at a3;clear J Y hA hB a5 a6 a9 hz;obtain⟨Q,hQ⟩:∃Q,Hid (Q=(l=m)):=⟨_,hid rfl⟩;rw[←hQ.out]at a1 a4 ⊢;clear hQ;rw[←hlen];replace hlen:=hid hlen;obtain⟨n,hn⟩:∃n,Hid (n=l.length):=⟨_,hid rfl⟩;rw[←hn.out]at a3 ⊢;have d0:(((n:Nat):Int) != (n:Int))=false:=by simp
 go_enter Tryz.func53,Tryz.ntmps53;go_wp2_with fail;go_loopw [5] (fun i wr=>∃k:Nat,k≤n∧i=.int .i64 k∧Hid (∀j (J:j<l.length) (Y:j<m.length),j<k→l[j] = m[j])∧Hid (Below w.heap.size w wr)) (fun i _=>n-(intOf i).toNat)
 case atStart=>exact⟨0,by omega,rfl,hid (fun j _ _ h=>by omega),hid (Below.refl _ _)⟩
 case round=>
  obtain⟨k,hk,rfl,hG,hb⟩:=hrel;rename_i wr _;by_cases a8:k<n
  ·have e1:decide ((k:Int)<(n:Int))=true:=aC (by omega)
   have k1:k<l.length:=by rw[←hn.out];exact a8
   have k2:k<m.length:=by rw[←hlen.out];exact k1
   have ck:wr.cell? ⟨g1,o1+k,none⟩=some (encStr l[k]):=(hb.out.cell (p:=⟨g1,o1+k,none⟩) L1.out).trans (H1.out k k1);have cm:wr.cell? ⟨g2,o2+k,none⟩=some (encStr m[k]):=(hb.out.cell (p:=⟨g2,o2+k,none⟩) L2.out).trans (H2.out k k2)
   have hY:Hid (l[k] = m[k]→∀j (J:j<l.length) (Y:j<m.length),j<k+1→l[j] = m[j]):=hid (fun h j J Y hj=>by
    by_cases e:j=k
    ·subst e;exact h
    ·exact hG.out j J Y (by omega))
   have hZ:=hid (a4.out k k1 k2);clear hG;unfold encStr at ck cm;generalize l[k] = x at *;generalize m[k] = y at *;by_cases a0:x=y
   ·subst a0
    have a7:=hid (hY.out rfl);clear hY hZ;generalize (ByteArray.mk x.toArray)=z at *;have e2:(z.data != z.data)=false:=by simp
    have a2:=hid hb.out.drew;clear hb;go_wp2_with fail;go_region;go_wp2_with fail;go_roundw
    case rel=>exact⟨k+1,by omega,by go_num,a7,a2⟩
    case measure=>simp[intOf];omega
   ·have hP:=hid (hZ.out a0)
    have e2:((ByteArray.mk x.toArray).data != (ByteArray.mk y.toArray).data)=true:=by
     rw[bne_iff_ne];intro e
     apply a0
     have:=congrArg Array.toList e
     simpa using this
    have e3:((ByteArray.mk x.toArray).toList==(ByteArray.mk y.toArray).toList)=false:=aLy (fun e=>a0 (by have:=congrArg (fun z:ByteArray=>z.data.toList) e;simpa using this));have a2:=hid hb.out.drew;clear hb hY hZ a0;generalize (ByteArray.mk x.toArray)=z1 at *;generalize (ByteArray.mk y.toArray)=z2 at *;go_wp2_with fail;go_region;go_wp2_with fail;go_ret;exact aHH hP.out a2.out
  ·obtain rfl:k=n:=by omega
   have e1:decide ((k:Int)<(k:Int))=false:=aB (by omega);have hP:Hid Q:=hid (a1.out (fun j J Y=>hG.out j J Y (by rw[←hn.out]at J;exact J)));go_wp2_with fail;go_ret;exact aFl hP.out hb.out
end sf
end Go.Proofs.YtdmmkjijgoiecaaGreatDoor
