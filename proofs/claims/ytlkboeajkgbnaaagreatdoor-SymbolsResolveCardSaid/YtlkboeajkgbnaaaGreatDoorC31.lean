import Derived.Test.YtlkboeajkgbnaaaGreatDoorC28
import Derived.Test.YtlkboeajkgbnaaaGreatDoorC32
set_option linter.all false
set_option maxHeartbeats 4000000
namespace Go.Proofs.YtlkboeajkgbnaaaGreatDoor
open Lib(hid)
set_option maxRecDepth 100000
set_option maxHeartbeats 8000000
namespace ym
open RowKit mem sy
open ins (foot WF Held vals noOf)
open re (tx SU MU SumM)
open sf (map_tx enc_tx wf_tx)
def useO(u:MU)(o:MO):MUs:=⟨mkUse u.su o.o.name o.o fZ,o.mA,o.mc⟩
def useF(u:MU)(f:SF):MUs:=⟨mkUse u.su f.name oZ f,none,0⟩
def usesM(u:MU):List (List UInt8×MUs):=u.s.os.map (fun o=>(tx o.o.name,useO u o))++u.s.fs.map (fun f=>(tx f.name,useF u f))
theorem usesM_plain(u:MU):(usesM u).map (fun p=>(p.1,p.2.u))=usesOf u.su:=by
 unfold usesM usesOf MU.su MS.sys useO useF;simp[List.map_map,Function.comp_def,MU.su,MS.sys]
theorem fold_plain:∀(l:List (List UInt8×MUs)) (s:List (List UInt8)×List (List MUs)),plainU (l.foldl putM s)=(l.map (fun p=>(p.1,p.2.u))).foldl putU (plainU s)
 | [],s=>rfl
 | p :: l,s=>by
  rw[List.foldl_cons,List.map_cons,List.foldl_cons,fold_plain l,putM_plain]
structure SumR(w:World)(u:MU):Prop where
 m:SumM w u
 g:(u.gives.map tx).Pairwise (fun a b=>a<b)
 w:(u.wants.map tx).Pairwise (fun a b=>a<b)
 gl:u.gives.length≤1000000
 wl:u.wants.length≤1000000
 n:u.name.size≤maxLen
theorem SumR.below{w w':World}{u:MU}(h:SumR w u)(hb:Below w.heap.size w w'):SumR w' u:=⟨h.m.below hb,h.g,h.w,h.gl,h.wl,h.n⟩
def APost(w0:World)(b N:Nat)(s:List (List UInt8)×List (List MUs))(F:List Nat)(w:World)(e:Ending)(w':World):Prop:=e=.returned (.tuple #[])∧∃F',UM w0 b N s F' w'∧UStep F w F' w'
theorem foldl_takeM(l:List (List UInt8×MUs))(s:List (List UInt8)×List (List MUs)){k:Nat}(hk:k<l.length):(l.take (k+1)).foldl putM s=putM ((l.take k).foldl putM s) l[k]:=by
 rw[List.take_succ_eq_append_getElem hk,List.foldl_append];rfl
structure AL(w0 W:World)(b N:Nat)(s:List (List UInt8)×List (List MUs))(F:List Nat)(w:World):Prop where
 ex:∃F',UM w0 b N s F' w∧UStep F W F' w
 on:Below w0.heap.size w0 w
theorem AL.start{w0 W:World}{b N:Nat}{s:List (List UInt8)×List (List MUs)}{F:List Nat}(h:UM w0 b N s F W):AL w0 W b N s F W:=⟨⟨F,h,UStep.refl _ _⟩,h.on⟩
theorem AL.below{w0 W w w':World}{b N:Nat}{s:List (List UInt8)×List (List MUs)}{F:List Nat}(h:AL w0 W b N s F w)(hb:Below w.heap.size w w'):AL w0 W b N s F w':=by
 obtain⟨F',hu,hs⟩:=h.ex;exact⟨⟨F',hu.below hb,hs.trans (UStep.of_below hb)⟩,h.on.trans (hb.mono h.on.size)⟩
theorem AL.box{w0 W w:World}{b N:Nat}{s:List (List UInt8)×List (List MUs)}{F:List Nat}(h:AL w0 W b N s F w){g:Nat}{t:TypeId}{cs:Array Value}(hb:Box W g t cs)(hn:g∉F):Box w g t cs:=by
 obtain⟨F',hu,hs⟩:=h.ex;exact hb.kept hs.1 hn
theorem al_put{w0 W w:World}{b N:Nat}{s:List (List UInt8)×List (List MUs)}{F:List Nat}(h:AL w0 W b N s F w)(x:List UInt8)(u:MUs)(hx:WF x)(hN:N<900000) :
 Calls Tryz.prog 40 #[.pointer (some ⟨b,0,none⟩),encStr x,u.val] w (fun e w'=>e=.returned (.tuple #[])∧AL w0 W b (N+1) (putM s (x,u)) F w'∧∀g,g<w.heap.size→(∀F',UM w0 b N s F' w→UStep F W F' w→g∉F')→w'.heap[g]? = w.heap[g]?):=by
 obtain⟨F',hu,hs⟩:=h.ex;refine(uput_any w0 w b N s F' x u hu hx hN).mono ?_;rintro e w' ⟨rfl,F2,h2,k2⟩;exact⟨rfl,⟨⟨F2,h2,hs.trans k2⟩,h2.on⟩,fun g hg hn=>k2.1.block g hg (hn F' hu hs)⟩
theorem all_any(w0 w:World)(b N:Nat)(s:List (List UInt8)×List (List MUs))(F:List Nat)(u:MU)(hu:SumR w0 u)(h:UM w0 b N s F w)(hN:N+u.s.os.length+u.s.fs.length<900000) :
 Calls Tryz.prog 14 #[.pointer (some ⟨b,0,none⟩),u.val] w (APost w0 b (N+u.s.os.length+u.s.fs.length) ((usesM u).foldl putM s) F w):=by
 obtain⟨W,hWe⟩:∃W,Hid (W=w.alloc (.cells u.row 43)):=⟨_,hid rfl⟩;have B:Box W w.heap.size 43 u.row:=by rw[hWe.out];exact Box.new _ _ _
 have b0:Below w.heap.size w W:=by rw[hWe.out];exact(Below.refl _ _).alloc (Nat.le_refl _) _
 have hsF:w.heap.size∉F:=fun hm=>by have:=(h.foot _ hm).2;omega
 have A0:=hid (AL.start (h.below b0));have HB:Hid (∀N' s' w2,AL w0 W b N' s' F w2→Box w2 w.heap.size 43 u.row):=hid (fun N' s' w2 ha=>ha.box B hsF);have HU:Hid (∀N' s' w2,AL w0 W b N' s' F w2→SumR w2 u):=hid (fun N' s' w2 ha=>hu.below ha.on)
 have HK:Hid (∀N' s' w2 (n:ByteArray),AL w0 W b N' s' F w2→Calls Tryz.prog 38 #[.string n,.pointer (some ⟨w.heap.size,0,none⟩)] w2 (UsePost w2 u.su n)):=hid (fun N' s' w2 n ha=>by
  have q:=hu.below ha.on
  exact use_any w2 w.heap.size u n q.m (ha.box B hsF) q.g q.w q.gl q.wl)
 have HE:Hid (∀w2,AL w0 W b (N+u.s.os.length+u.s.fs.length) ((usesM u).foldl putM s) F w2→APost w0 b (N+u.s.os.length+u.s.fs.length) ((usesM u).foldl putM s) F w (.returned (.tuple #[])) w2):=hid (fun w2 ha=>by
  obtain⟨F',h1,h2⟩:=ha.ex
  exact⟨rfl,F',h1,(UStep.of_below b0).trans h2⟩)
 obtain⟨L,hL⟩:∃L,Hid (L=usesM u):=⟨_,hid rfl⟩;obtain⟨Q,hQ⟩:∃Q:Ending→World→Prop,Hid (Q=APost w0 b (N+u.s.os.length+u.s.fs.length) ((usesM u).foldl putM s) F w):=⟨_,hid rfl⟩;rw[←hQ.out]at HE ⊢;rw[←hL.out]at HE;have hLl:Hid (L.length=u.s.os.length+u.s.fs.length):=hid (by rw[hL.out];unfold usesM;rw[List.length_append,List.length_map,List.length_map])
 have hLo:Hid (∀k (h1:k<u.s.os.length) (h2:k<L.length),L[k] = (tx u.s.os[k].o.name,useO u u.s.os[k])):=hid (fun k h1 h2=>by
  have:L[k] = (usesM u)[k]'(by rw[←hL.out];exact h2):=List.getElem_of_eq hL.out h2;rw[this];unfold usesM
  rw[List.getElem_append_left (by rw[List.length_map];exact h1),List.getElem_map])
 have hLf:Hid (∀k (h1:k<u.s.fs.length) (h2:u.s.os.length+k<L.length),L[u.s.os.length+k] = (tx u.s.fs[k].name,useF u u.s.fs[k])):=hid (fun k h1 h2=>by
  have:L[u.s.os.length+k] = (usesM u)[u.s.os.length+k]'(by rw[←hL.out];exact h2):=List.getElem_of_eq hL.out h2;rw[this];unfold usesM;rw[List.getElem_append_right (by rw[List.length_map];omega),List.getElem_map]
  simp)
 clear h hu B b0 hsF hL hQ;have x4:W.cell? ⟨w.heap.size,4,none⟩=some (.slice u.s.oA u.s.os.length u.s.oc):=(HB.out _ _ W A0.out).cell 4;obtain⟨nm,gA,gc,gs,wA,wc,ws,kA,kc,ks,⟨oA,oc,os,fA,fc,fs,cA,cc,cs⟩⟩:=u;unfold MU.val;unfold MU.row at *;dsimp only at *;obtain⟨no,hno⟩:∃no,Hid (no=os.length):=⟨_,hid rfl⟩;obtain⟨nf,hnf⟩:∃nf,Hid (nf=fs.length):=⟨_,hid rfl⟩;rw[←hno.out]at hWe HB HE hN hLl hLf x4 ⊢;rw[←hnf.out]at hWe HB HE hN hLl ⊢;have A0':Hid (AL w0 W b (N+0) ((L.take 0).foldl putM s) F W):=A0;clear A0;go_enter Tryz.func14,Tryz.ntmps14;go_upto_region 1 with fail;rw[←hWe.out];clear hWe;generalize hbx:w.heap.size=sb at *;clear hbx;go_wp2_with fail;go_loopw [6,7,16] (fun _ _ i wr=>∃k:Nat,k≤no∧i=.int .i64 k∧Hid (AL w0 W b (N+k) ((L.take k).foldl putM s) F wr)) (fun _ _ i _=>no-(intOf i).toNat)
 case atStart=>exact⟨0,by omega,rfl,A0'⟩
 case round=>
  obtain⟨k,hk,rfl,HA⟩:=hrel
  rename World=>wr
  clear A0';by_cases hkl:k<no
  ·have e1:decide ((k:Int)<(no:Int))=true:=decide_eq_true (by omega)
   have hkx:k<os.length:=by rw[←hno.out];exact hkl
   have hkL:k<L.length:=by rw[hLl.out];omega
   have hU:=HU.out _ _ wr HA.out;obtain⟨g,off,rfl,hg,c0,c1,c2⟩:=tbl_obj hU.m.sr.o hkx;have hx:WF (tx os[k].o.name):=wf_tx (hU.m.sr.ok os[k] (List.getElem_mem hkx)).n;have hnx:=hid (foldl_takeM L s hkL);have hLk:=hid (hLo.out k hkx hkL);rw[hLk.out]at hnx;clear hLk hkL hU hg;generalize os[k] = x at *;obtain⟨⟨xn,xk,xm⟩,xA,xc⟩:=x;dsimp only at c0 c1 c2 hx hnx;obtain⟨w1,hw1⟩:∃w1,Hid (w1=wr.alloc (.cells #[.string xn,.string xk,.slice xA xm.length xc] 70)):=⟨_,hid rfl⟩;have b1:Below wr.heap.size wr w1:=by rw[hw1.out];exact((Fr.refl [] wr).alloc _).all
   have B1:Box w1 wr.heap.size 70 #[.string xn,.string xk,.slice xA xm.length xc]:=by rw[hw1.out];exact Box.new wr _ _
   have KU:=hid (HK.out _ _ w1 xn (HA.out.below b1));have HP:Hid (∀w2,Below wr.heap.size wr w2→Calls Tryz.prog 40 #[.pointer (some ⟨b,0,none⟩),encStr (tx xn),(useO _ _).val] w2 _):=hid (fun w2 b2=>al_put (HA.out.below b2) (tx xn) (useO ⟨nm,gA,gc,gs,wA,wc,ws,kA,kc,ks,⟨some ⟨g,off,none⟩,oc,os,fA,fc,fs,cA,cc,cs⟩⟩ ⟨⟨xn,xk,xm⟩,xA,xc⟩) hx (by omega));unfold UsePost use0 mkUse MUs.val oZ fZ MU.su at KU;rw[←hnx.out]at HP;rw[enc_tx]at HP;unfold useO mkUse MUs.val fZ MU.su at HP;dsimp only[List.length_nil]at KU HP;have hb1:=hid b1;have HB1:=hid B1;have y0:w1.cell? ⟨wr.heap.size,0,none⟩=some (.string xn):=B1.cell 0;clear hnx hx b1 B1;generalize decide (tx xn∈gs.map tx)=ug at *;generalize decide (tx xn∈ws.map tx)=uw at *;generalize xm.length=ml at *;go_upto_region 5 with fail;rw[←hw1.out];clear hw1 c0 c1 c2;go_wp2_with fail;refine KU.out.mono ?_;rintro e w2 ⟨rfl,b2⟩;have b12:=hid (hb1.out.trans (b2.mono hb1.out.size))
   have B2:=hid (HB1.out.kept (Fr.of_below b2 []) (by simp));clear b2 KU y0;go_upto_region 6 with fail;obtain⟨w3,hw3⟩:∃w3,Hid (w3=w2.alloc (.cells #[.string nm,.bool ug,.bool uw,.string ⟨#[]⟩,.string ⟨#[]⟩,.slice none 0 0,.string ⟨#[]⟩,.string ⟨#[]⟩,.string ⟨#[]⟩] 83)):=⟨_,hid rfl⟩;have B3:Box w3 w2.heap.size 83 #[.string nm,.bool ug,.bool uw,.string ⟨#[]⟩,.string ⟨#[]⟩,.slice none 0 0,.string ⟨#[]⟩,.string ⟨#[]⟩,.string ⟨#[]⟩]:=by rw[hw3.out];exact Box.new w2 _ _
   have B3o:Box w3 wr.heap.size 70 #[.string xn,.string xk,.slice xA ml xc]:=by rw[hw3.out];exact B2.out.kept ((Fr.refl [] w2).alloc _) (by simp)
   have b3:Below wr.heap.size wr w3:=by rw[hw3.out];exact b12.out.trans (((Fr.refl [] w2).alloc _).below (by simp) b12.out.size)
   have hle2:wr.heap.size≤w2.heap.size:=b12.out.size;have hlt2:wr.heap.size<w2.heap.size:=B2.out.lt;have hb3:=hid b3;have HB3:=hid B3;have HB3o:=hid B3o;rw[←hw3.out];clear hw3 b3;generalize hub:w2.heap.size=ub at *;generalize htb:wr.heap.size=tb at *;have y0:w3.cell? ⟨tb,0,none⟩=some (.string xn):=B3o.cell 0;have y1:w3.cell? ⟨tb,1,none⟩=some (.string xk):=B3o.cell 1;have y2:w3.cell? ⟨tb,2,none⟩=some (.slice xA ml xc):=B3o.cell 2;have z3:w3.cell? ⟨ub,3,none⟩=some (.string ⟨#[]⟩):=B3.cell 3;have z4:w3.cell? ⟨ub,4,none⟩=some (.string ⟨#[]⟩):=B3.cell 4;have z5:w3.cell? ⟨ub,5,none⟩=some (.slice none 0 0):=B3.cell 5;have v3:=B3.free 3;have v4:=B3.free 4;have v5:=B3.free 5;clear B3 B3o b12 B2;go_upto_region 7 with fail;obtain⟨w4,hw4⟩:∃w4,Hid (w4=((w3.setCell ⟨ub,3,none⟩ (.string xn)).setCell ⟨ub,4,none⟩ (.string xk)).setCell ⟨ub,5,none⟩ (.slice xA ml xc)):=⟨_,hid rfl⟩;have f4:Fr [ub] w3 w4:=by
    have p:∀i:Nat,(⟨ub,i,none⟩:Addr).block∈[ub]∨w3.heap.size≤(⟨ub,i,none⟩:Addr).block:=fun i=>Or.inl (by simp)
    rw[hw4.out];exact(((Fr.refl [ub] w3).setCell (p 3) _).setCell (p 4) _).setCell (p 5) _
   have B4:Box w4 ub 83 #[.string nm,.bool ug,.bool uw,.string xn,.string xk,.slice xA ml xc,.string ⟨#[]⟩,.string ⟨#[]⟩,.string ⟨#[]⟩]:=by
    have:=((HB3.out.put 3 (.string xn)).put 4 (.string xk)).put 5 (.slice xA ml xc);rw[hw4.out]
    simpa using this
   have B4o:=HB3o.out.kept f4 (by simp;omega);have b4:Below tb wr w4:=hb3.out.trans (f4.below (by simp;omega) (by have:=hb3.out.size;omega));rw[←hw4.out];have KP:=hid (HP.out w4 b4);have q0:w4.cell? ⟨ub,0,none⟩=some (.string nm):=B4.cell 0;have q1:w4.cell? ⟨ub,1,none⟩=some (.bool ug):=B4.cell 1;have q2:w4.cell? ⟨ub,2,none⟩=some (.bool uw):=B4.cell 2;have q3:w4.cell? ⟨ub,3,none⟩=some (.string xn):=B4.cell 3;have q4:w4.cell? ⟨ub,4,none⟩=some (.string xk):=B4.cell 4;have q5:w4.cell? ⟨ub,5,none⟩=some (.slice xA ml xc):=B4.cell 5;have q6:w4.cell? ⟨ub,6,none⟩=some (.string ⟨#[]⟩):=B4.cell 6;have q7:w4.cell? ⟨ub,7,none⟩=some (.string ⟨#[]⟩):=B4.cell 7;have q8:w4.cell? ⟨ub,8,none⟩=some (.string ⟨#[]⟩):=B4.cell 8;have r0:w4.cell? ⟨tb,0,none⟩=some (.string xn):=B4o.cell 0;clear hw4 f4 B4 B4o b4 y0 y1 y2 z3 z4 z5 v3 v4 v5 hb3 HB3 HB3o HP hb1 HB1;go_wp2_with fail;refine KP.out.mono ?_;rintro e w5 ⟨rfl,ha,_⟩
   have HA2:=hid ha;clear ha KP HA q0 q1 q2 q3 q4 q5 q6 q7 q8 r0;go_wp2_with fail;go_roundw
   case rel=>exact⟨k+1,by omega,by go_num,HA2⟩
   case measure=>simp[intOf];omega
  ·obtain rfl:k=no:=by omega
   have e1:decide ((k:Int)<(k:Int))=false:=decide_eq_false (by omega);obtain⟨kO,hkO⟩:∃kO,Hid (kO=k):=⟨_,hid rfl⟩;have HA3:Hid (AL w0 W b (N+kO+0) ((L.take (kO+0)).foldl putM s) F wr):=by rw[hkO.out];exact HA
   have x5:wr.cell? ⟨sb,5,none⟩=some (.slice fA nf fc):=(HB.out _ _ wr HA.out).cell 5;clear HA;go_wp2_with fail;clear x5;go_loopw [9,10,36] (fun _ _ i wr=>∃j:Nat,j≤nf∧i=.int .i64 j∧Hid (AL w0 W b (N+kO+j) ((L.take (kO+j)).foldl putM s) F wr)) (fun _ _ i _=>nf-(intOf i).toNat)
   case atStart=>exact⟨0,by omega,rfl,HA3⟩
   case round=>
    obtain⟨j,hj,rfl,HA⟩:=hrel
    rename World=>wr2
    clear HA3 x4;by_cases hjl:j<nf
    ·have e1:decide ((j:Int)<(nf:Int))=true:=decide_eq_true (by omega)
     have hjx:j<fs.length:=by rw[←hnf.out];exact hjl
     have hjL:kO+j<L.length:=by rw[hLl.out,←hkO.out];omega
     have hU:=HU.out _ _ wr2 HA.out;obtain⟨g,off,rfl,hg,c0,c1,c2⟩:=tbl_fn hU.m.sr.f hjx;have hx:WF (tx fs[j].name):=wf_tx (hU.m.sr.fk fs[j] (List.getElem_mem hjx)).n;have hnx:=hid (foldl_takeM L s hjL)
     have hLk:Hid (L[kO+j] = (tx fs[j].name,useF _ fs[j])):=hid (by
      have:=hLf.out j hjx (by rw[←hkO.out];exact hjL)
      simpa only[←hkO.out] using this)
     rw[hLk.out]at hnx;have hN9:N+kO+j<900000:=by rw[hkO.out];omega
     clear hLk hjL hU hg;generalize fs[j] = x at *;obtain⟨xn,xk,xr⟩:=x;dsimp only at c0 c1 c2 hx hnx;obtain⟨w1,hw1⟩:∃w1,Hid (w1=wr2.alloc (.cells #[.string xn,.string xk,.string xr] 72)):=⟨_,hid rfl⟩;have b1:Below wr2.heap.size wr2 w1:=by rw[hw1.out];exact((Fr.refl [] wr2).alloc _).all
     have B1:Box w1 wr2.heap.size 72 #[.string xn,.string xk,.string xr]:=by rw[hw1.out];exact Box.new wr2 _ _
     have KU:=hid (HK.out _ _ w1 xn (HA.out.below b1));have HP:Hid (∀w2,Below wr2.heap.size wr2 w2→Calls Tryz.prog 40 #[.pointer (some ⟨b,0,none⟩),encStr (tx xn),(useF _ _).val] w2 _):=hid (fun w2 b2=>al_put (HA.out.below b2) (tx xn) (useF ⟨nm,gA,gc,gs,wA,wc,ws,kA,kc,ks,⟨oA,oc,os,some ⟨g,off,none⟩,fc,fs,cA,cc,cs⟩⟩ ⟨xn,xk,xr⟩) hx hN9);unfold UsePost use0 mkUse MUs.val oZ fZ MU.su at KU;have hnx2:putM ((L.take (kO+j)).foldl putM s) (tx xn,useF ⟨nm,gA,gc,gs,wA,wc,ws,kA,kc,ks,⟨oA,oc,os,some ⟨g,off,none⟩,fc,fs,cA,cc,cs⟩⟩ ⟨xn,xk,xr⟩)=(L.take (kO+j+1)).foldl putM s:=hnx.out.symm;rw[hnx2]at HP;clear hnx2;rw[enc_tx]at HP;unfold useF mkUse MUs.val oZ MU.su at HP;dsimp only[List.length_nil]at KU HP;have hb1:=hid b1;have HB1:=hid B1;have y0:w1.cell? ⟨wr2.heap.size,0,none⟩=some (.string xn):=B1.cell 0;clear hnx hx b1 B1;generalize decide (tx xn∈gs.map tx)=ug at *;generalize decide (tx xn∈ws.map tx)=uw at *
     go_upto_region 12 with fail;rw[←hw1.out];clear hw1 c0 c1 c2;go_wp2_with fail;refine KU.out.mono ?_;rintro e w2 ⟨rfl,b2⟩;have b12:=hid (hb1.out.trans (b2.mono hb1.out.size));have B2:=hid (HB1.out.kept (Fr.of_below b2 []) (by simp));clear b2 KU y0;go_upto_region 13 with fail;obtain⟨w3,hw3⟩:∃w3,Hid (w3=w2.alloc (.cells #[.string nm,.bool ug,.bool uw,.string ⟨#[]⟩,.string ⟨#[]⟩,.slice none 0 0,.string ⟨#[]⟩,.string ⟨#[]⟩,.string ⟨#[]⟩] 83)):=⟨_,hid rfl⟩;have B3:Box w3 w2.heap.size 83 #[.string nm,.bool ug,.bool uw,.string ⟨#[]⟩,.string ⟨#[]⟩,.slice none 0 0,.string ⟨#[]⟩,.string ⟨#[]⟩,.string ⟨#[]⟩]:=by rw[hw3.out];exact Box.new w2 _ _
     have B3o:Box w3 wr2.heap.size 72 #[.string xn,.string xk,.string xr]:=by rw[hw3.out];exact B2.out.kept ((Fr.refl [] w2).alloc _) (by simp)
     have b3:Below wr2.heap.size wr2 w3:=by rw[hw3.out];exact b12.out.trans (((Fr.refl [] w2).alloc _).below (by simp) b12.out.size)
     have hlt2:wr2.heap.size<w2.heap.size:=B2.out.lt;have hb3:=hid b3;have HB3:=hid B3;have HB3o:=hid B3o;rw[←hw3.out];clear hw3 b3;generalize hub:w2.heap.size=ub at *;generalize htb:wr2.heap.size=tb at *;have y0:w3.cell? ⟨tb,0,none⟩=some (.string xn):=B3o.cell 0;have y1:w3.cell? ⟨tb,1,none⟩=some (.string xk):=B3o.cell 1;have y2:w3.cell? ⟨tb,2,none⟩=some (.string xr):=B3o.cell 2;have z3:w3.cell? ⟨ub,6,none⟩=some (.string ⟨#[]⟩):=B3.cell 6;have z4:w3.cell? ⟨ub,7,none⟩=some (.string ⟨#[]⟩):=B3.cell 7;have z5:w3.cell? ⟨ub,8,none⟩=some (.string ⟨#[]⟩):=B3.cell 8;have v3:=B3.free 6;have v4:=B3.free 7;have v5:=B3.free 8;clear B3 B3o b12 B2;go_upto_region 14 with fail;obtain⟨w4,hw4⟩:∃w4,Hid (w4=((w3.setCell ⟨ub,6,none⟩ (.string xn)).setCell ⟨ub,7,none⟩ (.string xk)).setCell ⟨ub,8,none⟩ (.string xr)):=⟨_,hid rfl⟩;have f4:Fr [ub] w3 w4:=by
      have p:∀i:Nat,(⟨ub,i,none⟩:Addr).block∈[ub]∨w3.heap.size≤(⟨ub,i,none⟩:Addr).block:=fun i=>Or.inl (by simp)
      rw[hw4.out];exact(((Fr.refl [ub] w3).setCell (p 6) _).setCell (p 7) _).setCell (p 8) _
     have B4:Box w4 ub 83 #[.string nm,.bool ug,.bool uw,.string ⟨#[]⟩,.string ⟨#[]⟩,.slice none 0 0,.string xn,.string xk,.string xr]:=by
      have:=((HB3.out.put 6 (.string xn)).put 7 (.string xk)).put 8 (.string xr);rw[hw4.out]
      simpa using this
     have B4o:=HB3o.out.kept f4 (by simp;omega);have b4:Below tb wr2 w4:=hb3.out.trans (f4.below (by simp;omega) (by have:=hb3.out.size;omega));rw[←hw4.out];have KP:=hid (HP.out w4 b4);have q0:w4.cell? ⟨ub,0,none⟩=some (.string nm):=B4.cell 0;have q1:w4.cell? ⟨ub,1,none⟩=some (.bool ug):=B4.cell 1;have q2:w4.cell? ⟨ub,2,none⟩=some (.bool uw):=B4.cell 2;have q3:w4.cell? ⟨ub,3,none⟩=some (.string ⟨#[]⟩):=B4.cell 3;have q4:w4.cell? ⟨ub,4,none⟩=some (.string ⟨#[]⟩):=B4.cell 4;have q5:w4.cell? ⟨ub,5,none⟩=some (.slice none 0 0):=B4.cell 5;have q6:w4.cell? ⟨ub,6,none⟩=some (.string xn):=B4.cell 6;have q7:w4.cell? ⟨ub,7,none⟩=some (.string xk):=B4.cell 7;have q8:w4.cell? ⟨ub,8,none⟩=some (.string xr):=B4.cell 8;have r0:w4.cell? ⟨tb,0,none⟩=some (.string xn):=B4o.cell 0;clear hw4 f4 B4 B4o b4 y0 y1 y2 z3 z4 z5 v3 v4 v5 hb3 HB3 HB3o HP hb1 HB1;go_wp2_with fail;refine KP.out.mono ?_;rintro e w5 ⟨rfl,ha,_⟩
     have HA2:=hid ha;clear ha KP HA q0 q1 q2 q3 q4 q5 q6 q7 q8 r0;go_wp2_with fail;go_roundw
     case rel=>exact⟨j+1,by omega,by go_num,HA2⟩
     case measure=>simp[intOf];omega
    ·obtain rfl:j=nf:=by omega
     have e1:decide ((j:Int)<(j:Int))=false:=decide_eq_false (by omega)
     have hfin:Hid (Q (.returned (.tuple #[])) wr2):=hid (by
      apply HE.out
      have:=HA.out;rw[hkO.out,List.take_of_length_le (by rw[hLl.out];omega)]at this
      exact this)
     clear HA;go_wp2_with fail
     (try simp only[Exit.inBlock,Exit.then])
     refine bodyPost_ret (results_none rfl _ _ _) rfl ?_;exact hfin.out
end ym
namespace ym
open RowKit mem sy
open re (tx SU MU SumM)
open sf (map_tx enc_tx SumK putL esC fst0 orE risB)
open inn (rsS)
def rowS(u:MU):List Value:=[.string u.name,.slice u.gA u.gives.length u.gc,.slice u.wA u.wants.length u.wc,.slice u.kA u.keeps.length u.kc,.slice u.s.oA u.s.os.length u.s.oc,.slice u.s.fA u.s.fs.length u.s.fc,.slice u.s.cA u.s.cs.length u.s.cc]
structure SusM(w:World)(A:Option Addr)(l:List MU):Prop where
 t:Tbl w A 7 (l.map rowS)
 k:∀u∈l,SumK w u
 n:∀u∈l,u.s.os.length+u.s.fs.length≤1000
theorem SusM.below{w w':World}{A:Option Addr}{l:List MU}(h:SusM w A l)(hb:Below w.heap.size w w'):SusM w' A l:=⟨h.t.below hb,fun u hu=>(h.k u hu).below hb,h.n⟩
theorem SusM.at_{w:World}{A:Option Addr}{l:List MU}(h:SusM w A l){k:Nat}(hk:k<l.length):∃g off,A=some ⟨g,off,none⟩∧g<w.heap.size∧∀i v,(rowS l[k])[i]? = some v→w.cell? ⟨g,off+k * 7+i,none⟩=some v:=by
 obtain⟨b,off,e,hl,hc⟩:=h.t (by rw[List.length_map];omega);exact⟨b,off,e,hl,fun i v hv=>hc k (by rw[List.length_map];exact hk) i v (by rw[List.getElem_map];exact hv)⟩
theorem wants_rise(u:SU)(h:fst0 (esC u)=0):(u.wants.map tx).Pairwise (fun a b=>a<b):=by
 have hz:=fst0_zero _ h;have h1:orE (risB (u.wants.map tx)) 13=0:=hz _ (by unfold esC;simp);unfold orE at h1;cases hb:risB (u.wants.map tx)with
 | false=>rw[hb]at h1;exact absurd h1 (by decide)
 | true=>exact risB_pair _ hb
theorem sumR_of{w:World}{u:MU}(h:SumK w u)(h0:fst0 (esC u.su)=0):SumR w u:=⟨h.m,gives_rise u.su h0,wants_rise u.su h0,h.gl,Nat.le_trans h.wl (by decide),h.n⟩
structure RS(w:World)(X:List Nat)(N1:Nat)(ms:List (List UInt8))(N2:Nat)(s:List (List UInt8)×List (List MUs))(wr:World):Prop where
 ex:∃A cap m F,ins.Tb wr (w.heap.size+3) A cap m N1 ms∧UM w (w.heap.size+4) N2 s F wr∧(∀g∈ins.foot (w.heap.size+3) A m,w.heap.size≤g∧g∉F)∧∀x∈X,x<wr.heap.size∧x∉ins.foot (w.heap.size+3) A m∧x∉F
 on:Below w.heap.size w wr
section
variable {w wr w':World} {X:List Nat} {N1 N2:Nat} {ms:List (List UInt8)} {s:List (List UInt8)×List (List MUs)}
theorem RS.below(h:RS w X N1 ms N2 s wr)(hb:Below wr.heap.size wr w'):RS w X N1 ms N2 s w':=by
 obtain⟨A,cap,m,F,h1,h2,h3,h4⟩:=h.ex;exact⟨⟨A,cap,m,F,h1.kept (Fr.of_below hb []) (by simp),h2.below hb,h3,fun x hx=>⟨Nat.lt_of_lt_of_le (h4 x hx).1 hb.size,(h4 x hx).2⟩⟩,h.on.trans (hb.mono h.on.size)⟩
theorem RS.add(h:RS w X N1 ms N2 s wr)(o:Obj):RS w (wr.heap.size :: X) N1 ms N2 s (wr.alloc o):=by
 obtain⟨A,cap,m,F,h1,h2,h3,h4⟩:=h.ex;have hb:Below wr.heap.size wr (wr.alloc o):=((Fr.refl [] wr).alloc o).all;refine⟨⟨A,cap,m,F,h1.kept (Fr.of_below hb []) (by simp),h2.below hb,h3,fun x hx=>?_⟩,h.on.trans (hb.mono h.on.size)⟩;rcases List.mem_cons.1 hx with e | e
 ·subst e
  refine⟨by simp,fun hm=>?_,fun hm=>?_⟩
  ·have:=h1.lt _ hm;omega
  ·have:=(h2.foot _ hm).2;omega
 ·exact⟨Nat.lt_of_lt_of_le (h4 x e).1 hb.size,(h4 x e).2⟩
theorem RS.less{x:Nat}(h:RS w (x :: X) N1 ms N2 s wr):RS w X N1 ms N2 s wr:=by
 obtain⟨A,cap,m,F,h1,h2,h3,h4⟩:=h.ex;exact⟨⟨A,cap,m,F,h1,h2,h3,fun y hy=>h4 y (List.mem_cons_of_mem _ hy)⟩,h.on⟩
theorem rs_put(h:RS w X N1 ms N2 s wr)(x:List UInt8)(hx:ins.WF x)(hN:N1<900000) :
 Calls Tryz.prog 13 #[.pointer (some ⟨w.heap.size+3,0,none⟩),encStr x] wr (fun e w'=>(∃i:Int,e=.returned (.tuple #[.int .i64 i,.bool (!decide (x∈ms))]))∧RS w X (N1+1) (putL ms x) N2 s w'∧∀q∈X,w'.heap[q]? = wr.heap[q]?):=by
 obtain⟨A,cap,m,F,h1,h2,h3,h4⟩:=h.ex;by_cases hin:x∈ms
 ·refine(ins.put_old wr _ A cap m N1 ms x h1 hx hin).mono ?_
  rintro e w' ⟨rfl,hb⟩;have hp:putL ms x=ms:=by unfold putL;rw[if_pos hin]
  rw[hp];have h5:=h.below hb;obtain⟨A2,cap2,m2,F2,k1,k2,k3,k4⟩:=h5.ex;exact⟨⟨_,by rw[decide_eq_true hin];rfl⟩,⟨⟨A2,cap2,m2,F2,⟨k1.box,k1.seg,k1.set.mono (Nat.le_succ _),k1.nod,k1.wf,Nat.le_succ_of_le k1.len⟩,k2,k3,k4⟩,h5.on⟩,fun q hq=>hb.block q (h4 q hq).1⟩
 ·refine(ins.put_any wr _ A cap m N1 ms x h1 hx hin (by omega)).mono ?_
  rintro e w' ⟨rfl,hF,A2,cap2,m2,ht,hf⟩;have hp:putL ms x=ms++[x]:=by unfold putL;rw[if_neg hin]
  rw[hp];have hge:∀g∈ins.foot (w.heap.size+3) A m,w.heap.size≤g:=fun g hg=>(h3 g hg).1
  refine⟨⟨_,by rw[decide_eq_false hin];rfl⟩,⟨⟨A2,cap2,m2,F,ht,h2.kept hF (fun g hg hm=>(h3 g hm).2 hg) hge,fun g hg=>?_,fun q hq=>?_⟩,h.on.trans (hF.below hge h.on.size)⟩,fun q hq=>hF.block q (h4 q hq).1 (h4 q hq).2.1⟩
  ·rcases hf g hg with h5 | h5
   ·exact h3 g h5
   ·exact⟨Nat.le_trans h.on.size h5,fun hm=>by have:=(h2.foot g hm).2;omega⟩
  ·refine⟨Nat.lt_of_lt_of_le (h4 q hq).1 hF.size,fun hm=>?_,(h4 q hq).2.2⟩
   rcases hf q hm with h5 | h5
   ·exact(h4 q hq).2.1 h5
   ·have:=(h4 q hq).1;omega
theorem rs_all(h:RS w X N1 ms N2 s wr)(u:MU)(hu:SumR w u)(hN:N2+u.s.os.length+u.s.fs.length<900000) :
 Calls Tryz.prog 14 #[.pointer (some ⟨w.heap.size+4,0,none⟩),u.val] wr (fun e w'=>e=.returned (.tuple #[])∧RS w X N1 ms (N2+u.s.os.length+u.s.fs.length) ((usesM u).foldl putM s) w'∧∀q∈X,w'.heap[q]? = wr.heap[q]?):=by
 obtain⟨A,cap,m,F,h1,h2,h3,h4⟩:=h.ex;refine(all_any w wr (w.heap.size+4) N2 s F u hu h2 hN).mono ?_;rintro e w' ⟨rfl,F2,k1,k2⟩;have hge:∀g∈F,w.heap.size≤g:=fun g hg=>(h2.foot g hg).1
 refine⟨rfl,⟨⟨A,cap,m,F2,h1.kept k2.1 (fun g hg=>(h3 g hg).2),k1,fun g hg=>⟨(h3 g hg).1,fun hm=>?_⟩,fun q hq=>⟨Nat.lt_of_lt_of_le (h4 q hq).1 k2.1.size,(h4 q hq).2.1,fun hm=>?_⟩⟩,k1.on⟩,fun q hq=>k2.1.block q (h4 q hq).1 (h4 q hq).2.2⟩
 ·rcases k2.2 g hm with h5 | h5
  ·exact(h3 g hg).2 h5
  ·have:=h1.lt g hg;omega
 ·rcases k2.2 q hm with h5 | h5
  ·exact(h4 q hq).2.2 h5
  ·have:=(h4 q hq).1;omega
end
theorem box_same{w w':World}{g:Nat}{t:TypeId}{cs:Array Value}(h:Box w g t cs)(e:w'.heap[g]? = w.heap[g]?):Box w' g t cs:=e.trans h
theorem rs_new(w:World)(w5:World)(h5:w5=((((w.alloc (.cells #[.slice none 0 0] 24)).alloc (.cells #[.string ⟨#[]⟩] 9)).alloc (.cells #[.int .i64 0] 25)).alloc (.cells #[.map none,.slice none 0 0] 48)).alloc (.cells #[.map none,.slice none 0 0,.slice none 0 0] 51)) :
 RS w [w.heap.size,w.heap.size+1,w.heap.size+2] 0 [] 0 ([],[]) w5∧Box w5 w.heap.size 24 #[.slice none 0 0]∧Box w5 (w.heap.size+1) 9 #[.string ⟨#[]⟩]∧Box w5 (w.heap.size+2) 25 #[.int .i64 0]:=by
 subst h5;have z1:(w.alloc (.cells #[.slice none 0 0] 24)).heap.size=w.heap.size+1:=Array.size_push _;have z2:((w.alloc (.cells #[.slice none 0 0] 24)).alloc (.cells #[.string ⟨#[]⟩] 9)).heap.size=w.heap.size+2:=by rw[World.size_alloc,z1]
 have z3:(((w.alloc (.cells #[.slice none 0 0] 24)).alloc (.cells #[.string ⟨#[]⟩] 9)).alloc (.cells #[.int .i64 0] 25)).heap.size=w.heap.size+3:=by rw[World.size_alloc,z2]
 have b0:=Box.new w 24 #[.slice none 0 0];have b1:=Box.new (w.alloc (.cells #[.slice none 0 0] 24)) 9 #[.string ⟨#[]⟩];have b2:=Box.new ((w.alloc (.cells #[.slice none 0 0] 24)).alloc (.cells #[.string ⟨#[]⟩] 9)) 25 #[.int .i64 0];rw[z1]at b1;rw[z2]at b2;have c0:=(b0.kept ((Fr.refl [] _).alloc (.cells #[.string ⟨#[]⟩] 9)) (by simp)).kept ((Fr.refl [] _).alloc (.cells #[.int .i64 0] 25)) (by simp);have c1:=b1.kept ((Fr.refl [] _).alloc (.cells #[.int .i64 0] 25)) (by simp);generalize hw3:((w.alloc (.cells #[.slice none 0 0] 24)).alloc (.cells #[.string ⟨#[]⟩] 9)).alloc (.cells #[.int .i64 0] 25)=w3 at *;have on3:Below w.heap.size w w3:=by
  rw[←hw3];exact((((Fr.refl [] w).alloc _).alloc _).alloc _).all
 clear hw3 b0 b1 z1 z2;have t3:=ins.ts_new w3;have u4:=um_new w (w3.alloc (.cells #[.map none,.slice none 0 0] 48)) (on3.alloc on3.size _);rw[z3]at t3;rw[World.size_alloc,z3]at u4;have f:Fr [] (w3.alloc (.cells #[.map none,.slice none 0 0] 48)) ((w3.alloc (.cells #[.map none,.slice none 0 0] 48)).alloc (.cells #[.map none,.slice none 0 0,.slice none 0 0] 51)):=(Fr.refl [] _).alloc _;have f2:Fr [] w3 ((w3.alloc (.cells #[.map none,.slice none 0 0] 48)).alloc (.cells #[.map none,.slice none 0 0,.slice none 0 0] 51)):=((Fr.refl [] _).alloc _).alloc _;refine⟨⟨⟨none,0,none,[w.heap.size+4],t3.kept f (by simp),u4,fun g hg=>?_,fun x hx=>?_⟩,u4.on⟩,c0.kept f2 (by simp),c1.kept f2 (by simp),b2.kept f2 (by simp)⟩
 ·have:g=w.heap.size+3:=by simpa[ins.foot,blk] using hg
  subst this;exact⟨by omega,by simp⟩
 ·have hs:((w3.alloc (.cells #[.map none,.slice none 0 0] 48)).alloc (.cells #[.map none,.slice none 0 0,.slice none 0 0] 51)).heap.size=w.heap.size+5:=by rw[World.size_alloc,World.size_alloc,z3]
  rw[hs];simp only[List.mem_cons,List.not_mem_nil,or_false]at hx;rcases hx with rfl | rfl | rfl <;> refine⟨by omega,by simp[ins.foot,blk],by simp⟩
end ym
namespace re
open RowKit mem sy
def RB:Nat:=140737488351232
theorem ad_eq{a b:Int}(h1:0≤a)(h2:a≤1000000000000000000)(h3:0≤b)(h4:b≤1000000000000000000):ad a b=a+b:=by unfold ad wrap64;omega
theorem ten_eq{a:Int}(h1:0≤a)(h2:a≤140737488351232):ten a=10 * a:=by unfold ten wrap64;omega
theorem gTxt_ge:∀(l:List ByteArray) (k:Nat) (n:Int),0≤n→n+((100-k:Nat):Int) * 140737488351232≤1000000000000000000→(∀s∈l,s.size≤RB)→n≤gTxt l k n
 | [],k,n,_,_,_=>by unfold gTxt;omega
 | m :: r,k,n,h0,h1,hs=>by
  unfold gTxt;split
  ·have hm:=hs m (List.mem_cons_self ..)
   unfold RB at hm;have e:ad n m.size=n+m.size:=ad_eq h0 (by omega) (by omega) (by omega);have:=gTxt_ge r (k+1) (ad n m.size) (by omega) (by rw[e];omega) (fun s h=>hs s (List.mem_cons_of_mem _ h));omega
  ·omega
theorem oN_ge{o:SO}{n:Int}(h:OB RB o)(h0:0≤n)(h1:n≤60000):n+10 * o.marks.length≤oN o n:=by
 have hn:=h.n;have hk:=h.k;have hl:=h.l;unfold RB at hn hk hl;unfold oN;have e1:ad n o.name.size=n+o.name.size:=ad_eq h0 (by omega) (by omega) (by omega);have e2:ad (n+o.name.size) o.kinds.size=n+o.name.size+o.kinds.size:=ad_eq (by omega) (by omega) (by omega) (by omega);have e3:ten o.marks.length=10 * o.marks.length:=ten_eq (by omega) (by omega);have e4:ad (n+o.name.size+o.kinds.size) (10 * o.marks.length)=n+o.name.size+o.kinds.size+10 * o.marks.length:=ad_eq (by omega) (by omega) (by omega) (by omega);have e:o1 o n=n+o.name.size+o.kinds.size+10 * o.marks.length:=by unfold o1;rw[e1,e2,e3,e4]
 have:=gTxt_ge (o.marks.map (·.tag)) 0 (o1 o n) (by omega) (by omega) (fun s hs=>by
  obtain⟨m,hm,rfl⟩:=List.mem_map.1 hs
  exact h.m m hm)
 omega
theorem f1_ge{f:SF}{n:Int}(h:FB RB f)(h0:0≤n)(h1:n≤60000):n≤f1 f n:=by
 have hn:=h.n;have hk:=h.k;have hr:=h.r;unfold RB at hn hk hr;have e1:ad n f.name.size=n+f.name.size:=ad_eq h0 (by omega) (by omega) (by omega);have e2:ad (n+f.name.size) f.kinds.size=n+f.name.size+f.kinds.size:=ad_eq (by omega) (by omega) (by omega) (by omega);have e3:ad (n+f.name.size+f.kinds.size) f.ret.size=n+f.name.size+f.kinds.size+f.ret.size:=ad_eq (by omega) (by omega) (by omega) (by omega);unfold f1;rw[e1,e2,e3];omega
theorem cN_ge{c:SC}{n:Int}(h:CB RB c)(h0:0≤n)(h1:n≤60000):n+10 * c.args.length≤cN c n:=by
 have ha:=h.a;have hb:=h.b;have ht:=h.t;have hl:=h.l;unfold RB at ha hb ht hl;unfold cN;have e1:ad n c.a.size=n+c.a.size:=ad_eq h0 (by omega) (by omega) (by omega);have e2:ad (n+c.a.size) c.b.size=n+c.a.size+c.b.size:=ad_eq (by omega) (by omega) (by omega) (by omega);have e3:ad (n+c.a.size+c.b.size) c.tag.size=n+c.a.size+c.b.size+c.tag.size:=ad_eq (by omega) (by omega) (by omega) (by omega);have e4:ten c.args.length=10 * c.args.length:=ten_eq (by omega) (by omega);have e5:ad (n+c.a.size+c.b.size+c.tag.size) (10 * c.args.length)=n+c.a.size+c.b.size+c.tag.size+10 * c.args.length:=ad_eq (by omega) (by omega) (by omega) (by omega);have e:c1 c n=n+c.a.size+c.b.size+c.tag.size+10 * c.args.length:=by unfold c1;rw[e1,e2,e3,e4,e5]
 have:=gTxt_ge c.args 0 (c1 c n) (by omega) (by omega) (fun s hs=>h.g s hs);omega
theorem gAll_in{α:Type}{f:α→Int→Int}{B:Int}{Q:α→Prop}(hf:∀x n,Q x→0≤n→n≤60000→n≤f x n)(hB:B≤60000):∀(l:List α) (n z:Int),(∀x∈l,Q x)→0≤n→n≤60000→gAll f B l n=some z→(0≤z∧z≤60000)∧∀x∈l,∃k:Int,0≤k∧k≤60000∧f x k≤B
 | [],n,z,_,h0,h1,h=>by
  unfold gAll at h;obtain rfl:=Option.some.inj h;exact⟨⟨h0,h1⟩,fun x hx=>by cases hx⟩
 | x :: r,n,z,hq,h0,h1,h=>by
  unfold gAll at h;split at h
  ·cases h
  ·have hx:=hf x n (hq x (List.mem_cons_self ..)) h0 h1
   obtain⟨a,b⟩:=gAll_in hf hB r (f x n) z (fun y hy=>hq y (List.mem_cons_of_mem _ hy)) (by omega) (by omega) h;refine⟨a,fun y hy=>?_⟩;rcases List.mem_cons.1 hy with rfl | hy
   ·exact⟨n,h0,h1,by omega⟩
   ·exact b y hy
structure Sml(s:SS):Prop where
 o:s.objs.length≤80
 f:s.fns.length≤80
 c:s.cons.length≤80
 m:∀x∈s.objs,x.marks.length≤3000
 a:∀x∈s.cons,x.args.length≤6000
theorem sml_of{s:SS}(ho:∀x∈s.objs,OB RB x)(hf:∀x∈s.fns,FB RB x)(hc:∀x∈s.cons,CB RB x)(h:greatB s 80=false):Sml s:=by
 unfold greatB at h;simp only[Bool.or_eq_false_iff,decide_eq_false_iff_not,Int.not_lt]at h;obtain⟨h1,h2,h3,h4⟩:=h;rcases e1:gAll oN 30000 s.objs 0 with _ | n1
 ·rw[e1]at h4;simp at h4
 rw[e1]at h4;simp only[Option.bind_some]at h4;rcases e2:gAll f1 30000 s.fns n1 with _ | n2
 ·rw[e2]at h4;simp at h4
 rw[e2]at h4;simp only[Option.bind_some]at h4;rcases e3:gAll cN 60000 s.cons n2 with _ | n3
 ·rw[e3]at h4;simp at h4
 obtain⟨a1,b1⟩:=gAll_in (Q:=OB RB) (fun x n q h0 h1=>by have:=oN_ge q h0 h1;omega) (by omega) s.objs 0 n1 ho (by omega) (by omega) e1;obtain⟨a2,b2⟩:=gAll_in (Q:=FB RB) (fun x n q h0 h1=>f1_ge q h0 h1) (by omega) s.fns n1 n2 hf a1.1 a1.2 e2;obtain⟨a3,b3⟩:=gAll_in (Q:=CB RB) (fun x n q h0 h1=>by have:=cN_ge q h0 h1;omega) (by omega) s.cons n2 n3 hc a2.1 a2.2 e3;refine⟨by omega,by omega,by omega,fun x hx=>?_,fun x hx=>?_⟩
 ·obtain⟨k,k0,k1,k2⟩:=b1 x hx
  have:=oN_ge (ho x hx) k0 k1;omega
 ·obtain⟨k,k0,k1,k2⟩:=b3 x hx
  have:=cN_ge (hc x hx) k0 k1;omega
structure SmlU(u:SU):Prop where
 n:u.name.size≤100
 s:Sml u.sys
 g:u.gives.length≤60∧∀x∈u.gives,x.size≤100
 w:u.wants.length≤60∧∀x∈u.wants,x.size≤100
 k:u.keeps.length≤200∧∀x∈u.keeps,x.size≤100
end re
namespace re
open RowKit Shelf mem sy
def GTB(w:World)(l:List ByteArray)(N:Nat)(e:Ending)(w':World):Prop:=∃r,e=.returned (.bool r)∧w=w'∧(r=false→l.length≤N∧∀s∈l,s.size≤100)
theorem tx_len(s:ByteArray):(tx s).length=s.size:=by
 exact Array.length_toList
theorem gtb{w:World}{l:List ByteArray}{N:Nat}{e:Ending}{w':World}(h:GTPost w (l.map tx) N e w'):GTB w l N e w':=by
 obtain⟨r,h1,h2,h3⟩:=h;refine⟨r,h1,h2,fun hr=>?_⟩;obtain⟨h4,h5⟩:=h3 hr;rw[List.length_map]at h4;exact⟨h4,fun s hs=>by have:=h5 (tx s) (List.mem_map.2 ⟨s,hs,rfl⟩);rwa[tx_len]at this⟩
theorem greatT_b(w:World)(A:Option Addr)(cap:Nat)(l:List ByteArray)(h:Rd w A (l.map Value.string))(hm:l.length≤maxLen) :
 Calls Tryz.prog 23 #[.slice A l.length cap] w (GTB w l 60):=by
 have k:=greatT_any w A cap (l.map tx) (by rw[map_tx];exact h) (by rw[List.length_map];exact hm);rw[List.length_map]at k;exact k.mono (fun e w' h=>gtb h)
theorem greatK_b(w:World)(A:Option Addr)(cap:Nat)(l:List ByteArray)(h:Rd w A (l.map Value.string))(hm:l.length≤maxLen)(h2:l.length≤200) :
 Calls Tryz.prog 24 #[.slice A l.length cap] w (GTB w l 200):=by
 have k:=greatK_any w A cap (l.map tx) (by rw[map_tx];exact h) (by rw[List.length_map];exact hm) (by rw[List.length_map];exact h2);rw[List.length_map]at k;exact k.mono (fun e w' h=>gtb h)
def GSP(u:MU)(w:World)(e:Ending)(w':World):Prop:=∃r,e=.returned (.bool r)∧Below w.heap.size w w'∧(r=false→SmlU u.su)
theorem SumB.small{u:MU}(h:SumB RB u)(hg:greatB u.s.sys 80=false):Sml u.s.sys:=
 sml_of (fun x hx=>by
  obtain⟨y,hy,rfl⟩:=List.mem_map.1 hx;exact h.os y hy) (fun x hx=>h.fs x hx) (fun x hx=>by
  obtain⟨y,hy,rfl⟩:=List.mem_map.1 hx
  exact h.cs y hy) hg
theorem great_su(u:MU)(w:World)(hs:SumM w u)(hb:SumB RB u):Calls Tryz.prog 11 #[u.val] w (GSP u w):=by
 obtain⟨W,hWe⟩:∃W,Hid (W=w.alloc (.cells u.row 43)):=⟨_,hid rfl⟩;have B:Box W w.heap.size 43 u.row:=by rw[hWe.out];exact Box.new _ _ _
 have b0:Below w.heap.size w W:=by rw[hWe.out];exact(Below.refl _ _).alloc (Nat.le_refl _) _
 have hwz:w.heap.size<W.heap.size:=B.lt;have hsW:SumM W u:=hs.below b0;have HB:Hid (∀w2,Below W.heap.size W w2→SumM w2 u∧Box w2 w.heap.size 43 u.row∧Below w.heap.size w w2):=hid (fun w2 b=>⟨hsW.below b,B.kept (Fr.of_below b []) (by simp),b0.trans (b.mono b0.size)⟩);have KG:=hid (great_any u.s 80 W hsW.sr);have KT1:=hid (fun(w2:World) (b:Below W.heap.size W w2)=>greatT_b w2 u.gA u.gc u.gives (HB.out w2 b).1.gr hb.g.1);have KT2:=hid (fun(w2:World) (b:Below W.heap.size W w2)=>greatT_b w2 u.wA u.wc u.wants (HB.out w2 b).1.wr hb.w.1);have KT3:=hid (fun(w2:World) (b:Below W.heap.size W w2) (h2:u.keeps.length≤200)=>greatK_b w2 u.kA u.kc u.keeps (HB.out w2 b).1.kr hb.k.1 h2);have HS:Hid (u.name.size≤100→greatB u.s.sys 80=false→(u.gives.length≤60∧∀s∈u.gives,s.size≤100)→(u.wants.length≤60∧∀s∈u.wants,s.size≤100)→(u.keeps.length≤200∧∀s∈u.keeps,s.size≤100)→SmlU u.su):=hid (fun h1 h2 h3 h4 h5=>⟨h1,hb.small h2,h3,h4,h5⟩)
 have HC:Hid (∀w2,Below W.heap.size W w2→w2.cell? ⟨w.heap.size,0,none⟩=some (.string u.name)∧w2.cell? ⟨w.heap.size,1,none⟩=some (.slice u.gA u.gives.length u.gc)∧w2.cell? ⟨w.heap.size,2,none⟩=some (.slice u.wA u.wants.length u.wc)∧w2.cell? ⟨w.heap.size,3,none⟩=some (.slice u.kA u.keeps.length u.kc)∧w2.cell? ⟨w.heap.size,4,none⟩=some (.slice u.s.oA u.s.os.length u.s.oc)∧w2.cell? ⟨w.heap.size,5,none⟩=some (.slice u.s.fA u.s.fs.length u.s.fc)∧w2.cell? ⟨w.heap.size,6,none⟩=some (.slice u.s.cA u.s.cs.length u.s.cc)):=hid (fun w2 b=>by
  have x:=(HB.out w2 b).2.1
  exact⟨x.cell 0,x.cell 1,x.cell 2,x.cell 3,x.cell 4,x.cell 5,x.cell 6⟩)
 have HE:Hid (∀w2,Below W.heap.size W w2→Below w.heap.size w w2):=hid (fun w2 b=>(HB.out w2 b).2.2);have R0:=hid (Below.refl W.heap.size W);have HTr:Hid (∀w2 w3,Below W.heap.size W w2→Below w2.heap.size w2 w3→Below W.heap.size W w3):=hid (fun w2 w3 a b=>a.trans (b.mono a.size));have Bd:=hid hb;obtain⟨x0,x1,x2,x3,x4,x5,x6⟩:=HC.out W R0.out;unfold BPost at KG;unfold MS.val at KG;clear hs hb hsW HB B b0 hwz;generalize greatB u.s.sys 80=g at *;unfold GSP MU.val;unfold MU.row at hWe ⊢;by_cases h1:100<u.name.size
 ·have d1:decide ((100:Int)<(u.name.size:Int))=true:=decide_eq_true (by omega)
  have E:=hid (HE.out W R0.out);clear KG KT1 KT2 KT3 HS HC HE HTr Bd;go_enter Tryz.func11,Tryz.ntmps11;go_upto_region 1 with fail;rw[←hWe.out];go_wp2_with fail;go_ret;exact⟨true,rfl,E.out,fun h=>by cases h⟩
 ·have d1:decide ((100:Int)<(u.name.size:Int))=false:=decide_eq_false (by omega)
  have h1':=hid (Nat.le_of_not_lt h1);clear h1;go_enter Tryz.func11,Tryz.ntmps11;go_upto_region 1 with fail;rw[←hWe.out];go_wp2_with fail;refine KG.out.mono ?_;rintro e w2 ⟨rfl,b2⟩;have B2:=hid b2;clear b2 x0 x1 x2 x3 x4 x5 x6 KG;obtain⟨x0,x1,x2,x3,x4,x5,x6⟩:=HC.out w2 B2.out;rcases hg:g with _ | _
  ·subst hg
   have K1:=hid (KT1.out w2 B2.out);unfold GTB at K1;go_wp2_with fail;refine K1.out.mono ?_;rintro e w3 ⟨r1,rfl,rfl,p1⟩;replace p1:=hid p1;clear K1;rcases hr1:r1 with _ | _
   ·replace p1:=hid (p1.out hr1)
    subst hr1;have K1:=hid (KT2.out w2 B2.out);unfold GTB at K1;go_wp2_with fail;refine K1.out.mono ?_;rintro e w3 ⟨r2,rfl,rfl,p2⟩;replace p2:=hid p2;clear K1;rcases hr2:r2 with _ | _
    ·replace p2:=hid (p2.out hr2)
     subst hr2;by_cases h5:200<u.keeps.length
     ·have d5:decide ((200:Int)<(u.keeps.length:Int))=true:=decide_eq_true (by omega)
      have E:=hid (HE.out w2 B2.out);clear KT1 KT2 KT3 HS HC HE HTr Bd;go_wp2_with fail;go_ret;exact⟨true,rfl,E.out,fun h=>by cases h⟩
     ·have d5:decide ((200:Int)<(u.keeps.length:Int))=false:=decide_eq_false (by omega)
      have K1:=hid (KT3.out w2 B2.out (by omega));unfold GTB at K1;go_wp2_with fail;refine K1.out.mono ?_;rintro e w3 ⟨r3,rfl,rfl,p3⟩;have E:=hid (HE.out w2 B2.out);replace p3:=hid p3;clear K1 KT1 KT2 KT3 HC HE HTr Bd;go_wp2_with fail;go_ret;exact⟨r3,rfl,E.out,fun h=>HS.out h1'.out (by simp) p1.out p2.out (p3.out h)⟩
    ·subst hr2
     have E:=hid (HE.out w2 B2.out);clear KT1 KT2 KT3 HS HC HE HTr Bd p1 p2;go_wp2_with fail;go_ret;exact⟨true,rfl,E.out,fun h=>by cases h⟩
   ·subst hr1
    have E:=hid (HE.out w2 B2.out);clear KT1 KT2 KT3 HS HC HE HTr Bd p1;go_wp2_with fail;go_ret;exact⟨true,rfl,E.out,fun h=>by cases h⟩
  ·subst hg
   have E:=hid (HE.out w2 B2.out);clear KT1 KT2 KT3 HS HC HE HTr Bd;go_wp2_with fail;go_ret;exact⟨true,rfl,E.out,fun h=>by cases h⟩
end re
namespace ym
open RowKit Go.Sort Shelf mem sy rng
open re (tx SU MU SumM SumB SmlU RB GSP great_su)
open sf (SumK)
open nm (Tab tab_below)
attribute [local go_sem] Oper.semAt_some
structure SusB(w:World)(A:Option Addr)(l:List MU):Prop where
 t:Tbl w A 7 (l.map rowS)
 k:∀u∈l,SumM w u
 b:∀u∈l,SumB RB u
theorem SusB.below{w w':World}{A:Option Addr}{l:List MU}(h:SusB w A l)(hb:Below w.heap.size w w'):SusB w' A l:=⟨h.t.below hb,fun u hu=>(h.k u hu).below hb,h.b⟩
theorem SusB.at_{w:World}{A:Option Addr}{l:List MU}(h:SusB w A l){k:Nat}(hk:k<l.length):∃g off,A=some ⟨g,off,none⟩∧g<w.heap.size∧∀i v,(rowS l[k])[i]? = some v→w.cell? ⟨g,off+k * 7+i,none⟩=some v:=by
 obtain⟨b,off,e,hl,hc⟩:=h.t (by rw[List.length_map];omega);exact⟨b,off,e,hl,fun i v hv=>hc k (by rw[List.length_map];exact hk) i v (by rw[List.getElem_map];exact hv)⟩
theorem sumK_sml{w:World}{u:MU}(hm:SumM w u)(hs:SmlU u.su):SumK w u:=by
 have h1:u.name.size≤100:=hs.n;have h2:u.gives.length≤60∧∀x∈u.gives,x.size≤100:=hs.g;have h3:u.wants.length≤60∧∀x∈u.wants,x.size≤100:=hs.w;have h4:u.keeps.length≤200∧∀x∈u.keeps,x.size≤100:=hs.k;have h5:u.s.os.length≤80:=by have:=hs.s.o;simpa[MU.su,MS.sys] using this
 have h6:u.s.fs.length≤80:=hs.s.f;exact⟨hm,by unfold maxLen;omega,by omega,by omega,by omega,by omega,fun s h=>by have:=h2.2 s h;unfold maxLen;omega,fun s h=>by have:=h3.2 s h;unfold maxLen;omega,fun s h=>by have:=h4.2 s h;unfold maxLen;omega⟩
theorem SusB.susM{w:World}{A:Option Addr}{l:List MU}(h:SusB w A l)(hs:∀u∈l,SmlU u.su):SusM w A l:=
 ⟨h.t,fun u hu=>sumK_sml (h.k u hu) (hs u hu),fun u hu=>by
  have h5:u.s.os.length≤80:=by have:=(hs u hu).s.o;simpa[MU.su,MS.sys] using this
  have h6:u.s.fs.length≤80:=(hs u hu).s.f
  omega⟩
def GAP(w:World)(l:List MU)(e:Ending)(w':World):Prop:=∃r,e=.returned (.bool r)∧Below w.heap.size w w'∧(r=false→l.length≤12∧∀u∈l,SmlU u.su)
theorem greatAll_any(w:World)(A:Option Addr)(c:Nat)(l:List MU)(h:SusB w A l)(hl:l.length≤maxLen) :
 Calls Tryz.prog 5 #[.slice A l.length c] w (GAP w l):=by
 have HS:=hid (fun(w2:World) (b:Below w.heap.size w w2)=>h.below b);have HG:=hid (fun(w2:World) (b:Below w.heap.size w w2) (u:MU) (hu:u∈l)=>great_su u w2 ((h.below b).k u hu) ((h.below b).b u hu));have R0:=hid (Below.refl w.heap.size w);have hl2:=hl;unfold maxLen at hl2;unfold GAP;clear h hl;obtain⟨n,hN⟩:∃n,Hid (n=l.length):=⟨_,hid rfl⟩;rw[←hN.out]at hl2 ⊢;by_cases h1:12<n
 ·have d1:decide ((12:Int)<(n:Int))=true:=decide_eq_true (by omega)
  clear HS HG;go_enter Tryz.func5,Tryz.ntmps5;go_wp2_with fail;go_ret;exact⟨true,rfl,R0.out,(fun h=>by cases h)⟩
 have d1:decide ((12:Int)<(n:Int))=false:=decide_eq_false (by omega);go_enter Tryz.func5,Tryz.ntmps5;go_wp2_with fail;go_loopw [3] (fun i wr=>∃k:Nat,k≤n∧i=.int .i64 k∧Hid (Below w.heap.size w wr)∧Hid (∀u∈l.take k,SmlU u.su)) (fun i _=>n-(intOf i).toNat)
 case atStart=>exact⟨0,by omega,rfl,R0,hid (by simp)⟩
 case round=>
  obtain⟨k,hk,rfl,HB,HP⟩:=hrel
  rename World=>wr
  by_cases hkl:k<n
  ·have d2:decide ((k:Int)<(n:Int))=true:=decide_eq_true (by omega)
   have hkx:k<l.length:=by rw[←hN.out];exact hkl
   obtain⟨g,off,rfl,hg,hc⟩:=(HS.out wr HB.out).at_ hkx;have KG:=HG.out wr HB.out l[k] (List.getElem_mem hkx)
   have HN:Hid (SmlU l[k].su→∀u∈l.take (k+1),SmlU u.su):=hid (fun hs u hu=>by
    rw[List.take_succ_eq_append_getElem hkx]at hu;rcases List.mem_append.1 hu with h | h
    ·exact HP.out u h
    ·rw[List.mem_singleton]at h;subst h;exact hs)
   generalize l[k] = u at *;clear HG HS hkx;unfold GSP at KG;obtain⟨nm,gA,gc,gs,wA,wc,ws,kA,kc,ks,⟨oA,oc,os,fA,fc,fs,cA,cc,cs⟩⟩:=u;unfold MU.val at KG;unfold MU.row at KG;unfold rowS at hc;dsimp only at *;generalize hgl:gs.length=gl at *;generalize hwl:ws.length=wl at *;generalize hkl2:ks.length=kl at *;generalize hol:os.length=ol at *;generalize hfl:fs.length=fl at *;generalize hcl:cs.length=cl at *;clear hgl hwl hkl2 hol hfl hcl;have c0:wr.cell? ⟨g,off+k * 7,none⟩=some (.string nm):=hc 0 _ rfl;have c1:wr.cell? ⟨g,off+k * 7+1,none⟩=some (.slice gA gl gc):=hc 1 _ rfl;have c2:wr.cell? ⟨g,off+k * 7+2,none⟩=some (.slice wA wl wc):=hc 2 _ rfl;have c3:wr.cell? ⟨g,off+k * 7+3,none⟩=some (.slice kA kl kc):=hc 3 _ rfl;have c4:wr.cell? ⟨g,off+k * 7+4,none⟩=some (.slice oA ol oc):=hc 4 _ rfl;have c5:wr.cell? ⟨g,off+k * 7+5,none⟩=some (.slice fA fl fc):=hc 5 _ rfl;have c6:wr.cell? ⟨g,off+k * 7+6,none⟩=some (.slice cA cl cc):=hc 6 _ rfl
   replace KG:=hid KG;clear hc;go_wp2_with fail;refine KG.out.mono ?_;rintro e w2 ⟨r,rfl,b2,hr⟩;have B2:=hid (HB.out.trans (b2.mono HB.out.size));clear b2 KG c0 c1 c2 c3 c4 c5 c6;rcases r with _ | _
   ·have HM:=hid (HN.out (hr rfl))
    clear hr HN;go_wp2_with fail;go_roundw
    case rel=>exact⟨k+1,by omega,by go_num,B2,HM⟩
    case measure=>simp[intOf];omega
   ·clear hr HN
    go_wp2_with fail;go_ret;exact⟨true,rfl,B2.out,(fun h=>by cases h)⟩
  ·obtain rfl:k=n:=by omega
   have d2:decide ((k:Int)<(k:Int))=false:=decide_eq_false (by omega)
   have HM:Hid (∀u∈l,SmlU u.su):=hid (by
    have:=HP.out
    rwa[List.take_of_length_le (by rw[←hN.out];exact Nat.le_refl _)]at this)
   have HL:Hid (l.length≤12):=hid (by rw[←hN.out];omega);go_wp2_with fail;go_ret;exact⟨false,rfl,HB.out,fun _=>⟨by omega,HM.out⟩⟩
end ym
namespace ym
open RowKit mem sy
theorem like_bool(a b:Use):like a b=(sameF a.f b.f&&((a.o.name.toList==b.o.name.toList)&&((a.o.kinds.toList==b.o.kinds.toList)&&eqMs a.o.marks b.o.marks))):=by
 rw[Bool.eq_iff_iff,like_iff];simp only[Bool.and_eq_true,sameF_iff,eqMs_iff,beq_iff_eq];constructor
 ·rintro⟨h1,h2⟩
  rw[h1,h2];exact⟨rfl,rfl,rfl,rfl⟩
 ·rintro⟨h1,h2,h3,h4⟩
  refine⟨?_,h1⟩;rcases ha:a.o with⟨n,k,m⟩;rcases hb:b.o with⟨n2,k2,m2⟩;rw[ha,hb]at h2 h3 h4;dsimp only at h2 h3 h4;rw[ba_toList h2,ba_toList h3,h4]
theorem like_a(hf:HeldF)(hm:HeldM)(w:World)(x y:MUs)(hx:UOk w x)(hy:UOk w y)(h0:sameF x.u.f y.u.f=false) :
 Calls Tryz.prog 44 #[x.val,y.val] w (BPost false w):=by
 obtain⟨W,hWe⟩:∃W,Hid (W=(w.alloc (.cells x.row.toArray 83)).alloc (.cells y.row.toArray 83)):=⟨_,hid rfl⟩;have hz:(w.alloc (.cells x.row.toArray 83)).heap.size=w.heap.size+1:=Array.size_push _;have b1:Below w.heap.size w (w.alloc (.cells x.row.toArray 83)):=(Below.refl _ _).alloc (Nat.le_refl _) _;have b0:Below w.heap.size w W:=by rw[hWe.out];exact b1.alloc b1.size _
 have BX:Box W w.heap.size 83 x.row.toArray:=by rw[hWe.out];exact(Box.new w _ _).kept ((Fr.refl [] _).alloc _) (by simp)
 have BY:Box W (w.heap.size+1) 83 y.row.toArray:=by rw[hWe.out,←hz];exact Box.new _ _ _
 have KE:=hid (eqmarks_any hm W x.A y.A x.c y.c x.u.o.marks y.u.o.marks (hx.m.below b0) (hy.m.below b0) hx.ml hy.ml);have FE:=hf.eq x.u.f y.u.f;have GU:=hf.guard;rw[h0]at FE;have B0:=hid b0;unfold BPost at KE ⊢;have x3:W.cell? ⟨w.heap.size,3,none⟩=some (.string x.u.o.name):=BX.cell 3;have y3:W.cell? ⟨w.heap.size+1,3,none⟩=some (.string y.u.o.name):=BY.cell 3;have x4:W.cell? ⟨w.heap.size,4,none⟩=some (.string x.u.o.kinds):=BX.cell 4;have y4:W.cell? ⟨w.heap.size+1,4,none⟩=some (.string y.u.o.kinds):=BY.cell 4;have x5:W.cell? ⟨w.heap.size,5,none⟩=some (.slice x.A x.u.o.marks.length x.c):=BX.cell 5;have y5:W.cell? ⟨w.heap.size+1,5,none⟩=some (.slice y.A y.u.o.marks.length y.c):=BY.cell 5;have x6:W.cell? ⟨w.heap.size,6,none⟩=some (.string x.u.f.name):=BX.cell 6;have y6:W.cell? ⟨w.heap.size+1,6,none⟩=some (.string y.u.f.name):=BY.cell 6;have x7:W.cell? ⟨w.heap.size,7,none⟩=some (.string x.u.f.kinds):=BX.cell 7
 have y7:W.cell? ⟨w.heap.size+1,7,none⟩=some (.string y.u.f.kinds):=BY.cell 7;have x8:W.cell? ⟨w.heap.size,8,none⟩=some (.string x.u.f.ret):=BX.cell 8;have y8:W.cell? ⟨w.heap.size+1,8,none⟩=some (.string y.u.f.ret):=BY.cell 8;unfold fnV at FE;unfold MUs.val;unfold MUs.row at hWe;clear hx hy BX BY b0 b1 hf hm;generalize hML:x.u.o.marks.length=ml at *;generalize hMR:y.u.o.marks.length=mr at *;generalize eqMs x.u.o.marks y.u.o.marks=q3 at *;clear hML hMR;go_enter Tryz.func44,Tryz.ntmps44;go_upto_region 1 with fail;rw[←hWe.out]
 try rw[hz]
 clear hz hWe;generalize hbx:w.heap.size=bx at *;replace hbx:=hid hbx;go_wp2_with fail;go_ret;exact⟨rfl,by rw[hbx.out];exact B0.out⟩
theorem like_b(hf:HeldF)(hm:HeldM)(w:World)(x y:MUs)(hx:UOk w x)(hy:UOk w y)(h0:sameF x.u.f y.u.f=true)(h1:(x.u.o.name.toList==y.u.o.name.toList)=false) :
 Calls Tryz.prog 44 #[x.val,y.val] w (BPost false w):=by
 obtain⟨W,hWe⟩:∃W,Hid (W=(w.alloc (.cells x.row.toArray 83)).alloc (.cells y.row.toArray 83)):=⟨_,hid rfl⟩;have hz:(w.alloc (.cells x.row.toArray 83)).heap.size=w.heap.size+1:=Array.size_push _;have b1:Below w.heap.size w (w.alloc (.cells x.row.toArray 83)):=(Below.refl _ _).alloc (Nat.le_refl _) _;have b0:Below w.heap.size w W:=by rw[hWe.out];exact b1.alloc b1.size _
 have BX:Box W w.heap.size 83 x.row.toArray:=by rw[hWe.out];exact(Box.new w _ _).kept ((Fr.refl [] _).alloc _) (by simp)
 have BY:Box W (w.heap.size+1) 83 y.row.toArray:=by rw[hWe.out,←hz];exact Box.new _ _ _
 have KE:=hid (eqmarks_any hm W x.A y.A x.c y.c x.u.o.marks y.u.o.marks (hx.m.below b0) (hy.m.below b0) hx.ml hy.ml);have FE:=hf.eq x.u.f y.u.f;have GU:=hf.guard;rw[h0]at FE;have B0:=hid b0;unfold BPost at KE ⊢;have x3:W.cell? ⟨w.heap.size,3,none⟩=some (.string x.u.o.name):=BX.cell 3;have y3:W.cell? ⟨w.heap.size+1,3,none⟩=some (.string y.u.o.name):=BY.cell 3;have x4:W.cell? ⟨w.heap.size,4,none⟩=some (.string x.u.o.kinds):=BX.cell 4;have y4:W.cell? ⟨w.heap.size+1,4,none⟩=some (.string y.u.o.kinds):=BY.cell 4;have x5:W.cell? ⟨w.heap.size,5,none⟩=some (.slice x.A x.u.o.marks.length x.c):=BX.cell 5;have y5:W.cell? ⟨w.heap.size+1,5,none⟩=some (.slice y.A y.u.o.marks.length y.c):=BY.cell 5;have x6:W.cell? ⟨w.heap.size,6,none⟩=some (.string x.u.f.name):=BX.cell 6;have y6:W.cell? ⟨w.heap.size+1,6,none⟩=some (.string y.u.f.name):=BY.cell 6;have x7:W.cell? ⟨w.heap.size,7,none⟩=some (.string x.u.f.kinds):=BX.cell 7
 have y7:W.cell? ⟨w.heap.size+1,7,none⟩=some (.string y.u.f.kinds):=BY.cell 7;have x8:W.cell? ⟨w.heap.size,8,none⟩=some (.string x.u.f.ret):=BX.cell 8;have y8:W.cell? ⟨w.heap.size+1,8,none⟩=some (.string y.u.f.ret):=BY.cell 8;unfold fnV at FE;unfold MUs.val;unfold MUs.row at hWe;clear hx hy BX BY b0 b1 hf hm;generalize hML:x.u.o.marks.length=ml at *;generalize hMR:y.u.o.marks.length=mr at *;generalize eqMs x.u.o.marks y.u.o.marks=q3 at *;clear hML hMR;go_enter Tryz.func44,Tryz.ntmps44;go_upto_region 1 with fail;rw[←hWe.out]
 try rw[hz]
 clear hz hWe;generalize hbx:w.heap.size=bx at *;replace hbx:=hid hbx;go_wp2_with fail;go_ret;exact⟨rfl,by rw[hbx.out];exact B0.out⟩
theorem like_c(hf:HeldF)(hm:HeldM)(w:World)(x y:MUs)(hx:UOk w x)(hy:UOk w y)(h0:sameF x.u.f y.u.f=true)(h1:(x.u.o.name.toList==y.u.o.name.toList)=true)(h2:(x.u.o.kinds.toList==y.u.o.kinds.toList)=false) :
 Calls Tryz.prog 44 #[x.val,y.val] w (BPost false w):=by
 obtain⟨W,hWe⟩:∃W,Hid (W=(w.alloc (.cells x.row.toArray 83)).alloc (.cells y.row.toArray 83)):=⟨_,hid rfl⟩;have hz:(w.alloc (.cells x.row.toArray 83)).heap.size=w.heap.size+1:=Array.size_push _;have b1:Below w.heap.size w (w.alloc (.cells x.row.toArray 83)):=(Below.refl _ _).alloc (Nat.le_refl _) _;have b0:Below w.heap.size w W:=by rw[hWe.out];exact b1.alloc b1.size _
 have BX:Box W w.heap.size 83 x.row.toArray:=by rw[hWe.out];exact(Box.new w _ _).kept ((Fr.refl [] _).alloc _) (by simp)
 have BY:Box W (w.heap.size+1) 83 y.row.toArray:=by rw[hWe.out,←hz];exact Box.new _ _ _
 have KE:=hid (eqmarks_any hm W x.A y.A x.c y.c x.u.o.marks y.u.o.marks (hx.m.below b0) (hy.m.below b0) hx.ml hy.ml);have FE:=hf.eq x.u.f y.u.f;have GU:=hf.guard;rw[h0]at FE;have B0:=hid b0;unfold BPost at KE ⊢;have x3:W.cell? ⟨w.heap.size,3,none⟩=some (.string x.u.o.name):=BX.cell 3;have y3:W.cell? ⟨w.heap.size+1,3,none⟩=some (.string y.u.o.name):=BY.cell 3;have x4:W.cell? ⟨w.heap.size,4,none⟩=some (.string x.u.o.kinds):=BX.cell 4;have y4:W.cell? ⟨w.heap.size+1,4,none⟩=some (.string y.u.o.kinds):=BY.cell 4;have x5:W.cell? ⟨w.heap.size,5,none⟩=some (.slice x.A x.u.o.marks.length x.c):=BX.cell 5;have y5:W.cell? ⟨w.heap.size+1,5,none⟩=some (.slice y.A y.u.o.marks.length y.c):=BY.cell 5;have x6:W.cell? ⟨w.heap.size,6,none⟩=some (.string x.u.f.name):=BX.cell 6;have y6:W.cell? ⟨w.heap.size+1,6,none⟩=some (.string y.u.f.name):=BY.cell 6;have x7:W.cell? ⟨w.heap.size,7,none⟩=some (.string x.u.f.kinds):=BX.cell 7
 have y7:W.cell? ⟨w.heap.size+1,7,none⟩=some (.string y.u.f.kinds):=BY.cell 7;have x8:W.cell? ⟨w.heap.size,8,none⟩=some (.string x.u.f.ret):=BX.cell 8;have y8:W.cell? ⟨w.heap.size+1,8,none⟩=some (.string y.u.f.ret):=BY.cell 8;unfold fnV at FE;unfold MUs.val;unfold MUs.row at hWe;clear hx hy BX BY b0 b1 hf hm;generalize hML:x.u.o.marks.length=ml at *;generalize hMR:y.u.o.marks.length=mr at *;generalize eqMs x.u.o.marks y.u.o.marks=q3 at *;clear hML hMR;go_enter Tryz.func44,Tryz.ntmps44;go_upto_region 1 with fail;rw[←hWe.out]
 try rw[hz]
 clear hz hWe;generalize hbx:w.heap.size=bx at *;replace hbx:=hid hbx;go_wp2_with fail;go_ret;exact⟨rfl,by rw[hbx.out];exact B0.out⟩
theorem like_d(hf:HeldF)(hm:HeldM)(w:World)(x y:MUs)(hx:UOk w x)(hy:UOk w y)(h0:sameF x.u.f y.u.f=true)(h1:(x.u.o.name.toList==y.u.o.name.toList)=true)(h2:(x.u.o.kinds.toList==y.u.o.kinds.toList)=true) :
 Calls Tryz.prog 44 #[x.val,y.val] w (BPost (eqMs x.u.o.marks y.u.o.marks) w):=by
 obtain⟨W,hWe⟩:∃W,Hid (W=(w.alloc (.cells x.row.toArray 83)).alloc (.cells y.row.toArray 83)):=⟨_,hid rfl⟩;have hz:(w.alloc (.cells x.row.toArray 83)).heap.size=w.heap.size+1:=Array.size_push _;have b1:Below w.heap.size w (w.alloc (.cells x.row.toArray 83)):=(Below.refl _ _).alloc (Nat.le_refl _) _;have b0:Below w.heap.size w W:=by rw[hWe.out];exact b1.alloc b1.size _
 have BX:Box W w.heap.size 83 x.row.toArray:=by rw[hWe.out];exact(Box.new w _ _).kept ((Fr.refl [] _).alloc _) (by simp)
 have BY:Box W (w.heap.size+1) 83 y.row.toArray:=by rw[hWe.out,←hz];exact Box.new _ _ _
 have KE:=hid (eqmarks_any hm W x.A y.A x.c y.c x.u.o.marks y.u.o.marks (hx.m.below b0) (hy.m.below b0) hx.ml hy.ml);have FE:=hf.eq x.u.f y.u.f;have GU:=hf.guard;rw[h0]at FE;have B0:=hid b0;unfold BPost at KE ⊢;have x3:W.cell? ⟨w.heap.size,3,none⟩=some (.string x.u.o.name):=BX.cell 3;have y3:W.cell? ⟨w.heap.size+1,3,none⟩=some (.string y.u.o.name):=BY.cell 3;have x4:W.cell? ⟨w.heap.size,4,none⟩=some (.string x.u.o.kinds):=BX.cell 4;have y4:W.cell? ⟨w.heap.size+1,4,none⟩=some (.string y.u.o.kinds):=BY.cell 4;have x5:W.cell? ⟨w.heap.size,5,none⟩=some (.slice x.A x.u.o.marks.length x.c):=BX.cell 5;have y5:W.cell? ⟨w.heap.size+1,5,none⟩=some (.slice y.A y.u.o.marks.length y.c):=BY.cell 5;have x6:W.cell? ⟨w.heap.size,6,none⟩=some (.string x.u.f.name):=BX.cell 6;have y6:W.cell? ⟨w.heap.size+1,6,none⟩=some (.string y.u.f.name):=BY.cell 6;have x7:W.cell? ⟨w.heap.size,7,none⟩=some (.string x.u.f.kinds):=BX.cell 7
 have y7:W.cell? ⟨w.heap.size+1,7,none⟩=some (.string y.u.f.kinds):=BY.cell 7;have x8:W.cell? ⟨w.heap.size,8,none⟩=some (.string x.u.f.ret):=BX.cell 8;have y8:W.cell? ⟨w.heap.size+1,8,none⟩=some (.string y.u.f.ret):=BY.cell 8;unfold fnV at FE;unfold MUs.val;unfold MUs.row at hWe;clear hx hy BX BY b0 b1 hf hm;generalize hML:x.u.o.marks.length=ml at *;generalize hMR:y.u.o.marks.length=mr at *;generalize eqMs x.u.o.marks y.u.o.marks=q3 at *;clear hML hMR;go_enter Tryz.func44,Tryz.ntmps44;go_upto_region 1 with fail;rw[←hWe.out]
 try rw[hz]
 clear hz hWe;generalize hbx:w.heap.size=bx at *;replace hbx:=hid hbx;go_wp2_with fail;refine KE.out.mono ?_;rintro e w2 ⟨rfl,b2⟩;have B2:=hid (B0.out.trans (b2.mono (by have:=B0.out.size;rw[hbx.out]at this;exact this)));clear b2 KE;go_wp2_with fail;go_ret;exact⟨rfl,by rw[hbx.out];exact B2.out⟩
theorem like_any(hf:HeldF)(hm:HeldM)(w:World)(x y:MUs)(hx:UOk w x)(hy:UOk w y) :
 Calls Tryz.prog 44 #[x.val,y.val] w (BPost (like x.u y.u) w):=by
 rw[like_bool];rcases h0:sameF x.u.f y.u.f with _ | _
 ·exact like_a hf hm w x y hx hy h0
 rcases h1:(x.u.o.name.toList==y.u.o.name.toList)with _ | _
 ·exact like_b hf hm w x y hx hy h0 h1
 rcases h2:(x.u.o.kinds.toList==y.u.o.kinds.toList)with _ | _
 ·exact like_c hf hm w x y hx hy h0 h1 h2
 ·exact like_d hf hm w x y hx hy h0 h1 h2
end ym
namespace ym
open RowKit mem sy
open re (tx SU MU SumM)
open sf (map_tx enc_tx)
open inn (rsS)
def symC(p:PS):Int:=if p.e0 then 8 else if p.e1 then 12 else if decide (p.giver.size=0)&&decide (p.wanted≠[]) then 7 else 0
def fstU(l:List MUs):Use:=match l with | []=>⟨⟨#[]⟩,false,false,oZ,fZ⟩ | x :: _=>x.u
noncomputable def psT(l:List MUs)(k:Nat):PS:=(l.take k).foldl (fun s x=>psStep l.length (fstU l) s x.u) ⟨⟨#[]⟩,[],false,false⟩
theorem psT_succ(l:List MUs){k:Nat}(hk:k<l.length):psT l (k+1)=psStep l.length (fstU l) (psT l k) l[k].u:=by
 unfold psT;rw[List.take_succ_eq_append_getElem hk,List.foldl_append];rfl
theorem psT_all(l:List MUs):psT l l.length=psAll (l.map MUs.u).length (fstU l) (l.map MUs.u):=by
 unfold psT psAll;rw[List.take_length,List.length_map,List.foldl_map]
structure SY(w0:World)(nm giver:ByteArray)(A:Option Addr)(cap:Nat)(wants:List ByteArray)(e0 e1:Bool)(w:World):Prop where
 b0:Box w w0.heap.size 33 #[.string ⟨#[]⟩,.string ⟨#[]⟩,.slice none 0 0]
 b1:Box w (w0.heap.size+1) 33 #[.string nm,.string giver,.slice A wants.length cap]
 b2:Box w (w0.heap.size+2) 90 #[.bool e0,.bool e1,.bool false]
 sg:Seg w 9 A cap (wants.map Value.string)
 wf:∀g∈blk A,w0.heap.size≤g
 on:Below w0.heap.size w0 w
section
variable {w0 w w':World} {nm giver:ByteArray} {A:Option Addr} {cap:Nat} {wants:List ByteArray} {e0 e1:Bool}
theorem SY.below(h:SY w0 nm giver A cap wants e0 e1 w)(hb:Below w.heap.size w w'):SY w0 nm giver A cap wants e0 e1 w':=
 have f:=Fr.of_below hb []
 ⟨h.b0.kept f (by simp),h.b1.kept f (by simp),h.b2.kept f (by simp),h.sg.kept f (by simp),h.wf,h.on.trans (hb.mono h.on.size)⟩
theorem SY.n1(h:SY w0 nm giver A cap wants e0 e1 w):w0.heap.size+1∉blk A:=h.sg.ne_box h.b1 (by decide)
theorem SY.n2(h:SY w0 nm giver A cap wants e0 e1 w):w0.heap.size+2∉blk A:=h.sg.ne_box h.b2 (by decide)
theorem SY.n0(h:SY w0 nm giver A cap wants e0 e1 w):w0.heap.size∉blk A:=h.sg.ne_box h.b0 (by decide)
theorem SY.set0(h:SY w0 nm giver A cap wants e0 e1 w)(b:Bool):SY w0 nm giver A cap wants b e1 (w.setCell ⟨w0.heap.size+2,0,none⟩ (.bool b)):=by
 have f:Fr [w0.heap.size+2] w (w.setCell ⟨w0.heap.size+2,0,none⟩ (.bool b)):=(Fr.refl _ w).setCell (Or.inl (by simp)) _;refine⟨h.b0.kept f (by simp),h.b1.kept f (by simp),?_,h.sg.kept f (fun g hg e=>by rw[List.mem_singleton]at e;subst e;exact h.n2 hg),h.wf,h.on.trans (f.below (by simp) h.on.size)⟩;have:=h.b2.put 0 (.bool b)
 simpa using this
theorem SY.set1(h:SY w0 nm giver A cap wants e0 e1 w)(b:Bool):SY w0 nm giver A cap wants e0 b (w.setCell ⟨w0.heap.size+2,1,none⟩ (.bool b)):=by
 have f:Fr [w0.heap.size+2] w (w.setCell ⟨w0.heap.size+2,1,none⟩ (.bool b)):=(Fr.refl _ w).setCell (Or.inl (by simp)) _;refine⟨h.b0.kept f (by simp),h.b1.kept f (by simp),?_,h.sg.kept f (fun g hg e=>by rw[List.mem_singleton]at e;subst e;exact h.n2 hg),h.wf,h.on.trans (f.below (by simp) h.on.size)⟩;have:=h.b2.put 1 (.bool b)
 simpa using this
theorem SY.setG(h:SY w0 nm giver A cap wants e0 e1 w)(s:ByteArray):SY w0 nm s A cap wants e0 e1 (w.setCell ⟨w0.heap.size+1,1,none⟩ (.string s)):=by
 have f:Fr [w0.heap.size+1] w (w.setCell ⟨w0.heap.size+1,1,none⟩ (.string s)):=(Fr.refl _ w).setCell (Or.inl (by simp)) _;refine⟨h.b0.kept f (by simp),?_,h.b2.kept f (by simp),h.sg.kept f (fun g hg e=>by rw[List.mem_singleton]at e;subst e;exact h.n1 hg),h.wf,h.on.trans (f.below (by simp) h.on.size)⟩;have:=h.b1.put 1 (.string s)
 simpa using this
theorem SY.push(h:SY w0 nm giver A cap wants e0 e1 w){A3:Option Addr}{cap3 n:Nat}{s:ByteArray}{w3:World}{ob:Obj}(hn:n=wants.length)(hs3:Seg w3 9 A3 cap3 (wants.map Value.string++[.string s]))(f3:Fr (blk A) (w.alloc ob) w3)(hf3:blk A3=blk A∨blk A3=[(w.alloc ob).heap.size]) :
 (w3.cell? ⟨w0.heap.size+1,2,none⟩=some (.slice A n cap)∧w3.frozen? ⟨w0.heap.size+1,2,none⟩=false∧w0.heap.size+1<w3.heap.size)∧SY w0 nm giver A3 cap3 (wants++[s]) e0 e1 (w3.setCell ⟨w0.heap.size+1,2,none⟩ (.slice A3 (n+1) cap3)) ∧
 ∀g,g<w.heap.size→g∉blk A→g≠w0.heap.size+1→(w3.setCell ⟨w0.heap.size+1,2,none⟩ (.slice A3 (n+1) cap3)).heap[g]? = w.heap[g]?:=by
 subst hn;have hF:Fr (blk A) w w3:=((Fr.refl [] w).alloc ob).trans f3 (by simp) (fun g hg=>Or.inl hg);have hb1:=h.b1.kept hF h.n1;have f:Fr [w0.heap.size+1] w3 (w3.setCell ⟨w0.heap.size+1,2,none⟩ (.slice A3 (wants.length+1) cap3)):=(Fr.refl _ w3).setCell (Or.inl (by simp)) _;have hA3:∀q∈blk A3,q∈blk A∨w.heap.size≤q:=fun q hq=>by
  rcases hf3 with e | e
  ·exact Or.inl (e ▸ hq)
  ·rw[e,List.mem_singleton]at hq
   subst hq;right;simp
 have n3:w0.heap.size+1∉blk A3:=hs3.ne_box hb1 (by decide);refine⟨⟨hb1.cell 2,hb1.free 2,hb1.lt⟩,⟨(h.b0.kept hF h.n0).kept f (by simp),?_,(h.b2.kept hF h.n2).kept f (by simp),?_,fun g hg=>?_,?_⟩,fun g hg hn hne=>?_⟩
 ·have:=hb1.put 2 (.slice A3 (wants.length+1) cap3)
  rw[List.length_append,List.length_singleton]
  simpa using this
 ·rw[List.map_append]
  exact hs3.kept f (fun g hg e=>by rw[List.mem_singleton]at e;subst e;exact n3 hg)
 ·rcases hA3 g hg with h1 | h1
  ·exact h.wf g h1
  ·exact Nat.le_trans h.on.size h1
 ·have o1:Below w0.heap.size w0 w3:=h.on.trans (hF.below h.wf h.on.size)
  exact o1.trans (f.below (by simp) o1.size)
 ·exact(f.block g (Nat.lt_of_lt_of_le hg hF.size) (by simpa using hne)).trans (hF.block g hg hn)
end
structure UsL(w:World)(A:Option Addr)(l:List MUs):Prop where
 t:Tbl w A 9 (l.map MUs.row)
 ok:∀x∈l,UOk w x
theorem UsL.below{w w':World}{A:Option Addr}{l:List MUs}(h:UsL w A l)(hb:Below w.heap.size w w'):UsL w' A l:=⟨h.t.below hb,fun x hx=>(h.ok x hx).below hb⟩
theorem UsL.at_{w:World}{A:Option Addr}{l:List MUs}(h:UsL w A l){k:Nat}(hk:k<l.length):∃g off,A=some ⟨g,off,none⟩∧g<w.heap.size∧∀i v,l[k].row[i]? = some v→w.cell? ⟨g,off+k * 9+i,none⟩=some v:=by
 obtain⟨b,off,e,hl,hc⟩:=h.t (by rw[List.length_map];omega);exact⟨b,off,e,hl,fun i v hv=>hc k (by rw[List.length_map];exact hk) i v (by rw[List.getElem_map];exact hv)⟩
def SymQ(w:World)(nm:ByteArray)(p:PS)(e:Ending)(w':World):Prop:=
 Below w.heap.size w w'∧((symC p=0∧∃B cap,e=.returned (.tuple #[.agg #[.string nm,.string p.giver,.slice B (rsS (p.wanted.map tx)).length cap],.int .i64 0])∧Rd w' B ((rsS (p.wanted.map tx)).map encStr)∧∀g∈blk B,w.heap.size≤g∧g<w'.heap.size) ∨
  (symC p≠0∧e=.returned (.tuple #[.agg #[.string ⟨#[]⟩,.string ⟨#[]⟩,.slice none 0 0],.int .i64 (symC p)])))
theorem symQ_bad{w w':World}{nm:ByteArray}{p:PS}{c:Int}(hb:Below w.heap.size w w')(hc:symC p=c)(h0:c≠0):SymQ w nm p (.returned (.tuple #[.agg #[.string ⟨#[]⟩,.string ⟨#[]⟩,.slice none 0 0],.int .i64 c])) w':=by
 subst hc;exact⟨hb,Or.inr ⟨h0,rfl⟩⟩
theorem results_cell_tmp{P:Program}{fn:Func}{p q:Tmp}{ty:TypeId}(h:fn.results=#[.cell p ty,.tmp q])(tmps:Array Value)(w:World)(g:Nat)(t:TypeId)(cs:Array Value)(fr:Nat×Nat)(d:TypeDesc)(v:Value)
 (hp:tmps.getD p undef=.pointer (some ⟨g,0,none⟩)) (hq:tmps.getD q undef=v) (hg:w.heap[g]? = some (.cells cs t fr))
 (hu:P.underlying ty=some d) (hd:(match d with | .struct _ | .array _ _=>true | _=>false)=true) (hi:(P.info? ty).map (·.size)=some cs.size) :
 (results fn tmps).run P w=.ok (.tuple #[.agg cs,v]) w:=by
 subst hq;have hp':tmps[p]?.getD undef=.pointer (some ⟨g,0,none⟩):=by simpa using hp
 simp[results,h,hp',asAddr,run_loadVar_row w g t ty cs fr d hg hu hd hi]
theorem cSy:Tryz.prog.underlying 33=some (.struct (Tryz.prog.fieldsOf 33)):=by kernel_rfl
theorem three_put{w:World}{b:Nat}{t:TypeId}{z0 z1 z2:Value}(h:Box w b t #[z0,z1,z2])(v0 v1 v2:Value) :
 Box (((w.setCell ⟨b,0,none⟩ v0).setCell ⟨b,1,none⟩ v1).setCell ⟨b,2,none⟩ v2) b t #[v0,v1,v2]∧Fr [b] w (((w.setCell ⟨b,0,none⟩ v0).setCell ⟨b,1,none⟩ v1).setCell ⟨b,2,none⟩ v2):=by
 have p:∀i:Nat,(⟨b,i,none⟩:Addr).block∈[b]∨w.heap.size≤(⟨b,i,none⟩:Addr).block:=fun i=>Or.inl (by simp)
 refine⟨?_,(((Fr.refl [b] w).setCell (p 0) v0).setCell (p 1) v1).setCell (p 2) v2⟩;have:=((h.put 0 v0).put 1 v1).put 2 v2
 simpa using this
theorem sy_new(w:World)(nm:ByteArray):SY w nm ⟨#[]⟩ none 0 [] false false (((w.alloc (.cells #[.string ⟨#[]⟩,.string ⟨#[]⟩,.slice none 0 0] 33)).alloc (.cells #[.string nm,.string ⟨#[]⟩,.slice none 0 0] 33)).alloc (.cells #[.bool false,.bool false,.bool false] 90)):=by
 refine⟨?_,?_,?_,Seg.nil _ _,fun g hg=>(by cases hg),(((Fr.refl [] w).alloc _).alloc _).alloc _ |>.all⟩
 ·exact(Box.new w _ _).kept ((((Fr.refl [] _).alloc _)).alloc _) (by simp)
 ·have:=Box.new (w.alloc (.cells #[.string ⟨#[]⟩,.string ⟨#[]⟩,.slice none 0 0] 33)) 33 #[.string nm,.string ⟨#[]⟩,.slice none 0 0]
  rw[World.size_alloc]at this;exact this.kept ((Fr.refl [] _).alloc _) (by simp)
 ·have:=Box.new ((w.alloc (.cells #[.string ⟨#[]⟩,.string ⟨#[]⟩,.slice none 0 0] 33)).alloc (.cells #[.string nm,.string ⟨#[]⟩,.slice none 0 0] 33)) 90 #[.bool false,.bool false,.bool false]
  rwa[World.size_alloc,World.size_alloc]at this
theorem emp_size(s:ByteArray):(s.toList==[])=decide (s.size=0):=by
 rw[Bool.eq_iff_iff,beq_iff_eq,decide_eq_true_iff];rcases s with⟨d⟩;rw[ByteArray.toList_eq];show d.toList=[]↔d.size=0;rw[Array.toList_eq_nil_iff];exact Array.size_eq_zero_iff.symm
theorem emp_isE(s:ByteArray):s.toList.isEmpty=decide (s.size=0):=by
 rw[←emp_size];cases s.toList <;> rfl
end ym
namespace ym
open RowKit Go.Sort Shelf mem sy
open re (tx SU MU SumM)
theorem results_cct{P:Program}{fn:Func}{p q r:Tmp}{tp tq:TypeId}(h:fn.results=#[.cell p tp,.cell q tq,.tmp r])(tmps:Array Value)(w:World)(gp gq:Nat)(t t2:TypeId)(cs ds:Array Value)(fr fr2:Nat×Nat)(d d2:TypeDesc)(v:Value)
 (hp:tmps.getD p undef=.pointer (some ⟨gp,0,none⟩)) (hq:tmps.getD q undef=.pointer (some ⟨gq,0,none⟩)) (hr:tmps.getD r undef=v) (hg:w.heap[gp]? = some (.cells cs t fr)) (hg2:w.heap[gq]? = some (.cells ds t2 fr2))
 (hu:P.underlying tp=some d) (hd:(match d with | .struct _ | .array _ _=>true | _=>false)=true) (hi:(P.info? tp).map (·.size)=some cs.size)
 (hu2:P.underlying tq=some d2) (hd2:(match d2 with | .struct _ | .array _ _=>true | _=>false)=true) (hi2:(P.info? tq).map (·.size)=some ds.size) :
 (results fn tmps).run P w=.ok (.tuple #[.agg cs,.agg ds,v]) w:=by
 subst hr;have hp':tmps[p]?.getD undef=.pointer (some ⟨gp,0,none⟩):=by simpa using hp
 have hq':tmps[q]?.getD undef=.pointer (some ⟨gq,0,none⟩):=by simpa using hq
 simp[results,h,hp',hq',asAddr,run_loadVar_row w gp t tp cs fr d hg hu hd hi,run_loadVar_row w gq t2 tq ds fr2 d2 hg2 hu2 hd2 hi2]
def inM(s:MS)(n:List UInt8):Option (MO×SF):=
 match s.os.find? (fun x=>decide (tx x.o.name=n))with
 | some x=>some (x,fZ)
 | none=>(s.fs.find? (fun f=>decide (tx f.name=n))).map fun f=>(⟨oZ,none,0⟩,f)
end ym
namespace re
open RowKit Shelf mem
theorem below_drewN{N:Nat}{W w:World}(h:Below N W w)(hN:N≤w.heap.size)(n:Nat):Below N W (w.drewN n):=h.trans (((Fr.refl [] w).drewN n).below (by simp) hN)
theorem under_sfr:Tryz.prog.underlying 72=some (.struct (Tryz.prog.fieldsOf 72)):=by kernel_rfl
theorem stood_sfr:Tryz.prog.stoodInHeld 72=false:=by kernel_rfl
theorem fields_sfr:(Tryz.prog.fieldsOf 72).toList.map (fun f=>(f.name == "_",f.type,f.offset))=[(false,9,0),(false,9,1),(false,9,2)]:=by kernel_rfl
theorem guard_mkr:Tryz.prog.eqGuardType Tryz.prog.depth 101=false:=by kernel_rfl
theorem guard_sfr:Tryz.prog.eqGuardType Tryz.prog.depth 72=false:=by kernel_rfl
end re
end Go.Proofs.YtlkboeajkgbnaaaGreatDoor
