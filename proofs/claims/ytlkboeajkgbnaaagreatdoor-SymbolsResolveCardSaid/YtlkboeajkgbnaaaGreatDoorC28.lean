import Derived.Test.YtlkboeajkgbnaaaGreatDoorC17
import Derived.Test.YtlkboeajkgbnaaaGreatDoorC29
set_option linter.all false
set_option maxHeartbeats 4000000
namespace Go.Proofs.YtlkboeajkgbnaaaGreatDoor
open Lib(hid)
set_option maxRecDepth 100000
namespace sf
open RowKit Go.Sort mem sy dg
open re (tx SumM MU SU)
open nm (Tab tab_below)
def namesL(u:SU):List (List UInt8):=u.sys.objs.map (fun o=>tx o.name)++u.sys.fns.map (fun f=>tx f.name)
def inD(u:SU)(s:ByteArray):Bool:=decide (tx s∈namesL u)
def inW(u:SU)(s:ByteArray):Bool:=decide (tx s∈u.wants.map tx)
def orE(b:Bool)(c:Int):Int:=if b then 0 else c
noncomputable def esC(u:SU):List Int:=[orE (nameB u.name) 11,checkE u.sys,orE (risB (u.gives.map tx)) 13,orE (u.gives.all (inD u)) 7,orE (risB (u.wants.map tx)) 13,orE (u.wants.all (inD u)) 7,orE (u.gives.all (fun s=>!inW u s)) 8,orE (decide (u.keeps.length≤6000)) 4,orE (risB (u.keeps.map tx)) 13,orE (u.keeps.all nodeB) 11]
structure SumK(w:World)(u:MU):Prop where
 m:SumM w u
 n:u.name.size≤maxLen
 gl:u.gives.length≤1000000
 wl:u.wants.length≤900000
 kl:u.keeps.length≤1000000
 ol:u.s.os.length+u.s.fs.length≤900000
 gs:∀s∈u.gives,s.size≤maxLen
 ws:∀s∈u.wants,s.size≤maxLen
 ks:∀s∈u.keeps,s.size≤maxLen
theorem SumK.below{w w':World}{u:MU}(h:SumK w u)(hb:Below w.heap.size w w'):SumK w' u:=⟨h.m.below hb,h.n,h.gl,h.wl,h.kl,h.ol,h.gs,h.ws,h.ks⟩
theorem wf_tx{s:ByteArray}(h:s.size≤maxLen):ins.WF (tx s):=h
theorem foldl_take{α β:Type}(f:β→α→β)(l:List α)(b:β){k:Nat}(hk:k<l.length):(l.take (k+1)).foldl f b=f ((l.take k).foldl f b) l[k]:=by
 rw[List.take_succ_eq_append_getElem hk,List.foldl_append];rfl
theorem t2_new(W1:World):T2 W1 W1.heap.size (W1.heap.size+1) 0 0 [] [] ((W1.alloc (.cells #[.map none,.slice none 0 0] 48)).alloc (.cells #[.map none,.slice none 0 0] 48)):=by
 have hz:(W1.alloc (.cells #[.map none,.slice none 0 0] 48)).heap.size=W1.heap.size+1:=Array.size_push _;have t1:=(ins.ts_new W1).kept ((Fr.refl [] _).alloc (.cells #[.map none,.slice none 0 0] 48)) (by simp);have t2:=ins.ts_new (W1.alloc (.cells #[.map none,.slice none 0 0] 48));rw[hz]at t2;have hs:((W1.alloc (.cells #[.map none,.slice none 0 0] 48)).alloc (.cells #[.map none,.slice none 0 0] 48)).heap.size=W1.heap.size+2:=by
  show(Array.push _ _).size=_;rw[Array.size_push,hz]
 refine⟨none,0,none,none,0,none,t1,t2,fun g hg=>?_,fun g hg=>?_,(((Fr.refl [] W1).alloc _).alloc _).all⟩
 ·have:g=W1.heap.size:=by simpa[ins.foot,blk] using hg
  subst this;refine⟨Nat.le_refl _,by omega,fun h=>?_⟩;have:W1.heap.size=W1.heap.size+1:=by simpa[ins.foot,blk] using h
  omega
 ·have:g=W1.heap.size+1:=by simpa[ins.foot,blk] using hg
  subst this;exact⟨by omega,by omega⟩
theorem T2.be{W w:World}{b1 b2 n1 n2:Nat}{d e:List (List UInt8)}(h:T2 W b1 b2 n1 n2 d e w):Below W.heap.size W w:=by
 obtain⟨_,_,_,_,_,_,_,_,_,_,b⟩:=h;exact b
theorem scheck_any(w:World)(u:MU)(hu:SumK w u)(htab:Tab w):Calls Tryz.prog 12 #[u.val] w (IPost (fst0 (esC u.su)) w):=by
 obtain⟨W1,hW1⟩:∃W1,Hid (W1=w.alloc (.cells u.row 43)):=⟨_,hid rfl⟩;have hz:(w.alloc (.cells u.row 43)).heap.size=w.heap.size+1:=Array.size_push _;have bW:Below w.heap.size w W1:=by rw[hW1.out];exact(Below.refl _ _).alloc (Nat.le_refl _) _
 have B0:Box W1 w.heap.size 43 u.row:=by rw[hW1.out];exact Box.new w _ _
 have hz1:Hid (W1.heap.size=w.heap.size+1):=hid (by rw[hW1.out];exact hz);have T00:=t2_new W1;rw[hz1.out]at T00;have T0:=hid T00;clear T00;have HB:=hid (fun w2 (b:Below W1.heap.size W1 w2)=>B0.kept (Fr.of_below b []) (by simp));have HU:=hid (fun w2 (b:Below W1.heap.size W1 w2)=>(hu.below bW).below b);have HT:=hid (fun w2 (b:Below W1.heap.size W1 w2)=>tab_below (tab_below htab bW) b);have HP:=hid (fun(w2:World) (b:Below W1.heap.size W1 w2)=>bW.trans (b.mono bW.size))
 have HD:Hid (∀s,inD u.su s=decide (tx s∈((u.s.os.map (fun o=>tx o.o.name))++u.s.fs.map (fun f=>tx f.name)).foldl putL [])):=hid (fun s=>by
  unfold inD namesL MU.su MS.sys;rw[decide_eq_decide,mem_puts]
  simp[List.map_map])
 have HWn:Hid (∀s,inW u.su s=decide (tx s∈(u.wants.map tx).foldl putL [])):=hid (fun s=>by
  unfold inW MU.su;rw[decide_eq_decide,mem_puts]
  simp)
 obtain⟨V,hV⟩:∃V,Hid (V=fst0 (esC u.su)):=⟨_,hid rfl⟩;obtain⟨ON,hON⟩:∃ON,Hid (ON=u.s.os.map (fun o=>tx o.o.name)):=⟨_,hid rfl⟩;obtain⟨FN,hFN⟩:∃FN,Hid (FN=u.s.fs.map (fun f=>tx f.name)):=⟨_,hid rfl⟩;obtain⟨WN,hWN⟩:∃WN,Hid (WN=u.wants.map tx):=⟨_,hid rfl⟩;rw[←hON.out,←hFN.out]at HD;rw[←hWN.out]at HWn;rw[←hV.out];have hol:=hu.ol;have hwl:=hu.wl;clear hu htab bW B0;obtain⟨nm,gA,gc,gs,wA,wc,ws,kA,kc,ks,⟨oA,oc,os,fA,fc,fs,cA,cc,cs⟩⟩:=u;dsimp only at hol hwl hON hFN hWN;have y4:=fun w2 b=>(HB.out w2 b).cell 4
 have y5:=fun w2 b=>(HB.out w2 b).cell 5
 have y2:=fun w2 b=>(HB.out w2 b).cell 2
 unfold MU.val MU.row at *;dsimp only at *;simp only[List.getElem?_toArray,List.getElem?_cons_zero,List.getElem?_cons_succ]at y4 y5 y2;have Y4:=hid y4;have Y5:=hid y5;have Y2:=hid y2;clear y4 y5 y2;have hzz:(W1.alloc (.cells #[.map none,.slice none 0 0] 48)).heap.size=W1.heap.size+1:=Array.size_push _;go_enter Tryz.func12,Tryz.ntmps12;go_upto_region 2 with fail;rw[←hW1.out]
 try rw[hzz]
 generalize (W1.alloc (.cells #[.map none,.slice none 0 0] 48)).alloc (.cells #[.map none,.slice none 0 0] 48)=W3 at *;clear hzz hz hW1;have z4:=Y4.out W3 T0.out.be;have hONl:Hid (ON.length=os.length):=hid (by rw[hON.out,List.length_map]);have hFNl:Hid (FN.length=fs.length):=hid (by rw[hFN.out,List.length_map]);have hWNl:Hid (WN.length=ws.length):=hid (by rw[hWN.out,List.length_map]);have T0':Hid (T2 W1 (w.heap.size+1) (w.heap.size+1+1) 0 0 ((ON.take 0).foldl putL []) [] W3):=T0;obtain⟨no,hno⟩:∃no,Hid (no=os.length):=⟨_,hid rfl⟩;obtain⟨nf,hnf⟩:∃nf,Hid (nf=fs.length):=⟨_,hid rfl⟩;obtain⟨nw,hnw⟩:∃nw,Hid (nw=ws.length):=⟨_,hid rfl⟩;rw[←hno.out]at z4 Y4 hol;rw[←hnf.out]at Y5 hol;rw[←hnw.out]at Y2 hwl
 try rw[←hno.out]
 clear T0;go_wp2_with fail;go_loopw [17] (fun i wr=>∃k:Nat,k≤no∧i=.int .i64 k∧Hid (T2 W1 (w.heap.size+1) (w.heap.size+1+1) k 0 ((ON.take k).foldl putL []) [] wr)) (fun i _=>no-(intOf i).toNat)
 case atStart=>exact⟨0,by omega,rfl,T0'⟩
 case round=>
  obtain⟨k,hk,rfl,HTk⟩:=hrel
  rename World=>wr
  clear T0';by_cases hkl:k<no
  ·have e1:decide ((k:Int)<(no:Int))=true:=decide_eq_true (by omega)
   have hkx:k<os.length:=by rw[←hno.out];exact hkl
   have hkN:k<ON.length:=by rw[hONl.out];exact hkx
   have hU:=HU.out wr HTk.out.be;obtain⟨g,off,rfl,hg,c0,c1,c2⟩:=tbl_obj hU.m.sr.o hkx;have hx:ins.WF (tx os[k].o.name):=wf_tx (hU.m.sr.ok os[k] (List.getElem_mem hkx)).n;have hnx:=hid (foldl_take putL ON [] hkN);have hNk:Hid (ON[k] = tx os[k].o.name):=hid (by simp[hON.out]);rw[hNk.out]at hnx;have HT1:=HTk.out.below (w':=wr.alloc (.cells #[.string os[k].o.name,.string os[k].o.kinds,.slice os[k].mA os[k].o.marks.length os[k].mc] 70)) ((Fr.refl [] wr).alloc _).all;have KP:=hid (t2_put HT1 (tx os[k].o.name) hx (by omega));rw[enc_tx,←hnx.out]at KP;clear HT1 hNk hnx hx hU hg;generalize os[k] = x at *;obtain⟨⟨xn,xk,xm⟩,xA,xc⟩:=x;dsimp only at c0 c1 c2 KP;generalize xm.length=xl at *;go_wp2_with fail;refine KP.out.mono ?_;rintro e w2 ⟨⟨v,rfl⟩,ht⟩;have HT2:=hid ht;clear ht KP HTk c0 c1 c2;go_wp2_with fail;go_roundw
   case rel=>exact⟨k+1,by omega,by go_num,HT2⟩
   case measure=>simp[intOf];omega
  ·obtain rfl:k=no:=by omega
   have e1:decide ((k:Int)<(k:Int))=false:=decide_eq_false (by omega)
   have HT3:Hid (T2 W1 (w.heap.size+1) (w.heap.size+1+1) k 0 ((ON++FN.take 0).foldl putL []) [] wr):=hid (by
    have h:=HTk.out;rw[List.take_of_length_le (by rw[hONl.out,←hno.out];exact Nat.le_refl _)]at h;rw[List.take_zero,List.append_nil]
    exact h)
   have z5:=Y5.out wr HT3.out.be;clear HTk;go_wp2_with fail;obtain⟨kO,hkO⟩:∃kO,Hid (kO=k):=⟨_,hid rfl⟩;rw[←hkO.out]at HT3;go_loopw [29] (fun i wr=>∃j:Nat,j≤nf∧i=.int .i64 j∧Hid (T2 W1 (w.heap.size+1) (w.heap.size+1+1) (kO+j) 0 ((ON++FN.take j).foldl putL []) [] wr)) (fun i _=>nf-(intOf i).toNat)
   case atStart=>exact⟨0,by omega,rfl,HT3⟩
   case round=>
    obtain⟨j,hj,rfl,HTj⟩:=hrel;clear HT3 z4 z5
    rename World=>wr2
    by_cases hjl:j<nf
    ·have e1:decide ((j:Int)<(nf:Int))=true:=decide_eq_true (by omega)
     have hjx:j<fs.length:=by rw[←hnf.out];exact hjl
     have hjN:j<FN.length:=by rw[hFNl.out];exact hjx
     have hU:=HU.out wr2 HTj.out.be;obtain⟨g,off,rfl,hg,c0,c1,c2⟩:=tbl_fn hU.m.sr.f hjx;have hx:ins.WF (tx fs[j].name):=wf_tx (hU.m.sr.fk fs[j] (List.getElem_mem hjx)).n
     have hnx:Hid ((ON++FN.take (j+1)).foldl putL [] = putL ((ON++FN.take j).foldl putL []) FN[j]):=hid (by
      rw[List.take_succ_eq_append_getElem hjN,←List.append_assoc,List.foldl_append]
      rfl)
     have hNk:Hid (FN[j] = tx fs[j].name):=hid (by simp[hFN.out]);rw[hNk.out]at hnx;have HT1:=HTj.out.below (w':=wr2.alloc (.cells #[.string fs[j].name,.string fs[j].kinds,.string fs[j].ret] 72)) ((Fr.refl [] wr2).alloc _).all;have KP:=hid (t2_put HT1 (tx fs[j].name) hx (by have:=hkO.out;omega));rw[enc_tx,←hnx.out]at KP;clear HT1 hNk hnx hx hU hg;generalize fs[j] = x at *;obtain⟨xn,xk,xr⟩:=x;dsimp only at c0 c1 c2 KP;go_wp2_with fail;refine KP.out.mono ?_;rintro e w2 ⟨⟨v,rfl⟩,ht⟩;have HT2:=hid ht;clear ht KP HTj c0 c1 c2;go_wp2_with fail;go_roundw
     case rel=>exact⟨j+1,by omega,by go_num,HT2⟩
     case measure=>simp[intOf];omega
    ·obtain rfl:j=nf:=by omega
     have e1:decide ((j:Int)<(j:Int))=false:=decide_eq_false (by omega);obtain⟨D,hD⟩:∃D,Hid (D=(ON++FN).foldl putL []):=⟨_,hid rfl⟩;rw[←hD.out]at HD
     have HT4:Hid (T2 W1 (w.heap.size+1+1) (w.heap.size+1) 0 (kO+j) ((WN.take 0).foldl putL []) D wr2):=hid (by
      have h:=HTj.out;rw[List.take_of_length_le (by rw[hFNl.out,←hnf.out];exact Nat.le_refl _),←hD.out]at h
      exact h.swap)
     have z2:=Y2.out wr2 HT4.out.be;clear HTj;go_wp2_with fail;obtain⟨nD,hnD⟩:∃nD,Hid (nD=kO+j):=⟨_,hid rfl⟩;rw[←hnD.out]at HT4;go_loopw [40] (fun i wr=>∃q:Nat,q≤nw∧i=.int .i64 q∧Hid (T2 W1 (w.heap.size+1+1) (w.heap.size+1) q nD ((WN.take q).foldl putL []) D wr)) (fun i _=>nw-(intOf i).toNat)
     case atStart=>exact⟨0,by omega,rfl,HT4⟩
     case round=>
      obtain⟨q,hq,rfl,HTq⟩:=hrel;clear HT4 z2
      rename World=>wr3
      by_cases hql:q<nw
      ·have e1:decide ((q:Int)<(nw:Int))=true:=decide_eq_true (by omega)
       have hqx:q<ws.length:=by rw[←hnw.out];exact hql
       have hqN:q<WN.length:=by rw[hWNl.out];exact hqx
       have hU:=HU.out wr3 HTq.out.be;obtain⟨g,off,rfl,hgl,hc⟩:=hU.m.wr (by rw[List.length_map];exact Nat.lt_of_le_of_lt (Nat.zero_le _) hqx);have c0:=hc q (by rw[List.length_map];exact hqx);rw[List.getElem_map]at c0;have hx:ins.WF (tx ws[q]):=wf_tx (hU.ws ws[q] (List.getElem_mem hqx));have hnx:=hid (foldl_take putL WN [] hqN);have hNk:Hid (WN[q] = tx ws[q]):=hid (by simp[hWN.out]);rw[hNk.out]at hnx;have KP:=hid (t2_put HTq.out (tx ws[q]) hx (by omega));rw[enc_tx,←hnx.out]at KP;clear hNk hnx hx hU hgl hc;generalize ws[q] = x at *;go_wp2_with fail;refine KP.out.mono ?_;rintro e w2 ⟨⟨v,rfl⟩,ht⟩;have HT2:=hid ht;clear ht KP HTq c0;go_wp2_with fail;go_roundw
       case rel=>exact⟨q+1,by omega,by go_num,HT2⟩
       case measure=>simp[intOf];omega
      ·obtain rfl:q=nw:=by omega
       have e1:decide ((q:Int)<(q:Int))=false:=decide_eq_false (by omega);obtain⟨E,hE⟩:∃E,Hid (E=WN.foldl putL []):=⟨_,hid rfl⟩;rw[←hE.out]at HWn
       have HT5:Hid (T2 W1 (w.heap.size+1) (w.heap.size+1+1) nD q D E wr3):=hid (by
        have h:=HTq.out;rw[List.take_of_length_le (by rw[hWNl.out,←hnw.out];exact Nat.le_refl _),←hE.out]at h
        exact h.swap)
       clear HTq hON hFN hWN hONl hFNl hWNl hD hE;go_wp2_with fail;rename_i K0 hK;have hU:=HU.out wr3 HT5.out.be;have hBx:=HB.out wr3 HT5.out.be;have hTb:=HT.out wr3 HT5.out.be;have HP3:=hid (HP.out wr3 HT5.out.be);have hF49:=check3_any wr3 w.heap.size ⟨nm,gA,gc,gs,wA,wc,ws,kA,kc,ks,⟨oA,oc,os,fA,fc,fs,cA,cc,cs⟩⟩ hBx hU.n;have hF51:=check4_any wr3 w.heap.size ⟨nm,gA,gc,gs,wA,wc,ws,kA,kc,ks,⟨oA,oc,os,fA,fc,fs,cA,cc,cs⟩⟩ hBx hU.m.sr hTb;have hF73:=check5_any wr3 w.heap.size ⟨nm,gA,gc,gs,wA,wc,ws,kA,kc,ks,⟨oA,oc,os,fA,fc,fs,cA,cc,cs⟩⟩ hBx;have hIsG:=check1_any W1 wr3 _ _ _ _ D E HT5.out gs (fun s hs=>wf_tx (hU.gs s hs));have hIsW:=check1_any W1 wr3 _ _ _ _ D E HT5.out ws (fun s hs=>wf_tx (hU.ws s hs));have hAlG:=check2_any W1 wr3 _ _ _ _ E D HT5.out.swap gs (fun s hs=>wf_tx (hU.gs s hs));have hNdK:=node_f1 wr3 hTb ks hU.ks;have HrG:=hid (fun w2 (b:Below wr3.heap.size wr3 w2)=>rising_any w2 gA gc gs (hU.m.gr.below b) hU.gl)
       have HrW:=hid (fun w2 (b:Below wr3.heap.size wr3 w2)=>rising_any w2 wA wc ws (hU.m.wr.below b) (Nat.le_trans hU.wl (by decide)));have HrK:=hid (fun w2 (b:Below wr3.heap.size wr3 w2)=>rising_any w2 kA kc ks (hU.m.kr.below b) hU.kl);have HaG:=hid (fun w2 (b:Below wr3.heap.size wr3 w2)=>all_any w2 gA gc _ gs _ (hIsG.below b) (hU.m.gr.below b) (Nat.le_trans hU.gl (by decide)));have HaW:=hid (fun w2 (b:Below wr3.heap.size wr3 w2)=>all_any w2 wA wc _ ws _ (hIsW.below b) (hU.m.wr.below b) (Nat.le_trans hU.wl (by decide)));have HaL:=hid (fun w2 (b:Below wr3.heap.size wr3 w2)=>all_any w2 gA gc _ gs _ (hAlG.below b) (hU.m.gr.below b) (Nat.le_trans hU.gl (by decide)));have HaK:=hid (fun w2 (b:Below wr3.heap.size wr3 w2)=>all_any w2 kA kc _ ks _ (hNdK.below b) (hU.m.kr.below b) (Nat.le_trans hU.kl (by decide)));have HY:=hid (fun w2 (b:Below wr3.heap.size wr3 w2)=>hBx.kept (Fr.of_below b []) (by simp))
       have H49:=hid hF49;have H51:=hid hF51;have H73:=hid hF73;have hVe:=hV.out;rw[show esC _=[orE (nameB nm) 11,checkE _,orE (risB (gs.map tx)) 13,orE (gs.all (inD _)) 7,orE (risB (ws.map tx)) 13,orE (ws.all (inD _)) 7,orE (gs.all (fun s=>!inW _ s)) 8,orE (decide (ks.length≤6000)) 4,orE (risB (ks.map tx)) 13,orE (ks.all nodeB) 11] from rfl,show inD _=(fun s=>decide (tx s∈D)) from funext HD.out,show(fun s=>!inW _ s)=(fun s=>!decide (tx s∈E)) from funext (fun s=>by rw[HWn.out s])]at hVe;have HV:=hid hVe;clear hVe hV hU hBx hTb hF49 hF51 hF73 hIsG hIsW hAlG hNdK HD HWn HU HB HT HP HT5 Y4 Y5 Y2;dsimp only[MU.su,MS.sys]at HV H49 H51 H73;generalize nameB nm=nB at *;generalize checkE _=ce at *;generalize risB (gs.map tx)=rg at *;generalize risB (ws.map tx)=rw at *;generalize risB (ks.map tx)=rk at *;generalize (gs.all fun s=>decide (tx s∈D))=ga at *;generalize (ws.all fun s=>decide (tx s∈D))=wa at *
       generalize (gs.all fun s=>!decide (tx s∈E))=gl at *;generalize decide (ks.length≤6000)=kn at *;generalize ks.all nodeB=kl at *;obtain⟨es,hes⟩:∃es,Hid (es=[orE nB 11,ce,orE rg 13,orE ga 7,orE rw 13,orE wa 7,orE gl 8,orE kn 4,orE rk 13,orE kl 11]):=⟨_,hid rfl⟩;rw[←hes.out]at HV;refine region_tb [(49,sF (.bool nB)),(50,sF (.int .i64 (orE nB 11))),(51,sF (.int .i64 ce)),(52,sEq (Value.pointer (some ⟨w.heap.size,1,none⟩))),(53,sEq (Value.slice gA gs.length gc)),(54,sF (.int .i64 (orE rg 13))),(55,sEq (Value.pointer (some ⟨w.heap.size,1,none⟩))),(56,sEq (Value.slice gA gs.length gc)),(57,sEq (Value.func (Fn.func 25) #[] #[Value.pointer (some ⟨w.heap.size+1,0,none⟩)])),(58,sF (.bool ga)),(59,sF (.int .i64 (orE ga 7))),(60,sEq (Value.pointer (some ⟨w.heap.size,2,none⟩))),(61,sEq (Value.slice wA ws.length wc)),(62,sF (.int .i64 (orE rw 13))),(63,sEq (Value.pointer (some ⟨w.heap.size,2,none⟩))),(64,sEq (Value.slice wA ws.length wc)),(65,sEq (Value.func (Fn.func 25) #[] #[Value.pointer (some ⟨w.heap.size+1,0,none⟩)])),(66,sF (.bool wa)),(67,sF (.int .i64 (orE wa 7))),(68,sEq (Value.pointer (some ⟨w.heap.size,1,none⟩))),(69,sEq (Value.slice gA gs.length gc)),(70,sEq (Value.func (Fn.func 27) #[] #[Value.pointer (some ⟨w.heap.size+1+1,0,none⟩)])),(71,sF (.bool gl)),(72,sF (.int .i64 (orE gl 8))),(73,sF (.bool kn)),(74,sF (.int .i64 (orE kn 4))),(75,sEq (Value.pointer (some ⟨w.heap.size,3,none⟩))),(76,sEq (Value.slice kA ks.length kc)),(77,sF (.int .i64 (orE rk 13))),(78,sEq (Value.pointer (some ⟨w.heap.size,3,none⟩))),(79,sEq (Value.slice kA ks.length kc)),(80,sF (.bool kl)),(81,sF (.int .i64 (orE kl 11))),(82,sL es),(83,sEq (.int .i64 (fst0 es))),(2,sEq (.int .i64 (fst0 es)))] [0,1,2,3,4,5,6,7,8,9,10,11,12,13,14,15,16,17,18,19,20,21,22,23,24,25,26,27,28,29,30,31,32,33,34,35] rfl ?_ (by kernel_rfl) (by kernel_rfl) (by kernel_rfl) ⟨?_,?_,?_,?_,?_,?_,?_,?_,?_,?_,?_,?_,?_,?_,?_,?_,?_,?_,?_,?_,?_,?_,?_,?_,?_,?_,?_,?_,?_,?_,?_,?_,?_,?_,?_,?_,trivial⟩ ?_
       ·intro x hx
        simp only[List.mem_cons,List.mem_nil_iff,or_false]at hx;rcases hx with rfl | rfl | rfl | rfl | rfl | rfl | rfl | rfl | rfl | rfl | rfl | rfl | rfl | rfl | rfl | rfl | rfl | rfl | rfl | rfl | rfl | rfl | rfl | rfl | rfl | rfl | rfl | rfl | rfl | rfl | rfl | rfl | rfl | rfl | rfl | rfl <;> first | exact sEq_stab _ | exact sF_stab _ | exact sL_stab _
       ·intro a w2 hL b hw
        have e1:a.eval (.tmp 1)=Value.pointer (some ⟨w.heap.size,0,none⟩):=hL.e 1 (by kernel_rfl);exact op_fn (Value.func (Fn.func 30) #[] #[Value.pointer (some ⟨w.heap.size,0,none⟩)]) (.bool nB) rfl rfl rfl rfl (x_fn rfl e1) (H49.out.below b)
       ·intro a w2 hL b hw
        have hf:F0 w2 (a.eval (.tmp 49)) (.bool nB):=hw 49 (by kernel_rfl);exact op_np rfl rfl rfl rfl rfl (fun args w=>by go_simp) (vs:=#[a.eval (.tmp 49),.int .i64 11]) (by simp only[List.map_toArray,List.map_cons,List.map_nil];first | done | rfl) rfl (need_any w2 _ nB 11 hf)
       ·intro a w2 hL b hw
        have e1:a.eval (.tmp 1)=Value.pointer (some ⟨w.heap.size,0,none⟩):=hL.e 1 (by kernel_rfl);exact op_fn (Value.func (Fn.func 32) #[] #[Value.pointer (some ⟨w.heap.size,0,none⟩)]) (.int .i64 ce) rfl rfl rfl rfl (x_fn rfl e1) (H51.out.below b)
       ·intro a w2 hL b hw
        have e1:a.eval (.tmp 1)=Value.pointer (some ⟨w.heap.size,0,none⟩):=hL.e 1 (by kernel_rfl);exact op_eq (Value.pointer (some ⟨w.heap.size,1,none⟩)) rfl rfl rfl rfl (x_fld rfl e1 (by go_simp))
       ·intro a w2 hL b hw
        have h52:a.eval (.tmp 52)=Value.pointer (some ⟨w.heap.size,1,none⟩):=hw 52 (by kernel_rfl);have y:w2.cell? ⟨w.heap.size,1,none⟩=some (Value.slice gA gs.length gc):=(HY.out w2 b).cell 1;exact op_eq (Value.slice gA gs.length gc) rfl rfl rfl rfl (x_ld rfl h52 (by clear hw;go_simp))
       ·intro a w2 hL b hw
        have h53:a.eval (.tmp 53)=Value.slice gA gs.length gc:=hw 53 (by kernel_rfl);exact op_np rfl rfl rfl rfl rfl (fun args w=>by go_simp) (vs:=#[Value.slice gA gs.length gc]) (by simp only[List.map_toArray,List.map_cons,List.map_nil,h53];first | done | rfl) rfl (HrG.out w2 b)
       ·intro a w2 hL b hw
        have e1:a.eval (.tmp 1)=Value.pointer (some ⟨w.heap.size,0,none⟩):=hL.e 1 (by kernel_rfl);exact op_eq (Value.pointer (some ⟨w.heap.size,1,none⟩)) rfl rfl rfl rfl (x_fld rfl e1 (by go_simp))
       ·intro a w2 hL b hw
        have h55:a.eval (.tmp 55)=Value.pointer (some ⟨w.heap.size,1,none⟩):=hw 55 (by kernel_rfl);have y:w2.cell? ⟨w.heap.size,1,none⟩=some (Value.slice gA gs.length gc):=(HY.out w2 b).cell 1;exact op_eq (Value.slice gA gs.length gc) rfl rfl rfl rfl (x_ld rfl h55 (by clear hw;go_simp))
       ·intro a w2 hL b hw
        have e1:a.eval (.tmp 11)=Value.func (Fn.func 25) #[] #[Value.pointer (some ⟨w.heap.size+1,0,none⟩)]:=hL.e 11 (by kernel_rfl);exact op_eq (Value.func (Fn.func 25) #[] #[Value.pointer (some ⟨w.heap.size+1,0,none⟩)]) rfl rfl rfl rfl (x_mv rfl e1)
       ·intro a w2 hL b hw
        have h56:a.eval (.tmp 56)=Value.slice gA gs.length gc:=hw 56 (by kernel_rfl);have h57:a.eval (.tmp 57)=Value.func (Fn.func 25) #[] #[Value.pointer (some ⟨w.heap.size+1,0,none⟩)]:=hw 57 (by kernel_rfl);exact op_np rfl rfl rfl rfl rfl (fun args w=>by go_simp) (vs:=#[Value.slice gA gs.length gc,Value.func (Fn.func 25) #[] #[Value.pointer (some ⟨w.heap.size+1,0,none⟩)]]) (by simp only[List.map_toArray,List.map_cons,List.map_nil,h56,h57];first | done | rfl) rfl (HaG.out w2 b)
       ·intro a w2 hL b hw
        have hf:F0 w2 (a.eval (.tmp 58)) (.bool ga):=hw 58 (by kernel_rfl);exact op_np rfl rfl rfl rfl rfl (fun args w=>by go_simp) (vs:=#[a.eval (.tmp 58),.int .i64 7]) (by simp only[List.map_toArray,List.map_cons,List.map_nil];first | done | rfl) rfl (need_any w2 _ ga 7 hf)
       ·intro a w2 hL b hw
        have e1:a.eval (.tmp 1)=Value.pointer (some ⟨w.heap.size,0,none⟩):=hL.e 1 (by kernel_rfl);exact op_eq (Value.pointer (some ⟨w.heap.size,2,none⟩)) rfl rfl rfl rfl (x_fld rfl e1 (by go_simp))
       ·intro a w2 hL b hw
        have h60:a.eval (.tmp 60)=Value.pointer (some ⟨w.heap.size,2,none⟩):=hw 60 (by kernel_rfl);have y:w2.cell? ⟨w.heap.size,2,none⟩=some (Value.slice wA ws.length wc):=(HY.out w2 b).cell 2;exact op_eq (Value.slice wA ws.length wc) rfl rfl rfl rfl (x_ld rfl h60 (by clear hw;go_simp))
       ·intro a w2 hL b hw
        have h61:a.eval (.tmp 61)=Value.slice wA ws.length wc:=hw 61 (by kernel_rfl);exact op_np rfl rfl rfl rfl rfl (fun args w=>by go_simp) (vs:=#[Value.slice wA ws.length wc]) (by simp only[List.map_toArray,List.map_cons,List.map_nil,h61];first | done | rfl) rfl (HrW.out w2 b)
       ·intro a w2 hL b hw
        have e1:a.eval (.tmp 1)=Value.pointer (some ⟨w.heap.size,0,none⟩):=hL.e 1 (by kernel_rfl);exact op_eq (Value.pointer (some ⟨w.heap.size,2,none⟩)) rfl rfl rfl rfl (x_fld rfl e1 (by go_simp))
       ·intro a w2 hL b hw
        have h63:a.eval (.tmp 63)=Value.pointer (some ⟨w.heap.size,2,none⟩):=hw 63 (by kernel_rfl);have y:w2.cell? ⟨w.heap.size,2,none⟩=some (Value.slice wA ws.length wc):=(HY.out w2 b).cell 2;exact op_eq (Value.slice wA ws.length wc) rfl rfl rfl rfl (x_ld rfl h63 (by clear hw;go_simp))
       ·intro a w2 hL b hw
        have e1:a.eval (.tmp 11)=Value.func (Fn.func 25) #[] #[Value.pointer (some ⟨w.heap.size+1,0,none⟩)]:=hL.e 11 (by kernel_rfl);exact op_eq (Value.func (Fn.func 25) #[] #[Value.pointer (some ⟨w.heap.size+1,0,none⟩)]) rfl rfl rfl rfl (x_mv rfl e1)
       ·intro a w2 hL b hw
        have h64:a.eval (.tmp 64)=Value.slice wA ws.length wc:=hw 64 (by kernel_rfl);have h65:a.eval (.tmp 65)=Value.func (Fn.func 25) #[] #[Value.pointer (some ⟨w.heap.size+1,0,none⟩)]:=hw 65 (by kernel_rfl);exact op_np rfl rfl rfl rfl rfl (fun args w=>by go_simp) (vs:=#[Value.slice wA ws.length wc,Value.func (Fn.func 25) #[] #[Value.pointer (some ⟨w.heap.size+1,0,none⟩)]]) (by simp only[List.map_toArray,List.map_cons,List.map_nil,h64,h65];first | done | rfl) rfl (HaW.out w2 b)
       ·intro a w2 hL b hw
        have hf:F0 w2 (a.eval (.tmp 66)) (.bool wa):=hw 66 (by kernel_rfl);exact op_np rfl rfl rfl rfl rfl (fun args w=>by go_simp) (vs:=#[a.eval (.tmp 66),.int .i64 7]) (by simp only[List.map_toArray,List.map_cons,List.map_nil];first | done | rfl) rfl (need_any w2 _ wa 7 hf)
       ·intro a w2 hL b hw
        have e1:a.eval (.tmp 1)=Value.pointer (some ⟨w.heap.size,0,none⟩):=hL.e 1 (by kernel_rfl);exact op_eq (Value.pointer (some ⟨w.heap.size,1,none⟩)) rfl rfl rfl rfl (x_fld rfl e1 (by go_simp))
       ·intro a w2 hL b hw
        have h68:a.eval (.tmp 68)=Value.pointer (some ⟨w.heap.size,1,none⟩):=hw 68 (by kernel_rfl);have y:w2.cell? ⟨w.heap.size,1,none⟩=some (Value.slice gA gs.length gc):=(HY.out w2 b).cell 1;exact op_eq (Value.slice gA gs.length gc) rfl rfl rfl rfl (x_ld rfl h68 (by clear hw;go_simp))
       ·intro a w2 hL b hw
        have e1:a.eval (.tmp 12)=Value.func (Fn.func 27) #[] #[Value.pointer (some ⟨w.heap.size+1+1,0,none⟩)]:=hL.e 12 (by kernel_rfl);exact op_eq (Value.func (Fn.func 27) #[] #[Value.pointer (some ⟨w.heap.size+1+1,0,none⟩)]) rfl rfl rfl rfl (x_mv rfl e1)
       ·intro a w2 hL b hw
        have h69:a.eval (.tmp 69)=Value.slice gA gs.length gc:=hw 69 (by kernel_rfl);have h70:a.eval (.tmp 70)=Value.func (Fn.func 27) #[] #[Value.pointer (some ⟨w.heap.size+1+1,0,none⟩)]:=hw 70 (by kernel_rfl);exact op_np rfl rfl rfl rfl rfl (fun args w=>by go_simp) (vs:=#[Value.slice gA gs.length gc,Value.func (Fn.func 27) #[] #[Value.pointer (some ⟨w.heap.size+1+1,0,none⟩)]]) (by simp only[List.map_toArray,List.map_cons,List.map_nil,h69,h70];first | done | rfl) rfl (HaL.out w2 b)
       ·intro a w2 hL b hw
        have hf:F0 w2 (a.eval (.tmp 71)) (.bool gl):=hw 71 (by kernel_rfl);exact op_np rfl rfl rfl rfl rfl (fun args w=>by go_simp) (vs:=#[a.eval (.tmp 71),.int .i64 8]) (by simp only[List.map_toArray,List.map_cons,List.map_nil];first | done | rfl) rfl (need_any w2 _ gl 8 hf)
       ·intro a w2 hL b hw
        have e1:a.eval (.tmp 1)=Value.pointer (some ⟨w.heap.size,0,none⟩):=hL.e 1 (by kernel_rfl);exact op_fn (Value.func (Fn.func 36) #[] #[Value.pointer (some ⟨w.heap.size,0,none⟩)]) (.bool kn) rfl rfl rfl rfl (x_fn rfl e1) (H73.out.below b)
       ·intro a w2 hL b hw
        have hf:F0 w2 (a.eval (.tmp 73)) (.bool kn):=hw 73 (by kernel_rfl);exact op_np rfl rfl rfl rfl rfl (fun args w=>by go_simp) (vs:=#[a.eval (.tmp 73),.int .i64 4]) (by simp only[List.map_toArray,List.map_cons,List.map_nil];first | done | rfl) rfl (need_any w2 _ kn 4 hf)
       ·intro a w2 hL b hw
        have e1:a.eval (.tmp 1)=Value.pointer (some ⟨w.heap.size,0,none⟩):=hL.e 1 (by kernel_rfl);exact op_eq (Value.pointer (some ⟨w.heap.size,3,none⟩)) rfl rfl rfl rfl (x_fld rfl e1 (by go_simp))
       ·intro a w2 hL b hw
        have h75:a.eval (.tmp 75)=Value.pointer (some ⟨w.heap.size,3,none⟩):=hw 75 (by kernel_rfl);have y:w2.cell? ⟨w.heap.size,3,none⟩=some (Value.slice kA ks.length kc):=(HY.out w2 b).cell 3;exact op_eq (Value.slice kA ks.length kc) rfl rfl rfl rfl (x_ld rfl h75 (by clear hw;go_simp))
       ·intro a w2 hL b hw
        have h76:a.eval (.tmp 76)=Value.slice kA ks.length kc:=hw 76 (by kernel_rfl);exact op_np rfl rfl rfl rfl rfl (fun args w=>by go_simp) (vs:=#[Value.slice kA ks.length kc]) (by simp only[List.map_toArray,List.map_cons,List.map_nil,h76];first | done | rfl) rfl (HrK.out w2 b)
       ·intro a w2 hL b hw
        have e1:a.eval (.tmp 1)=Value.pointer (some ⟨w.heap.size,0,none⟩):=hL.e 1 (by kernel_rfl);exact op_eq (Value.pointer (some ⟨w.heap.size,3,none⟩)) rfl rfl rfl rfl (x_fld rfl e1 (by go_simp))
       ·intro a w2 hL b hw
        have h78:a.eval (.tmp 78)=Value.pointer (some ⟨w.heap.size,3,none⟩):=hw 78 (by kernel_rfl);have y:w2.cell? ⟨w.heap.size,3,none⟩=some (Value.slice kA ks.length kc):=(HY.out w2 b).cell 3;exact op_eq (Value.slice kA ks.length kc) rfl rfl rfl rfl (x_ld rfl h78 (by clear hw;go_simp))
       ·intro a w2 hL b hw
        have h79:a.eval (.tmp 79)=Value.slice kA ks.length kc:=hw 79 (by kernel_rfl);exact op_np rfl rfl rfl rfl rfl (fun args w=>by go_simp) (vs:=#[Value.slice kA ks.length kc,Value.func (Fn.func 37) #[] #[]]) (by simp only[List.map_toArray,List.map_cons,List.map_nil,h79];first | done | rfl) rfl (HaK.out w2 b)
       ·intro a w2 hL b hw
        have hf:F0 w2 (a.eval (.tmp 80)) (.bool kl):=hw 80 (by kernel_rfl);exact op_np rfl rfl rfl rfl rfl (fun args w=>by go_simp) (vs:=#[a.eval (.tmp 80),.int .i64 11]) (by simp only[List.map_toArray,List.map_cons,List.map_nil];first | done | rfl) rfl (need_any w2 _ kl 11 hf)
       ·intro a w2 hL b hw
        have g50:F0 w2 (a.eval (.tmp 50)) (.int .i64 (orE nB 11)):=hw 50 (by kernel_rfl);obtain⟨f50,p50,e50,_⟩:=id g50;rw[e50]at g50;have g51:F0 w2 (a.eval (.tmp 51)) (.int .i64 ce):=hw 51 (by kernel_rfl);obtain⟨f51,p51,e51,_⟩:=id g51;rw[e51]at g51;have g54:F0 w2 (a.eval (.tmp 54)) (.int .i64 (orE rg 13)):=hw 54 (by kernel_rfl);obtain⟨f54,p54,e54,_⟩:=id g54;rw[e54]at g54;have g59:F0 w2 (a.eval (.tmp 59)) (.int .i64 (orE ga 7)):=hw 59 (by kernel_rfl);obtain⟨f59,p59,e59,_⟩:=id g59;rw[e59]at g59;have g62:F0 w2 (a.eval (.tmp 62)) (.int .i64 (orE rw 13)):=hw 62 (by kernel_rfl);obtain⟨f62,p62,e62,_⟩:=id g62;rw[e62]at g62;have g67:F0 w2 (a.eval (.tmp 67)) (.int .i64 (orE wa 7)):=hw 67 (by kernel_rfl);obtain⟨f67,p67,e67,_⟩:=id g67;rw[e67]at g67;have g72:F0 w2 (a.eval (.tmp 72)) (.int .i64 (orE gl 8)):=hw 72 (by kernel_rfl);obtain⟨f72,p72,e72,_⟩:=id g72;rw[e72]at g72;have g74:F0 w2 (a.eval (.tmp 74)) (.int .i64 (orE kn 4)):=hw 74 (by kernel_rfl)
        obtain⟨f74,p74,e74,_⟩:=id g74;rw[e74]at g74;have g77:F0 w2 (a.eval (.tmp 77)) (.int .i64 (orE rk 13)):=hw 77 (by kernel_rfl);obtain⟨f77,p77,e77,_⟩:=id g77;rw[e77]at g77;have g81:F0 w2 (a.eval (.tmp 81)) (.int .i64 (orE kl 11)):=hw 81 (by kernel_rfl);obtain⟨f81,p81,e81,_⟩:=id g81;rw[e81]at g81;have hes:=hes.out;have HB:=Box.new w2 75 #[Value.func (.func f50) #[] p50,Value.func (.func f51) #[] p51,Value.func (.func f54) #[] p54,Value.func (.func f59) #[] p59,Value.func (.func f62) #[] p62,Value.func (.func f67) #[] p67,Value.func (.func f72) #[] p72,Value.func (.func f74) #[] p74,Value.func (.func f77) #[] p77,Value.func (.func f81) #[] p81];have hb:Below w2.heap.size w2 (w2.alloc (.cells #[Value.func (.func f50) #[] p50,Value.func (.func f51) #[] p51,Value.func (.func f54) #[] p54,Value.func (.func f59) #[] p59,Value.func (.func f62) #[] p62,Value.func (.func f67) #[] p67,Value.func (.func f72) #[] p72,Value.func (.func f74) #[] p74,Value.func (.func f77) #[] p77,Value.func (.func f81) #[] p81] 75)):=(Below.refl _ _).alloc (Nat.le_refl _) _
        have hr:(Instr.buildSlice 104 10 #[(0,Value.func (.func f50) #[] p50),(1,Value.func (.func f51) #[] p51),(2,Value.func (.func f54) #[] p54),(3,Value.func (.func f59) #[] p59),(4,Value.func (.func f62) #[] p62),(5,Value.func (.func f67) #[] p67),(6,Value.func (.func f72) #[] p72),(7,Value.func (.func f74) #[] p74),(8,Value.func (.func f77) #[] p77),(9,Value.func (.func f81) #[] p81)]).run Tryz.prog w2=.ok (.slice (some ⟨w2.heap.size,0,none⟩) 10 10) (w2.alloc (.cells #[Value.func (.func f50) #[] p50,Value.func (.func f51) #[] p51,Value.func (.func f54) #[] p54,Value.func (.func f59) #[] p59,Value.func (.func f62) #[] p62,Value.func (.func f67) #[] p67,Value.func (.func f72) #[] p72,Value.func (.func f74) #[] p74,Value.func (.func f77) #[] p77,Value.func (.func f81) #[] p81] 75)):=by
         clear hw HB hb;go_simp
        refine wpOp_val (.slice (some ⟨w2.heap.size,0,none⟩) 10 10) rfl rfl rfl (x_bs rfl (by simp only[List.map_toArray,List.map_cons,List.map_nil,e50,e51,e54,e59,e62,e67,e72,e74,e77,e81]) hr) ⟨_,rfl,?_,hb⟩;clear hw hr;refine⟨w2.heap.size,10,[Value.func (.func f50) #[] p50,Value.func (.func f51) #[] p51,Value.func (.func f54) #[] p54,Value.func (.func f59) #[] p59,Value.func (.func f62) #[] p62,Value.func (.func f67) #[] p67,Value.func (.func f72) #[] p72,Value.func (.func f74) #[] p74,Value.func (.func f77) #[] p77,Value.func (.func f81) #[] p81],rfl,by rw[hes];rfl,by simp,fun k hk=>?_,?_⟩
        ·rw[Nat.zero_add]
         exact(HB.cell k).trans (by simp only[List.getElem?_toArray];exact List.getElem?_eq_getElem hk)
        ·subst hes
         intro k hk he;have hk2:k<10:=hk;have hkk:k=0∨k=1∨k=2∨k=3∨k=4∨k=5∨k=6∨k=7∨k=8∨k=9:=by omega
         rcases hkk with rfl | rfl | rfl | rfl | rfl | rfl | rfl | rfl | rfl | rfl
         ·exact F0.below g50 hb
         ·exact F0.below g51 hb
         ·exact F0.below g54 hb
         ·exact F0.below g59 hb
         ·exact F0.below g62 hb
         ·exact F0.below g67 hb
         ·exact F0.below g72 hb
         ·exact F0.below g74 hb
         ·exact F0.below g77 hb
         ·exact F0.below g81 hb
       ·intro a w2 hL b hw
        have h82:sL es (a.eval (.tmp 82)) w2:=hw 82 (by kernel_rfl);obtain⟨B,c,vs,e,hn,hl,hc,hf⟩:=h82;exact op_ip rfl rfl rfl rfl rfl (fun args w=>by go_simp) (vs:=#[.slice (some ⟨B,0,none⟩) vs.length c]) (by simp only[List.map_toArray,List.map_cons,List.map_nil,e];first | done | rfl) rfl (steps_any w2 B 0 c vs es hn hc (fun k hk=>hf k hk (by omega)) hl)
       ·intro a w2 hL b hw
        have h83:a.eval (.tmp 83)=Value.int .i64 (fst0 es):=hw 83 (by kernel_rfl);exact op_eq (.int .i64 (fst0 es)) rfl rfl rfl rfl (x_as rfl h83)
       ·intro a w2 hL b hw
        have h2:a.eval (.tmp 2)=.int .i64 (fst0 es):=hw 2 (by kernel_rfl);refine hK _ _ ?_;refine wp_ret ?_;refine bodyPost_ret (results_tmp rfl _ _ _) hL.d ?_;exact⟨by rw[HV.out];exact congrArg Ending.returned h2,HP3.out.trans (b.mono HP3.out.size)⟩
end sf
namespace ym
open RowKit sy
open re (tx SU)
open sf (namesL)
def oZ:SO:=⟨⟨#[]⟩,⟨#[]⟩,[]⟩
def fZ:SF:=⟨⟨#[]⟩,⟨#[]⟩,⟨#[]⟩⟩
def mkUse(u:SU)(n:ByteArray)(o:SO)(f:SF):Use:=⟨u.name,decide (tx n∈u.gives.map tx),decide (tx n∈u.wants.map tx),o,f⟩
def usesOf(u:SU):List (List UInt8×Use):=u.sys.objs.map (fun o=>(tx o.name,mkUse u o.name o fZ))++u.sys.fns.map (fun f=>(tx f.name,mkUse u f.name oZ f))
def usesN(l:List (List UInt8×Use))(n:List UInt8):List Use:=(l.filter (fun p=>decide (p.1=n))).map (·.2)
def inU(u:SU)(n:List UInt8):Option Use:=
 match u.sys.objs.find? (fun o=>decide (tx o.name=n))with
 | some o=>some (mkUse u o.name o fZ)
 | none=>(u.sys.fns.find? (fun f=>decide (tx f.name=n))).map fun f=>mkUse u f.name oZ f
theorem usesN_append(a b:List (List UInt8×Use))(n:List UInt8):usesN (a++b) n=usesN a n++usesN b n:=by unfold usesN;rw[List.filter_append,List.map_append]
theorem usesN_out(l:List (List UInt8×Use))(n:List UInt8)(h:n∉l.map (·.1)):usesN l n=[]:=by
 unfold usesN;rw[List.filter_eq_nil_iff.2 (fun p hp=>by simp only[decide_eq_true_eq];intro e;exact h (List.mem_map.2 ⟨p,hp,e⟩))];rfl
theorem usesN_find:∀(l:List (List UInt8×Use)) (n:List UInt8),(l.map (·.1)).Nodup→usesN l n=((l.find? (fun p=>decide (p.1=n))).map (·.2)).toList:=by
 intro l n
 induction l with
 | nil=>intro _;rfl
 | cons p t ih=>
  intro h;rw[List.map_cons,List.nodup_cons]at h;by_cases e:p.1=n
  ·have hf:((p :: t).find? (fun p=>decide (p.1=n)))=some p:=by rw[List.find?_cons_of_pos];simpa using e
   rw[hf];have ht:usesN t n=[]:=usesN_out t n (by rw[←e];exact h.1);show usesN ([p]++t) n=_;rw[usesN_append,ht];unfold usesN;simp[e]
  ·have hf:((p :: t).find? (fun p=>decide (p.1=n)))=t.find? (fun p=>decide (p.1=n)):=by rw[List.find?_cons_of_neg];simpa using e
   rw[hf,←ih h.2];show usesN ([p]++t) n=_;rw[usesN_append];unfold usesN;simp[e]
theorem usesOf_names(u:SU):(usesOf u).map (·.1)=namesL u:=by
 unfold usesOf namesL;rw[List.map_append,List.map_map,List.map_map];rfl
theorem uses_one(u:SU)(h:(namesL u).Nodup)(n:List UInt8):usesN (usesOf u) n=(inU u n).toList:=by
 rw[usesN_find _ _ (by rw[usesOf_names];exact h)];congr 1;unfold usesOf inU;rw[List.find?_append,List.find?_map,List.find?_map];have g1:u.sys.objs.find? ((fun p:List UInt8×Use=>decide (p.1=n)) ∘ fun o=>(tx o.name,mkUse u o.name o fZ))=u.sys.objs.find? (fun o=>decide (tx o.name=n)):=rfl;have g2:u.sys.fns.find? ((fun p:List UInt8×Use=>decide (p.1=n)) ∘ fun f=>(tx f.name,mkUse u f.name oZ f))=u.sys.fns.find? (fun f=>decide (tx f.name=n)):=rfl;rw[g1,g2];cases h1:u.sys.objs.find? (fun o=>decide (tx o.name=n))with
 | some o=>simp
 | none=>cases h2:u.sys.fns.find? (fun f=>decide (tx f.name=n)) <;> simp
def usesL(l:List SU):List (List UInt8×Use):=l.flatMap usesOf
theorem uses_all(n:List UInt8):∀(l:List SU),(∀u∈l,(namesL u).Nodup)→usesN (usesL l) n=l.filterMap (fun u=>inU u n):=by
 intro l
 induction l with
 | nil=>intro _;rfl
 | cons u t ih=>
  intro h;show usesN (usesOf u++usesL t) n=_;rw[usesN_append,ih (fun x hx=>h x (List.mem_cons_of_mem _ hx)),uses_one u (h u (List.mem_cons_self)) n,List.filterMap_cons];cases inU u n <;> rfl
def putU(s:List (List UInt8)×List (List Use))(p:List UInt8×Use):List (List UInt8)×List (List Use):=
 if p.1∈s.1 then(s.1,s.2.modify (s.1.idxOf p.1) (·++[p.2])) else(s.1++[p.1],s.2++[[p.2]])
def putAll(l:List (List UInt8×Use)):List (List UInt8)×List (List Use):=l.foldl putU ([],[])
theorem put_all(l:List (List UInt8×Use)):(putAll l).1.Nodup∧(∀n,n∈(putAll l).1↔n∈l.map (·.1))∧(putAll l).2=(putAll l).1.map (usesN l):=by
 have key:∀(t r:List (List UInt8×Use)) (s:List (List UInt8)×List (List Use)),s.1.Nodup→(∀n,n∈s.1↔n∈r.map (·.1))→s.2=s.1.map (usesN r) →
  (t.foldl putU s).1.Nodup∧(∀n,n∈(t.foldl putU s).1↔n∈(r++t).map (·.1))∧(t.foldl putU s).2=(t.foldl putU s).1.map (usesN (r++t)):=by
  intro t
  induction t with
  | nil=>intro r s h1 h2 h3;rw[List.append_nil];exact⟨h1,h2,h3⟩
  | cons p t ih=>
   intro r s h1 h2 h3;have hr:r++p :: t=(r++[p])++t:=by simp
   rw[hr,List.foldl_cons];have hu:∀n,usesN (r++[p]) n=if p.1=n then usesN r n++[p.2] else usesN r n:=by
    intro n;rw[usesN_append];by_cases e:p.1=n
    ·rw[if_pos e];unfold usesN;simp[e]
    ·rw[if_neg e];unfold usesN;simp[e]
   apply ih
   ·unfold putU
    by_cases hm:p.1∈s.1
    ·rw[if_pos hm];exact h1
    ·rw[if_neg hm]
     show(s.1++[p.1]).Nodup;rw[List.nodup_append];exact⟨h1,by simp,fun a ha b hb=>by rw[List.mem_singleton]at hb;subst hb;intro e;subst e;exact hm ha⟩
   ·intro n
    unfold putU;by_cases hm:p.1∈s.1
    ·rw[if_pos hm,List.map_append,List.mem_append,←h2 n]
     simp only[List.map_cons,List.map_nil,List.mem_singleton];constructor
     ·exact .inl
     ·rintro(h | h)
      ·exact h
      ·rw[h];exact hm
    ·rw[if_neg hm,List.map_append]
     show n∈s.1++[p.1]↔_;rw[List.mem_append,List.mem_append,←h2 n];simp only[List.map_cons,List.map_nil]
   ·unfold putU
    by_cases hm:p.1∈s.1
    ·rw[if_pos hm]
     show s.2.modify _ _=s.1.map _;rw[h3]
     apply List.ext_getElem?
     intro i;rw[List.getElem?_modify,List.getElem?_map,List.getElem?_map];cases hi:s.1[i]? with
     | none=>rfl
     | some x=>
      have hlt:i<s.1.length:=by rcases List.getElem?_eq_some_iff.1 hi with⟨h,_⟩;exact h
      have hx:s.1[i] = x:=by rcases List.getElem?_eq_some_iff.1 hi with⟨_,h⟩;exact h
      simp only[Option.map_some];rw[hu x];by_cases e:s.1.idxOf p.1=i
      ·have:p.1=x:=by rw[←hx];subst e;exact(List.getElem_idxOf hlt).symm
       rw[if_pos this];show some (if _ then _ else _)=_;rw[if_pos e]
      ·have:¬p.1=x:=by
        intro e2;apply e;subst e2;rw[←hx];exact List.Nodup.idxOf_getElem h1 i hlt
       rw[if_neg this];show some (if _ then _ else _)=_;rw[if_neg e]
    ·rw[if_neg hm]
     show s.2++[[p.2]] = (s.1++[p.1]).map _;rw[List.map_append,h3];congr 1
     ·apply List.map_congr_left
      intro x hx;rw[hu x,if_neg (fun e=>hm (by rw[e];exact hx))]
     ·rw[List.map_cons,List.map_nil,hu,if_pos rfl,usesN_out r p.1 (fun hx=>hm ((h2 _).2 hx))];rfl
 have:=key l [] ([],[]) (by simp) (by simp) rfl
 simpa[putAll] using this
end ym
namespace ym
open RowKit Go.Sort sy dg
open re (tx SU)
open sf (namesL esC fst0 orE risB)
open nm (cand)
theorem fst0_zero:∀(l:List Int),fst0 l=0→∀x∈l,x=0:=by
 intro l
 induction l with
 | nil=>intro _ x hx;exact absurd hx (List.not_mem_nil)
 | cons a r ih=>
  intro h x hx;unfold fst0 at h;by_cases ha:a=0
  ·rw[if_pos ha]at h
   rcases List.mem_cons.1 hx with e | e
   ·rw[e];exact ha
   ·exact ih h x e
  ·rw[if_neg ha]at h;exact absurd h ha
theorem goE_pair{α:Type}{chk:α→Int}{bad:α→α→Bool}{R:α→α→Prop}(ht:∀a b c,R a b→R b c→R a c)(hb:∀a b,bad a b=false→R a b) :
 ∀(xs:List α) (p:Option α),goE chk bad p xs=0→xs.Pairwise R∧(∀q,p=some q→∀x∈xs,R q x)∧∀x∈xs,chk x=0:=by
 intro xs
 induction xs with
 | nil=>intro p _;exact⟨List.Pairwise.nil,fun _ _ x hx=>absurd hx (List.not_mem_nil),fun x hx=>absurd hx (List.not_mem_nil)⟩
 | cons a r ih=>
  intro p h;rw[goE]at h;by_cases hc:chk a=0
  ·rw[if_pos hc]at h
   cases hbd:badP bad p a with
   | true=>rw[hbd]at h;exact absurd (show(13:Int)=0 from h) (by decide)
   | false=>
    rw[hbd]at h;obtain⟨h1,h2,h3⟩:=ih (some a) h;have hq:∀q,p=some q→R q a:=by
     intro q e;subst e;exact hb q a hbd
    refine⟨List.Pairwise.cons (fun x hx=>h2 a rfl x hx) h1,fun q e x hx=>?_,fun x hx=>?_⟩
    ·rcases List.mem_cons.1 hx with e2 | e2
     ·rw[e2];exact hq q e
     ·exact ht _ _ _ (hq q e) (h2 a rfl x e2)
    ·rcases List.mem_cons.1 hx with e2 | e2
     ·rw[e2];exact hc
     ·exact h3 x e2
  ·rw[if_neg hc]at h;exact absurd h hc
theorem thenE_zero{a b:Int}(h:thenE a b=0):a=0∧b=0:=by
 unfold thenE at h;by_cases ha:a=0
 ·rw[if_pos ha]at h;exact⟨ha,h⟩
 ·rw[if_neg ha]at h;exact absurd h ha
theorem less_of{a b:ByteArray}(h:(!lessB a b)=false):tx a<tx b:=by
 have h2:lessB a b=true:=by cases hl:lessB a b <;> simp[hl]at h ⊢
 unfold lessB at h2;rw[bytesLess_eq]at h2;have h3:=of_decide_eq_true h2
 first
  | exact h3
  | (rw[ByteArray.toList_eq,ByteArray.toList_eq]at h3;exact h3)
theorem names_nodup(u:SU)(h:fst0 (esC u)=0):(namesL u).Nodup:=by
 have hz:=fst0_zero _ h;have hc:checkE u.sys=0:=hz _ (by unfold esC;simp);unfold checkE at hc;by_cases hbig:600<u.sys.objs.length∨600<u.sys.fns.length∨6000<u.sys.cons.length
 ·rw[if_pos hbig]at hc;exact absurd hc (by decide)
 rw[if_neg hbig]at hc;obtain⟨ho,hc2⟩:=thenE_zero hc;obtain⟨hf,_⟩:=thenE_zero hc2;have tro:∀a b c:SO,tx a.name<tx b.name→tx b.name<tx c.name→tx a.name<tx c.name:=fun _ _ _ h k=>List.lt_trans h k
 have trf:∀a b c:SF,tx a.name<tx b.name→tx b.name<tx c.name→tx a.name<tx c.name:=fun _ _ _ h k=>List.lt_trans h k
 obtain⟨po,_,ko⟩:=goE_pair (R:=fun a b:SO=>tx a.name<tx b.name) tro (fun a b e=>less_of e) _ _ ho;obtain⟨pf,_,kf⟩:=goE_pair (R:=fun a b:SF=>tx a.name<tx b.name) trf (fun a b e=>less_of e) _ _ hf;unfold namesL;rw[List.nodup_append];refine⟨?_,?_,?_⟩
 ·rw[List.nodup_iff_pairwise_ne,List.pairwise_map]
  exact po.imp fun {a b} hab e=>by rw[e]at hab;exact List.lt_irrefl _ hab
 ·rw[List.nodup_iff_pairwise_ne,List.pairwise_map]
  exact pf.imp fun {a b} hab e=>by rw[e]at hab;exact List.lt_irrefl _ hab
 ·intro x hx y hy e
  obtain⟨o,ho1,ho2⟩:=List.mem_map.1 hx;obtain⟨f,hf1,hf2⟩:=List.mem_map.1 hy;have k1:=ko o ho1;have k2:=kf f hf1;have b1:objB o.name=true:=by
   unfold objE at k1;by_cases hb:objB o.name=false
   ·rw[if_pos hb]at k1;exact absurd k1 (by decide)
   ·simpa using hb
  have b2:funcB f.name=true:=by
   unfold fnE at k2;by_cases hb:funcB f.name=false
   ·rw[if_pos hb]at k2;exact absurd k2 (by decide)
   ·simpa using hb
  have en:o.name=f.name:=by
   have:tx o.name=tx f.name:=by rw[ho2,hf2,e]
   apply ByteArray.ext
   apply Array.ext'
   exact this
  rw[en]at b1;unfold objB at b1;unfold funcB at b2;simp only[Bool.and_eq_true,decide_eq_true_eq]at b1 b2;have:=b1.2.1;have:=b2.2;omega
theorem name_size(u:SU)(h:fst0 (esC u)=0):nameB u.name=true:=by
 have hz:=fst0_zero _ h;have hn:orE (nameB u.name) 11=0:=hz _ (by unfold esC;simp);unfold orE at hn;cases hb:nameB u.name with
 | true=>rfl
 | false=>rw[hb]at hn;exact absurd hn (by decide)
end ym
namespace ym
open RowKit Go.Sort sy
open re (tx SU)
open sf (namesL esC fst0)
open inn (rsS intoAll_spec ordS rises_ext)
structure Sym where
 name:List UInt8
 giver:ByteArray
 wanted:List (List UInt8)
def symOf(n:List UInt8)(l:List Use):Sym:=⟨n,giverFrom ⟨#[]⟩ l,rsS ((wantL l).map tx)⟩
noncomputable def resFrom(U:List UInt8→List Use):List Sym→List (List UInt8)→List Sym×List UInt8×Int
 | acc,[]=>(acc,[],0)
 | acc,n :: t=>if symE 12 (U n)=0 then resFrom U (if 0<gCount (U n) then acc++[symOf n (U n)] else acc) t else([],n,symE 12 (U n))
noncomputable def chkFrom:List (List UInt8)→List SU→Option (List UInt8×Int)
 | _,[]=>none
 | seen,u :: t=>if fst0 (esC u)=0 then(if tx u.name∈seen then some (tx u.name,8) else chkFrom (seen++[tx u.name]) t) else some (tx u.name,fst0 (esC u))
noncomputable def resP(l:List SU):List Sym×List UInt8×Int:=
 if 8<l.length then([],[],4) else match chkFrom [] l with
  | some (n,e)=>([],n,e)
  | none=>resFrom (usesN (usesL l)) [] (rsS ((usesL l).map (·.1)))
theorem rsS_ext{a b:List (List UInt8)}(h:∀x,x∈a↔x∈b):rsS a=rsS b:=by
 obtain⟨a1,a2⟩:=intoAll_spec ordS a;obtain⟨b1,b2⟩:=intoAll_spec ordS b;exact rises_ext ordS a1 b1 (fun x=>(a2 x).trans ((h x).trans (b2 x).symm))
theorem rsS_mem(a:List (List UInt8))(x:List UInt8):x∈rsS a↔x∈a:=(intoAll_spec ordS a).2 x
theorem names_ref(l:List SU):(usesL l).map (·.1)=l.flatMap namesL:=by
 unfold usesL
 induction l with
 | nil=>rfl
 | cons u t ih=>rw[List.flatMap_cons,List.map_append,ih,usesOf_names,List.flatMap_cons]
theorem chk_none:∀(l:List SU) (seen:List (List UInt8)),chkFrom seen l=none→(∀u∈l,fst0 (esC u)=0)∧(l.map (fun u=>tx u.name)).Nodup∧∀u∈l,tx u.name∉seen:=by
 intro l
 induction l with
 | nil=>intro seen _;exact⟨fun u hu=>absurd hu (List.not_mem_nil),by simp,fun u hu=>absurd hu (List.not_mem_nil)⟩
 | cons u t ih=>
  intro seen h;unfold chkFrom at h;by_cases hc:fst0 (esC u)=0
  ·rw[if_pos hc]at h
   by_cases hs:tx u.name∈seen
   ·rw[if_pos hs]at h;exact absurd h (by simp)
   ·rw[if_neg hs]at h
    obtain⟨h1,h2,h3⟩:=ih _ h;refine⟨fun x hx=>?_,?_,fun x hx=>?_⟩
    ·rcases List.mem_cons.1 hx with e | e
     ·rw[e];exact hc
     ·exact h1 x e
    ·rw[List.map_cons,List.nodup_cons]
     refine⟨fun hm=>?_,h2⟩;obtain⟨x,hx,e⟩:=List.mem_map.1 hm;exact h3 x hx (by rw[e];simp)
    ·rcases List.mem_cons.1 hx with e | e
     ·rw[e];exact hs
     ·intro hm;exact h3 x e (by rw[List.mem_append];exact .inl hm)
  ·rw[if_neg hc]at h;exact absurd h (by simp)
theorem uses_ref(l:List SU)(h:chkFrom [] l=none)(n:List UInt8):usesN (usesL l) n=l.filterMap (fun u=>inU u n):=
 uses_all n l (fun u hu=>names_nodup u ((chk_none l [] h).1 u hu))
theorem uses_m(l:List SU)(h:chkFrom [] l=none)(n:List UInt8):∀x∈usesN (usesL l) n,x.m.size≠0:=by
 intro x hx;unfold usesN at hx;obtain⟨p,hp,rfl⟩:=List.mem_map.1 hx;have hp2:=(List.mem_filter.1 hp).1;unfold usesL at hp2;obtain⟨u,hu,hpu⟩:=List.mem_flatMap.1 hp2;have hm:p.2.m=u.name:=by
  unfold usesOf at hpu;rcases List.mem_append.1 hpu with hq | hq
  ·obtain⟨o,_,rfl⟩:=List.mem_map.1 hq;rfl
  ·obtain⟨o,_,rfl⟩:=List.mem_map.1 hq;rfl
 rw[hm];have:=name_size u ((chk_none l [] h).1 u hu);unfold dg.nameB at this;simp only[Bool.and_eq_true,decide_eq_true_eq]at this;exact this.1.1
end ym
namespace ym
open RowKit Go.Sort sy
open re (tx SU)
open sf (namesL esC fst0)
open inn (rsS)
theorem symE_count{ty:Int}{l:List Use}(h:symE ty l=0):gCount l≤1:=by
 unfold symE at h;by_cases hc:2≤gCount l∨(1<l.length∧l.any Use.alone=true)
 ·rw[if_pos hc]at h;exact absurd h (by decide)
 ·omega
end ym
namespace ym
open RowKit Go.Sort sy
open re (tx SU)
open sf (namesL esC fst0 orE risB inD)
open inn (rsS intoAll_spec ordS)
theorem res_list(U:List UInt8→List Use):∀(ns:List (List UInt8)) (acc:List Sym),(∀n∈ns,symE 12 (U n)=0)→resFrom U acc ns=(acc++(ns.filter (fun n=>decide (0<gCount (U n)))).map (fun n=>symOf n (U n)),[],0):=by
 intro ns
 induction ns with
 | nil=>intro acc _;simp[resFrom]
 | cons n t ih=>
  intro acc h;unfold resFrom;rw[if_pos (h n (List.mem_cons_self)),ih _ (fun x hx=>h x (List.mem_cons_of_mem _ hx)),List.filter_cons];by_cases hg:0<gCount (U n)
  ·simp[hg]
  ·simp[hg]
theorem res_zero(U:List UInt8→List Use):∀(ns:List (List UInt8)) (acc:List Sym),(resFrom U acc ns).2.2=0→∀n∈ns,symE 12 (U n)=0:=by
 intro ns
 induction ns with
 | nil=>intro acc _ n hn;exact absurd hn (List.not_mem_nil)
 | cons n t ih=>
  intro acc h x hx;unfold resFrom at h;by_cases he:symE 12 (U n)=0
  ·rw[if_pos he]at h
   rcases List.mem_cons.1 hx with e | e
   ·rw[e];exact he
   ·exact ih _ h x e
  ·rw[if_neg he]at h;exact absurd h he
end ym
namespace ym
open RowKit sy
open re (tx SU)
open sf (namesL fst0 esC)
open inn (rsS)
theorem chk_ne:∀(l:List SU) (seen:List (List UInt8)) (n:List UInt8) (e:Int),chkFrom seen l=some (n,e)→e≠0:=by
 intro l
 induction l with
 | nil=>intro seen n e h;simp[chkFrom]at h
 | cons u t ih=>
  intro seen n e h;unfold chkFrom at h;by_cases h0:fst0 (esC u)=0
  ·rw[if_pos h0]at h
   split at h
   ·injection h with h;injection h with _ h;omega
   ·exact ih _ _ _ h
  ·rw[if_neg h0]at h
   injection h with h;injection h with _ h;rw[←h];exact h0
theorem res_ok{l:List SU}(he:(resP l).2.2=0):chkFrom [] l=none∧(∀n∈rsS ((usesL l).map (·.1)),symE 12 (usesN (usesL l) n)=0)∧(resP l).1=((rsS ((usesL l).map (·.1))).filter (fun n=>decide (0<gCount (usesN (usesL l) n)))).map (fun n=>symOf n (usesN (usesL l) n)):=by
 unfold resP at *;by_cases h8:8<l.length
 ·rw[if_pos h8]at he;exact absurd he (by decide)
 rw[if_neg h8]at *;rcases hc:chkFrom [] l with _ | ⟨n,e⟩
 ·rw[hc]at he
  dsimp only at he;have hz:=res_zero _ _ _ he;refine⟨rfl,hz,?_⟩;dsimp only;rw[res_list _ _ _ hz];simp
 ·rw[hc]at he
  exact absurd he (chk_ne _ _ _ _ hc)
theorem sum_le_of{α:Type}(f:α→Nat)(b:Nat):∀(l:List α),(∀x∈l,f x≤b)→(l.map f).sum≤l.length * b
 | [],_=>by simp
 | a :: t,h=>by
  have h1:=sum_le_of f b t (fun x hx=>h x (List.mem_cons_of_mem _ hx));have h2:=h a List.mem_cons_self;rw[List.map_cons,List.sum_cons,List.length_cons,Nat.succ_mul];omega
theorem uses_len(l:List SU)(b:Nat)(h:∀u∈l,u.sys.objs.length+u.sys.fns.length≤b):(usesL l).length≤l.length * b:=by
 unfold usesL;rw[List.length_flatMap];refine sum_le_of _ b l (fun u hu=>?_);unfold usesOf;rw[List.length_append,List.length_map,List.length_map];exact h u hu
theorem wanted_len{l:List SU}(he:(resP l).2.2=0):∀s∈(resP l).1,s.wanted.length≤(usesL l).length:=by
 obtain⟨_,_,e⟩:=res_ok he;intro s hs;rw[e]at hs;obtain⟨n,_,rfl⟩:=List.mem_map.1 hs;have h1:=inn.rs_len ((wantL (usesN (usesL l) n)).map tx);have h2:(wantL (usesN (usesL l) n)).length≤(usesN (usesL l) n).length:=by
  unfold wantL;rw[List.length_map];exact List.length_filter_le _ _
 have h3:(usesN (usesL l) n).length≤(usesL l).length:=by
  unfold usesN;rw[List.length_map];exact List.length_filter_le _ _
 rw[List.length_map]at h1;exact Nat.le_trans h1 (Nat.le_trans h2 h3)
end ym
namespace ym
open RowKit sy
def plainU(s:List (List UInt8)×List (List MUs)):List (List UInt8)×List (List Use):=(s.1,s.2.map fun l=>l.map MUs.u)
theorem putM_plain(s:List (List UInt8)×List (List MUs))(p:List UInt8×MUs):plainU (putM s p)=putU (plainU s) (p.1,p.2.u):=by
 unfold putM putU plainU;dsimp only;by_cases h:p.1∈s.1
 ·rw[if_pos h,if_pos h]
  dsimp only;congr 1
  apply List.ext_getElem?
  intro i;rw[List.getElem?_map,List.getElem?_modify,List.getElem?_modify,List.getElem?_map];cases s.2[i]? with
  | none=>rfl
  | some l=>by_cases e:s.1.idxOf p.1=i <;> simp[e]
 ·rw[if_neg h,if_neg h]
  simp
end ym
namespace ym
open RowKit mem sy
open re (tx SU MU SumM)
open sf (map_tx enc_tx)
def use0(u:SU)(n:ByteArray):MUs:=⟨mkUse u n oZ fZ,none,0⟩
theorem cSm:Tryz.prog.underlying 83=some (.struct (Tryz.prog.fieldsOf 83)):=by kernel_rfl
theorem nine_put{w:World}{b:Nat}{t:TypeId}{z0 z1 z2 z3 z4 z5 z6 z7 z8:Value}(h:Box w b t #[z0,z1,z2,z3,z4,z5,z6,z7,z8])(v0 v1 v2 v3 v4 v5 v6 v7 v8:Value) :
 Box (((((((((w.setCell ⟨b,0,none⟩ v0).setCell ⟨b,1,none⟩ v1).setCell ⟨b,2,none⟩ v2).setCell ⟨b,3,none⟩ v3).setCell ⟨b,4,none⟩ v4).setCell ⟨b,5,none⟩ v5).setCell ⟨b,6,none⟩ v6).setCell ⟨b,7,none⟩ v7).setCell ⟨b,8,none⟩ v8) b t #[v0,v1,v2,v3,v4,v5,v6,v7,v8]:=by
 have:=((((((((h.put 0 v0).put 1 v1).put 2 v2).put 3 v3).put 4 v4).put 5 v5).put 6 v6).put 7 v7).put 8 v8
 simpa using this
theorem nine_fr(w:World)(b:Nat)(v0 v1 v2 v3 v4 v5 v6 v7 v8:Value) :
 Fr [b] w (((((((((w.setCell ⟨b,0,none⟩ v0).setCell ⟨b,1,none⟩ v1).setCell ⟨b,2,none⟩ v2).setCell ⟨b,3,none⟩ v3).setCell ⟨b,4,none⟩ v4).setCell ⟨b,5,none⟩ v5).setCell ⟨b,6,none⟩ v6).setCell ⟨b,7,none⟩ v7).setCell ⟨b,8,none⟩ v8):=by
 have p:∀i:Nat,(⟨b,i,none⟩:Addr).block∈[b]∨w.heap.size≤(⟨b,i,none⟩:Addr).block:=fun i=>Or.inl (by simp)
 exact(((((((((Fr.refl [b] w).setCell (p 0) v0).setCell (p 1) v1).setCell (p 2) v2).setCell (p 3) v3).setCell (p 4) v4).setCell (p 5) v5).setCell (p 6) v6).setCell (p 7) v7).setCell (p 8) v8
def UsePost(w:World)(u:SU)(n:ByteArray)(e:Ending)(w':World):Prop:=e=.returned (use0 u n).val∧Below w.heap.size w w'
theorem search_b(w:World)(A:Option Addr)(c:Nat)(l:List ByteArray)(n:ByteArray)(h:Rd w A (l.map Value.string))(hp:(l.map tx).Pairwise (fun a b=>a<b))(hm:l.length≤1000000) :
 Calls Tryz.prog 39 #[.slice A l.length c,.string n] w fun e w'=>∃k:Nat,e=.returned (.tuple #[.int .i64 k,.bool (decide (tx n∈l.map tx))])∧Below w.heap.size w w':=by
 have k:=po.search_any w A c (l.map tx) (tx n) (by rw[map_tx];exact h) hp (by rw[List.length_map];exact hm);rw[List.length_map,enc_tx]at k;refine k.mono ?_;rintro e w' ⟨rfl,hb⟩;exact⟨_,rfl,hb⟩
theorem use_any(w:World)(sb:Nat)(u:MU)(n:ByteArray)(hs:SumM w u)(hB:Box w sb 43 u.row)(hg:(u.gives.map tx).Pairwise (fun a b=>a<b))(hw:(u.wants.map tx).Pairwise (fun a b=>a<b))(gl:u.gives.length≤1000000)(wl:u.wants.length≤1000000) :
 Calls Tryz.prog 38 #[.string n,.pointer (some ⟨sb,0,none⟩)] w (UsePost w u.su n):=by
 obtain⟨W,hWe⟩:∃W,Hid (W=w.alloc (.cells #[.string ⟨#[]⟩,.bool false,.bool false,.string ⟨#[]⟩,.string ⟨#[]⟩,.slice none 0 0,.string ⟨#[]⟩,.string ⟨#[]⟩,.string ⟨#[]⟩] 83)):=⟨_,hid rfl⟩;have B:Box W w.heap.size 83 #[.string ⟨#[]⟩,.bool false,.bool false,.string ⟨#[]⟩,.string ⟨#[]⟩,.slice none 0 0,.string ⟨#[]⟩,.string ⟨#[]⟩,.string ⟨#[]⟩]:=by rw[hWe.out];exact Box.new _ _ _
 have b0:Below w.heap.size w W:=by rw[hWe.out];exact(Below.refl _ _).alloc (Nat.le_refl _) _
 have KG:=hid (fun(w2:World) (b:Below W.heap.size W w2)=>search_b w2 u.gA u.gc u.gives n ((hs.below b0).below b).gr hg gl);have KW:=hid (fun(w2:World) (b:Below W.heap.size W w2)=>search_b w2 u.wA u.wc u.wants n ((hs.below b0).below b).wr hw wl)
 have HC:Hid (∀w2,Below W.heap.size W w2→w2.cell? ⟨sb,0,none⟩=some (.string u.name)∧w2.cell? ⟨sb,1,none⟩=some (.slice u.gA u.gives.length u.gc)∧w2.cell? ⟨sb,2,none⟩=some (.slice u.wA u.wants.length u.wc)):=hid (fun w2 b=>by
  have x:=(hB.kept (Fr.of_below b0 []) (by simp)).kept (Fr.of_below b []) (by simp)
  exact⟨x.cell 0,x.cell 1,x.cell 2⟩)
 have HB:Hid (∀w2,Below W.heap.size W w2→Box w2 w.heap.size 83 #[.string ⟨#[]⟩,.bool false,.bool false,.string ⟨#[]⟩,.string ⟨#[]⟩,.slice none 0 0,.string ⟨#[]⟩,.string ⟨#[]⟩,.string ⟨#[]⟩]):=hid (fun w2 b=>B.kept (Fr.of_below b []) (by simp));have HT:Hid (∀w2 w3,Below W.heap.size W w2→Below w2.heap.size w2 w3→Below W.heap.size W w3):=hid (fun w2 w3 a b=>a.trans (b.mono a.size));have HE:Hid (∀w2,Below W.heap.size W w2→Below w.heap.size w w2):=hid (fun w2 b=>b0.trans (b.mono b0.size));have hwl:w.heap.size≤W.heap.size:=b0.size;have R0:=hid (Below.refl W.heap.size W);obtain⟨x0,x1,x2⟩:=HC.out W R0.out;have K1:=hid (KG.out W R0.out);unfold UsePost use0 mkUse MUs.val oZ fZ MU.su;dsimp only[List.length_nil];clear hs hB B b0 hg hw gl wl KG R0;generalize decide (tx n∈u.gives.map tx)=g at *;generalize decide (tx n∈u.wants.map tx)=q at *;go_enter Tryz.func38,Tryz.ntmps38;go_upto_region 1 with fail;rw[←hWe.out]
 clear hWe;generalize hbx:w.heap.size=bx at *;replace hbx:=hid hbx;go_wp2_with fail;refine K1.out.mono ?_;rintro e w2 ⟨k1,rfl,b2⟩;have B2:=hid b2;have K2:=hid (KW.out w2 b2);clear b2 K1 KW x0 x1 x2;obtain⟨x0,x1,x2⟩:=HC.out w2 B2.out;go_wp2_with fail;refine K2.out.mono ?_;rintro e w3 ⟨k2,rfl,b3⟩;have B3:=hid (HT.out _ _ B2.out b3);clear b3 K2 x0 x1 x2;obtain⟨x0,x1,x2⟩:=HC.out w3 B3.out;have BX:=HB.out w3 B3.out;have z0:w3.cell? ⟨bx,0,none⟩=some (.string ⟨#[]⟩):=BX.cell 0;have v0:=BX.free 0;have z1:w3.cell? ⟨bx,1,none⟩=some (.bool false):=BX.cell 1;have v1:=BX.free 1;have z2:w3.cell? ⟨bx,2,none⟩=some (.bool false):=BX.cell 2;have v2:=BX.free 2;have z3:w3.cell? ⟨bx,3,none⟩=some (.string ⟨#[]⟩):=BX.cell 3;have v3:=BX.free 3;have z4:w3.cell? ⟨bx,4,none⟩=some (.string ⟨#[]⟩):=BX.cell 4;have v4:=BX.free 4;have z5:w3.cell? ⟨bx,5,none⟩=some (.slice none 0 0):=BX.cell 5;have v5:=BX.free 5;have z6:w3.cell? ⟨bx,6,none⟩=some (.string ⟨#[]⟩):=BX.cell 6
 have v6:=BX.free 6;have z7:w3.cell? ⟨bx,7,none⟩=some (.string ⟨#[]⟩):=BX.cell 7;have v7:=BX.free 7;have z8:w3.cell? ⟨bx,8,none⟩=some (.string ⟨#[]⟩):=BX.cell 8;have v8:=BX.free 8;have hb9:=nine_put BX (.string u.name) (.bool g) (.bool q) (.string ⟨#[]⟩) (.string ⟨#[]⟩) (.slice none 0 0) (.string ⟨#[]⟩) (.string ⟨#[]⟩) (.string ⟨#[]⟩);have HB9:=hid hb9;have hfin:Hid (Below bx w ((((((((((w3).setCell ⟨bx,0,none⟩ (.string u.name)).setCell ⟨bx,1,none⟩ (.bool g)).setCell ⟨bx,2,none⟩ (.bool q)).setCell ⟨bx,3,none⟩ (.string ⟨#[]⟩)).setCell ⟨bx,4,none⟩ (.string ⟨#[]⟩)).setCell ⟨bx,5,none⟩ (.slice none 0 0)).setCell ⟨bx,6,none⟩ (.string ⟨#[]⟩)).setCell ⟨bx,7,none⟩ (.string ⟨#[]⟩)).setCell ⟨bx,8,none⟩ (.string ⟨#[]⟩))):=hid ((HE.out w3 B3.out).trans ((nine_fr w3 bx (.string u.name) (.bool g) (.bool q) (.string ⟨#[]⟩) (.string ⟨#[]⟩) (.slice none 0 0) (.string ⟨#[]⟩) (.string ⟨#[]⟩) (.string ⟨#[]⟩)).below (by simp) (Nat.le_trans hwl B3.out.size)))
 clear hb9 BX;go_wp2_with fail
 (try simp only[Exit.inBlock,Exit.then])
 refine bodyPost_ret (results_cell_row rfl _ _ _ _ _ _ _ rfl HB9.out cSm rfl (by kernel_rfl)) rfl ?_;exact⟨rfl,by rw[hbx.out];exact hfin.out⟩
theorem alone_any(w:World)(x:MUs):Calls Tryz.prog 43 #[x.val] w (BPost x.u.alone w):=by
 obtain⟨W,hWe⟩:∃W,Hid (W=w.alloc (.cells x.row.toArray 83)):=⟨_,hid rfl⟩;have B:Box W w.heap.size 83 x.row.toArray:=by rw[hWe.out];exact Box.new _ _ _
 have b0:Hid (Below w.heap.size w W):=by rw[hWe.out];exact hid ((Below.refl _ _).alloc (Nat.le_refl _) _)
 have x1:W.cell? ⟨w.heap.size,1,none⟩=some (.bool x.u.g):=B.cell 1;have x2:W.cell? ⟨w.heap.size,2,none⟩=some (.bool x.u.w):=B.cell 2;clear B;unfold BPost Use.alone MUs.val;unfold MUs.row at hWe;generalize hbx:w.heap.size=bx at *;replace hbx:=hid hbx;rcases hg:x.u.g with _ | _
 ·rw[hg]at x1
  rcases hw:x.u.w with _ | _
  all_goals
   rw[hw]at x2;rw[hg,hw]at hWe;clear hg hw;go_enter Tryz.func43,Tryz.ntmps43;go_upto_region 1 with fail;rw[←hWe.out]
   try rw[hbx.out]
   clear hWe;go_wp2_with fail;go_ret;exact⟨rfl,b0.out⟩
 ·rw[hg]at x1 hWe
  clear hg x2;go_enter Tryz.func43,Tryz.ntmps43;go_upto_region 1 with fail;rw[←hWe.out]
  try rw[hbx.out]
  clear hWe;go_wp2_with fail;go_ret;exact⟨by simp,b0.out⟩
noncomputable def eqMs(a b:List Mk):Bool:=@decide (a=b) (Classical.propDecidable _)
theorem eqMs_iff{a b:List Mk}:eqMs a b=true↔a=b:=by unfold eqMs;exact @decide_eq_true_iff _ (Classical.propDecidable _)
theorem eqMs_no{a b:List Mk}(h:¬a=b):eqMs a b=false:=by
 rcases hb:eqMs a b with _ | _
 ·rfl
 ·exact absurd (eqMs_iff.1 hb) h
theorem eqmarks_any(hm:HeldM)(w:World)(A B:Option Addr)(c d:Nat)(a b:List Mk)(hA:Tbl w A 2 (a.map mkRow))(hB:Tbl w B 2 (b.map mkRow))(hla:a.length≤maxLen)(hlb:b.length≤maxLen) :
 Calls Tryz.prog 76 #[.slice A a.length c,.slice B b.length d] w (BPost (eqMs a b) w):=by
 have HA:=hid (fun(w2:World) (x:Below w.heap.size w w2)=>hA.below x);have HB:=hid (fun(w2:World) (x:Below w.heap.size w w2)=>hB.below x);have HM:=hid hm;unfold maxLen at hla hlb;clear hA hB hm;obtain⟨V,hV⟩:∃V,Hid (V=eqMs a b):=⟨_,hid rfl⟩;rw[←hV.out];unfold BPost;obtain⟨n,hN⟩:∃n,Hid (n=a.length):=⟨_,hid rfl⟩;obtain⟨m,hMm⟩:∃n,Hid (n=b.length):=⟨_,hid rfl⟩;rw[←hN.out]at hla ⊢;rw[←hMm.out]at hlb ⊢;by_cases hnm:n=m;rotate_left
 ·have d0:(((n:Nat):Int) != (m:Int))=true:=by simp;omega
  have hv:Hid (V=false):=hid (by rw[hV.out];exact eqMs_no (fun e=>hnm (by rw[hN.out,hMm.out,e])));go_enter Tryz.func76,Tryz.ntmps76;go_wp2_with fail;go_ret;exact⟨by rw[hv.out];rfl,Below.refl _ _⟩
 ·subst hnm
  have d0:(((n:Nat):Int) != (n:Int))=false:=by simp
  have HL:Hid (a.length=b.length):=hid (by rw[←hN.out,←hMm.out])
  have hY:Hid ((∀k (h1:k<a.length) (h2:k<b.length),a[k] = b[k])→V=true):=hid (fun h=>by
   rw[hV.out,eqMs_iff]
   exact List.ext_getElem HL.out (fun k h1 h2=>h k h1 h2))
  have hNo:Hid (∀k (h1:k<a.length) (h2:k<b.length),¬a[k] = b[k]→V=false):=hid (fun k h1 h2 hne=>by
   rw[hV.out]
   exact eqMs_no (fun e=>hne (by subst e;rfl)))
  clear hV;go_enter Tryz.func76,Tryz.ntmps76;go_wp2_with fail;go_loopw [5,13] (fun _ i wr=>∃k:Nat,k≤n∧i=.int .i64 k∧Hid (∀j (h1:j<a.length) (h2:j<b.length),j<k→a[j] = b[j])∧Hid (Below w.heap.size w wr)) (fun _ i _=>n-(intOf i).toNat)
  case atStart=>exact⟨0,by omega,rfl,hid (fun j _ _ h=>by omega),hid (Below.refl _ _)⟩
  case round=>
   obtain⟨k,hk,rfl,hG,hb⟩:=hrel
   rename World=>wr
   by_cases hkl:k<n
   ·have e1:decide ((k:Int)<(n:Int))=true:=decide_eq_true (by omega)
    have k1:k<a.length:=by rw[←hN.out];exact hkl
    have k2:k<b.length:=by rw[←hMm.out];exact hkl
    obtain⟨g1,o1,rfl,hg1,c0,c1⟩:=tbl_mk (HA.out wr hb.out) k1;obtain⟨g2,o2,rfl,hg2,c2,c3⟩:=tbl_mk (HB.out wr hb.out) k2;have NE:=hid (HM.out.ne a[k] b[k]);have GU:=HM.out.guard
    have hsame:Hid (sameMk a[k] b[k] = true→∀j (h1:j<a.length) (h2:j<b.length),j<k+1→a[j] = b[j]):=hid (fun h j h1 h2 hj=>by
     by_cases e:j=k
     ·subst e;exact sameMk_iff.1 h
     ·exact hG.out j h1 h2 (by omega))
    have hdiff:Hid (sameMk a[k] b[k] = false→V=false):=hid (fun h=>hNo.out k k1 k2 (fun e=>by rw[sameMk_iff.2 e]at h;cases h));generalize a[k] = x at *;generalize b[k] = y at *;clear hG k1 k2 hg1 hg2;generalize hs:sameMk x y=s at *;unfold mkV at NE;rcases s with _ | _
    ·have hv:=hid (hdiff.out rfl)
     have NE2:∀w:World,(binOp .neq 101 (.agg #[.int .i64 x.at_,.string x.tag]) (.agg #[.int .i64 y.at_,.string y.tag])).run Tryz.prog w=.ok (.bool true) w:=NE.out;clear hs hsame hdiff NE;go_wp2_with fail;go_quiet (fail);have hb2:=hid (sf.below_drewQ hb.out hb.out.size nq);go_wp2_with fail;go_ret;exact⟨by rw[hv.out];rfl,hb2.out⟩
    ·have hG2:=hid (hsame.out rfl)
     have NE2:∀w:World,(binOp .neq 101 (.agg #[.int .i64 x.at_,.string x.tag]) (.agg #[.int .i64 y.at_,.string y.tag])).run Tryz.prog w=.ok (.bool false) w:=NE.out;clear hs hsame hdiff NE;go_wp2_with fail;go_quiet (fail);have hb2:=hid (sf.below_drewQ hb.out hb.out.size nq);go_wp2_with fail;go_roundw
     case rel=>exact⟨k+1,by omega,by go_num,hG2,hb2⟩
     case measure=>simp[intOf];omega
   ·obtain rfl:k=n:=by omega
    have e1:decide ((k:Int)<(k:Int))=false:=decide_eq_false (by omega);have hv:Hid (V=true):=hid (hY.out (fun j h1 h2=>hG.out j h1 h2 (by rw[hN.out];exact h1)));go_wp2_with fail;go_ret;exact⟨by rw[hv.out];rfl,hb.out⟩
end ym
namespace ym
open RowKit Go.Sort sy
open re (tx SU)
open sf (namesL esC fst0 orE risB inD)
open inn (rsS intoAll_spec ordS)
theorem risB_pair:∀(l:List (List UInt8)),risB l=true→l.Pairwise (fun a b=>a<b):=by
 intro l
 induction l with
 | nil=>intro _;exact List.Pairwise.nil
 | cons x t ih=>
  intro h;cases t with
  | nil=>exact List.pairwise_singleton _ _
  | cons y r=>
   unfold risB at h;rw[Bool.and_eq_true,decide_eq_true_eq]at h;have hp:=ih h.2;refine List.Pairwise.cons (fun z hz=>?_) hp;rcases List.mem_cons.1 hz with e | e
   ·rw[e];exact h.1
   ·exact List.lt_trans h.1 ((List.pairwise_cons.1 hp).1 z e)
theorem gives_rise(u:SU)(h:fst0 (esC u)=0):(u.gives.map tx).Pairwise (fun a b=>a<b):=by
 have hz:=fst0_zero _ h;have h1:orE (risB (u.gives.map tx)) 13=0:=hz _ (by unfold esC;simp);unfold orE at h1;cases hb:risB (u.gives.map tx)with
 | false=>rw[hb]at h1;exact absurd h1 (by decide)
 | true=>exact risB_pair _ hb
end ym
namespace ym
open RowKit Go.Sort Shelf mem
attribute [local go_sem] Oper.semAt_some
theorem cSys:Tryz.prog.underlying 41=some (.struct (Tryz.prog.fieldsOf 41)):=by kernel_rfl
def SYP(w:World)(s:ByteArray)(e:Ending)(w':World):Prop:=∃g,e=.returned (.agg #[.slice none 0 0,.slice (some ⟨g,0,none⟩) 1 1,.slice none 0 0])∧Box w' g 72 #[.string s,.string ⟨#[112]⟩,.string ⟨#[118]⟩]∧Below w.heap.size w w'
theorem sys_any(w:World)(s:ByteArray):Calls Tryz.prog 21 #[.string s] w (SYP w s):=by
 have b1:=Box.new (w.alloc (.cells #[.slice none 0 0,.slice (some ⟨w.heap.size+1,0,none⟩) 1 1,.slice none 0 0] 41)) 72 #[.string s,.string ⟨#[112]⟩,.string ⟨#[118]⟩];rw[World.size_alloc]at b1;have HX:=hid ((Box.new w 41 #[.slice none 0 0,.slice (some ⟨w.heap.size+1,0,none⟩) 1 1,.slice none 0 0]).kept ((Fr.refl [] _).alloc (.cells #[.string s,.string ⟨#[112]⟩,.string ⟨#[118]⟩] 72)) (by simp));have HF:=hid b1;have HO:=hid (((Fr.refl [] w).alloc (.cells #[.slice none 0 0,.slice (some ⟨w.heap.size+1,0,none⟩) 1 1,.slice none 0 0] 41)).alloc (.cells #[.string s,.string ⟨#[112]⟩,.string ⟨#[118]⟩] 72)).all;clear b1;go_enter Tryz.func21,Tryz.ntmps21;go_wp2_with fail;refine bodyPost_ret (results_cell_row rfl _ _ _ _ _ _ _ rfl HX.out cSys rfl (by kernel_rfl)) rfl ?_;exact⟨_,rfl,HF.out,HO.out⟩
end ym
namespace ym
open RowKit sy
open re (tx SU)
open sf (namesL fst0 esC orE inD inW)
open inn (rsS)
def wNm:ByteArray:=⟨#[102,40,41]⟩
def wFn:SF:=⟨wNm,⟨#[112]⟩,⟨#[118]⟩⟩
def wSys:SS:=⟨[],[wFn],[]⟩
def uN:SU:=⟨⟨#[110]⟩,[],[wNm],[],wSys⟩
def uM:SU:=⟨⟨#[109]⟩,[wNm],[],[],wSys⟩
theorem w_check:checkE wSys=0:=by
 unfold checkE;rw[if_neg (by decide)];have h2:goE fnE badF none wSys.fns=0:=by kernel_rfl
 have h1:goE objE badO none wSys.objs=0:=rfl;have h3:goE conE badC none wSys.cons=0:=rfl;rw[h1,h2,h3];rfl
theorem uN_ok:fst0 (esC uN)=0:=by
 unfold esC;rw[show checkE uN.sys=0 from w_check]
 kernel_rfl
theorem uM_ok:fst0 (esC uM)=0:=by
 unfold esC;rw[show checkE uM.sys=0 from w_check]
 kernel_rfl
theorem w_uses2:usesN (usesL [uN,uM]) [102,40,41] = [⟨⟨#[110]⟩,false,true,oZ,wFn⟩,⟨⟨#[109]⟩,true,false,oZ,wFn⟩]:=by kernel_rfl
theorem w_uses1:usesN (usesL [uN]) [102,40,41] = [⟨⟨#[110]⟩,false,true,oZ,wFn⟩]:=by kernel_rfl
theorem w_names2:rsS ((usesL [uN,uM]).map (·.1))=[[102,40,41]]:=by kernel_rfl
theorem w_names1:rsS ((usesL [uN]).map (·.1))=[[102,40,41]]:=by kernel_rfl
theorem w_sym2:symE 12 (usesN (usesL [uN,uM]) [102,40,41])=0:=by
 rw[w_uses2];unfold symE;rw[if_neg (by decide),if_neg,if_neg (by decide)];have:like ⟨⟨#[109]⟩,true,false,oZ,wFn⟩ ⟨⟨#[110]⟩,false,true,oZ,wFn⟩=true:=by rw[like_iff];exact⟨rfl,rfl⟩
 simp only[sameFrom,this]
 decide
theorem w_sym1:symE 12 (usesN (usesL [uN]) [102,40,41])=7:=by
 rw[w_uses1];unfold symE;rw[if_neg (by decide),if_neg,if_pos (by decide)];simp only[sameFrom]
 decide
theorem w_chk2:chkFrom [] [uN,uM] = none:=by
 rw[chkFrom,if_pos uN_ok,if_neg (by simp),chkFrom,if_pos uM_ok,if_neg (by decide)];rfl
theorem w_chk1:chkFrom [] [uN] = none:=by
 rw[chkFrom,if_pos uN_ok,if_neg (by simp)];rfl
theorem w_res2:resP [uN,uM] = ([⟨[102,40,41],⟨#[109]⟩,[[110]]⟩],[],0):=by
 unfold resP;rw[if_neg (by decide),w_chk2];dsimp only;rw[w_names2,resFrom,if_pos w_sym2,resFrom,w_uses2]
 kernel_rfl
theorem w_res1:resP [uN] = ([],[102,40,41],7):=by
 unfold resP;rw[if_neg (by decide),w_chk1];dsimp only;rw[w_names1,resFrom,if_neg (by rw[w_sym1];decide),w_sym1]
end ym
end Go.Proofs.YtlkboeajkgbnaaaGreatDoor
