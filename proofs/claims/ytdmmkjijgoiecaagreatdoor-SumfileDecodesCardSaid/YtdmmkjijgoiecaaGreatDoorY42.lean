import Derived.Test.YtdmmkjijgoiecaaGreatDoorY37
import Derived.Test.YtdmmkjijgoiecaaGreatDoorY49
set_option linter.all false
set_option maxHeartbeats 4000000
namespace Go.Proofs.YtdmmkjijgoiecaaGreatDoor
open Lib(hid)
set_option maxRecDepth 100000
namespace sf
open RowKit Go.Sort mem sy dg
open re (tx gH MU SU)
open nm (jI bR)
def aDU(u:SU):List (List UInt8):=u.sys.objs.map (fun o=>tx o.name)++u.sys.fns.map (fun f=>tx f.name)
def inD(u:SU)(s:ByteArray):Bool:=decide (tx s∈aDU u)
def inW(u:SU)(s:ByteArray):Bool:=decide (tx s∈u.wants.map tx)
def iL(b:Bool)(c:Int):Int:=if b then 0 else c
noncomputable def vR(u:SU):List Int:=[iL (bZ u.name) 11,iJ u.sys,iL (fV (u.gives.map tx)) 13,iL (u.gives.all (inD u)) 7,iL (fV (u.wants.map tx)) 13,iL (u.wants.all (inD u)) 7,iL (u.gives.all (fun s=>!inW u s)) 8,iL (decide (u.keeps.length≤6000)) 4,iL (fV (u.keeps.map tx)) 13,iL (u.keeps.all dO) 11]
structure aGU(w:World)(u:MU):Prop where
 m:gH w u
 n:u.name.size≤maxLen
 gl:u.gives.length≤1000000
 wl:u.wants.length≤900000
 kl:u.keeps.length≤1000000
 ol:u.s.os.length+u.s.fs.length≤900000
 gs:∀s∈u.gives,s.size≤maxLen
 ws:∀s∈u.wants,s.size≤maxLen
 ks:∀s∈u.keeps,s.size≤maxLen
theorem aGU.below{w w':World}{u:MU}(h:aGU w u)(hb:Below w.heap.size w w'):aGU w' u:=⟨h.m.below hb,h.n,h.gl,h.wl,h.kl,h.ol,h.gs,h.ws,h.ks⟩
theorem aBh{s:ByteArray}(h:s.size≤maxLen):ins.WF (tx s):=h
theorem aAO{α β:Type}(f:β→α→β)(l:List α)(b:β){k:Nat}(J:k<l.length):(l.take (k+1)).foldl f b=f ((l.take k).foldl f b) l[k]:=by
 rw[bC J,List.foldl_append];rfl
theorem aMc(J:World):T2 J J.heap.size (J.heap.size+1) 0 0 [] [] ((J.alloc (.cells #[.map none,.slice none 0 0] 112)).alloc (.cells #[.map none,.slice none 0 0] 112)):=by
 have hz:(J.alloc (.cells #[.map none,.slice none 0 0] 112)).heap.size=J.heap.size+1:=bH _;have t1:=(ins.aIP J).kept ((Fr.refl [] _).alloc (.cells #[.map none,.slice none 0 0] 112)) (by simp);have t2:=ins.aIP (J.alloc (.cells #[.map none,.slice none 0 0] 112));rw[hz]at t2;have hs:((J.alloc (.cells #[.map none,.slice none 0 0] 112)).alloc (.cells #[.map none,.slice none 0 0] 112)).heap.size=J.heap.size+2:=by
  show(Array.push _ _).size=_;rw[bH,hz]
 refine⟨none,0,none,none,0,none,t1,t2,fun g Y=>?_,fun g Y=>?_,(((Fr.refl [] J).alloc _).alloc _).all⟩
 ·have:g=J.heap.size:=by simpa[ins.kV,blk] using Y
  subst this;refine⟨aY _,by omega,fun h=>?_⟩;have:J.heap.size=J.heap.size+1:=by simpa[ins.kV,blk] using h
  omega
 ·have:g=J.heap.size+1:=by simpa[ins.kV,blk] using Y
  subst this;exact⟨by omega,by omega⟩
theorem T2.be{W w:World}{Y J n1 n2:Nat}{d e:List (List UInt8)}(h:T2 W Y J n1 n2 d e w):Below W.heap.size W w:=by
 obtain⟨_,_,_,_,_,_,_,_,_,_,b⟩:=h;exact b
theorem aAP(w:World)(u:MU)(hu:aGU w u)(bc:jI w):Calls Tryz.prog 26 #[u.val] w (dG (fH (vR u.su)) w):=by
 obtain⟨W1,aa⟩:∃W1,Hid (W1=w.alloc (.cells u.row 29)):=⟨_,hid rfl⟩;have hz:(w.alloc (.cells u.row 29)).heap.size=w.heap.size+1:=bH _;have bW:Below w.heap.size w W1:=by rw[aa.out];exact(Below.refl _ _).alloc (aY _) _
 have B0:bV W1 w.heap.size 29 u.row:=by rw[aa.out];exact bV.new w _ _
 have e3:Hid (W1.heap.size=w.heap.size+1):=hid (by rw[aa.out];exact hz);have bq:=aMc W1;rw[e3.out]at bq;have T0:=hid bq;clear bq;have HB:=hid (fun J (b:Below W1.heap.size W1 J)=>B0.kept (Fr.of_below b []) (by simp));have HU:=hid (fun J (b:Below W1.heap.size W1 J)=>(hu.below bW).below b);have HT:=hid (fun J (b:Below W1.heap.size W1 J)=>bR (bR bc bW) b);have HP:=hid (fun(J:World) (b:Below W1.heap.size W1 J)=>bW.trans (b.mono bW.size))
 have HD:Hid (∀s,inD u.su s=decide (tx s∈((u.s.os.map (fun o=>tx o.o.name))++u.s.fs.map (fun f=>tx f.name)).foldl qM [])):=hid (fun s=>by
  unfold inD aDU MU.su MS.sys;rw[decide_eq_decide,aAm]
  simp[List.map_map])
 have b2:Hid (∀s,inW u.su s=decide (tx s∈(u.wants.map tx).foldl qM [])):=hid (fun s=>by
  unfold inW MU.su;rw[decide_eq_decide,aAm]
  simp)
 obtain⟨V,hV⟩:∃V,Hid (V=fH (vR u.su)):=⟨_,hid rfl⟩;obtain⟨ON,au⟩:∃ON,Hid (ON=u.s.os.map (fun o=>tx o.o.name)):=⟨_,hid rfl⟩;obtain⟨FN,af⟩:∃FN,Hid (FN=u.s.fs.map (fun f=>tx f.name)):=⟨_,hid rfl⟩;obtain⟨WN,ap⟩:∃WN,Hid (WN=u.wants.map tx):=⟨_,hid rfl⟩;rw[←au.out,←af.out]at HD;rw[←ap.out]at b2;rw[←hV.out];have bf:=hu.ol;have cb:=hu.wl;clear hu bc bW B0;obtain⟨nm,gA,gc,gs,wA,wc,ws,kA,kc,ks,⟨oA,oc,os,fA,fc,fs,cA,cc,cs⟩⟩:=u;dsimp only at bf cb au af ap;have y4:=fun J b=>(HB.out J b).cell 4
 have y5:=fun J b=>(HB.out J b).cell 5
 have y2:=fun J b=>(HB.out J b).cell 2
 unfold MU.val MU.row at *;dsimp only at *;simp only[aL,aJ,aK]at y4 y5 y2;have Y4:=hid y4;have Y5:=hid y5;have Y2:=hid y2;clear y4 y5 y2;have co:(W1.alloc (.cells #[.map none,.slice none 0 0] 112)).heap.size=W1.heap.size+1:=bH _;go_enter Tryz.func26,Tryz.ntmps26;go_upto_region 2 with fail;rw[←aa.out]
 try rw[co]
 generalize (W1.alloc (.cells #[.map none,.slice none 0 0] 112)).alloc (.cells #[.map none,.slice none 0 0] 112)=W3 at *;clear co hz aa;have z4:=Y4.out W3 T0.out.be;have a7:Hid (ON.length=os.length):=hid (by rw[au.out,aH]);have a3:Hid (FN.length=fs.length):=hid (by rw[af.out,aH]);have ak:Hid (WN.length=ws.length):=hid (by rw[ap.out,aH]);have cn:Hid (T2 W1 (w.heap.size+1) (w.heap.size+1+1) 0 0 ((ON.take 0).foldl qM []) [] W3):=T0;obtain⟨no,b4⟩:∃no,Hid (no=os.length):=⟨_,hid rfl⟩;obtain⟨nf,bg⟩:∃nf,Hid (nf=fs.length):=⟨_,hid rfl⟩;obtain⟨nw,c5⟩:∃nw,Hid (nw=ws.length):=⟨_,hid rfl⟩;rw[←b4.out]at z4 Y4 bf;rw[←bg.out]at Y5 bf;rw[←c5.out]at Y2 cb
 try rw[←b4.out]
 clear T0;go_wp2_with fail;go_loopw [17] (fun i wr=>∃k:Nat,k≤no∧i=.int .i64 k∧Hid (T2 W1 (w.heap.size+1) (w.heap.size+1+1) k 0 ((ON.take k).foldl qM []) [] wr)) (fun i _=>no-(intOf i).toNat)
 case atStart=>exact⟨0,by omega,rfl,cn⟩
 case round=>
  obtain⟨k,hk,rfl,ar⟩:=hrel
  rename World=>wr
  clear cn;by_cases di:k<no
  ·have e1:decide ((k:Int)<(no:Int))=true:=aC (by omega)
   have bz:k<os.length:=by rw[←b4.out];exact di
   have cu:k<ON.length:=by rw[a7.out];exact bz
   have hU:=HU.out wr ar.out.be;obtain⟨g,off,rfl,hg,c0,c1,c2⟩:=kS hU.m.sr.o bz;have hx:ins.WF (tx os[k].o.name):=aBh (hU.m.sr.ok os[k] (aR bz)).n;have a0:=hid (aAO qM ON [] cu);have a1:Hid (ON[k] = tx os[k].o.name):=hid (by simp[au.out]);rw[a1.out]at a0;have ag:=ar.out.below (w':=wr.alloc (.cells #[.string os[k].o.name,.string os[k].o.kinds,.slice os[k].mA os[k].o.marks.length os[k].mc] 99)) ((Fr.refl [] wr).alloc _).all;have KP:=hid (aD3 ag (tx os[k].o.name) hx (by omega));rw[aAk,←a0.out]at KP;clear ag a1 a0 hx hU hg;generalize os[k] = x at *;obtain⟨⟨xn,xk,xm⟩,xA,xc⟩:=x;dsimp only at c0 c1 c2 KP;generalize xm.length=xl at *;go_wp2_with fail;refine KP.out.mono ?_;rintro e J ⟨⟨v,rfl⟩,ht⟩;have av:=hid ht;clear ht KP ar c0 c1 c2;go_wp2_with fail;go_roundw
   case rel=>exact⟨k+1,by omega,by go_num,av⟩
   case measure=>simp[intOf];omega
  ·obtain rfl:k=no:=by omega
   have e1:decide ((k:Int)<(k:Int))=false:=aB (by omega)
   have b3:Hid (T2 W1 (w.heap.size+1) (w.heap.size+1+1) k 0 ((ON++FN.take 0).foldl qM []) [] wr):=hid (by
    have h:=ar.out;rw[bE (by rw[a7.out,←b4.out];exact aY _)]at h;rw[List.take_zero,List.append_nil]
    exact h)
   have z5:=Y5.out wr b3.out.be;clear ar;go_wp2_with fail;obtain⟨kO,ci⟩:∃kO,Hid (kO=k):=⟨_,hid rfl⟩;rw[←ci.out]at b3;go_loopw [29] (fun i wr=>∃j:Nat,j≤nf∧i=.int .i64 j∧Hid (T2 W1 (w.heap.size+1) (w.heap.size+1+1) (kO+j) 0 ((ON++FN.take j).foldl qM []) [] wr)) (fun i _=>nf-(intOf i).toNat)
   case atStart=>exact⟨0,by omega,rfl,b3⟩
   case round=>
    obtain⟨j,hj,rfl,am⟩:=hrel;clear b3 z4 z5
    rename World=>wr2
    by_cases dp:j<nf
    ·have e1:decide ((j:Int)<(nf:Int))=true:=aC (by omega)
     have br:j<fs.length:=by rw[←bg.out];exact dp
     have da:j<FN.length:=by rw[a3.out];exact br
     have hU:=HU.out wr2 am.out.be;obtain⟨g,off,rfl,hg,c0,c1,c2⟩:=oC hU.m.sr.f br;have hx:ins.WF (tx fs[j].name):=aBh (hU.m.sr.fk fs[j] (aR br)).n
     have a0:Hid ((ON++FN.take (j+1)).foldl qM [] = qM ((ON++FN.take j).foldl qM []) FN[j]):=hid (by
      rw[bC da,←aS,List.foldl_append]
      rfl)
     have a1:Hid (FN[j] = tx fs[j].name):=hid (by simp[af.out]);rw[a1.out]at a0;have ag:=am.out.below (w':=wr2.alloc (.cells #[.string fs[j].name,.string fs[j].kinds,.string fs[j].ret] 103)) ((Fr.refl [] wr2).alloc _).all;have KP:=hid (aD3 ag (tx fs[j].name) hx (by have:=ci.out;omega));rw[aAk,←a0.out]at KP;clear ag a1 a0 hx hU hg;generalize fs[j] = x at *;obtain⟨xn,xk,xr⟩:=x;dsimp only at c0 c1 c2 KP;go_wp2_with fail;refine KP.out.mono ?_;rintro e J ⟨⟨v,rfl⟩,ht⟩;have av:=hid ht;clear ht KP am c0 c1 c2;go_wp2_with fail;go_roundw
     case rel=>exact⟨j+1,by omega,by go_num,av⟩
     case measure=>simp[intOf];omega
    ·obtain rfl:j=nf:=by omega
     have e1:decide ((j:Int)<(j:Int))=false:=aB (by omega);obtain⟨D,hD⟩:∃D,Hid (D=(ON++FN).foldl qM []):=⟨_,hid rfl⟩;rw[←hD.out]at HD
     have b5:Hid (T2 W1 (w.heap.size+1+1) (w.heap.size+1) 0 (kO+j) ((WN.take 0).foldl qM []) D wr2):=hid (by
      have h:=am.out;rw[bE (by rw[a3.out,←bg.out];exact aY _),←hD.out]at h
      exact h.swap)
     have z2:=Y2.out wr2 b5.out.be;clear am;go_wp2_with fail;obtain⟨nD,db⟩:∃nD,Hid (nD=kO+j):=⟨_,hid rfl⟩;rw[←db.out]at b5;go_loopw [40] (fun i wr=>∃q:Nat,q≤nw∧i=.int .i64 q∧Hid (T2 W1 (w.heap.size+1+1) (w.heap.size+1) q nD ((WN.take q).foldl qM []) D wr)) (fun i _=>nw-(intOf i).toNat)
     case atStart=>exact⟨0,by omega,rfl,b5⟩
     case round=>
      obtain⟨q,hq,rfl,a9⟩:=hrel;clear b5 z2
      rename World=>wr3
      by_cases dj:q<nw
      ·have e1:decide ((q:Int)<(nw:Int))=true:=aC (by omega)
       have b1:q<ws.length:=by rw[←c5.out];exact dj
       have dw:q<WN.length:=by rw[ak.out];exact b1
       have hU:=HU.out wr3 a9.out.be;obtain⟨g,off,rfl,dm,hc⟩:=hU.m.wr (by rw[aH];exact Nat.lt_of_le_of_lt (bA _) b1);have c0:=hc q (by rw[aH];exact b1);rw[List.getElem_map]at c0;have hx:ins.WF (tx ws[q]):=aBh (hU.ws ws[q] (aR b1));have a0:=hid (aAO qM WN [] dw);have a1:Hid (WN[q] = tx ws[q]):=hid (by simp[ap.out]);rw[a1.out]at a0;have KP:=hid (aD3 a9.out (tx ws[q]) hx (by omega));rw[aAk,←a0.out]at KP;clear a1 a0 hx hU dm hc;generalize ws[q] = x at *;go_wp2_with fail;refine KP.out.mono ?_;rintro e J ⟨⟨v,rfl⟩,ht⟩;have av:=hid ht;clear ht KP a9 c0;go_wp2_with fail;go_roundw
       case rel=>exact⟨q+1,by omega,by go_num,av⟩
       case measure=>simp[intOf];omega
      ·obtain rfl:q=nw:=by omega
       have e1:decide ((q:Int)<(q:Int))=false:=aB (by omega);obtain⟨E,hE⟩:∃E,Hid (E=WN.foldl qM []):=⟨_,hid rfl⟩;rw[←hE.out]at b2
       have a2:Hid (T2 W1 (w.heap.size+1) (w.heap.size+1+1) nD q D E wr3):=hid (by
        have h:=a9.out;rw[bE (by rw[ak.out,←c5.out];exact aY _),←hE.out]at h
        exact h.swap)
       clear a9 au af ap a7 a3 ak hD hE;go_wp2_with fail;rename_i K0 hK;have hU:=HU.out wr3 a2.out.be;have ai:=HB.out wr3 a2.out.be;have bu:=HT.out wr3 a2.out.be;have c8:=hid (HP.out wr3 a2.out.be);have b7:=aEy wr3 w.heap.size ⟨nm,gA,gc,gs,wA,wc,ws,kA,kc,ks,⟨oA,oc,os,fA,fc,fs,cA,cc,cs⟩⟩ ai hU.n;have bd:=aDQ wr3 w.heap.size ⟨nm,gA,gc,gs,wA,wc,ws,kA,kc,ks,⟨oA,oc,os,fA,fc,fs,cA,cc,cs⟩⟩ ai hU.m.sr bu;have b6:=aD1 wr3 w.heap.size ⟨nm,gA,gc,gs,wA,wc,ws,kA,kc,ks,⟨oA,oc,os,fA,fc,fs,cA,cc,cs⟩⟩ ai;have b9:=aAA W1 wr3 _ _ _ _ D E a2.out gs (fun s hs=>aBh (hU.gs s hs));have ba:=aAA W1 wr3 _ _ _ _ D E a2.out ws (fun s hs=>aBh (hU.ws s hs));have bb:=aEh W1 wr3 _ _ _ _ E D a2.out.swap gs (fun s hs=>aBh (hU.gs s hs));have b8:=aJ0 wr3 bu ks hU.ks;have cw:=hid (fun J (b:Below wr3.heap.size wr3 J)=>wJ J gA gc gs (hU.m.gr.below b) hU.gl)
       have cy:=hid (fun J (b:Below wr3.heap.size wr3 J)=>wJ J wA wc ws (hU.m.wr.below b) (aZ hU.wl (by decide)));have e0:=hid (fun J (b:Below wr3.heap.size wr3 J)=>wJ J kA kc ks (hU.m.kr.below b) hU.kl);have e5:=hid (fun J (b:Below wr3.heap.size wr3 J)=>zS J gA gc _ gs _ (b9.below b) (hU.m.gr.below b) (aZ hU.gl (by decide)));have dq:=hid (fun J (b:Below wr3.heap.size wr3 J)=>zS J wA wc _ ws _ (ba.below b) (hU.m.wr.below b) (aZ hU.wl (by decide)));have dz:=hid (fun J (b:Below wr3.heap.size wr3 J)=>zS J gA gc _ gs _ (bb.below b) (hU.m.gr.below b) (aZ hU.gl (by decide)));have e6:=hid (fun J (b:Below wr3.heap.size wr3 J)=>zS J kA kc _ ks _ (b8.below b) (hU.m.kr.below b) (aZ hU.kl (by decide)));have HY:=hid (fun J (b:Below wr3.heap.size wr3 J)=>ai.kept (Fr.of_below b []) (by simp))
       have ch:=hid b7;have cj:=hid bd;have cm:=hid b6;have bo:=hV.out;rw[show vR _=[iL (bZ nm) 11,iJ _,iL (fV (gs.map tx)) 13,iL (gs.all (inD _)) 7,iL (fV (ws.map tx)) 13,iL (ws.all (inD _)) 7,iL (gs.all (fun s=>!inW _ s)) 8,iL (decide (ks.length≤6000)) 4,iL (fV (ks.map tx)) 13,iL (ks.all dO) 11] from rfl,show inD _=(fun s=>decide (tx s∈D)) from funext HD.out,show(fun s=>!inW _ s)=(fun s=>!decide (tx s∈E)) from funext (fun s=>by rw[b2.out s])]at bo;have HV:=hid bo;clear bo hV hU ai bu b7 bd b6 b9 ba bb b8 HD b2 HU HB HT HP a2 Y4 Y5 Y2;dsimp only[MU.su,MS.sys]at HV ch cj cm;generalize bZ nm=nB at *;generalize iJ _=ce at *;generalize fV (gs.map tx)=rg at *;generalize fV (ws.map tx)=rw at *;generalize fV (ks.map tx)=rk at *;generalize (gs.all fun s=>decide (tx s∈D))=ga at *;generalize (ws.all fun s=>decide (tx s∈D))=wa at *
       generalize (gs.all fun s=>!decide (tx s∈E))=gl at *;generalize decide (ks.length≤6000)=kn at *;generalize ks.all dO=kl at *;obtain⟨es,ax⟩:∃es,Hid (es=[iL nB 11,ce,iL rg 13,iL ga 7,iL rw 13,iL wa 7,iL gl 8,iL kn 4,iL rk 13,iL kl 11]):=⟨_,hid rfl⟩;rw[←ax.out]at HV;refine aGS [(49,sF (.bool nB)),(50,sF (.int .i64 (iL nB 11))),(51,sF (.int .i64 ce)),(52,sEq (Value.pointer (some ⟨w.heap.size,1,none⟩))),(53,sEq (Value.slice gA gs.length gc)),(54,sF (.int .i64 (iL rg 13))),(55,sEq (Value.pointer (some ⟨w.heap.size,1,none⟩))),(56,sEq (Value.slice gA gs.length gc)),(57,sEq (Value.func (Fn.func 71) #[] #[Value.pointer (some ⟨w.heap.size+1,0,none⟩)])),(58,sF (.bool ga)),(59,sF (.int .i64 (iL ga 7))),(60,sEq (Value.pointer (some ⟨w.heap.size,2,none⟩))),(61,sEq (Value.slice wA ws.length wc)),(62,sF (.int .i64 (iL rw 13))),(63,sEq (Value.pointer (some ⟨w.heap.size,2,none⟩))),(64,sEq (Value.slice wA ws.length wc)),(65,sEq (Value.func (Fn.func 71) #[] #[Value.pointer (some ⟨w.heap.size+1,0,none⟩)])),(66,sF (.bool wa)),(67,sF (.int .i64 (iL wa 7))),(68,sEq (Value.pointer (some ⟨w.heap.size,1,none⟩))),(69,sEq (Value.slice gA gs.length gc)),(70,sEq (Value.func (Fn.func 73) #[] #[Value.pointer (some ⟨w.heap.size+1+1,0,none⟩)])),(71,sF (.bool gl)),(72,sF (.int .i64 (iL gl 8))),(73,sF (.bool kn)),(74,sF (.int .i64 (iL kn 4))),(75,sEq (Value.pointer (some ⟨w.heap.size,3,none⟩))),(76,sEq (Value.slice kA ks.length kc)),(77,sF (.int .i64 (iL rk 13))),(78,sEq (Value.pointer (some ⟨w.heap.size,3,none⟩))),(79,sEq (Value.slice kA ks.length kc)),(80,sF (.bool kl)),(81,sF (.int .i64 (iL kl 11))),(82,sL es),(83,sEq (.int .i64 (fH es))),(2,sEq (.int .i64 (fH es)))] [0,1,2,3,4,5,6,7,8,9,10,11,12,13,14,15,16,17,18,19,20,21,22,23,24,25,26,27,28,29,30,31,32,33,34,35] rfl ?_ (by kernel_rfl) (by kernel_rfl) (by kernel_rfl) ⟨?_,?_,?_,?_,?_,?_,?_,?_,?_,?_,?_,?_,?_,?_,?_,?_,?_,?_,?_,?_,?_,?_,?_,?_,?_,?_,?_,?_,?_,?_,?_,?_,?_,?_,?_,?_,trivial⟩ ?_
       ·intro x hx
        simp only[aM,List.mem_nil_iff,or_false]at hx;rcases hx with rfl | rfl | rfl | rfl | rfl | rfl | rfl | rfl | rfl | rfl | rfl | rfl | rfl | rfl | rfl | rfl | rfl | rfl | rfl | rfl | rfl | rfl | rfl | rfl | rfl | rfl | rfl | rfl | rfl | rfl | rfl | rfl | rfl | rfl | rfl | rfl <;> first | exact aIn _ | exact aJQ _ | exact aJr _
       ·intro a J hL b Y
        have e1:a.eval (.tmp 1)=Value.pointer (some ⟨w.heap.size,0,none⟩):=hL.e 1 (by kernel_rfl);exact aHY (Value.func (Fn.func 76) #[] #[Value.pointer (some ⟨w.heap.size,0,none⟩)]) (.bool nB) rfl rfl rfl rfl (aLp rfl e1) (ch.out.below b)
       ·intro a J hL b Y
        have hf:F0 J (a.eval (.tmp 49)) (.bool nB):=Y 49 (by kernel_rfl);exact qN rfl rfl rfl rfl rfl (fun args w=>by go_simp) (vs:=#[a.eval (.tmp 49),.int .i64 11]) (by simp only[List.map_toArray,aV,aU];first | done | rfl) rfl (oH J _ nB 11 hf)
       ·intro a J hL b Y
        have e1:a.eval (.tmp 1)=Value.pointer (some ⟨w.heap.size,0,none⟩):=hL.e 1 (by kernel_rfl);exact aHY (Value.func (Fn.func 78) #[] #[Value.pointer (some ⟨w.heap.size,0,none⟩)]) (.int .i64 ce) rfl rfl rfl rfl (aLp rfl e1) (cj.out.below b)
       ·intro a J hL b Y
        have e1:a.eval (.tmp 1)=Value.pointer (some ⟨w.heap.size,0,none⟩):=hL.e 1 (by kernel_rfl);exact lG (Value.pointer (some ⟨w.heap.size,1,none⟩)) rfl rfl rfl rfl (aAJ rfl e1 (by go_simp))
       ·intro a J hL b Y
        have cx:a.eval (.tmp 52)=Value.pointer (some ⟨w.heap.size,1,none⟩):=Y 52 (by kernel_rfl);have y:J.cell? ⟨w.heap.size,1,none⟩=some (Value.slice gA gs.length gc):=(HY.out J b).cell 1;exact lG (Value.slice gA gs.length gc) rfl rfl rfl rfl (aEb rfl cx (by clear Y;go_simp))
       ·intro a J hL b Y
        have cv:a.eval (.tmp 53)=Value.slice gA gs.length gc:=Y 53 (by kernel_rfl);exact qN rfl rfl rfl rfl rfl (fun args w=>by go_simp) (vs:=#[Value.slice gA gs.length gc]) (by simp only[List.map_toArray,aV,aU,cv];first | done | rfl) rfl (cw.out J b)
       ·intro a J hL b Y
        have e1:a.eval (.tmp 1)=Value.pointer (some ⟨w.heap.size,0,none⟩):=hL.e 1 (by kernel_rfl);exact lG (Value.pointer (some ⟨w.heap.size,1,none⟩)) rfl rfl rfl rfl (aAJ rfl e1 (by go_simp))
       ·intro a J hL b Y
        have cz:a.eval (.tmp 55)=Value.pointer (some ⟨w.heap.size,1,none⟩):=Y 55 (by kernel_rfl);have y:J.cell? ⟨w.heap.size,1,none⟩=some (Value.slice gA gs.length gc):=(HY.out J b).cell 1;exact lG (Value.slice gA gs.length gc) rfl rfl rfl rfl (aEb rfl cz (by clear Y;go_simp))
       ·intro a J hL b Y
        have e1:a.eval (.tmp 11)=Value.func (Fn.func 71) #[] #[Value.pointer (some ⟨w.heap.size+1,0,none⟩)]:=hL.e 11 (by kernel_rfl);exact lG (Value.func (Fn.func 71) #[] #[Value.pointer (some ⟨w.heap.size+1,0,none⟩)]) rfl rfl rfl rfl (aLQ rfl e1)
       ·intro a J hL b Y
        have de:a.eval (.tmp 56)=Value.slice gA gs.length gc:=Y 56 (by kernel_rfl);have dx:a.eval (.tmp 57)=Value.func (Fn.func 71) #[] #[Value.pointer (some ⟨w.heap.size+1,0,none⟩)]:=Y 57 (by kernel_rfl);exact qN rfl rfl rfl rfl rfl (fun args w=>by go_simp) (vs:=#[Value.slice gA gs.length gc,Value.func (Fn.func 71) #[] #[Value.pointer (some ⟨w.heap.size+1,0,none⟩)]]) (by simp only[List.map_toArray,aV,aU,de,dx];first | done | rfl) rfl (e5.out J b)
       ·intro a J hL b Y
        have hf:F0 J (a.eval (.tmp 58)) (.bool ga):=Y 58 (by kernel_rfl);exact qN rfl rfl rfl rfl rfl (fun args w=>by go_simp) (vs:=#[a.eval (.tmp 58),.int .i64 7]) (by simp only[List.map_toArray,aV,aU];first | done | rfl) rfl (oH J _ ga 7 hf)
       ·intro a J hL b Y
        have e1:a.eval (.tmp 1)=Value.pointer (some ⟨w.heap.size,0,none⟩):=hL.e 1 (by kernel_rfl);exact lG (Value.pointer (some ⟨w.heap.size,2,none⟩)) rfl rfl rfl rfl (aAJ rfl e1 (by go_simp))
       ·intro a J hL b Y
        have d0:a.eval (.tmp 60)=Value.pointer (some ⟨w.heap.size,2,none⟩):=Y 60 (by kernel_rfl);have y:J.cell? ⟨w.heap.size,2,none⟩=some (Value.slice wA ws.length wc):=(HY.out J b).cell 2;exact lG (Value.slice wA ws.length wc) rfl rfl rfl rfl (aEb rfl d0 (by clear Y;go_simp))
       ·intro a J hL b Y
        have dk:a.eval (.tmp 61)=Value.slice wA ws.length wc:=Y 61 (by kernel_rfl);exact qN rfl rfl rfl rfl rfl (fun args w=>by go_simp) (vs:=#[Value.slice wA ws.length wc]) (by simp only[List.map_toArray,aV,aU,dk];first | done | rfl) rfl (cy.out J b)
       ·intro a J hL b Y
        have e1:a.eval (.tmp 1)=Value.pointer (some ⟨w.heap.size,0,none⟩):=hL.e 1 (by kernel_rfl);exact lG (Value.pointer (some ⟨w.heap.size,2,none⟩)) rfl rfl rfl rfl (aAJ rfl e1 (by go_simp))
       ·intro a J hL b Y
        have dn:a.eval (.tmp 63)=Value.pointer (some ⟨w.heap.size,2,none⟩):=Y 63 (by kernel_rfl);have y:J.cell? ⟨w.heap.size,2,none⟩=some (Value.slice wA ws.length wc):=(HY.out J b).cell 2;exact lG (Value.slice wA ws.length wc) rfl rfl rfl rfl (aEb rfl dn (by clear Y;go_simp))
       ·intro a J hL b Y
        have e1:a.eval (.tmp 11)=Value.func (Fn.func 71) #[] #[Value.pointer (some ⟨w.heap.size+1,0,none⟩)]:=hL.e 11 (by kernel_rfl);exact lG (Value.func (Fn.func 71) #[] #[Value.pointer (some ⟨w.heap.size+1,0,none⟩)]) rfl rfl rfl rfl (aLQ rfl e1)
       ·intro a J hL b Y
        have d8:a.eval (.tmp 64)=Value.slice wA ws.length wc:=Y 64 (by kernel_rfl);have dl:a.eval (.tmp 65)=Value.func (Fn.func 71) #[] #[Value.pointer (some ⟨w.heap.size+1,0,none⟩)]:=Y 65 (by kernel_rfl);exact qN rfl rfl rfl rfl rfl (fun args w=>by go_simp) (vs:=#[Value.slice wA ws.length wc,Value.func (Fn.func 71) #[] #[Value.pointer (some ⟨w.heap.size+1,0,none⟩)]]) (by simp only[List.map_toArray,aV,aU,d8,dl];first | done | rfl) rfl (dq.out J b)
       ·intro a J hL b Y
        have hf:F0 J (a.eval (.tmp 66)) (.bool wa):=Y 66 (by kernel_rfl);exact qN rfl rfl rfl rfl rfl (fun args w=>by go_simp) (vs:=#[a.eval (.tmp 66),.int .i64 7]) (by simp only[List.map_toArray,aV,aU];first | done | rfl) rfl (oH J _ wa 7 hf)
       ·intro a J hL b Y
        have e1:a.eval (.tmp 1)=Value.pointer (some ⟨w.heap.size,0,none⟩):=hL.e 1 (by kernel_rfl);exact lG (Value.pointer (some ⟨w.heap.size,1,none⟩)) rfl rfl rfl rfl (aAJ rfl e1 (by go_simp))
       ·intro a J hL b Y
        have dc:a.eval (.tmp 68)=Value.pointer (some ⟨w.heap.size,1,none⟩):=Y 68 (by kernel_rfl);have y:J.cell? ⟨w.heap.size,1,none⟩=some (Value.slice gA gs.length gc):=(HY.out J b).cell 1;exact lG (Value.slice gA gs.length gc) rfl rfl rfl rfl (aEb rfl dc (by clear Y;go_simp))
       ·intro a J hL b Y
        have e1:a.eval (.tmp 12)=Value.func (Fn.func 73) #[] #[Value.pointer (some ⟨w.heap.size+1+1,0,none⟩)]:=hL.e 12 (by kernel_rfl);exact lG (Value.func (Fn.func 73) #[] #[Value.pointer (some ⟨w.heap.size+1+1,0,none⟩)]) rfl rfl rfl rfl (aLQ rfl e1)
       ·intro a J hL b Y
        have dv:a.eval (.tmp 69)=Value.slice gA gs.length gc:=Y 69 (by kernel_rfl);have e4:a.eval (.tmp 70)=Value.func (Fn.func 73) #[] #[Value.pointer (some ⟨w.heap.size+1+1,0,none⟩)]:=Y 70 (by kernel_rfl);exact qN rfl rfl rfl rfl rfl (fun args w=>by go_simp) (vs:=#[Value.slice gA gs.length gc,Value.func (Fn.func 73) #[] #[Value.pointer (some ⟨w.heap.size+1+1,0,none⟩)]]) (by simp only[List.map_toArray,aV,aU,dv,e4];first | done | rfl) rfl (dz.out J b)
       ·intro a J hL b Y
        have hf:F0 J (a.eval (.tmp 71)) (.bool gl):=Y 71 (by kernel_rfl);exact qN rfl rfl rfl rfl rfl (fun args w=>by go_simp) (vs:=#[a.eval (.tmp 71),.int .i64 8]) (by simp only[List.map_toArray,aV,aU];first | done | rfl) rfl (oH J _ gl 8 hf)
       ·intro a J hL b Y
        have e1:a.eval (.tmp 1)=Value.pointer (some ⟨w.heap.size,0,none⟩):=hL.e 1 (by kernel_rfl);exact aHY (Value.func (Fn.func 81) #[] #[Value.pointer (some ⟨w.heap.size,0,none⟩)]) (.bool kn) rfl rfl rfl rfl (aLp rfl e1) (cm.out.below b)
       ·intro a J hL b Y
        have hf:F0 J (a.eval (.tmp 73)) (.bool kn):=Y 73 (by kernel_rfl);exact qN rfl rfl rfl rfl rfl (fun args w=>by go_simp) (vs:=#[a.eval (.tmp 73),.int .i64 4]) (by simp only[List.map_toArray,aV,aU];first | done | rfl) rfl (oH J _ kn 4 hf)
       ·intro a J hL b Y
        have e1:a.eval (.tmp 1)=Value.pointer (some ⟨w.heap.size,0,none⟩):=hL.e 1 (by kernel_rfl);exact lG (Value.pointer (some ⟨w.heap.size,3,none⟩)) rfl rfl rfl rfl (aAJ rfl e1 (by go_simp))
       ·intro a J hL b Y
        have e2:a.eval (.tmp 75)=Value.pointer (some ⟨w.heap.size,3,none⟩):=Y 75 (by kernel_rfl);have y:J.cell? ⟨w.heap.size,3,none⟩=some (Value.slice kA ks.length kc):=(HY.out J b).cell 3;exact lG (Value.slice kA ks.length kc) rfl rfl rfl rfl (aEb rfl e2 (by clear Y;go_simp))
       ·intro a J hL b Y
        have du:a.eval (.tmp 76)=Value.slice kA ks.length kc:=Y 76 (by kernel_rfl);exact qN rfl rfl rfl rfl rfl (fun args w=>by go_simp) (vs:=#[Value.slice kA ks.length kc]) (by simp only[List.map_toArray,aV,aU,du];first | done | rfl) rfl (e0.out J b)
       ·intro a J hL b Y
        have e1:a.eval (.tmp 1)=Value.pointer (some ⟨w.heap.size,0,none⟩):=hL.e 1 (by kernel_rfl);exact lG (Value.pointer (some ⟨w.heap.size,3,none⟩)) rfl rfl rfl rfl (aAJ rfl e1 (by go_simp))
       ·intro a J hL b Y
        have dd:a.eval (.tmp 78)=Value.pointer (some ⟨w.heap.size,3,none⟩):=Y 78 (by kernel_rfl);have y:J.cell? ⟨w.heap.size,3,none⟩=some (Value.slice kA ks.length kc):=(HY.out J b).cell 3;exact lG (Value.slice kA ks.length kc) rfl rfl rfl rfl (aEb rfl dd (by clear Y;go_simp))
       ·intro a J hL b Y
        have d9:a.eval (.tmp 79)=Value.slice kA ks.length kc:=Y 79 (by kernel_rfl);exact qN rfl rfl rfl rfl rfl (fun args w=>by go_simp) (vs:=#[Value.slice kA ks.length kc,Value.func (Fn.func 82) #[] #[]]) (by simp only[List.map_toArray,aV,aU,d9];first | done | rfl) rfl (e6.out J b)
       ·intro a J hL b Y
        have hf:F0 J (a.eval (.tmp 80)) (.bool kl):=Y 80 (by kernel_rfl);exact qN rfl rfl rfl rfl rfl (fun args w=>by go_simp) (vs:=#[a.eval (.tmp 80),.int .i64 11]) (by simp only[List.map_toArray,aV,aU];first | done | rfl) rfl (oH J _ kl 11 hf)
       ·intro a J hL b Y
        have bw:F0 J (a.eval (.tmp 50)) (.int .i64 (iL nB 11)):=Y 50 (by kernel_rfl);obtain⟨a8,p50,cq,_⟩:=id bw;rw[cq]at bw;have bj:F0 J (a.eval (.tmp 51)) (.int .i64 ce):=Y 51 (by kernel_rfl);obtain⟨ae,p51,cg,_⟩:=id bj;rw[cg]at bj;have bn:F0 J (a.eval (.tmp 54)) (.int .i64 (iL rg 13)):=Y 54 (by kernel_rfl);obtain⟨a4,p54,cp,_⟩:=id bn;rw[cp]at bn;have bv:F0 J (a.eval (.tmp 59)) (.int .i64 (iL ga 7)):=Y 59 (by kernel_rfl);obtain⟨ay,p59,c9,_⟩:=id bv;rw[c9]at bv;have bk:F0 J (a.eval (.tmp 62)) (.int .i64 (iL rw 13)):=Y 62 (by kernel_rfl);obtain⟨aw,p62,cf,_⟩:=id bk;rw[cf]at bk;have bh:F0 J (a.eval (.tmp 67)) (.int .i64 (iL wa 7)):=Y 67 (by kernel_rfl);obtain⟨ah,p67,ck,_⟩:=id bh;rw[ck]at bh;have bp:F0 J (a.eval (.tmp 72)) (.int .i64 (iL gl 8)):=Y 72 (by kernel_rfl);obtain⟨az,p72,ca,_⟩:=id bp;rw[ca]at bp;have bl:F0 J (a.eval (.tmp 74)) (.int .i64 (iL kn 4)):=Y 74 (by kernel_rfl)
        obtain⟨a6,p74,c6,_⟩:=id bl;rw[c6]at bl;have bm:F0 J (a.eval (.tmp 77)) (.int .i64 (iL rk 13)):=Y 77 (by kernel_rfl);obtain⟨ad,ao,cd,_⟩:=id bm;rw[cd]at bm;have bi:F0 J (a.eval (.tmp 81)) (.int .i64 (iL kl 11)):=Y 81 (by kernel_rfl);obtain⟨aj,a5,c7,_⟩:=id bi;rw[c7]at bi;have ax:=ax.out;have HB:=bV.new J 114 #[Value.func (.func a8) #[] p50,Value.func (.func ae) #[] p51,Value.func (.func a4) #[] p54,Value.func (.func ay) #[] p59,Value.func (.func aw) #[] p62,Value.func (.func ah) #[] p67,Value.func (.func az) #[] p72,Value.func (.func a6) #[] p74,Value.func (.func ad) #[] ao,Value.func (.func aj) #[] a5];have hb:Below J.heap.size J (J.alloc (.cells #[Value.func (.func a8) #[] p50,Value.func (.func ae) #[] p51,Value.func (.func a4) #[] p54,Value.func (.func ay) #[] p59,Value.func (.func aw) #[] p62,Value.func (.func ah) #[] p67,Value.func (.func az) #[] p72,Value.func (.func a6) #[] p74,Value.func (.func ad) #[] ao,Value.func (.func aj) #[] a5] 114)):=(Below.refl _ _).alloc (aY _) _
        have hr:(Instr.buildSlice 172 10 #[(0,Value.func (.func a8) #[] p50),(1,Value.func (.func ae) #[] p51),(2,Value.func (.func a4) #[] p54),(3,Value.func (.func ay) #[] p59),(4,Value.func (.func aw) #[] p62),(5,Value.func (.func ah) #[] p67),(6,Value.func (.func az) #[] p72),(7,Value.func (.func a6) #[] p74),(8,Value.func (.func ad) #[] ao),(9,Value.func (.func aj) #[] a5)]).run Tryz.prog J=.ok (.slice (some ⟨J.heap.size,0,none⟩) 10 10) (J.alloc (.cells #[Value.func (.func a8) #[] p50,Value.func (.func ae) #[] p51,Value.func (.func a4) #[] p54,Value.func (.func ay) #[] p59,Value.func (.func aw) #[] p62,Value.func (.func ah) #[] p67,Value.func (.func az) #[] p72,Value.func (.func a6) #[] p74,Value.func (.func ad) #[] ao,Value.func (.func aj) #[] a5] 114)):=by
         clear Y HB hb;go_simp
        refine aAs (.slice (some ⟨J.heap.size,0,none⟩) 10 10) rfl rfl rfl (aM6 rfl (by simp only[List.map_toArray,aV,aU,cq,cg,cp,c9,cf,ck,ca,c6,cd,c7]) hr) ⟨_,rfl,?_,hb⟩;clear Y hr;refine⟨J.heap.size,10,[Value.func (.func a8) #[] p50,Value.func (.func ae) #[] p51,Value.func (.func a4) #[] p54,Value.func (.func ay) #[] p59,Value.func (.func aw) #[] p62,Value.func (.func ah) #[] p67,Value.func (.func az) #[] p72,Value.func (.func a6) #[] p74,Value.func (.func ad) #[] ao,Value.func (.func aj) #[] a5],rfl,by rw[ax];rfl,by simp,fun k hk=>?_,?_⟩
        ·rw[Nat.zero_add]
         exact(HB.cell k).trans (by simp only[aL];exact aN hk)
        ·subst ax
         intro k hk he;have e7:k<10:=hk;have dh:k=0∨k=1∨k=2∨k=3∨k=4∨k=5∨k=6∨k=7∨k=8∨k=9:=by omega
         rcases dh with rfl | rfl | rfl | rfl | rfl | rfl | rfl | rfl | rfl | rfl
         ·exact F0.below bw hb
         ·exact F0.below bj hb
         ·exact F0.below bn hb
         ·exact F0.below bv hb
         ·exact F0.below bk hb
         ·exact F0.below bh hb
         ·exact F0.below bp hb
         ·exact F0.below bl hb
         ·exact F0.below bm hb
         ·exact F0.below bi hb
       ·intro a J hL b Y
        have df:sL es (a.eval (.tmp 82)) J:=Y 82 (by kernel_rfl);obtain⟨B,c,vs,e,hn,hl,hc,hf⟩:=df;exact aMA rfl rfl rfl rfl rfl (fun args w=>by go_simp) (vs:=#[.slice (some ⟨B,0,none⟩) vs.length c]) (by simp only[List.map_toArray,aV,aU,e];first | done | rfl) rfl (aF3 J B 0 c vs es hn hc (fun k hk=>hf k hk (by omega)) hl)
       ·intro a J hL b Y
        have dy:a.eval (.tmp 83)=Value.int .i64 (fH es):=Y 83 (by kernel_rfl);exact lG (.int .i64 (fH es)) rfl rfl rfl rfl (aMY rfl dy)
       ·intro a J hL b Y
        have h2:a.eval (.tmp 2)=.int .i64 (fH es):=Y 2 (by kernel_rfl);refine hK _ _ ?_;refine wp_ret ?_;refine bodyPost_ret (results_tmp rfl _ _ _) hL.d ?_;exact⟨by rw[HV.out];exact congrArg Ending.returned h2,c8.out.trans (b.mono c8.out.size)⟩
end sf
namespace sf
open RowKit mem sy
open re (tx gH MU SU)
def aB3(s:MS)(x:ByteArray):Bool:=(s.os.any fun o=>o.o.name.toList==x.toList)||(s.fs.any fun f=>f.name.toList==x.toList)
theorem aHV(u:MU)(x:ByteArray):aB3 u.s x=inD u.su x:=by
 unfold aB3 inD aDU MU.su MS.sys;rw[Bool.eq_iff_iff];simp only[Bool.or_eq_true,List.any_eq_true,beq_iff_eq,bJ,List.mem_append,List.mem_map,Lib.toList_data];constructor
 ·rintro(⟨o,Y,h⟩ | ⟨f,hf,h⟩)
  ·exact Or.inl ⟨o.o,⟨o,Y,rfl⟩,h⟩
  ·exact Or.inr ⟨f,hf,h⟩
 ·rintro(⟨o,⟨p,hp,rfl⟩,J⟩ | ⟨f,hf,J⟩)
  ·exact Or.inl ⟨p,hp,J⟩
  ·exact Or.inr ⟨f,hf,J⟩
theorem aCv{α:Type}(f:α→Bool)(l:List α){k:Nat}(J:k<l.length):(l.take (k+1)).any f=((l.take k).any f||f l[k]):=by
 rw[bC J,List.any_append];simp
theorem aGL(w:World)(s:MS)(hs:zD w s)(x:ByteArray):Calls Tryz.prog 59 #[s.val,.string x] w (dA (aB3 s x) w):=by
 have Y:=hs.ol;have a4:=hs.fl;obtain⟨oA,oc,os,fA,fc,fs,cA,cc,cs⟩:=s;dsimp only at Y a4;unfold MS.val aB3;dsimp only;obtain⟨V,hV⟩:∃V,Hid (V=((os.any fun o=>o.o.name.toList==x.toList)||(fs.any fun f=>f.name.toList==x.toList))):=⟨_,hid rfl⟩;rw[←hV.out];obtain⟨no,a1⟩:∃no,Hid (no=os.length):=⟨_,hid rfl⟩;obtain⟨nf,a0⟩:∃nf,Hid (nf=fs.length):=⟨_,hid rfl⟩;rw[←a1.out]at Y ⊢;rw[←a0.out]at a4 ⊢;generalize cs.length=nc at *;unfold maxLen at Y a4;obtain⟨W,hW⟩:∃W,Hid (W=w.alloc (.cells #[.slice oA no oc,.slice fA nf fc,.slice cA nc cc] 27)):=⟨_,hid rfl⟩;have hB:=bV.new w 27 #[.slice oA no oc,.slice fA nf fc,.slice cA nc cc];have hb:Below w.heap.size w W:=by rw[hW.out];exact(Below.refl _ _).alloc (aY _) _
 rw[←hW.out]at hB;have y0:W.cell? ⟨w.heap.size,0,none⟩=some (.slice oA no oc):=hB.cell 0;have y1:W.cell? ⟨w.heap.size,1,none⟩=some (.slice fA nf fc):=hB.cell 1;have HO:=hid (hs.o.below hb);have HF:=hid (hs.f.below hb);have HB:=hid hb;clear hs hb hB;unfold dA;go_enter Tryz.func59,Tryz.ntmps59;go_upto_region 2 with fail;rw[←hW.out];clear hW;go_loopw [5] (fun i wr=>∃k:Nat,k≤no∧i=.int .i64 k∧wr=W∧Hid (((os.take k).any fun o=>o.o.name.toList==x.toList)=false)) (fun i _=>no-(intOf i).toNat)
 case atStart=>exact⟨0,by omega,rfl,rfl,hid rfl⟩
 case round=>
  obtain⟨k,hk,rfl,rfl,hG⟩:=hrel;by_cases a6:k<no
  ·have e1:decide ((k:Int)<(no:Int))=true:=aC (by omega)
   have a2:k<os.length:=by rw[←a1.out];exact a6
   obtain⟨g,off,rfl,hg,c0,c1,c2⟩:=kS HO.out a2;have J:=hid (aCv (fun o:MO=>o.o.name.toList==x.toList) os a2);rw[hG.out,Bool.false_or]at J
   have hY:Hid ((os[k].o.name.toList==x.toList)=true→V=true):=hid (fun h=>by
    rw[hV.out,Bool.or_eq_true]
    exact Or.inl (List.any_eq_true.2 ⟨os[k],aR a2,h⟩))
   generalize os[k].o.name=y at *;clear c1 c2 hg;rcases hq:(y.toList==x.toList)with _ | _
   ·rw[hq]at J
    clear hY;go_wp2_with fail;go_roundw
    case rel=>exact⟨k+1,by omega,by go_num,(by first | trivial | rfl),J⟩
    case measure=>simp[intOf];omega
   ·have hv:=hid (hY.out hq)
    go_wp2_with fail;go_ret;exact⟨by rw[hv.out];rfl,HB.out⟩
  ·obtain rfl:k=no:=by omega
   have e1:decide ((k:Int)<(k:Int))=false:=aB (by omega)
   have hO:Hid ((os.any fun o=>o.o.name.toList==x.toList)=false):=hid (by
    have:=hG.out
    rwa[bE (by rw[a1.out];exact aY _)]at this)
   clear hG;go_wp2_with fail
   rename World=>W
   go_loopw [6] (fun i wr=>∃j:Nat,j≤nf∧i=.int .i64 j∧wr=W∧Hid (((fs.take j).any fun f=>f.name.toList==x.toList)=false)) (fun i _=>nf-(intOf i).toNat)
   case atStart=>exact⟨0,by omega,rfl,rfl,hid rfl⟩
   case round=>
    obtain⟨j,hj,rfl,rfl,hG⟩:=hrel;by_cases a5:j<nf
    ·have e1:decide ((j:Int)<(nf:Int))=true:=aC (by omega)
     have a3:j<fs.length:=by rw[←a0.out];exact a5
     obtain⟨g,off,rfl,hg,c0,c1,c2⟩:=oC HF.out a3;have J:=hid (aCv (fun f:SF=>f.name.toList==x.toList) fs a3);rw[hG.out,Bool.false_or]at J
     have hY:Hid ((fs[j].name.toList==x.toList)=true→V=true):=hid (fun h=>by
      rw[hV.out,Bool.or_eq_true]
      exact Or.inr (List.any_eq_true.2 ⟨fs[j],aR a3,h⟩))
     generalize fs[j].name=y at *;clear c1 c2 hg;rcases hq:(y.toList==x.toList)with _ | _
     ·rw[hq]at J
      clear hY;go_wp2_with fail;go_roundw
      case rel=>exact⟨j+1,by omega,by go_num,(by first | trivial | rfl),J⟩
      case measure=>simp[intOf];omega
     ·have hv:=hid (hY.out hq)
      go_wp2_with fail;go_ret;exact⟨by rw[hv.out];rfl,HB.out⟩
    ·obtain rfl:j=nf:=by omega
     have e1:decide ((j:Int)<(j:Int))=false:=aB (by omega)
     have hF:Hid ((fs.any fun f=>f.name.toList==x.toList)=false):=hid (by
      have:=hG.out
      rwa[bE (by rw[a0.out];exact aY _)]at this)
     have hv:Hid (V=false):=hid (by rw[hV.out,hO.out,hF.out];rfl);go_wp2_with fail;go_ret;exact⟨by rw[hv.out];rfl,HB.out⟩
end sf
namespace sf
open RowKit Go.Sort mem sy dg
open re (tx gH MU SU)
theorem kU{b:Bool}{c:Int}{r:List Int}(hc:c≠0):fH (iL b c :: r)=if b then fH r else c:=by
 unfold iL;cases b
 ·show(if(c=0) then _ else c)=c
  rw[if_neg hc]
 ·rfl
theorem qP{α:Type}(f:α→Bool)(l:List α){k:Nat}(J:k<l.length):(l.take (k+1)).all f=((l.take k).all f&&f l[k]):=by
 rw[bC J,List.all_append];simp
theorem zM{α:Type}{f:α→Bool}{l:List α}{k:Nat}(J:k<l.length)(h:f l[k] = false):l.all f=false:=by
 rcases hr:l.all f with _ | _
 ·rfl
 ·rw[List.all_eq_true.1 hr _ (aR J)]at h
  cases h
theorem aDj(w:World)(u:MU)(hu:aGU w u)(az:∀x∈u.s.cs,x.c.args.length≤8796093022208):Calls Tryz.prog 17 #[u.val] w (dG (fH (vR u.su)) w):=by
 obtain⟨W1,ak⟩:∃W1,Hid (W1=w.alloc (.cells u.row 29)):=⟨_,hid rfl⟩;have bW:Below w.heap.size w W1:=by rw[ak.out];exact(Below.refl _ _).alloc (aY _) _
 have B0:bV W1 w.heap.size 29 u.row:=by rw[ak.out];exact bV.new w _ _
 have HB:=hid (fun Y (b:Below W1.heap.size W1 Y)=>B0.kept (Fr.of_below b []) (by simp));have HU:=hid (fun Y (b:Below W1.heap.size W1 Y)=>(hu.below bW).below b);have HP:=hid (fun(Y:World) (b:Below W1.heap.size W1 Y)=>bW.trans (b.mono bW.size));have ar:=hid (fun Y=>dg.aBx u.name Y hu.n);have b9:=hid (fun Y b=>aDR u.s Y (HU.out Y b).m.sr aKD az);have ax:Hid (∀Y,Below W1.heap.size W1 Y→∀x,Calls Tryz.prog 59 #[u.s.val,.string x] Y (dA (inD u.su x) Y)):=hid (fun Y b x=>by rw[←aHV];exact aGL Y u.s (HU.out Y b).m.sr x)
 have ap:Hid (∀Y,Below W1.heap.size W1 Y→∀A c (l:List ByteArray),Rd Y A (l.map Value.string)→l.length≤maxLen→Calls Tryz.prog 58 #[.slice A l.length c] Y (dA (fV (l.map tx)) Y)):=hid (fun Y b A c l hr hl=>by
  have k:=aF9 Y A c (l.map tx) (by rw[uU];exact hr) (by rw[aH];exact hl);rw[aH]at k
  exact k)
 have ba:=hu.wl;have bd:=hu.gl;have bb:=hu.kl;obtain⟨V,hV⟩:∃V,Hid (V=fH (vR u.su)):=⟨_,hid rfl⟩;rw[←hV.out];have b7:V=fH [iL (bZ u.name) 11,iJ u.s.sys,iL (fV (u.gives.map tx)) 13,iL (u.gives.all (inD u.su)) 7,iL (fV (u.wants.map tx)) 13,iL (u.wants.all (inD u.su)) 7,iL (u.gives.all (fun s=>!inW u.su s)) 8,iL (decide (u.keeps.length≤6000)) 4,iL (fV (u.keeps.map tx)) 13,iL (u.keeps.all dO) 11]:=hV.out;have HV:=hid b7;have HI:Hid (∀s,inW u.su s=decide (tx s∈u.wants.map tx)):=hid (fun s=>rfl);obtain⟨D,hD⟩:∃D,Hid (D=inD u.su):=⟨_,hid rfl⟩;obtain⟨I,hI⟩:∃I,Hid (I=inW u.su):=⟨_,hid rfl⟩;rw[←hD.out]at ax HV;rw[←hI.out]at HV HI;clear hu bW B0 az hV b7 hD hI;obtain⟨nm,gA,gc,gs,wA,wc,ws,kA,kc,ks,⟨oA,oc,os,fA,fc,fs,cA,cc,cs⟩⟩:=u;dsimp only at *;have y0:=fun Y b=>(HB.out Y b).cell 0
 have y1:=fun Y b=>(HB.out Y b).cell 1
 have y2:=fun Y b=>(HB.out Y b).cell 2
 have y3:=fun Y b=>(HB.out Y b).cell 3
 have y4:=fun Y b=>(HB.out Y b).cell 4
 have y5:=fun Y b=>(HB.out Y b).cell 5
 have y6:=fun Y b=>(HB.out Y b).cell 6
 unfold MU.val MU.row at *;dsimp only at *;simp only[aL,aJ,aK]at y0 y1 y2 y3 y4 y5 y6;have Y0:=hid y0;have Y1:=hid y1;have Y2:=hid y2;have Y3:=hid y3;have Y4:=hid y4;have Y5:=hid y5;have Y6:=hid y6;clear y0 y1 y2 y3 y4 y5 y6;unfold MS.val at *;dsimp only at *;have z0:=Y0.out W1 (Below.refl _ _);have z4:=Y4.out W1 (Below.refl _ _);have z5:=Y5.out W1 (Below.refl _ _);have z6:=Y6.out W1 (Below.refl _ _);unfold dG at *;go_enter Tryz.func17,Tryz.ntmps17;go_upto_region 1 with fail;rw[←ak.out];clear ak;have am:=hid (b9.out W1 (Below.refl _ _));have bg:=hid (HP.out W1 (Below.refl _ _));generalize bZ nm=nB at *;rcases nB with _ | _
 ·have hv:Hid (V=11):=hid HV.out
  go_wp2_with fail;refine(ar.out _).mono ?_;rintro e Y ⟨rfl,rfl⟩;go_wp2_with fail;go_ret;exact⟨by rw[hv.out];rfl,bg.out⟩
 rw[kU (by decide),if_pos rfl]at HV;go_wp2_with fail;refine(ar.out _).mono ?_;rintro e Y ⟨rfl,rfl⟩;clear ar;go_wp2_with fail;generalize iJ _=ce at *;refine am.out.mono ?_;rintro e Y ⟨rfl,b2⟩;have au:=hid b2;clear b2 am b9 z0 z4 z5 z6;by_cases aw:ce=0;rotate_left
 ·have q0:(ce != 0)=true:=by simpa using aw
  have hv:Hid (V=ce):=hid (by rw[HV.out];exact if_neg aw);have bf:=hid (HP.out Y au.out);go_wp2_with fail;go_ret;exact⟨by rw[hv.out];rfl,bf.out⟩
 subst aw;have ah:=HV.out;rw[show ∀r,fH ((0:Int) :: r)=fH r from fun r=>if_pos rfl]at ah;obtain⟨ES,aa⟩:∃ES,Hid (ES=[iL (fV (gs.map tx)) 13,iL (gs.all D) 7,iL (fV (ws.map tx)) 13,iL (ws.all D) 7,iL (gs.all (fun s=>!I s)) 8,iL (decide (ks.length≤6000)) 4,iL (fV (ks.map tx)) 13,iL (ks.all dO) 11]):=⟨_,hid rfl⟩;have b6:Hid (V=fH (ES.drop (2 * 0))):=hid (by rw[ah,aa.out];rfl);clear ah HV;go_wp2_with fail;go_loopw [4] (fun i wr=>∃k:Nat,k≤2∧i=.int .i64 k∧Hid (V=fH (ES.drop (2 * k)))∧Hid (Below W1.heap.size W1 wr)) (fun i _=>2-(intOf i).toNat)
 case atStart=>exact⟨0,by omega,rfl,b6,au⟩
 case round=>
  obtain⟨k,hk,rfl,hF,hb⟩:=hrel;clear b6 au
  rename World=>wr
  have z1:=Y1.out wr hb.out;have z2:=Y2.out wr hb.out;have a1:Hid (Below W1.heap.size W1 (wr.alloc (.cells #[.slice gA gs.length gc,.slice wA ws.length wc] 22))):=hid (hb.out.alloc hb.out.size _);rcases(show k=0∨k=1∨k=2 by omega)with rfl | rfl | rfl
  ·have e1:decide (((0:Nat):Int)<2)=true:=by decide
   have a3:=hF.out;rw[aa.out]at a3;rw[show ∀(x0 x1 x2 x3 x4 x5 x6 x7:Int),List.drop (2 * 0) [x0,x1,x2,x3,x4,x5,x6,x7] = [x0,x1,x2,x3,x4,x5,x6,x7] from fun _ _ _ _ _ _ _ _=>rfl,kU (by decide)]at a3
   have hN:Hid (V=fH (ES.drop (2 * (0+1)))∨¬(fV (gs.map tx)=true∧gs.all D=true)):=hid (by
    by_cases h1:fV (gs.map tx)=true
    ·by_cases h2:gs.all D=true
     ·refine Or.inl ?_
      rw[a3,if_pos h1,kU (by decide),if_pos h2,aa.out];rfl
     ·exact Or.inr (fun h=>h2 h.2)
    ·exact Or.inr (fun h=>h1 h.1))
   have a7:Hid (fV (gs.map tx)=false→V=13):=hid (fun h=>by rw[a3,h];rfl);have a5:Hid (fV (gs.map tx)=true→gs.all D=false→V=7):=hid (fun h1 h2=>by rw[a3,if_pos h1,kU (by decide),h2];rfl);clear a3 hF;have K:=hid (ap.out _ a1.out gA gc gs (HU.out _ a1.out).m.gr (aZ bd (by decide)));rcases hr:fV (gs.map tx)with _ | _
   ·have hv:=hid (a7.out hr)
    rw[hr]at K;go_wp2_with fail;refine K.out.mono ?_;rintro e w3 ⟨rfl,b3⟩;have ag:=hid (HP.out w3 (a1.out.trans (b3.mono a1.out.size)));go_wp2_with fail;go_ret;exact⟨by rw[hv.out];rfl,ag.out⟩
   ·rw[hr]at K
    have ae:=hid (a5.out hr);go_wp2_with fail;refine K.out.mono ?_;rintro e w3 ⟨rfl,b3⟩;have a9:=hid (a1.out.trans (b3.mono a1.out.size));clear b3 K a7 a5;go_wp2_with fail;have a4:Hid ((gs.take 0).all D=true):=hid rfl;go_loopw [6] (fun i wx=>∃j:Nat,j≤gs.length∧i=.int .i64 j∧Hid ((gs.take j).all D=true)∧Hid (Below W1.heap.size W1 wx)) (fun i _=>gs.length-(intOf i).toNat)
    case atStart=>exact⟨0,by omega,rfl,a4,a9⟩
    case round=>
     obtain⟨j,hj,rfl,hG,hx⟩:=hrel;clear a9 a1 hb z1 z2 a4
     rename World=>wx
     by_cases a2:j<gs.length
     ·have e2:decide ((j:Int)<(gs.length:Int))=true:=aC (by omega)
      obtain⟨g,off,rfl,a6,hc⟩:=(HU.out wx hx.out).m.gr (by rw[aH];exact Nat.lt_of_le_of_lt (bA _) a2);have c0:=hc j (by rw[aH];exact a2);rw[List.getElem_map]at c0;have a0:=hid (qP D gs a2);rw[hG.out,Bool.true_and]at a0;have ad:Hid (D gs[j] = false→V=7):=hid (fun h=>ae.out (zM a2 h));have J:Hid (Below W1.heap.size W1 wx.drew):=hid hx.out.drew;have z4:=Y4.out wx hx.out;have z5:=Y5.out wx hx.out;have z6:=Y6.out wx hx.out;have d4:=Y4.out wx.drew J.out;have d5:=Y5.out wx.drew J.out;have d6:=Y6.out wx.drew J.out;have KT:=hid (ax.out wx.drew J.out gs[j]);unfold dA at KT;clear a6 hc hG;generalize gs[j] = x at *;have b8:wx.drew.cell? ⟨g,off+j,none⟩=some (.string x):=c0;rcases hq:D x with _ | _
      ·have hv:=hid (ad.out hq)
       rw[hq]at KT;go_wp2_with fail
       go_region_with (go_at_call 59;refine KT.out.mono ?_;rintro e w4 ⟨rfl,b4⟩;have a8:=hid (J.out.trans (b4.mono J.out.size));clear b4)
       all_goals (go_wp2_with fail;go_ret;exact⟨by rw[hv.out];rfl,HP.out _ a8.out⟩)
      ·rw[hq]at KT a0
       go_wp2_with fail
       go_region_with (go_at_call 59;refine KT.out.mono ?_;rintro e w4 ⟨rfl,b4⟩;have a8:=hid (J.out.trans (b4.mono J.out.size));clear b4)
       all_goals (go_wp2_with fail;go_roundw)
       all_goals first | exact⟨j+1,by omega,by go_num,a0,a8⟩ | (simp[intOf];omega)
     ·obtain rfl:j=gs.length:=by omega
      have e2:decide ((gs.length:Int)<(gs.length:Int))=false:=aB (by omega)
      have av:Hid (V=fH (ES.drop (2 * (0+1)))):=hid (by
       rcases hN.out with h | h
       ·exact h
       ·exfalso
        refine h ⟨hr,?_⟩;have:=hG.out
        rwa[bF]at this)
      go_wp2_with fail;go_roundw
      case rel=>exact⟨0+1,by omega,by go_num,av,hx⟩
      case measure=>simp[intOf]
  ·have e1:decide (((1:Nat):Int)<2)=true:=by decide
   have a3:=hF.out;rw[aa.out]at a3;rw[show ∀(x0 x1 x2 x3 x4 x5 x6 x7:Int),List.drop (2 * 1) [x0,x1,x2,x3,x4,x5,x6,x7] = [x2,x3,x4,x5,x6,x7] from fun _ _ _ _ _ _ _ _=>rfl,kU (by decide)]at a3
   have hN:Hid (V=fH (ES.drop (2 * (1+1)))∨¬(fV (ws.map tx)=true∧ws.all D=true)):=hid (by
    by_cases h1:fV (ws.map tx)=true
    ·by_cases h2:ws.all D=true
     ·refine Or.inl ?_
      rw[a3,if_pos h1,kU (by decide),if_pos h2,aa.out];rfl
     ·exact Or.inr (fun h=>h2 h.2)
    ·exact Or.inr (fun h=>h1 h.1))
   have a7:Hid (fV (ws.map tx)=false→V=13):=hid (fun h=>by rw[a3,h];rfl);have a5:Hid (fV (ws.map tx)=true→ws.all D=false→V=7):=hid (fun h1 h2=>by rw[a3,if_pos h1,kU (by decide),h2];rfl);clear a3 hF;have K:=hid (ap.out _ a1.out wA wc ws (HU.out _ a1.out).m.wr (aZ ba (by decide)));rcases hr:fV (ws.map tx)with _ | _
   ·have hv:=hid (a7.out hr)
    rw[hr]at K;go_wp2_with fail;refine K.out.mono ?_;rintro e w3 ⟨rfl,b3⟩;have ag:=hid (HP.out w3 (a1.out.trans (b3.mono a1.out.size)));go_wp2_with fail;go_ret;exact⟨by rw[hv.out];rfl,ag.out⟩
   ·rw[hr]at K
    have ae:=hid (a5.out hr);go_wp2_with fail;refine K.out.mono ?_;rintro e w3 ⟨rfl,b3⟩;have a9:=hid (a1.out.trans (b3.mono a1.out.size));clear b3 K a7 a5;go_wp2_with fail;have a4:Hid ((ws.take 0).all D=true):=hid rfl;go_loopw [6] (fun i wx=>∃j:Nat,j≤ws.length∧i=.int .i64 j∧Hid ((ws.take j).all D=true)∧Hid (Below W1.heap.size W1 wx)) (fun i _=>ws.length-(intOf i).toNat)
    case atStart=>exact⟨0,by omega,rfl,a4,a9⟩
    case round=>
     obtain⟨j,hj,rfl,hG,hx⟩:=hrel;clear a9 a1 hb z1 z2 a4
     rename World=>wx
     by_cases a2:j<ws.length
     ·have e2:decide ((j:Int)<(ws.length:Int))=true:=aC (by omega)
      obtain⟨g,off,rfl,a6,hc⟩:=(HU.out wx hx.out).m.wr (by rw[aH];exact Nat.lt_of_le_of_lt (bA _) a2);have c0:=hc j (by rw[aH];exact a2);rw[List.getElem_map]at c0;have a0:=hid (qP D ws a2);rw[hG.out,Bool.true_and]at a0;have ad:Hid (D ws[j] = false→V=7):=hid (fun h=>ae.out (zM a2 h));have J:Hid (Below W1.heap.size W1 wx.drew):=hid hx.out.drew;have z4:=Y4.out wx hx.out;have z5:=Y5.out wx hx.out;have z6:=Y6.out wx hx.out;have d4:=Y4.out wx.drew J.out;have d5:=Y5.out wx.drew J.out;have d6:=Y6.out wx.drew J.out;have KT:=hid (ax.out wx.drew J.out ws[j]);unfold dA at KT;clear a6 hc hG;generalize ws[j] = x at *;have b8:wx.drew.cell? ⟨g,off+j,none⟩=some (.string x):=c0;rcases hq:D x with _ | _
      ·have hv:=hid (ad.out hq)
       rw[hq]at KT;go_wp2_with fail
       go_region_with (go_at_call 59;refine KT.out.mono ?_;rintro e w4 ⟨rfl,b4⟩;have a8:=hid (J.out.trans (b4.mono J.out.size));clear b4)
       all_goals (go_wp2_with fail;go_ret;exact⟨by rw[hv.out];rfl,HP.out _ a8.out⟩)
      ·rw[hq]at KT a0
       go_wp2_with fail
       go_region_with (go_at_call 59;refine KT.out.mono ?_;rintro e w4 ⟨rfl,b4⟩;have a8:=hid (J.out.trans (b4.mono J.out.size));clear b4)
       all_goals (go_wp2_with fail;go_roundw)
       all_goals first | exact⟨j+1,by omega,by go_num,a0,a8⟩ | (simp[intOf];omega)
     ·obtain rfl:j=ws.length:=by omega
      have e2:decide ((ws.length:Int)<(ws.length:Int))=false:=aB (by omega)
      have av:Hid (V=fH (ES.drop (2 * (1+1)))):=hid (by
       rcases hN.out with h | h
       ·exact h
       ·exfalso
        refine h ⟨hr,?_⟩;have:=hG.out
        rwa[bF]at this)
      go_wp2_with fail;go_roundw
      case rel=>exact⟨1+1,by omega,by go_num,av,hx⟩
      case measure=>simp[intOf]
  ·have e1:decide (((2:Nat):Int)<2)=false:=by decide
   have ay:=hF.out;rw[aa.out,show ∀(x0 x1 x2 x3 x4 x5 x6 x7:Int),List.drop (2 * 2) [x0,x1,x2,x3,x4,x5,x6,x7] = [x4,x5,x6,x7] from fun _ _ _ _ _ _ _ _=>rfl,kU (by decide)]at ay;have ao:=hid ay;clear ay hF a1 aa;have a4:Hid ((gs.take 0).all (fun s=>!I s)=true):=hid rfl;go_wp2_with fail;go_loopw [7] (fun i wx=>∃j:Nat,j≤gs.length∧i=.int .i64 j∧Hid ((gs.take j).all (fun s=>!I s)=true)∧Hid (Below W1.heap.size W1 wx)) (fun i _=>gs.length-(intOf i).toNat)
   case atStart=>exact⟨0,by omega,rfl,a4,hb⟩
   case round=>
    obtain⟨j,hj,rfl,hG,hx⟩:=hrel;clear a4 hb z1 z2
    rename World=>wx
    have z1:=Y1.out wx hx.out;by_cases a2:j<gs.length
    ·have e2:decide ((j:Int)<(gs.length:Int))=true:=aC (by omega)
     obtain⟨g,off,rfl,a6,hc⟩:=(HU.out wx hx.out).m.gr (by rw[aH];exact Nat.lt_of_le_of_lt (bA _) a2);have c0:=hc j (by rw[aH];exact a2);rw[List.getElem_map]at c0;have a0:=hid (qP (fun s=>!I s) gs a2);rw[hG.out,Bool.true_and]at a0;have ad:Hid (I gs[j] = true→V=8):=hid (fun h=>by rw[ao.out,zM a2 (show(!I gs[j])=false by rw[h];rfl)];rfl);have J:Hid (Below W1.heap.size W1 wx.drew):=hid hx.out.drew;have z2:=Y2.out wx hx.out;have d1:=Y1.out wx.drew J.out;have d2:=Y2.out wx.drew J.out
     have KN:Hid (Calls Tryz.prog 60 #[.slice wA ws.length wc,.string gs[j]] wx.drew (fun e w'=>e=.returned (.int .i64 (ins.tV (ws.map tx) (tx gs[j])))∧wx.drew=w')):=hid (by
      have k:=ins.wH wx.drew wA wc (ws.map tx) (tx gs[j]) (by rw[uU];exact(HU.out wx.drew J.out).m.wr) (by rw[aH];omega);rw[aH]at k
      exact k)
     have b1:Hid ((I gs[j] = true→0≤ins.tV (ws.map tx) (tx gs[j]))∧(I gs[j] = false→ins.tV (ws.map tx) (tx gs[j])=-1)):=hid (by
      rw[HI.out gs[j]];unfold ins.tV;refine⟨fun h=>?_,fun h=>?_⟩
      ·rw[if_pos (of_decide_eq_true h)];omega
      ·rw[if_neg (of_decide_eq_false h)])
     clear a6 hc hG;generalize ins.tV (ws.map tx) (tx gs[j])=nv at *;generalize gs[j] = x at *;have b8:wx.drew.cell? ⟨g,off+j,none⟩=some (.string x):=c0;rcases hq:I x with _ | _
     ·obtain rfl:=b1.out.2 hq
      try dsimp only at a0
      rw[hq]at a0;go_wp2_with fail
      go_region_with (go_at_call 60;refine KN.out.mono ?_;rintro e w4 ⟨rfl,rfl⟩)
      all_goals (go_wp2_with fail;go_roundw)
      all_goals first | exact⟨j+1,by omega,by go_num,a0,J⟩ | ((repeat apply Exists.intro);exact⟨⟨j+1,by omega,by go_num,a0,J⟩,rfl⟩) | (simp[intOf];omega)
     ·have hv:=hid (ad.out hq)
      have bc:=b1.out.1 hq;have q0:decide (0≤nv)=true:=aC bc;go_wp2_with fail
      go_region_with (go_at_call 60;refine KN.out.mono ?_;rintro e w4 ⟨rfl,rfl⟩)
      all_goals (go_wp2_with fail;go_ret;exact⟨by rw[hv.out];rfl,HP.out _ J.out⟩)
    ·obtain rfl:j=gs.length:=by omega
     have e2:decide ((gs.length:Int)<(gs.length:Int))=false:=aB (by omega);have af:=ao.out;rw[if_pos (by have:=hG.out;rwa[bF]at this),kU (by decide)]at af;have z3:=Y3.out wx hx.out;clear ao hG;by_cases b5:ks.length≤6000;rotate_left
     ·have e6:decide ((6000:Int)<(ks.length:Int))=true:=aC (by omega)
      rw[aB b5]at af;have hv:Hid (V=4):=hid af;go_wp2_with fail;go_ret;exact⟨by rw[hv.out];rfl,HP.out _ hx.out⟩
     have e6:decide ((6000:Int)<(ks.length:Int))=false:=aB (by omega);rw[aC b5,if_pos rfl,kU (by decide)]at af;have ai:=hid af;clear af;have K:=hid (ap.out _ hx.out kA kc ks (HU.out _ hx.out).m.kr (aZ bb (by decide)));rcases hr:fV (ks.map tx)with _ | _
     ·rw[hr]at K ai
      have hv:Hid (V=13):=hid ai.out;go_wp2_with fail;refine K.out.mono ?_;rintro e w3 ⟨rfl,b3⟩;have ag:=hid (HP.out w3 (hx.out.trans (b3.mono hx.out.size)));go_wp2_with fail;go_ret;exact⟨by rw[hv.out];rfl,ag.out⟩
     ·rw[hr,if_pos rfl,kU (by decide)]at ai
      rw[hr]at K;go_wp2_with fail;refine K.out.mono ?_;rintro e w3 ⟨rfl,b3⟩;have a9:=hid (hx.out.trans (b3.mono hx.out.size));have a4:Hid ((ks.take 0).all dO=true):=hid rfl;clear b3 K;go_wp2_with fail;go_loopw [8] (fun i wy=>∃q:Nat,q≤ks.length∧i=.int .i64 q∧Hid ((ks.take q).all dO=true)∧Hid (Below W1.heap.size W1 wy)) (fun i _=>ks.length-(intOf i).toNat)
      case atStart=>exact⟨0,by omega,rfl,a4,a9⟩
      case round=>
       obtain⟨q,hq,rfl,hG,hy⟩:=hrel;clear a4 a9 z1 z3
       rename World=>wy
       have z3:=Y3.out wy hy.out;by_cases aj:q<ks.length
       ·have e3:decide ((q:Int)<(ks.length:Int))=true:=aC (by omega)
        have hU:=HU.out wy hy.out;obtain⟨g,off,rfl,a6,hc⟩:=hU.m.kr (by rw[aH];exact Nat.lt_of_le_of_lt (bA _) aj);have c0:=hc q (by rw[aH];exact aj);rw[List.getElem_map]at c0;have a0:=hid (qP dO ks aj);rw[hG.out,Bool.true_and]at a0;have ad:Hid (dO ks[q] = false→V=11):=hid (fun h=>by rw[ai.out,zM aj h];rfl);have KN:=hid (fun Y=>jB ks[q] Y (hU.ks ks[q] (aR aj)));unfold dA at KN;clear a6 hc hG hU;generalize ks[q] = x at *;rcases hn:dO x with _ | _
        ·have hv:=hid (ad.out hn)
         rw[hn]at KN;go_wp2_with fail;refine(KN.out _).mono ?_;rintro e w4 ⟨rfl,b4⟩;have bh:=hid (HP.out w4 (hy.out.trans (b4.mono hy.out.size)));go_wp2_with fail;go_ret;exact⟨by rw[hv.out];rfl,bh.out⟩
        ·rw[hn]at KN a0
         go_wp2_with fail;refine(KN.out _).mono ?_;rintro e w4 ⟨rfl,b4⟩;have a8:=hid (hy.out.trans (b4.mono hy.out.size));clear b4;go_wp2_with fail;go_roundw
         case rel=>exact⟨q+1,by omega,by go_num,a0,a8⟩
         case measure=>simp[intOf];omega
       ·obtain rfl:q=ks.length:=by omega
        have e3:decide ((ks.length:Int)<(ks.length:Int))=false:=aB (by omega)
        have hv:Hid (V=0):=hid (by
         rw[ai.out,if_pos (by have:=hG.out;rwa[bF]at this)]
         rfl)
        go_wp2_with fail;go_ret;exact⟨by rw[hv.out];rfl,HP.out _ hy.out⟩
end sf
end Go.Proofs.YtdmmkjijgoiecaaGreatDoor
