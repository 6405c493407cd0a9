import Derived.Test.YtdmmkjijgoiecaaGreatDoorY27
import Derived.Deep.CutBlock
import Derived.Test.YtdmmkjijgoiecaaGreatDoorY45
import Derived.Test.YtdmmkjijgoiecaaGreatDoorY30
import Derived.Test.YtdmmkjijgoiecaaGreatDoorY34
import Derived.Test.YtdmmkjijgoiecaaGreatDoorY42
set_option linter.all false
set_option maxHeartbeats 4000000
namespace Go.Proofs.YtdmmkjijgoiecaaGreatDoor
open Lib(hid)
set_option maxRecDepth 100000
namespace re
open RowKit Go.Sort Shelf mem vr po inn
theorem aIE(w:World)(A B:Option Addr)(c d:Nat)(l:List (List UInt8))(hA:Rd w A (l.map encStr))(hB:Rd w B (l.map encStr))(a2:l.length≤10000000) :
 Calls Tryz.prog 53 #[.slice A l.length c,.slice B l.length d] w fun e w'=>e=.returned (.bool true)∧Below w.heap.size w w':=by
 rcases Nat.eq_zero_or_pos l.length with hz | hz
 ·rw[hz];exact inn.aAe w A B c d
 obtain⟨g1,o1,rfl,Y,h1⟩:=sM hA hz;obtain⟨g2,o2,rfl,a0,h2⟩:=sM hB hz;have H1:=hid h1;have H2:=hid h2;have L1:=hid Y;have L2:=hid a0;clear h1 h2 hA hB Y a0;have d0:(((l.length:Nat):Int) != (l.length:Int))=false:=by simp
 go_enter Tryz.func53,Tryz.ntmps53;go_wp2_with fail;go_loopw [5] (fun i wr=>∃k:Nat,k≤l.length∧i=.int .i64 k∧Hid (Below w.heap.size w wr)) (fun i _=>l.length-(intOf i).toNat)
 case atStart=>exact⟨0,by omega,rfl,hid (Below.refl _ _)⟩
 case round=>
  obtain⟨k,hk,rfl,hb⟩:=hrel;rename_i wr _;by_cases J:k<l.length
  ·have e1:decide ((k:Int)<(l.length:Int))=true:=aC (by omega)
   have ck:wr.cell? ⟨g1,o1+k,none⟩=some (encStr l[k]):=(hb.out.cell (p:=⟨g1,o1+k,none⟩) L1.out).trans (H1.out k J);have cm:wr.cell? ⟨g2,o2+k,none⟩=some (encStr l[k]):=(hb.out.cell (p:=⟨g2,o2+k,none⟩) L2.out).trans (H2.out k J);unfold encStr at ck cm;generalize (ByteArray.mk l[k].toArray)=z at *;have e2:(z.data != z.data)=false:=by simp
   have a1:=hid hb.out.drew;clear hb;go_wp2_with fail;go_region;go_wp2_with fail;go_roundw
   case rel=>exact⟨k+1,by omega,by go_num,a1⟩
   case measure=>simp[intOf];omega
  ·obtain rfl:k=l.length:=by omega
   have e1:decide ((l.length:Int)<(l.length:Int))=false:=aB (by omega);go_wp2_with fail;go_ret;exact⟨rfl,hb.out⟩
theorem aGE(l:List (List UInt8)):jG (jG l)=jG l:=
 inn.vF inn.mP (inn.gG inn.mP _).1 (inn.gG inn.mP l).1 (fun x=>vK (jG l) x)
theorem aK2(w:World)(A:Option Addr)(c:Nat)(m:List (List UInt8))(h:Rd w A ((jG m).map encStr))(J:(jG m).length≤1000000) :
 Calls Tryz.prog 30 #[.slice A (jG m).length c] w (aAR w (jG m)):=by
 have k:=aJo w A c (jG m) h J;rw[aGE]at k;exact k
end re
namespace re
open RowKit Shelf mem sy vx vr po inn
theorem aAx(w:World)(u:MU)(hu:gH w u)(hl:(dF u.su).length≤1000000) :
 Calls Tryz.prog 37 #[u.val] w (TP (jG ((nS (dF u.su)).map tx)) w):=by
 obtain⟨W,J⟩:∃W,Hid (W=(w.alloc (.cells u.row 29)).alloc (.cells #[.slice none 0 0,.string ⟨#[]⟩,.slice none 0 0,.int .i64 0] 135)):=⟨_,hid rfl⟩;have hz:(w.alloc (.cells u.row 29)).heap.size=w.heap.size+1:=bH _;have a0:Fr [] w W:=by rw[J.out];exact((Fr.refl [] w).alloc _).alloc _
 have Y:bV W w.heap.size 29 u.row:=by rw[J.out];exact(bV.new w _ _).kept ((Fr.refl [] _).alloc _) (by simp)
 have B1:bV W (w.heap.size+1) 135 #[.slice none 0 0,.string ⟨#[]⟩,.slice none 0 0,.int .i64 0]:=by
  rw[J.out,←hz];exact bV.new _ _ _
 have h0:RV w (w.heap.size+1) none 0 [] [] W:=⟨a0.all,by omega,none,0,B1,Seg.nil _ _⟩;have KP:=hid (aMC (m:=[]) (fun hz=>by simp at hz) (by simp) u hu h0 hl);unfold RVP at KP
 have hX:Hid (∀w',RV w (w.heap.size+1) none 0 [] (dF u.su) w'→∃A cap,w'.cell? ⟨w.heap.size+1,2,none⟩=some (.slice A (jG ((nS (dF u.su)).map tx)).length cap)∧Rd w' A ((jG ((nS (dF u.su)).map tx)).map encStr)∧Below w.heap.size w w'):=hid (fun w' s=>by
  obtain⟨A,cap,hb,hs⟩:=RS.x s
  exact⟨A,cap,hb.cell 2,hs.rd,s.be⟩)
 have x0:W.cell? ⟨w.heap.size,0,none⟩=_:=Y.cell 0;have x1:W.cell? ⟨w.heap.size,1,none⟩=_:=Y.cell 1;have x2:W.cell? ⟨w.heap.size,2,none⟩=_:=Y.cell 2;have x3:W.cell? ⟨w.heap.size,3,none⟩=_:=Y.cell 3;have x4:W.cell? ⟨w.heap.size,4,none⟩=_:=Y.cell 4;have x5:W.cell? ⟨w.heap.size,5,none⟩=_:=Y.cell 5;have x6:W.cell? ⟨w.heap.size,6,none⟩=_:=Y.cell 6;generalize jG ((nS (dF u.su)).map tx)=L at *;generalize dF u.su=a1 at *;clear h0 hu hl Y B1 a0;obtain⟨nm,gA,gc,gs,wA,wc,ws,kA,kc,ks,⟨oA,oc,os,fA,fc,fs,cA,cc,cs⟩⟩:=u;unfold MU.val MU.row at *;dsimp only at *;simp only[aL,aJ,aK]at x0 x1 x2 x3 x4 x5 x6;go_enter Tryz.func37,Tryz.ntmps37;go_upto_region 2 with fail;rw[←J.out]
 try rw[hz]
 clear hz;go_wp2_with fail;refine KP.out.mono ?_;rintro e w2 ⟨rfl,s2,f2⟩;obtain⟨A,cap,c2,r3,b3⟩:=hX.out _ s2;have hb:=hid b3;have hr:=hid r3;clear s2 f2 x0 x1 x2 x3 x4 x5 x6 KP hX b3 r3;go_wp2_with fail;go_ret;exact⟨A,cap,rfl,hr.out,hb.out⟩
end re
namespace re
open RowKit Go.Sort Shelf mem sy vr
theorem aAM(w:World)(A B:Option Addr)(c d:Nat)(l:List ByteArray)(hA:Rd w A (l.map Value.string))(Y:Rd w B (l.map Value.string))(J:l.length≤10000000) :
 Calls Tryz.prog 53 #[.slice A l.length c,.slice B l.length d] w (dA true w):=by
 have k:=aIE w A B c d (l.map tx) (by rw[uU];exact hA) (by rw[uU];exact Y) (by rw[aH];exact J);rw[aH]at k;exact k
structure SuL(s:SU):Prop where
 g:s.gives.length≤10000000
 w:s.wants.length≤10000000
 k:s.keeps.length≤10000000
 a:∀c∈s.sys.cons,c.args.length≤8796093022208
theorem wF(u v:MU)(w:World)(hu:gH w u)(hv:gH w v)(e:u.su=v.su)(hl:SuL u.su) :
 Calls Tryz.prog 16 #[u.val,v.val] w (dA true w):=by
 obtain⟨un,a0,a2,ug,a4,a1,uw,a3,Y,uk,us⟩:=u;obtain⟨vn,a9,ad,vg,a6,a5,vw,a7,a8,vk,vs⟩:=v;have e1:un=vn:=congrArg SU.name e;have e2:ug=vg:=congrArg SU.gives e;have e3:uw=vw:=congrArg SU.wants e;have e4:uk=vk:=congrArg SU.keeps e;have e5:us.sys=vs.sys:=congrArg SU.sys e;subst e1 e2 e3 e4;have lo:us.os.length=vs.os.length:=by have:=congrArg (fun s:SS=>s.objs.length) e5;simpa[MS.sys] using this
 have lf:us.fs.length=vs.fs.length:=by have:=congrArg (fun s:SS=>s.fns.length) e5;simpa[MS.sys] using this
 have lc:us.cs.length=vs.cs.length:=by have:=congrArg (fun s:SS=>s.cons.length) e5;simpa[MS.sys] using this
 obtain⟨W,aa⟩:∃W,Hid (W=(w.alloc (.cells #[.string un,.slice a0 ug.length a2,.slice a4 uw.length a1,.slice a3 uk.length Y,.slice us.oA us.os.length us.oc,.slice us.fA us.fs.length us.fc,.slice us.cA us.cs.length us.cc] 29)).alloc (.cells #[.string un,.slice a9 ug.length ad,.slice a6 uw.length a5,.slice a7 uk.length a8,.slice vs.oA vs.os.length vs.oc,.slice vs.fA vs.fs.length vs.fc,.slice vs.cA vs.cs.length vs.cc] 29)):=⟨_,hid rfl⟩;have b1:Below w.heap.size w (w.alloc (.cells #[.string un,.slice a0 ug.length a2,.slice a4 uw.length a1,.slice a3 uk.length Y,.slice us.oA us.os.length us.oc,.slice us.fA us.fs.length us.fc,.slice us.cA us.cs.length us.cc] 29)):=(Below.refl _ _).alloc (aY _) _;have b0:Below w.heap.size w W:=by rw[aa.out];exact b1.alloc b1.size _
 have hz:(w.alloc (.cells #[.string un,.slice a0 ug.length a2,.slice a4 uw.length a1,.slice a3 uk.length Y,.slice us.oA us.os.length us.oc,.slice us.fA us.fs.length us.fc,.slice us.cA us.cs.length us.cc] 29)).heap.size=w.heap.size+1:=bH _;have BX:bV W w.heap.size 29 #[.string un,.slice a0 ug.length a2,.slice a4 uw.length a1,.slice a3 uk.length Y,.slice us.oA us.os.length us.oc,.slice us.fA us.fs.length us.fc,.slice us.cA us.cs.length us.cc]:=by rw[aa.out];exact(bV.new w _ _).kept ((Fr.refl [] _).alloc _) (by simp)
 have BY:bV W (w.heap.size+1) 29 #[.string un,.slice a9 ug.length ad,.slice a6 uw.length a5,.slice a7 uk.length a8,.slice vs.oA vs.os.length vs.oc,.slice vs.fA vs.fs.length vs.fc,.slice vs.cA vs.cs.length vs.cc]:=by rw[aa.out,←hz];exact bV.new _ _ _
 have HC:Hid (∀J,Below W.heap.size W J→(J.cell? ⟨w.heap.size,0,none⟩=some (.string un)∧J.cell? ⟨w.heap.size,1,none⟩=some (.slice a0 ug.length a2)∧J.cell? ⟨w.heap.size,2,none⟩=some (.slice a4 uw.length a1)∧J.cell? ⟨w.heap.size,3,none⟩=some (.slice a3 uk.length Y)∧J.cell? ⟨w.heap.size,4,none⟩=some (.slice us.oA us.os.length us.oc)∧J.cell? ⟨w.heap.size,5,none⟩=some (.slice us.fA us.fs.length us.fc)∧J.cell? ⟨w.heap.size,6,none⟩=some (.slice us.cA us.cs.length us.cc))∧J.cell? ⟨w.heap.size+1,0,none⟩=some (.string un)∧J.cell? ⟨w.heap.size+1,1,none⟩=some (.slice a9 ug.length ad)∧J.cell? ⟨w.heap.size+1,2,none⟩=some (.slice a6 uw.length a5)∧J.cell? ⟨w.heap.size+1,3,none⟩=some (.slice a7 uk.length a8)∧J.cell? ⟨w.heap.size+1,4,none⟩=some (.slice vs.oA vs.os.length vs.oc)∧J.cell? ⟨w.heap.size+1,5,none⟩=some (.slice vs.fA vs.fs.length vs.fc)∧J.cell? ⟨w.heap.size+1,6,none⟩=some (.slice vs.cA vs.cs.length vs.cc)):=hid (fun J b=>by
  have p:=BX.kept (Fr.of_below b []) (by simp);have q:=BY.kept (Fr.of_below b []) (by simp)
  exact⟨⟨p.cell 0,p.cell 1,p.cell 2,p.cell 3,p.cell 4,p.cell 5,p.cell 6⟩,q.cell 0,q.cell 1,q.cell 2,q.cell 3,q.cell 4,q.cell 5,q.cell 6⟩)
 have HE:Hid (∀J,Below W.heap.size W J→Below w.heap.size w J):=hid (fun J b=>b0.trans (b.mono b0.size));have R0:=hid (Below.refl W.heap.size W);have HX:∀J,Below W.heap.size W J→gH J ⟨un,a0,a2,ug,a4,a1,uw,a3,Y,uk,us⟩∧gH J ⟨un,a9,ad,ug,a6,a5,uw,a7,a8,uk,vs⟩:=fun J b=>⟨(hu.below b0).below b,(hv.below b0).below b⟩
 have K1:=hid (fun(J:World) (b:Below W.heap.size W J)=>aAM J a0 a9 a2 ad ug (HX J b).1.gr (HX J b).2.gr hl.g);have K2:=hid (fun(J:World) (b:Below W.heap.size W J)=>aAM J a4 a6 a1 a5 uw (HX J b).1.wr (HX J b).2.wr hl.w);have K3:=hid (fun(J:World) (b:Below W.heap.size W J)=>aAM J a3 a7 Y a8 uk (HX J b).1.kr (HX J b).2.kr hl.k);have K4:=hid (fun(J:World) (b:Below W.heap.size W J)=>aDP aMS us vs J (HX J b).1.sr (HX J b).2.sr e5 hl.a);obtain⟨⟨x0,x1,x2,x3,x4,x5,x6⟩,y0,y1,y2,y3,y4,y5,y6⟩:=HC.out W R0.out;unfold MS.val at K4;unfold MU.val MU.row;dsimp only;unfold dA at K1 K2 K3 K4 ⊢;clear hu hv e e5 lo lf lc b1 b0 hz BX BY HX hl;have s0:(un.data==un.data)=true:=by simp
 go_enter Tryz.func16,Tryz.ntmps16;go_upto_region 1 with fail;rw[←aa.out];clear aa;generalize ae:w.heap.size=bx at *;replace ae:=hid ae;have KA:=hid (K1.out W R0.out);go_wp2_with fail;refine KA.out.mono ?_;rintro e J ⟨rfl,b2⟩;have B2:=hid (R0.out.trans b2);clear b2 KA x0 x1 x2 x3 x4 x5 x6 y0 y1 y2 y3 y4 y5 y6;obtain⟨⟨x0,x1,x2,x3,x4,x5,x6⟩,y0,y1,y2,y3,y4,y5,y6⟩:=HC.out J B2.out;have KA:=hid (K2.out J B2.out);go_wp2_with fail;refine KA.out.mono ?_;rintro e w3 ⟨rfl,b3⟩;have B3:=hid (B2.out.trans (b3.mono B2.out.size));clear b3 KA x0 x1 x2 x3 x4 x5 x6 y0 y1 y2 y3 y4 y5 y6 B2;obtain⟨⟨x0,x1,x2,x3,x4,x5,x6⟩,y0,y1,y2,y3,y4,y5,y6⟩:=HC.out w3 B3.out;have KA:=hid (K3.out w3 B3.out);go_wp2_with fail;refine KA.out.mono ?_;rintro e w4 ⟨rfl,b4⟩;have B4:=hid (B3.out.trans (b4.mono B3.out.size));clear b4 KA x0 x1 x2 x3 x4 x5 x6 y0 y1 y2 y3 y4 y5 y6 B3;obtain⟨⟨x0,x1,x2,x3,x4,x5,x6⟩,y0,y1,y2,y3,y4,y5,y6⟩:=HC.out w4 B4.out
 have KA:=hid (K4.out w4 B4.out);go_wp2_with fail;refine KA.out.mono ?_;rintro e w5 ⟨rfl,b5⟩;have E:=hid (HE.out w5 (B4.out.trans (b5.mono B4.out.size)));clear b5 KA;go_wp2_with fail;go_ret;exact⟨rfl,by rw[ae.out];exact E.out⟩
end re
namespace re
open RowKit mem sy vr po
def evV(m:List (List UInt8)):Ev→Nat
 | .n k=>k.toNat
 | .t s=>m.idxOf (tx s)
def aAf(m:List (List UInt8)):Ev→Prop
 | .n k=>0≤k∧k≤268435456
 | .t s=>tx s∈m∧m.idxOf (tx s)≤268435456
def evB(m:List (List UInt8))(e:Ev):List UInt8:=nb (evV m e)
def qY(m:List (List UInt8))(l:List Ev):List UInt8:=l.flatMap (evB m)
theorem vE(m:List (List UInt8))(a b:List Ev):qY m (a++b)=qY m a++qY m b:=List.flatMap_append
theorem aAa(m:List (List UInt8))(e:Ev):qY m [e] = evB m e:=by simp[qY]
theorem step_ok{m:List (List UInt8)}{e:Ev}(h:aAf m e)(st:List UInt8):wZ m (st,0) e=(st++evB m e,0):=by
 cases e with
 | n k=>
  obtain⟨J,Y⟩:=h;show iK (st,0) k=_;unfold iK;rw[if_neg (by simp),if_neg (by omega)];rfl
 | t s=>
  obtain⟨J,Y⟩:=h;show aAW m (st,0) s=_;have e1:qX m (st,0) s=(st,0):=by unfold qX;rw[if_neg (by simp[J])]
  unfold aAW;rw[e1,if_pos J];unfold iK;rw[if_neg (by simp),if_neg (by omega)];rfl
theorem aHv{m:List (List UInt8)}{e:Ev}{st:List UInt8×Int}(h:(wZ m st e).2=0):st.2=0∧aAf m e:=by
 cases e with
 | n k=>
  have h:(iK st k).2=0:=h;unfold iK at h;split at h
  ·contradiction
  ·rename_i h0
   split at h
   ·simp at h
   ·rename_i J
    exact⟨by simpa using h0,by show 0≤k∧k≤268435456;omega⟩
 | t s=>
  have h:(aAW m st s).2=0:=h;unfold aAW at h;by_cases h0:st.2=0
  ·by_cases J:tx s∈m
   ·have Y:qX m st s=st:=by unfold qX;rw[if_neg (by simp[J])]
    rw[Y,if_pos J]at h;unfold iK at h;rw[if_neg (by simpa using h0)]at h;split at h
    ·simp at h
    ·rename_i h2
     exact⟨h0,J,by omega⟩
   ·have Y:qX m st s=(st.1,7):=by unfold qX;rw[if_pos ⟨h0,J⟩]
    rw[Y]at h;unfold iK at h;rw[if_pos (by simp)]at h;simp at h
  ·have Y:qX m st s=st:=by unfold qX;rw[if_neg (fun x=>h0 x.1)]
   rw[Y]at h;unfold iK at h;rw[if_pos h0]at h;contradiction
theorem wR{m:List (List UInt8)}:∀(l:List Ev) (st:List UInt8),(∀e∈l,aAf m e)→l.foldl (wZ m) (st,0)=(st++qY m l,0)
 | [],st,_=>by simp[qY]
 | e :: l,st,h=>by
  rw[List.foldl_cons,step_ok (h e (List.mem_cons_self ..)),wR l _ (fun x J=>h x (bG _ J))];simp[qY]
theorem pX{m:List (List UInt8)}:∀(l:List Ev) (st:List UInt8×Int),(l.foldl (wZ m) st).2=0→st.2=0∧∀e∈l,aAf m e
 | [],st,h=>⟨h,fun e Y=>by cases Y⟩
 | e :: l,st,h=>by
  rw[List.foldl_cons]at h;obtain⟨h1,h2⟩:=pX l _ h;obtain⟨h3,h4⟩:=aHv h1;refine⟨h3,fun x J=>?_⟩;rcases aM.1 J with rfl | J
  ·exact h4
  ·exact h2 x J
def dr(S:ByteArray)(p:Nat):List UInt8:=S.data.toList.drop p
theorem aL2(S:ByteArray)(p n:Nat):dr S (p+n)=(dr S p).drop n:=by unfold dr;rw[List.drop_drop]
theorem uG{S:ByteArray}{p:Nat}{a r:List UInt8}(h:dr S p=a++r):dr S (p+a.length)=r:=by
 rw[aL2,h,List.drop_left]
theorem aHT{S:ByteArray}{p k:Nat}{r:List UInt8}(h:dr S p=nb k++r)(J:k≤268435456):nV S p 0=k∧nP S p 0=p+(nb k).length∧nE S p 0=0:=by
 have e:ct S p=(k,(nb k).length,0):=by
  unfold ct;unfold dr at h;rw[h];exact aAl k r J
 unfold nV nP nE;rw[e];simp
theorem aI0{S:ByteArray}{p:Nat}(hp:p≤S.size)(h:nE S p 0=0):dr S p=nb (nV S p 0)++dr S (nP S p 0)∧nV S p 0≤268435456:=by
 have hl:=aK5 S p 0 hp;unfold nE at h;rw[if_neg (by simp)]at h
 obtain⟨r,J,Y⟩:=aBD (dr S p) (ct S p).1 (ct S p).2.1 (by
  show ct S p=_;have:(ct S p).2.2=0:=by exact_mod_cast h
  rw[←this])
 have hv:nV S p 0=(ct S p).1:=by unfold nV;rw[if_neg (by simp)]
 have hq:nP S p 0=p+(nb (ct S p).1).length:=by unfold nP;rw[if_neg (by simp),Y]
 rw[hv,hq,uG J];rw[hv]at hl;exact⟨J,hl⟩
structure uP(m:List (List UInt8))(S:ByteArray){α:Type}(one:Nat→Int→α×Nat×Int)(ev:α→List Ev)(Fit:α→Prop):Prop where
 okp:Okp S one
 st:∀q e,e≠6→e≠0→(one q e).2.2=e
 bk:∀q,q≤S.size→(one q 0).2.2=0→dr S q=qY m (ev (one q 0).1)++dr S (one q 0).2.1∧∀e∈ev (one q 0).1,aAf m e
 fw:∀a q r,q≤S.size→Fit a→(∀e∈ev a,aAf m e)→dr S q=qY m (ev a)++r→one q 0=(a,q+(qY m (ev a)).length,0)
section
variable {m:List (List UInt8)} {S:ByteArray} {α β:Type}
def vV(f:Nat→Int→α×Nat×Int)(g:Nat→Int→β×Nat×Int)(q:Nat)(e:Int):(α×β)×Nat×Int:=(((f q e).1,(g (f q e).2.1 (f q e).2.2).1),(g (f q e).2.1 (f q e).2.2).2)
theorem uP.seq{f:Nat→Int→α×Nat×Int}{g:Nat→Int→β×Nat×Int}{ef:α→List Ev}{eg:β→List Ev}{Ff:α→Prop}{Fg:β→Prop}(hf:uP m S f ef Ff)(hg:uP m S g eg Fg):uP m S (vV f g) (fun p=>ef p.1++eg p.2) (fun p=>Ff p.1∧Fg p.2):=by
 refine⟨fun q e Y J=>?_,fun q e h6 h0=>?_,fun q Y h=>?_,fun a q r Y hF hk hd=>?_⟩
 ·obtain⟨a1,a2⟩:=hf.okp q e Y J
  exact hg.okp _ _ a1 a2
 ·show(g (f q e).2.1 (f q e).2.2).2.2=e
  have h1:=hf.st q e h6 h0;rw[h1];exact hg.st _ e h6 h0
 ·have h:(g (f q 0).2.1 (f q 0).2.2).2.2=0:=h
  obtain⟨a1,a2⟩:=hf.okp q 0 Y (by decide);have e1:(f q 0).2.2=0:=by
   rcases Classical.em ((f q 0).2.2=0)with e | e
   ·exact e
   ·have:=hg.st (f q 0).2.1 _ a2 e
    rw[h]at this;exact absurd this.symm e
  obtain⟨b1,b2⟩:=hf.bk q Y e1;rw[e1]at h;obtain⟨c1,c2⟩:=hg.bk _ a1 h;have a4:(vV f g q 0).1=((f q 0).1,(g (f q 0).2.1 0).1):=by unfold vV;rw[e1]
  have a3:(vV f g q 0).2.1=(g (f q 0).2.1 0).2.1:=by unfold vV;rw[e1]
  rw[a4,a3];refine⟨?_,fun e J=>?_⟩
  ·show dr S q=qY m (ef (f q 0).1++eg (g (f q 0).2.1 0).1)++_
   rw[vE,aS,←c1,←b1]
  ·rcases List.mem_append.1 J with J | J
   ·exact b2 e J
   ·exact c2 e J
 ·obtain⟨a,b⟩:=a
  have hd:dr S q=qY m (ef a++eg b)++r:=hd;rw[vE,aS]at hd;have h1:=hf.fw a q _ Y hF.1 (fun e J=>hk e (List.mem_append.2 (Or.inl J))) hd;have a0:q+(qY m (ef a)).length≤S.size:=by
   have:=(hf.okp q 0 Y (by decide)).1;rw[h1]at this;exact this
  have h2:=hg.fw b _ r a0 hF.2 (fun e J=>hk e (List.mem_append.2 (Or.inr J))) (uG hd);show vV f g q 0=_;unfold vV;rw[h1];dsimp only;rw[h2,vE,aF,Nat.add_assoc]
theorem uP.map{one:Nat→Int→α×Nat×Int}{J:Nat→Int→β×Nat×Int}{ev:α→List Ev}{a0:β→List Ev}{Fit:α→Prop}{Y:β→Prop}(h:uP m S one ev Fit)(φ:α→β)(ψ:β→α)(h1:∀q e,J q e=(φ (one q e).1,(one q e).2))(h2:∀b,φ (ψ b)=b)(h3:∀a,a0 (φ a)=ev a)(h4:∀b,Y b→Fit (ψ b)):uP m S J a0 Y:=by
 refine⟨fun q e hq he=>?_,fun q e h6 h0=>?_,fun q hq hh=>?_,fun b q r hq hF hk hd=>?_⟩
 ·rw[h1];exact h.okp q e hq he
 ·rw[h1];exact h.st q e h6 h0
 ·rw[h1]at hh ⊢
  dsimp only at hh ⊢;rw[h3];exact h.bk q hq hh
 ·have e1:a0 b=ev (ψ b):=by rw[←h3,h2]
  rw[e1]at hk hd ⊢;rw[h1,h.fw (ψ b) q r hq (h4 b hF) hk hd,h2]
def aMP(S:ByteArray)(q:Nat)(e:Int):Int×Nat×Int:=((nV S q e:Nat),nP S q e,nE S q e)
theorem rN(m:List (List UInt8))(S:ByteArray):uP m S (aMP S) (fun k=>[.n k]) (fun _=>True):=by
 refine⟨fun q e Y J=>⟨eB S q e Y,pG S q e J⟩,fun q e h6 h0=>?_,fun q Y h=>?_,fun a q r Y _ hk hd=>?_⟩
 ·show nE S q e=e
  unfold nE;rw[if_pos h0]
 ·obtain⟨h1,h2⟩:=aI0 Y h
  refine⟨?_,fun e J=>?_⟩
  ·rw[aAa]
   exact h1
  ·rw[aD]at J
   subst J;exact⟨Int.natCast_nonneg _,by show((nV S q 0:Nat):Int)≤_;omega⟩
 ·have hk:=hk (.n a) (by simp)
  obtain⟨k1,k2⟩:=hk;rw[aAa]at hd ⊢;obtain⟨h1,h2,h3⟩:=aHT (k:=a.toNat) hd (by omega);unfold aMP;rw[h1,h2,h3];refine Prod.ext ?_ rfl;show((a.toNat:Nat):Int)=a;omega
theorem aMD:∀(m:List (List UInt8)) (k:Nat) (Y:k<m.length),m.Pairwise (fun a b=>a<b)→m.idxOf m[k] = k
 | [],k,Y,_=>by simp at Y
 | y :: m,0,Y,_=>by simp
 | y :: m,k+1,Y,hp=>by
  have a0:=List.pairwise_cons.1 hp;have J:k<m.length:=by simpa using Y
  have a1:y≠m[k]:=fun e=>by
   have h:=a0.1 m[k] (aR J);rw[←e]at h;exact List.lt_irrefl y h
  have ih:=aMD m k J a0.2;rw[List.getElem_cons_succ,List.idxOf_cons,show(y==m[k])=false by simpa using a1]
  simpa using ih
theorem rT(hm:m.Pairwise (fun a b=>a<b)):uP m S (fD m S) (fun t=>[.t t]) (fun _=>True):=by
 refine⟨aD7 m S,fun q e h6 h0=>?_,fun q hq h=>?_,fun a q r hq _ hk hd=>?_⟩
 ·have J:nE S q e=e:=by unfold nE;rw[if_pos h0]
  have:=(aEq (m:=m) h6 (by rw[J];exact h0)).1;rw[J]at this;exact this
 ·have h:tN m S q 0=0:=h
  have J:nE S q 0=0:=by
   rcases Classical.em (nE S q 0=0)with e | e
   ·exact e
   ·have:=(aEq (m:=m) (p:=q) (s:=S) (er:=0) (by decide) e).1
    rw[h]at this;exact absurd this.symm e
  have hn:nV S q 0<m.length:=by
   rcases Classical.em (nV S q 0<m.length)with e | e
   ·exact e
   ·have:=(aHi J e).1
    rw[h]at this;exact absurd this (by decide)
  obtain⟨_,hT⟩:=aIq J hn;obtain⟨h1,h2⟩:=aI0 hq J;have hi:=aMD m _ hn hm;have hx:tx (tT m S q 0)=m[nV S q 0]:=by rw[hT]
  have a1:evB m (.t (tT m S q 0))=nb (nV S q 0):=by
   show nb (m.idxOf (tx (tT m S q 0)))=_;rw[hx,hi]
  refine⟨?_,fun e Y=>?_⟩
  ·show dr S q=qY m [.t (tT m S q 0)]++dr S (nP S q 0)
   rw[aAa,a1];exact h1
  ·have Y:e∈[Ev.t (tT m S q 0)]:=Y
   rw[aD]at Y;subst Y;show tx (tT m S q 0)∈m∧m.idxOf (tx (tT m S q 0))≤268435456;rw[hx,hi];exact⟨aR hn,h2⟩
 ·obtain⟨k1,k2⟩:=hk (.t a) (by simp)
  rw[aAa]at hd ⊢;obtain⟨h1,h2,h3⟩:=aHT (k:=m.idxOf (tx a)) hd k2;have a0:nV S q 0<m.length:=by rw[h1];exact List.idxOf_lt_length_of_mem k1
  obtain⟨g1,g2⟩:=aIq h3 a0;have g3:m[nV S q 0] = tx a:=by
   simp only[h1];exact List.getElem_idxOf _
  show(tT m S q 0,nP S q 0,tN m S q 0)=_;rw[g1,g2,g3,h2];rfl
end
end re
namespace re
open RowKit mem sy vr po
section
variable {m:List (List UInt8)} {S:ByteArray} {α:Type}
theorem aKO{one:Nat→Int→α×Nat×Int}{ev:α→List Ev}{Fit:α→Prop}(h:uP m S one ev Fit):∀(k q:Nat),q≤S.size→(dX one k q 0).2.2=0→(dr S q=qY m ((dX one k q 0).1.flatMap ev)++dr S (dX one k q 0).2.1∧∀e∈(dX one k q 0).1.flatMap ev,aAf m e)∧(dX one k q 0).1.length=k
 | 0,q,hq,hh=>⟨⟨by simp[dX,qY],fun e J=>by simp[dX]at J⟩,by simp[dX]⟩
 | k+1,q,hq,hh=>by
  rw[go_step]at hh ⊢;dsimp only at hh ⊢;obtain⟨a1,a2⟩:=h.okp q 0 hq (by decide);have Y:(one q 0).2.2=0:=by
   rcases Classical.em ((one q 0).2.2=0)with e | e
   ·exact e
   ·rw[aEs one k _ _ a2 e]at hh
    exact absurd hh e
  obtain⟨b1,b2⟩:=h.bk q hq Y;rw[Y]at hh ⊢;obtain⟨⟨c1,c2⟩,c3⟩:=aKO h k _ a1 hh;refine⟨⟨?_,fun e J=>?_⟩,by rw[aG,c3]⟩
  ·rw[List.flatMap_cons,vE,aS,←c1,←b1]
  ·rw[List.flatMap_cons]at J
   rcases List.mem_append.1 J with J | J
   ·exact b2 e J
   ·exact c2 e J
theorem aK7{one:Nat→Int→α×Nat×Int}{ev:α→List Ev}{Fit:α→Prop}(h:uP m S one ev Fit):∀(l:List α) (q:Nat) (r:List UInt8),q≤S.size→(∀x∈l,Fit x)→(∀e∈l.flatMap ev,aAf m e)→dr S q=qY m (l.flatMap ev)++r→dX one l.length q 0=(l,q+(qY m (l.flatMap ev)).length,0)
 | [],q,r,hq,_,_,_=>by simp[dX,qY]
 | a :: l,q,r,hq,hF,hk,hd=>by
  rw[List.flatMap_cons,vE,aS]at hd;rw[List.flatMap_cons]at hk;have h1:=h.fw a q _ hq (hF a (List.mem_cons_self ..)) (fun e J=>hk e (List.mem_append.2 (Or.inl J))) hd;have Y:q+(qY m (ev a)).length≤S.size:=by
   have:=(h.okp q 0 hq (by decide)).1;rw[h1]at this;exact this
  have h2:=aK7 h l _ r Y (fun x hx=>hF x (bG _ hx)) (fun e J=>hk e (List.mem_append.2 (Or.inr J))) (uG hd);rw[aG,go_step,h1];dsimp only;rw[h2,List.flatMap_cons,vE,aF,Nat.add_assoc]
theorem rL{one:Nat→Int→α×Nat×Int}{ev:α→List Ev}{Fit:α→Prop}(h:uP m S one ev Fit):uP m S (fun q e=>cK one S q e) (fun l=>.n l.length :: l.flatMap ev) (fun l=>l.length≤6000∧∀x∈l,Fit x):=by
 refine⟨nJ h.okp,fun q e h6 h0=>?_,fun q hq Y=>?_,fun l q r hq hF hk hd=>?_⟩
 ·have hV:nV S q e=0:=by unfold nV;rw[if_pos h0]
  have hE:eL S q e=e:=by unfold eL;rw[hV,if_neg (by omega)];unfold nE;rw[if_pos h0]
  show(cK one S q e).2.2=e;unfold cK;rw[hV,hE];rfl
 ·have Y:(cK one S q 0).2.2=0:=Y
  show dr S q=qY m (.n (cK one S q 0).1.length :: (cK one S q 0).1.flatMap ev)++dr S (cK one S q 0).2.1∧∀e∈(Ev.n (cK one S q 0).1.length :: (cK one S q 0).1.flatMap ev),aAf m e;unfold cK at Y ⊢;have J:eL S q 0=0:=by
   rcases Classical.em (eL S q 0=0)with e | e
   ·exact e
   ·rw[aEs one _ _ _ (sO S q 0 (by decide)) e]at Y
    exact absurd Y e
  have hn:¬6000<nV S q 0:=fun hn=>by
   unfold eL fE at J;rw[if_pos hn]at J;split at J
   ·simp at J
   ·contradiction
  have hE:nE S q 0=0:=by unfold eL at J;rwa[if_neg hn]at J
  obtain⟨b1,b2⟩:=aI0 hq hE;rw[J]at Y ⊢;obtain⟨⟨c1,c2⟩,c3⟩:=aKO h (nV S q 0) (nP S q 0) (eB S q 0 hq) Y;rw[c3];have hb:qY m (.n ((nV S q 0:Nat):Int) :: (dX one (nV S q 0) (nP S q 0) 0).1.flatMap ev)=nb (nV S q 0)++qY m ((dX one (nV S q 0) (nP S q 0) 0).1.flatMap ev):=rfl;refine⟨?_,fun e he=>?_⟩
  ·rw[hb,aS,←c1,←b1]
  ·rcases aM.1 he with rfl | he
   ·exact⟨Int.natCast_nonneg _,by show((nV S q 0:Nat):Int)≤_;omega⟩
   ·exact c2 e he
 ·have hb:qY m (.n ((l.length:Nat):Int) :: l.flatMap ev)=nb l.length++qY m (l.flatMap ev):=rfl
  have hd:dr S q=qY m (.n ((l.length:Nat):Int) :: l.flatMap ev)++r:=hd;rw[hb,aS]at hd;obtain⟨h1,h2,h3⟩:=aHT hd (by have:=hF.1;omega);have hE:eL S q 0=0:=by unfold eL;rw[h1,if_neg (by have:=hF.1;omega),h3]
  have a0:nP S q 0≤S.size:=eB S q 0 hq;rw[h2]at a0;have h4:=aK7 h l _ r a0 hF.2 (fun e he=>hk e (bG _ he)) (uG hd);show cK one S q 0=(l,q+(qY m (.n ((l.length:Nat):Int) :: l.flatMap ev)).length,0);unfold cK;rw[h1,h2,hE,h4,hb,aF,Nat.add_assoc]
theorem aCH(l:List ByteArray):l.flatMap (fun t=>[Ev.t t])=l.map Ev.t:=by
 induction l with
 | nil=>rfl
 | cons a l ih=>rw[List.flatMap_cons,aV,ih];rfl
variable (hm:m.Pairwise (fun a b=>a<b))
include hm
theorem rTs:uP m S (fun q e=>cK (fD m S) S q e) fB (fun l=>l.length≤6000):=
 (rL (rT hm)).map (fun l=>l) (fun l=>l) (fun q e=>rfl) (fun b=>rfl) (fun a=>by unfold fB;rw[aCH]) (fun b hb=>⟨hb,fun _ _=>trivial⟩)
theorem rM:uP m S (mO m S) pV (fun _=>True):=
 (uP.seq (rN m S) (rT hm)).map (fun p:Int×ByteArray=>(⟨p.1,p.2⟩:Mk)) (fun b:Mk=>(b.at_,b.tag)) (fun q e=>rfl) (fun b=>rfl) (fun a=>rfl) (fun b _=>⟨trivial,trivial⟩)
theorem rF:uP m S (mH m S) lW (fun _=>True):=
 (uP.seq (rT hm) (uP.seq (rT hm) (rT hm))).map (fun p:ByteArray×ByteArray×ByteArray=>(⟨p.1,p.2.1,p.2.2⟩:SF)) (fun b:SF=>(b.name,b.kinds,b.ret)) (fun q e=>rfl) (fun b=>rfl) (fun a=>rfl) (fun b _=>⟨trivial,trivial,trivial⟩)
theorem rO:uP m S (sV m S) iR (fun o=>o.marks.length≤6000):=
 (uP.seq (rT hm) (uP.seq (rT hm) (rL (rM hm)))).map (fun p:ByteArray×ByteArray×List Mk=>(⟨p.1,p.2.1,p.2.2⟩:SO)) (fun b:SO=>(b.name,b.kinds,b.marks)) (fun q e=>rfl) (fun b=>rfl) (fun a=>rfl) (fun b hb=>⟨trivial,trivial,hb,fun _ _=>trivial⟩)
theorem rC:uP m S (kY m S) mJ (fun c=>c.args.length≤6000):=
 (uP.seq (rN m S) (uP.seq (rT hm) (uP.seq (rT hm) (uP.seq (rN m S) (uP.seq (rT hm) (rTs hm)))))).map (fun p:Int×ByteArray×ByteArray×Int×ByteArray×List ByteArray=>(⟨p.1,p.2.1,p.2.2.1,p.2.2.2.1,p.2.2.2.2.1,p.2.2.2.2.2⟩:SC)) (fun b:SC=>(b.op,b.a,b.b,b.k,b.tag,b.args)) (fun q e=>rfl) (fun b=>rfl) (fun a=>rfl) (fun b hb=>⟨trivial,trivial,trivial,trivial,trivial,hb⟩)
def aDA(u:SU):Prop:=u.gives.length≤6000∧u.wants.length≤6000∧u.keeps.length≤6000∧(u.sys.objs.length≤6000∧∀o∈u.sys.objs,o.marks.length≤6000)∧u.sys.fns.length≤6000∧u.sys.cons.length≤6000∧∀c∈u.sys.cons,c.args.length≤6000
def aLt(m:List (List UInt8))(S:ByteArray)(q:Nat)(e:Int):SU×Nat×Int:=
 let A:=vV (fD m S) (vV (fun q e=>cK (fD m S) S q e) (vV (fun q e=>cK (fD m S) S q e) (vV (fun q e=>cK (fD m S) S q e) (vV (fun q e=>cK (sV m S) S q e) (vV (fun q e=>cK (mH m S) S q e) (fun q e=>cK (kY m S) S q e)))))) q e
 (⟨A.1.1,A.1.2.1,A.1.2.2.1,A.1.2.2.2.1,⟨A.1.2.2.2.2.1,A.1.2.2.2.2.2.1,A.1.2.2.2.2.2.2⟩⟩,A.2)
theorem rU:uP m S (aLt m S) dF aDA:=
 (uP.seq (rT hm) (uP.seq (rTs hm) (uP.seq (rTs hm) (uP.seq (rTs hm) (uP.seq (rL (rO hm)) (uP.seq (rL (rF hm)) (rL (rC hm)))))))).map (fun p:ByteArray×List ByteArray×List ByteArray×List ByteArray×List SO×List SF×List SC=>(⟨p.1,p.2.1,p.2.2.1,p.2.2.2.1,⟨p.2.2.2.2.1,p.2.2.2.2.2.1,p.2.2.2.2.2.2⟩⟩:SU)) (fun b:SU=>(b.name,b.gives,b.wants,b.keeps,b.sys.objs,b.sys.fns,b.sys.cons)) (fun q e=>rfl) (fun b=>rfl) (fun a=>rfl) (fun b hb=>⟨trivial,hb.1,hb.2.1,hb.2.2.1,hb.2.2.2.1,⟨hb.2.2.2.2.1,fun _ _=>trivial⟩,hb.2.2.2.2.2.1,hb.2.2.2.2.2.2⟩)
end
theorem vL{α β:Type}{f:Nat→Int→α×Nat×Int}{g:Nat→Int→β×Nat×Int}{q:Nat}{e:Int}{x:α×Nat×Int}{y:β×Nat×Int}(Y:f q e=x)(J:g x.2.1 x.2.2=y):vV f g q e=((x.1,y.1),y.2):=by
 subst Y J;rfl
theorem aDI(m:List (List UInt8))(S:ByteArray):aLt m S 0 0=(rdA m S,(sW m S).2):=by
 have s6:vV (fun q e=>cK (mH m S) S q e) (fun q e=>cK (kY m S) S q e) (tF m S).2.1 (tF m S).2.2=(((kK m S).1,(sW m S).1),(sW m S).2):=vL (x:=kK m S) (y:=sW m S) rfl rfl;have Y:=vL (f:=fun q e=>cK (sV m S) S q e) (q:=(rZ m S).2.1) (e:=(rZ m S).2.2) (x:=tF m S) rfl s6;have s4:=vL (f:=fun q e=>cK (fD m S) S q e) (q:=(xV m S).2.1) (e:=(xV m S).2.2) (x:=rZ m S) rfl Y;have J:=vL (f:=fun q e=>cK (fD m S) S q e) (q:=(yI m S).2.1) (e:=(yI m S).2.2) (x:=xV m S) rfl s4;have s2:=vL (f:=fun q e=>cK (fD m S) S q e) (q:=nP S 0 0) (e:=tN m S 0 0) (x:=yI m S) rfl J;have s1:=vL (f:=fD m S) (q:=0) (e:=0) (x:=(tT m S 0 0,nP S 0 0,tN m S 0 0)) rfl s2;unfold aLt;rw[s1];rfl
theorem aKW{m:List (List UInt8)}(hm:m.Pairwise (fun a b=>a<b))(u:SU)(hf:aDA u)(h:(fQ m (dF u)).2=0):oL m (bs (qJ (fQ m (dF u))))=0∧kJ m (bs (qJ (fQ m (dF u))))=u:=by
 obtain⟨_,Y⟩:=pX (dF u) ([],0) h;have hd:fQ m (dF u)=(qY m (dF u),0):=by
  unfold fQ;rw[wR (dF u) [] Y,aX]
 have hS:qJ (fQ m (dF u))=qY m (dF u):=by rw[hd];rfl
 rw[hS];generalize hs:bs (qY m (dF u))=S;have hl:S.data.toList=qY m (dF u):=by rw[←hs];rfl
 have hz:S.size=(qY m (dF u)).length:=by rw[←hl];exact Array.length_toList.symm
 have J:=(rU hm (S:=S)).fw u 0 [] (bA _) hf Y (by unfold dr;rw[List.drop_zero,hl,List.append_nil]);rw[aDI,Nat.zero_add]at J;have a1:rdA m S=u:=congrArg Prod.fst J;have a2:(sW m S).2=((qY m (dF u)).length,(0:Int)):=congrArg Prod.snd J;have hE:oL m S=0:=by
  unfold oL;rw[a2];unfold dE;rw[if_neg (by rw[hz];simp)]
 refine⟨hE,?_⟩;unfold kJ;rw[if_pos hE,a1]
theorem aB7(m:List (List UInt8)):∀l:List Ev,l.length≤(qY m l).length
 | []=>by simp[qY]
 | e :: l=>by
  have:=aB7 m l;have J:0<(evB m e).length:=aCd _;show l.length+1≤(evB m e++qY m l).length;rw[aF];omega
theorem zC{m:List (List UInt8)}(hm:m.Pairwise (fun a b=>a<b))(S:ByteArray)(h:oL m S=0):fQ m (dF (kJ m S))=(S.data.toList,0)∧(dF (kJ m S)).length≤S.size:=by
 have hq:=(aMt m S).1;have h6:=(aMt m S).2;have hE:=h;unfold oL dE at h;have hr:(sW m S).2.2=0∧(sW m S).2.1=S.size:=by
  split at h
  ·simp at h
  ·rename_i hx
   exact⟨h,by
    rcases Nat.lt_or_ge (sW m S).2.1 S.size with a0 | a1
    ·exact absurd ⟨h,a0⟩ hx
    ·omega⟩
 have e1:kJ m S=rdA m S:=by unfold kJ;rw[if_pos hE]
 obtain⟨J,Y⟩:=(rU hm (S:=S)).bk 0 (bA _) (by rw[aDI];exact hr.1);rw[aDI]at J Y;dsimp only at J Y;rw[hr.2]at J;have hl:S.data.toList=qY m (dF (rdA m S)):=by
  have z:dr S S.size=[]:=by unfold dr;rw[List.drop_eq_nil_iff];exact Nat.le_of_eq Array.length_toList
  rw[z,List.append_nil]at J;have:dr S 0=S.data.toList:=by unfold dr;rw[List.drop_zero]
  rw[←this];exact J
 rw[e1];refine⟨?_,?_⟩
 ·unfold fQ
  rw[wR _ [] Y,aX,←hl]
 ·have:=aB7 m (dF (rdA m S))
  rw[←hl]at this;have hz:S.data.toList.length=S.size:=Array.length_toList;omega
theorem aKQ:SuL su0:=⟨by simp[su0],by simp[su0],by simp[su0],fun c hc=>by simp[su0]at hc⟩
end re
namespace sf
open RowKit Go.Sort mem sy vr po inn cr
open re (MU SU Ev fB pV rY iR pY lW qL mJ qU dF nS fQ aAf evB qY aB7 wR pX dr uG aHT aI0 oL kJ su0 aKW zC aDA)
theorem aFD(S:ByteArray)(Y:S.size≤200000000)(p:Nat)(m:List (List UInt8))(r:List UInt8)(h:S.data.toList.drop p=pP m m.length++r)(hm:m.length≤6000)(hx:∀x∈m,x.length≤1000)(J:m.Pairwise (fun a b=>a<b)) :
 kD S p=(p+(pP m m.length).length,0,0,m):=by
 rw[aEg,aS]at h;have h1:cnt (S.data.toList.drop p)=(m.length,(nb m.length).length,0):=by
  rw[h];exact aAl _ _ (by omega)
 obtain⟨v1,v2,v3⟩:=aMM h1;unfold kD;rw[v1,v2,v3,if_neg (by simp),if_neg (by omega)];have hd:S.data.toList.drop (p+(nb m.length).length)=tl (([]:List (List UInt8)).getLastD []) m++r:=by
  rw[←List.drop_drop,h,List.drop_left']
  ·rfl
  ·rfl
 rw[aFc S Y m [] _ r hd hx (by simpa using J),aEg,aF];simp only[aX,Prod.mk.injEq,and_true];show p+(nb m.length).length+(tl [] m).length=p+((nb m.length).length+(tl [] m).length);omega
theorem aMk{S:ByteArray}{p:Nat}{m:List (List UInt8)}{p':Nat}{er:Int}{J:List (List UInt8)}(h:tQ S p m=(p',er,0,J)):∃x,J=m++[x]∧(m≠[]→m.getLastD []<x):=by
 unfold tQ at h;split at h
 ·rename_i h0
  simp only[Prod.mk.injEq]at h;exact absurd h.2.2.1 h0
 split at h
 ·rename_i h0
  simp only[Prod.mk.injEq]at h;exact absurd h.2.2.1 h0
 split at h
 ·simp at h
 split at h
 ·simp at h
 split at h
 ·simp at h
 rename_i Y;split at h
 ·simp at h
 simp only[Prod.mk.injEq]at h;obtain⟨_,_,_,rfl⟩:=h;refine⟨_,rfl,fun hm=>?_⟩;rcases Classical.em (m.getLastD []<(m.getLastD []).take (nV S p 0)++(vr.tx S (nP S p 0) 0).1.data.toList)with h | h
 ·exact h
 ·exact absurd ⟨hm,h⟩ Y
theorem aJB{m:List (List UInt8)}{x:List UInt8}(h:m.Pairwise (fun a b=>a<b))(Y:m≠[]→m.getLastD []<x):(m++[x]).Pairwise (fun a b=>a<b):=by
 refine List.pairwise_append.2 ⟨h,by simp,fun a ha b hb=>?_⟩;rw[aD]at hb;subst hb;rcases oW m with rfl | ⟨m',z,rfl⟩
 ·cases ha
 ·have J:=Y (by simp)
  rw[eH]at J;rcases List.mem_append.1 ha with ha | ha
  ·exact List.lt_trans ((List.pairwise_append.1 h).2.2 a ha z (by simp)) J
  ·rw[aD]at ha
   subst ha;exact J
theorem aEO(S:ByteArray):∀(k p:Nat) (m:List (List UInt8)) (Y:Nat) (er:Int) (J:List (List UInt8)),kK S k p m=(Y,er,0,J)→m.Pairwise (fun a b=>a<b)→J.Pairwise (fun a b=>a<b)
 | 0,p,m,Y,er,J,h,ho=>by
  simp only[kK,Prod.mk.injEq]at h;obtain⟨_,_,_,rfl⟩:=h;exact ho
 | k+1,p,m,Y,er,J,h,ho=>by
  rw[kK]at h;rcases ht:tQ S p m with⟨p1,a0,e1,m1⟩;rw[ht]at h;simp only at h;split at h
  ·rename_i h0
   subst h0;obtain⟨x,rfl,hx⟩:=aMk ht;exact aEO S k _ _ Y er J h (aJB ho hx)
  ·rename_i h0
   simp only[Prod.mk.injEq]at h;exact absurd h.2.2.1 h0
theorem aAg(S:ByteArray)(p:Nat)(hp:p≤S.size)(J:Nat)(er:Int)(m:List (List UInt8))(h:kD S p=(J,er,0,m)) :
 er=0∧J≤S.size∧(∀x∈m,x.length≤1000)∧m.length≤6000∧S.data.toList.drop p=pP m m.length++S.data.toList.drop J∧m.Pairwise (fun a b=>a<b):=by
 unfold kD at h;split at h
 ·rename_i h0
  simp only[Prod.mk.injEq]at h;exact absurd h.2.2.1 h0
 rename_i h0;split at h
 ·simp at h
 rename_i h2;have c0:(ct S p).2.2=0:=by
  have:nE S p 0=0:=by simpa using h0
  unfold nE at this
  simpa using this
 obtain⟨d1,d2,d3⟩:=vM hp c0;have v1:nV S p 0=(ct S p).1:=by unfold nV;simp
 have v2:nP S p 0=p+(ct S p).2.1:=by unfold nP;simp
 rw[v1,v2]at h;rw[v1]at h2;have ho:=aEO S _ _ _ J er m h (by simp);obtain⟨rfl,Y,l,rfl,hl,hx,hd,rfl⟩:=aJi S _ _ _ J er m d3 h;simp only[aX]at hl hx hd ho ⊢;have e0:([]:List (List UInt8)).getLastD [] = []:=rfl;rw[e0]at hd Y ⊢;refine⟨trivial,Y,hx,by omega,?_,ho⟩;rw[aEg,hl,d1,hd,aS]
theorem aLP{S:ByteArray}{p:Nat}(hp:p≤S.size)(J:(vr.tx S p 0).2.2=0):S.data.toList.drop p=(nb (vr.tx S p 0).1.data.toList.length++(vr.tx S p 0).1.data.toList)++S.data.toList.drop (vr.tx S p 0).2.1∧(vr.tx S p 0).2.1≤S.size:=by
 have c1:(ct S p).2.2=0∧¬S.size-(p+(ct S p).2.1)<(ct S p).1:=by
  unfold vr.tx at J;rw[if_neg (by simp)]at J;split at J
  ·rename_i Y
   exact absurd (by simpa using J) Y
  ·rename_i Y
   split at J
   ·simp at J
   ·rename_i h3
    exact⟨by simpa using Y,h3⟩
 obtain⟨g1,g2,g3⟩:=vM hp c1.1;have t1:vr.tx S p 0=(S.extract (p+(ct S p).2.1) (p+(ct S p).2.1+(ct S p).1),p+(ct S p).2.1+(ct S p).1,0):=by
  unfold vr.tx;rw[if_neg (by simp),if_neg (by simp[c1.1]),if_neg c1.2]
 rw[t1];have c2:=c1.2;clear t1 J c1;generalize (ct S p).1=n at *;generalize (ct S p).2.1=z at *;have hT:(S.extract (p+z) (p+z+n)).data.toList=(S.data.toList.drop (p+z)).take n:=by rw[extract_toList];congr 1;omega
 dsimp only;rw[hT];have a0:((S.data.toList.drop (p+z)).take n).length=n:=by rw[List.length_take,List.length_drop,fG];omega
 have e:S.data.toList.drop (p+z+n)=(S.data.toList.drop (p+z)).drop n:=by rw[List.drop_drop]
 rw[a0,g1,e,aS,List.take_append_drop];exact⟨rfl,by omega⟩
theorem aHQ{a b:List UInt8}{Y l2:List (List UInt8)}(h1:(a :: Y).Pairwise (fun a b=>a<b))(h2:(b :: l2).Pairwise (fun a b=>a<b))(h:∀x∈a :: Y,x∈b :: l2):∀x∈Y,x∈l2:=fun x hx=>by
 have J:=(List.pairwise_cons.1 h1).1 x hx;rcases aM.1 (h x (bG _ hx))with rfl | h3
 ·rcases aM.1 (h a (List.mem_cons_self ..))with rfl | h4
  ·exact absurd J (List.lt_irrefl _)
  ·exact absurd (List.lt_trans J ((List.pairwise_cons.1 h2).1 a h4)) (List.lt_irrefl _)
 ·exact h3
theorem aHA:∀(J Y:List (List UInt8)),J.Pairwise (fun a b=>a<b)→Y.Pairwise (fun a b=>a<b)→(∀x∈J,x∈Y)→J.length=Y.length→J=Y
 | [],[],_,_,_,_=>rfl
 | [],_ :: _,_,_,_,h=>by simp at h
 | _ :: _,[],_,_,_,h=>by simp at h
 | a :: J,b :: Y,h1,h2,h,hl=>by
  have ht:=aHQ h1 h2 h;have e:=aHA J Y (List.pairwise_cons.1 h1).2 (List.pairwise_cons.1 h2).2 ht (by simpa using hl);subst e;rcases aM.1 (h a (List.mem_cons_self ..))with rfl | h4
  ·rfl
  ·exact absurd ((List.pairwise_cons.1 h1).1 a h4) (List.lt_irrefl _)
def iW(u:SU):List (List UInt8):=jG ((nS (dF u)).map re.tx)
def gZ(u:SU):List UInt8:=(fQ (iW u) (dF u)).1
def uK:List UInt8:=[119,101,102,116]
def tC(u:SU):List UInt8:=nb 1++(pP (iW u) (iW u).length++(nb (gZ u).length++gZ u))
def oK(u:SU):List UInt8:=uK++tC u
def gP(u:SU):ByteArray:=kE (bs (oK u))
def zH(l:List (List UInt8)):Bool:=l.any (fun t=>decide (1000<t.length))
noncomputable def mU(u:SU):Int:=
 if fH (vR u)≠0 then fH (vR u) else if 6000<(iW u).length then 4 else if zH (iW u)=true then 9 else if 200000<(oK u).length+3 then 9 else 0
noncomputable def aGh(u:SU):ByteArray:=if mU u=0 then gP u else⟨#[]⟩
theorem vI(u:SU):(iW u).Pairwise (fun a b=>a<b):=aGY _
def kZ(t:ByteArray):Bool:=decide (4≤t.size)&&((t.extract 0 4).data.toList==uK)
def bX(t:ByteArray):ByteArray:=t.extract 4 t.size
def jT(t:ByteArray):Int:=
 if kZ t=false then 5 else if nE (bX t) 0 0≠0 then nE (bX t) 0 0 else if nV (bX t) 0 0≠1 then 5
 else if(kD (bX t) (nP (bX t) 0 0)).2.2.1≠0 then(kD (bX t) (nP (bX t) 0 0)).2.2.1
 else dE (bX t) (vr.tx (bX t) (kD (bX t) (nP (bX t) 0 0)).1 0).2.1 (vr.tx (bX t) (kD (bX t) (nP (bX t) 0 0)).1 0).2.2
def fZ(t:ByteArray):List (List UInt8):=(kD (bX t) (nP (bX t) 0 0)).2.2.2
def iE(t:ByteArray):ByteArray:=(vr.tx (bX t) (kD (bX t) (nP (bX t) 0 0)).1 0).1
open Classical in
noncomputable def gU(b:ByteArray):Int:=
 if 200000<b.size then 9 else if okS b=false then 14
 else if jT (bQ b)≠0 then jT (bQ b)
 else if oL (fZ (bQ b)) (iE (bQ b))≠0 then oL (fZ (bQ b)) (iE (bQ b))
 else if fH (vR (kJ (fZ (bQ b)) (iE (bQ b))))≠0 then fH (vR (kJ (fZ (bQ b)) (iE (bQ b))))
 else if iW (kJ (fZ (bQ b)) (iE (bQ b)))≠fZ (bQ b) then 3 else 0
noncomputable def oP(b:ByteArray):SU:=if gU b=0 then kJ (fZ (bQ b)) (iE (bQ b)) else su0
theorem wI{t:ByteArray}(h:jT t=0) :
 t.data.toList=uK++(nb 1++(pP (fZ t) (fZ t).length++(nb (iE t).data.toList.length++(iE t).data.toList)))∧(fZ t).Pairwise (fun a b=>a<b)∧(fZ t).length≤6000∧(∀x∈fZ t,x.length≤1000)∧(iE t).size≤t.size:=by
 unfold jT at h;split at h
 ·simp at h
 rename_i hb;have hb:kZ t=true:=by simpa using hb
 unfold kZ at hb;rw[Bool.and_eq_true,bJ,beq_iff_eq]at hb;obtain⟨h4,a1⟩:=hb;split at h
 ·rename_i h0
  exact absurd h h0
 rename_i h0;have hE:nE (bX t) 0 0=0:=by simpa using h0
 split at h
 ·simp at h
 rename_i h1;have hV:nV (bX t) 0 0=1:=by simpa using h1
 split at h
 ·rename_i h2
  exact absurd h h2
 rename_i h2;have hD:(kD (bX t) (nP (bX t) 0 0)).2.2.1=0:=by simpa using h2
 have hl:(bX t).data.toList=t.data.toList.drop 4:=by
  unfold bX;rw[extract_toList,bE (by rw[List.length_drop,fG];exact aY _)]
 have hz:(bX t).size=t.size-4:=by rw[←fG,hl,List.length_drop,fG]
 have J:t.data.toList=uK++(bX t).data.toList:=by
  rw[hl,←a1,extract_toList];exact(List.take_append_drop 4 _).symm
 obtain⟨b1,_⟩:=aI0 (bA _) hE;have hp:nP (bX t) 0 0≤(bX t).size:=re.eB (bX t) 0 0 (bA _);rw[hV]at b1;have d0:dr (bX t) 0=(bX t).data.toList:=by unfold dr;rw[List.drop_zero]
 rw[d0]at b1;unfold fZ iE;rcases hR:kD (bX t) (nP (bX t) 0 0)with⟨Y,er,d,m⟩;rw[hR]at h hD;dsimp only at h hD ⊢;subst hD;obtain⟨rfl,a2,hx,hm,hd,ho⟩:=aAg (bX t) _ hp Y er m hR;have hT:(vr.tx (bX t) Y 0).2.2=0∧(bX t).size≤(vr.tx (bX t) Y 0).2.1:=by
  unfold dE at h;split at h
  ·simp at h
  ·rename_i hx
   exact⟨h,by
    rcases Nat.lt_or_ge (vr.tx (bX t) Y 0).2.1 (bX t).size with a3 | a4
    ·exact absurd ⟨h,a3⟩ hx
    ·exact a4⟩
 obtain⟨e1,e2⟩:=aLP a2 hT.1;have a0:(bX t).data.toList.drop (vr.tx (bX t) Y 0).2.1=[]:=List.drop_eq_nil_iff.2 (by rw[fG];exact hT.2);rw[a0,List.append_nil]at e1;have a5:(vr.tx (bX t) Y 0).1.size≤(bX t).size:=by
  have:=congrArg List.length e1;rw[List.length_drop,fG,aF,fG]at this;omega
 refine⟨?_,ho,hm,hx,by omega⟩;rw[J,b1];unfold dr;rw[hd,e1]
theorem aBI{α β:Type}(f:α→List β):∀(l:List α) (x:α),x∈l→(f x).length≤(l.flatMap f).length
 | a :: l,x,h=>by
  rw[List.flatMap_cons,aF];rcases aM.1 h with rfl | h
  ·omega
  ·have:=aBI f l x h
   omega
theorem aDg:∀{l:List Int},fH l=0→∀x∈l,x=0
 | [],_,x,J=>by cases J
 | a :: l,h,x,J=>by
  unfold fH at h;split at h
  ·rename_i h0
   rcases aM.1 J with rfl | J
   ·exact h0
   ·exact aDg h x J
  ·rename_i h0
   exact absurd h h0
theorem zP{α:Type}{chk:α→Int}{bad:α→α→Bool}:∀{l:List α} {p:Option α},lZ chk bad p l=0→∀x∈l,chk x=0
 | [],_,_,x,J=>by cases J
 | a :: l,p,h,x,J=>by
  unfold lZ at h;split at h
  ·rename_i h0
   rcases hb:aL1 bad p a with _ | _
   ·rw[hb,cond_false]at h
    rcases aM.1 J with rfl | J
    ·exact h0
    ·exact zP h x J
   ·rw[hb,cond_true]at h
    simp at h
  ·rename_i h0
   exact absurd h h0
theorem aBe{a b:Int}(h:mV a b=0):a=0∧b=0:=by
 unfold mV at h;split at h
 ·rename_i h0
  exact⟨h0,h⟩
 ·rename_i h0
  exact absurd h h0
theorem aDX{s:SS}(h:iJ s=0):(∀o∈s.objs,jQ o=0)∧(∀f∈s.fns,xY f=0)∧(∀c∈s.cons,iN c=0):=by
 unfold iJ at h;split at h
 ·simp at h
 obtain⟨h1,h⟩:=aBe h;obtain⟨Y,J⟩:=aBe h;exact⟨zP h1,zP Y,zP J⟩
theorem aHG{o:SO}(h:jQ o=0):∀m∈o.marks,0≤m.at_∧m.at_≤64:=by
 unfold jQ at h;split at h
 ·simp at h
 split at h
 ·simp at h
 rename_i J;split at h
 ·rename_i hm
  intro m Y;obtain⟨i,hi,rfl⟩:=List.mem_iff_getElem.1 Y;obtain⟨a1,a2,_⟩:=hm i o.marks[i] hi (aN hi);have J:eD o.kinds 1 64=true:=by simpa using J
  unfold eD at J;simp only[Bool.and_eq_true,bJ]at J;omega
 ·simp at h
theorem aLY{c:SC}(h:iN c=0):(0≤c.op∧c.op≤6)∧0≤c.k∧c.k≤64:=by
 unfold iN at h;split at h
 ·simp at h
 split at h
 ·simp at h
 split at h
 ·rename_i hr
  refine⟨by omega,?_⟩;unfold bP at hr;split at hr
  ·simp only[Bool.and_eq_true,bJ]at hr
   omega
  split at hr
  ·simp only[Bool.and_eq_true,bJ]at hr
   omega
  ·simp only[Bool.and_eq_true,bJ]at hr
   omega
 ·simp at h
theorem aEQ{l:List ByteArray}{k:Int}(h:Ev.n k∈fB l):k=l.length:=by
 unfold fB at h;rcases aM.1 h with h | h
 ·injection h
 ·obtain⟨s,_,h⟩:=List.mem_map.1 h
  cases h
theorem aMa{u:SU}(h:fH (vR u)=0)(hl:(dF u).length≤999000)(k:Int)(J:Ev.n k∈dF u):0≤k∧k≤268435456:=by
 have hc:iJ u.sys=0:=aDg h _ (by unfold vR;simp);obtain⟨ho,_,hcs⟩:=aDX hc;unfold dF at hl J;simp only[aG,aF]at hl;have lL:∀l:List ByteArray,(fB l).length=l.length+1:=re.aBK;simp only[lL]at hl;rcases aM.1 J with J | J
 ·cases J
 rcases List.mem_append.1 J with J | J
 ·have:=aEQ J
  omega
 rcases List.mem_append.1 J with J | J
 ·have:=aEQ J
  omega
 rcases List.mem_append.1 J with J | J
 ·have:=aEQ J
  omega
 rcases List.mem_append.1 J with J | J
 ·unfold pY at J hl
  rw[aG]at hl;rcases aM.1 J with J | J
  ·injection J with J
   have:u.sys.objs.length≤(u.sys.objs.flatMap iR).length:=by
    have:=List.length_flatMap (l:=u.sys.objs) (f:=iR);rw[this];clear this J hl ho;generalize u.sys.objs=l
    induction l with
    | nil=>simp
    | cons a l ih=>
     simp only[aV,List.sum_cons,aG];have:0<(iR a).length:=by simp[iR]
     omega
   omega
  ·obtain⟨o,Y,J⟩:=List.mem_flatMap.1 J
   have a0:=aBI iR _ o Y;have e1:(iR o).length=2+(1+(o.marks.flatMap pV).length):=by
    unfold iR rY;simp only[aG];omega
   rw[e1]at a0;unfold iR at J;rcases aM.1 J with J | J
   ·cases J
   rcases aM.1 J with J | J
   ·cases J
   unfold rY at J;rcases aM.1 J with J | J
   ·injection J with J
    have h2:o.marks.length≤(o.marks.flatMap pV).length:=by
     clear J a0 Y;generalize o.marks=l
     induction l with
     | nil=>simp
     | cons a l ih => rw[List.flatMap_cons,aF,aG];have:(pV a).length=2:=rfl
                      omega
    omega
   ·obtain⟨m,hm,J⟩:=List.mem_flatMap.1 J
    have:=aHG (ho o Y) m hm;simp only[pV,aM,aT,or_false]at J;rcases J with J | J
    ·injection J with J
     omega
    ·cases J
 rcases List.mem_append.1 J with J | J
 ·unfold qL at J hl
  rw[aG]at hl;rcases aM.1 J with J | J
  ·injection J with J
   have h2:u.sys.fns.length≤(u.sys.fns.flatMap lW).length:=by
    clear J hl;generalize u.sys.fns=l
    induction l with
    | nil=>simp
    | cons a l ih => rw[List.flatMap_cons,aF,aG];have:(lW a).length=3:=rfl
                     omega
   omega
  ·obtain⟨f,_,J⟩:=List.mem_flatMap.1 J
   simp[lW]at J
 ·unfold qU at J hl
  rw[aG]at hl;rcases aM.1 J with J | J
  ·injection J with J
   have h2:u.sys.cons.length≤(u.sys.cons.flatMap mJ).length:=by
    clear J hl hcs;generalize u.sys.cons=l
    induction l with
    | nil=>simp
    | cons a l ih => rw[List.flatMap_cons,aF,aG];have:0<(mJ a).length:=by simp[mJ]
                     omega
   omega
  ·obtain⟨c,a1,J⟩:=List.mem_flatMap.1 J
   have a2:=aBI mJ _ c a1;have h2:=aLY (hcs c a1);have e1:(mJ c).length=5+(c.args.length+1):=by
    unfold mJ;simp only[aG,lL];omega
   rw[e1]at a2;unfold mJ at J;rcases aM.1 J with J | J
   ·injection J with J
    omega
   rcases aM.1 J with J | J
   ·cases J
   rcases aM.1 J with J | J
   ·cases J
   rcases aM.1 J with J | J
   ·injection J with J
    omega
   rcases aM.1 J with J | J
   ·cases J
   have:=aEQ J;omega
theorem zK:∀{l:List Ev} {s:ByteArray},Ev.t s∈l↔s∈nS l
 | [],s=>by simp[nS]
 | .n k :: l,s=>by
  show _↔s∈nS l;rw[aM,←zK];simp
 | .t x :: l,s=>by
  show _↔s∈x :: nS l;rw[aM,aM,←zK];simp
theorem aHB{u:SU}{s:ByteArray}(h:Ev.t s∈dF u):re.tx s∈iW u:=(vK _ _).2 (List.mem_map.2 ⟨s,zK.1 h,rfl⟩)
theorem aEk(u:SU):(iW u).length≤(dF u).length:=by
 have J:=aBL ((nS (dF u)).map re.tx);have Y:=re.vG (dF u);rw[aH]at J;unfold iW;omega
theorem aMK{u:SU}(h:fH (vR u)=0)(hl:(dF u).length≤999000):∀e∈dF u,aAf (iW u) e:=fun e J=>by
 cases e with
 | n k=>exact aMa h hl k J
 | t s=>
  refine⟨aHB J,?_⟩;have h1:=List.idxOf_lt_length_of_mem (aHB J);have Y:=aEk u;omega
theorem aIW{u:SU}(h:fH (vR u)=0)(hl:(dF u).length≤999000):fQ (iW u) (dF u)=(gZ u,0)∧gZ u=qY (iW u) (dF u):=by
 have e:fQ (iW u) (dF u)=([]++qY (iW u) (dF u),0):=wR (dF u) [] (aMK h hl);unfold gZ;rw[e];exact⟨rfl,rfl⟩
theorem aHW{m:List (List UInt8)}(J:m.Pairwise (fun a b=>a<b)){S:ByteArray}(h:oL m S=0):∀x∈iW (kJ m S),x∈m:=fun x Y=>by
 have hb:=(zC J S h).1;obtain⟨_,hk⟩:=pX (dF (kJ m S)) ([],0) (by show(fQ m (dF (kJ m S))).2=0;rw[hb]);obtain⟨s,hs,rfl⟩:=List.mem_map.1 ((vK _ _).1 Y);exact(hk _ (zK.2 hs)).1
theorem aKv{m:List (List UInt8)}(J:m.Pairwise (fun a b=>a<b)){S:ByteArray}(h:oL m S=0):(iW (kJ m S)).length=m.length↔iW (kJ m S)=m:=
 ⟨fun hl=>aHA _ _ (vI _) J (aHW J h) hl,fun e=>by rw[e]⟩
theorem aFv{l:List (List UInt8)}(h:zH l=false):∀x∈l,x.length≤1000:=fun x J=>by
 unfold zH at h;have:=List.any_eq_false.1 h x J
 simpa using this
theorem aKn{l:List (List UInt8)}(h:∀x∈l,x.length≤1000):zH l=false:=by
 unfold zH;rw[List.any_eq_false];intro x J;have:=h x J;simp;omega
theorem aJb{u:SU}(h:mU u=0):fH (vR u)=0∧(iW u).length≤6000∧(∀x∈iW u,x.length≤1000)∧(oK u).length+3≤200000:=by
 unfold mU at h;split at h
 ·rename_i h0
  exact absurd h h0
 rename_i h0;split at h
 ·simp at h
 rename_i Y;split at h
 ·simp at h
 rename_i J;split at h
 ·simp at h
 exact⟨by simpa using h0,by omega,aFv (by simpa using J),by omega⟩
theorem nG(l:List UInt8):(bs l).size=l.length:=rfl
theorem aBr(u:SU):(gP u).size=(oK u).length+3:=by
 unfold gP;rw[qQ,nG]
theorem aGr(s:ByteArray):bQ (kE s)=s:=by
 unfold bQ;rw[if_pos (aE2 s),qQ,Nat.add_sub_cancel];exact aEJ s _
theorem aKf(s:ByteArray):bs s.data.toList=s:=rfl
theorem aKr(l:List UInt8):(bs l).data.toList=l:=rfl
theorem aGo{u:SU}(h:mU u=0)(hs:aDA u)(hl:(dF u).length≤999000):gU (gP u)=0∧oP (gP u)=u:=by
 obtain⟨h0,h1,h2,h3⟩:=aJb h;obtain⟨hr,_⟩:=aIW h0 hl;have J:bQ (gP u)=bs (oK u):=aGr _;have Y:(bs (oK u)).data.toList=uK++tC u:=rfl;have a0:kZ (bs (oK u))=true:=by
  unfold kZ;rw[extract_toList,Y,Bool.and_eq_true,beq_iff_eq,bJ,nG];refine⟨?_,rfl⟩;show 4≤(uK++tC u).length;rw[aF];exact Nat.le_add_right _ _
 have hS:(bX (bs (oK u))).data.toList=tC u:=by
  unfold bX;rw[extract_toList,Y];have e:(uK++tC u).drop 4=tC u:=rfl;rw[e];refine bE ?_;have:(bs (oK u)).size=(uK++tC u).length:=rfl;rw[this,aF];have:uK.length=4:=rfl;omega
 generalize hT:bX (bs (oK u))=T at *;have a3:T.size=(tC u).length:=by rw[←fG,hS]
 have a5:(tC u).length≤200000:=by
  have:(oK u).length=4+(tC u).length:=by unfold oK;rw[aF];rfl
  omega
 have d0:dr T 0=nb 1++(pP (iW u) (iW u).length++(nb (gZ u).length++gZ u)):=by unfold dr;rw[List.drop_zero,hS];rfl
 obtain⟨n1,n2,n3⟩:=aHT d0 (by omega);have d1:=uG d0;have hR:=aFD T (by omega) _ (iW u) _ d1 h1 h2 (vI u);have d2:=uG (S:=T) d1;have a6:(gZ u).length≤(tC u).length:=by unfold tC;simp only[aF];omega
 have hc:cnt (T.data.toList.drop (0+(nb 1).length+(pP (iW u) (iW u).length).length))=((gZ u).length,(nb (gZ u).length).length,0):=by
  have:T.data.toList.drop (0+(nb 1).length+(pP (iW u) (iW u).length).length)=nb (gZ u).length++gZ u:=d2;rw[this];exact aAl _ _ (by omega)
 have d3:=uG (S:=T) (p:=0+(nb 1).length+(pP (iW u) (iW u).length).length) (a:=nb (gZ u).length) (r:=gZ u) d2;have hlen:T.size=0+(nb 1).length+(pP (iW u) (iW u).length).length+(nb (gZ u).length).length+(gZ u).length:=by
  rw[a3];unfold tC;simp only[aF];omega
 have hX:=aKX hc (by omega);have a2:(T.extract (0+(nb 1).length+(pP (iW u) (iW u).length).length+(nb (gZ u).length).length) (0+(nb 1).length+(pP (iW u) (iW u).length).length+(nb (gZ u).length).length+(gZ u).length))=bs (gZ u):=by
  apply ByteArray.ext
  apply Array.ext'
  rw[extract_toList];have:T.data.toList.drop (0+(nb 1).length+(pP (iW u) (iW u).length).length+(nb (gZ u).length).length)=gZ u:=d3;rw[this,bE (by omega)];rfl
 rw[a2]at hX;have eP:nP T 0 0=0+(nb 1).length:=n2;have e1:jT (bs (oK u))=0:=by
  unfold jT;rw[hT,if_neg (by rw[a0];simp),n1,n3,eP,hR,if_neg (by simp),if_neg (by simp),if_neg (by simp)];dsimp only;rw[hX];dsimp only;unfold dE;rw[if_neg (by rw[hlen];simp)]
 have e2:fZ (bs (oK u))=iW u:=by
  unfold fZ;rw[hT,eP,hR]
 have e3:iE (bs (oK u))=bs (gZ u):=by
  unfold iE;rw[hT,eP,hR];dsimp only;rw[hX]
 obtain⟨k1,k2⟩:=aKW (vI u) u hs (by rw[hr]);rw[hr]at k1 k2;have a4:bs (qJ (gZ u,0))=bs (gZ u):=rfl;rw[a4]at k1 k2;have hd:gU (gP u)=0:=by
  unfold gU;rw[J,e1,e2,e3,k1,k2,aBr,if_neg (by omega)];have a1:okS (gP u)=true:=aE2 _;rw[if_neg (by rw[a1];simp),if_neg (by simp),if_neg (by simp),if_neg (by rw[h0];simp),if_neg (by simp)]
 refine⟨hd,?_⟩;unfold oP;rw[if_pos hd,J,e2,e3,k2]
theorem aCn{b:ByteArray}(h:gU b=0):b.size≤200000∧okS b=true∧jT (bQ b)=0∧oL (fZ (bQ b)) (iE (bQ b))=0∧fH (vR (kJ (fZ (bQ b)) (iE (bQ b))))=0∧iW (kJ (fZ (bQ b)) (iE (bQ b)))=fZ (bQ b):=by
 unfold gU at h;split at h
 ·simp at h
 rename_i h1;split at h
 ·simp at h
 rename_i J;split at h
 ·rename_i h0;exact absurd h h0
 rename_i Y;split at h
 ·rename_i h0;exact absurd h h0
 rename_i h4;split at h
 ·rename_i h0;exact absurd h h0
 rename_i h5;split at h
 ·simp at h
 rename_i h6;exact⟨by omega,by simpa using J,Classical.not_not.1 Y,Classical.not_not.1 h4,Classical.not_not.1 h5,Classical.not_not.1 h6⟩
theorem aKI{b:ByteArray}(h:okS b=true):kE (bQ b)=b∧b.size=(bQ b).size+3:=by
 have e:kE (bQ b)=b:=by
  unfold bQ;rw[if_pos h];unfold okS at h;rw[Bool.and_eq_true,beq_iff_eq]at h;have:=h.2;rw[ByteArray.toList_eq,ByteArray.toList_eq]at this;exact ByteArray.ext (Array.ext' this)
 refine⟨e,?_⟩
 conv=>lhs;rw[←e]
 exact qQ _
theorem aFI{b:ByteArray}(h:gU b=0):mU (oP b)=0∧gP (oP b)=b∧(dF (oP b)).length≤b.size:=by
 obtain⟨h1,Y,h3,h4,h5,J⟩:=aCn h;have hd:oP b=kJ (fZ (bQ b)) (iE (bQ b)):=by unfold oP;rw[if_pos h]
 obtain⟨a1,a2,a3,a4,a5⟩:=wI h3;obtain⟨s1,s2⟩:=aKI Y;obtain⟨b1,b2⟩:=zC a2 (iE (bQ b)) h4;rw[hd];generalize kJ (fZ (bQ b)) (iE (bQ b))=u at *;have hr:gZ u=(iE (bQ b)).data.toList:=by unfold gZ;rw[J,b1]
 have hi:oK u=(bQ b).data.toList:=by
  unfold oK tC;rw[hr,J,a1]
 have hz:(oK u).length=(bQ b).size:=by rw[hi,fG]
 refine⟨?_,?_,by omega⟩
 ·unfold mU
  rw[if_neg (by rw[h5];simp),if_neg (by rw[J];omega),if_neg (by rw[J,aKn a4];simp),if_neg (by omega)]
 ·unfold gP
  rw[hi,aKf,s1]
end sf
namespace sf
open RowKit Go.Sort Shelf mem vr po inn sy
open re (MU SU gH dF fQ nS uZ aA5 aK2 aAR RP TP)
open nm (jI bR)
def aGc(u:SU)(w:World)(e:Ending)(w':World):Prop:=e=.returned (.tuple #[.string (aGh u),.int .i64 (mU u)])∧Below w.heap.size w w'
theorem aKs{u:SU}{d:Int}(h:mU u=d)(hd:d≠0){w w':World}(hb:Below w.heap.size w w'):aGc u w (.returned (.tuple #[.string ⟨#[]⟩,.int .i64 d])) w':=by
 subst h;refine⟨?_,hb⟩;unfold aGh;rw[if_neg hd]
theorem aK9{u:SU}(h:mU u=0){w w':World}(hb:Below w.heap.size w w'):aGc u w (.returned (.tuple #[.string (gP u),.int .i64 0])) w':=by
 refine⟨?_,hb⟩;unfold aGh;rw[if_pos h,h]
structure EK(w:World)(u:MU):Prop where
 k:aGU w u
 l:(dF u.su).length≤999000
 a:∀c∈u.su.sys.cons,c.args.length≤8796093022208
theorem EK.below{w w':World}{u:MU}(h:EK w u)(hb:Below w.heap.size w w'):EK w' u:=⟨h.k.below hb,h.l,h.a⟩
theorem aKl(W:World)(l:List ByteArray):F1 W (.func (.func 29) #[] #[]) l (fun s=>decide (1000<s.size)):=by
 refine⟨_,_,rfl,(fun args w=>by go_simp),fun w hw s hs=>?_⟩;show Calls Tryz.prog 29 #[.string s] w (fun e J=>e=.returned (.bool (decide (1000<s.size)))∧Below w.heap.size w J);have hR:=hid (Below.refl w.heap.size w);have Y:decide (1000<s.size)=decide ((1000:Int)<(s.size:Int)):=by rw[decide_eq_decide];omega
 rw[Y];clear hw hs Y;go_enter Tryz.func29,Tryz.ntmps29;go_wp2_with fail;go_ret;exact⟨rfl,hR.out⟩
theorem aMo(w:World):WA (w.alloc (.cells #[.slice none 0 0,.int .i64 0] 63)) w.heap.size none 0 ([],0):=⟨bV.new w _ _,Seg.nil _ _⟩
theorem aJq(T:List (List UInt8)):((T.map bs).any (fun s=>decide (1000<s.size)))=zH T:=by
 unfold zH;rw[List.any_map];rfl
theorem aLB(T:List (List UInt8)):(T.map bs).map Value.string=T.map encStr:=by
 rw[List.map_map];rfl
theorem xK{W w w':World}{f:Nat}{A:Option Addr}(J:Below W.heap.size W w)(Y:∀x∈f :: blk A,W.heap.size≤x)(fr:Fr (f :: blk A) w w'):Below W.heap.size W w':=J.trans (fr.below Y J.size)
theorem aCy{W w:World}{f:Nat}{A Y:Option Addr}(hW:Below W.heap.size W w)(h1:∀x∈f :: blk A,W.heap.size≤x)(ho:∀g∈blk Y,g∈blk A∨w.heap.size≤g):∀x∈f :: blk Y,W.heap.size≤x:=fun x J=>by
 rcases aM.1 J with rfl | J
 ·exact h1 _ (List.mem_cons_self ..)
 ·rcases ho x J with h | h
  ·exact h1 x (bG _ h)
  ·exact aZ hW.size h
theorem aDJ(w:World)(u:MU)(hk:EK w u)(am:jI w):Calls Tryz.prog 9 #[u.val] w (aGc u.su w):=by
 obtain⟨W,ak⟩:∃W,Hid (W=w.alloc (.cells u.row 29)):=⟨_,hid rfl⟩;have b0:Below w.heap.size w W:=by rw[ak.out];exact(Below.refl _ _).alloc (aY _) _
 have B:bV W w.heap.size 29 u.row:=by rw[ak.out];exact bV.new _ _ _
 have HC:Hid (∀J,Below W.heap.size W J→J.cell? ⟨w.heap.size,0,none⟩=some (.string u.name)∧J.cell? ⟨w.heap.size,1,none⟩=some (.slice u.gA u.gives.length u.gc)∧J.cell? ⟨w.heap.size,2,none⟩=some (.slice u.wA u.wants.length u.wc)∧J.cell? ⟨w.heap.size,3,none⟩=some (.slice u.kA u.keeps.length u.kc)∧J.cell? ⟨w.heap.size,4,none⟩=some (.slice u.s.oA u.s.os.length u.s.oc)∧J.cell? ⟨w.heap.size,5,none⟩=some (.slice u.s.fA u.s.fs.length u.s.fc)∧J.cell? ⟨w.heap.size,6,none⟩=some (.slice u.s.cA u.s.cs.length u.s.cc)):=hid (fun J b=>by
  have x:=B.kept (Fr.of_below b []) (by simp)
  exact⟨x.cell 0,x.cell 1,x.cell 2,x.cell 3,x.cell 4,x.cell 5,x.cell 6⟩)
 have HE:Hid (∀J,Below W.heap.size W J→Below w.heap.size w J):=hid (fun J b=>b0.trans (b.mono b0.size));have R0:=hid (Below.refl W.heap.size W);have HK:∀J,Below W.heap.size W J→EK J u:=fun J b=>(hk.below b0).below b
 have KC:=hid (fun(J:World) (b:Below W.heap.size W J)=>aAP J u (HK J b).k (bR (bR am b0) b));have KX:=hid (fun(J:World) (b:Below W.heap.size W J)=>uZ J u (HK J b).k.m (aZ hk.l (by decide)));have aj:jG ((nS (dF u.su)).map re.tx)=iW u.su:=rfl;rw[aj]at KX;have bj:=vI u.su;have bh:=aZ (aEk u.su) hk.l
 have KB:Hid (∀(J:World) (pb:Nat) (pA:Option Addr) (pc:Nat),Below W.heap.size W J→fH (vR u.su)=0→Pl J pb pA pc (iW u.su)→Calls Tryz.prog 31 #[.pointer (some ⟨pb,0,none⟩),u.val] J (fun e w'=>e=.returned (.tuple #[.string (bs (gZ u.su)),.int .i64 0])∧Below J.heap.size J w')):=hid (fun J pb pA pc b h0 hp=>by
  have h:=aA5 J pb pA pc (iW u.su) hp bj (by omega) u (HK J b).k.m (by unfold re.MX;exact aZ hk.l (by decide));unfold RP at h;rw[(aIW h0 hk.l).1]at h
  exact h)
 have KP:=hid (fun(J:World) (pA:Option Addr) (pc:Nat) (hp:Rd J pA ((iW u.su).map encStr))=>aK2 J pA pc ((nS (dF u.su)).map re.tx) hp (by rw[aj];omega));rw[aj]at KP
 have a8:Hid (fH (vR u.su)=0→(gZ u.su).length≤5000000):=hid (fun h0=>by
  have:=re.nR (iW u.su) (dF u.su);have:=hk.l;unfold gZ
  omega)
 have o0:Hid (fH (vR u.su)≠0→mU u.su=fH (vR u.su)):=hid (fun h=>by unfold mU;rw[if_pos h]);have o1:Hid (fH (vR u.su)=0→6000<(iW u.su).length→mU u.su=4):=hid (fun h h1=>by unfold mU;rw[if_neg (by simp[h]),if_pos h1]);have o2:Hid (fH (vR u.su)=0→¬6000<(iW u.su).length→zH (iW u.su)=true→mU u.su=9):=hid (fun h h1 h2=>by unfold mU;rw[if_neg (by simp[h]),if_neg h1,if_pos h2])
 have o3:Hid (fH (vR u.su)=0→¬6000<(iW u.su).length→zH (iW u.su)=false→200000<(nb 1++(pP (iW u.su) (iW u.su).length++(nb (gZ u.su).length++gZ u.su))).length+7→mU u.su=9):=hid (fun h h1 h2 h3=>by
  unfold mU;rw[if_neg (by simp[h]),if_neg h1,if_neg (by simp[h2]),if_pos];unfold oK tC;rw[aF];have:uK.length=4:=rfl
  omega)
 have o4:Hid (fH (vR u.su)=0→¬6000<(iW u.su).length→zH (iW u.su)=false→¬200000<(nb 1++(pP (iW u.su) (iW u.su).length++(nb (gZ u.su).length++gZ u.su))).length+7→mU u.su=0):=hid (fun h h1 h2 h3=>by
  unfold mU;rw[if_neg (by simp[h]),if_neg h1,if_neg (by simp[h2]),if_neg];unfold oK tC;rw[aF];have:uK.length=4:=rfl
  omega)
 have hF:Hid (gP u.su=cr.kE ⟨([119,101,102,116]++(nb 1++(pP (iW u.su) (iW u.su).length++(nb (gZ u.su).length++gZ u.su)))).toArray⟩):=hid (by
  unfold gP oK tC uK bs
  rfl)
 have bw:=hid bh;have bm:Hid (zH (iW u.su)=false→∀x∈iW u.su,x.length≤1000):=hid aFv;obtain⟨x0,x1,x2,x3,x4,x5,x6⟩:=HC.out W R0.out;have a0:Hid (∀d w',mU u.su=d→d≠0→Below w.heap.size w w'→aGc u.su w (.returned (.tuple #[.string ⟨#[]⟩,.int .i64 d])) w'):=hid (fun d w' h hd hb=>aKs h hd hb);have a3:Hid (∀w',mU u.su=0→Below w.heap.size w w'→aGc u.su w (.returned (.tuple #[.string (gP u.su),.int .i64 0])) w'):=hid (fun w' h hb=>aK9 h hb);unfold sy.dG at KC;unfold TP at KX;unfold aAR at KP;unfold MU.val at KC KX KB ⊢;unfold MU.row at *;clear hk am b0 B HK bj bh aj;generalize mU u.su=EE at *;generalize gP u.su=FF at *;generalize gZ u.su=RR at *;generalize iW u.su=T at *;generalize fH (vR u.su)=E at *;go_enter Tryz.func9,Tryz.ntmps9;go_upto_region 1 with fail;rw[←ak.out];clear ak;generalize bl:w.heap.size=bx at *;replace bl:=hid bl;have KA:=hid (KC.out W R0.out)
 go_wp2_with fail;refine KA.out.mono ?_;rintro e J ⟨rfl,b2⟩;have B2:=hid (R0.out.trans b2);clear b2 KA KC x0 x1 x2 x3 x4 x5 x6;by_cases h0:E=0;rotate_left
 ·have q0:(E != 0)=true:=by simpa using h0
  have T1:=hid (a0.out E J (o0.out h0) h0 (HE.out _ B2.out));clear KX KB KP o0 o1 o2 o3 o4 hF a0 a3 HC HE;go_wp2_with fail;go_ret2;exact T1.out
 have q0:(E != 0)=false:=by simpa using h0
 obtain⟨x0,x1,x2,x3,x4,x5,x6⟩:=HC.out J B2.out;have KA:=hid (KX.out J B2.out);go_wp2_with fail;refine KA.out.mono ?_;rintro e w3 ⟨A,cap,rfl,bc,b3⟩;have R3:=hid bc;have B3:=hid (B2.out.trans (b3.mono B2.out.size));clear bc b3 KA KX x0 x1 x2 x3 x4 x5 x6 B2;by_cases h1:6000<T.length
 ·have q1:decide ((6000:Int)<(T.length:Int))=true:=aC (by omega)
  have T1:=hid (a0.out 4 w3 (o1.out h0 h1) (by decide) (HE.out _ B3.out));clear KB KP o0 o1 o2 o3 o4 hF a0 a3 HC HE;go_wp2_with fail;go_ret2;exact T1.out
 have q1:decide ((6000:Int)<(T.length:Int))=false:=aB (by omega);have KF:=hid (wW w3 A cap (T.map bs) (.func (.func 29) #[] #[]) (fun s=>decide (1000<s.size)) (by rw[aLB];exact R3.out) (aKl w3 _) (by rw[aH];unfold maxLen;omega));rw[aH,aJq]at KF;unfold dA at KF;replace o2:=hid (o2.out h0 h1);replace o3:=hid (o3.out h0 h1);replace o4:=hid (o4.out h0 h1);replace a8:=hid (a8.out h0);generalize zH T=g at *;go_wp2_with fail;refine KF.out.mono ?_;rintro e w4 ⟨rfl,b4⟩;have B4:=hid (B3.out.trans (b4.mono B3.out.size));have R4:=hid (R3.out.below b4);clear b4 KF R3 B3;rcases g with _ | _;rotate_left
 ·have T1:=hid (a0.out 9 w4 (o2.out rfl) (by decide) (HE.out _ B4.out))
  clear KB KP o0 o1 o2 o3 o4 hF a0 a3 HC HE;go_wp2_with fail;go_ret2;exact T1.out
 have ao:=bm.out rfl;have ba:=hid ao;have ae:=hid (aKE T (by omega) ao);replace o3:=hid (o3.out rfl);replace o4:=hid (o4.out rfl);clear o0 o1 o2 bm ao;have KA:=hid (KP.out w4 A cap R4.out);go_wp2_with fail;refine KA.out.mono ?_;rintro e w5 ⟨pb,pA,pc,rfl,au,b5⟩;have P5:=hid au;have B5:=hid (B4.out.trans (b5.mono B4.out.size));have KA:=hid (KB.out w5 pb pA pc B5.out h0 au);obtain⟨x0,x1,x2,x3,x4,x5,x6⟩:=HC.out w5 B5.out;clear KP KB b5 R4 B4 au;generalize ai:bs RR=br at *;replace ai:=hid ai;go_wp2_with fail;refine KA.out.mono ?_;rintro e w6 ⟨rfl,b6⟩;have P6:=hid (P5.out.below b6);have B6:=hid (B5.out.trans (b6.mono B5.out.size));clear b6 KA P5 B5 x0 x1 x2 x3 x4 x5 x6 HC;go_upto_region 14 with fail;have WN:=hid (aMo w6);have b9:Hid ((w6.alloc (.cells #[.slice none 0 0,.int .i64 0] 63)).heap.size=w6.heap.size+1):=hid (bH _);have B7:=hid (B6.out.alloc B6.out.size (.cells #[.slice none 0 0,.int .i64 0] 63))
 have P7:=hid (P6.out.below ((Below.refl w6.heap.size w6).alloc (aY _) (.cells #[.slice none 0 0,.int .i64 0] 63)))
 have a7:Hid (pb∉w6.heap.size :: blk none∧pb<w6.heap.size∧∀g∈blk pA,0<T.length→g<w6.heap.size):=hid (by
  have h1:pb<w6.heap.size:=P6.out.box.lt;refine⟨by simp[blk];omega,h1,fun g hg hz=>?_⟩;obtain⟨g2,o2,e2,bu,_⟩:=P6.out.rd (by simpa using hz);subst e2;simp[blk]at hg
  omega)
 have ay:W.heap.size≤w6.heap.size:=B6.out.size;generalize (w6.alloc (.cells #[.slice none 0 0,.int .i64 0] 63))=w7 at *;generalize hf:w6.heap.size=f at *;clear P6 B6;have K8:=hid (aCf 1 (zV.start WN.out) (by decide) (by simp));rw[aX]at K8;have bp:=b9.out;go_wp2_with fail;refine K8.out.mono ?_;rintro e w8 ⟨rfl,A8,c8,h8⟩;have H8:=hid h8;have bf:pb∉f :: blk A8:=by
  intro hm;rcases aM.1 hm with h | h
  ·have:=a7.out.2.1;omega
  ·rcases h8.own pb h with h | h
   ·simp[blk]at h
   ·have:=a7.out.2.1;omega
 have bn:0<T.length→∀g∈blk pA,g∉f :: blk A8:=by
  intro hz g hg hm;have bq:=a7.out.2.2 g hg hz;rcases aM.1 hm with h | h
  ·omega
  ·rcases h8.own g h with h | h
   ·simp[blk]at h
   ·omega
 have P8:=hid (P7.out.kept h8.fr (by simp[blk];have:=a7.out.2.1;omega) (fun hz g hg=>by simp[blk];have:=a7.out.2.2 g hg hz;omega));have K9:=hid (aJZ w8 pb pA pc T f A8 c8 (nb 1) P8.out h8.wa bf bn (by omega) (fun x hx=>aZ (ba.out x hx) (by decide)) ae.out (by have:=lI 1 (by omega);omega));have B8:=hid (xK B7.out (A:=none) (by simp[blk];exact ay) h8.fr);have G8:=hid (aCy B7.out (A:=none) (by simp[blk];exact ay) h8.own);clear WN K8 h8 P7 a7 bf bn ay B7 b9 bp;go_wp2_with fail;refine K9.out.mono ?_;rintro e w9 ⟨rfl,A9,c9,h9⟩;have B9:=hid (xK B8.out G8.out h9.fr);have G9:=hid (aCy B8.out G8.out h9.own);have bv:(nb 1++pP T T.length).length≤40000010:=by
  have h1:=ae.out T.length (aY _);have h2:=lI 1 (by omega);rw[aF];omega
 have a1:=hid (vr.aHZ w9 f A9 c9 (nb 1++pP T T.length,0) br h9.wa (by show(nb 1++pP T T.length).length≤_;omega));have bd:br.size=RR.length:=by rw[←ai.out];rfl
 have b8:br.data.toList=RR:=by rw[←ai.out];rfl
 have aw:=lI RR.length (by have:=a8.out;omega);have bg:(nb 1++(pP T T.length++(nb RR.length++RR))).length=(nb 1++pP T T.length).length+(nb RR.length).length+RR.length:=by simp only[aF];omega
 have ap:(nb 1++pP T T.length)++(nb RR.length++RR)=nb 1++(pP T T.length++(nb RR.length++RR)):=by simp only[aS]
 have av:=a8.out;unfold vr.aG9 at a1;rw[if_neg (by simp),bd,b8]at a1;dsimp only at a1;rw[ap]at a1;clear K9 h9 B8 G8 P8 H8 b8 ae ba;generalize nb 1++(pP T T.length++(nb RR.length++RR))=X at *;generalize nb 1++pP T T.length=S9 at *;by_cases h3:200000<RR.length
 ·have af:(200000:Int)<(RR.length:Int):=by omega
  rw[if_pos af]at a1;unfold vr.vS at a1;have ho:=hid (o3.out (by omega));clear o3 o4 hF bg ap av aw;go_wp2_with fail;refine a1.out.mono ?_;rintro e b7 ⟨rfl,bi,bk,ah,ad,a4⟩;have a5:=hid (xK B9.out G9.out ad);have a2:=hid (vr.aBM b7 f bi bk (S9,9) ah);have bo:bs (qJ ((S9,9):List UInt8×Int))=⟨#[]⟩:=by unfold vr.qJ;rfl
  rw[bo]at a2;dsimp only at a2;clear a1 ah ad a4 B9 G9 bo;go_wp2_with fail;refine a2.out.mono ?_;rintro e ar ⟨rfl,aa⟩;have T1:=hid (a0.out 9 ar ho.out (by decide) (HE.out _ (a5.out.trans (aa.mono a5.out.size))));clear a2 aa a0 a3 HE a5;go_wp2_with fail;go_ret2;exact T1.out
 ·have af:¬(200000:Int)<(RR.length:Int):=by omega
  rw[if_neg af]at a1;unfold vr.vS at a1;go_wp2_with fail;refine a1.out.mono ?_;rintro e b7 ⟨rfl,bi,bk,ah,ad,a4⟩;have a5:=hid (xK B9.out G9.out ad);have a2:=hid (aHF ah);unfold encStr at a2;clear a1 ah ad a4 B9 G9;go_wp2_with fail;refine a2.out.mono ?_;rintro e ar ⟨rfl,aa⟩;have a6:=hid (a5.out.trans (aa.mono a5.out.size));have s1:(ByteArray.mk #[119,101,102,116]++ByteArray.mk X.toArray)=ByteArray.mk ([119,101,102,116]++X).toArray:=ByteArray.mk_append_mk [119,101,102,116] X;have b1:(ByteArray.mk ([119,101,102,116]++X).toArray).size=X.length+4:=by
   show([119,101,102,116]++X).toArray.size=_;rw[List.size_toArray,aF];exact Nat.add_comm 4 _
  have q4:¬9223372036854775807<4+X.length:=by omega
  have q5:¬9223372036854775807<X.length+4:=by omega
  generalize ByteArray.mk ([119,101,102,116]++X).toArray=z at *;have a9:=hid (cr.aDn z ar (by rw[b1];unfold maxLen;omega));unfold cr.tK at a9;have bb:(cr.kE z).size=X.length+7:=by rw[cr.qQ,b1]
  have az:=hid hF.out;clear a2 aa a5 hF ap bg b1 bd;generalize cr.kE z=Y at *;by_cases h7:200000<X.length+7
  ·have q6:decide ((200000:Int)<(Y.size:Int))=true:=aC (by omega)
   have ho:=hid (o3.out h7);clear o3 o4;go_wp2_with fail;refine a9.out.mono ?_;rintro e ax ⟨rfl,ag⟩;have T1:=hid (a0.out 9 ax ho.out (by decide) (HE.out _ (a6.out.trans (ag.mono a6.out.size))));clear a9 ag a0 a3 HE a6 s1 q4 q5 bb aw av af h3 a8 az ho;go_wp2_with fail;go_ret2;exact T1.out
  ·have q6:decide ((200000:Int)<(Y.size:Int))=false:=aB (by omega)
   have ho:=hid (o4.out h7);clear o3 o4;go_wp2_with fail;refine a9.out.mono ?_;rintro e ax ⟨rfl,ag⟩;have T1:=a3.out ax ho.out (HE.out _ (a6.out.trans (ag.mono a6.out.size)));rw[az.out]at T1;replace T1:=hid T1;clear a9 ag a0 a3 HE a6 s1 q4 q5 bb aw av af h3 a8 az ho;go_wp2_with fail;go_ret2;exact T1.out
end sf
namespace re
open RowKit Go.Sort Shelf mem sy vr
def mu0:MU:=⟨⟨#[]⟩,none,0,[],none,0,[],none,0,[],⟨none,0,[],none,0,[],none,0,[]⟩⟩
theorem aFw(w:World):gH w mu0:=⟨fun h=>by simp[mu0]at h,fun h=>by simp[mu0]at h,fun h=>by simp[mu0]at h,⟨fun h=>by simp[mu0]at h,fun h=>by simp[mu0]at h,fun h=>by simp[mu0]at h,by simp[mu0],by simp[mu0],by simp[mu0],by simp[mu0],by simp[mu0],by simp[mu0]⟩⟩
end re
namespace sf
open RowKit Go.Sort Shelf mem vr po inn sy
open re (MU SU gH Ev fB iR pY lW qL mJ qU dF fQ nS oL kJ zC pX RDP mu0 aFw su0)
theorem jA{α β:Type}(f:α→List β)(h:∀x,0<(f x).length):∀l:List α,l.length≤(l.flatMap f).length
 | []=>bA _
 | a :: l=>by
  rw[List.flatMap_cons,aF,aG];have:=jA f h l;have:=h a;omega
theorem aFA(u:SU):u.gives.length≤(dF u).length∧u.wants.length≤(dF u).length∧u.keeps.length≤(dF u).length∧u.sys.objs.length+u.sys.fns.length≤(dF u).length∧∀c∈u.sys.cons,c.args.length≤(dF u).length:=by
 have h1:=jA iR (fun o=>by simp[iR]) u.sys.objs;have Y:=jA lW (fun o=>by simp[lW]) u.sys.fns;unfold dF pY qL qU;simp only[aG,aF,re.aBK];refine⟨by omega,by omega,by omega,by omega,fun c hc=>?_⟩;have J:=aBI mJ _ c hc;have h4:(mJ c).length=5+(c.args.length+1):=by
  unfold mJ;simp only[aG,re.aBK];omega
 omega
theorem aIF{l:List ByteArray}{s:ByteArray}(h:s∈l):Ev.t s∈fB l:=by
 unfold fB;exact bG _ (List.mem_map.2 ⟨s,h,rfl⟩)
theorem aKY{w:World}{u:MU}(hm:gH w u)(hl:(dF u.su).length≤900000)(J:∀s,Ev.t s∈dF u.su→s.size≤maxLen):EK w u:=by
 obtain⟨l1,l2,l3,l4,Y⟩:=aFA u.su;have lo:u.su.sys.objs.length=u.s.os.length:=by unfold MU.su MS.sys;simp
 have lf:u.su.sys.fns.length=u.s.fs.length:=by unfold MU.su MS.sys;simp
 have e1:u.su.gives=u.gives:=rfl;have e2:u.su.wants=u.wants:=rfl;have e3:u.su.keeps=u.keeps:=rfl;rw[lo,lf]at l4;rw[e1]at l1;rw[e2]at l2;rw[e3]at l3;refine⟨⟨hm,J _ (by unfold dF;exact List.mem_cons_self ..),by omega,by omega,by omega,by omega,fun s h=>J s ?_,fun s h=>J s ?_,fun s h=>J s ?_⟩,by omega,fun c hc=>aZ (Y c hc) (by omega)⟩
 ·unfold dF
  exact bG _ (List.mem_append.2 (Or.inl (aIF h)))
 ·unfold dF
  exact bG _ (List.mem_append.2 (Or.inr (List.mem_append.2 (Or.inl (aIF h)))))
 ·unfold dF
  exact bG _ (List.mem_append.2 (Or.inr (List.mem_append.2 (Or.inr (List.mem_append.2 (Or.inl (aIF h)))))))
theorem aFk{w:World}{u:MU}(hm:gH w u){m:List (List UInt8)}{S:ByteArray}(Y:m.Pairwise (fun a b=>a<b))(hx:∀x∈m,x.length≤1000)(hS:S.size≤200000)(h:oL m S=0)(e:u.su=kJ m S):EK w u:=by
 obtain⟨b1,b2⟩:=zC Y S h;refine aKY hm (by rw[e];omega) (fun s hs=>?_);rw[e]at hs;obtain⟨_,hk⟩:=pX (dF (kJ m S)) ([],0) (by show(fQ m (dF (kJ m S))).2=0;rw[b1]);have J:=hx _ (hk _ hs).1;rw[re.aLq]at J;exact aZ J (by unfold maxLen;decide)
theorem aEY{b:ByteArray}{d:Int}(h:gU b=d)(hd:d≠0){w w':World}(hb:Below w.heap.size w w'):RDP (oP b) (gU b) w (.returned (.tuple #[.agg #[.string ⟨#[]⟩,.slice none 0 0,.slice none 0 0,.slice none 0 0,.slice none 0 0,.slice none 0 0,.slice none 0 0],.int .i64 d])) w':=by
 subst h;refine⟨mu0,rfl,?_,aFw w',hb⟩;unfold oP;rw[if_neg hd];rfl
theorem aHD{b:ByteArray}(h:gU b=0){w w':World}(hb:Below w.heap.size w w'){u:MU}(J:u.su=kJ (fZ (cr.bQ b)) (iE (cr.bQ b)))(Y:gH w' u):RDP (oP b) (gU b) w (.returned (.tuple #[u.val,.int .i64 0])) w':=by
 refine⟨u,by rw[h],?_,Y,hb⟩;unfold oP;rw[if_pos h,J]
theorem d1{b:ByteArray}(h:200000<b.size):gU b=9:=by unfold gU;rw[if_pos h]
theorem d2{b:ByteArray}(h:¬200000<b.size)(J:cr.okS b=false):gU b=14:=by unfold gU;rw[if_neg h,if_pos J]
theorem d3{b:ByteArray}(h:¬200000<b.size)(Y:cr.okS b=true)(J:jT (cr.bQ b)≠0):gU b=jT (cr.bQ b):=by unfold gU;rw[if_neg h,if_neg (by rw[Y];simp),if_pos J]
theorem d4{b:ByteArray}(h:¬200000<b.size)(Y:cr.okS b=true)(J:jT (cr.bQ b)=0)(h4:oL (fZ (cr.bQ b)) (iE (cr.bQ b))≠0):gU b=oL (fZ (cr.bQ b)) (iE (cr.bQ b)):=by unfold gU;rw[if_neg h,if_neg (by rw[Y];simp),if_neg (by simp[J]),if_pos h4]
theorem d5{b:ByteArray}(h:¬200000<b.size)(Y:cr.okS b=true)(J:jT (cr.bQ b)=0)(h4:oL (fZ (cr.bQ b)) (iE (cr.bQ b))=0)(h5:fH (vR (kJ (fZ (cr.bQ b)) (iE (cr.bQ b))))≠0):gU b=fH (vR (kJ (fZ (cr.bQ b)) (iE (cr.bQ b)))):=by unfold gU;rw[if_neg h,if_neg (by rw[Y];simp),if_neg (by simp[J]),if_neg (by simp[h4]),if_pos h5]
theorem d6{b:ByteArray}(h:¬200000<b.size)(J:cr.okS b=true)(Y:jT (cr.bQ b)=0)(h4:oL (fZ (cr.bQ b)) (iE (cr.bQ b))=0)(h5:fH (vR (kJ (fZ (cr.bQ b)) (iE (cr.bQ b))))=0)(h6:iW (kJ (fZ (cr.bQ b)) (iE (cr.bQ b)))≠fZ (cr.bQ b)):gU b=3:=by unfold gU;rw[if_neg h,if_neg (by rw[J];simp),if_neg (by simp[Y]),if_neg (by simp[h4]),if_neg (by simp[h5]),if_pos h6]
theorem d7{b:ByteArray}(h:¬200000<b.size)(J:cr.okS b=true)(Y:jT (cr.bQ b)=0)(h4:oL (fZ (cr.bQ b)) (iE (cr.bQ b))=0)(h5:fH (vR (kJ (fZ (cr.bQ b)) (iE (cr.bQ b))))=0)(h6:iW (kJ (fZ (cr.bQ b)) (iE (cr.bQ b)))=fZ (cr.bQ b)):gU b=0:=by unfold gU;rw[if_neg h,if_neg (by rw[J];simp),if_neg (by simp[Y]),if_neg (by simp[h4]),if_neg (by simp[h5]),if_neg (by simp[h6])]
theorem aA6(b:ByteArray):(cr.bQ b).size≤b.size:=by
 unfold cr.bQ;split
 ·rw[ByteArray.size_extract];omega
 ·exact bA _
end sf
namespace sf
open RowKit Go.Sort Shelf mem vr po inn sy
open re (MU SU gH dF fQ nS RP TP)
theorem EK.ac{w:World}{u:MU}(h:EK w u):∀x∈u.s.cs,x.c.args.length≤8796093022208:=fun x J=>h.a _ (List.mem_map.2 ⟨x,J,rfl⟩)
end sf
end Go.Proofs.YtdmmkjijgoiecaaGreatDoor
