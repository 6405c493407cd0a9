import Derived.Deep.CutBlock
import Derived.Test.YtdmmkjijgoiecaaGreatDoorZ03
import Derived.Test.YtdmmkjijgoiecaaGreatDoorB37
import Derived.Test.YtdmmkjijgoiecaaGreatDoorB38
import Derived.Test.YtdmmkjijgoiecaaGreatDoorZ04
set_option linter.all false
set_option maxHeartbeats 4000000
namespace Go.Proofs.YtdmmkjijgoiecaaGreatDoor
open Lib(hid)
set_option maxRecDepth 100000
namespace re
open RowKit Go.Sort Shelf mem sy vr
theorem aBk(w:World)(A B:Option Addr)(c d:Nat)(l:List ByteArray)(hA:Rd w A (l.map Value.string))(Y:Rd w B (l.map Value.string))(J:l.length≤10000000) :
 Calls Tryz.prog 53 #[.slice A l.length c,.slice B l.length d] w (cZ true w):=by
 have k:=aKS w A B c d (l.map tx) (by rw[nY];exact hA) (by rw[nY];exact Y) (by rw[aH];exact J)
 rw[aH]at k;exact k
structure SuL(s:SU):Prop where
 g:s.gives.length≤10000000
 w:s.wants.length≤10000000
 k:s.keeps.length≤10000000
 a:∀c∈s.sys.cons,c.args.length≤8796093022208
theorem mM(u v:MU)(w:World)(hu:eY w u)(hv:eY w v)(e:u.su=v.su)(hl:SuL u.su) :
 Calls Tryz.prog 16 #[u.val,v.val] w (cZ true w):=by
 obtain⟨un,a2,a4,ug,Y,a3,uw,a1,a0,uk,us⟩:=u;obtain⟨vn,a7,a8,vg,ae,a6,vw,aa,a9,vk,vs⟩:=v;have e1:un=vn:=congrArg SU.name e;have e2:ug=vg:=congrArg SU.gives e;have e3:uw=vw:=congrArg SU.wants e;have e4:uk=vk:=congrArg SU.keeps e;have e5:us.sys=vs.sys:=congrArg SU.sys e;subst e1 e2 e3 e4;have lo:us.os.length=vs.os.length:=by have:=congrArg (fun s:SS=>s.objs.length) e5;simpa[MS.sys] using this
 have lf:us.fs.length=vs.fs.length:=by have:=congrArg (fun s:SS=>s.fns.length) e5;simpa[MS.sys] using this
 have lc:us.cs.length=vs.cs.length:=by have:=congrArg (fun s:SS=>s.cons.length) e5;simpa[MS.sys] using this
 obtain⟨W,a5⟩:∃W,Hid (W=(w.alloc (.cells #[.string un,.slice a2 ug.length a4,.slice Y uw.length a3,.slice a1 uk.length a0,.slice us.oA us.os.length us.oc,.slice us.fA us.fs.length us.fc,.slice us.cA us.cs.length us.cc] 29)).alloc (.cells #[.string un,.slice a7 ug.length a8,.slice ae uw.length a6,.slice aa uk.length a9,.slice vs.oA vs.os.length vs.oc,.slice vs.fA vs.fs.length vs.fc,.slice vs.cA vs.cs.length vs.cc] 29)):=⟨_,hid rfl⟩;have b1:Below w.heap.size w (w.alloc (.cells #[.string un,.slice a2 ug.length a4,.slice Y uw.length a3,.slice a1 uk.length a0,.slice us.oA us.os.length us.oc,.slice us.fA us.fs.length us.fc,.slice us.cA us.cs.length us.cc] 29)):=(Below.refl _ _).alloc (aY _) _;have b0:Below w.heap.size w W:=by rw[a5.out];exact b1.alloc b1.size _
 have hz:(w.alloc (.cells #[.string un,.slice a2 ug.length a4,.slice Y uw.length a3,.slice a1 uk.length a0,.slice us.oA us.os.length us.oc,.slice us.fA us.fs.length us.fc,.slice us.cA us.cs.length us.cc] 29)).heap.size=w.heap.size+1:=bH _;have BX:bT W w.heap.size 29 #[.string un,.slice a2 ug.length a4,.slice Y uw.length a3,.slice a1 uk.length a0,.slice us.oA us.os.length us.oc,.slice us.fA us.fs.length us.fc,.slice us.cA us.cs.length us.cc]:=by rw[a5.out];exact(bT.new w _ _).kept ((Fr.refl [] _).alloc _) (by simp)
 have BY:bT W (w.heap.size+1) 29 #[.string un,.slice a7 ug.length a8,.slice ae uw.length a6,.slice aa uk.length a9,.slice vs.oA vs.os.length vs.oc,.slice vs.fA vs.fs.length vs.fc,.slice vs.cA vs.cs.length vs.cc]:=by rw[a5.out,←hz];exact bT.new _ _ _
 have HC:Hid (∀J,Below W.heap.size W J→(J.cell? ⟨w.heap.size,0,none⟩=some (.string un)∧J.cell? ⟨w.heap.size,1,none⟩=some (.slice a2 ug.length a4)∧J.cell? ⟨w.heap.size,2,none⟩=some (.slice Y uw.length a3)∧J.cell? ⟨w.heap.size,3,none⟩=some (.slice a1 uk.length a0)∧J.cell? ⟨w.heap.size,4,none⟩=some (.slice us.oA us.os.length us.oc)∧J.cell? ⟨w.heap.size,5,none⟩=some (.slice us.fA us.fs.length us.fc)∧J.cell? ⟨w.heap.size,6,none⟩=some (.slice us.cA us.cs.length us.cc))∧J.cell? ⟨w.heap.size+1,0,none⟩=some (.string un)∧J.cell? ⟨w.heap.size+1,1,none⟩=some (.slice a7 ug.length a8)∧J.cell? ⟨w.heap.size+1,2,none⟩=some (.slice ae uw.length a6)∧J.cell? ⟨w.heap.size+1,3,none⟩=some (.slice aa uk.length a9)∧J.cell? ⟨w.heap.size+1,4,none⟩=some (.slice vs.oA vs.os.length vs.oc)∧J.cell? ⟨w.heap.size+1,5,none⟩=some (.slice vs.fA vs.fs.length vs.fc)∧J.cell? ⟨w.heap.size+1,6,none⟩=some (.slice vs.cA vs.cs.length vs.cc)):=hid (fun J b=>by
  have p:=BX.kept (Fr.of_below b []) (by simp)
  have q:=BY.kept (Fr.of_below b []) (by simp)
  exact⟨⟨p.cell 0,p.cell 1,p.cell 2,p.cell 3,p.cell 4,p.cell 5,p.cell 6⟩,q.cell 0,q.cell 1,q.cell 2,q.cell 3,q.cell 4,q.cell 5,q.cell 6⟩)
 have HE:Hid (∀J,Below W.heap.size W J→Below w.heap.size w J):=hid (fun J b=>b0.trans (b.mono b0.size))
 have R0:=hid (Below.refl W.heap.size W);have HX:∀J,Below W.heap.size W J→eY J ⟨un,a2,a4,ug,Y,a3,uw,a1,a0,uk,us⟩∧eY J ⟨un,a7,a8,ug,ae,a6,uw,aa,a9,uk,vs⟩:=fun J b=>⟨(hu.below b0).below b,(hv.below b0).below b⟩
 have K1:=hid (fun(J:World) (b:Below W.heap.size W J)=>aBk J a2 a7 a4 a8 ug (HX J b).1.gr (HX J b).2.gr hl.g)
 have K2:=hid (fun(J:World) (b:Below W.heap.size W J)=>aBk J Y ae a3 a6 uw (HX J b).1.wr (HX J b).2.wr hl.w)
 have K3:=hid (fun(J:World) (b:Below W.heap.size W J)=>aBk J a1 aa a0 a9 uk (HX J b).1.kr (HX J b).2.kr hl.k)
 have K4:=hid (fun(J:World) (b:Below W.heap.size W J)=>aFA aOP us vs J (HX J b).1.sr (HX J b).2.sr e5 hl.a)
 obtain⟨⟨x0,x1,x2,x3,x4,x5,x6⟩,y0,y1,y2,y3,y4,y5,y6⟩:=HC.out W R0.out;unfold MS.val at K4;unfold MU.val MU.row;dsimp only;unfold cZ at K1 K2 K3 K4 ⊢;clear hu hv e e5 lo lf lc b1 b0 hz BX BY HX hl;have s0:(un.data==un.data)=true:=by simp
 go_enter Tryz.func16,Tryz.ntmps16;go_upto_region 1 with fail;rw[←a5.out];clear a5;generalize af:w.heap.size=bx at *;replace af:=hid af;have KA:=hid (K1.out W R0.out);go_wp2_with fail;refine KA.out.mono ?_;rintro e J ⟨rfl,b2⟩;have B2:=hid (R0.out.trans b2);clear b2 KA x0 x1 x2 x3 x4 x5 x6 y0 y1 y2 y3 y4 y5 y6;obtain⟨⟨x0,x1,x2,x3,x4,x5,x6⟩,y0,y1,y2,y3,y4,y5,y6⟩:=HC.out J B2.out;have KA:=hid (K2.out J B2.out);go_wp2_with fail;refine KA.out.mono ?_;rintro e w3 ⟨rfl,b3⟩;have B3:=hid (B2.out.trans (b3.mono B2.out.size));clear b3 KA x0 x1 x2 x3 x4 x5 x6 y0 y1 y2 y3 y4 y5 y6 B2;obtain⟨⟨x0,x1,x2,x3,x4,x5,x6⟩,y0,y1,y2,y3,y4,y5,y6⟩:=HC.out w3 B3.out;have KA:=hid (K3.out w3 B3.out);go_wp2_with fail;refine KA.out.mono ?_;rintro e w4 ⟨rfl,b4⟩;have B4:=hid (B3.out.trans (b4.mono B3.out.size));clear b4 KA x0 x1 x2 x3 x4 x5 x6 y0 y1 y2 y3 y4 y5 y6 B3;obtain⟨⟨x0,x1,x2,x3,x4,x5,x6⟩,y0,y1,y2,y3,y4,y5,y6⟩:=HC.out w4 B4.out
 have KA:=hid (K4.out w4 B4.out);go_wp2_with fail;refine KA.out.mono ?_;rintro e w5 ⟨rfl,b5⟩;have E:=hid (HE.out w5 (B4.out.trans (b5.mono B4.out.size)));clear b5 KA;go_wp2_with fail;go_ret;exact⟨rfl,by rw[af.out];exact E.out⟩
end re
namespace re
open RowKit mem sy vr po
def evV(m:List (List UInt8)):Ev→Nat
 | .n k=>k.toNat
 | .t s=>m.idxOf (tx s)
def aBH(m:List (List UInt8)):Ev→Prop
 | .n k=>0≤k∧k≤268435456
 | .t s=>tx s∈m∧m.idxOf (tx s)≤268435456
def evB(m:List (List UInt8))(e:Ev):List UInt8:=nb (evV m e)
def sU(m:List (List UInt8))(l:List Ev):List UInt8:=l.flatMap (evB m)
theorem wT(m:List (List UInt8))(a b:List Ev):sU m (a++b)=sU m a++sU m b:=List.flatMap_append
theorem aAW(m:List (List UInt8))(e:Ev):sU m [e] = evB m e:=by simp[sU]
theorem step_ok{m:List (List UInt8)}{e:Ev}(h:aBH m e)(st:List UInt8):yQ m (st,0) e=(st++evB m e,0):=by
 cases e with
 | n k=>
  obtain⟨J,h2⟩:=h
  show iX (st,0) k=_
  unfold iX;rw[if_neg (by simp),if_neg (by omega)]
  rfl
 | t s=>
  obtain⟨J,h2⟩:=h
  show aB9 m (st,0) s=_
  have Y:sQ m (st,0) s=(st,0):=by unfold sQ;rw[if_neg (by simp[J])]
  unfold aB9;rw[Y,if_pos J];unfold iX;rw[if_neg (by simp),if_neg (by omega)]
  rfl
theorem aJF{m:List (List UInt8)}{e:Ev}{st:List UInt8×Int}(h:(yQ m st e).2=0):st.2=0∧aBH m e:=by
 cases e with
 | n k=>
  have h:(iX st k).2=0:=h;unfold iX at h;split at h
  ·contradiction
  ·rename_i h0
   split at h
   ·simp at h
   ·rename_i Y
    exact⟨by simpa using h0,by show 0≤k∧k≤268435456;omega⟩
 | t s=>
  have h:(aB9 m st s).2=0:=h;unfold aB9 at h
  by_cases h0:st.2=0
  ·by_cases Y:tx s∈m
   ·have J:sQ m st s=st:=by unfold sQ;rw[if_neg (by simp[Y])]
    rw[J,if_pos Y]at h;unfold iX at h;rw[if_neg (by simpa using h0)]at h
    split at h
    ·simp at h
    ·rename_i h2
     exact⟨h0,Y,by omega⟩
   ·have J:sQ m st s=(st.1,7):=by unfold sQ;rw[if_pos ⟨h0,Y⟩]
    rw[J]at h;unfold iX at h;rw[if_pos (by simp)]at h
    simp at h
  ·have J:sQ m st s=st:=by unfold sQ;rw[if_neg (fun x=>h0 x.1)]
   rw[J]at h;unfold iX at h;rw[if_pos h0]at h;contradiction
theorem zK{m:List (List UInt8)}:∀(l:List Ev) (st:List UInt8),(∀e∈l,aBH m e)→l.foldl (yQ m) (st,0)=(st++sU m l,0)
 | [],st,_=>by simp[sU]
 | e :: l,st,h=>by
  rw[List.foldl_cons,step_ok (h e (List.mem_cons_self ..)),zK l _ (fun x J=>h x (bG _ J))]
  simp[sU]
theorem tX{m:List (List UInt8)}:∀(l:List Ev) (st:List UInt8×Int),(l.foldl (yQ m) st).2=0→st.2=0∧∀e∈l,aBH m e
 | [],st,h=>⟨h,fun e he=>by cases he⟩
 | e :: l,st,h=>by
  rw[List.foldl_cons]at h;obtain⟨Y,h2⟩:=tX l _ h;obtain⟨h3,h4⟩:=aJF Y;refine⟨h3,fun x J=>?_⟩
  rcases aM.1 J with rfl | J
  ·exact h4
  ·exact h2 x J
def dr(S:ByteArray)(p:Nat):List UInt8:=S.data.toList.drop p
theorem aNN(S:ByteArray)(p n:Nat):dr S (p+n)=(dr S p).drop n:=by unfold dr;rw[List.drop_drop]
theorem wI{S:ByteArray}{p:Nat}{a r:List UInt8}(h:dr S p=a++r):dr S (p+a.length)=r:=by
 rw[aNN,h,List.drop_left]
theorem aJG{S:ByteArray}{p k:Nat}{r:List UInt8}(h:dr S p=nb k++r)(J:k≤268435456):nV S p 0=k∧nP S p 0=p+(nb k).length∧nE S p 0=0:=by
 have e:ct S p=(k,(nb k).length,0):=by
  unfold ct;unfold dr at h;rw[h];exact aA7 k r J
 unfold nV nP nE;rw[e];simp
theorem aJl{S:ByteArray}{p:Nat}(hp:p≤S.size)(h:nE S p 0=0):dr S p=nb (nV S p 0)++dr S (nP S p 0)∧nV S p 0≤268435456:=by
 have hl:=aM2 S p 0 hp;unfold nE at h;rw[if_neg (by simp)]at h
 obtain⟨r,J,h2⟩:=aCG (dr S p) (ct S p).1 (ct S p).2.1 (by
  show ct S p=_
  have:(ct S p).2.2=0:=by exact_mod_cast h
  rw[←this])
 have hv:nV S p 0=(ct S p).1:=by unfold nV;rw[if_neg (by simp)]
 have Y:nP S p 0=p+(nb (ct S p).1).length:=by unfold nP;rw[if_neg (by simp),h2]
 rw[hv,Y,wI J];rw[hv]at hl;exact⟨J,hl⟩
structure wH(m:List (List UInt8))(S:ByteArray){α:Type}(one:Nat→Int→α×Nat×Int)(ev:α→List Ev)(Fit:α→Prop):Prop where
 okp:Okp S one
 st:∀q e,e≠6→e≠0→(one q e).2.2=e
 bk:∀q,q≤S.size→(one q 0).2.2=0→dr S q=sU m (ev (one q 0).1)++dr S (one q 0).2.1∧∀e∈ev (one q 0).1,aBH m e
 fw:∀a q r,q≤S.size→Fit a→(∀e∈ev a,aBH m e)→dr S q=sU m (ev a)++r→one q 0=(a,q+(sU m (ev a)).length,0)
section
variable {m:List (List UInt8)} {S:ByteArray} {α β:Type}
def yE(f:Nat→Int→α×Nat×Int)(g:Nat→Int→β×Nat×Int)(q:Nat)(e:Int):(α×β)×Nat×Int:=(((f q e).1,(g (f q e).2.1 (f q e).2.2).1),(g (f q e).2.1 (f q e).2.2).2)
theorem wH.seq{f:Nat→Int→α×Nat×Int}{g:Nat→Int→β×Nat×Int}{ef:α→List Ev}{eg:β→List Ev}{Ff:α→Prop}{Fg:β→Prop}(hf:wH m S f ef Ff)(hg:wH m S g eg Fg):wH m S (yE f g) (fun p=>ef p.1++eg p.2) (fun p=>Ff p.1∧Fg p.2):=by
 refine⟨fun q e Y J=>?_,fun q e h6 h0=>?_,fun q Y h=>?_,fun a q r Y hF hk hd=>?_⟩
 ·obtain⟨a1,a2⟩:=hf.okp q e Y J
  exact hg.okp _ _ a1 a2
 ·show(g (f q e).2.1 (f q e).2.2).2.2=e
  have h1:=hf.st q e h6 h0;rw[h1];exact hg.st _ e h6 h0
 ·have h:(g (f q 0).2.1 (f q 0).2.2).2.2=0:=h
  obtain⟨a1,a2⟩:=hf.okp q 0 Y (by decide)
  have e1:(f q 0).2.2=0:=by
   rcases Classical.em ((f q 0).2.2=0)with e | e
   ·exact e
   ·have:=hg.st (f q 0).2.1 _ a2 e
    rw[h]at this;exact absurd this.symm e
  obtain⟨b1,b2⟩:=hf.bk q Y e1;rw[e1]at h;obtain⟨c1,c2⟩:=hg.bk _ a1 h;have a3:(yE f g q 0).1=((f q 0).1,(g (f q 0).2.1 0).1):=by unfold yE;rw[e1]
  have a4:(yE f g q 0).2.1=(g (f q 0).2.1 0).2.1:=by unfold yE;rw[e1]
  rw[a3,a4];refine⟨?_,fun e J=>?_⟩
  ·show dr S q=sU m (ef (f q 0).1++eg (g (f q 0).2.1 0).1)++_
   rw[wT,aS,←c1,←b1]
  ·rcases List.mem_append.1 J with J | J
   ·exact b2 e J
   ·exact c2 e J
 ·obtain⟨a,b⟩:=a
  have hd:dr S q=sU m (ef a++eg b)++r:=hd;rw[wT,aS]at hd;have h1:=hf.fw a q _ Y hF.1 (fun e J=>hk e (List.mem_append.2 (Or.inl J))) hd
  have a0:q+(sU m (ef a)).length≤S.size:=by
   have:=(hf.okp q 0 Y (by decide)).1
   rw[h1]at this;exact this
  have h2:=hg.fw b _ r a0 hF.2 (fun e J=>hk e (List.mem_append.2 (Or.inr J))) (wI hd)
  show yE f g q 0=_
  unfold yE;rw[h1];dsimp only;rw[h2,wT,aF,Nat.add_assoc]
theorem wH.map{one:Nat→Int→α×Nat×Int}{Y:Nat→Int→β×Nat×Int}{ev:α→List Ev}{a0:β→List Ev}{Fit:α→Prop}{J:β→Prop}(h:wH m S one ev Fit)(φ:α→β)(ψ:β→α)(h1:∀q e,Y q e=(φ (one q e).1,(one q e).2))(h2:∀b,φ (ψ b)=b)(h3:∀a,a0 (φ a)=ev a)(h4:∀b,J b→Fit (ψ b)):wH m S Y a0 J:=by
 refine⟨fun q e hq he=>?_,fun q e h6 h0=>?_,fun q hq hh=>?_,fun b q r hq hF hk hd=>?_⟩
 ·rw[h1];exact h.okp q e hq he
 ·rw[h1];exact h.st q e h6 h0
 ·rw[h1]at hh ⊢
  dsimp only at hh ⊢;rw[h3];exact h.bk q hq hh
 ·have e1:a0 b=ev (ψ b):=by rw[←h3,h2]
  rw[e1]at hk hd ⊢;rw[h1,h.fw (ψ b) q r hq (h4 b hF) hk hd,h2]
def aOE(S:ByteArray)(q:Nat)(e:Int):Int×Nat×Int:=((nV S q e:Nat),nP S q e,nE S q e)
theorem rN(m:List (List UInt8))(S:ByteArray):wH m S (aOE S) (fun k=>[.n k]) (fun _=>True):=by
 refine⟨fun q e J Y=>⟨eB S q e J,rV S q e Y⟩,fun q e h6 h0=>?_,fun q J h=>?_,fun a q r J _ hk hd=>?_⟩
 ·show nE S q e=e
  unfold nE;rw[if_pos h0]
 ·obtain⟨h1,h2⟩:=aJl J h
  refine⟨?_,fun e Y=>?_⟩
  ·rw[aAW]
   exact h1
  ·rw[aD]at Y
   subst Y;exact⟨Int.natCast_nonneg _,by show((nV S q 0:Nat):Int)≤_;omega⟩
 ·have hk:=hk (.n a) (by simp)
  obtain⟨k1,k2⟩:=hk;rw[aAW]at hd ⊢;obtain⟨h1,h2,h3⟩:=aJG (k:=a.toNat) hd (by omega)
  unfold aOE;rw[h1,h2,h3];refine Prod.ext ?_ rfl
  show((a.toNat:Nat):Int)=a
  omega
theorem aOF:∀(m:List (List UInt8)) (k:Nat) (hk:k<m.length),m.Pairwise (fun a b=>a<b)→m.idxOf m[k] = k
 | [],k,hk,_=>by simp at hk
 | y :: m,0,hk,_=>by simp
 | y :: m,k+1,hk,hp=>by
  have J:=List.pairwise_cons.1 hp;have Y:k<m.length:=by simpa using hk
  have a0:y≠m[k]:=fun e=>by
   have h:=J.1 m[k] (aR Y);rw[←e]at h;exact List.lt_irrefl y h
  have ih:=aOF m k Y J.2;rw[List.getElem_cons_succ,List.idxOf_cons,show(y==m[k])=false by simpa using a0]
  simpa using ih
theorem rT(hm:m.Pairwise (fun a b=>a<b)):wH m S (fG m S) (fun t=>[.t t]) (fun _=>True):=by
 refine⟨aFZ m S,fun q e h6 h0=>?_,fun q hq h=>?_,fun a q r hq _ hk hd=>?_⟩
 ·have J:nE S q e=e:=by unfold nE;rw[if_pos h0]
  have:=(aFE (m:=m) h6 (by rw[J];exact h0)).1
  rw[J]at this;exact this
 ·have h:tN m S q 0=0:=h
  have J:nE S q 0=0:=by
   rcases Classical.em (nE S q 0=0)with e | e
   ·exact e
   ·have:=(aFE (m:=m) (p:=q) (s:=S) (er:=0) (by decide) e).1
    rw[h]at this;exact absurd this.symm e
  have hn:nV S q 0<m.length:=by
   rcases Classical.em (nV S q 0<m.length)with e | e
   ·exact e
   ·have:=(aK1 J e).1
    rw[h]at this;exact absurd this (by decide)
  obtain⟨_,hT⟩:=aIT J hn;obtain⟨Y,h2⟩:=aJl hq J;have hi:=aOF m _ hn hm;have hx:tx (tT m S q 0)=m[nV S q 0]:=by rw[hT]
  have a1:evB m (.t (tT m S q 0))=nb (nV S q 0):=by
   show nb (m.idxOf (tx (tT m S q 0)))=_
   rw[hx,hi]
  refine⟨?_,fun e he=>?_⟩
  ·show dr S q=sU m [.t (tT m S q 0)]++dr S (nP S q 0)
   rw[aAW,a1];exact Y
  ·have he:e∈[Ev.t (tT m S q 0)]:=he
   rw[aD]at he;subst he
   show tx (tT m S q 0)∈m∧m.idxOf (tx (tT m S q 0))≤268435456
   rw[hx,hi];exact⟨aR hn,h2⟩
 ·obtain⟨k1,k2⟩:=hk (.t a) (by simp)
  rw[aAW]at hd ⊢;obtain⟨Y,h2,h3⟩:=aJG (k:=m.idxOf (tx a)) hd k2;have a0:nV S q 0<m.length:=by rw[Y];exact List.idxOf_lt_length_of_mem k1
  obtain⟨g1,g2⟩:=aIT h3 a0;have g3:m[nV S q 0] = tx a:=by
   simp only[Y];exact List.getElem_idxOf _
  show(tT m S q 0,nP S q 0,tN m S q 0)=_
  rw[g1,g2,g3,h2];rfl
end
end re
namespace re
open RowKit mem sy vr po
section
variable {m:List (List UInt8)} {S:ByteArray} {α:Type}
theorem aMK{one:Nat→Int→α×Nat×Int}{ev:α→List Ev}{Fit:α→Prop}(h:wH m S one ev Fit):∀(k q:Nat),q≤S.size→(dX one k q 0).2.2=0→(dr S q=sU m ((dX one k q 0).1.flatMap ev)++dr S (dX one k q 0).2.1∧∀e∈(dX one k q 0).1.flatMap ev,aBH m e)∧(dX one k q 0).1.length=k
 | 0,q,hq,hh=>⟨⟨by simp[dX,sU],fun e J=>by simp[dX]at J⟩,by simp[dX]⟩
 | k+1,q,hq,hh=>by
  rw[go_step]at hh ⊢;dsimp only at hh ⊢;obtain⟨a1,a2⟩:=h.okp q 0 hq (by decide)
  have Y:(one q 0).2.2=0:=by
   rcases Classical.em ((one q 0).2.2=0)with e | e
   ·exact e
   ·rw[aFg one k _ _ a2 e]at hh
    exact absurd hh e
  obtain⟨b1,b2⟩:=h.bk q hq Y;rw[Y]at hh ⊢;obtain⟨⟨c1,c2⟩,c3⟩:=aMK h k _ a1 hh;refine⟨⟨?_,fun e J=>?_⟩,by rw[aG,c3]⟩
  ·rw[List.flatMap_cons,wT,aS,←c1,←b1]
  ·rw[List.flatMap_cons]at J
   rcases List.mem_append.1 J with J | J
   ·exact b2 e J
   ·exact c2 e J
theorem aMV{one:Nat→Int→α×Nat×Int}{ev:α→List Ev}{Fit:α→Prop}(h:wH m S one ev Fit):∀(l:List α) (q:Nat) (r:List UInt8),q≤S.size→(∀x∈l,Fit x)→(∀e∈l.flatMap ev,aBH m e)→dr S q=sU m (l.flatMap ev)++r→dX one l.length q 0=(l,q+(sU m (l.flatMap ev)).length,0)
 | [],q,r,hq,_,_,_=>by simp[dX,sU]
 | a :: l,q,r,hq,hF,hk,hd=>by
  rw[List.flatMap_cons,wT,aS]at hd;rw[List.flatMap_cons]at hk;have h1:=h.fw a q _ hq (hF a (List.mem_cons_self ..)) (fun e Y=>hk e (List.mem_append.2 (Or.inl Y))) hd
  have J:q+(sU m (ev a)).length≤S.size:=by
   have:=(h.okp q 0 hq (by decide)).1
   rw[h1]at this;exact this
  have h2:=aMV h l _ r J (fun x hx=>hF x (bG _ hx)) (fun e Y=>hk e (List.mem_append.2 (Or.inr Y))) (wI hd)
  rw[aG,go_step,h1];dsimp only;rw[h2,List.flatMap_cons,wT,aF,Nat.add_assoc]
theorem rL{one:Nat→Int→α×Nat×Int}{ev:α→List Ev}{Fit:α→Prop}(h:wH m S one ev Fit):wH m S (fun q e=>dA one S q e) (fun l=>.n l.length :: l.flatMap ev) (fun l=>l.length≤6000∧∀x∈l,Fit x):=by
 refine⟨oL h.okp,fun q e h6 h0=>?_,fun q hq Y=>?_,fun l q r hq hF hk hd=>?_⟩
 ·have hV:nV S q e=0:=by unfold nV;rw[if_pos h0]
  have hE:eL S q e=e:=by unfold eL;rw[hV,if_neg (by omega)];unfold nE;rw[if_pos h0]
  show(dA one S q e).2.2=e
  unfold dA;rw[hV,hE];rfl
 ·have Y:(dA one S q 0).2.2=0:=Y
  show dr S q=sU m (.n (dA one S q 0).1.length :: (dA one S q 0).1.flatMap ev)++dr S (dA one S q 0).2.1∧∀e∈(Ev.n (dA one S q 0).1.length :: (dA one S q 0).1.flatMap ev),aBH m e
  unfold dA at Y ⊢;have J:eL S q 0=0:=by
   rcases Classical.em (eL S q 0=0)with e | e
   ·exact e
   ·rw[aFg one _ _ _ (vF S q 0 (by decide)) e]at Y
    exact absurd Y e
  have hn:¬6000<nV S q 0:=fun hn=>by
   unfold eL fE at J;rw[if_pos hn]at J;split at J
   ·simp at J
   ·contradiction
  have hE:nE S q 0=0:=by unfold eL at J;rwa[if_neg hn]at J
  obtain⟨b1,b2⟩:=aJl hq hE;rw[J]at Y ⊢;obtain⟨⟨c1,c2⟩,c3⟩:=aMK h (nV S q 0) (nP S q 0) (eB S q 0 hq) Y;rw[c3];have hb:sU m (.n ((nV S q 0:Nat):Int) :: (dX one (nV S q 0) (nP S q 0) 0).1.flatMap ev)=nb (nV S q 0)++sU m ((dX one (nV S q 0) (nP S q 0) 0).1.flatMap ev):=rfl;refine⟨?_,fun e he=>?_⟩
  ·rw[hb,aS,←c1,←b1]
  ·rcases aM.1 he with rfl | he
   ·exact⟨Int.natCast_nonneg _,by show((nV S q 0:Nat):Int)≤_;omega⟩
   ·exact c2 e he
 ·have hb:sU m (.n ((l.length:Nat):Int) :: l.flatMap ev)=nb l.length++sU m (l.flatMap ev):=rfl
  have hd:dr S q=sU m (.n ((l.length:Nat):Int) :: l.flatMap ev)++r:=hd;rw[hb,aS]at hd;obtain⟨h1,h2,h3⟩:=aJG hd (by have:=hF.1;omega)
  have hE:eL S q 0=0:=by unfold eL;rw[h1,if_neg (by have:=hF.1;omega),h3]
  have a0:nP S q 0≤S.size:=eB S q 0 hq;rw[h2]at a0;have h4:=aMV h l _ r a0 hF.2 (fun e he=>hk e (bG _ he)) (wI hd)
  show dA one S q 0=(l,q+(sU m (.n ((l.length:Nat):Int) :: l.flatMap ev)).length,0)
  unfold dA;rw[h1,h2,hE,h4,hb,aF,Nat.add_assoc]
theorem aEV(l:List ByteArray):l.flatMap (fun t=>[Ev.t t])=l.map Ev.t:=by
 induction l with
 | nil=>rfl
 | cons a l ih=>rw[List.flatMap_cons,aV,ih];rfl
variable (hm:m.Pairwise (fun a b=>a<b))
include hm
theorem rTs:wH m S (fun q e=>dA (fG m S) S q e) fD (fun l=>l.length≤6000):=
 (rL (rT hm)).map (fun l=>l) (fun l=>l) (fun q e=>rfl) (fun b=>rfl) (fun a=>by unfold fD;rw[aEV]) (fun b hb=>⟨hb,fun _ _=>trivial⟩)
theorem rM:wH m S (nT m S) rE (fun _=>True):=
 (wH.seq (rN m S) (rT hm)).map (fun p:Int×ByteArray=>(⟨p.1,p.2⟩:Mk)) (fun b:Mk=>(b.at_,b.tag)) (fun q e=>rfl) (fun b=>rfl) (fun a=>rfl) (fun b _=>⟨trivial,trivial⟩)
theorem rF:wH m S (nU m S) mE (fun _=>True):=
 (wH.seq (rT hm) (wH.seq (rT hm) (rT hm))).map (fun p:ByteArray×ByteArray×ByteArray=>(⟨p.1,p.2.1,p.2.2⟩:SF)) (fun b:SF=>(b.name,b.kinds,b.ret)) (fun q e=>rfl) (fun b=>rfl) (fun a=>rfl) (fun b _=>⟨trivial,trivial,trivial⟩)
theorem rO:wH m S (vN m S) jC (fun o=>o.marks.length≤6000):=
 (wH.seq (rT hm) (wH.seq (rT hm) (rL (rM hm)))).map (fun p:ByteArray×ByteArray×List Mk=>(⟨p.1,p.2.1,p.2.2⟩:SO)) (fun b:SO=>(b.name,b.kinds,b.marks)) (fun q e=>rfl) (fun b=>rfl) (fun a=>rfl) (fun b hb=>⟨trivial,trivial,hb,fun _ _=>trivial⟩)
theorem rC:wH m S (lW m S) mQ (fun c=>c.args.length≤6000):=
 (wH.seq (rN m S) (wH.seq (rT hm) (wH.seq (rT hm) (wH.seq (rN m S) (wH.seq (rT hm) (rTs hm)))))).map (fun p:Int×ByteArray×ByteArray×Int×ByteArray×List ByteArray=>(⟨p.1,p.2.1,p.2.2.1,p.2.2.2.1,p.2.2.2.2.1,p.2.2.2.2.2⟩:SC)) (fun b:SC=>(b.op,b.a,b.b,b.k,b.tag,b.args)) (fun q e=>rfl) (fun b=>rfl) (fun a=>rfl) (fun b hb=>⟨trivial,trivial,trivial,trivial,trivial,hb⟩)
def aEx(u:SU):Prop:=u.gives.length≤6000∧u.wants.length≤6000∧u.keeps.length≤6000∧(u.sys.objs.length≤6000∧∀o∈u.sys.objs,o.marks.length≤6000)∧u.sys.fns.length≤6000∧u.sys.cons.length≤6000∧∀c∈u.sys.cons,c.args.length≤6000
def aNd(m:List (List UInt8))(S:ByteArray)(q:Nat)(e:Int):SU×Nat×Int:=
 let A:=yE (fG m S) (yE (fun q e=>dA (fG m S) S q e) (yE (fun q e=>dA (fG m S) S q e) (yE (fun q e=>dA (fG m S) S q e) (yE (fun q e=>dA (vN m S) S q e) (yE (fun q e=>dA (nU m S) S q e) (fun q e=>dA (lW m S) S q e)))))) q e
 (⟨A.1.1,A.1.2.1,A.1.2.2.1,A.1.2.2.2.1,⟨A.1.2.2.2.2.1,A.1.2.2.2.2.2.1,A.1.2.2.2.2.2.2⟩⟩,A.2)
theorem rU:wH m S (aNd m S) dB aEx:=
 (wH.seq (rT hm) (wH.seq (rTs hm) (wH.seq (rTs hm) (wH.seq (rTs hm) (wH.seq (rL (rO hm)) (wH.seq (rL (rF hm)) (rL (rC hm)))))))).map (fun p:ByteArray×List ByteArray×List ByteArray×List ByteArray×List SO×List SF×List SC=>(⟨p.1,p.2.1,p.2.2.1,p.2.2.2.1,⟨p.2.2.2.2.1,p.2.2.2.2.2.1,p.2.2.2.2.2.2⟩⟩:SU)) (fun b:SU=>(b.name,b.gives,b.wants,b.keeps,b.sys.objs,b.sys.fns,b.sys.cons)) (fun q e=>rfl) (fun b=>rfl) (fun a=>rfl) (fun b hb=>⟨trivial,hb.1,hb.2.1,hb.2.2.1,hb.2.2.2.1,⟨hb.2.2.2.2.1,fun _ _=>trivial⟩,hb.2.2.2.2.2.1,hb.2.2.2.2.2.2⟩)
end
theorem xL{α β:Type}{f:Nat→Int→α×Nat×Int}{g:Nat→Int→β×Nat×Int}{q:Nat}{e:Int}{x:α×Nat×Int}{y:β×Nat×Int}(J:f q e=x)(Y:g x.2.1 x.2.2=y):yE f g q e=((x.1,y.1),y.2):=by
 subst J Y;rfl
theorem aGc(m:List (List UInt8))(S:ByteArray):aNd m S 0 0=(rdA m S,(vH m S).2):=by
 have s6:yE (fun q e=>dA (nU m S) S q e) (fun q e=>dA (lW m S) S q e) (vP m S).2.1 (vP m S).2.2=(((lF m S).1,(vH m S).1),(vH m S).2):=xL (x:=lF m S) (y:=vH m S) rfl rfl
 have s5:=xL (f:=fun q e=>dA (vN m S) S q e) (q:=(uS m S).2.1) (e:=(uS m S).2.2) (x:=vP m S) rfl s6
 have Y:=xL (f:=fun q e=>dA (fG m S) S q e) (q:=(rdW m S).2.1) (e:=(rdW m S).2.2) (x:=uS m S) rfl s5
 have s3:=xL (f:=fun q e=>dA (fG m S) S q e) (q:=(rdG m S).2.1) (e:=(rdG m S).2.2) (x:=rdW m S) rfl Y
 have s2:=xL (f:=fun q e=>dA (fG m S) S q e) (q:=nP S 0 0) (e:=tN m S 0 0) (x:=rdG m S) rfl s3
 have J:=xL (f:=fG m S) (q:=0) (e:=0) (x:=(tT m S 0 0,nP S 0 0,tN m S 0 0)) rfl s2;unfold aNd;rw[J];rfl
theorem aMR{m:List (List UInt8)}(hm:m.Pairwise (fun a b=>a<b))(u:SU)(hf:aEx u)(h:(fM m (dB u)).2=0):oQ m (bs (oF (fM m (dB u))))=0∧kF m (bs (oF (fM m (dB u))))=u:=by
 obtain⟨_,hk⟩:=tX (dB u) ([],0) h;have hd:fM m (dB u)=(sU m (dB u),0):=by
  unfold fM;rw[zK (dB u) [] hk,aX]
 have hS:oF (fM m (dB u))=sU m (dB u):=by rw[hd];rfl
 rw[hS];generalize hs:bs (sU m (dB u))=S;have hl:S.data.toList=sU m (dB u):=by rw[←hs];rfl
 have hz:S.size=(sU m (dB u)).length:=by rw[←hl];exact Array.length_toList.symm
 have J:=(rU hm (S:=S)).fw u 0 [] (bA _) hf hk (by unfold dr;rw[List.drop_zero,hl,List.append_nil])
 rw[aGc,Nat.zero_add]at J;have a1:rdA m S=u:=congrArg Prod.fst J;have a2:(vH m S).2=((sU m (dB u)).length,(0:Int)):=congrArg Prod.snd J;have Y:oQ m S=0:=by
  unfold oQ;rw[a2];unfold dE;rw[if_neg (by rw[hz];simp)]
 refine⟨Y,?_⟩;unfold kF;rw[if_pos Y,a1]
theorem aCX(m:List (List UInt8)):∀l:List Ev,l.length≤(sU m l).length
 | []=>by simp[sU]
 | e :: l=>by
  have:=aCX m l;have J:0<(evB m e).length:=aDw _
  show l.length+1≤(evB m e++sU m l).length
  rw[aF];omega
theorem aAt{m:List (List UInt8)}(hm:m.Pairwise (fun a b=>a<b))(S:ByteArray)(h:oQ m S=0):fM m (dB (kF m S))=(S.data.toList,0)∧(dB (kF m S)).length≤S.size:=by
 have hq:=(aOM m S).1;have h6:=(aOM m S).2;have hE:=h;unfold oQ dE at h;have hr:(vH m S).2.2=0∧(vH m S).2.1=S.size:=by
  split at h
  ·simp at h
  ·rename_i hx
   exact⟨h,by
    rcases Nat.lt_or_ge (vH m S).2.1 S.size with a0 | a1
    ·exact absurd ⟨h,a0⟩ hx
    ·omega⟩
 have e1:kF m S=rdA m S:=by unfold kF;rw[if_pos hE]
 obtain⟨J,Y⟩:=(rU hm (S:=S)).bk 0 (bA _) (by rw[aGc];exact hr.1)
 rw[aGc]at J Y;dsimp only at J Y;rw[hr.2]at J;have hl:S.data.toList=sU m (dB (rdA m S)):=by
  have z:dr S S.size=[]:=by unfold dr;rw[List.drop_eq_nil_iff];exact Nat.le_of_eq Array.length_toList
  rw[z,List.append_nil]at J;have:dr S 0=S.data.toList:=by unfold dr;rw[List.drop_zero]
  rw[←this];exact J
 rw[e1];refine⟨?_,?_⟩
 ·unfold fM
  rw[zK _ [] Y,aX,←hl]
 ·have:=aCX m (dB (rdA m S))
  rw[←hl]at this;have hz:S.data.toList.length=S.size:=Array.length_toList;omega
theorem pG{u:SU}(h:mR u):aEx u:=
 ⟨aZ h.g.1 (by omega),aZ h.w.1 (by omega),aZ h.k.1 (by omega),⟨aZ h.s.o (by omega),fun o J=>aZ (h.s.m o J) (by omega)⟩,aZ h.s.f (by omega),aZ h.s.c (by omega),h.s.a⟩
theorem aG5:SuL su0:=⟨by simp[su0],by simp[su0],by simp[su0],fun c hc=>by simp[su0]at hc⟩
end re
namespace sf
open RowKit Go.Sort mem sy vr po inn cr
open re (MU SU Ev fD rE tQ jC qU mE qV mQ qW dB oM fM aBH evB sU aCX zK tX dr wI aJG aJl oQ kF su0 aMR aAt aEx mR)
theorem aHy(S:ByteArray)(hS:S.size≤200000000)(p:Nat)(m:List (List UInt8))(r:List UInt8)(h:S.data.toList.drop p=pP m m.length++r)(hm:m.length≤6000)(hx:∀x∈m,x.length≤1000)(J:m.Pairwise (fun a b=>a<b)) :
 kQ S p=(p+(pP m m.length).length,0,0,m):=by
 rw[aFj,aS]at h;have Y:cnt (S.data.toList.drop p)=(m.length,(nb m.length).length,0):=by
  rw[h];exact aA7 _ _ (by omega)
 obtain⟨v1,v2,v3⟩:=aOn Y;unfold kQ;rw[v1,v2,v3,if_neg (by simp),if_neg (by omega)]
 have hd:S.data.toList.drop (p+(nb m.length).length)=tl (([]:List (List UInt8)).getLastD []) m++r:=by
  rw[←List.drop_drop,h,List.drop_left']
  ·rfl
  ·rfl
 rw[aDp S hS m [] _ r hd hx (by simpa using J),aFj,aF]
 simp only[aX,Prod.mk.injEq,and_true]
 show p+(nb m.length).length+(tl [] m).length=p+((nb m.length).length+(tl [] m).length)
 omega
theorem aNG{S:ByteArray}{p:Nat}{m:List (List UInt8)}{p':Nat}{er:Int}{J:List (List UInt8)}(h:vR S p m=(p',er,0,J)):∃x,J=m++[x]∧(m≠[]→m.getLastD []<x):=by
 unfold vR at h;split at h
 ·rename_i h0
  simp only[Prod.mk.injEq]at h;exact absurd h.2.2.1 h0
 split at h
 ·rename_i h0
  simp only[Prod.mk.injEq]at h;exact absurd h.2.2.1 h0
 split at h
 ·simp at h
 split at h
 ·simp at h
 split at h
 ·simp at h
 rename_i Y;split at h
 ·simp at h
 simp only[Prod.mk.injEq]at h;obtain⟨_,_,_,rfl⟩:=h;refine⟨_,rfl,fun hm=>?_⟩
 rcases Classical.em (m.getLastD []<(m.getLastD []).take (nV S p 0)++(vr.tx S (nP S p 0) 0).1.data.toList)with h | h
 ·exact h
 ·exact absurd ⟨hm,h⟩ Y
theorem aLl{m:List (List UInt8)}{x:List UInt8}(h:m.Pairwise (fun a b=>a<b))(Y:m≠[]→m.getLastD []<x):(m++[x]).Pairwise (fun a b=>a<b):=by
 refine List.pairwise_append.2 ⟨h,by simp,fun a ha b hb=>?_⟩
 rw[aD]at hb;subst hb
 rcases rD m with rfl | ⟨m',z,rfl⟩
 ·cases ha
 ·have J:=Y (by simp)
  rw[eH]at J
  rcases List.mem_append.1 ha with ha | ha
  ·exact List.lt_trans ((List.pairwise_append.1 h).2.2 a ha z (by simp)) J
  ·rw[aD]at ha
   subst ha;exact J
theorem aGU(S:ByteArray):∀(k p:Nat) (m:List (List UInt8)) (Y:Nat) (er:Int) (J:List (List UInt8)),lF S k p m=(Y,er,0,J)→m.Pairwise (fun a b=>a<b)→J.Pairwise (fun a b=>a<b)
 | 0,p,m,Y,er,J,h,ho=>by
  simp only[lF,Prod.mk.injEq]at h;obtain⟨_,_,_,rfl⟩:=h;exact ho
 | k+1,p,m,Y,er,J,h,ho=>by
  rw[lF]at h
  rcases ht:vR S p m with⟨p1,a0,e1,m1⟩
  rw[ht]at h;simp only at h;split at h
  ·rename_i h0
   subst h0;obtain⟨x,rfl,hx⟩:=aNG ht;exact aGU S k _ _ Y er J h (aLl ho hx)
  ·rename_i h0
   simp only[Prod.mk.injEq]at h;exact absurd h.2.2.1 h0
theorem aBe(S:ByteArray)(p:Nat)(hp:p≤S.size)(Y:Nat)(er:Int)(m:List (List UInt8))(h:kQ S p=(Y,er,0,m)) :
 er=0∧Y≤S.size∧(∀x∈m,x.length≤1000)∧m.length≤6000∧S.data.toList.drop p=pP m m.length++S.data.toList.drop Y∧m.Pairwise (fun a b=>a<b):=by
 unfold kQ at h;split at h
 ·rename_i h0
  simp only[Prod.mk.injEq]at h;exact absurd h.2.2.1 h0
 rename_i h0;split at h
 ·simp at h
 rename_i h2;have c0:(ct S p).2.2=0:=by
  have:nE S p 0=0:=by simpa using h0
  unfold nE at this
  simpa using this
 obtain⟨d1,d2,d3⟩:=xI hp c0;have v1:nV S p 0=(ct S p).1:=by unfold nV;simp
 have v2:nP S p 0=p+(ct S p).2.1:=by unfold nP;simp
 rw[v1,v2]at h;rw[v1]at h2;have ho:=aGU S _ _ _ Y er m h (by simp)
 obtain⟨rfl,J,l,rfl,hl,hx,hd,rfl⟩:=aIS S _ _ _ Y er m d3 h;simp only[aX]at hl hx hd ho ⊢;have e0:([]:List (List UInt8)).getLastD [] = []:=rfl;rw[e0]at hd J ⊢;refine⟨trivial,J,hx,by omega,?_,ho⟩
 rw[aFj,hl,d1,hd,aS]
theorem aN3{S:ByteArray}{p:Nat}(hp:p≤S.size)(J:(vr.tx S p 0).2.2=0):S.data.toList.drop p=(nb (vr.tx S p 0).1.data.toList.length++(vr.tx S p 0).1.data.toList)++S.data.toList.drop (vr.tx S p 0).2.1∧(vr.tx S p 0).2.1≤S.size:=by
 have c1:(ct S p).2.2=0∧¬S.size-(p+(ct S p).2.1)<(ct S p).1:=by
  unfold vr.tx at J;rw[if_neg (by simp)]at J
  split at J
  ·rename_i h2
   exact absurd (by simpa using J) h2
  ·rename_i h2
   split at J
   ·simp at J
   ·rename_i h3
    exact⟨by simpa using h2,h3⟩
 obtain⟨g1,g2,g3⟩:=xI hp c1.1;have t1:vr.tx S p 0=(S.extract (p+(ct S p).2.1) (p+(ct S p).2.1+(ct S p).1),p+(ct S p).2.1+(ct S p).1,0):=by
  unfold vr.tx;rw[if_neg (by simp),if_neg (by simp[c1.1]),if_neg c1.2]
 rw[t1];have c2:=c1.2;clear t1 J c1;generalize (ct S p).1=n at *;generalize (ct S p).2.1=z at *;have hT:(S.extract (p+z) (p+z+n)).data.toList=(S.data.toList.drop (p+z)).take n:=by rw[extract_toList];congr 1;omega
 dsimp only;rw[hT];have Y:((S.data.toList.drop (p+z)).take n).length=n:=by rw[List.length_take,List.length_drop,fI];omega
 have e:S.data.toList.drop (p+z+n)=(S.data.toList.drop (p+z)).drop n:=by rw[List.drop_drop]
 rw[Y,g1,e,aS,List.take_append_drop];exact⟨rfl,by omega⟩
theorem aJX{a b:List UInt8}{l1 Y:List (List UInt8)}(h1:(a :: l1).Pairwise (fun a b=>a<b))(h2:(b :: Y).Pairwise (fun a b=>a<b))(h:∀x∈a :: l1,x∈b :: Y):∀x∈l1,x∈Y:=fun x hx=>by
 have J:=(List.pairwise_cons.1 h1).1 x hx
 rcases aM.1 (h x (bG _ hx))with rfl | h3
 ·rcases aM.1 (h a (List.mem_cons_self ..))with rfl | h4
  ·exact absurd J (List.lt_irrefl _)
  ·exact absurd (List.lt_trans J ((List.pairwise_cons.1 h2).1 a h4)) (List.lt_irrefl _)
 ·exact h3
theorem aIY:∀(Y J:List (List UInt8)),Y.Pairwise (fun a b=>a<b)→J.Pairwise (fun a b=>a<b)→(∀x∈Y,x∈J)→Y.length=J.length→Y=J
 | [],[],_,_,_,_=>rfl
 | [],_ :: _,_,_,_,h=>by simp at h
 | _ :: _,[],_,_,_,h=>by simp at h
 | a :: Y,b :: J,h1,h2,h,hl=>by
  have ht:=aJX h1 h2 h;have e:=aIY Y J (List.pairwise_cons.1 h1).2 (List.pairwise_cons.1 h2).2 ht (by simpa using hl)
  subst e
  rcases aM.1 (h a (List.mem_cons_self ..))with rfl | h4
  ·rfl
  ·exact absurd ((List.pairwise_cons.1 h1).1 a h4) (List.lt_irrefl _)
def gM(u:SU):List (List UInt8):=jP ((oM (dB u)).map re.tx)
def gG(u:SU):List UInt8:=(fM (gM u) (dB u)).1
def sN:List UInt8:=[119,101,102,116]
def sD(u:SU):List UInt8:=nb 1++(pP (gM u) (gM u).length++(nb (gG u).length++gG u))
def nW(u:SU):List UInt8:=sN++sD u
def gI(u:SU):ByteArray:=iR (bs (nW u))
def tJ(l:List (List UInt8)):Bool:=l.any (fun t=>decide (1000<t.length))
noncomputable def fV(u:SU):Int:=
 if eQ (tK u)≠0 then eQ (tK u) else if 6000<(gM u).length then 4 else if tJ (gM u)=true then 9 else if 200000<(nW u).length+3 then 9 else 0
noncomputable def jT(u:SU):ByteArray:=if fV u=0 then gI u else⟨#[]⟩
theorem tZ(u:SU):(gM u).Pairwise (fun a b=>a<b):=aIe _
def lK(t:ByteArray):Bool:=decide (4≤t.size)&&((t.extract 0 4).data.toList==sN)
def bX(t:ByteArray):ByteArray:=t.extract 4 t.size
def kK(t:ByteArray):Int:=
 if lK t=false then 5 else if nE (bX t) 0 0≠0 then nE (bX t) 0 0 else if nV (bX t) 0 0≠1 then 5
 else if(kQ (bX t) (nP (bX t) 0 0)).2.2.1≠0 then(kQ (bX t) (nP (bX t) 0 0)).2.2.1
 else dE (bX t) (vr.tx (bX t) (kQ (bX t) (nP (bX t) 0 0)).1 0).2.1 (vr.tx (bX t) (kQ (bX t) (nP (bX t) 0 0)).1 0).2.2
def gL(t:ByteArray):List (List UInt8):=(kQ (bX t) (nP (bX t) 0 0)).2.2.2
def iO(t:ByteArray):ByteArray:=(vr.tx (bX t) (kQ (bX t) (nP (bX t) 0 0)).1 0).1
open Classical in
noncomputable def fQ(b:ByteArray):Int:=
 if 200000<b.size then 9 else if xS b=false then 14
 else if kK (bR b)≠0 then kK (bR b)
 else if oQ (gL (bR b)) (iO (bR b))≠0 then oQ (gL (bR b)) (iO (bR b))
 else if eQ (tK (kF (gL (bR b)) (iO (bR b))))≠0 then eQ (tK (kF (gL (bR b)) (iO (bR b))))
 else if gM (kF (gL (bR b)) (iO (bR b)))≠gL (bR b) then 3 else 0
noncomputable def jV(b:ByteArray):SU:=if fQ b=0 then kF (gL (bR b)) (iO (bR b)) else su0
theorem yK{t:ByteArray}(h:kK t=0) :
 t.data.toList=sN++(nb 1++(pP (gL t) (gL t).length++(nb (iO t).data.toList.length++(iO t).data.toList)))∧(gL t).Pairwise (fun a b=>a<b)∧(gL t).length≤6000∧(∀x∈gL t,x.length≤1000)∧(iO t).size≤t.size:=by
 unfold kK at h;split at h
 ·simp at h
 rename_i hb;have hb:lK t=true:=by simpa using hb
 unfold lK at hb;rw[Bool.and_eq_true,bJ,beq_iff_eq]at hb;obtain⟨h4,a1⟩:=hb;split at h
 ·rename_i h0
  exact absurd h h0
 rename_i h0;have hE:nE (bX t) 0 0=0:=by simpa using h0
 split at h
 ·simp at h
 rename_i h1;have hV:nV (bX t) 0 0=1:=by simpa using h1
 split at h
 ·rename_i h2
  exact absurd h h2
 rename_i h2;have hD:(kQ (bX t) (nP (bX t) 0 0)).2.2.1=0:=by simpa using h2
 have hl:(bX t).data.toList=t.data.toList.drop 4:=by
  unfold bX;rw[extract_toList,bE (by rw[List.length_drop,fI];exact aY _)]
 have hz:(bX t).size=t.size-4:=by rw[←fI,hl,List.length_drop,fI]
 have J:t.data.toList=sN++(bX t).data.toList:=by
  rw[hl,←a1,extract_toList];exact(List.take_append_drop 4 _).symm
 obtain⟨b1,_⟩:=aJl (bA _) hE;have hp:nP (bX t) 0 0≤(bX t).size:=re.eB (bX t) 0 0 (bA _);rw[hV]at b1;have d0:dr (bX t) 0=(bX t).data.toList:=by unfold dr;rw[List.drop_zero]
 rw[d0]at b1;unfold gL iO
 rcases hR:kQ (bX t) (nP (bX t) 0 0)with⟨Y,er,d,m⟩
 rw[hR]at h hD;dsimp only at h hD ⊢;subst hD;obtain⟨rfl,a2,hx,hm,hd,ho⟩:=aBe (bX t) _ hp Y er m hR;have hT:(vr.tx (bX t) Y 0).2.2=0∧(bX t).size≤(vr.tx (bX t) Y 0).2.1:=by
  unfold dE at h;split at h
  ·simp at h
  ·rename_i hx
   exact⟨h,by
    rcases Nat.lt_or_ge (vr.tx (bX t) Y 0).2.1 (bX t).size with a3 | a4
    ·exact absurd ⟨h,a3⟩ hx
    ·exact a4⟩
 obtain⟨e1,e2⟩:=aN3 a2 hT.1;have a0:(bX t).data.toList.drop (vr.tx (bX t) Y 0).2.1=[]:=List.drop_eq_nil_iff.2 (by rw[fI];exact hT.2)
 rw[a0,List.append_nil]at e1;have a5:(vr.tx (bX t) Y 0).1.size≤(bX t).size:=by
  have:=congrArg List.length e1;rw[List.length_drop,fI,aF,fI]at this;omega
 refine⟨?_,ho,hm,hx,by omega⟩
 rw[J,b1];unfold dr;rw[hd,e1]
theorem aDE{α β:Type}(f:α→List β):∀(l:List α) (x:α),x∈l→(f x).length≤(l.flatMap f).length
 | a :: l,x,h=>by
  rw[List.flatMap_cons,aF]
  rcases aM.1 h with rfl | h
  ·omega
  ·have:=aDE f l x h
   omega
theorem aEc:∀{l:List Int},eQ l=0→∀x∈l,x=0
 | [],_,x,J=>by cases J
 | a :: l,h,x,J=>by
  unfold eQ at h;split at h
  ·rename_i h0
   rcases aM.1 J with rfl | J
   ·exact h0
   ·exact aEc h x J
  ·rename_i h0
   exact absurd h h0
theorem aAX{α:Type}{chk:α→Int}{bad:α→α→Bool}:∀{l:List α} {p:Option α},nG chk bad p l=0→∀x∈l,chk x=0
 | [],_,_,x,J=>by cases J
 | a :: l,p,h,x,J=>by
  unfold nG at h;split at h
  ·rename_i h0
   rcases hb:aM3 bad p a with _ | _
   ·rw[hb,cond_false]at h
    rcases aM.1 J with rfl | J
    ·exact h0
    ·exact aAX h x J
   ·rw[hb,cond_true]at h
    simp at h
  ·rename_i h0
   exact absurd h h0
theorem aCv{a b:Int}(h:oG a b=0):a=0∧b=0:=by
 unfold oG at h;split at h
 ·rename_i h0
  exact⟨h0,h⟩
 ·rename_i h0
  exact absurd h h0
theorem aFQ{s:SS}(h:iW s=0):(∀o∈s.objs,kN o=0)∧(∀f∈s.fns,fnE f=0)∧(∀c∈s.cons,jB c=0):=by
 unfold iW at h;split at h
 ·simp at h
 obtain⟨Y,h⟩:=aCv h;obtain⟨h2,J⟩:=aCv h;exact⟨aAX Y,aAX h2,aAX J⟩
theorem aJ6{o:SO}(h:kN o=0):∀m∈o.marks,0≤m.at_∧m.at_≤64:=by
 unfold kN at h;split at h
 ·simp at h
 split at h
 ·simp at h
 rename_i J;split at h
 ·rename_i hm
  intro m Y;obtain⟨i,hi,rfl⟩:=List.mem_iff_getElem.1 Y;obtain⟨a1,a2,_⟩:=hm i o.marks[i] hi (aN hi);have J:eG o.kinds 1 64=true:=by simpa using J
  unfold eG at J;simp only[Bool.and_eq_true,bJ]at J;omega
 ·simp at h
theorem aNl{c:SC}(h:jB c=0):(0≤c.op∧c.op≤6)∧0≤c.k∧c.k≤64:=by
 unfold jB at h;split at h
 ·simp at h
 split at h
 ·simp at h
 split at h
 ·rename_i hr
  refine⟨by omega,?_⟩
  unfold bP at hr;split at hr
  ·simp only[Bool.and_eq_true,bJ]at hr
   omega
  split at hr
  ·simp only[Bool.and_eq_true,bJ]at hr
   omega
  ·simp only[Bool.and_eq_true,bJ]at hr
   omega
 ·simp at h
theorem aG1{l:List ByteArray}{k:Int}(h:Ev.n k∈fD l):k=l.length:=by
 unfold fD at h
 rcases aM.1 h with h | h
 ·injection h
 ·obtain⟨s,_,h⟩:=List.mem_map.1 h
  cases h
theorem aOi{u:SU}(h:eQ (tK u)=0)(hl:(dB u).length≤999000)(k:Int)(J:Ev.n k∈dB u):0≤k∧k≤268435456:=by
 have hc:iW u.sys=0:=aEc h _ (by unfold tK;simp)
 obtain⟨ho,_,hcs⟩:=aFQ hc;unfold dB at hl J;simp only[aG,aF]at hl;have lL:∀l:List ByteArray,(fD l).length=l.length+1:=re.zG;simp only[lL]at hl
 rcases aM.1 J with J | J
 ·cases J
 rcases List.mem_append.1 J with J | J
 ·have:=aG1 J
  omega
 rcases List.mem_append.1 J with J | J
 ·have:=aG1 J
  omega
 rcases List.mem_append.1 J with J | J
 ·have:=aG1 J
  omega
 rcases List.mem_append.1 J with J | J
 ·unfold qU at J hl
  rw[aG]at hl
  rcases aM.1 J with J | J
  ·injection J with J
   have:u.sys.objs.length≤(u.sys.objs.flatMap jC).length:=by
    have:=List.length_flatMap (l:=u.sys.objs) (f:=jC);rw[this];clear this J hl ho;generalize u.sys.objs=l
    induction l with
    | nil=>simp
    | cons a l ih=>
     simp only[aV,List.sum_cons,aG];have:0<(jC a).length:=by simp[jC]
     omega
   omega
  ·obtain⟨o,Y,J⟩:=List.mem_flatMap.1 J
   have a1:=aDE jC _ o Y;have e1:(jC o).length=2+(1+(o.marks.flatMap rE).length):=by
    unfold jC tQ;simp only[aG];omega
   rw[e1]at a1;unfold jC at J
   rcases aM.1 J with J | J
   ·cases J
   rcases aM.1 J with J | J
   ·cases J
   unfold tQ at J
   rcases aM.1 J with J | J
   ·injection J with J
    have h2:o.marks.length≤(o.marks.flatMap rE).length:=by
     clear J a1 Y;generalize o.marks=l
     induction l with
     | nil=>simp
     | cons a l ih => rw[List.flatMap_cons,aF,aG];have:(rE a).length=2:=rfl
                      omega
    omega
   ·obtain⟨m,hm,J⟩:=List.mem_flatMap.1 J
    have:=aJ6 (ho o Y) m hm;simp only[rE,aM,aT,or_false]at J
    rcases J with J | J
    ·injection J with J
     omega
    ·cases J
 rcases List.mem_append.1 J with J | J
 ·unfold qV at J hl
  rw[aG]at hl
  rcases aM.1 J with J | J
  ·injection J with J
   have h2:u.sys.fns.length≤(u.sys.fns.flatMap mE).length:=by
    clear J hl;generalize u.sys.fns=l
    induction l with
    | nil=>simp
    | cons a l ih => rw[List.flatMap_cons,aF,aG];have:(mE a).length=3:=rfl
                     omega
   omega
  ·obtain⟨f,_,J⟩:=List.mem_flatMap.1 J
   simp[mE]at J
 ·unfold qW at J hl
  rw[aG]at hl
  rcases aM.1 J with J | J
  ·injection J with J
   have h2:u.sys.cons.length≤(u.sys.cons.flatMap mQ).length:=by
    clear J hl hcs;generalize u.sys.cons=l
    induction l with
    | nil=>simp
    | cons a l ih => rw[List.flatMap_cons,aF,aG];have:0<(mQ a).length:=by simp[mQ]
                     omega
   omega
  ·obtain⟨c,a0,J⟩:=List.mem_flatMap.1 J
   have a2:=aDE mQ _ c a0;have h2:=aNl (hcs c a0);have e1:(mQ c).length=5+(c.args.length+1):=by
    unfold mQ;simp only[aG,lL];omega
   rw[e1]at a2;unfold mQ at J
   rcases aM.1 J with J | J
   ·injection J with J
    omega
   rcases aM.1 J with J | J
   ·cases J
   rcases aM.1 J with J | J
   ·cases J
   rcases aM.1 J with J | J
   ·injection J with J
    omega
   rcases aM.1 J with J | J
   ·cases J
   have:=aG1 J;omega
theorem aAS:∀{l:List Ev} {s:ByteArray},Ev.t s∈l↔s∈oM l
 | [],s=>by simp[oM]
 | .n k :: l,s=>by
  show _↔s∈oM l
  rw[aM,←aAS];simp
 | .t x :: l,s=>by
  show _↔s∈x :: oM l
  rw[aM,aM,←aAS];simp
theorem aGk{u:SU}{s:ByteArray}(h:Ev.t s∈dB u):re.tx s∈gM u:=(wS _ _).2 (List.mem_map.2 ⟨s,aAS.1 h,rfl⟩)
theorem aDx(u:SU):(gM u).length≤(dB u).length:=by
 have J:=aC7 ((oM (dB u)).map re.tx);have Y:=re.wZ (dB u);rw[aH]at J;unfold gM;omega
theorem aOu{u:SU}(h:eQ (tK u)=0)(hl:(dB u).length≤999000):∀e∈dB u,aBH (gM u) e:=fun e J=>by
 cases e with
 | n k=>exact aOi h hl k J
 | t s=>
  refine⟨aGk J,?_⟩;have Y:=List.idxOf_lt_length_of_mem (aGk J);have h2:=aDx u;omega
theorem aGi{u:SU}(h:eQ (tK u)=0)(hl:(dB u).length≤999000):fM (gM u) (dB u)=(gG u,0)∧gG u=sU (gM u) (dB u):=by
 have e:fM (gM u) (dB u)=([]++sU (gM u) (dB u),0):=zK (dB u) [] (aOu h hl);unfold gG;rw[e];exact⟨rfl,rfl⟩
theorem aKy{m:List (List UInt8)}(Y:m.Pairwise (fun a b=>a<b)){S:ByteArray}(h:oQ m S=0):∀x∈gM (kF m S),x∈m:=fun x J=>by
 have hb:=(aAt Y S h).1;obtain⟨_,hk⟩:=tX (dB (kF m S)) ([],0) (by show(fM m (dB (kF m S))).2=0;rw[hb])
 obtain⟨s,hs,rfl⟩:=List.mem_map.1 ((wS _ _).1 J);exact(hk _ (aAS.2 hs)).1
theorem aMi{m:List (List UInt8)}(J:m.Pairwise (fun a b=>a<b)){S:ByteArray}(h:oQ m S=0):(gM (kF m S)).length=m.length↔gM (kF m S)=m:=
 ⟨fun hl=>aIY _ _ (tZ _) J (aKy J h) hl,fun e=>by rw[e]⟩
theorem aHd{l:List (List UInt8)}(h:tJ l=false):∀x∈l,x.length≤1000:=fun x J=>by
 unfold tJ at h;have:=List.any_eq_false.1 h x J
 simpa using this
theorem aGN{l:List (List UInt8)}(h:∀x∈l,x.length≤1000):tJ l=false:=by
 unfold tJ;rw[List.any_eq_false];intro x J;have:=h x J;simp;omega
theorem vY{u:SU}(h:fV u=0):eQ (tK u)=0∧(gM u).length≤6000∧(∀x∈gM u,x.length≤1000)∧(nW u).length+3≤200000:=by
 unfold fV at h;split at h
 ·rename_i h0
  exact absurd h h0
 rename_i h0;split at h
 ·simp at h
 rename_i Y;split at h
 ·simp at h
 rename_i J;split at h
 ·simp at h
 exact⟨by simpa using h0,by omega,aHd (by simpa using J),by omega⟩
theorem oJ(l:List UInt8):(bs l).size=l.length:=rfl
theorem xN(u:SU):(gI u).size=(nW u).length+3:=by
 unfold gI;rw[pE,oJ]
theorem aHu(s:ByteArray):bR (iR s)=s:=by
 unfold bR;rw[if_pos (aHj s),pE,Nat.add_sub_cancel];exact aHk s _
theorem aGO(s:ByteArray):bs s.data.toList=s:=rfl
theorem aK9(l:List UInt8):(bs l).data.toList=l:=rfl
theorem uB{u:SU}(h:fV u=0)(hs:aEx u)(hl:(dB u).length≤999000):fQ (gI u)=0∧jV (gI u)=u:=by
 obtain⟨h0,h1,h2,h3⟩:=vY h;obtain⟨hr,_⟩:=aGi h0 hl;have J:bR (gI u)=bs (nW u):=aHu _;have Y:(bs (nW u)).data.toList=sN++sD u:=rfl;have a0:lK (bs (nW u))=true:=by
  unfold lK;rw[extract_toList,Y,Bool.and_eq_true,beq_iff_eq,bJ,oJ];refine⟨?_,rfl⟩
  show 4≤(sN++sD u).length
  rw[aF];exact Nat.le_add_right _ _
 have hS:(bX (bs (nW u))).data.toList=sD u:=by
  unfold bX;rw[extract_toList,Y];have e:(sN++sD u).drop 4=sD u:=rfl;rw[e];refine bE ?_;have:(bs (nW u)).size=(sN++sD u).length:=rfl;rw[this,aF];have:sN.length=4:=rfl;omega
 generalize hT:bX (bs (nW u))=T at *;have a2:T.size=(sD u).length:=by rw[←fI,hS]
 have a5:(sD u).length≤200000:=by
  have:(nW u).length=4+(sD u).length:=by unfold nW;rw[aF];rfl
  omega
 have d0:dr T 0=nb 1++(pP (gM u) (gM u).length++(nb (gG u).length++gG u)):=by unfold dr;rw[List.drop_zero,hS];rfl
 obtain⟨n1,n2,n3⟩:=aJG d0 (by omega)
 have d1:=wI d0;have hR:=aHy T (by omega) _ (gM u) _ d1 h1 h2 (tZ u)
 have d2:=wI (S:=T) d1;have a6:(gG u).length≤(sD u).length:=by unfold sD;simp only[aF];omega
 have hc:cnt (T.data.toList.drop (0+(nb 1).length+(pP (gM u) (gM u).length).length))=((gG u).length,(nb (gG u).length).length,0):=by
  have:T.data.toList.drop (0+(nb 1).length+(pP (gM u) (gM u).length).length)=nb (gG u).length++gG u:=d2;rw[this];exact aA7 _ _ (by omega)
 have d3:=wI (S:=T) (p:=0+(nb 1).length+(pP (gM u) (gM u).length).length) (a:=nb (gG u).length) (r:=gG u) d2;have hlen:T.size=0+(nb 1).length+(pP (gM u) (gM u).length).length+(nb (gG u).length).length+(gG u).length:=by
  rw[a2];unfold sD;simp only[aF];omega
 have hX:=aMP hc (by omega)
 have a1:(T.extract (0+(nb 1).length+(pP (gM u) (gM u).length).length+(nb (gG u).length).length) (0+(nb 1).length+(pP (gM u) (gM u).length).length+(nb (gG u).length).length+(gG u).length))=bs (gG u):=by
  apply ByteArray.ext
  apply Array.ext'
  rw[extract_toList];have:T.data.toList.drop (0+(nb 1).length+(pP (gM u) (gM u).length).length+(nb (gG u).length).length)=gG u:=d3;rw[this,bE (by omega)]
  rfl
 rw[a1]at hX;have eP:nP T 0 0=0+(nb 1).length:=n2;have e1:kK (bs (nW u))=0:=by
  unfold kK;rw[hT,if_neg (by rw[a0];simp),n1,n3,eP,hR,if_neg (by simp),if_neg (by simp),if_neg (by simp)]
  dsimp only;rw[hX];dsimp only;unfold dE;rw[if_neg (by rw[hlen];simp)]
 have e2:gL (bs (nW u))=gM u:=by
  unfold gL;rw[hT,eP,hR]
 have e3:iO (bs (nW u))=bs (gG u):=by
  unfold iO;rw[hT,eP,hR];dsimp only;rw[hX]
 obtain⟨k1,k2⟩:=aMR (tZ u) u hs (by rw[hr])
 rw[hr]at k1 k2;have a3:bs (oF (gG u,0))=bs (gG u):=rfl;rw[a3]at k1 k2;have hd:fQ (gI u)=0:=by
  unfold fQ;rw[J,e1,e2,e3,k1,k2,xN,if_neg (by omega)]
  have a4:xS (gI u)=true:=aHj _;rw[if_neg (by rw[a4];simp),if_neg (by simp),if_neg (by simp),if_neg (by rw[h0];simp),if_neg (by simp)]
 refine⟨hd,?_⟩;unfold jV;rw[if_pos hd,J,e2,e3,k2]
theorem yX{b:ByteArray}(h:fQ b=0):b.size≤200000∧xS b=true∧kK (bR b)=0∧oQ (gL (bR b)) (iO (bR b))=0∧eQ (tK (kF (gL (bR b)) (iO (bR b))))=0∧gM (kF (gL (bR b)) (iO (bR b)))=gL (bR b):=by
 unfold fQ at h;split at h
 ·simp at h
 rename_i h1;split at h
 ·simp at h
 rename_i h2;split at h
 ·rename_i h0;exact absurd h h0
 rename_i h3;split at h
 ·rename_i h0;exact absurd h h0
 rename_i Y;split at h
 ·rename_i h0;exact absurd h h0
 rename_i J;split at h
 ·simp at h
 rename_i h6;exact⟨by omega,by simpa using h2,Classical.not_not.1 h3,Classical.not_not.1 Y,Classical.not_not.1 J,Classical.not_not.1 h6⟩
theorem aLS{b:ByteArray}(h:xS b=true):iR (bR b)=b∧b.size=(bR b).size+3:=by
 have e:iR (bR b)=b:=by
  unfold bR;rw[if_pos h];unfold xS at h;rw[Bool.and_eq_true,beq_iff_eq]at h;have:=h.2;rw[ByteArray.toList_eq,ByteArray.toList_eq]at this;exact ByteArray.ext (Array.ext' this)
 refine⟨e,?_⟩
 conv=>lhs;rw[←e]
 exact pE _
theorem tH{b:ByteArray}(h:fQ b=0):fV (jV b)=0∧gI (jV b)=b∧(dB (jV b)).length≤b.size:=by
 obtain⟨h1,h2,h3,h4,h5,J⟩:=yX h;have hd:jV b=kF (gL (bR b)) (iO (bR b)):=by unfold jV;rw[if_pos h]
 obtain⟨a1,a2,a3,a4,a5⟩:=yK h3;obtain⟨Y,s2⟩:=aLS h2;obtain⟨b1,b2⟩:=aAt a2 (iO (bR b)) h4;rw[hd];generalize kF (gL (bR b)) (iO (bR b))=u at *;have hr:gG u=(iO (bR b)).data.toList:=by unfold gG;rw[J,b1]
 have hi:nW u=(bR b).data.toList:=by
  unfold nW sD;rw[hr,J,a1]
 have hz:(nW u).length=(bR b).size:=by rw[hi,fI]
 refine⟨?_,?_,by omega⟩
 ·unfold fV
  rw[if_neg (by rw[h5];simp),if_neg (by rw[J];omega),if_neg (by rw[J,aGN a4];simp),if_neg (by omega)]
 ·unfold gI
  rw[hi,aGO,Y]
end sf
set_option maxRecDepth 100000
namespace sf
open RowKit Go.Sort Shelf mem vr po inn sy
open re (MU SU eY dB fM oM xK aCr aMI aBV RP TP)
open nm (iE bQ)
def aAd(u:SU)(w:World)(e:Ending)(w':World):Prop:=e=.returned (.tuple #[.string (jT u),.int .i64 (fV u)])∧Below w.heap.size w w'
theorem aG4{u:SU}{d:Int}(h:fV u=d)(hd:d≠0){w w':World}(hb:Below w.heap.size w w'):aAd u w (.returned (.tuple #[.string ⟨#[]⟩,.int .i64 d])) w':=by
 subst h;refine⟨?_,hb⟩;unfold jT;rw[if_neg hd]
theorem aJk{u:SU}(h:fV u=0){w w':World}(hb:Below w.heap.size w w'):aAd u w (.returned (.tuple #[.string (gI u),.int .i64 0])) w':=by
 refine⟨?_,hb⟩;unfold jT;rw[if_pos h,h]
structure EK(w:World)(u:MU):Prop where
 k:aIc w u
 l:(dB u.su).length≤999000
 a:∀c∈u.su.sys.cons,c.args.length≤8796093022208
theorem EK.below{w w':World}{u:MU}(h:EK w u)(hb:Below w.heap.size w w'):EK w' u:=⟨h.k.below hb,h.l,h.a⟩
theorem aMd(W:World)(l:List ByteArray):F1 W (.func (.func 29) #[] #[]) l (fun s=>decide (1000<s.size)):=by
 refine⟨_,_,rfl,(fun args w=>by go_simp),fun w hw s hs=>?_⟩
 show Calls Tryz.prog 29 #[.string s] w (fun e J=>e=.returned (.bool (decide (1000<s.size)))∧Below w.heap.size w J)
 have hR:=hid (Below.refl w.heap.size w);have Y:decide (1000<s.size)=decide ((1000:Int)<(s.size:Int)):=by rw[decide_eq_decide];omega
 rw[Y];clear hw hs Y;go_enter Tryz.func29,Tryz.ntmps29;go_wp2_with fail;go_ret;exact⟨rfl,hR.out⟩
theorem aOU(w:World):WA (w.alloc (.cells #[.slice none 0 0,.int .i64 0] 63)) w.heap.size none 0 ([],0):=⟨bT.new w _ _,Seg.nil _ _⟩
theorem aLC(T:List (List UInt8)):((T.map bs).any (fun s=>decide (1000<s.size)))=tJ T:=by
 unfold tJ;rw[List.any_map];rfl
theorem aNO(T:List (List UInt8)):(T.map bs).map Value.string=T.map encStr:=by
 rw[List.map_map];rfl
theorem zO{W w w':World}{f:Nat}{A:Option Addr}(J:Below W.heap.size W w)(Y:∀x∈f :: blk A,W.heap.size≤x)(fr:Fr (f :: blk A) w w'):Below W.heap.size W w':=J.trans (fr.below Y J.size)
theorem aEn{W w:World}{f:Nat}{A A':Option Addr}(hW:Below W.heap.size W w)(Y:∀x∈f :: blk A,W.heap.size≤x)(ho:∀g∈blk A',g∈blk A∨w.heap.size≤g):∀x∈f :: blk A',W.heap.size≤x:=fun x J=>by
 rcases aM.1 J with rfl | J
 ·exact Y _ (List.mem_cons_self ..)
 ·rcases ho x J with h | h
  ·exact Y x (bG _ h)
  ·exact aZ hW.size h
theorem mP(w:World)(u:MU)(hk:EK w u)(ao:iE w):Calls Tryz.prog 9 #[u.val] w (aAd u.su w):=by
 obtain⟨W,am⟩:∃W,Hid (W=w.alloc (.cells u.row 29)):=⟨_,hid rfl⟩;have b0:Below w.heap.size w W:=by rw[am.out];exact(Below.refl _ _).alloc (aY _) _
 have B:bT W w.heap.size 29 u.row:=by rw[am.out];exact bT.new _ _ _
 have HC:Hid (∀J,Below W.heap.size W J→J.cell? ⟨w.heap.size,0,none⟩=some (.string u.name)∧J.cell? ⟨w.heap.size,1,none⟩=some (.slice u.gA u.gives.length u.gc)∧J.cell? ⟨w.heap.size,2,none⟩=some (.slice u.wA u.wants.length u.wc)∧J.cell? ⟨w.heap.size,3,none⟩=some (.slice u.kA u.keeps.length u.kc)∧J.cell? ⟨w.heap.size,4,none⟩=some (.slice u.s.oA u.s.os.length u.s.oc)∧J.cell? ⟨w.heap.size,5,none⟩=some (.slice u.s.fA u.s.fs.length u.s.fc)∧J.cell? ⟨w.heap.size,6,none⟩=some (.slice u.s.cA u.s.cs.length u.s.cc)):=hid (fun J b=>by
  have x:=B.kept (Fr.of_below b []) (by simp)
  exact⟨x.cell 0,x.cell 1,x.cell 2,x.cell 3,x.cell 4,x.cell 5,x.cell 6⟩)
 have HE:Hid (∀J,Below W.heap.size W J→Below w.heap.size w J):=hid (fun J b=>b0.trans (b.mono b0.size))
 have R0:=hid (Below.refl W.heap.size W);have HK:∀J,Below W.heap.size W J→EK J u:=fun J b=>(hk.below b0).below b
 have KC:=hid (fun(J:World) (b:Below W.heap.size W J)=>aBQ J u (HK J b).k (bQ (bQ ao b0) b))
 have KX:=hid (fun(J:World) (b:Below W.heap.size W J)=>xK J u (HK J b).k.m (aZ hk.l (by decide)))
 have aj:jP ((oM (dB u.su)).map re.tx)=gM u.su:=rfl;rw[aj]at KX;have bm:=tZ u.su;have bp:=aZ (aDx u.su) hk.l
 have KB:Hid (∀(J:World) (pb:Nat) (pA:Option Addr) (pc:Nat),Below W.heap.size W J→eQ (tK u.su)=0→Pl J pb pA pc (gM u.su)→Calls Tryz.prog 31 #[.pointer (some ⟨pb,0,none⟩),u.val] J (fun e w'=>e=.returned (.tuple #[.string (bs (gG u.su)),.int .i64 0])∧Below J.heap.size J w')):=hid (fun J pb pA pc b h0 hp=>by
  have h:=aCr J pb pA pc (gM u.su) hp bm (by omega) u (HK J b).k.m (by unfold re.MX;exact aZ hk.l (by decide))
  unfold RP at h;rw[(aGi h0 hk.l).1]at h
  exact h)
 have KP:=hid (fun(J:World) (pA:Option Addr) (pc:Nat) (hp:Rd J pA ((gM u.su).map encStr))=>aMI J pA pc ((oM (dB u.su)).map re.tx) hp (by rw[aj];omega))
 rw[aj]at KP
 have a7:Hid (eQ (tK u.su)=0→(gG u.su).length≤5000000):=hid (fun h0=>by
  have:=re.mW (gM u.su) (dB u.su);have:=hk.l;unfold gG
  omega)
 have o0:Hid (eQ (tK u.su)≠0→fV u.su=eQ (tK u.su)):=hid (fun h=>by unfold fV;rw[if_pos h])
 have o1:Hid (eQ (tK u.su)=0→6000<(gM u.su).length→fV u.su=4):=hid (fun h h1=>by unfold fV;rw[if_neg (by simp[h]),if_pos h1])
 have o2:Hid (eQ (tK u.su)=0→¬6000<(gM u.su).length→tJ (gM u.su)=true→fV u.su=9):=hid (fun h h1 h2=>by unfold fV;rw[if_neg (by simp[h]),if_neg h1,if_pos h2])
 have o3:Hid (eQ (tK u.su)=0→¬6000<(gM u.su).length→tJ (gM u.su)=false→200000<(nb 1++(pP (gM u.su) (gM u.su).length++(nb (gG u.su).length++gG u.su))).length+7→fV u.su=9):=hid (fun h h1 h2 h3=>by
  unfold fV;rw[if_neg (by simp[h]),if_neg h1,if_neg (by simp[h2]),if_pos]
  unfold nW sD;rw[aF];have:sN.length=4:=rfl
  omega)
 have o4:Hid (eQ (tK u.su)=0→¬6000<(gM u.su).length→tJ (gM u.su)=false→¬200000<(nb 1++(pP (gM u.su) (gM u.su).length++(nb (gG u.su).length++gG u.su))).length+7→fV u.su=0):=hid (fun h h1 h2 h3=>by
  unfold fV;rw[if_neg (by simp[h]),if_neg h1,if_neg (by simp[h2]),if_neg]
  unfold nW sD;rw[aF];have:sN.length=4:=rfl
  omega)
 have hF:Hid (gI u.su=cr.iR ⟨([119,101,102,116]++(nb 1++(pP (gM u.su) (gM u.su).length++(nb (gG u.su).length++gG u.su)))).toArray⟩):=hid (by
  unfold gI nW sD sN bs
  rfl)
 have bv:=hid bp;have b8:Hid (tJ (gM u.su)=false→∀x∈gM u.su,x.length≤1000):=hid aHd;obtain⟨x0,x1,x2,x3,x4,x5,x6⟩:=HC.out W R0.out;have a0:Hid (∀d w',fV u.su=d→d≠0→Below w.heap.size w w'→aAd u.su w (.returned (.tuple #[.string ⟨#[]⟩,.int .i64 d])) w'):=hid (fun d w' h hd hb=>aG4 h hd hb)
 have a3:Hid (∀w',fV u.su=0→Below w.heap.size w w'→aAd u.su w (.returned (.tuple #[.string (gI u.su),.int .i64 0])) w'):=hid (fun w' h hb=>aJk h hb)
 unfold sy.dD at KC;unfold TP at KX;unfold aBV at KP;unfold MU.val at KC KX KB ⊢;unfold MU.row at *;clear hk ao b0 B HK bm bp aj;generalize fV u.su=EE at *;generalize gI u.su=FF at *;generalize gG u.su=RR at *;generalize gM u.su=T at *;generalize eQ (tK u.su)=E at *;go_enter Tryz.func9,Tryz.ntmps9;go_upto_region 1 with fail;rw[←am.out];clear am;generalize bb:w.heap.size=bx at *;replace bb:=hid bb;have KA:=hid (KC.out W R0.out);go_wp2_with fail;refine KA.out.mono ?_;rintro e J ⟨rfl,b2⟩;have B2:=hid (R0.out.trans b2);clear b2 KA KC x0 x1 x2 x3 x4 x5 x6
 by_cases h0:E=0
 rotate_left
 ·have q0:(E != 0)=true:=by simpa using h0
  have T1:=hid (a0.out E J (o0.out h0) h0 (HE.out _ B2.out));clear KX KB KP o0 o1 o2 o3 o4 hF a0 a3 HC HE;go_wp2_with fail
  go_ret2
  exact T1.out
 have q0:(E != 0)=false:=by simpa using h0
 obtain⟨x0,x1,x2,x3,x4,x5,x6⟩:=HC.out J B2.out;have KA:=hid (KX.out J B2.out);go_wp2_with fail;refine KA.out.mono ?_;rintro e w3 ⟨A,cap,rfl,bj,b3⟩;have R3:=hid bj;have B3:=hid (B2.out.trans (b3.mono B2.out.size));clear bj b3 KA KX x0 x1 x2 x3 x4 x5 x6 B2
 by_cases h1:6000<T.length
 ·have q1:decide ((6000:Int)<(T.length:Int))=true:=aC (by omega)
  have T1:=hid (a0.out 4 w3 (o1.out h0 h1) (by decide) (HE.out _ B3.out))
  clear KB KP o0 o1 o2 o3 o4 hF a0 a3 HC HE;go_wp2_with fail
  go_ret2
  exact T1.out
 have q1:decide ((6000:Int)<(T.length:Int))=false:=aB (by omega)
 have KF:=hid (zB w3 A cap (T.map bs) (.func (.func 29) #[] #[]) (fun s=>decide (1000<s.size)) (by rw[aNO];exact R3.out) (aMd w3 _) (by rw[aH];unfold maxLen;omega))
 rw[aH,aLC]at KF;unfold cZ at KF;replace o2:=hid (o2.out h0 h1);replace o3:=hid (o3.out h0 h1);replace o4:=hid (o4.out h0 h1);replace a7:=hid (a7.out h0);generalize tJ T=g at *;go_wp2_with fail;refine KF.out.mono ?_;rintro e w4 ⟨rfl,b4⟩;have B4:=hid (B3.out.trans (b4.mono B3.out.size));have R4:=hid (R3.out.below b4);clear b4 KF R3 B3
 rcases g with _ | _
 rotate_left
 ·have T1:=hid (a0.out 9 w4 (o2.out rfl) (by decide) (HE.out _ B4.out))
  clear KB KP o0 o1 o2 o3 o4 hF a0 a3 HC HE;go_wp2_with fail
  go_ret2
  exact T1.out
 have ap:=b8.out rfl;have bd:=hid ap;have ae:=hid (aDf T (by omega) ap)
 replace o3:=hid (o3.out rfl);replace o4:=hid (o4.out rfl);clear o0 o1 o2 b8 ap;have KA:=hid (KP.out w4 A cap R4.out);go_wp2_with fail;refine KA.out.mono ?_;rintro e w5 ⟨pb,pA,pc,rfl,ar,b5⟩;have P5:=hid ar;have B5:=hid (B4.out.trans (b5.mono B4.out.size));have KA:=hid (KB.out w5 pb pA pc B5.out h0 ar);obtain⟨x0,x1,x2,x3,x4,x5,x6⟩:=HC.out w5 B5.out;clear KP KB b5 R4 B4 ar;generalize ak:bs RR=br at *;replace ak:=hid ak;go_wp2_with fail;refine KA.out.mono ?_;rintro e w6 ⟨rfl,b6⟩;have P6:=hid (P5.out.below b6);have B6:=hid (B5.out.trans (b6.mono B5.out.size));clear b6 KA P5 B5 x0 x1 x2 x3 x4 x5 x6 HC;go_upto_region 14 with fail;have WN:=hid (aOU w6);have b9:Hid ((w6.alloc (.cells #[.slice none 0 0,.int .i64 0] 63)).heap.size=w6.heap.size+1):=hid (bH _);have B7:=hid (B6.out.alloc B6.out.size (.cells #[.slice none 0 0,.int .i64 0] 63));have P7:=hid (P6.out.below ((Below.refl w6.heap.size w6).alloc (aY _) (.cells #[.slice none 0 0,.int .i64 0] 63)))
 have a8:Hid (pb∉w6.heap.size :: blk none∧pb<w6.heap.size∧∀g∈blk pA,0<T.length→g<w6.heap.size):=hid (by
  have h1:pb<w6.heap.size:=P6.out.box.lt;refine⟨by simp[blk];omega,h1,fun g hg hz=>?_⟩
  obtain⟨g2,o2,e2,bw,_⟩:=P6.out.rd (by simpa using hz)
  subst e2;simp[blk]at hg
  omega)
 have ax:W.heap.size≤w6.heap.size:=B6.out.size;generalize (w6.alloc (.cells #[.slice none 0 0,.int .i64 0] 63))=w7 at *;generalize hf:w6.heap.size=f at *;clear P6 B6;have K8:=hid (aC0 1 (WSt.start WN.out) (by decide) (by simp))
 rw[aX]at K8;have bq:=b9.out;go_wp2_with fail;refine K8.out.mono ?_;rintro e w8 ⟨rfl,A8,c8,h8⟩;have H8:=hid h8;have ba:pb∉f :: blk A8:=by
  intro hm
  rcases aM.1 hm with h | h
  ·have:=a8.out.2.1;omega
  ·rcases h8.own pb h with h | h
   ·simp[blk]at h
   ·have:=a8.out.2.1;omega
 have bo:0<T.length→∀g∈blk pA,g∉f :: blk A8:=by
  intro hz g hg hm;have bu:=a8.out.2.2 g hg hz
  rcases aM.1 hm with h | h
  ·omega
  ·rcases h8.own g h with h | h
   ·simp[blk]at h
   ·omega
 have P8:=hid (P7.out.kept h8.fr (by simp[blk];have:=a8.out.2.1;omega) (fun hz g hg=>by simp[blk];have:=a8.out.2.2 g hg hz;omega))
 have K9:=hid (aMg w8 pb pA pc T f A8 c8 (nb 1) P8.out h8.wa ba bo (by omega) (fun x hx=>aZ (bd.out x hx) (by decide)) ae.out (by have:=iM 1 (by omega);omega))
 have B8:=hid (zO B7.out (A:=none) (by simp[blk];exact ax) h8.fr)
 have G8:=hid (aEn B7.out (A:=none) (by simp[blk];exact ax) h8.own)
 clear WN K8 h8 P7 a8 ba bo ax B7 b9 bq;go_wp2_with fail;refine K9.out.mono ?_;rintro e w9 ⟨rfl,A9,c9,h9⟩;have B9:=hid (zO B8.out G8.out h9.fr);have G9:=hid (aEn B8.out G8.out h9.own);have bz:(nb 1++pP T T.length).length≤40000010:=by
  have h1:=ae.out T.length (aY _);have h2:=iM 1 (by omega)
  rw[aF];omega
 have a1:=hid (vr.aJ0 w9 f A9 c9 (nb 1++pP T T.length,0) br h9.wa (by show(nb 1++pP T T.length).length≤_;omega))
 have bc:br.size=RR.length:=by rw[←ak.out];rfl
 have bi:br.data.toList=RR:=by rw[←ak.out];rfl
 have au:=iM RR.length (by have:=a7.out;omega)
 have bl:(nb 1++(pP T T.length++(nb RR.length++RR))).length=(nb 1++pP T T.length).length+(nb RR.length).length+RR.length:=by simp only[aF];omega
 have az:(nb 1++pP T T.length)++(nb RR.length++RR)=nb 1++(pP T T.length++(nb RR.length++RR)):=by simp only[aS]
 have b1:=a7.out;unfold vr.aK3 at a1;rw[if_neg (by simp),bc,bi]at a1
 dsimp only at a1;rw[az]at a1;clear K9 h9 B8 G8 P8 H8 bi ae bd;generalize nb 1++(pP T T.length++(nb RR.length++RR))=X at *;generalize nb 1++pP T T.length=S9 at *
 by_cases h3:200000<RR.length
 ·have af:(200000:Int)<(RR.length:Int):=by omega
  rw[if_pos af]at a1;unfold vr.xR at a1;have ho:=hid (o3.out (by omega))
  clear o3 o4 hF bl az b1 au;go_wp2_with fail;refine a1.out.mono ?_;rintro e bh ⟨rfl,bn,bf,ah,a9,a5⟩;have a4:=hid (zO B9.out G9.out a9);have a2:=hid (vr.aDc bh f bn bf (S9,9) ah);have bg:bs (oF ((S9,9):List UInt8×Int))=⟨#[]⟩:=by unfold vr.oF;rfl
  rw[bg]at a2;dsimp only at a2;clear a1 ah a9 a5 B9 G9 bg;go_wp2_with fail;refine a2.out.mono ?_;rintro e av ⟨rfl,ag⟩;have T1:=hid (a0.out 9 av ho.out (by decide) (HE.out _ (a4.out.trans (ag.mono a4.out.size))))
  clear a2 ag a0 a3 HE a4;go_wp2_with fail
  go_ret2
  exact T1.out
 ·have af:¬(200000:Int)<(RR.length:Int):=by omega
  rw[if_neg af]at a1;unfold vr.xR at a1;go_wp2_with fail;refine a1.out.mono ?_;rintro e bh ⟨rfl,bn,bf,ah,a9,a5⟩;have a4:=hid (zO B9.out G9.out a9);have a2:=hid (aJM ah);unfold encStr at a2;clear a1 ah a9 a5 B9 G9;go_wp2_with fail;refine a2.out.mono ?_;rintro e av ⟨rfl,ag⟩;have a6:=hid (a4.out.trans (ag.mono a4.out.size));have s1:(ByteArray.mk #[119,101,102,116]++ByteArray.mk X.toArray)=ByteArray.mk ([119,101,102,116]++X).toArray:=ByteArray.mk_append_mk [119,101,102,116] X;have ay:(ByteArray.mk ([119,101,102,116]++X).toArray).size=X.length+4:=by
   show([119,101,102,116]++X).toArray.size=_
   rw[List.size_toArray,aF];exact Nat.add_comm 4 _
  have q4:¬9223372036854775807<4+X.length:=by omega
  have q5:¬9223372036854775807<X.length+4:=by omega
  generalize ByteArray.mk ([119,101,102,116]++X).toArray=z at *;have aa:=hid (cr.aDS z av (by rw[ay];unfold maxLen;omega))
  unfold cr.tV at aa;have bk:(cr.iR z).size=X.length+7:=by rw[cr.pE,ay]
  have b7:=hid hF.out;clear a2 ag a4 hF az bl ay bc;generalize cr.iR z=Y at *
  by_cases h7:200000<X.length+7
  ·have q6:decide ((200000:Int)<(Y.size:Int))=true:=aC (by omega)
   have ho:=hid (o3.out h7);clear o3 o4;go_wp2_with fail;refine aa.out.mono ?_;rintro e aw ⟨rfl,ai⟩;have T1:=hid (a0.out 9 aw ho.out (by decide) (HE.out _ (a6.out.trans (ai.mono a6.out.size))))
   clear aa ai a0 a3 HE a6 s1 q4 q5 bk au b1 af h3 a7 b7 ho;go_wp2_with fail
   go_ret2
   exact T1.out
  ·have q6:decide ((200000:Int)<(Y.size:Int))=false:=aB (by omega)
   have ho:=hid (o4.out h7);clear o3 o4;go_wp2_with fail;refine aa.out.mono ?_;rintro e aw ⟨rfl,ai⟩;have T1:=a3.out aw ho.out (HE.out _ (a6.out.trans (ai.mono a6.out.size)));rw[b7.out]at T1;replace T1:=hid T1;clear aa ai a0 a3 HE a6 s1 q4 q5 bk au b1 af h3 a7 b7 ho;go_wp2_with fail
   go_ret2
   exact T1.out
end sf
namespace re
open RowKit Go.Sort Shelf mem sy vr
def mu0:MU:=⟨⟨#[]⟩,none,0,[],none,0,[],none,0,[],⟨none,0,[],none,0,[],none,0,[]⟩⟩
theorem aAL(w:World):eY w mu0:=⟨fun h=>by simp[mu0]at h,fun h=>by simp[mu0]at h,fun h=>by simp[mu0]at h,⟨fun h=>by simp[mu0]at h,fun h=>by simp[mu0]at h,fun h=>by simp[mu0]at h,by simp[mu0],by simp[mu0],by simp[mu0],by simp[mu0],by simp[mu0],by simp[mu0]⟩⟩
end re
namespace sf
open RowKit Go.Sort Shelf mem vr po inn sy
open re (MU SU eY aAq mR RB Ev fD jC qU mE qV mQ qW dB fM oM oQ kF aAt tX nQ RDP mu0 aAL su0)
theorem jK{α β:Type}(f:α→List β)(h:∀x,0<(f x).length):∀l:List α,l.length≤(l.flatMap f).length
 | []=>bA _
 | a :: l=>by
  rw[List.flatMap_cons,aF,aG];have:=jK f h l;have:=h a;omega
theorem aGB(u:SU):u.gives.length≤(dB u).length∧u.wants.length≤(dB u).length∧u.keeps.length≤(dB u).length∧u.sys.objs.length+u.sys.fns.length≤(dB u).length∧∀c∈u.sys.cons,c.args.length≤(dB u).length:=by
 have Y:=jK jC (fun o=>by simp[jC]) u.sys.objs
 have h2:=jK mE (fun o=>by simp[mE]) u.sys.fns
 unfold dB qU qV qW;simp only[aG,aF,re.zG];refine⟨by omega,by omega,by omega,by omega,fun c hc=>?_⟩
 have J:=aDE mQ _ c hc;have h4:(mQ c).length=5+(c.args.length+1):=by
  unfold mQ;simp only[aG,re.zG];omega
 omega
theorem aIN{l:List ByteArray}{s:ByteArray}(h:s∈l):Ev.t s∈fD l:=by
 unfold fD;exact bG _ (List.mem_map.2 ⟨s,h,rfl⟩)
theorem aKm{w:World}{u:MU}(hm:eY w u)(hl:(dB u.su).length≤900000)(J:∀s,Ev.t s∈dB u.su→s.size≤maxLen):EK w u:=by
 obtain⟨l1,Y,l3,l4,l5⟩:=aGB u.su;have lo:u.su.sys.objs.length=u.s.os.length:=by unfold MU.su MS.sys;simp
 have lf:u.su.sys.fns.length=u.s.fs.length:=by unfold MU.su MS.sys;simp
 have e1:u.su.gives=u.gives:=rfl;have e2:u.su.wants=u.wants:=rfl;have e3:u.su.keeps=u.keeps:=rfl;rw[lo,lf]at l4;rw[e1]at l1;rw[e2]at Y;rw[e3]at l3;refine⟨⟨hm,J _ (by unfold dB;exact List.mem_cons_self ..),by omega,by omega,by omega,by omega,fun s h=>J s ?_,fun s h=>J s ?_,fun s h=>J s ?_⟩,by omega,fun c hc=>aZ (l5 c hc) (by omega)⟩
 ·unfold dB
  exact bG _ (List.mem_append.2 (Or.inl (aIN h)))
 ·unfold dB
  exact bG _ (List.mem_append.2 (Or.inr (List.mem_append.2 (Or.inl (aIN h)))))
 ·unfold dB
  exact bG _ (List.mem_append.2 (Or.inr (List.mem_append.2 (Or.inr (List.mem_append.2 (Or.inl (aIN h)))))))
theorem aBn{w:World}{u:MU}(J:eY w u)(hb:aAq RB u)(hs:mR u.su):EK w u:=by
 have lo:u.su.sys.objs.length=u.s.os.length:=by unfold MU.su MS.sys;simp
 have lf:u.su.sys.fns.length=u.s.fs.length:=by unfold MU.su MS.sys;simp
 have h1:=hs.s.o;have h2:=hs.s.f;have h3:u.gives.length≤60:=hs.g.1;have h4:u.wants.length≤60:=hs.w.1;have Y:u.keeps.length≤200:=hs.k.1;have hR:RB≤maxLen:=by unfold RB maxLen;decide
 refine⟨⟨J,aZ hs.n (by unfold maxLen;decide),by omega,by omega,by omega,by omega,fun s h=>aZ (hs.g.2 s h) (by unfold maxLen;decide),fun s h=>aZ (hs.w.2 s h) (by unfold maxLen;decide),fun s h=>aZ (hs.k.2 s h) (by unfold maxLen;decide)⟩,nQ hs,fun c hc=>aZ (hs.s.a c hc) (by omega)⟩
theorem aGY{w:World}{u:MU}(hm:eY w u){m:List (List UInt8)}{S:ByteArray}(Y:m.Pairwise (fun a b=>a<b))(hx:∀x∈m,x.length≤1000)(hS:S.size≤200000)(h:oQ m S=0)(e:u.su=kF m S):EK w u:=by
 obtain⟨b1,b2⟩:=aAt Y S h;refine aKm hm (by rw[e];omega) (fun s hs=>?_)
 rw[e]at hs;obtain⟨_,hk⟩:=tX (dB (kF m S)) ([],0) (by show(fM m (dB (kF m S))).2=0;rw[b1])
 have J:=hx _ (hk _ hs).1;rw[re.aFT]at J;exact aZ J (by unfold maxLen;decide)
theorem aGE{b:ByteArray}{d:Int}(h:fQ b=d)(hd:d≠0){w w':World}(hb:Below w.heap.size w w'):RDP (jV b) (fQ b) w (.returned (.tuple #[.agg #[.string ⟨#[]⟩,.slice none 0 0,.slice none 0 0,.slice none 0 0,.slice none 0 0,.slice none 0 0,.slice none 0 0],.int .i64 d])) w':=by
 subst h;refine⟨mu0,rfl,?_,aAL w',hb⟩;unfold jV;rw[if_neg hd];rfl
theorem aJC{b:ByteArray}(h:fQ b=0){w w':World}(hb:Below w.heap.size w w'){u:MU}(Y:u.su=kF (gL (cr.bR b)) (iO (cr.bR b)))(J:eY w' u):RDP (jV b) (fQ b) w (.returned (.tuple #[u.val,.int .i64 0])) w':=by
 refine⟨u,by rw[h],?_,J,hb⟩
 unfold jV;rw[if_pos h,Y]
theorem d1{b:ByteArray}(h:200000<b.size):fQ b=9:=by unfold fQ;rw[if_pos h]
theorem d2{b:ByteArray}(h:¬200000<b.size)(J:cr.xS b=false):fQ b=14:=by unfold fQ;rw[if_neg h,if_pos J]
theorem d3{b:ByteArray}(h:¬200000<b.size)(Y:cr.xS b=true)(J:kK (cr.bR b)≠0):fQ b=kK (cr.bR b):=by unfold fQ;rw[if_neg h,if_neg (by rw[Y];simp),if_pos J]
theorem d4{b:ByteArray}(h:¬200000<b.size)(h2:cr.xS b=true)(J:kK (cr.bR b)=0)(Y:oQ (gL (cr.bR b)) (iO (cr.bR b))≠0):fQ b=oQ (gL (cr.bR b)) (iO (cr.bR b)):=by unfold fQ;rw[if_neg h,if_neg (by rw[h2];simp),if_neg (by simp[J]),if_pos Y]
theorem d5{b:ByteArray}(h:¬200000<b.size)(h2:cr.xS b=true)(J:kK (cr.bR b)=0)(Y:oQ (gL (cr.bR b)) (iO (cr.bR b))=0)(h5:eQ (tK (kF (gL (cr.bR b)) (iO (cr.bR b))))≠0):fQ b=eQ (tK (kF (gL (cr.bR b)) (iO (cr.bR b)))):=by unfold fQ;rw[if_neg h,if_neg (by rw[h2];simp),if_neg (by simp[J]),if_neg (by simp[Y]),if_pos h5]
theorem d6{b:ByteArray}(h:¬200000<b.size)(h2:cr.xS b=true)(h3:kK (cr.bR b)=0)(Y:oQ (gL (cr.bR b)) (iO (cr.bR b))=0)(J:eQ (tK (kF (gL (cr.bR b)) (iO (cr.bR b))))=0)(h6:gM (kF (gL (cr.bR b)) (iO (cr.bR b)))≠gL (cr.bR b)):fQ b=3:=by unfold fQ;rw[if_neg h,if_neg (by rw[h2];simp),if_neg (by simp[h3]),if_neg (by simp[Y]),if_neg (by simp[J]),if_pos h6]
theorem d7{b:ByteArray}(h:¬200000<b.size)(h2:cr.xS b=true)(h3:kK (cr.bR b)=0)(Y:oQ (gL (cr.bR b)) (iO (cr.bR b))=0)(J:eQ (tK (kF (gL (cr.bR b)) (iO (cr.bR b))))=0)(h6:gM (kF (gL (cr.bR b)) (iO (cr.bR b)))=gL (cr.bR b)):fQ b=0:=by unfold fQ;rw[if_neg h,if_neg (by rw[h2];simp),if_neg (by simp[h3]),if_neg (by simp[Y]),if_neg (by simp[J]),if_neg (by simp[h6])]
theorem aCD(b:ByteArray):(cr.bR b).size≤b.size:=by
 unfold cr.bR;split
 ·rw[ByteArray.size_extract];omega
 ·exact bA _
end sf
set_option maxRecDepth 100000
namespace sf
open RowKit Go.Sort Shelf mem vr po
def aIm:ByteArray:=⟨#[119,101,102,116]⟩
theorem aG8{t:ByteArray}(h:4≤t.size):lK t=((t.extract 0 4).data.toList==sN):=by unfold lK;rw[aC h,Bool.true_and]
theorem aJq{t:ByteArray}(h:¬4≤t.size):lK t=false:=by unfold lK;rw[aB h,Bool.false_and]
theorem zF(y:ByteArray)(q:Bool)(h:(y.data.toList==sN)=q):(y.toList==[119,101,102,116])=q∧(y.data==aIm.data)=q:=by
 have J:y.toList=y.data.toList:=Lib.toList_data y;have Y:(y.data=aIm.data)↔(y.data.toList=sN):=⟨fun h=>by rw[h];rfl,fun h=>Array.ext' h⟩
 refine⟨by rw[J];exact h,?_⟩
 rw[←h,Bool.eq_iff_iff,beq_iff_eq,beq_iff_eq];exact Y
theorem aEh(t:ByteArray)(h:4≤t.size)(W:World):(Instr.slice 9 (.string t) none (some (.int .i64 4)) none).run Tryz.prog W=.ok (.string (t.extract 0 4)) W:=
 run_slice_string_h (P:=Tryz.prog) W 9 t Tryz.underlying9 .i64 4 (by omega) (by omega)
theorem aBh(t:ByteArray)(h:4≤t.size)(W:World):(Instr.slice 9 (.string t) (some (.int .i64 4)) none none).run Tryz.prog W=.ok (.string (bX t)) W:=
 run_slice_string_l (P:=Tryz.prog) W 9 t Tryz.underlying9 .i64 4 (by omega) (by omega)
theorem aIR(t:ByteArray)(w:World):Calls Tryz.prog 193 #[.string t,.string ⟨#[119,101,102,116]⟩] w fun e w'=>e=.returned (.bool (lK t))∧w'=w:=by
 by_cases Y:4≤t.size
 ·have e1:decide ((4:Int)≤(t.size:Int))=true:=aC (by omega)
  have hs:=fun W=>aEh t Y W
  rw[aG8 Y];generalize t.extract 0 4=y at *
  rcases J:(y.data.toList==sN)with _ | _
  ·obtain⟨q1,q2⟩:=zF y _ J
   unfold aIm at q2;clear J;go_enter Tryz.func193,Tryz.ntmps193;go_wp2_with fail;go_ret;exact⟨rfl,rfl⟩
  ·obtain⟨q1,q2⟩:=zF y _ J
   unfold aIm at q2;clear J;go_enter Tryz.func193,Tryz.ntmps193;go_wp2_with fail;go_ret;exact⟨rfl,rfl⟩
 ·have e1:decide ((4:Int)≤(t.size:Int))=false:=aB (by omega)
  rw[aJq Y];clear Y;go_enter Tryz.func193,Tryz.ntmps193;go_wp2_with fail;go_ret;exact⟨rfl,rfl⟩
def aFG(t:ByteArray):ByteArray:=if lK t=true then bX t else t
theorem aBU{t:ByteArray}(h:lK t=false):aFG t=t:=by unfold aFG;rw[h];rfl
theorem rJ{t:ByteArray}(h:lK t=true):aFG t=bX t:=by unfold aFG;rw[h];rfl
theorem aBP{t:ByteArray}(h:lK t=true):4≤t.size:=by
 unfold lK at h;rw[Bool.and_eq_true,bJ]at h;exact h.1
theorem aKK(t:ByteArray)(w:World):Calls Tryz.prog 161 #[.string t,.string ⟨#[119,101,102,116]⟩] w fun e w'=>e=.returned (.tuple #[.string (aFG t),.bool (lK t)])∧w'=w:=by
 have K:=hid (aIR t w)
 rcases hb:lK t with _ | _
 ·rw[aBU hb]
  rw[hb]at K;clear hb;go_enter Tryz.func161,Tryz.ntmps161;go_wp2_with fail;refine K.out.mono ?_;rintro e J ⟨rfl,rfl⟩;clear K;go_wp2_with fail
  go_ret2
  exact⟨rfl,rfl⟩
 ·rw[rJ hb]
  have hs:=fun W=>aBh t (aBP hb) W
  rw[hb]at K;clear hb;generalize bX t=y at *;go_enter Tryz.func161,Tryz.ntmps161;go_wp2_with fail;refine K.out.mono ?_;rintro e J ⟨rfl,rfl⟩;clear K;go_wp2_with fail
  go_ret2
  exact⟨rfl,rfl⟩
theorem aMy(t:ByteArray)(w:World):Calls Tryz.prog 108 #[.string t,.string ⟨#[119,101,102,116]⟩] w fun e w'=>e=.returned (.tuple #[.string (aFG t),.bool (lK t)])∧w'=w:=by
 have K:=hid (aKK t w);generalize aFG t=y at *;generalize lK t=q at *;go_enter Tryz.func108,Tryz.ntmps108;go_wp2_with fail;refine K.out.mono ?_;rintro e J ⟨rfl,rfl⟩;clear K;go_wp2_with fail
 go_ret2
 exact⟨rfl,rfl⟩
def iD(t:ByteArray):Int:=if lK t=false then 5 else nE (bX t) 0 0
def aHO(t:ByteArray)(w:World)(e:Ending)(w':World):Prop:=
 (iD t=0∧∃r,e=.returned (.tuple #[.pointer (some ⟨r,0,none⟩),.int .i64 (nV (bX t) 0 0),.int .i64 0])∧RD w' r (bX t) (nP (bX t) 0 0) 0∧w.heap.size≤r∧Below w.heap.size w w') ∨
 (iD t≠0∧e=.returned (.tuple #[.pointer none,.int .i64 0,.int .i64 (iD t)])∧Below w.heap.size w w')
theorem aAM{t:ByteArray}(h:lK t=false):iD t=5:=by unfold iD;rw[if_pos h]
theorem vX{t:ByteArray}(h:lK t=true):iD t=nE (bX t) 0 0:=by unfold iD;rw[if_neg (by rw[h];simp)]
theorem zA(t:ByteArray):(bX t).size≤t.size:=by
 unfold bX;rw[ByteArray.size_extract];omega
theorem aCc(t:ByteArray)(w:World)(hs:t.size≤maxLen):Calls Tryz.prog 54 #[.string t] w (aHO t w):=by
 have KC:=hid (aMy t w);have R0:=hid (Below.refl w.heap.size w)
 rcases hb:lK t with _ | _
 ·have hE:Hid (aHO t w (.returned (.tuple #[.pointer none,.int .i64 0,.int .i64 5])) w):=hid (Or.inr ⟨by rw[aAM hb];decide,by rw[aAM hb],R0.out⟩)
  rw[aBU hb,hb]at KC;clear hb;go_enter Tryz.func54,Tryz.ntmps54;go_wp2_with fail;refine KC.out.mono ?_;rintro e Y ⟨rfl,rfl⟩;clear KC;go_wp2_with fail
  go_ret3
  exact hE.out
 ·rw[rJ hb,hb]at KC
  have a3:(bX t).size≤maxLen:=aZ (zA t) hs;have a1:Hid (∀r w',nE (bX t) 0 0=0→RD w' r (bX t) (nP (bX t) 0 0) 0→w.heap.size≤r→Below w.heap.size w w'→aHO t w (.returned (.tuple #[.pointer (some ⟨r,0,none⟩),.int .i64 (nV (bX t) 0 0),.int .i64 0])) w'):=hid (fun r w' h0 a b c=>Or.inl ⟨by rw[vX hb];exact h0,r,rfl,a,b,c⟩)
  have J:Hid (∀w',nE (bX t) 0 0≠0→Below w.heap.size w w'→aHO t w (.returned (.tuple #[.pointer none,.int .i64 0,.int .i64 (nE (bX t) 0 0)])) w'):=hid (fun w' h0 c=>Or.inr ⟨by rw[vX hb];exact h0,by rw[vX hb],c⟩)
  clear hb;generalize bX t=S at *;have KN:=hid (aDB S w);have HW:Hid (RD (w.alloc (.cells #[.string S,.int .i64 0,.int .i64 0] 196)) w.heap.size S 0 0∧Below w.heap.size w (w.alloc (.cells #[.string S,.int .i64 0,.int .i64 0] 196))):=hid ⟨⟨bT.new w _ _⟩,R0.out.alloc (aY _) _⟩;generalize a8:w.alloc (.cells #[.string S,.int .i64 0,.int .i64 0] 196)=W1 at *;have KM:=hid (gY W1 w.heap.size S 0 0 HW.out.1 a3 (bA _));have KD:=hid (fun(w':World) (p:Nat) (er:Int) (h:RD w' w.heap.size S p er)=>rQ w' w.heap.size S p er h)
  have HF:Hid (∀Y,Fr [w.heap.size] W1 Y→Below w.heap.size w Y):=hid (fun Y f=>HW.out.2.trans (f.below (by simp) HW.out.2.size))
  have HT:Hid (∀Y w3,Fr [w.heap.size] W1 Y→Fr [w.heap.size] Y w3→Fr [w.heap.size] W1 w3):=hid (fun Y w3 a b=>a.trans b (fun x hx=>Or.inl hx) (fun x hx=>Or.inl hx))
  unfold jS at KM KD;clear hs a3 HW R0
  by_cases hE:nE S 0 0=0
  ·obtain⟨a7,_⟩:=aE1 (bA S.size) hE
   have a5:=hid (fun r w'=>a1.out r w' hE)
   have q0:(((nP S 0 0:Nat):Int)==0)=false:=by rw[bI];omega
   rw[hE]at KM;clear a1 J hE a7;generalize nP S 0 0=p1 at *;generalize nV S 0 0=v at *;generalize hr:w.heap.size=r at *;go_enter Tryz.func54,Tryz.ntmps54;go_wp2_with fail;refine KC.out.mono ?_;rintro e Y ⟨rfl,rfl⟩;clear KC;go_wp2_with fail;refine KN.out.mono ?_;rintro e w3 ⟨rfl,rfl⟩;clear KN;go_wp2_with fail;refine KM.out.mono ?_;rintro e w4 ⟨rfl,h4,f4⟩;have H4:=hid h4;have F4:=hid f4;have K5:=hid (KD.out w4 p1 0 h4);clear KM KD h4 f4;go_wp2_with fail;refine K5.out.mono ?_;rintro e w5 ⟨rfl,h5,f5⟩;have HE:=hid (a5.out r w5 h5 (by omega) (HF.out _ (HT.out _ _ F4.out f5)))
   clear h5 f5 K5 H4 F4 a5 HF HT;go_wp2_with fail
   go_ret3
   exact HE.out
  ·have a4:=(aCN hE).1
   have a0:=hid (fun w'=>J.out w' hE)
   have a6:dE S 0 (nE S 0 0)=nE S 0 0:=by unfold dE;rw[if_neg (fun h=>hE h.1)]
   rw[a4]at KM;have a2:=hid (fun(w':World) (h:RD w' w.heap.size S 0 (nE S 0 0))=>KD.out w' 0 (nE S 0 0) h)
   rw[a6]at a2;clear a1 J hE a4 KD a6;generalize nE S 0 0=er at *;generalize nV S 0 0=v at *;generalize hr:w.heap.size=r at *;go_enter Tryz.func54,Tryz.ntmps54;go_wp2_with fail;refine KC.out.mono ?_;rintro e Y ⟨rfl,rfl⟩;clear KC;go_wp2_with fail;refine KN.out.mono ?_;rintro e w3 ⟨rfl,rfl⟩;clear KN;go_wp2_with fail;refine KM.out.mono ?_;rintro e w4 ⟨rfl,h4,f4⟩;have F4:=hid f4;have K5:=hid (a2.out w4 h4);clear KM a2 h4 f4;go_wp2_with fail;refine K5.out.mono ?_;rintro e w5 ⟨rfl,h5,f5⟩;have HE:=hid (a0.out w5 (HF.out _ (HT.out _ _ F4.out f5)));clear h5 f5 K5 F4 a0 HF HT;go_wp2_with fail
   go_ret3
   exact HE.out
def aF7(t:ByteArray)(w:World)(e:Ending)(w':World):Prop:=
 (kK t=0∧∃b A cap,e=.returned (.tuple #[.pointer (some ⟨b,0,none⟩),.string (iO t),.int .i64 0])∧Pl w' b A cap (gL t)∧Below w.heap.size w w') ∨
 (kK t≠0∧e=.returned (.tuple #[.pointer none,.string ⟨#[]⟩,.int .i64 (kK t)])∧Below w.heap.size w w')
theorem aDC{t:ByteArray}(h:iD t≠0):kK t=iD t:=by
 unfold kK iD at *;split at h
 ·rename_i hb
  rw[if_pos hb,if_pos hb]
 ·rename_i hb
  rw[if_neg hb,if_neg hb,if_pos h]
theorem aC9{t:ByteArray}(h:iD t=0)(hv:nV (bX t) 0 0≠1):kK t=5:=by
 unfold kK;unfold iD at h;split at h
 ·simp at h
 ·rename_i hb
  rw[if_neg hb,if_neg (by simpa using h),if_pos hv]
theorem aBx{t:ByteArray}(h:iD t=0)(hv:nV (bX t) 0 0=1)(J:(kQ (bX t) (nP (bX t) 0 0)).2.2.1≠0):kK t=(kQ (bX t) (nP (bX t) 0 0)).2.2.1:=by
 unfold kK;unfold iD at h;split at h
 ·simp at h
 ·rename_i hb
  rw[if_neg hb,if_neg (by simpa using h),if_neg (by simpa using hv),if_pos J]
theorem aAY{t:ByteArray}(h:iD t=0)(hv:nV (bX t) 0 0=1)(J:(kQ (bX t) (nP (bX t) 0 0)).2.2.1=0):kK t=dE (bX t) (vr.tx (bX t) (kQ (bX t) (nP (bX t) 0 0)).1 0).2.1 (vr.tx (bX t) (kQ (bX t) (nP (bX t) 0 0)).1 0).2.2:=by
 unfold kK;unfold iD at h;split at h
 ·simp at h
 ·rename_i hb
  rw[if_neg hb,if_neg (by simpa using h),if_neg (by simpa using hv),if_neg (by simpa using J)]
theorem aK2{t:ByteArray}(h:iD t=0):nE (bX t) 0 0=0:=by
 unfold iD at h;split at h
 ·simp at h
 ·exact h
theorem aI1(t:ByteArray)(w:World)(hs:t.size≤200000000):Calls Tryz.prog 43 #[.string t] w (aF7 t w):=by
 have K:=hid (aCc t w (by unfold maxLen;omega))
 unfold aHO at K;have ae:(bX t).size≤200000000:=aZ (zA t) hs;have a3:Hid (∀w',iD t≠0→Below w.heap.size w w'→aF7 t w (.returned (.tuple #[.pointer none,.string ⟨#[]⟩,.int .i64 (iD t)])) w'):=hid (fun w' h c=>Or.inr ⟨by rw[aDC h];exact h,by rw[aDC h],c⟩)
 have a5:Hid (∀w',iD t=0→nV (bX t) 0 0≠1→Below w.heap.size w w'→aF7 t w (.returned (.tuple #[.pointer none,.string ⟨#[]⟩,.int .i64 5])) w'):=hid (fun w' h hv c=>Or.inr ⟨by rw[aC9 h hv];decide,by rw[aC9 h hv],c⟩)
 have a0:Hid (∀w',iD t=0→nV (bX t) 0 0=1→(kQ (bX t) (nP (bX t) 0 0)).2.2.1≠0→Below w.heap.size w w'→aF7 t w (.returned (.tuple #[.pointer none,.string ⟨#[]⟩,.int .i64 (kQ (bX t) (nP (bX t) 0 0)).2.2.1])) w'):=hid (fun w' h hv hp c=>Or.inr ⟨by rw[aBx h hv hp];exact hp,by rw[aBx h hv hp],c⟩)
 have Y:Hid (∀w' b A cap,iD t=0→nV (bX t) 0 0=1→(kQ (bX t) (nP (bX t) 0 0)).2.2.1=0→dE (bX t) (vr.tx (bX t) (kQ (bX t) (nP (bX t) 0 0)).1 0).2.1 (vr.tx (bX t) (kQ (bX t) (nP (bX t) 0 0)).1 0).2.2=0→Pl w' b A cap (kQ (bX t) (nP (bX t) 0 0)).2.2.2→Below w.heap.size w w'→aF7 t w (.returned (.tuple #[.pointer (some ⟨b,0,none⟩),.string (vr.tx (bX t) (kQ (bX t) (nP (bX t) 0 0)).1 0).1,.int .i64 0])) w'):=hid (fun w' b A cap h hv hp hd pl c=>Or.inl ⟨by rw[aAY h hv hp];exact hd,b,A,cap,rfl,pl,c⟩)
 have J:Hid (∀w',iD t=0→nV (bX t) 0 0=1→(kQ (bX t) (nP (bX t) 0 0)).2.2.1=0→dE (bX t) (vr.tx (bX t) (kQ (bX t) (nP (bX t) 0 0)).1 0).2.1 (vr.tx (bX t) (kQ (bX t) (nP (bX t) 0 0)).1 0).2.2≠0→Below w.heap.size w w'→aF7 t w (.returned (.tuple #[.pointer none,.string ⟨#[]⟩,.int .i64 (dE (bX t) (vr.tx (bX t) (kQ (bX t) (nP (bX t) 0 0)).1 0).2.1 (vr.tx (bX t) (kQ (bX t) (nP (bX t) 0 0)).1 0).2.2)])) w'):=hid (fun w' h hv hp hd c=>Or.inr ⟨by rw[aAY h hv hp];exact hd,by rw[aAY h hv hp],c⟩)
 have a4:Hid (iD t=0→nP (bX t) 0 0≤(bX t).size):=hid (fun h=>(aE1 (bA _) (aK2 h)).2)
 clear hs;generalize bX t=S at *;go_enter Tryz.func43,Tryz.ntmps43;go_wp2_with fail;refine K.out.mono ?_;rintro e w2 (⟨h0,r,rfl,a6,hr,b2⟩ | ⟨h0,rfl,b2⟩)
 rotate_left
 ·have q0:(iD t != 0)=true:=by simpa using h0
  have HE:=hid (a3.out w2 h0 b2);clear K a3 a5 a0 Y J a4 h0 b2;generalize iD t=er at *;go_wp2_with fail
  go_ret3
  exact HE.out
 by_cases hv:nV S 0 0=1
 rotate_left
 ·have q1:(((nV S 0 0:Nat):Int) != 1)=true:=by rw[bne_iff_ne];omega
  have HE:=hid (a5.out w2 h0 hv b2);clear K a3 a5 a0 Y J a4 h0 b2 hv a6 hr;generalize nV S 0 0=v at *;go_wp2_with fail
  go_ret3
  exact HE.out
 have q1:(((nV S 0 0:Nat):Int) != 1)=false:=by rw[hv];rfl
 have hq:=a4.out h0;have KP:=hid (po.qI w w2 r S (nP S 0 0) a6 b2 hr ae hq);unfold lH at KP
 have a1:Hid (∀p' er m,kQ S (nP S 0 0)=(p',er,0,m)→er=0∧p'≤S.size):=hid (fun p' er m h=>by
  have:=aBe S _ hq p' er m h
  exact⟨this.1,this.2.1⟩)
 replace a0:=hid (fun w'=>a0.out w' h0 hv)
 replace Y:=hid (fun w' b A cap=>Y.out w' b A cap h0 hv)
 replace J:=hid (fun w'=>J.out w' h0 hv)
 clear K a3 a5 a4 h0 hv hq b2 a6 hr;generalize nV S 0 0=v at *;generalize kQ S (nP S 0 0)=R at *;obtain⟨p1,aa,d,m⟩:=R;dsimp only at a0 Y J KP;go_wp2_with fail;refine KP.out.mono ?_;rintro e w3 (⟨h0,b,A,cap,rfl,pr⟩ | ⟨h0,rfl,_,b3⟩)
 rotate_left
 ·have q2:(d != 0)=true:=by simpa using h0
  have HE:=hid (a0.out w3 h0 b3);clear KP a0 Y J a1 h0 b3;go_wp2_with fail
  go_ret3
  exact HE.out
 subst h0;obtain⟨rfl,a8⟩:=a1.out p1 aa m rfl;replace Y:=hid (fun w' b A cap=>Y.out w' b A cap rfl)
 replace J:=hid (fun w'=>J.out w' rfl)
 have a9:=hid pr;have KT:=hid (aGV w3 r S p1 0 pr.rd (by unfold maxLen;omega) a8)
 have KD:=hid (fun(w':World) (p:Nat) (er:Int) (h:RD w' r S p er)=>rQ w' r S p er h)
 unfold jS at KT KD;clear KP a0 a1 a8 pr;generalize vr.tx S p1 0=X at *;obtain⟨x,p2,e2⟩:=X;dsimp only at Y J KT;go_wp2_with fail;refine KT.out.mono ?_;rintro e w4 ⟨rfl,h4,f4⟩;have a7:=hid (a9.out.step h4 f4);have K5:=hid (KD.out w4 p2 e2 h4);clear KT KD h4 f4 a9;generalize dE S p2 e2=d2 at *;go_wp2_with fail;refine K5.out.mono ?_;rintro e w5 ⟨rfl,h5,f5⟩;have a2:=hid (a7.out.step h5 f5);clear K5 h5 f5 a7
 by_cases hd:d2=0
 ·have q3:(d2 != 0)=false:=by simpa using hd
  have HE:=hid (Y.out w5 b A cap hd a2.out.pl a2.out.on);clear Y J hd a2;go_wp2_with fail
  go_ret3
  exact HE.out
 ·have q3:(d2 != 0)=true:=by simpa using hd
  have HE:=hid (J.out w5 hd a2.out.on);clear Y J hd a2;go_wp2_with fail
  go_ret3
  exact HE.out
end sf
set_option maxRecDepth 100000
set_option maxHeartbeats 8000000
namespace sf
open RowKit Go.Sort Shelf mem vr po inn sy
open re (MU SU eY Ev dB fM oM oQ kF aAt RDP aEL su0 xK TP seven uSm)
open nm (iE bQ)
theorem qQ(b:ByteArray)(w:World)(hs:b.size+3≤maxLen)(a9:iE w):Calls Tryz.prog 12 #[.string b] w (RDP (jV b) (fQ b) w):=by
 obtain⟨W,a5⟩:∃W,Hid (W=w.alloc (.cells #[.string ⟨#[]⟩,.slice none 0 0,.slice none 0 0,.slice none 0 0,.slice none 0 0,.slice none 0 0,.slice none 0 0] 29)):=⟨_,hid rfl⟩;have b0:Below w.heap.size w W:=by rw[a5.out];exact(Below.refl _ _).alloc (aY _) _
 have B:bT W w.heap.size 29 #[.string ⟨#[]⟩,.slice none 0 0,.slice none 0 0,.slice none 0 0,.slice none 0 0,.slice none 0 0,.slice none 0 0]:=by rw[a5.out];exact bT.new _ _ _
 obtain⟨bx,a3⟩:∃bx,Hid (bx=w.heap.size):=⟨_,hid rfl⟩;rw[←a3.out]at B;have ao:bx<W.heap.size:=B.lt;have HB:Hid (∀w2,Below W.heap.size W w2→bT w2 bx 29 #[.string ⟨#[]⟩,.slice none 0 0,.slice none 0 0,.slice none 0 0,.slice none 0 0,.slice none 0 0,.slice none 0 0]):=hid (fun w2 h=>B.kept (Fr.of_below h []) (by simp))
 have HT:Hid (∀w2,Below W.heap.size W w2→iE w2):=hid (fun w2 h=>bQ (bQ a9 b0) h)
 have FZ:Hid (∀(w2:World) (d:Int),Below W.heap.size W w2→fQ b=d→d≠0→bT (((((((w2.setCell ⟨bx,0,none⟩ (.string ⟨#[]⟩)).setCell ⟨bx,1,none⟩ (.slice none 0 0)).setCell ⟨bx,2,none⟩ (.slice none 0 0)).setCell ⟨bx,3,none⟩ (.slice none 0 0)).setCell ⟨bx,4,none⟩ (.slice none 0 0)).setCell ⟨bx,5,none⟩ (.slice none 0 0)).setCell ⟨bx,6,none⟩ (.slice none 0 0)) bx 29 #[.string ⟨#[]⟩,.slice none 0 0,.slice none 0 0,.slice none 0 0,.slice none 0 0,.slice none 0 0,.slice none 0 0]∧RDP (jV b) (fQ b) w (.returned (.tuple #[.agg #[.string ⟨#[]⟩,.slice none 0 0,.slice none 0 0,.slice none 0 0,.slice none 0 0,.slice none 0 0,.slice none 0 0],.int .i64 d])) (((((((w2.setCell ⟨bx,0,none⟩ (.string ⟨#[]⟩)).setCell ⟨bx,1,none⟩ (.slice none 0 0)).setCell ⟨bx,2,none⟩ (.slice none 0 0)).setCell ⟨bx,3,none⟩ (.slice none 0 0)).setCell ⟨bx,4,none⟩ (.slice none 0 0)).setCell ⟨bx,5,none⟩ (.slice none 0 0)).setCell ⟨bx,6,none⟩ (.slice none 0 0))):=hid (fun w2 d h hd h0=>by
  obtain⟨k1,k2,k3⟩:=seven w2 w bx 29 _ _ _ _ _ _ _ (.string ⟨#[]⟩) (.slice none 0 0) (.slice none 0 0) (.slice none 0 0) (.slice none 0 0) (.slice none 0 0) (.slice none 0 0) (HB.out w2 h) (b0.trans (h.mono b0.size)) (by rw[a3.out];exact aY _)
  refine⟨k1,?_⟩
  exact aGE hd h0 k2)
 have FS:Hid (∀(w2:World) (u:MU),Below W.heap.size W w2→fQ b=0→u.su=kF (gL (cr.bR b)) (iO (cr.bR b))→(∀w3,Fr [bx] w2 w3→eY w3 u)→bT (((((((w2.setCell ⟨bx,0,none⟩ (.string u.name)).setCell ⟨bx,1,none⟩ (.slice u.gA u.gives.length u.gc)).setCell ⟨bx,2,none⟩ (.slice u.wA u.wants.length u.wc)).setCell ⟨bx,3,none⟩ (.slice u.kA u.keeps.length u.kc)).setCell ⟨bx,4,none⟩ (.slice u.s.oA u.s.os.length u.s.oc)).setCell ⟨bx,5,none⟩ (.slice u.s.fA u.s.fs.length u.s.fc)).setCell ⟨bx,6,none⟩ (.slice u.s.cA u.s.cs.length u.s.cc)) bx 29 #[.string u.name,.slice u.gA u.gives.length u.gc,.slice u.wA u.wants.length u.wc,.slice u.kA u.keeps.length u.kc,.slice u.s.oA u.s.os.length u.s.oc,.slice u.s.fA u.s.fs.length u.s.fc,.slice u.s.cA u.s.cs.length u.s.cc]∧RDP (jV b) (fQ b) w (.returned (.tuple #[.agg #[.string u.name,.slice u.gA u.gives.length u.gc,.slice u.wA u.wants.length u.wc,.slice u.kA u.keeps.length u.kc,.slice u.s.oA u.s.os.length u.s.oc,.slice u.s.fA u.s.fs.length u.s.fc,.slice u.s.cA u.s.cs.length u.s.cc],.int .i64 0])) (((((((w2.setCell ⟨bx,0,none⟩ (.string u.name)).setCell ⟨bx,1,none⟩ (.slice u.gA u.gives.length u.gc)).setCell ⟨bx,2,none⟩ (.slice u.wA u.wants.length u.wc)).setCell ⟨bx,3,none⟩ (.slice u.kA u.keeps.length u.kc)).setCell ⟨bx,4,none⟩ (.slice u.s.oA u.s.os.length u.s.oc)).setCell ⟨bx,5,none⟩ (.slice u.s.fA u.s.fs.length u.s.fc)).setCell ⟨bx,6,none⟩ (.slice u.s.cA u.s.cs.length u.s.cc))):=hid (fun w2 u h h0 hu hm=>by
  obtain⟨k1,k2,k3⟩:=seven w2 w bx 29 _ _ _ _ _ _ _ (.string u.name) (.slice u.gA u.gives.length u.gc) (.slice u.wA u.wants.length u.wc) (.slice u.kA u.keeps.length u.kc) (.slice u.s.oA u.s.os.length u.s.oc) (.slice u.s.fA u.s.fs.length u.s.fc) (.slice u.s.cA u.s.cs.length u.s.cc) (HB.out w2 h) (b0.trans (h.mono b0.size)) (by rw[a3.out];exact aY _)
  refine⟨k1,?_⟩
  exact aJC h0 k2 hu (hm _ k3))
 have R0:=hid (Below.refl W.heap.size W);have KO:=hid (cr.aI4 b W hs);unfold cr.sZ at KO;clear a9 b0 B hs
 by_cases hL:200000<b.size
 ·have q0:decide ((200000:Int)<(b.size:Int))=true:=aC (by omega)
  obtain⟨a0,a1⟩:=FZ.out W 9 R0.out (d1 hL) (by decide)
  replace a0:=hid a0;replace a1:=hid a1;have J:=HB.out W R0.out;have z0:W.cell? ⟨bx,0,none⟩=some (.string ⟨#[]⟩):=J.cell 0;have v0:=J.free 0;have z1:W.cell? ⟨bx,1,none⟩=some (.slice none 0 0):=J.cell 1;have v1:=J.free 1;have z2:W.cell? ⟨bx,2,none⟩=some (.slice none 0 0):=J.cell 2;have v2:=J.free 2;have z3:W.cell? ⟨bx,3,none⟩=some (.slice none 0 0):=J.cell 3;have v3:=J.free 3;have z4:W.cell? ⟨bx,4,none⟩=some (.slice none 0 0):=J.cell 4;have v4:=J.free 4;have z5:W.cell? ⟨bx,5,none⟩=some (.slice none 0 0):=J.cell 5;have v5:=J.free 5;have z6:W.cell? ⟨bx,6,none⟩=some (.slice none 0 0):=J.cell 6;have v6:=J.free 6;clear J FZ FS HB HT KO R0;go_enter Tryz.func12,Tryz.ntmps12;go_upto_region 1 with fail;rw[←a5.out,←a3.out];go_wp2_with fail;refine bodyPost_ret (re.results_cell_tmp rfl _ _ _ _ _ _ _ _ rfl rfl a0.out uSm rfl (by kernel_rfl)) rfl ?_
  exact a1.out
 have q0:decide ((200000:Int)<(b.size:Int))=false:=aB (by omega)
 have D2:=hid (d2 hL);have D3:=hid (d3 hL);have D4:=hid (d4 hL);have D5:=hid (d5 hL);have D6:=hid (d6 hL);have D7:=hid (d7 hL);have ap:=aCD b
 have a7:Hid (kK (cr.bR b)=0→(gL (cr.bR b)).Pairwise (fun a b=>a<b)∧(gL (cr.bR b)).length≤6000∧(∀x∈gL (cr.bR b),x.length≤1000)∧(iO (cr.bR b)).size≤200000):=hid (fun h=>by
  obtain⟨_,h2,h3,h4,h5⟩:=yK h
  exact⟨h2,h3,h4,by omega⟩)
 have KY:=hid (fun(w2:World)=>aI1 (cr.bR b) w2 (by omega))
 unfold aF7 at KY;generalize fQ b=DE at *;generalize cr.xS b=ok at *;generalize cr.bR b=t at *;clear hL ap;go_enter Tryz.func12,Tryz.ntmps12;go_upto_region 1 with fail;rw[←a5.out,←a3.out];clear a5 a3;go_wp2_with fail;refine KO.out.mono ?_;rintro e w2 ⟨rfl,b2⟩;have B2:=hid (R0.out.trans b2);clear b2 KO
 rcases ok with _ | _
 ·have hd:=D2.out rfl
  obtain⟨a0,a1⟩:=FZ.out w2 (14) B2.out hd (by decide)
  replace a0:=hid a0;replace a1:=hid a1;have J:=HB.out w2 B2.out;have z0:w2.cell? ⟨bx,0,none⟩=some (.string ⟨#[]⟩):=J.cell 0;have v0:=J.free 0;have z1:w2.cell? ⟨bx,1,none⟩=some (.slice none 0 0):=J.cell 1;have v1:=J.free 1;have z2:w2.cell? ⟨bx,2,none⟩=some (.slice none 0 0):=J.cell 2;have v2:=J.free 2;have z3:w2.cell? ⟨bx,3,none⟩=some (.slice none 0 0):=J.cell 3;have v3:=J.free 3;have z4:w2.cell? ⟨bx,4,none⟩=some (.slice none 0 0):=J.cell 4;have v4:=J.free 4;have z5:w2.cell? ⟨bx,5,none⟩=some (.slice none 0 0):=J.cell 5;have v5:=J.free 5;have z6:w2.cell? ⟨bx,6,none⟩=some (.slice none 0 0):=J.cell 6;have v6:=J.free 6;clear J FZ FS HB HT KY D2 D3 D4 D5 D6 D7 a7 hd;go_wp2_with fail;refine bodyPost_ret (re.results_cell_tmp rfl _ _ _ _ _ _ _ _ rfl rfl a0.out uSm rfl (by kernel_rfl)) rfl ?_
  exact a1.out
 replace D3:=hid (D3.out rfl);replace D4:=hid (D4.out rfl);replace D5:=hid (D5.out rfl);replace D6:=hid (D6.out rfl);replace D7:=hid (D7.out rfl);clear D2;have KA:=hid (KY.out w2);generalize iO t=x at *;generalize gL t=m at *;generalize kK t=EB at *;clear KY;go_wp2_with fail;refine KA.out.mono ?_;rintro e w3 (⟨h0,pb,pA,pc,rfl,af,b3⟩ | ⟨h0,rfl,b3⟩)
 rotate_left
 ·have q1:(EB != 0)=true:=by simpa using h0
  have B3:=hid (B2.out.trans (b3.mono B2.out.size));have hd:=D3.out h0;obtain⟨a0,a1⟩:=FZ.out w3 (EB) B3.out hd h0;replace a0:=hid a0;replace a1:=hid a1;have J:=HB.out w3 B3.out;have z0:w3.cell? ⟨bx,0,none⟩=some (.string ⟨#[]⟩):=J.cell 0;have v0:=J.free 0;have z1:w3.cell? ⟨bx,1,none⟩=some (.slice none 0 0):=J.cell 1;have v1:=J.free 1;have z2:w3.cell? ⟨bx,2,none⟩=some (.slice none 0 0):=J.cell 2;have v2:=J.free 2;have z3:w3.cell? ⟨bx,3,none⟩=some (.slice none 0 0):=J.cell 3;have v3:=J.free 3;have z4:w3.cell? ⟨bx,4,none⟩=some (.slice none 0 0):=J.cell 4;have v4:=J.free 4;have z5:w3.cell? ⟨bx,5,none⟩=some (.slice none 0 0):=J.cell 5;have v5:=J.free 5;have z6:w3.cell? ⟨bx,6,none⟩=some (.slice none 0 0):=J.cell 6;have v6:=J.free 6;clear J FZ FS HB HT KA D3 D4 D5 D6 D7 a7 hd b3 B2 h0;go_wp2_with fail;refine bodyPost_ret (re.results_cell_tmp rfl _ _ _ _ _ _ _ _ rfl rfl a0.out uSm rfl (by kernel_rfl)) rfl ?_
  exact a1.out
 subst h0;obtain⟨ho,ar,ai,am⟩:=a7.out rfl;replace D4:=hid (D4.out rfl);replace D5:=hid (D5.out rfl);replace D6:=hid (D6.out rfl);replace D7:=hid (D7.out rfl);have B3:=hid (B2.out.trans (b3.mono B2.out.size));have P3:=hid af;have KR:=hid (re.aCs (s:=x) af (by omega) (fun y hy=>aZ (ai y hy) (by unfold maxLen;decide)) (by unfold maxLen;omega))
 have aa:Hid (oQ m x=0→∀(w5:World) (u:MU),eY w5 u→u.su=kF m x→EK w5 u):=hid (fun h w5 u hm e=>aGY hm ho ai am h e)
 have a2:Hid (oQ m x=0→((gM (kF m x)).length=m.length↔gM (kF m x)=m)):=hid (fun h=>aMi ho h)
 unfold aEL at KR;clear KA D3 a7 b3 B2 af ho ai am;go_wp2_with fail;refine KR.out.mono ?_;rintro e w4 ⟨u,rfl,hu,ak,b4⟩;have B4:=hid (B3.out.trans (b4.mono B3.out.size));have P4:=hid (P3.out.below b4);have ag:Hid (∀(G:List Nat) (w2:World),Fr G w4 w2→(∀x∈G,x<W.heap.size)→eY w2 u):=hid (fun G w5 f hG=>ak G w5 f (fun y hy=>Nat.lt_of_lt_of_le (hG y hy) B3.out.size))
 replace hu:=hid hu;clear ak b4 KR B3 P3;unfold MU.val MU.row;go_upto_region 10 with fail;have Bu:=hid (bT.new w4 29 #[.string u.name,.slice u.gA u.gives.length u.gc,.slice u.wA u.wants.length u.wc,.slice u.kA u.keeps.length u.kc,.slice u.s.oA u.s.os.length u.s.oc,.slice u.s.fA u.s.fs.length u.s.fc,.slice u.s.cA u.s.cs.length u.s.cc]);have F5:Hid (Fr [] w4 (w4.alloc (.cells #[.string u.name,.slice u.gA u.gives.length u.gc,.slice u.wA u.wants.length u.wc,.slice u.kA u.keeps.length u.kc,.slice u.s.oA u.s.os.length u.s.oc,.slice u.s.fA u.s.fs.length u.s.fc,.slice u.s.cA u.s.cs.length u.s.cc] 29))):=hid ((Fr.refl [] w4).alloc _);have B5:=hid (B4.out.alloc B4.out.size (.cells #[.string u.name,.slice u.gA u.gives.length u.gc,.slice u.wA u.wants.length u.wc,.slice u.kA u.keeps.length u.kc,.slice u.s.oA u.s.os.length u.s.oc,.slice u.s.fA u.s.fs.length u.s.fc,.slice u.s.cA u.s.cs.length u.s.cc] 29))
 have P5:=hid (P4.out.below (F5.out.all));generalize w4.alloc (.cells #[.string u.name,.slice u.gA u.gives.length u.gc,.slice u.wA u.wants.length u.wc,.slice u.kA u.keeps.length u.kc,.slice u.s.oA u.s.os.length u.s.oc,.slice u.s.fA u.s.fs.length u.s.fc,.slice u.s.cA u.s.cs.length u.s.cc] 29)=w5 at *;generalize w4.heap.size=ub at *;have ae:Hid (∀Y,Below w5.heap.size w5 Y→eY Y u):=hid (fun Y h=>ag.out [] Y (F5.out.trans (Fr.of_below h []) (by simp) (by simp)) (by simp))
 have ah:Hid (∀Y w7,Below w5.heap.size w5 Y→Fr [bx] Y w7→eY w7 u):=hid (fun Y w7 h f=>by
  have f1:Fr [] w4 Y:=F5.out.trans (Fr.of_below h []) (by simp) (by simp)
  exact ag.out [bx] w7 (f1.trans f (by simp) (fun g hg=>Or.inl hg)) (by simpa using ao))
 have HU:Hid (∀Y,Below w5.heap.size w5 Y→bT Y ub 29 #[.string u.name,.slice u.gA u.gives.length u.gc,.slice u.wA u.wants.length u.wc,.slice u.kA u.keeps.length u.kc,.slice u.s.oA u.s.os.length u.s.oc,.slice u.s.fA u.s.fs.length u.s.fc,.slice u.s.cA u.s.cs.length u.s.cc]):=hid (fun Y h=>Bu.out.kept (Fr.of_below h []) (by simp))
 have R5:=hid (Below.refl w5.heap.size w5);have HW:Hid (∀Y,Below w5.heap.size w5 Y→Below W.heap.size W Y):=hid (fun Y h=>B5.out.trans (h.mono B5.out.size))
 clear Bu F5 ag P4 B4
 by_cases hE:oQ m x=0
 rotate_left
 ·have q1:(oQ m x==0)=false:=by simpa using hE
  have q2:(oQ m x != 0)=true:=by simpa using hE
  have hd:=D4.out hE;generalize oQ m x=E at *;obtain⟨a0,a1⟩:=FZ.out w5 (E) B5.out hd hE;replace a0:=hid a0;replace a1:=hid a1;have J:=HB.out w5 B5.out;have z0:w5.cell? ⟨bx,0,none⟩=some (.string ⟨#[]⟩):=J.cell 0;have v0:=J.free 0;have z1:w5.cell? ⟨bx,1,none⟩=some (.slice none 0 0):=J.cell 1;have v1:=J.free 1;have z2:w5.cell? ⟨bx,2,none⟩=some (.slice none 0 0):=J.cell 2;have v2:=J.free 2;have z3:w5.cell? ⟨bx,3,none⟩=some (.slice none 0 0):=J.cell 3;have v3:=J.free 3;have z4:w5.cell? ⟨bx,4,none⟩=some (.slice none 0 0):=J.cell 4;have v4:=J.free 4;have z5:w5.cell? ⟨bx,5,none⟩=some (.slice none 0 0):=J.cell 5;have v5:=J.free 5;have z6:w5.cell? ⟨bx,6,none⟩=some (.slice none 0 0):=J.cell 6;have v6:=J.free 6;clear J FZ FS HB HT D4 D5 D6 D7 hd aa a2 ae ah HU HW R5 hE hu P5;go_wp2_with fail;refine bodyPost_ret (re.results_cell_tmp rfl _ _ _ _ _ _ _ _ rfl rfl a0.out uSm rfl (by kernel_rfl)) rfl ?_
  exact a1.out
 replace D5:=hid (D5.out hE);replace D6:=hid (D6.out hE);replace D7:=hid (D7.out hE);replace a2:=hid (a2.out hE);have a8:Hid (∀Y,Below w5.heap.size w5 Y→EK Y u):=hid (fun Y h=>aa.out hE Y u (ae.out Y h) hu.out)
 have q1:(oQ m x==0)=true:=by simpa using hE
 have KC:=hid (aBQ w5 u (a8.out w5 R5.out).k (HT.out w5 (HW.out w5 R5.out)));have KX:=hid (fun(Y:World) (h:Below w5.heap.size w5 Y)=>xK Y u (a8.out Y h).k.m (aZ (a8.out Y h).l (by decide)))
 have aj:jP ((oM (dB u.su)).map re.tx)=gM u.su:=rfl;rw[aj]at KX;rw[hu.out]at KC KX;unfold sy.dD at KC;unfold TP at KX;unfold MU.val MU.row at KC KX;have a6:=hid (fun Y (h:Below w5.heap.size w5 Y) h0=>FS.out Y u (HW.out Y h) h0 hu.out (fun w7 f=>ah.out Y w7 h f))
 clear aj D4 aa a8 HT hu ae ah FS hE;generalize gM (kF m x)=TT at *;generalize eQ (tK (kF m x))=C at *;generalize oQ m x=E at *;have x0:w5.cell? ⟨ub,0,none⟩=some (.string u.name):=(HU.out w5 R5.out).cell 0;have x1:w5.cell? ⟨ub,1,none⟩=some (.slice u.gA u.gives.length u.gc):=(HU.out w5 R5.out).cell 1;have x2:w5.cell? ⟨ub,2,none⟩=some (.slice u.wA u.wants.length u.wc):=(HU.out w5 R5.out).cell 2;have x3:w5.cell? ⟨ub,3,none⟩=some (.slice u.kA u.keeps.length u.kc):=(HU.out w5 R5.out).cell 3;have x4:w5.cell? ⟨ub,4,none⟩=some (.slice u.s.oA u.s.os.length u.s.oc):=(HU.out w5 R5.out).cell 4;have x5:w5.cell? ⟨ub,5,none⟩=some (.slice u.s.fA u.s.fs.length u.s.fc):=(HU.out w5 R5.out).cell 5;have x6:w5.cell? ⟨ub,6,none⟩=some (.slice u.s.cA u.s.cs.length u.s.cc):=(HU.out w5 R5.out).cell 6;go_wp2_with fail;refine KC.out.mono ?_;rintro e Y ⟨rfl,b6⟩;have B6:=hid b6;clear b6 KC x0 x1 x2 x3 x4 x5 x6
 by_cases hC:C=0
 rotate_left
 ·have q2:(C==0)=false:=by simpa using hC
  have q3:(C != 0)=true:=by simpa using hC
  have B7:=hid (HW.out Y B6.out);have hd:=D5.out hC;have FS:=0;obtain⟨a0,a1⟩:=FZ.out Y (C) B7.out hd hC;replace a0:=hid a0;replace a1:=hid a1;have J:=HB.out Y B7.out;have z0:Y.cell? ⟨bx,0,none⟩=some (.string ⟨#[]⟩):=J.cell 0;have v0:=J.free 0;have z1:Y.cell? ⟨bx,1,none⟩=some (.slice none 0 0):=J.cell 1;have v1:=J.free 1;have z2:Y.cell? ⟨bx,2,none⟩=some (.slice none 0 0):=J.cell 2;have v2:=J.free 2;have z3:Y.cell? ⟨bx,3,none⟩=some (.slice none 0 0):=J.cell 3;have v3:=J.free 3;have z4:Y.cell? ⟨bx,4,none⟩=some (.slice none 0 0):=J.cell 4;have v4:=J.free 4;have z5:Y.cell? ⟨bx,5,none⟩=some (.slice none 0 0):=J.cell 5;have v5:=J.free 5;have z6:Y.cell? ⟨bx,6,none⟩=some (.slice none 0 0):=J.cell 6;have v6:=J.free 6;clear J FZ FS HB D5 D6 D7 hd a2 HU HW R5 hC P5 KX a6 B6;go_wp2_with fail;refine bodyPost_ret (re.results_cell_tmp rfl _ _ _ _ _ _ _ _ rfl rfl a0.out uSm rfl (by kernel_rfl)) rfl ?_
  exact a1.out
 have q2:(C==0)=true:=by simpa using hC
 replace D6:=hid (D6.out hC);replace D7:=hid (D7.out hC);have KA:=hid (KX.out Y B6.out);have x0:Y.cell? ⟨ub,0,none⟩=some (.string u.name):=(HU.out Y B6.out).cell 0;have x1:Y.cell? ⟨ub,1,none⟩=some (.slice u.gA u.gives.length u.gc):=(HU.out Y B6.out).cell 1;have x2:Y.cell? ⟨ub,2,none⟩=some (.slice u.wA u.wants.length u.wc):=(HU.out Y B6.out).cell 2;have x3:Y.cell? ⟨ub,3,none⟩=some (.slice u.kA u.keeps.length u.kc):=(HU.out Y B6.out).cell 3;have x4:Y.cell? ⟨ub,4,none⟩=some (.slice u.s.oA u.s.os.length u.s.oc):=(HU.out Y B6.out).cell 4;have x5:Y.cell? ⟨ub,5,none⟩=some (.slice u.s.fA u.s.fs.length u.s.fc):=(HU.out Y B6.out).cell 5;have x6:Y.cell? ⟨ub,6,none⟩=some (.slice u.s.cA u.s.cs.length u.s.cc):=(HU.out Y B6.out).cell 6;go_wp2_with fail;refine KA.out.mono ?_;rintro e w7 ⟨A7,c7,rfl,_,b7⟩;have B7:=hid (B6.out.trans (b7.mono B6.out.size));have KL:=hid (wP w7 pb pA pc m (P5.out.below B7.out))
 clear KA KX b7 B6 x0 x1 x2 x3 x4 x5 x6 D5;go_wp2_with fail;refine KL.out.mono ?_;rintro e w8 ⟨rfl,rfl⟩;clear KL
 by_cases a4:TT.length=m.length
 rotate_left
 ·have q3:((TT.length:Int) != (m.length:Int))=true:=by rw[bne_iff_ne];omega
  have B8:=hid (HW.out _ B7.out);have hd:=D6.out (fun e=>a4 (a2.out.2 e))
  have FS:=0;obtain⟨a0,a1⟩:=FZ.out w7 (3) B8.out hd (by decide)
  replace a0:=hid a0;replace a1:=hid a1;have J:=HB.out w7 B8.out;have z0:w7.cell? ⟨bx,0,none⟩=some (.string ⟨#[]⟩):=J.cell 0;have v0:=J.free 0;have z1:w7.cell? ⟨bx,1,none⟩=some (.slice none 0 0):=J.cell 1;have v1:=J.free 1;have z2:w7.cell? ⟨bx,2,none⟩=some (.slice none 0 0):=J.cell 2;have v2:=J.free 2;have z3:w7.cell? ⟨bx,3,none⟩=some (.slice none 0 0):=J.cell 3;have v3:=J.free 3;have z4:w7.cell? ⟨bx,4,none⟩=some (.slice none 0 0):=J.cell 4;have v4:=J.free 4;have z5:w7.cell? ⟨bx,5,none⟩=some (.slice none 0 0):=J.cell 5;have v5:=J.free 5;have z6:w7.cell? ⟨bx,6,none⟩=some (.slice none 0 0):=J.cell 6;have v6:=J.free 6;clear J FZ FS HB D6 D7 hd a2 HU HW R5 a4 P5 a6 B7;go_wp2_with fail;refine bodyPost_ret (re.results_cell_tmp rfl _ _ _ _ _ _ _ _ rfl rfl a0.out uSm rfl (by kernel_rfl)) rfl ?_
  exact a1.out
 have q3:((TT.length:Int) != (m.length:Int))=false:=by rw[a4];simp
 obtain⟨a0,a1⟩:=a6.out _ B7.out (D7.out (a2.out.1 a4));replace a0:=hid a0;replace a1:=hid a1;have J:=HB.out _ (HW.out _ B7.out);have z0:w7.cell? ⟨bx,0,none⟩=some (.string ⟨#[]⟩):=J.cell 0;have v0:=J.free 0;have z1:w7.cell? ⟨bx,1,none⟩=some (.slice none 0 0):=J.cell 1;have v1:=J.free 1;have z2:w7.cell? ⟨bx,2,none⟩=some (.slice none 0 0):=J.cell 2;have v2:=J.free 2;have z3:w7.cell? ⟨bx,3,none⟩=some (.slice none 0 0):=J.cell 3;have v3:=J.free 3;have z4:w7.cell? ⟨bx,4,none⟩=some (.slice none 0 0):=J.cell 4;have v4:=J.free 4;have z5:w7.cell? ⟨bx,5,none⟩=some (.slice none 0 0):=J.cell 5;have v5:=J.free 5;have z6:w7.cell? ⟨bx,6,none⟩=some (.slice none 0 0):=J.cell 6;have v6:=J.free 6;have x0:w7.cell? ⟨ub,0,none⟩=some (.string u.name):=(HU.out w7 B7.out).cell 0;have x1:w7.cell? ⟨ub,1,none⟩=some (.slice u.gA u.gives.length u.gc):=(HU.out w7 B7.out).cell 1;have x2:w7.cell? ⟨ub,2,none⟩=some (.slice u.wA u.wants.length u.wc):=(HU.out w7 B7.out).cell 2
 have x3:w7.cell? ⟨ub,3,none⟩=some (.slice u.kA u.keeps.length u.kc):=(HU.out w7 B7.out).cell 3;have x4:w7.cell? ⟨ub,4,none⟩=some (.slice u.s.oA u.s.os.length u.s.oc):=(HU.out w7 B7.out).cell 4;have x5:w7.cell? ⟨ub,5,none⟩=some (.slice u.s.fA u.s.fs.length u.s.fc):=(HU.out w7 B7.out).cell 5;have x6:w7.cell? ⟨ub,6,none⟩=some (.slice u.s.cA u.s.cs.length u.s.cc):=(HU.out w7 B7.out).cell 6;clear J FZ HB D6 D7 a2 HU HW R5 a6 B7 P5 a4;go_wp2_with fail;refine bodyPost_ret (re.results_cell_tmp rfl _ _ _ _ _ _ _ _ rfl rfl a0.out uSm rfl (by kernel_rfl)) rfl ?_
 exact a1.out
end sf
set_option maxRecDepth 100000
namespace sf
open RowKit Go.Sort Shelf mem vr po inn sy
open re (MU SU eY Ev dB fM oM uJ muA aGx aOQ aOm aEx RDP WkP)
open nm (iE bQ)
theorem aL3:gM uJ=[[97]]:=aOQ
theorem aPc:gG uJ=[0,0,0,0,0,0,0]:=by
 unfold gG;rw[aL3,aOm]
theorem aM9:nW uJ=[119,101,102,116,1,1,0,1,97,7,0,0,0,0,0,0,0]:=by
 unfold nW sD;rw[aL3,aPc]
 kernel_rfl
theorem aO7:dg.bZ (⟨#[97]⟩:ByteArray)=true:=by kernel_rfl
theorem aBr{x:Int}{l:List Int}(h:x=0):eQ (x :: l)=eQ l:=by
 show(if x=0 then eQ l else x)=_
 rw[if_pos h]
theorem aPd:eQ (tK uJ)=0:=by
 have Y:iY (dg.bZ uJ.name) 11=0:=by
  show iY (dg.bZ (⟨#[97]⟩:ByteArray)) 11=0
  rw[aO7];rfl
 have h2:iW uJ.sys=0:=by
  unfold iW;rw[if_neg (by simp[uJ])]
  rfl
 have J:eQ [iY (gJ (uJ.gives.map re.tx)) 13,iY (uJ.gives.all (inD uJ)) 7,iY (gJ (uJ.wants.map re.tx)) 13,iY (uJ.wants.all (inD uJ)) 7,iY (uJ.gives.all (fun s=>!inW uJ s)) 8,iY (decide (uJ.keeps.length≤6000)) 4,iY (gJ (uJ.keeps.map re.tx)) 13,iY (uJ.keeps.all dP) 11] = (0:Int):=by kernel_rfl
 unfold tK;rw[aBr Y,aBr h2];exact J
theorem aNE:fV uJ=0:=by
 unfold fV;rw[if_neg (by rw[aPd];simp),if_neg (by rw[aL3];decide),if_neg (by rw[aL3];decide),if_neg (by rw[aM9];decide)]
theorem aNs:aEx uJ:=by
 unfold aEx uJ;simp
theorem aJd:(dB uJ).length≤900000:=by decide
theorem aGC:fQ (gI uJ)=0∧jV (gI uJ)=uJ:=uB aNE aNs (aZ aJd (by decide))
theorem aGX:(gI uJ).size=20:=by
 rw[xN,aM9];rfl
theorem aMk:(gI uJ).extract 0 9=⟨#[119,101,102,116,1,1,0,1,97]⟩:=by
 apply ByteArray.ext
 apply Array.ext'
 rw[extract_toList];unfold gI cr.iR;rw[cr.aBf,aK9,aM9];rfl
theorem aOB(w:World):EK w muA:=aKm (aGx w) aJd (fun s hs=>by
 have:s=⟨#[97]⟩:=by
  have h:Ev.t s∈dB uJ:=hs
  simpa[dB,uJ,re.fD,re.qU,re.qV,re.qW] using h
 subst this;unfold maxLen
 decide)
theorem xH(w:World)(J:iE w):Calls Tryz.prog 11 #[] w (WkP w):=by
 have K1:=hid (mP w muA (aOB w) J);unfold aAd at K1;have e1:jT muA.su=gI uJ:=by
  show jT uJ=_
  unfold jT;rw[if_pos aNE]
 have e2:fV muA.su=0:=aNE;rw[e1,e2]at K1;have K2:=hid (fun(Y:World) (b:Below w.heap.size w Y)=>qQ (gI uJ) Y (by rw[aGX];unfold maxLen;decide) (bQ J b))
 rw[aGC.1,aGC.2]at K2;have hz:=aGX;have h9:=aMk;have a2:∀W,(Instr.slice 9 (.string (gI uJ)) none (some (.int .i64 9)) none).run Tryz.prog W=.ok (.string ⟨#[119,101,102,116,1,1,0,1,97]⟩) W:=fun W=>by
  rw[run_slice_string_h (P:=Tryz.prog) W 9 (gI uJ) Tryz.underlying9 .i64 9 (by omega) (by omega)]
  exact congrArg (fun z=>Result.ok (Value.string z) W) h9
 have a1:(((gI uJ).size:Int)==20)=true:=by rw[hz];rfl
 have a0:((gI uJ).size==20)=true:=by rw[hz];rfl
 unfold RDP at K2;unfold WkP;clear e1 e2 h9 J;generalize gI uJ=F at *;have hv:muA.val=.agg #[.string ⟨#[97]⟩,.slice none 0 0,.slice none 0 0,.slice none 0 0,.slice none 0 0,.slice none 0 0,.slice none 0 0]:=rfl;rw[hv]at K1;clear hv;go_enter Tryz.func11,Tryz.ntmps11;go_wp2_with fail;refine K1.out.mono ?_;rintro e w1 ⟨rfl,b1⟩;have B1:=hid b1;have K3:=hid (K2.out w1 b1);clear b1 K1 K2;go_wp2_with fail;refine K3.out.mono ?_;rintro e Y ⟨u,rfl,hu,_,b2⟩;have B2:=hid (B1.out.trans (b2.mono B1.out.size));have hn:Hid (u.name=⟨#[97]⟩):=hid (congrArg SU.name hu);clear b2 K3 hu B1;unfold MU.val MU.row;go_upto_region 3 with fail;have Bx:=bT.new Y 29 #[.string u.name,.slice u.gA u.gives.length u.gc,.slice u.wA u.wants.length u.wc,.slice u.kA u.keeps.length u.kc,.slice u.s.oA u.s.os.length u.s.oc,.slice u.s.fA u.s.fs.length u.s.fc,.slice u.s.cA u.s.cs.length u.s.cc];have B4:=hid (B2.out.alloc B2.out.size (.cells #[.string u.name,.slice u.gA u.gives.length u.gc,.slice u.wA u.wants.length u.wc,.slice u.kA u.keeps.length u.kc,.slice u.s.oA u.s.os.length u.s.oc,.slice u.s.fA u.s.fs.length u.s.fc,.slice u.s.cA u.s.cs.length u.s.cc] 29))
 have x0:=Bx.cell 0;generalize Y.alloc (.cells #[.string u.name,.slice u.gA u.gives.length u.gc,.slice u.wA u.wants.length u.wc,.slice u.kA u.keeps.length u.kc,.slice u.s.oA u.s.os.length u.s.oc,.slice u.s.fA u.s.fs.length u.s.fc,.slice u.s.cA u.s.cs.length u.s.cc] 29)=wz at *;have a3:wz.cell? ⟨Y.heap.size,0,none⟩=some (.string ⟨#[97]⟩):=by rw[←hn.out];exact x0
 clear x0 Bx hn B2 hz;go_wp2_with fail;go_ret;exact⟨rfl,B4.out⟩
end sf
end Go.Proofs.YtdmmkjijgoiecaaGreatDoor
