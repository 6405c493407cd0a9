import Derived.Test.YtdmmkjijgoiecaaGreatDoorB26
set_option linter.all false
set_option maxHeartbeats 4000000
namespace Go.Proofs.YtdmmkjijgoiecaaGreatDoor
open Lib(hid)
set_option maxHeartbeats 16000000
set_option maxRecDepth 100000
namespace sy
open RowKit mem
def ad(a b:Int):Int:=wrap64 (a+b)
def ten(a:Int):Int:=wrap64 (10 * a)
def vK:List ByteArray→Nat→Int→Int
 | [],_,n=>n
 | m :: r,k,n=>if k<100 then vK r (k+1) (ad n m.size) else n
def o1(o:SO)(n:Int):Int:=ad (ad (ad n o.name.size) o.kinds.size) (ten o.marks.length)
def f1(f:SF)(n:Int):Int:=ad (ad (ad n f.name.size) f.kinds.size) f.ret.size
def c1(c:SC)(n:Int):Int:=ad (ad (ad (ad n c.a.size) c.b.size) c.tag.size) (ten c.args.length)
def oN(o:SO)(n:Int):Int:=vK (o.marks.map (·.tag)) 0 (o1 o n)
def cN(c:SC)(n:Int):Int:=vK c.args 0 (c1 c n)
def iQ{α:Type}(f:α→Int→Int)(B:Int):List α→Int→Option Int
 | [],n=>some n
 | x :: r,n=>if B<f x n then none else iQ f B r (f x n)
def vU(s:SS)(most:Int):Bool:=decide (most<s.objs.length)||(decide (most<s.fns.length)||(decide (most<s.cons.length)||(((iQ oN 30000 s.objs 0).bind fun n=>(iQ f1 30000 s.fns n).bind fun n=>iQ cN 60000 s.cons n).isNone)))
theorem aCo{l:List ByteArray}{j:Nat}(J:j<l.length)(h:j<100)(n:Int):vK (l.drop j) j n=vK (l.drop (j+1)) (j+1) (ad n l[j].size):=by
 rw[bD J,vK,if_pos h]
theorem aDU{l:List ByteArray}(n:Int):vK (l.drop l.length) l.length n=n:=by
 rw[List.drop_length];rfl
theorem yP{l:List ByteArray}{j:Nat}(h:¬j<100)(n:Int):vK (l.drop j) j n=n:=by
 cases l.drop j with
 | nil=>rfl
 | cons a r=>rw[vK,if_neg h]
theorem aAh{α:Type}{f:α→Int→Int}{B:Int}{l:List α}{k:Nat}(J:k<l.length)(n:Int):iQ f B (l.drop k) n=if B<f l[k] n then none else iQ f B (l.drop (k+1)) (f l[k] n):=by
 rw[bD J];rfl
theorem aBC{α:Type}{f:α→Int→Int}{B:Int}{l:List α}(n:Int):iQ f B (l.drop l.length) n=some n:=by
 rw[List.drop_length];rfl
theorem aIl(s:MS)(most:Int)(w:World)(hs:vO w s):Calls Tryz.prog 18 #[s.val,.int .i64 most] w (cZ (vU s.sys most) w):=by
 have HO:=hid (fun W (hb:Below w.heap.size w W)=>hs.o.below hb)
 have HF:=hid (fun W (hb:Below w.heap.size w W)=>hs.f.below hb)
 have HC:=hid (fun W (hb:Below w.heap.size w W)=>hs.c.below hb)
 have HM:Hid (∀W,Below w.heap.size w W→∀x∈s.os,zW W x.mA 2 (x.o.marks.map oI)):=hid (fun W hb x hx=>((hs.ok x hx).below hb).m)
 have HG:Hid (∀W,Below w.heap.size w W→∀x∈s.cs,Rd W x.aA (x.c.args.map Value.string)):=hid (fun W hb x hx=>((hs.ck x hx).below hb).g)
 have b6:Hid (∀x∈s.os,x.o.marks.length≤maxLen):=hid (fun x hx=>(hs.ok x hx).ml)
 have b9:Hid (∀x∈s.cs,x.c.args.length≤maxLen):=hid (fun x hx=>(hs.ck x hx).gl)
 have bb:=hs.ol;have b3:=hs.fl;have aw:=hs.cl;unfold maxLen at bb b3 aw b6 b9;clear hs;unfold cZ;obtain⟨oA,oc,os,fA,fc,fs,cA,cc,cs⟩:=s;unfold MS.val MS.sys;dsimp only at *;obtain⟨no,ai⟩:∃n,Hid (n=os.length):=⟨_,hid rfl⟩;obtain⟨nf,a9⟩:∃n,Hid (n=fs.length):=⟨_,hid rfl⟩;obtain⟨nc,aa⟩:∃n,Hid (n=cs.length):=⟨_,hid rfl⟩;obtain⟨V,hV⟩:∃V,Hid (V=vU ⟨os.map (·.o),fs,cs.map (·.c)⟩ most):=⟨_,hid rfl⟩
 rw[←hV.out,←ai.out,←a9.out,←aa.out];rw[←ai.out]at bb;rw[←a9.out]at b3;rw[←aa.out]at aw;obtain⟨L,hL⟩:∃L,Hid (L=cs.map (·.c)):=⟨_,hid rfl⟩
 have ax:Hid (L.length=nc):=hid (by rw[hL.out,aH];exact aa.out.symm)
 obtain⟨M,hM⟩:∃M,Hid (M=os.map (·.o)):=⟨_,hid rfl⟩
 have b8:Hid (M.length=no):=hid (by rw[hM.out,aH];exact ai.out.symm)
 have ag:Hid (V=(decide (most<(no:Int))||(decide (most<(nf:Int))||(decide (most<(nc:Int))||(((iQ oN 30000 (M.drop 0) 0).bind fun n=>(iQ f1 30000 (fs.drop 0) n).bind fun n=>iQ cN 60000 (L.drop 0) n).isNone))))):=hid (by
  rw[hV.out,hL.out,hM.out];unfold vU;dsimp only;rw[aH,aH,←ai.out,←a9.out,←aa.out]
  rfl)
 clear hV;go_enter Tryz.func18,Tryz.ntmps18;have X2:=hid (SR.new w #[.slice oA no oc,.slice fA nf fc,.slice cA nc cc])
 by_cases h0:most<(no:Int)
 ·have d0:decide (most<(no:Int))=true:=aC h0
  have q:=hid d0;have hv:Hid (true=V):=hid (by rw[ag.out,q.out];simp)
  clear h0;go_wp2_with fail;go_ret;exact⟨congrArg (fun z=>Ending.returned (.bool z)) hv.out,X2.out.1⟩
 have d0:decide (most<(no:Int))=false:=aB h0;have q0:=hid d0;clear h0
 by_cases h1:most<(nf:Int)
 ·have d1:decide (most<(nf:Int))=true:=aC h1
  have q:=hid d1;have hv:Hid (true=V):=hid (by rw[ag.out,q0.out,q.out];simp)
  clear h1;go_wp2_with fail;go_ret;exact⟨congrArg (fun z=>Ending.returned (.bool z)) hv.out,X2.out.1⟩
 have d1:decide (most<(nf:Int))=false:=aB h1;have q1:=hid d1;clear h1
 by_cases h2:most<(nc:Int)
 ·have d2:decide (most<(nc:Int))=true:=aC h2
  have q:=hid d2;have hv:Hid (true=V):=hid (by rw[ag.out,q0.out,q1.out,q.out];simp)
  clear h2;go_wp2_with fail;go_ret;exact⟨congrArg (fun z=>Ending.returned (.bool z)) hv.out,X2.out.1⟩
 have d2:decide (most<(nc:Int))=false:=aB h2;have q2:=hid d2;clear h2;have ah:Hid (V=((iQ oN 30000 (M.drop 0) 0).bind fun n=>(iQ f1 30000 (fs.drop 0) n).bind fun n=>iQ cN 60000 (L.drop 0) n).isNone):=hid (by rw[ag.out,q0.out,q1.out,q2.out];rfl)
 clear ag q0 q1 q2;have s0:=X2.out.2.cell 0;simp only[aL,aJ,aK]at s0;go_wp2_with fail;clear s0 d0 d1 d2
 go_loopw [5,6] (fun v i wr=>∃(k:Nat) (z:Int),k≤no∧i=.int .i64 k∧v=.int .i64 z∧Hid (V=((iQ oN 30000 (M.drop k) z).bind fun n=>(iQ f1 30000 (fs.drop 0) n).bind fun n=>iQ cN 60000 (L.drop 0) n).isNone)∧Hid (SR w wr #[.slice oA no oc,.slice fA nf fc,.slice cA nc cc])) (fun _ i _=>no-(intOf i).toNat)
 case atStart=>exact⟨0,0,by omega,rfl,rfl,ah,X2⟩
 case round=>
  obtain⟨k,z,hk,rfl,rfl,hG,HX⟩:=hrel;clear ah X2
  rename World=>wr
  have s0:=HX.out.2.cell 0;simp only[aL,aJ,aK]at s0
  by_cases a5:k<no
  ·have e1:decide ((k:Int)<(no:Int))=true:=aC (by omega)
   have a0:k<os.length:=by rw[←ai.out];exact a5
   have ap:k<M.length:=by rw[b8.out];exact a5
   obtain⟨g,off,rfl,hg,c0,c1,c2⟩:=iK (HO.out wr HX.out.1) a0
   have aj:Hid (M[k] = os[k].o):=hid (by
    have e:M[k]? = some os[k].o:=by rw[hM.out,List.getElem?_map,aN a0];rfl
    rw[aN ap]at e
    exact Option.some.inj e)
   have Y:=hid (aAh (f:=oN) (B:=30000) ap z);rw[aj.out]at Y;have bh:=hid (fun W hb=>HM.out W hb os[k] (aR a0))
   have HK:Hid (∀W,Below w.heap.size w W→W.cell? ⟨g,off+k * 3+2,none⟩=some (.slice os[k].mA os[k].o.marks.length os[k].mc)):=hid (fun W hb=>by
    obtain⟨g',o',e',_,_,_,c⟩:=iK (HO.out W hb) a0;injection e' with e';injection e' with e1' e2';subst e1';subst e2'
    exact c)
   have bi:=b6.out os[k] (aR a0);clear aj ap;generalize os[k] = x at *;obtain⟨⟨xn,xk,xm⟩,xA,xc⟩:=x;dsimp only at *;obtain⟨ml,ae⟩:∃n,Hid (n=xm.length):=⟨_,hid rfl⟩;have bd:Hid (∀W,Below w.heap.size w W→W.cell? ⟨g,off+k * 3+2,none⟩=some (.slice xA ml xc)):=hid (fun W hb=>by rw[ae.out];exact HK.out W hb)
   clear HK;rw[←ae.out]at bi c2;obtain⟨zn,a1⟩:∃z2,Hid (z2=oN ⟨xn,xk,xm⟩ z):=⟨_,hid rfl⟩;rw[←a1.out]at Y;have a3:Hid (zn=vK ((xm.map (·.tag)).drop 0) 0 (ad (ad (ad z xn.size) xk.size) (ten ml))):=hid (by rw[a1.out,ae.out];rfl)
   clear a1;go_wp2_with fail
   go_quiet (fail)
   have az:=hid (HX.out.drewN nq);clear s0 c0 c1 c2 HX;go_wp2_with fail
   go_loopw [5,7] (fun v i wx=>∃(j:Nat) (y:Int),j≤ml∧i=.int .i64 j∧v=.int .i64 y∧Hid (zn=vK ((xm.map (·.tag)).drop j) j y)∧Hid (SR w wx #[.slice (some ⟨g,off,none⟩) no oc,.slice fA nf fc,.slice cA nc cc])) (fun _ i _=>ml-(intOf i).toNat)
   case atStart=>exact⟨0,_,by omega,rfl,rfl,a3,az⟩
   case round=>
    obtain⟨j,y,hj,rfl,rfl,hT,J⟩:=hrel;clear a3 az
    rename World=>wx
    have s0:=J.out.2.cell 0;simp only[aL,aJ,aK]at s0;have k2:=bd.out wx J.out.1
    by_cases au:j<ml
    ·have e2:decide ((j:Int)<(ml:Int))=true:=aC (by omega)
     have a8:j<xm.length:=by rw[←ae.out];exact au
     have av:j<(xm.map (·.tag)).length:=by rw[aH];exact a8
     by_cases a7:j<100
     ·have e3:decide ((j:Int)<100)=true:=aC (by omega)
      obtain⟨g6,o6,rfl,bk,m0,m1⟩:=qJ (bh.out wx J.out.1) a8;have ao:Hid (zn=vK ((xm.map (·.tag)).drop (j+1)) (j+1) (ad y xm[j].tag.size)):=hid (by rw[hT.out,aCo av a7,List.getElem_map])
      clear hT av;generalize xm[j] = mj at *;obtain⟨ma,mt⟩:=mj;dsimp only at *;go_wp2_with fail
      try go_quiet (fail)
      go_wp2_with fail
      go_roundw
      case rel=>exact⟨j+1,_,by omega,by go_num,rfl,ao,J⟩
      case measure=>simp[intOf];omega
     ·have e3:decide ((j:Int)<100)=false:=aB (by omega)
      have hy:Hid (zn=y):=hid (by rw[hT.out,yP a7])
      clear hT av
      by_cases hb:30000<y
      ·have db:decide ((30000:Int)<y)=true:=aC hb
       have hv:Hid (true=V):=hid (by rw[hG.out,Y.out,hy.out,if_pos hb];rfl)
       go_wp2_with fail;go_ret;exact⟨congrArg (fun z=>Ending.returned (.bool z)) hv.out,J.out.1⟩
      ·have db:decide ((30000:Int)<y)=false:=aB hb
       have a2:Hid (V=((iQ oN 30000 (M.drop (k+1)) y).bind fun n=>(iQ f1 30000 (fs.drop 0) n).bind fun n=>iQ cN 60000 (L.drop 0) n).isNone):=hid (by rw[hG.out,Y.out,hy.out,if_neg hb])
       have am:=Int.not_lt.mp hb;go_wp2_with fail
       go_roundw
       case rel=>exact⟨k+1,y,by omega,by go_num,rfl,a2,J⟩
       case measure=>simp[intOf];omega
    ·have e2:decide ((j:Int)<(ml:Int))=false:=aB (by omega)
     have hy:Hid (zn=y):=hid (by
      obtain rfl:j=ml:=by omega
      rw[hT.out];have e:(xm.map (·.tag)).length=j:=by rw[aH,ae.out]
      have:=aDU (l:=xm.map (·.tag)) y
      rw[e]at this
      exact this)
     clear hT
     by_cases hb:30000<y
     ·have db:decide ((30000:Int)<y)=true:=aC hb
      have hv:Hid (true=V):=hid (by rw[hG.out,Y.out,hy.out,if_pos hb];rfl)
      go_wp2_with fail;go_ret;exact⟨congrArg (fun z=>Ending.returned (.bool z)) hv.out,J.out.1⟩
     ·have db:decide ((30000:Int)<y)=false:=aB hb
      have a2:Hid (V=((iQ oN 30000 (M.drop (k+1)) y).bind fun n=>(iQ f1 30000 (fs.drop 0) n).bind fun n=>iQ cN 60000 (L.drop 0) n).isNone):=hid (by rw[hG.out,Y.out,hy.out,if_neg hb])
      have am:=Int.not_lt.mp hb;go_wp2_with fail
      go_roundw
      case rel=>exact⟨k+1,y,by omega,by go_num,rfl,a2,J⟩
      case measure=>simp[intOf];omega
  ·obtain rfl:no=k:=by omega
   have e1:decide ((no:Int)<(no:Int))=false:=aB (by omega)
   have ah:Hid (V=((iQ f1 30000 (fs.drop 0) z).bind fun n=>iQ cN 60000 (L.drop 0) n).isNone):=hid (by
    rw[hG.out];have:=aBC (f:=oN) (B:=30000) (l:=M) z;rw[b8.out]at this;rw[this]
    rfl)
   clear hG;have s1:=HX.out.2.cell 1;simp only[aL,aJ,aK]at s1;go_wp2_with fail;clear s0 s1
   go_loopw [5,8] (fun v i wx=>∃(k:Nat) (z:Int),k≤nf∧i=.int .i64 k∧v=.int .i64 z∧Hid (V=((iQ f1 30000 (fs.drop k) z).bind fun n=>iQ cN 60000 (L.drop 0) n).isNone)∧Hid (SR w wx #[.slice oA no oc,.slice fA nf fc,.slice cA nc cc])) (fun _ i _=>nf-(intOf i).toNat)
   case atStart=>exact⟨0,z,by omega,rfl,rfl,ah,HX⟩
   case round=>
    obtain⟨k,z2,bl,rfl,rfl,hG,a4⟩:=hrel;clear ah HX
    rename World=>wr2
    have s1:=a4.out.2.cell 1;simp only[aL,aJ,aK]at s1
    by_cases a5:k<nf
    ·have e1:decide ((k:Int)<(nf:Int))=true:=aC (by omega)
     have a0:k<fs.length:=by rw[←a9.out];exact a5
     obtain⟨g,off,rfl,hg,c0,c1,c2⟩:=lS (HF.out wr2 a4.out.1) a0;have Y:=hid (aAh (f:=f1) (B:=30000) a0 z2);generalize fs[k] = x at *;obtain⟨xn,xk,xr⟩:=x;dsimp only at *;obtain⟨zn,a1⟩:∃z9,Hid (z9=f1 ⟨xn,xk,xr⟩ z2):=⟨_,hid rfl⟩;rw[←a1.out]at Y;have a3:Hid (wrap64 (wrap64 (wrap64 (z2+xn.size)+xk.size)+xr.size)=zn):=hid (by rw[a1.out];rfl)
     clear a1;go_wp2_with fail
     go_quiet (fail)
     simp only[IntWalk.i64_left,a3.out];have J:=hid (a4.out.drewN nq);clear s1 c0 c1 c2 a4
     by_cases hb:30000<zn
     ·have db:decide ((30000:Int)<zn)=true:=aC hb
      have hv:Hid (true=V):=hid (by rw[hG.out,Y.out,if_pos hb];rfl)
      go_wp2_with fail;go_ret;exact⟨congrArg (fun z=>Ending.returned (.bool z)) hv.out,J.out.1⟩
     ·have db:decide ((30000:Int)<zn)=false:=aB hb
      have a2:Hid (V=((iQ f1 30000 (fs.drop (k+1)) zn).bind fun n=>iQ cN 60000 (L.drop 0) n).isNone):=hid (by rw[hG.out,Y.out,if_neg hb])
      have am:=Int.not_lt.mp hb;go_wp2_with fail
      go_roundw
      case rel=>exact⟨k+1,zn,by omega,by go_num,rfl,a2,J⟩
      case measure=>simp[intOf];omega
    ·obtain rfl:nf=k:=by omega
     have e1:decide ((nf:Int)<(nf:Int))=false:=aB (by omega)
     have bc:Hid (V=(iQ cN 60000 (L.drop 0) z2).isNone):=hid (by
      rw[hG.out];have:=aBC (f:=f1) (B:=30000) (l:=fs) z2;rw[←a9.out]at this;rw[this]
      rfl)
     clear hG;have s2:=a4.out.2.cell 2;simp only[aL,aJ,aK]at s2;go_wp2_with fail;clear s1 s2
     go_loopw [5,9] (fun v i wx=>∃(k:Nat) (z:Int),k≤nc∧i=.int .i64 k∧v=.int .i64 z∧Hid (V=(iQ cN 60000 (L.drop k) z).isNone)∧Hid (SR w wx #[.slice oA no oc,.slice fA nf fc,.slice cA nc cc])) (fun _ i _=>nc-(intOf i).toNat)
     case atStart=>exact⟨0,z2,by omega,rfl,rfl,bc,a4⟩
     case round=>
      obtain⟨k,z3,bj,rfl,rfl,hG,af⟩:=hrel;clear bc a4
      rename World=>wr3
      have s2:=af.out.2.cell 2;simp only[aL,aJ,aK]at s2
      by_cases a5:k<nc
      ·have e1:decide ((k:Int)<(nc:Int))=true:=aC (by omega)
       have a0:k<cs.length:=by rw[←aa.out];exact a5
       have ar:k<L.length:=by rw[ax.out];exact a5
       obtain⟨g,off,rfl,hg,c0,c1,c2,c3,c4,c5⟩:=kH (HC.out wr3 af.out.1) a0
       have aj:Hid (L[k] = cs[k].c):=hid (by
        have e:L[k]? = some cs[k].c:=by rw[hL.out,List.getElem?_map,aN a0];rfl
        rw[aN ar]at e
        exact Option.some.inj e)
       have Y:=hid (aAh (f:=cN) (B:=60000) ar z3);rw[aj.out]at Y;have bg:=hid (fun W hb=>HG.out W hb cs[k] (aR a0))
       have bf:=b9.out cs[k] (aR a0);clear aj ar;generalize cs[k] = x at *;obtain⟨⟨xo,xa,xb,xk,xt,xg⟩,xA,xc⟩:=x;dsimp only at *;obtain⟨gl,ak⟩:∃n,Hid (n=xg.length):=⟨_,hid rfl⟩;rw[←ak.out]at bf c5;obtain⟨zn,a1⟩:∃z9,Hid (z9=cN ⟨xo,xa,xb,xk,xt,xg⟩ z3):=⟨_,hid rfl⟩;rw[←a1.out]at Y;have a3:Hid (zn=vK (xg.drop 0) 0 (ad (ad (ad (ad z3 xa.size) xb.size) xt.size) (ten gl))):=hid (by rw[a1.out,ak.out];rfl)
       clear a1;have b7:=hid (af.out.alloc (.cells #[.int .i64 xo,.string xa,.string xb,.int .i64 xk,.string xt,.slice xA gl xc] 105));have a6:=hid (bT.new wr3 105 #[.int .i64 xo,.string xa,.string xb,.int .i64 xk,.string xt,.slice xA gl xc]);go_upto_region 24 with fail;generalize hW:wr3.alloc (.cells #[.int .i64 xo,.string xa,.string xb,.int .i64 xk,.string xt,.slice xA gl xc] 105)=W at *;clear hW c0 c1 c2 c3 c4 c5 s2 af;generalize wr3.heap.size=bm at *;have b1:=a6.out.cell 1;have b2:=a6.out.cell 2;have b4:=a6.out.cell 4;have b5:=a6.out.cell 5;simp only[aL,aJ,aK]at b1 b2 b4 b5;go_wp2_with fail;clear b1 b2 b4 b5
       go_loopw [5,11] (fun v i wx=>∃(j:Nat) (y:Int),j≤gl∧i=.int .i64 j∧v=.int .i64 y∧Hid (zn=vK (xg.drop j) j y)∧Hid (bT wx bm 105 #[.int .i64 xo,.string xa,.string xb,.int .i64 xk,.string xt,.slice xA gl xc])∧Hid (SR w wx #[.slice oA no oc,.slice fA nf fc,.slice (some ⟨g,off,none⟩) nc cc])) (fun _ i _=>gl-(intOf i).toNat)
       case atStart=>exact⟨0,_,by omega,rfl,rfl,a3,a6,b7⟩
       case round=>
        obtain⟨j,y,hj,rfl,rfl,hT,ay,J⟩:=hrel;clear a3 b7 a6
        rename World=>wx
        have b5:=ay.out.cell 5;simp only[aL,aJ,aK]at b5
        by_cases au:j<gl
        ·have e2:decide ((j:Int)<(gl:Int))=true:=aC (by omega)
         have a8:j<xg.length:=by rw[←ak.out];exact au
         by_cases a7:j<100
         ·have e3:decide ((j:Int)<100)=true:=aC (by omega)
          obtain⟨g6,o6,rfl,_,ba⟩:=(bg.out wx J.out.1) (by rw[aH];omega)
          have c6:=ba j (by rw[aH];exact a8)
          rw[List.getElem_map]at c6;clear ba;have ao:Hid (zn=vK (xg.drop (j+1)) (j+1) (ad y xg[j].size)):=hid (by rw[hT.out,aCo a8 a7])
          clear hT;generalize xg[j] = mt at *;go_wp2_with fail
          go_roundw
          case rel=>exact⟨j+1,_,by omega,by go_num,rfl,ao,ay,J⟩
          case measure=>simp[intOf];omega
         ·have e3:decide ((j:Int)<100)=false:=aB (by omega)
          have hy:Hid (zn=y):=hid (by rw[hT.out,yP a7])
          clear hT
          by_cases hb:60000<y
          ·have db:decide ((60000:Int)<y)=true:=aC hb
           have hv:Hid (true=V):=hid (by rw[hG.out,Y.out,hy.out,if_pos hb];rfl)
           go_wp2_with fail;go_ret;exact⟨congrArg (fun z=>Ending.returned (.bool z)) hv.out,J.out.1⟩
          ·have db:decide ((60000:Int)<y)=false:=aB hb
           have a2:Hid (V=(iQ cN 60000 (L.drop (k+1)) y).isNone):=hid (by rw[hG.out,Y.out,hy.out,if_neg hb])
           have am:=Int.not_lt.mp hb;go_wp2_with fail
           go_roundw
           case rel=>exact⟨k+1,y,by omega,by go_num,rfl,a2,J⟩
           case measure=>simp[intOf];omega
        ·have e2:decide ((j:Int)<(gl:Int))=false:=aB (by omega)
         have hy:Hid (zn=y):=hid (by
          obtain rfl:j=gl:=by omega
          rw[hT.out];have:=aDU (l:=xg) y;rw[←ak.out]at this
          exact this)
         clear hT
         by_cases hb:60000<y
         ·have db:decide ((60000:Int)<y)=true:=aC hb
          have hv:Hid (true=V):=hid (by rw[hG.out,Y.out,hy.out,if_pos hb];rfl)
          go_wp2_with fail;go_ret;exact⟨congrArg (fun z=>Ending.returned (.bool z)) hv.out,J.out.1⟩
         ·have db:decide ((60000:Int)<y)=false:=aB hb
          have a2:Hid (V=(iQ cN 60000 (L.drop (k+1)) y).isNone):=hid (by rw[hG.out,Y.out,hy.out,if_neg hb])
          have am:=Int.not_lt.mp hb;go_wp2_with fail
          go_roundw
          case rel=>exact⟨k+1,y,by omega,by go_num,rfl,a2,J⟩
          case measure=>simp[intOf];omega
      ·obtain rfl:nc=k:=by omega
       have e1:decide ((nc:Int)<(nc:Int))=false:=aB (by omega)
       have hv:Hid (false=V):=hid (by
        rw[hG.out];have:=aBC (f:=cN) (B:=60000) (l:=L) z3;rw[ax.out]at this;rw[this]
        rfl)
       clear hG;go_wp2_with fail;go_ret;exact⟨congrArg (fun z=>Ending.returned (.bool z)) hv.out,af.out.1⟩
open RowKit mem
open nm (Nd eZ dW kC iT kJ lY)
theorem aIi(s:ByteArray)(hs:s.size≤maxLen):∃(d:Nd) (e0:Int),Hid (aB1 s=(decide (e0=0)&&(decide (5≤d.kind)&&decide (d.cell<0))))∧∀w,Calls Tryz.prog 117 #[.string s] w (lH d e0 w):=by
 rcases hr:eZ s with _ | _
 ·have J:aB1 s=false:=by
   unfold aB1;rw[hr];rfl
  have Y:∀w,Calls Tryz.prog 117 #[.string s] w (kJ w):=fun w=>kC s w hs hr
  rw[J];obtain⟨d,hd⟩:∃d:Nd,d=⟨0,⟨#[]⟩,0,⟨#[]⟩,0,0⟩:=⟨_,rfl⟩;refine⟨d,11,hid rfl,fun w=>?_⟩
  have h:=Y w;unfold lH;rw[hd];unfold kJ at h;exact h
 ·have J:aB1 s=(decide ((0:Int)=0)&&(decide (5≤(dW s).kind)&&decide ((dW s).cell<0))):=by
   unfold aB1;rw[hr];rfl
  have Y:∀w,Calls Tryz.prog 117 #[.string s] w fun e w'=>e=.returned (.tuple #[(dW s).val,.int .i64 0])∧Below w.heap.size w w':=fun w=>iT s w hs hr
  generalize dW s=d at J Y;exact⟨d,0,hid J,Y⟩
theorem aKt{J:List Mk}{n k:Nat}(hk:k<J.length)(Y:sK J n k):zZ J n k J[k]↔(0≤J[k].at_∧J[k].at_<n∧vM J[k].tag=true∧(0<k→aEK J k≤J[k].at_)∧J[k]∉J.take k):=by
 rw[aGu hk Y];constructor
 ·rintro⟨h1,h2,h3,h4⟩
  refine⟨?_,h3,h4,fun _=>h2,h1⟩
  cases k with
  | zero=>exact h2
  | succ q=>
   rw[pJ (by omega)]at h2
   have:=(Y q _ (by omega) (aN (by omega))).1
   omega
 ·rintro⟨h1,h2,h3,h4,h5⟩
  refine⟨h5,?_,h2,h3⟩;cases k with
  | zero=>exact h1
  | succ q=>exact h4 (by omega)
def RO(w wr:World)(xs:Array Value):Prop:=Below w.heap.size w wr∧bT wr w.heap.size 99 xs
theorem RO.on{w wr J:World}{xs:Array Value}(h:RO w wr xs)(hb:Below wr.heap.size wr J):RO w J xs:=⟨h.1.trans (hb.mono h.1.size),h.2.kept (Fr.of_below hb []) (by simp)⟩
theorem RO.new(w:World)(xs:Array Value):RO w (w.alloc (.cells xs 99)) xs:=⟨((Fr.refl [] w).alloc _).all,bT.new w _ xs⟩
theorem RO.alloc{w wr:World}{xs:Array Value}(h:RO w wr xs)(o:Obj):RO w (wr.alloc o) xs:=h.on ((Fr.refl [] wr).alloc o).all
theorem RO.drewN{w wr:World}{xs:Array Value}(h:RO w wr xs)(i:Nat):RO w (wr.drewN i) xs:=h.on ((Fr.refl [] wr).drewN i).all
theorem aDK(hm:aJL)(x:MO)(w:World)(hx:MOk w x):Calls Tryz.prog 114 #[.agg x.row.toArray] w (dD (kN x.o) w):=by
 obtain⟨d,e0,av,b3⟩:=aIi x.o.name hx.n;have HD:=hid b3;have HK:=hid (fun w=>vW x.o.kinds 1 64 w hx.k (by decide) (by decide))
 have HM:=hid (fun w' (hb:Below w.heap.size w w')=>hx.m.below hb)
 have b8:Hid (∀m∈x.o.marks,m.tag.size≤maxLen):=hid hx.mt;have aw:=hx.ml;have am:=hx.k;unfold maxLen at aw am;unfold lH at HD;obtain⟨⟨name,kinds,ms⟩,mA,mc⟩:=x;obtain⟨dk,df,dc,dn,dm,dl⟩:=d;unfold MO.row;rw[aGI];dsimp only at *;clear hx b3;unfold dD;obtain⟨n,hN⟩:∃n,Hid (n=ms.length):=⟨_,hid rfl⟩;rw[←hN.out]at aw ⊢;generalize eG kinds 1 64=b2 at *;rw[av.out];obtain⟨V,hV⟩:∃V:Int,Hid (V=aLc (decide (e0=0)&&(decide (5≤dk)&&decide (dl<0))) b2 (aBY ms kinds.size)):=⟨_,hid rfl⟩;rw[←hV.out];clear av;go_enter Tryz.func114,Tryz.ntmps114;go_wp2_with fail;refine(HD.out _).mono ?_;rintro e w2 ⟨rfl,ay⟩;have X2:=hid (((RO.new w #[.string name,.string kinds,.slice mA n mc]).on ay).alloc (.cells #[.int .i64 dk,.string df,.int .i64 dc,.string dn,.int .i64 dm,.int .i64 dl] 163));clear ay HD
 by_cases he:e0=0
 rotate_left
 ·have d0:(e0 != 0)=true:=by simpa using he
  have q:=hid (aB he);clear he;go_wp2_with fail;go_ret;exact⟨congrArg (fun z=>Ending.returned (.int .i64 z)) (show(11:Int)=V by rw[hV.out,q.out];rfl),X2.out.1⟩
 have d0:(e0 != 0)=false:=by simpa using he
 have q0:=hid (aC he);clear he
 by_cases h5:5≤dk
 rotate_left
 ·have d1:decide (dk<5)=true:=aC (by omega)
  have q:=hid (aB h5);clear h5;go_wp2_with fail;go_ret;exact⟨congrArg (fun z=>Ending.returned (.int .i64 z)) (show(11:Int)=V by rw[hV.out,q0.out,q.out];rfl),X2.out.1⟩
 have d1:decide (dk<5)=false:=aB (by omega)
 have q1:=hid (aC h5);clear h5
 by_cases hl:dl<0
 rotate_left
 ·have d2:decide (0≤dl)=true:=aC (by omega)
  have q:=hid (aB hl);clear hl;go_wp2_with fail;go_ret;exact⟨congrArg (fun z=>Ending.returned (.int .i64 z)) (show(11:Int)=V by rw[hV.out,q0.out,q1.out,q.out];rfl),X2.out.1⟩
 have d2:decide (0≤dl)=false:=aB (by omega)
 have ap:Hid (V=aLc true b2 (aBY ms kinds.size)):=hid (by rw[hV.out,q0.out,q1.out,aC hl];rfl)
 clear hl q0 q1 hV;have x1:=X2.out.2.cell 1;simp only[aL,aJ,aK]at x1;go_wp2_with fail;refine(HK.out _).mono ?_;rintro e w3 ⟨rfl,h3⟩;subst h3
 rcases b2 with _ | _
 ·go_wp2_with fail
  go_ret;exact⟨congrArg (fun z=>Ending.returned (.int .i64 z)) (show(5:Int)=V by rw[ap.out];rfl),X2.out.1⟩
 have a3:Hid (V=aBY ms kinds.size):=hid (by rw[ap.out];rfl)
 clear ap x1 d0 d1 d2 HK;have ae:Hid (sK ms kinds.size 0):=hid (fun i m hi _=>by omega)
 go_wp2_with fail
 go_loopw [5] (fun i wr=>∃k:Nat,k≤n∧i=.int .i64 k∧Hid (sK ms kinds.size k)∧Hid (RO w wr #[.string name,.string kinds,.slice mA n mc])) (fun i _=>n-(intOf i).toNat)
 case atStart=>exact⟨0,by omega,rfl,ae,X2⟩
 case round=>
  obtain⟨k,hk,rfl,ah,a6⟩:=hrel;clear ae X2
  rename World=>wr
  have y2:=a6.out.2.cell 2;simp only[aL,aJ,aK]at y2
  by_cases am:k<n
  ·have e1:decide ((k:Int)<(n:Int))=true:=aC (by omega)
   have a7:k<ms.length:=by rw[←hN.out];exact am
   have ax:=HM.out wr a6.out.1;obtain⟨g,off,rfl,hg,c0,c1⟩:=qJ ax a7;have J:=hid (aKt a7 ah.out);have Y:=hid (fun h=>aGS (aGt (n:=kinds.size) a7 h))
   have a0:=hid (fun h=>(aEt (n:=kinds.size) a7).2 ⟨ah.out,h⟩)
   have ar:=b8.out ms[k] (aR a7);obtain⟨m,ao⟩:∃m,ms[k] = m:=⟨_,rfl⟩;rw[ao]at J Y ar c0 c1;have a8:=hid ao;clear ao;obtain⟨at_,tag⟩:=m;dsimp only at *;have bb:(tag.size:Int)≤9223372036854775807:=by unfold maxLen at ar;omega
   clear ar;have a2:=hid (a6.out.alloc (.cells #[.int .i64 at_,.string tag] 101));have aa:=hid (bT.new wr 101 #[.int .i64 at_,.string tag]);have b9:=hid (HM.out _ a2.out.1);go_wp2_with fail;generalize hW:wr.alloc (.cells #[.int .i64 at_,.string tag] 101)=W at *;have bd:=a6.out.1.size;clear hW c0 c1 y2 ax;generalize wr.heap.size=bm at *;have z1:=a2.out.2.cell 1;have z2:=a2.out.2.cell 2;have m0:=aa.out.cell 0;have m1:=aa.out.cell 1;simp only[aL,aJ,aK]at z1 z2 m0 m1
   by_cases h0:at_<0
   ·have d1:decide (at_<0)=true:=aC h0
    have hv:Hid ((3:Int)=V):=hid (by rw[a3.out,Y.out (fun h=>absurd (J.out.1 h).1 (by omega))])
    clear Y a0 J h0
    go_quiet (fail)
    go_wp2_with fail;go_ret;exact⟨congrArg (fun z=>Ending.returned (.int .i64 z)) hv.out,(a2.out.drewN _).1⟩
   have d1:decide (at_<0)=false:=aB h0;have p1:=hid (Int.not_lt.1 h0);clear h0
   by_cases h0:(kinds.size:Int)≤at_
   ·have d2:decide ((kinds.size:Int)≤at_)=true:=aC h0
    have hv:Hid ((3:Int)=V):=hid (by rw[a3.out,Y.out (fun h=>absurd (J.out.1 h).2.1 (by omega))])
    clear Y a0 J h0
    go_quiet (fail)
    go_wp2_with fail;go_ret;exact⟨congrArg (fun z=>Ending.returned (.int .i64 z)) hv.out,(a2.out.drewN _).1⟩
   have d2:decide ((kinds.size:Int)≤at_)=false:=aB h0;have p2:=hid (Int.not_le.1 h0);clear h0
   by_cases h0:tag.size<1
   ·have d3:decide ((tag.size:Int)<1)=true:=aC (by omega)
    have hv:Hid ((3:Int)=V):=hid (by rw[a3.out,Y.out (fun h=>by have h9:=(J.out.1 h).2.2.1;unfold vM at h9;simp at h9;omega)])
    clear Y a0 J h0
    go_quiet (fail)
    go_wp2_with fail;go_ret;exact⟨congrArg (fun z=>Ending.returned (.int .i64 z)) hv.out,(a2.out.drewN _).1⟩
   have d3:decide ((tag.size:Int)<1)=false:=aB (by omega)
   have p3:=hid h0;clear h0
   by_cases h0:60<tag.size
   ·have d4:decide ((60:Int)<(tag.size:Int))=true:=aC (by omega)
    have hv:Hid ((3:Int)=V):=hid (by rw[a3.out,Y.out (fun h=>by have h9:=(J.out.1 h).2.2.1;unfold vM at h9;simp at h9;omega)])
    clear Y a0 J h0
    go_quiet (fail)
    go_wp2_with fail;go_ret;exact⟨congrArg (fun z=>Ending.returned (.int .i64 z)) hv.out,(a2.out.drewN _).1⟩
   have d4:decide ((60:Int)<(tag.size:Int))=false:=aB (by omega)
   have p4:Hid (vM tag=true):=hid (by unfold vM;rw[aC (by have:=p3.out;omega),aC (by omega)];rfl)
   clear h0 p3
   rcases Nat.eq_zero_or_pos k with aj | aj
   ·have d5:decide (0<k)=false:=aB (by omega)
    have p5:Hid (0<k→aEK ms k≤at_):=hid (fun h=>by omega)
    go_quiet (fail)
    go_wp2_with fail
    go_loopw [7] (fun j wx=>∃q:Nat,q≤k∧j=.int .i64 q∧Hid (¬(⟨at_,tag⟩:Mk)∈ms.take q)∧Hid (RO w wx #[.string name,.string kinds,.slice (some ⟨g,off,none⟩) n mc]∧bT wx bm 101 #[.int .i64 at_,.string tag])) (fun j _=>k-(intOf j).toNat)
    case atStart=>exact⟨0,by omega,rfl,hid (by simp),hid ⟨a2.out.drewN _,aa.out.kept ((Fr.refl [] W).drewN _) (by simp)⟩⟩
    case round=>
     obtain⟨q,hq,rfl,a4,a1⟩:=hrel
     rename World=>wx
     clear z1 z2 m0 m1
     by_cases b5:q<k
     ·exfalso;omega
     ·obtain rfl:q=k:=by omega
      have e2:decide (q<q)=false:=aB (by omega)
      have a5:=hid (a0.out (by rw[a8.out];exact J.out.2 ⟨p1.out,p2.out,p4.out,p5.out,a4.out⟩))
      clear Y a0 J a8;go_wp2_with fail
      go_roundw
      case rel=>exact⟨q+1,by omega,by go_num,a5,hid a1.out.1⟩
      case measure=>simp[intOf];omega
   ·have d5:decide (0<k)=true:=aC aj
    obtain⟨m2,az⟩:∃m2,m2+1=k:=⟨k-1,by omega⟩
    have ba:(k:Int)-1=(m2:Int):=by omega
    have b7:IntKind.i64.wrap (m2:Int)=(m2:Int):=IntWalk.i64_in _ (by omega)
    have af:m2<ms.length:=by omega
    have bc:m2<n:=by omega
    obtain⟨g3,au,e3,_,k0,k1⟩:=qJ b9.out af;injection e3 with e3;injection e3 with e3 e4;subst e3;subst e4;have ag:Hid (aEK ms k=ms[m2].at_):=hid (by rw[←az];exact pJ af)
    generalize ms[m2].at_=pv at *;clear k1 az
    by_cases h0:at_<pv
    ·have d6:decide (at_<pv)=true:=aC h0
     have hv:Hid ((3:Int)=V):=hid (by rw[a3.out,Y.out (fun h=>by have h9:=(J.out.1 h).2.2.2.1 aj;rw[ag.out]at h9;omega)])
     clear Y a0 J h0
     go_quiet (fail)
     go_wp2_with fail;go_ret;exact⟨congrArg (fun z=>Ending.returned (.int .i64 z)) hv.out,(a2.out.drewN _).1⟩
    have d6:decide (at_<pv)=false:=aB h0;have p5:Hid (0<k→aEK ms k≤at_):=hid (fun _=>by rw[ag.out];omega)
    clear h0 ag
    go_quiet (fail)
    go_wp2_with fail;clear k0 ba b7
    go_loopw [7] (fun j wx=>∃q:Nat,q≤k∧j=.int .i64 q∧Hid (¬(⟨at_,tag⟩:Mk)∈ms.take q)∧Hid (RO w wx #[.string name,.string kinds,.slice (some ⟨g,off,none⟩) n mc]∧bT wx bm 101 #[.int .i64 at_,.string tag])) (fun j _=>k-(intOf j).toNat)
    case atStart=>exact⟨0,by omega,rfl,hid (by simp),hid ⟨a2.out.drewN _,aa.out.kept ((Fr.refl [] W).drewN _) (by simp)⟩⟩
    case round=>
     obtain⟨q,hq,rfl,a4,a1⟩:=hrel
     rename World=>wx
     clear z1 z2 m0 m1
     by_cases b5:q<k
     ·have e2:decide (q<k)=true:=aC b5
      have z2:=a1.out.1.2.cell 2;have m0:=a1.out.2.cell 0;have m1:=a1.out.2.cell 1;have a9:q<ms.length:=by omega
      obtain⟨g3,au,e3,_,k0,k1⟩:=qJ (HM.out wx a1.out.1.1) a9;injection e3 with e3;injection e3 with e3 e4;subst e3;subst e4;simp only[aL,aJ,aK]at z2 m0 m1;have ai:Hid (ms.take (q+1)=ms.take q++[ms[q]]):=hid (by rw[bC a9])
      have ak:Hid (ms[q]∈ms.take k):=hid (List.mem_take_iff_getElem.2 ⟨q,by omega,rfl⟩)
      have bf:q<n:=by omega
      generalize ms[q] = p at *;have EQ:=fun w=>hm.eq p ⟨at_,tag⟩ w
      have GU:=hm.guard
      rcases hs:pW p ⟨at_,tag⟩ with _ | _
      ·have b6:Hid (p=⟨at_,tag⟩→False):=hid (fun e=>by rw[qA.2 e]at hs;cases hs)
       have b4:Hid (¬(⟨at_,tag⟩:Mk)∈ms.take (q+1)):=hid (fun h=>by
        rw[ai.out]at h
        rcases List.mem_append.1 h with h | h
        ·exact a4.out h
        ·exact b6.out (aD.1 h).symm)
       rw[hs]at EQ;obtain⟨pa,pt⟩:=p;unfold mkV at EQ;dsimp only at k0 k1 EQ;clear hs ai ak b6 a4 a9;go_wp2_with fail
       go_quiet (fail)
       go_wp2_with fail
       go_roundw
       case rel=>exact⟨q+1,by omega,by go_num,b4,hid ⟨a1.out.1.drewN _,a1.out.2.kept ((Fr.refl [] wx).drewN _) (by simp)⟩⟩
       case measure=>simp[intOf];omega
      ·have b1:=hid (qA.1 hs)
       have hv:Hid ((3:Int)=V):=hid (by rw[a3.out,Y.out (fun h=>(J.out.1 h).2.2.2.2 (b1.out ▸ ak.out))])
       rw[hs]at EQ;obtain⟨pa,pt⟩:=p;unfold mkV at EQ;dsimp only at k0 k1 EQ;clear hs ai ak b1 a4 a9 Y a0 J;go_wp2_with fail
       go_quiet (fail)
       go_wp2_with fail;go_ret;exact⟨congrArg (fun z=>Ending.returned (.int .i64 z)) hv.out,(a1.out.1.drewN _).1⟩
     ·obtain rfl:q=k:=by omega
      have e2:decide (q<q)=false:=aB (by omega)
      have a5:=hid (a0.out (by rw[a8.out];exact J.out.2 ⟨p1.out,p2.out,p4.out,p5.out,a4.out⟩))
      clear Y a0 J a8;go_wp2_with fail
      go_roundw
      case rel=>exact⟨q+1,by omega,by go_num,a5,hid a1.out.1⟩
      case measure=>simp[intOf];omega
  ·obtain rfl:k=n:=by omega
   have e1:decide ((k:Int)<(k:Int))=false:=aB (by omega)
   have hv:Hid ((0:Int)=V):=hid (by rw[a3.out,aEA (by rw[←hN.out];exact ah.out)])
   go_wp2_with fail;go_ret;exact⟨congrArg (fun z=>Ending.returned (.int .i64 z)) hv.out,a6.out.1⟩
end sy
end Go.Proofs.YtdmmkjijgoiecaaGreatDoor
