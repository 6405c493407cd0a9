import Derived.Test.YtlkboeajkgbnaaaGreatDoorC27
set_option linter.all false
set_option maxHeartbeats 4000000
namespace Go.Proofs.YtlkboeajkgbnaaaGreatDoor
open Lib(hid)
set_option maxHeartbeats 16000000
set_option maxRecDepth 100000
namespace sy
open RowKit mem
def ad(a b:Int):Int:=wrap64 (a+b)
def ten(a:Int):Int:=wrap64 (10 * a)
def gTxt:List ByteArray→Nat→Int→Int
 | [],_,n=>n
 | m :: r,k,n=>if k<100 then gTxt r (k+1) (ad n m.size) else n
def o1(o:SO)(n:Int):Int:=ad (ad (ad n o.name.size) o.kinds.size) (ten o.marks.length)
def f1(f:SF)(n:Int):Int:=ad (ad (ad n f.name.size) f.kinds.size) f.ret.size
def c1(c:SC)(n:Int):Int:=ad (ad (ad (ad n c.a.size) c.b.size) c.tag.size) (ten c.args.length)
def oN(o:SO)(n:Int):Int:=gTxt (o.marks.map (·.tag)) 0 (o1 o n)
def cN(c:SC)(n:Int):Int:=gTxt c.args 0 (c1 c n)
def gAll{α:Type}(f:α→Int→Int)(B:Int):List α→Int→Option Int
 | [],n=>some n
 | x :: r,n=>if B<f x n then none else gAll f B r (f x n)
def greatB(s:SS)(most:Int):Bool:=decide (most<s.objs.length)||(decide (most<s.fns.length)||(decide (most<s.cons.length)||(((gAll oN 30000 s.objs 0).bind fun n=>(gAll f1 30000 s.fns n).bind fun n=>gAll cN 60000 s.cons n).isNone)))
theorem gTxt_step{l:List ByteArray}{j:Nat}(hj:j<l.length)(h:j<100)(n:Int):gTxt (l.drop j) j n=gTxt (l.drop (j+1)) (j+1) (ad n l[j].size):=by
 rw[List.drop_eq_getElem_cons hj,gTxt,if_pos h]
theorem gTxt_end{l:List ByteArray}(n:Int):gTxt (l.drop l.length) l.length n=n:=by
 rw[List.drop_length];rfl
theorem gTxt_hundred{l:List ByteArray}{j:Nat}(h:¬j<100)(n:Int):gTxt (l.drop j) j n=n:=by
 cases l.drop j with
 | nil=>rfl
 | cons a r=>rw[gTxt,if_neg h]
theorem gAll_step{α:Type}{f:α→Int→Int}{B:Int}{l:List α}{k:Nat}(hk:k<l.length)(n:Int):gAll f B (l.drop k) n=if B<f l[k] n then none else gAll f B (l.drop (k+1)) (f l[k] n):=by
 rw[List.drop_eq_getElem_cons hk];rfl
theorem gAll_end{α:Type}{f:α→Int→Int}{B:Int}{l:List α}(n:Int):gAll f B (l.drop l.length) n=some n:=by
 rw[List.drop_length];rfl
theorem great_any(s:MS)(most:Int)(w:World)(hs:SysM w s):Calls Tryz.prog 22 #[s.val,.int .i64 most] w (BPost (greatB s.sys most) w):=by
 have HO:=hid (fun W (hb:Below w.heap.size w W)=>hs.o.below hb);have HF:=hid (fun W (hb:Below w.heap.size w W)=>hs.f.below hb);have HC:=hid (fun W (hb:Below w.heap.size w W)=>hs.c.below hb);have HM:Hid (∀W,Below w.heap.size w W→∀x∈s.os,Tbl W x.mA 2 (x.o.marks.map mkRow)):=hid (fun W hb x hx=>((hs.ok x hx).below hb).m);have HG:Hid (∀W,Below w.heap.size w W→∀x∈s.cs,Rd W x.aA (x.c.args.map Value.string)):=hid (fun W hb x hx=>((hs.ck x hx).below hb).g);have HML:Hid (∀x∈s.os,x.o.marks.length≤maxLen):=hid (fun x hx=>(hs.ok x hx).ml);have HGL:Hid (∀x∈s.cs,x.c.args.length≤maxLen):=hid (fun x hx=>(hs.ck x hx).gl);have hol:=hs.ol;have hfl:=hs.fl;have hcl:=hs.cl;unfold maxLen at hol hfl hcl HML HGL;clear hs;unfold BPost;obtain⟨oA,oc,os,fA,fc,fs,cA,cc,cs⟩:=s;unfold MS.val MS.sys;dsimp only at *;obtain⟨no,hNo⟩:∃n,Hid (n=os.length):=⟨_,hid rfl⟩;obtain⟨nf,hNf⟩:∃n,Hid (n=fs.length):=⟨_,hid rfl⟩;obtain⟨nc,hNc⟩:∃n,Hid (n=cs.length):=⟨_,hid rfl⟩
 obtain⟨V,hV⟩:∃V,Hid (V=greatB ⟨os.map (·.o),fs,cs.map (·.c)⟩ most):=⟨_,hid rfl⟩;rw[←hV.out,←hNo.out,←hNf.out,←hNc.out];rw[←hNo.out]at hol;rw[←hNf.out]at hfl;rw[←hNc.out]at hcl;obtain⟨L,hL⟩:∃L,Hid (L=cs.map (·.c)):=⟨_,hid rfl⟩;have hLn:Hid (L.length=nc):=hid (by rw[hL.out,List.length_map];exact hNc.out.symm);obtain⟨M,hM⟩:∃M,Hid (M=os.map (·.o)):=⟨_,hid rfl⟩;have hMn:Hid (M.length=no):=hid (by rw[hM.out,List.length_map];exact hNo.out.symm)
 have hV1:Hid (V=(decide (most<(no:Int))||(decide (most<(nf:Int))||(decide (most<(nc:Int))||(((gAll oN 30000 (M.drop 0) 0).bind fun n=>(gAll f1 30000 (fs.drop 0) n).bind fun n=>gAll cN 60000 (L.drop 0) n).isNone))))):=hid (by
  rw[hV.out,hL.out,hM.out];unfold greatB;dsimp only;rw[List.length_map,List.length_map,←hNo.out,←hNf.out,←hNc.out]
  rfl)
 clear hV;go_enter Tryz.func22,Tryz.ntmps22;have X2:=hid (SR.new w #[.slice oA no oc,.slice fA nf fc,.slice cA nc cc]);by_cases h0:most<(no:Int)
 ·have d0:decide (most<(no:Int))=true:=decide_eq_true h0
  have q:=hid d0;have hv:Hid (true=V):=hid (by rw[hV1.out,q.out];simp);clear h0;go_wp2_with fail;go_ret;exact⟨congrArg (fun z=>Ending.returned (.bool z)) hv.out,X2.out.1⟩
 have d0:decide (most<(no:Int))=false:=decide_eq_false h0;have q0:=hid d0;clear h0;by_cases h1:most<(nf:Int)
 ·have d1:decide (most<(nf:Int))=true:=decide_eq_true h1
  have q:=hid d1;have hv:Hid (true=V):=hid (by rw[hV1.out,q0.out,q.out];simp);clear h1;go_wp2_with fail;go_ret;exact⟨congrArg (fun z=>Ending.returned (.bool z)) hv.out,X2.out.1⟩
 have d1:decide (most<(nf:Int))=false:=decide_eq_false h1;have q1:=hid d1;clear h1;by_cases h2:most<(nc:Int)
 ·have d2:decide (most<(nc:Int))=true:=decide_eq_true h2
  have q:=hid d2;have hv:Hid (true=V):=hid (by rw[hV1.out,q0.out,q1.out,q.out];simp);clear h2;go_wp2_with fail;go_ret;exact⟨congrArg (fun z=>Ending.returned (.bool z)) hv.out,X2.out.1⟩
 have d2:decide (most<(nc:Int))=false:=decide_eq_false h2;have q2:=hid d2;clear h2;have hV2:Hid (V=((gAll oN 30000 (M.drop 0) 0).bind fun n=>(gAll f1 30000 (fs.drop 0) n).bind fun n=>gAll cN 60000 (L.drop 0) n).isNone):=hid (by rw[hV1.out,q0.out,q1.out,q2.out];rfl);clear hV1 q0 q1 q2;have s0:=X2.out.2.cell 0;simp only[List.getElem?_toArray,List.getElem?_cons_zero,List.getElem?_cons_succ]at s0;go_wp2_with fail;clear s0 d0 d1 d2;go_loopw [5,6] (fun v i wr=>∃(k:Nat) (z:Int),k≤no∧i=.int .i64 k∧v=.int .i64 z∧Hid (V=((gAll oN 30000 (M.drop k) z).bind fun n=>(gAll f1 30000 (fs.drop 0) n).bind fun n=>gAll cN 60000 (L.drop 0) n).isNone)∧Hid (SR w wr #[.slice oA no oc,.slice fA nf fc,.slice cA nc cc])) (fun _ i _=>no-(intOf i).toNat)
 case atStart=>exact⟨0,0,by omega,rfl,rfl,hV2,X2⟩
 case round=>
  obtain⟨k,z,hk,rfl,rfl,hG,HX⟩:=hrel;clear hV2 X2
  rename World=>wr
  have s0:=HX.out.2.cell 0;simp only[List.getElem?_toArray,List.getElem?_cons_zero,List.getElem?_cons_succ]at s0;by_cases hkl:k<no
  ·have e1:decide ((k:Int)<(no:Int))=true:=decide_eq_true (by omega)
   have hkx:k<os.length:=by rw[←hNo.out];exact hkl
   have hkM:k<M.length:=by rw[hMn.out];exact hkl
   obtain⟨g,off,rfl,hg,c0,c1,c2⟩:=tbl_obj (HO.out wr HX.out.1) hkx
   have hLe:Hid (M[k] = os[k].o):=hid (by
    have e:M[k]? = some os[k].o:=by rw[hM.out,List.getElem?_map,List.getElem?_eq_getElem hkx];rfl
    rw[List.getElem?_eq_getElem hkM]at e
    exact Option.some.inj e)
   have hst:=hid (gAll_step (f:=oN) (B:=30000) hkM z);rw[hLe.out]at hst;have HMk:=hid (fun W hb=>HM.out W hb os[k] (List.getElem_mem hkx))
   have HK:Hid (∀W,Below w.heap.size w W→W.cell? ⟨g,off+k * 3+2,none⟩=some (.slice os[k].mA os[k].o.marks.length os[k].mc)):=hid (fun W hb=>by
    obtain⟨g',o',e',_,_,_,c⟩:=tbl_obj (HO.out W hb) hkx;injection e' with e';injection e' with e1' e2';subst e1';subst e2'
    exact c)
   have hmk:=HML.out os[k] (List.getElem_mem hkx);clear hLe hkM;generalize os[k] = x at *;obtain⟨⟨xn,xk,xm⟩,xA,xc⟩:=x;dsimp only at *;obtain⟨ml,hml⟩:∃n,Hid (n=xm.length):=⟨_,hid rfl⟩;have HK2:Hid (∀W,Below w.heap.size w W→W.cell? ⟨g,off+k * 3+2,none⟩=some (.slice xA ml xc)):=hid (fun W hb=>by rw[hml.out];exact HK.out W hb);clear HK;rw[←hml.out]at hmk c2;obtain⟨zn,hzn⟩:∃z2,Hid (z2=oN ⟨xn,xk,xm⟩ z):=⟨_,hid rfl⟩;rw[←hzn.out]at hst;have hzi:Hid (zn=gTxt ((xm.map (·.tag)).drop 0) 0 (ad (ad (ad z xn.size) xk.size) (ten ml))):=hid (by rw[hzn.out,hml.out];rfl);clear hzn;go_wp2_with fail;go_quiet (fail);have HX1:=hid (HX.out.drewN nq);clear s0 c0 c1 c2 HX;go_wp2_with fail;go_loopw [5,7] (fun v i wx=>∃(j:Nat) (y:Int),j≤ml∧i=.int .i64 j∧v=.int .i64 y∧Hid (zn=gTxt ((xm.map (·.tag)).drop j) j y)∧Hid (SR w wx #[.slice (some ⟨g,off,none⟩) no oc,.slice fA nf fc,.slice cA nc cc])) (fun _ i _=>ml-(intOf i).toNat)
   case atStart=>exact⟨0,_,by omega,rfl,rfl,hzi,HX1⟩
   case round=>
    obtain⟨j,y,hj,rfl,rfl,hT,HX5⟩:=hrel;clear hzi HX1
    rename World=>wx
    have s0:=HX5.out.2.cell 0;simp only[List.getElem?_toArray,List.getElem?_cons_zero,List.getElem?_cons_succ]at s0;have k2:=HK2.out wx HX5.out.1;by_cases hjl:j<ml
    ·have e2:decide ((j:Int)<(ml:Int))=true:=decide_eq_true (by omega)
     have hjx:j<xm.length:=by rw[←hml.out];exact hjl
     have hjT:j<(xm.map (·.tag)).length:=by rw[List.length_map];exact hjx
     by_cases hj1:j<100
     ·have e3:decide ((j:Int)<100)=true:=decide_eq_true (by omega)
      obtain⟨g6,o6,rfl,hg6,m0,m1⟩:=tbl_mk (HMk.out wx HX5.out.1) hjx;have hT2:Hid (zn=gTxt ((xm.map (·.tag)).drop (j+1)) (j+1) (ad y xm[j].tag.size)):=hid (by rw[hT.out,gTxt_step hjT hj1,List.getElem_map]);clear hT hjT;generalize xm[j] = mj at *;obtain⟨ma,mt⟩:=mj;dsimp only at *;go_wp2_with fail
      try go_quiet (fail)
      go_wp2_with fail;go_roundw
      case rel=>exact⟨j+1,_,by omega,by go_num,rfl,hT2,HX5⟩
      case measure=>simp[intOf];omega
     ·have e3:decide ((j:Int)<100)=false:=decide_eq_false (by omega)
      have hy:Hid (zn=y):=hid (by rw[hT.out,gTxt_hundred hj1]);clear hT hjT;by_cases hb:30000<y
      ·have db:decide ((30000:Int)<y)=true:=decide_eq_true hb
       have hv:Hid (true=V):=hid (by rw[hG.out,hst.out,hy.out,if_pos hb];rfl);go_wp2_with fail;go_ret;exact⟨congrArg (fun z=>Ending.returned (.bool z)) hv.out,HX5.out.1⟩
      ·have db:decide ((30000:Int)<y)=false:=decide_eq_false hb
       have hG2:Hid (V=((gAll oN 30000 (M.drop (k+1)) y).bind fun n=>(gAll f1 30000 (fs.drop 0) n).bind fun n=>gAll cN 60000 (L.drop 0) n).isNone):=hid (by rw[hG.out,hst.out,hy.out,if_neg hb]);have hbn:=Int.not_lt.mp hb;go_wp2_with fail;go_roundw
       case rel=>exact⟨k+1,y,by omega,by go_num,rfl,hG2,HX5⟩
       case measure=>simp[intOf];omega
    ·have e2:decide ((j:Int)<(ml:Int))=false:=decide_eq_false (by omega)
     have hy:Hid (zn=y):=hid (by
      obtain rfl:j=ml:=by omega
      rw[hT.out];have e:(xm.map (·.tag)).length=j:=by rw[List.length_map,hml.out]
      have:=gTxt_end (l:=xm.map (·.tag)) y;rw[e]at this
      exact this)
     clear hT;by_cases hb:30000<y
     ·have db:decide ((30000:Int)<y)=true:=decide_eq_true hb
      have hv:Hid (true=V):=hid (by rw[hG.out,hst.out,hy.out,if_pos hb];rfl);go_wp2_with fail;go_ret;exact⟨congrArg (fun z=>Ending.returned (.bool z)) hv.out,HX5.out.1⟩
     ·have db:decide ((30000:Int)<y)=false:=decide_eq_false hb
      have hG2:Hid (V=((gAll oN 30000 (M.drop (k+1)) y).bind fun n=>(gAll f1 30000 (fs.drop 0) n).bind fun n=>gAll cN 60000 (L.drop 0) n).isNone):=hid (by rw[hG.out,hst.out,hy.out,if_neg hb]);have hbn:=Int.not_lt.mp hb;go_wp2_with fail;go_roundw
      case rel=>exact⟨k+1,y,by omega,by go_num,rfl,hG2,HX5⟩
      case measure=>simp[intOf];omega
  ·obtain rfl:no=k:=by omega
   have e1:decide ((no:Int)<(no:Int))=false:=decide_eq_false (by omega)
   have hV2:Hid (V=((gAll f1 30000 (fs.drop 0) z).bind fun n=>gAll cN 60000 (L.drop 0) n).isNone):=hid (by
    rw[hG.out];have:=gAll_end (f:=oN) (B:=30000) (l:=M) z;rw[hMn.out]at this;rw[this]
    rfl)
   clear hG;have s1:=HX.out.2.cell 1;simp only[List.getElem?_toArray,List.getElem?_cons_zero,List.getElem?_cons_succ]at s1;go_wp2_with fail;clear s0 s1;go_loopw [5,8] (fun v i wx=>∃(k:Nat) (z:Int),k≤nf∧i=.int .i64 k∧v=.int .i64 z∧Hid (V=((gAll f1 30000 (fs.drop k) z).bind fun n=>gAll cN 60000 (L.drop 0) n).isNone)∧Hid (SR w wx #[.slice oA no oc,.slice fA nf fc,.slice cA nc cc])) (fun _ i _=>nf-(intOf i).toNat)
   case atStart=>exact⟨0,z,by omega,rfl,rfl,hV2,HX⟩
   case round=>
    obtain⟨k,z2,hk2,rfl,rfl,hG,HX2⟩:=hrel;clear hV2 HX
    rename World=>wr2
    have s1:=HX2.out.2.cell 1;simp only[List.getElem?_toArray,List.getElem?_cons_zero,List.getElem?_cons_succ]at s1;by_cases hkl:k<nf
    ·have e1:decide ((k:Int)<(nf:Int))=true:=decide_eq_true (by omega)
     have hkx:k<fs.length:=by rw[←hNf.out];exact hkl
     obtain⟨g,off,rfl,hg,c0,c1,c2⟩:=tbl_fn (HF.out wr2 HX2.out.1) hkx;have hst:=hid (gAll_step (f:=f1) (B:=30000) hkx z2);generalize fs[k] = x at *;obtain⟨xn,xk,xr⟩:=x;dsimp only at *;obtain⟨zn,hzn⟩:∃z9,Hid (z9=f1 ⟨xn,xk,xr⟩ z2):=⟨_,hid rfl⟩;rw[←hzn.out]at hst;have hzi:Hid (wrap64 (wrap64 (wrap64 (z2+xn.size)+xk.size)+xr.size)=zn):=hid (by rw[hzn.out];rfl);clear hzn;go_wp2_with fail;go_quiet (fail);simp only[IntWalk.i64_left,hzi.out];have HX5:=hid (HX2.out.drewN nq);clear s1 c0 c1 c2 HX2;by_cases hb:30000<zn
     ·have db:decide ((30000:Int)<zn)=true:=decide_eq_true hb
      have hv:Hid (true=V):=hid (by rw[hG.out,hst.out,if_pos hb];rfl);go_wp2_with fail;go_ret;exact⟨congrArg (fun z=>Ending.returned (.bool z)) hv.out,HX5.out.1⟩
     ·have db:decide ((30000:Int)<zn)=false:=decide_eq_false hb
      have hG2:Hid (V=((gAll f1 30000 (fs.drop (k+1)) zn).bind fun n=>gAll cN 60000 (L.drop 0) n).isNone):=hid (by rw[hG.out,hst.out,if_neg hb]);have hbn:=Int.not_lt.mp hb;go_wp2_with fail;go_roundw
      case rel=>exact⟨k+1,zn,by omega,by go_num,rfl,hG2,HX5⟩
      case measure=>simp[intOf];omega
    ·obtain rfl:nf=k:=by omega
     have e1:decide ((nf:Int)<(nf:Int))=false:=decide_eq_false (by omega)
     have hV3:Hid (V=(gAll cN 60000 (L.drop 0) z2).isNone):=hid (by
      rw[hG.out];have:=gAll_end (f:=f1) (B:=30000) (l:=fs) z2;rw[←hNf.out]at this;rw[this]
      rfl)
     clear hG;have s2:=HX2.out.2.cell 2;simp only[List.getElem?_toArray,List.getElem?_cons_zero,List.getElem?_cons_succ]at s2;go_wp2_with fail;clear s1 s2;go_loopw [5,9] (fun v i wx=>∃(k:Nat) (z:Int),k≤nc∧i=.int .i64 k∧v=.int .i64 z∧Hid (V=(gAll cN 60000 (L.drop k) z).isNone)∧Hid (SR w wx #[.slice oA no oc,.slice fA nf fc,.slice cA nc cc])) (fun _ i _=>nc-(intOf i).toNat)
     case atStart=>exact⟨0,z2,by omega,rfl,rfl,hV3,HX2⟩
     case round=>
      obtain⟨k,z3,hk3,rfl,rfl,hG,HX3⟩:=hrel;clear hV3 HX2
      rename World=>wr3
      have s2:=HX3.out.2.cell 2;simp only[List.getElem?_toArray,List.getElem?_cons_zero,List.getElem?_cons_succ]at s2;by_cases hkl:k<nc
      ·have e1:decide ((k:Int)<(nc:Int))=true:=decide_eq_true (by omega)
       have hkx:k<cs.length:=by rw[←hNc.out];exact hkl
       have hkL:k<L.length:=by rw[hLn.out];exact hkl
       obtain⟨g,off,rfl,hg,c0,c1,c2,c3,c4,c5⟩:=tbl_con (HC.out wr3 HX3.out.1) hkx
       have hLe:Hid (L[k] = cs[k].c):=hid (by
        have e:L[k]? = some cs[k].c:=by rw[hL.out,List.getElem?_map,List.getElem?_eq_getElem hkx];rfl
        rw[List.getElem?_eq_getElem hkL]at e
        exact Option.some.inj e)
       have hst:=hid (gAll_step (f:=cN) (B:=60000) hkL z3);rw[hLe.out]at hst;have HGk:=hid (fun W hb=>HG.out W hb cs[k] (List.getElem_mem hkx));have hgk:=HGL.out cs[k] (List.getElem_mem hkx);clear hLe hkL;generalize cs[k] = x at *;obtain⟨⟨xo,xa,xb,xk,xt,xg⟩,xA,xc⟩:=x;dsimp only at *;obtain⟨gl,hgl⟩:∃n,Hid (n=xg.length):=⟨_,hid rfl⟩;rw[←hgl.out]at hgk c5;obtain⟨zn,hzn⟩:∃z9,Hid (z9=cN ⟨xo,xa,xb,xk,xt,xg⟩ z3):=⟨_,hid rfl⟩;rw[←hzn.out]at hst;have hzi:Hid (zn=gTxt (xg.drop 0) 0 (ad (ad (ad (ad z3 xa.size) xb.size) xt.size) (ten gl))):=hid (by rw[hzn.out,hgl.out];rfl);clear hzn;have HX4:=hid (HX3.out.alloc (.cells #[.int .i64 xo,.string xa,.string xb,.int .i64 xk,.string xt,.slice xA gl xc] 103));have HB4:=hid (Box.new wr3 103 #[.int .i64 xo,.string xa,.string xb,.int .i64 xk,.string xt,.slice xA gl xc]);go_upto_region 24 with fail;generalize hW:wr3.alloc (.cells #[.int .i64 xo,.string xa,.string xb,.int .i64 xk,.string xt,.slice xA gl xc] 103)=W at *
       clear hW c0 c1 c2 c3 c4 c5 s2 HX3;generalize wr3.heap.size=bm at *;have b1:=HB4.out.cell 1;have b2:=HB4.out.cell 2;have b4:=HB4.out.cell 4;have b5:=HB4.out.cell 5;simp only[List.getElem?_toArray,List.getElem?_cons_zero,List.getElem?_cons_succ]at b1 b2 b4 b5;go_wp2_with fail;clear b1 b2 b4 b5;go_loopw [5,11] (fun v i wx=>∃(j:Nat) (y:Int),j≤gl∧i=.int .i64 j∧v=.int .i64 y∧Hid (zn=gTxt (xg.drop j) j y)∧Hid (Box wx bm 103 #[.int .i64 xo,.string xa,.string xb,.int .i64 xk,.string xt,.slice xA gl xc])∧Hid (SR w wx #[.slice oA no oc,.slice fA nf fc,.slice (some ⟨g,off,none⟩) nc cc])) (fun _ i _=>gl-(intOf i).toNat)
       case atStart=>exact⟨0,_,by omega,rfl,rfl,hzi,HB4,HX4⟩
       case round=>
        obtain⟨j,y,hj,rfl,rfl,hT,HB5,HX5⟩:=hrel;clear hzi HX4 HB4
        rename World=>wx
        have b5:=HB5.out.cell 5;simp only[List.getElem?_toArray,List.getElem?_cons_zero,List.getElem?_cons_succ]at b5;by_cases hjl:j<gl
        ·have e2:decide ((j:Int)<(gl:Int))=true:=decide_eq_true (by omega)
         have hjx:j<xg.length:=by rw[←hgl.out];exact hjl
         by_cases hj1:j<100
         ·have e3:decide ((j:Int)<100)=true:=decide_eq_true (by omega)
          obtain⟨g6,o6,rfl,_,hc6⟩:=(HGk.out wx HX5.out.1) (by rw[List.length_map];omega);have c6:=hc6 j (by rw[List.length_map];exact hjx);rw[List.getElem_map]at c6;clear hc6;have hT2:Hid (zn=gTxt (xg.drop (j+1)) (j+1) (ad y xg[j].size)):=hid (by rw[hT.out,gTxt_step hjx hj1]);clear hT;generalize xg[j] = mt at *;go_wp2_with fail;go_roundw
          case rel=>exact⟨j+1,_,by omega,by go_num,rfl,hT2,HB5,HX5⟩
          case measure=>simp[intOf];omega
         ·have e3:decide ((j:Int)<100)=false:=decide_eq_false (by omega)
          have hy:Hid (zn=y):=hid (by rw[hT.out,gTxt_hundred hj1]);clear hT;by_cases hb:60000<y
          ·have db:decide ((60000:Int)<y)=true:=decide_eq_true hb
           have hv:Hid (true=V):=hid (by rw[hG.out,hst.out,hy.out,if_pos hb];rfl);go_wp2_with fail;go_ret;exact⟨congrArg (fun z=>Ending.returned (.bool z)) hv.out,HX5.out.1⟩
          ·have db:decide ((60000:Int)<y)=false:=decide_eq_false hb
           have hG2:Hid (V=(gAll cN 60000 (L.drop (k+1)) y).isNone):=hid (by rw[hG.out,hst.out,hy.out,if_neg hb]);have hbn:=Int.not_lt.mp hb;go_wp2_with fail;go_roundw
           case rel=>exact⟨k+1,y,by omega,by go_num,rfl,hG2,HX5⟩
           case measure=>simp[intOf];omega
        ·have e2:decide ((j:Int)<(gl:Int))=false:=decide_eq_false (by omega)
         have hy:Hid (zn=y):=hid (by
          obtain rfl:j=gl:=by omega
          rw[hT.out];have:=gTxt_end (l:=xg) y;rw[←hgl.out]at this
          exact this)
         clear hT;by_cases hb:60000<y
         ·have db:decide ((60000:Int)<y)=true:=decide_eq_true hb
          have hv:Hid (true=V):=hid (by rw[hG.out,hst.out,hy.out,if_pos hb];rfl);go_wp2_with fail;go_ret;exact⟨congrArg (fun z=>Ending.returned (.bool z)) hv.out,HX5.out.1⟩
         ·have db:decide ((60000:Int)<y)=false:=decide_eq_false hb
          have hG2:Hid (V=(gAll cN 60000 (L.drop (k+1)) y).isNone):=hid (by rw[hG.out,hst.out,hy.out,if_neg hb]);have hbn:=Int.not_lt.mp hb;go_wp2_with fail;go_roundw
          case rel=>exact⟨k+1,y,by omega,by go_num,rfl,hG2,HX5⟩
          case measure=>simp[intOf];omega
      ·obtain rfl:nc=k:=by omega
       have e1:decide ((nc:Int)<(nc:Int))=false:=decide_eq_false (by omega)
       have hv:Hid (false=V):=hid (by
        rw[hG.out];have:=gAll_end (f:=cN) (B:=60000) (l:=L) z3;rw[hLn.out]at this;rw[this]
        rfl)
       clear hG;go_wp2_with fail;go_ret;exact⟨congrArg (fun z=>Ending.returned (.bool z)) hv.out,HX3.out.1⟩
end sy
set_option maxHeartbeats 8000000
namespace sy
open RowKit mem
open nm (Nd readB cand rread_no rread_yes ReadNo ReadYes)
theorem rread_obj(s:ByteArray)(hs:s.size≤maxLen):∃(d:Nd) (e0:Int),Hid (objB s=(decide (e0=0)&&(decide (5≤d.kind)&&decide (d.cell<0))))∧∀w,Calls Tryz.prog 83 #[.string s] w (RdPost d e0 w):=by
 rcases hr:readB s with _ | _
 ·have h1:objB s=false:=by
   unfold objB;rw[hr];rfl
  have h2:∀w,Calls Tryz.prog 83 #[.string s] w (ReadNo w):=fun w=>rread_no s w hs hr
  rw[h1];obtain⟨d,hd⟩:∃d:Nd,d=⟨0,⟨#[]⟩,0,⟨#[]⟩,0,0⟩:=⟨_,rfl⟩;refine⟨d,11,hid rfl,fun w=>?_⟩;have h:=h2 w;unfold RdPost;rw[hd];unfold ReadNo at h;exact h
 ·have h1:objB s=(decide ((0:Int)=0)&&(decide (5≤(cand s).kind)&&decide ((cand s).cell<0))):=by
   unfold objB;rw[hr];rfl
  have h2:∀w,Calls Tryz.prog 83 #[.string s] w fun e w'=>e=.returned (.tuple #[(cand s).val,.int .i64 0])∧Below w.heap.size w w':=fun w=>rread_yes s w hs hr
  generalize cand s=d at h1 h2;exact⟨d,0,hid h1,h2⟩
theorem mk_parts{ms:List Mk}{n k:Nat}(hk:k<ms.length)(hok:mksOk ms n k):mkGood ms n k ms[k]↔(0≤ms[k].at_∧ms[k].at_<n∧tagB ms[k].tag=true∧(0<k→atOf ms k≤ms[k].at_)∧ms[k]∉ms.take k):=by
 rw[mk_step hk hok];constructor
 ·rintro⟨h1,h2,h3,h4⟩
  refine⟨?_,h3,h4,fun _=>h2,h1⟩;cases k with
  | zero=>exact h2
  | succ q=>
   rw[atOf_succ (by omega)]at h2;have:=(hok q _ (by omega) (List.getElem?_eq_getElem (by omega))).1;omega
 ·rintro⟨h1,h2,h3,h4,h5⟩
  refine⟨h5,?_,h2,h3⟩;cases k with
  | zero=>exact h1
  | succ q=>exact h4 (by omega)
def RO(w wr:World)(xs:Array Value):Prop:=Below w.heap.size w wr∧Box wr w.heap.size 70 xs
theorem RO.on{w wr w2:World}{xs:Array Value}(h:RO w wr xs)(hb:Below wr.heap.size wr w2):RO w w2 xs:=⟨h.1.trans (hb.mono h.1.size),h.2.kept (Fr.of_below hb []) (by simp)⟩
theorem RO.new(w:World)(xs:Array Value):RO w (w.alloc (.cells xs 70)) xs:=⟨((Fr.refl [] w).alloc _).all,Box.new w _ xs⟩
theorem RO.alloc{w wr:World}{xs:Array Value}(h:RO w wr xs)(o:Obj):RO w (wr.alloc o) xs:=h.on ((Fr.refl [] wr).alloc o).all
theorem RO.drewN{w wr:World}{xs:Array Value}(h:RO w wr xs)(i:Nat):RO w (wr.drewN i) xs:=h.on ((Fr.refl [] wr).drewN i).all
theorem robject_any(hm:HeldM)(x:MO)(w:World)(hx:MOk w x):Calls Tryz.prog 79 #[.agg x.row.toArray] w (IPost (objE x.o) w):=by
 obtain⟨d,e0,hob,hrd⟩:=rread_obj x.o.name hx.n;have HD:=hid hrd;have HK:=hid (fun w=>rkinds_same x.o.kinds 1 64 w hx.k (by decide) (by decide));have HM:=hid (fun w' (hb:Below w.heap.size w w')=>hx.m.below hb);have HTs:Hid (∀m∈x.o.marks,m.tag.size≤maxLen):=hid hx.mt;have hml:=hx.ml;have hkl:=hx.k;unfold maxLen at hml hkl;unfold RdPost at HD;obtain⟨⟨name,kinds,ms⟩,mA,mc⟩:=x;obtain⟨dk,df,dc,dn,dm,dl⟩:=d;unfold MO.row;rw[objE_eq];dsimp only at *;clear hx hrd;unfold IPost;obtain⟨n,hN⟩:∃n,Hid (n=ms.length):=⟨_,hid rfl⟩;rw[←hN.out]at hml ⊢;generalize kindsB kinds 1 64=b2 at *;rw[hob.out];obtain⟨V,hV⟩:∃V:Int,Hid (V=objI (decide (e0=0)&&(decide (5≤dk)&&decide (dl<0))) b2 (mksE ms kinds.size)):=⟨_,hid rfl⟩;rw[←hV.out];clear hob;go_enter Tryz.func79,Tryz.ntmps79;go_wp2_with fail;refine(HD.out _).mono ?_;rintro e w2 ⟨rfl,hb2⟩;have X2:=hid (((RO.new w #[.string name,.string kinds,.slice mA n mc]).on hb2).alloc (.cells #[.int .i64 dk,.string df,.int .i64 dc,.string dn,.int .i64 dm,.int .i64 dl] 121))
 clear hb2 HD;by_cases he:e0=0;rotate_left
 ·have d0:(e0 != 0)=true:=by simpa using he
  have q:=hid (decide_eq_false he);clear he;go_wp2_with fail;go_ret;exact⟨congrArg (fun z=>Ending.returned (.int .i64 z)) (show(11:Int)=V by rw[hV.out,q.out];rfl),X2.out.1⟩
 have d0:(e0 != 0)=false:=by simpa using he
 have q0:=hid (decide_eq_true he);clear he;by_cases h5:5≤dk;rotate_left
 ·have d1:decide (dk<5)=true:=decide_eq_true (by omega)
  have q:=hid (decide_eq_false h5);clear h5;go_wp2_with fail;go_ret;exact⟨congrArg (fun z=>Ending.returned (.int .i64 z)) (show(11:Int)=V by rw[hV.out,q0.out,q.out];rfl),X2.out.1⟩
 have d1:decide (dk<5)=false:=decide_eq_false (by omega);have q1:=hid (decide_eq_true h5);clear h5;by_cases hl:dl<0;rotate_left
 ·have d2:decide (0≤dl)=true:=decide_eq_true (by omega)
  have q:=hid (decide_eq_false hl);clear hl;go_wp2_with fail;go_ret;exact⟨congrArg (fun z=>Ending.returned (.int .i64 z)) (show(11:Int)=V by rw[hV.out,q0.out,q1.out,q.out];rfl),X2.out.1⟩
 have d2:decide (0≤dl)=false:=decide_eq_false (by omega);have hV1:Hid (V=objI true b2 (mksE ms kinds.size)):=hid (by rw[hV.out,q0.out,q1.out,decide_eq_true hl];rfl);clear hl q0 q1 hV;have x1:=X2.out.2.cell 1;simp only[List.getElem?_toArray,List.getElem?_cons_zero,List.getElem?_cons_succ]at x1;go_wp2_with fail;refine(HK.out _).mono ?_;rintro e w3 ⟨rfl,h3⟩;subst h3;rcases b2 with _ | _
 ·go_wp2_with fail
  go_ret;exact⟨congrArg (fun z=>Ending.returned (.int .i64 z)) (show(5:Int)=V by rw[hV1.out];rfl),X2.out.1⟩
 have hV2:Hid (V=mksE ms kinds.size):=hid (by rw[hV1.out];rfl);clear hV1 x1 d0 d1 d2 HK;have hok0:Hid (mksOk ms kinds.size 0):=hid (fun i m hi _=>by omega);go_wp2_with fail;go_loopw [5] (fun i wr=>∃k:Nat,k≤n∧i=.int .i64 k∧Hid (mksOk ms kinds.size k)∧Hid (RO w wr #[.string name,.string kinds,.slice mA n mc])) (fun i _=>n-(intOf i).toNat)
 case atStart=>exact⟨0,by omega,rfl,hok0,X2⟩
 case round=>
  obtain⟨k,hk,rfl,hok,HR1⟩:=hrel;clear hok0 X2
  rename World=>wr
  have y2:=HR1.out.2.cell 2;simp only[List.getElem?_toArray,List.getElem?_cons_zero,List.getElem?_cons_succ]at y2;by_cases hkl:k<n
  ·have e1:decide ((k:Int)<(n:Int))=true:=decide_eq_true (by omega)
   have hkm:k<ms.length:=by rw[←hN.out];exact hkl
   have HMr:=HM.out wr HR1.out.1;obtain⟨g,off,rfl,hg,c0,c1⟩:=tbl_mk HMr hkm;have hstep:=hid (mk_parts hkm hok.out);have hbad:=hid (fun h=>mksE_no (mks_bad (n:=kinds.size) hkm h));have hgood:=hid (fun h=>(mks_succ (n:=kinds.size) hkm).2 ⟨hok.out,h⟩);have htl:=HTs.out ms[k] (List.getElem_mem hkm);obtain⟨m,hmk⟩:∃m,ms[k] = m:=⟨_,rfl⟩;rw[hmk]at hstep hbad htl c0 c1;have HMK:=hid hmk;clear hmk;obtain⟨at_,tag⟩:=m;dsimp only at *;have htl2:(tag.size:Int)≤9223372036854775807:=by unfold maxLen at htl;omega
   clear htl;have HR2:=hid (HR1.out.alloc (.cells #[.int .i64 at_,.string tag] 101));have HB2:=hid (Box.new wr 101 #[.int .i64 at_,.string tag]);have HM2:=hid (HM.out _ HR2.out.1);go_wp2_with fail;generalize hW:wr.alloc (.cells #[.int .i64 at_,.string tag] 101)=W at *;have hlt:=HR1.out.1.size;clear hW c0 c1 y2 HMr;generalize wr.heap.size=bm at *;have z1:=HR2.out.2.cell 1;have z2:=HR2.out.2.cell 2;have m0:=HB2.out.cell 0;have m1:=HB2.out.cell 1;simp only[List.getElem?_toArray,List.getElem?_cons_zero,List.getElem?_cons_succ]at z1 z2 m0 m1;by_cases h0:at_<0
   ·have d1:decide (at_<0)=true:=decide_eq_true h0
    have hv:Hid ((3:Int)=V):=hid (by rw[hV2.out,hbad.out (fun h=>absurd (hstep.out.1 h).1 (by omega))]);clear hbad hgood hstep h0;go_quiet (fail);go_wp2_with fail;go_ret;exact⟨congrArg (fun z=>Ending.returned (.int .i64 z)) hv.out,(HR2.out.drewN _).1⟩
   have d1:decide (at_<0)=false:=decide_eq_false h0;have p1:=hid (Int.not_lt.1 h0);clear h0;by_cases h0:(kinds.size:Int)≤at_
   ·have d2:decide ((kinds.size:Int)≤at_)=true:=decide_eq_true h0
    have hv:Hid ((3:Int)=V):=hid (by rw[hV2.out,hbad.out (fun h=>absurd (hstep.out.1 h).2.1 (by omega))]);clear hbad hgood hstep h0;go_quiet (fail);go_wp2_with fail;go_ret;exact⟨congrArg (fun z=>Ending.returned (.int .i64 z)) hv.out,(HR2.out.drewN _).1⟩
   have d2:decide ((kinds.size:Int)≤at_)=false:=decide_eq_false h0;have p2:=hid (Int.not_le.1 h0);clear h0;by_cases h0:tag.size<1
   ·have d3:decide ((tag.size:Int)<1)=true:=decide_eq_true (by omega)
    have hv:Hid ((3:Int)=V):=hid (by rw[hV2.out,hbad.out (fun h=>by have h9:=(hstep.out.1 h).2.2.1;unfold tagB at h9;simp at h9;omega)]);clear hbad hgood hstep h0;go_quiet (fail);go_wp2_with fail;go_ret;exact⟨congrArg (fun z=>Ending.returned (.int .i64 z)) hv.out,(HR2.out.drewN _).1⟩
   have d3:decide ((tag.size:Int)<1)=false:=decide_eq_false (by omega);have p3:=hid h0;clear h0;by_cases h0:60<tag.size
   ·have d4:decide ((60:Int)<(tag.size:Int))=true:=decide_eq_true (by omega)
    have hv:Hid ((3:Int)=V):=hid (by rw[hV2.out,hbad.out (fun h=>by have h9:=(hstep.out.1 h).2.2.1;unfold tagB at h9;simp at h9;omega)]);clear hbad hgood hstep h0;go_quiet (fail);go_wp2_with fail;go_ret;exact⟨congrArg (fun z=>Ending.returned (.int .i64 z)) hv.out,(HR2.out.drewN _).1⟩
   have d4:decide ((60:Int)<(tag.size:Int))=false:=decide_eq_false (by omega);have p4:Hid (tagB tag=true):=hid (by unfold tagB;rw[decide_eq_true (by have:=p3.out;omega),decide_eq_true (by omega)];rfl);clear h0 p3;rcases Nat.eq_zero_or_pos k with hk0 | hk0
   ·have d5:decide (0<k)=false:=decide_eq_false (by omega)
    have p5:Hid (0<k→atOf ms k≤at_):=hid (fun h=>by omega);go_quiet (fail);go_wp2_with fail;go_loopw [7] (fun j wx=>∃q:Nat,q≤k∧j=.int .i64 q∧Hid (¬(⟨at_,tag⟩:Mk)∈ms.take q)∧Hid (RO w wx #[.string name,.string kinds,.slice (some ⟨g,off,none⟩) n mc]∧Box wx bm 101 #[.int .i64 at_,.string tag])) (fun j _=>k-(intOf j).toNat)
    case atStart=>exact⟨0,by omega,rfl,hid (by simp),hid ⟨HR2.out.drewN _,HB2.out.kept ((Fr.refl [] W).drewN _) (by simp)⟩⟩
    case round=>
     obtain⟨q,hq,rfl,hnm,hst⟩:=hrel
     rename World=>wx
     clear z1 z2 m0 m1;by_cases hqk:q<k
     ·exfalso;omega
     ·obtain rfl:q=k:=by omega
      have e2:decide (q<q)=false:=decide_eq_false (by omega);have hok2:=hid (hgood.out (by rw[HMK.out];exact hstep.out.2 ⟨p1.out,p2.out,p4.out,p5.out,hnm.out⟩));clear hbad hgood hstep HMK;go_wp2_with fail;go_roundw
      case rel=>exact⟨q+1,by omega,by go_num,hok2,hid hst.out.1⟩
      case measure=>simp[intOf];omega
   ·have d5:decide (0<k)=true:=decide_eq_true hk0
    obtain⟨m2,hm2⟩:∃m2,m2+1=k:=⟨k-1,by omega⟩;have hjm:(k:Int)-1=(m2:Int):=by omega
    have hwm:IntKind.i64.wrap (m2:Int)=(m2:Int):=IntWalk.i64_in _ (by omega);have hm2m:m2<ms.length:=by omega
    have hm2n:m2<n:=by omega
    obtain⟨g3,off3,e3,_,k0,k1⟩:=tbl_mk HM2.out hm2m;injection e3 with e3;injection e3 with e3 e4;subst e3;subst e4;have hpv:Hid (atOf ms k=ms[m2].at_):=hid (by rw[←hm2];exact atOf_succ hm2m);generalize ms[m2].at_=pv at *;clear k1 hm2;by_cases h0:at_<pv
    ·have d6:decide (at_<pv)=true:=decide_eq_true h0
     have hv:Hid ((3:Int)=V):=hid (by rw[hV2.out,hbad.out (fun h=>by have h9:=(hstep.out.1 h).2.2.2.1 hk0;rw[hpv.out]at h9;omega)]);clear hbad hgood hstep h0;go_quiet (fail);go_wp2_with fail;go_ret;exact⟨congrArg (fun z=>Ending.returned (.int .i64 z)) hv.out,(HR2.out.drewN _).1⟩
    have d6:decide (at_<pv)=false:=decide_eq_false h0;have p5:Hid (0<k→atOf ms k≤at_):=hid (fun _=>by rw[hpv.out];omega);clear h0 hpv;go_quiet (fail);go_wp2_with fail;clear k0 hjm hwm;go_loopw [7] (fun j wx=>∃q:Nat,q≤k∧j=.int .i64 q∧Hid (¬(⟨at_,tag⟩:Mk)∈ms.take q)∧Hid (RO w wx #[.string name,.string kinds,.slice (some ⟨g,off,none⟩) n mc]∧Box wx bm 101 #[.int .i64 at_,.string tag])) (fun j _=>k-(intOf j).toNat)
    case atStart=>exact⟨0,by omega,rfl,hid (by simp),hid ⟨HR2.out.drewN _,HB2.out.kept ((Fr.refl [] W).drewN _) (by simp)⟩⟩
    case round=>
     obtain⟨q,hq,rfl,hnm,hst⟩:=hrel
     rename World=>wx
     clear z1 z2 m0 m1;by_cases hqk:q<k
     ·have e2:decide (q<k)=true:=decide_eq_true hqk
      have z2:=hst.out.1.2.cell 2;have m0:=hst.out.2.cell 0;have m1:=hst.out.2.cell 1;have hqm:q<ms.length:=by omega
      obtain⟨g3,off3,e3,_,k0,k1⟩:=tbl_mk (HM.out wx hst.out.1.1) hqm;injection e3 with e3;injection e3 with e3 e4;subst e3;subst e4;simp only[List.getElem?_toArray,List.getElem?_cons_zero,List.getElem?_cons_succ]at z2 m0 m1;have htk:Hid (ms.take (q+1)=ms.take q++[ms[q]]):=hid (by rw[List.take_succ_eq_append_getElem hqm]);have hin:Hid (ms[q]∈ms.take k):=hid (List.mem_take_iff_getElem.2 ⟨q,by omega,rfl⟩);have hqn:q<n:=by omega
      generalize ms[q] = p at *;have EQ:=fun w=>hm.eq p ⟨at_,tag⟩ w
      have GU:=hm.guard;rcases hs:sameMk p ⟨at_,tag⟩ with _ | _
      ·have hne:Hid (p=⟨at_,tag⟩→False):=hid (fun e=>by rw[sameMk_iff.2 e]at hs;cases hs)
       have hnm2:Hid (¬(⟨at_,tag⟩:Mk)∈ms.take (q+1)):=hid (fun h=>by
        rw[htk.out]at h;rcases List.mem_append.1 h with h | h
        ·exact hnm.out h
        ·exact hne.out (List.mem_singleton.1 h).symm)
       rw[hs]at EQ;obtain⟨pa,pt⟩:=p;unfold mkV at EQ;dsimp only at k0 k1 EQ;clear hs htk hin hne hnm hqm;go_wp2_with fail;go_quiet (fail);go_wp2_with fail;go_roundw
       case rel=>exact⟨q+1,by omega,by go_num,hnm2,hid ⟨hst.out.1.drewN _,hst.out.2.kept ((Fr.refl [] wx).drewN _) (by simp)⟩⟩
       case measure=>simp[intOf];omega
      ·have hpe:=hid (sameMk_iff.1 hs)
       have hv:Hid ((3:Int)=V):=hid (by rw[hV2.out,hbad.out (fun h=>(hstep.out.1 h).2.2.2.2 (hpe.out ▸ hin.out))]);rw[hs]at EQ;obtain⟨pa,pt⟩:=p;unfold mkV at EQ;dsimp only at k0 k1 EQ;clear hs htk hin hpe hnm hqm hbad hgood hstep;go_wp2_with fail;go_quiet (fail);go_wp2_with fail;go_ret;exact⟨congrArg (fun z=>Ending.returned (.int .i64 z)) hv.out,(hst.out.1.drewN _).1⟩
     ·obtain rfl:q=k:=by omega
      have e2:decide (q<q)=false:=decide_eq_false (by omega);have hok2:=hid (hgood.out (by rw[HMK.out];exact hstep.out.2 ⟨p1.out,p2.out,p4.out,p5.out,hnm.out⟩));clear hbad hgood hstep HMK;go_wp2_with fail;go_roundw
      case rel=>exact⟨q+1,by omega,by go_num,hok2,hid hst.out.1⟩
      case measure=>simp[intOf];omega
  ·obtain rfl:k=n:=by omega
   have e1:decide ((k:Int)<(k:Int))=false:=decide_eq_false (by omega);have hv:Hid ((0:Int)=V):=hid (by rw[hV2.out,mksE_yes (by rw[←hN.out];exact hok.out)]);go_wp2_with fail;go_ret;exact⟨congrArg (fun z=>Ending.returned (.int .i64 z)) hv.out,HR1.out.1⟩
end sy
end Go.Proofs.YtlkboeajkgbnaaaGreatDoor
