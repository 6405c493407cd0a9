import Derived.Test.YtlkboeajkgbnaaaGreatDoorC39
import Derived.Test.YtlkboeajkgbnaaaGreatDoorC32
set_option linter.all false
set_option maxHeartbeats 4000000
namespace Go.Proofs.YtlkboeajkgbnaaaGreatDoor
open Lib(hid)
set_option maxHeartbeats 16000000
set_option maxRecDepth 100000
namespace sy
open RowKit mem
open nm (Tab tab_below)
theorem rcheck_any(s:MS)(w:World)(hs:SysM w s)(hm:HeldM)(hcl:∀x∈s.cs,x.c.args.length≤8796093022208):Calls Tryz.prog 47 #[s.val] w (IPost (checkE s.sys) w):=by
 have HO:=hid (fun W (hb:Below w.heap.size w W)=>hs.o.below hb);have HF:=hid (fun W (hb:Below w.heap.size w W)=>hs.f.below hb);have HC:=hid (fun W (hb:Below w.heap.size w W)=>hs.c.below hb);have CO:Hid (∀W,Below w.heap.size w W→∀x∈s.os,Calls Tryz.prog 79 #[.agg x.row.toArray] W (IPost (objE x.o) W)):=hid (fun W hb x hx=>robject_any hm x W ((hs.ok x hx).below hb));have CF:Hid (∀W,Below w.heap.size w W→∀x∈s.fs,Calls Tryz.prog 80 #[.agg (fnRow x).toArray] W (IPost (fnE x) W)):=hid (fun W hb x hx=>rfunction_any x W (hs.fk x hx));have CC:Hid (∀W,Below w.heap.size w W→∀x∈s.cs,Calls Tryz.prog 81 #[.agg x.row.toArray] W (IPost (conE x.c) W)):=hid (fun W hb x hx=>rcon_any x W ((hs.ck x hx).below hb));have CK:Hid (∀W,Below w.heap.size w W→∀x∈s.cs,∀y∈s.cs,Calls Tryz.prog 82 #[.agg x.row.toArray,.agg y.row.toArray] W (IPost (conC x.c y.c) W)):=hid (fun W hb x hx y hy=>rcompare_any x y W ((hs.ck x hx).below hb) ((hs.ck y hy).below hb) (hcl x hx) (hcl y hy))
 have hol:=hs.ol;have hfl:=hs.fl;have hcl9:=hs.cl;unfold maxLen at hol hfl hcl9;unfold IPost at CO CF CC CK;clear hs hcl hm;obtain⟨oA,oc,os,fA,fc,fs,cA,cc,cs⟩:=s;unfold MS.sys IPost;unfold MS.val;dsimp only at *;obtain⟨no,hNo⟩:∃n,Hid (n=os.length):=⟨_,hid rfl⟩;obtain⟨nf,hNf⟩:∃n,Hid (n=fs.length):=⟨_,hid rfl⟩;obtain⟨nc,hNc⟩:∃n,Hid (n=cs.length):=⟨_,hid rfl⟩;obtain⟨V,hV⟩:∃V,Hid (V=checkE ⟨os.map (·.o),fs,cs.map (·.c)⟩):=⟨_,hid rfl⟩;rw[←hV.out,←hNo.out,←hNf.out,←hNc.out];rw[←hNo.out]at hol;rw[←hNf.out]at hfl;rw[←hNc.out]at hcl9;obtain⟨E1,hE1⟩:∃E,Hid (E=goE (fun x:MO=>objE x.o) (fun x y=>badO x.o y.o) (prevAt os 0) (os.drop 0)):=⟨_,hid rfl⟩;obtain⟨E2,hE2⟩:∃E,Hid (E=goE fnE badF (prevAt fs 0) (fs.drop 0)):=⟨_,hid rfl⟩;obtain⟨E3,hE3⟩:∃E,Hid (E=goE (fun x:MC=>conE x.c) (fun x y=>badC x.c y.c) (prevAt cs 0) (cs.drop 0)):=⟨_,hid rfl⟩
 have hV0:Hid (V=if 600<no∨600<nf∨6000<nc then 4 else thenE E1 (thenE E2 E3)):=hid (by
  rw[hV.out,hE1.out,hE2.out,hE3.out,hNo.out,hNf.out,hNc.out];unfold checkE;dsimp only;rw[List.length_map,List.length_map];have g1:=goE_map (chk:=objE) (bad:=badO) (f:=fun x:MO=>x.o) none os;have g3:=goE_map (chk:=conE) (bad:=badC) (f:=fun x:MC=>x.c) none cs;simp only[Option.map_none]at g1 g3;rw[g1,g3]
  rfl)
 clear hV;go_enter Tryz.func47,Tryz.ntmps47;have X2:=hid (SR.new w #[.slice oA no oc,.slice fA nf fc,.slice cA nc cc]);by_cases h0:600<no
 ·have d0:decide ((600:Int)<(no:Int))=true:=decide_eq_true (by omega)
  have hv:Hid ((4:Int)=V):=hid (by rw[hV0.out,if_pos (by omega)]);go_wp2_with fail;go_ret;exact⟨congrArg (fun z=>Ending.returned (.int .i64 z)) hv.out,X2.out.1⟩
 have d0:decide ((600:Int)<(no:Int))=false:=decide_eq_false (by omega);by_cases h1:600<nf
 ·have d1:decide ((600:Int)<(nf:Int))=true:=decide_eq_true (by omega)
  have hv:Hid ((4:Int)=V):=hid (by rw[hV0.out,if_pos (by omega)]);go_wp2_with fail;go_ret;exact⟨congrArg (fun z=>Ending.returned (.int .i64 z)) hv.out,X2.out.1⟩
 have d1:decide ((600:Int)<(nf:Int))=false:=decide_eq_false (by omega);by_cases h2:6000<nc
 ·have d2:decide ((6000:Int)<(nc:Int))=true:=decide_eq_true (by omega)
  have hv:Hid ((4:Int)=V):=hid (by rw[hV0.out,if_pos (by omega)]);go_wp2_with fail;go_ret;exact⟨congrArg (fun z=>Ending.returned (.int .i64 z)) hv.out,X2.out.1⟩
 have d2:decide ((6000:Int)<(nc:Int))=false:=decide_eq_false (by omega);have hV1:Hid (V=thenE E1 (thenE E2 E3)):=hid (by rw[hV0.out,if_neg (by omega)]);clear hV0;have s0:=X2.out.2.cell 0;simp only[List.getElem?_toArray,List.getElem?_cons_zero,List.getElem?_cons_succ]at s0;go_wp2_with fail;clear s0;go_loopw [3] (fun i wr=>∃k:Nat,k≤no∧i=.int .i64 k∧Hid (E1=goE (fun x:MO=>objE x.o) (fun x y=>badO x.o y.o) (prevAt os k) (os.drop k))∧Hid (SR w wr #[.slice oA no oc,.slice fA nf fc,.slice cA nc cc])) (fun i _=>no-(intOf i).toNat)
 case atStart=>exact⟨0,by omega,rfl,hE1,X2⟩
 case round=>
  obtain⟨k,hk,rfl,hE,HL0⟩:=hrel;clear X2
  rename World=>wr0
  have s0:=HL0.out.2.cell 0;simp only[List.getElem?_toArray,List.getElem?_cons_zero,List.getElem?_cons_succ]at s0;by_cases hkl:k<no
  ·have e1:decide ((k:Int)<(no:Int))=true:=decide_eq_true (by omega)
   have hkx:k<os.length:=by rw[←hNo.out];exact hkl
   have HT0:=HO.out wr0 HL0.out.1;obtain⟨g,off,rfl,hg,c0,c1,c2⟩:=tbl_obj HT0 hkx;have hgb:=hid (fun h=>goE_bad (chk:=(fun x:MO=>objE x.o)) (bad:=(fun x y=>badO x.o y.o)) hkx h);have hg0:Hid (k=0→(fun x:MO=>objE x.o) os[k] = 0→goE (fun x:MO=>objE x.o) (fun x y=>badO x.o y.o) (prevAt os k) (os.drop k)=goE (fun x:MO=>objE x.o) (fun x y=>badO x.o y.o) (prevAt os (k+1)) (os.drop (k+1))):=hid (fun h hz=>by subst h;exact goE_zero hkx hz);have hg1:Hid (∀m (h:m+1=k),(fun x:MO=>objE x.o) os[k] = 0→goE (fun x:MO=>objE x.o) (fun x y=>badO x.o y.o) (prevAt os k) (os.drop k)=bif (fun x y=>badO x.o y.o) (os[m]'(by omega)) os[k] then 13 else goE (fun x:MO=>objE x.o) (fun x y=>badO x.o y.o) (prevAt os (k+1)) (os.drop (k+1))):=hid (fun m h hz=>by subst h;exact goE_order hkx hz);have hmem:=hid (List.getElem_mem hkx);have C1:=hid (CO.out _ HL0.out.1 _ hmem.out);obtain⟨x,hx⟩:∃x,Hid (os[k] = x):=⟨_,hid rfl⟩;rw[hx.out]at c0 c1 c2 C1 hgb hg0 hg1 hmem
   unfold MO.row at C1;obtain⟨z,hz⟩:∃z,Hid (objE x.o=z):=⟨_,hid rfl⟩
   try dsimp only at hgb hg0 hg1
   rw[hz.out]at C1 hgb hg0 hg1;clear hz;obtain⟨⟨xn,xk,xm⟩,xA,xc⟩:=x;dsimp only at *;go_wp2_with fail;refine C1.out.mono ?_;rintro e w5 ⟨rfl,hb5⟩;have HR5:=hid (HL0.out.on hb5);have HT5:=HO.out w5 HR5.out.1;clear hb5 C1 c0 c1 c2 HT0 s0;by_cases hzz:z=0;rotate_left
   ·have dz:(z != 0)=true:=by simpa using hzz
    have hzn:=hid hzz;have hv:Hid (z=V):=hid (Eq.symm (by rw[hV1.out,hE.out,hgb.out hzn.out,thenE_n hzn.out]));clear hzz HT5 hg0 hg1 hgb;go_wp2_with fail;go_ret;exact⟨congrArg (fun z=>Ending.returned (.int .i64 z)) hv.out,HR5.out.1⟩
   have dz:(z != 0)=false:=by simpa using hzz
   have hzn:=hid hzz;have s0:=HR5.out.2.cell 0;simp only[List.getElem?_toArray,List.getElem?_cons_zero,List.getElem?_cons_succ]at s0;clear hzz hgb;rcases Nat.eq_zero_or_pos k with hk0 | hk0
   ·have d5:decide (0<k)=false:=decide_eq_false (by omega)
    have hE2:=hid (hE.out.trans (hg0.out hk0 hzn.out));clear hE hg0 hg1 hzn HT5;go_wp2_with fail;go_quiet (fail);go_wp2_with fail;go_roundw
    case rel=>exact⟨k+1,by omega,by go_num,hE2,hid (HR5.out.drewN _)⟩
    case measure=>simp[intOf];omega
   ·have d5:decide (0<k)=true:=decide_eq_true hk0
    obtain⟨m2,hm2⟩:∃m2,m2+1=k:=⟨k-1,by omega⟩;have hjm:(k:Int)-1=(m2:Int):=by omega
    have hwm:IntKind.i64.wrap (m2:Int)=(m2:Int):=IntWalk.i64_in _ (by omega);have hm2m:m2<os.length:=by omega
    have hm2n:m2<no:=by omega
    obtain⟨g3,off3,e3,_,p0,p1,p2⟩:=tbl_obj HT5 hm2m;obtain⟨g4,off4,e4,_,c0,c1,c2⟩:=tbl_obj HT5 hkx;injection e3 with e3;injection e3 with e3 e3b;subst e3;subst e3b;injection e4 with e4;injection e4 with e4 e4b;subst e4;subst e4b;rw[hx.out]at c0 c1 c2;have hgm:=hid (hg1.out m2 hm2 hzn.out);generalize os[m2] = y at *;obtain⟨⟨yn,yk,ym⟩,yA,yc⟩:=y;dsimp only at *;clear hg0 hg1 hm2 hm2m HT5;rcases hlb:Op.bytesLess yn.toList xn.toList with _ | _
    ·have hlt:=hid (show badO ⟨yn,yk,ym⟩ ⟨xn,xk,xm⟩=true by unfold badO lessB;dsimp only;rw[hlb];rfl)
     have hv:Hid ((13:Int)=V):=hid (Eq.symm (by rw[hV1.out,hE.out,hgm.out,hlt.out];rfl));clear hgm hE;go_wp2_with fail;go_quiet (fail);go_wp2_with fail;go_ret;exact⟨congrArg (fun z=>Ending.returned (.int .i64 z)) hv.out,(HR5.out.drewN _).1⟩
    ·have hlt:=hid (show badO ⟨yn,yk,ym⟩ ⟨xn,xk,xm⟩=false by unfold badO lessB;dsimp only;rw[hlb];rfl)
     have hE2:=hid (hE.out.trans (by rw[hgm.out,hlt.out,cond_false]));clear hgm hE;go_wp2_with fail;go_quiet (fail);go_wp2_with fail;go_roundw
     case rel=>exact⟨k+1,by omega,by go_num,hE2,hid (HR5.out.drewN _)⟩
     case measure=>simp[intOf];omega
  ·obtain rfl:no=k:=by omega
   have e1:decide ((no:Int)<(no:Int))=false:=decide_eq_false (by omega);have hEz:Hid (E1=0):=hid (by rw[hE.out,hNo.out];exact goE_end _ _);have hV2:Hid (V=thenE E2 E3):=hid (by rw[hV1.out,hEz.out,thenE_0]);clear hE hEz hV1;have s1:=HL0.out.2.cell 1;simp only[List.getElem?_toArray,List.getElem?_cons_zero,List.getElem?_cons_succ]at s1;go_wp2_with fail;clear s0;clear s1;go_loopw [5] (fun i wr=>∃k:Nat,k≤nf∧i=.int .i64 k∧Hid (E2=goE fnE badF (prevAt fs k) (fs.drop k))∧Hid (SR w wr #[.slice oA no oc,.slice fA nf fc,.slice cA nc cc])) (fun i _=>nf-(intOf i).toNat)
   case atStart=>exact⟨0,by omega,rfl,hE2,HL0⟩
   case round=>
    obtain⟨k,hk,rfl,hE,HL1⟩:=hrel;clear HL0
    rename World=>wr1
    have s1:=HL1.out.2.cell 1;simp only[List.getElem?_toArray,List.getElem?_cons_zero,List.getElem?_cons_succ]at s1;by_cases hkl:k<nf
    ·have e1:decide ((k:Int)<(nf:Int))=true:=decide_eq_true (by omega)
     have hkx:k<fs.length:=by rw[←hNf.out];exact hkl
     have HT0:=HF.out wr1 HL1.out.1;obtain⟨g,off,rfl,hg,c0,c1,c2⟩:=tbl_fn HT0 hkx;have hgb:=hid (fun h=>goE_bad (chk:=fnE) (bad:=badF) hkx h);have hg0:Hid (k=0→fnE fs[k] = 0→goE fnE badF (prevAt fs k) (fs.drop k)=goE fnE badF (prevAt fs (k+1)) (fs.drop (k+1))):=hid (fun h hz=>by subst h;exact goE_zero hkx hz);have hg1:Hid (∀m (h:m+1=k),fnE fs[k] = 0→goE fnE badF (prevAt fs k) (fs.drop k)=bif badF (fs[m]'(by omega)) fs[k] then 13 else goE fnE badF (prevAt fs (k+1)) (fs.drop (k+1))):=hid (fun m h hz=>by subst h;exact goE_order hkx hz);have hmem:=hid (List.getElem_mem hkx);have C1:=hid (CF.out _ HL1.out.1 _ hmem.out);obtain⟨x,hx⟩:∃x,Hid (fs[k] = x):=⟨_,hid rfl⟩;rw[hx.out]at c0 c1 c2 C1 hgb hg0 hg1 hmem;unfold fnRow at C1;obtain⟨z,hz⟩:∃z,Hid (fnE x=z):=⟨_,hid rfl⟩
     try dsimp only at hgb hg0 hg1
     rw[hz.out]at C1 hgb hg0 hg1;clear hz;obtain⟨xn,xk,xr⟩:=x;dsimp only at *;go_wp2_with fail;refine C1.out.mono ?_;rintro e w5 ⟨rfl,hb5⟩;have HR5:=hid (HL1.out.on hb5);have HT5:=HF.out w5 HR5.out.1;clear hb5 C1 c0 c1 c2 HT0 s1;by_cases hzz:z=0;rotate_left
     ·have dz:(z != 0)=true:=by simpa using hzz
      have hzn:=hid hzz;have hv:Hid (z=V):=hid (Eq.symm (by rw[hV2.out,hE.out,hgb.out hzn.out,thenE_n hzn.out]));clear hzz HT5 hg0 hg1 hgb;go_wp2_with fail;go_ret;exact⟨congrArg (fun z=>Ending.returned (.int .i64 z)) hv.out,HR5.out.1⟩
     have dz:(z != 0)=false:=by simpa using hzz
     have hzn:=hid hzz;have s1:=HR5.out.2.cell 1;simp only[List.getElem?_toArray,List.getElem?_cons_zero,List.getElem?_cons_succ]at s1;clear hzz hgb;rcases Nat.eq_zero_or_pos k with hk0 | hk0
     ·have d5:decide (0<k)=false:=decide_eq_false (by omega)
      have hE2:=hid (hE.out.trans (hg0.out hk0 hzn.out));clear hE hg0 hg1 hzn HT5;go_wp2_with fail;go_quiet (fail);go_wp2_with fail;go_roundw
      case rel=>exact⟨k+1,by omega,by go_num,hE2,hid (HR5.out.drewN _)⟩
      case measure=>simp[intOf];omega
     ·have d5:decide (0<k)=true:=decide_eq_true hk0
      obtain⟨m2,hm2⟩:∃m2,m2+1=k:=⟨k-1,by omega⟩;have hjm:(k:Int)-1=(m2:Int):=by omega
      have hwm:IntKind.i64.wrap (m2:Int)=(m2:Int):=IntWalk.i64_in _ (by omega);have hm2m:m2<fs.length:=by omega
      have hm2n:m2<nf:=by omega
      obtain⟨g3,off3,e3,_,p0,p1,p2⟩:=tbl_fn HT5 hm2m;obtain⟨g4,off4,e4,_,c0,c1,c2⟩:=tbl_fn HT5 hkx;injection e3 with e3;injection e3 with e3 e3b;subst e3;subst e3b;injection e4 with e4;injection e4 with e4 e4b;subst e4;subst e4b;rw[hx.out]at c0 c1 c2;have hgm:=hid (hg1.out m2 hm2 hzn.out);generalize fs[m2] = y at *;obtain⟨yn,yk,yr⟩:=y;dsimp only at *;clear hg0 hg1 hm2 hm2m HT5;rcases hlb:Op.bytesLess yn.toList xn.toList with _ | _
      ·have hlt:=hid (show badF ⟨yn,yk,yr⟩ ⟨xn,xk,xr⟩=true by unfold badF lessB;dsimp only;rw[hlb];rfl)
       have hv:Hid ((13:Int)=V):=hid (Eq.symm (by rw[hV2.out,hE.out,hgm.out,hlt.out];rfl));clear hgm hE;go_wp2_with fail;go_quiet (fail);go_wp2_with fail;go_ret;exact⟨congrArg (fun z=>Ending.returned (.int .i64 z)) hv.out,(HR5.out.drewN _).1⟩
      ·have hlt:=hid (show badF ⟨yn,yk,yr⟩ ⟨xn,xk,xr⟩=false by unfold badF lessB;dsimp only;rw[hlb];rfl)
       have hE2:=hid (hE.out.trans (by rw[hgm.out,hlt.out,cond_false]));clear hgm hE;go_wp2_with fail;go_quiet (fail);go_wp2_with fail;go_roundw
       case rel=>exact⟨k+1,by omega,by go_num,hE2,hid (HR5.out.drewN _)⟩
       case measure=>simp[intOf];omega
    ·obtain rfl:nf=k:=by omega
     have e1:decide ((nf:Int)<(nf:Int))=false:=decide_eq_false (by omega);have hEz:Hid (E2=0):=hid (by rw[hE.out,hNf.out];exact goE_end _ _);have hV3:Hid (V=E3):=hid (by rw[hV2.out,hEz.out,thenE_0]);clear hE hEz hV2;have s2:=HL1.out.2.cell 2;simp only[List.getElem?_toArray,List.getElem?_cons_zero,List.getElem?_cons_succ]at s2;go_wp2_with fail;clear s1;clear s2;go_loopw [7] (fun i wr=>∃k:Nat,k≤nc∧i=.int .i64 k∧Hid (E3=goE (fun x:MC=>conE x.c) (fun x y=>badC x.c y.c) (prevAt cs k) (cs.drop k))∧Hid (SR w wr #[.slice oA no oc,.slice fA nf fc,.slice cA nc cc])) (fun i _=>nc-(intOf i).toNat)
     case atStart=>exact⟨0,by omega,rfl,hE3,HL1⟩
     case round=>
      obtain⟨k,hk,rfl,hE,HL2⟩:=hrel;clear HL1
      rename World=>wr2
      have s2:=HL2.out.2.cell 2;simp only[List.getElem?_toArray,List.getElem?_cons_zero,List.getElem?_cons_succ]at s2;by_cases hkl:k<nc
      ·have e1:decide ((k:Int)<(nc:Int))=true:=decide_eq_true (by omega)
       have hkx:k<cs.length:=by rw[←hNc.out];exact hkl
       have HT0:=HC.out wr2 HL2.out.1;obtain⟨g,off,rfl,hg,c0,c1,c2,c3,c4,c5⟩:=tbl_con HT0 hkx;have hgb:=hid (fun h=>goE_bad (chk:=(fun x:MC=>conE x.c)) (bad:=(fun x y=>badC x.c y.c)) hkx h);have hg0:Hid (k=0→(fun x:MC=>conE x.c) cs[k] = 0→goE (fun x:MC=>conE x.c) (fun x y=>badC x.c y.c) (prevAt cs k) (cs.drop k)=goE (fun x:MC=>conE x.c) (fun x y=>badC x.c y.c) (prevAt cs (k+1)) (cs.drop (k+1))):=hid (fun h hz=>by subst h;exact goE_zero hkx hz);have hg1:Hid (∀m (h:m+1=k),(fun x:MC=>conE x.c) cs[k] = 0→goE (fun x:MC=>conE x.c) (fun x y=>badC x.c y.c) (prevAt cs k) (cs.drop k)=bif (fun x y=>badC x.c y.c) (cs[m]'(by omega)) cs[k] then 13 else goE (fun x:MC=>conE x.c) (fun x y=>badC x.c y.c) (prevAt cs (k+1)) (cs.drop (k+1))):=hid (fun m h hz=>by subst h;exact goE_order hkx hz);have hmem:=hid (List.getElem_mem hkx);have C1:=hid (CC.out _ HL2.out.1 _ hmem.out);obtain⟨x,hx⟩:∃x,Hid (cs[k] = x):=⟨_,hid rfl⟩
       rw[hx.out]at c0 c1 c2 c3 c4 c5 C1 hgb hg0 hg1 hmem;unfold MC.row at C1;obtain⟨z,hz⟩:∃z,Hid (conE x.c=z):=⟨_,hid rfl⟩
       try dsimp only at hgb hg0 hg1
       rw[hz.out]at C1 hgb hg0 hg1;clear hz;obtain⟨⟨xo,xa,xb,xk,xt,xg⟩,xA,xc⟩:=x;dsimp only at *;go_wp2_with fail;refine C1.out.mono ?_;rintro e w5 ⟨rfl,hb5⟩;have HR5:=hid (HL2.out.on hb5);have HT5:=HC.out w5 HR5.out.1;clear hb5 C1 c0 c1 c2 c3 c4 c5 HT0 s2;by_cases hzz:z=0;rotate_left
       ·have dz:(z != 0)=true:=by simpa using hzz
        have hzn:=hid hzz;have hv:Hid (z=V):=hid (Eq.symm (by rw[hV3.out,hE.out,hgb.out hzn.out]));clear hzz HT5 hg0 hg1 hgb;go_wp2_with fail;go_ret;exact⟨congrArg (fun z=>Ending.returned (.int .i64 z)) hv.out,HR5.out.1⟩
       have dz:(z != 0)=false:=by simpa using hzz
       have hzn:=hid hzz;have s2:=HR5.out.2.cell 2;simp only[List.getElem?_toArray,List.getElem?_cons_zero,List.getElem?_cons_succ]at s2;clear hzz hgb;rcases Nat.eq_zero_or_pos k with hk0 | hk0
       ·have d5:decide (0<k)=false:=decide_eq_false (by omega)
        have hE2:=hid (hE.out.trans (hg0.out hk0 hzn.out));clear hE hg0 hg1 hzn HT5;go_wp2_with fail;go_quiet (fail);go_wp2_with fail;go_roundw
        case rel=>exact⟨k+1,by omega,by go_num,hE2,hid (HR5.out.drewN _)⟩
        case measure=>simp[intOf];omega
       ·have d5:decide (0<k)=true:=decide_eq_true hk0
        obtain⟨m2,hm2⟩:∃m2,m2+1=k:=⟨k-1,by omega⟩;have hjm:(k:Int)-1=(m2:Int):=by omega
        have hwm:IntKind.i64.wrap (m2:Int)=(m2:Int):=IntWalk.i64_in _ (by omega);have hm2m:m2<cs.length:=by omega
        have hm2n:m2<nc:=by omega
        obtain⟨g3,off3,e3,_,p0,p1,p2,p3,p4,p5⟩:=tbl_con HT5 hm2m;obtain⟨g4,off4,e4,_,c0,c1,c2,c3,c4,c5⟩:=tbl_con HT5 hkx;injection e3 with e3;injection e3 with e3 e3b;subst e3;subst e3b;injection e4 with e4;injection e4 with e4 e4b;subst e4;subst e4b;rw[hx.out]at c0 c1 c2 c3 c4 c5;have hgm:=hid (hg1.out m2 hm2 hzn.out);have CKm:=hid (fun W hb=>CK.out W hb _ (List.getElem_mem hm2m) _ hmem.out);generalize cs[m2] = y at *;obtain⟨⟨yo,ya,yb,yk,yt,yg⟩,yA,yc⟩:=y;dsimp only at *;clear hg0 hg1 hm2 hm2m HT5;have hcv:Hid (badC ⟨yo,ya,yb,yk,yt,yg⟩ ⟨xo,xa,xb,xk,xt,xg⟩=decide (0≤conC ⟨yo,ya,yb,yk,yt,yg⟩ ⟨xo,xa,xb,xk,xt,xg⟩)):=hid rfl;unfold MC.row at CKm;dsimp only at CKm;generalize conC ⟨yo,ya,yb,yk,yt,yg⟩ ⟨xo,xa,xb,xk,xt,xg⟩=v at *;rw[hcv.out]at hgm;clear hcv;go_wp2_with fail;refine region_tail_w 14 (by kernel_rfl) (by kernel_rfl) fun W hW=>?_
        have HRW0:=HR5.out.drew;rw[←hW]at HRW0;have HRW:=hid HRW0;clear HRW0;have s2w:W.cell? _=_:=(congrArg (fun w9:World=>w9.cell? _) hW).trans s2;have p0w:W.cell? _=_:=(congrArg (fun w9:World=>w9.cell? _) hW).trans p0;have p1w:W.cell? _=_:=(congrArg (fun w9:World=>w9.cell? _) hW).trans p1;have p2w:W.cell? _=_:=(congrArg (fun w9:World=>w9.cell? _) hW).trans p2;have p3w:W.cell? _=_:=(congrArg (fun w9:World=>w9.cell? _) hW).trans p3;have p4w:W.cell? _=_:=(congrArg (fun w9:World=>w9.cell? _) hW).trans p4;have p5w:W.cell? _=_:=(congrArg (fun w9:World=>w9.cell? _) hW).trans p5;have c0w:W.cell? _=_:=(congrArg (fun w9:World=>w9.cell? _) hW).trans c0;have c1w:W.cell? _=_:=(congrArg (fun w9:World=>w9.cell? _) hW).trans c1;have c2w:W.cell? _=_:=(congrArg (fun w9:World=>w9.cell? _) hW).trans c2;have c3w:W.cell? _=_:=(congrArg (fun w9:World=>w9.cell? _) hW).trans c3;have c4w:W.cell? _=_:=(congrArg (fun w9:World=>w9.cell? _) hW).trans c4
        have c5w:W.cell? _=_:=(congrArg (fun w9:World=>w9.cell? _) hW).trans c5;clear hW s2 p0 p1 p2 p3 p4 p5 c0 c1 c2 c3 c4 c5 HR5;simp only[List.take_succ_cons,List.take_zero,List.drop_succ_cons,List.drop_zero]
        iterate 14 still_step
        refine wpStill_nil ?_;clear s2w p0w p1w p2w p3w p4w p5w c0w c1w c2w c3w c4w c5w;by_cases hv0:0≤v
        ·have d7:decide (0≤v)=true:=decide_eq_true hv0
         have hv:Hid ((13:Int)=V):=hid (Eq.symm (by rw[hV3.out,hE.out,hgm.out,d7];rfl));clear hgm hE hv0
         go_wp2_with (refine(CKm.out _ HRW.out.1).mono ?_;rintro e w6 ⟨rfl,hb6⟩)
         go_ret;exact⟨congrArg (fun z=>Ending.returned (.int .i64 z)) hv.out,(HRW.out.on hb6).1⟩
        ·have d7:decide (0≤v)=false:=decide_eq_false hv0
         have hE2:=hid (hE.out.trans (by rw[hgm.out,d7,cond_false]));clear hgm hE hv0
         go_wp2_with (refine(CKm.out _ HRW.out.1).mono ?_;rintro e w6 ⟨rfl,hb6⟩)
         go_roundw
         case rel=>exact⟨k+1,by omega,by go_num,hE2,hid (HRW.out.on hb6)⟩
         case measure=>simp[intOf];omega
      ·obtain rfl:nc=k:=by omega
       have e1:decide ((nc:Int)<(nc:Int))=false:=decide_eq_false (by omega);have hEz:Hid (E3=0):=hid (by rw[hE.out,hNc.out];exact goE_end _ _);have hV4:Hid ((0:Int)=V):=hid (by rw[hV3.out,hEz.out]);clear hE hEz hV3;go_wp2_with fail;go_ret;exact⟨congrArg (fun z=>Ending.returned (.int .i64 z)) hV4.out,HL2.out.1⟩
end sy
end Go.Proofs.YtlkboeajkgbnaaaGreatDoor
