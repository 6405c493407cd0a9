import Derived.Test.YtdmmkjijgoiecaaGreatDoorB27
import Derived.Test.YtdmmkjijgoiecaaGreatDoorB29
set_option linter.all false
set_option maxHeartbeats 4000000
namespace Go.Proofs.YtdmmkjijgoiecaaGreatDoor
open Lib(hid)
set_option maxHeartbeats 16000000
set_option maxRecDepth 100000
namespace sy
open RowKit mem
open nm (iE bQ)
theorem aFr(s:MS)(w:World)(hs:vO w s)(hm:aJL)(b9:∀x∈s.cs,x.c.args.length≤8796093022208):Calls Tryz.prog 57 #[s.val] w (dD (iW s.sys) w):=by
 have HO:=hid (fun W (hb:Below w.heap.size w W)=>hs.o.below hb)
 have HF:=hid (fun W (hb:Below w.heap.size w W)=>hs.f.below hb)
 have HC:=hid (fun W (hb:Below w.heap.size w W)=>hs.c.below hb)
 have CO:Hid (∀W,Below w.heap.size w W→∀x∈s.os,Calls Tryz.prog 114 #[.agg x.row.toArray] W (dD (kN x.o) W)):=hid (fun W hb x hx=>aDK hm x W ((hs.ok x hx).below hb))
 have CF:Hid (∀W,Below w.heap.size w W→∀x∈s.fs,Calls Tryz.prog 115 #[.agg (kW x).toArray] W (dD (fnE x) W)):=hid (fun W hb x hx=>aB5 x W (hs.fk x hx))
 have CC:Hid (∀W,Below w.heap.size w W→∀x∈s.cs,Calls Tryz.prog 116 #[.agg x.row.toArray] W (dD (jB x.c) W)):=hid (fun W hb x hx=>aJu x W ((hs.ck x hx).below hb))
 have CK:Hid (∀W,Below w.heap.size w W→∀x∈s.cs,∀y∈s.cs,Calls Tryz.prog 111 #[.agg x.row.toArray,.agg y.row.toArray] W (dD (uV x.c y.c) W)):=hid (fun W hb x hx y hy=>uK x y W ((hs.ck x hx).below hb) ((hs.ck y hy).below hb) (b9 x hx) (b9 y hy))
 have bh:=hs.ol;have bf:=hs.fl;have b7:=hs.cl;unfold maxLen at bh bf b7;unfold dD at CO CF CC CK;clear hs b9 hm;obtain⟨oA,oc,os,fA,fc,fs,cA,cc,cs⟩:=s;unfold MS.sys dD;unfold MS.val;dsimp only at *;obtain⟨no,ax⟩:∃n,Hid (n=os.length):=⟨_,hid rfl⟩;obtain⟨nf,am⟩:∃n,Hid (n=fs.length):=⟨_,hid rfl⟩;obtain⟨nc,ao⟩:∃n,Hid (n=cs.length):=⟨_,hid rfl⟩;obtain⟨V,hV⟩:∃V,Hid (V=iW ⟨os.map (·.o),fs,cs.map (·.c)⟩):=⟨_,hid rfl⟩
 rw[←hV.out,←ax.out,←am.out,←ao.out];rw[←ax.out]at bh;rw[←am.out]at bf;rw[←ao.out]at b7;obtain⟨E1,bb⟩:∃E,Hid (E=nG (fun x:MO=>kN x.o) (fun x y=>mH x.o y.o) (dL os 0) (os.drop 0)):=⟨_,hid rfl⟩
 obtain⟨E2,a9⟩:∃E,Hid (E=nG fnE oC (dL fs 0) (fs.drop 0)):=⟨_,hid rfl⟩;obtain⟨E3,bg⟩:∃E,Hid (E=nG (fun x:MC=>jB x.c) (fun x y=>rZ x.c y.c) (dL cs 0) (cs.drop 0)):=⟨_,hid rfl⟩
 have au:Hid (V=if 600<no∨600<nf∨6000<nc then 4 else oG E1 (oG E2 E3)):=hid (by
  rw[hV.out,bb.out,a9.out,bg.out,ax.out,am.out,ao.out];unfold iW;dsimp only;rw[aH,aH];have g1:=yV (chk:=kN) (bad:=mH) (f:=fun x:MO=>x.o) none os
  have g3:=yV (chk:=jB) (bad:=rZ) (f:=fun x:MC=>x.c) none cs
  simp only[Option.map_none]at g1 g3;rw[g1,g3]
  rfl)
 clear hV;go_enter Tryz.func57,Tryz.ntmps57;have X2:=hid (SR.new w #[.slice oA no oc,.slice fA nf fc,.slice cA nc cc])
 by_cases h0:600<no
 ·have d0:decide ((600:Int)<(no:Int))=true:=aC (by omega)
  have hv:Hid ((4:Int)=V):=hid (by rw[au.out,if_pos (by omega)])
  go_wp2_with fail;go_ret;exact⟨congrArg (fun z=>Ending.returned (.int .i64 z)) hv.out,X2.out.1⟩
 have d0:decide ((600:Int)<(no:Int))=false:=aB (by omega)
 by_cases h1:600<nf
 ·have d1:decide ((600:Int)<(nf:Int))=true:=aC (by omega)
  have hv:Hid ((4:Int)=V):=hid (by rw[au.out,if_pos (by omega)])
  go_wp2_with fail;go_ret;exact⟨congrArg (fun z=>Ending.returned (.int .i64 z)) hv.out,X2.out.1⟩
 have d1:decide ((600:Int)<(nf:Int))=false:=aB (by omega)
 by_cases h2:6000<nc
 ·have d2:decide ((6000:Int)<(nc:Int))=true:=aC (by omega)
  have hv:Hid ((4:Int)=V):=hid (by rw[au.out,if_pos (by omega)])
  go_wp2_with fail;go_ret;exact⟨congrArg (fun z=>Ending.returned (.int .i64 z)) hv.out,X2.out.1⟩
 have d2:decide ((6000:Int)<(nc:Int))=false:=aB (by omega)
 have b2:Hid (V=oG E1 (oG E2 E3)):=hid (by rw[au.out,if_neg (by omega)])
 clear au;have s0:=X2.out.2.cell 0;simp only[aL,aJ,aK]at s0;go_wp2_with fail;clear s0
 go_loopw [3] (fun i wr=>∃k:Nat,k≤no∧i=.int .i64 k∧Hid (E1=nG (fun x:MO=>kN x.o) (fun x y=>mH x.o y.o) (dL os k) (os.drop k))∧Hid (SR w wr #[.slice oA no oc,.slice fA nf fc,.slice cA nc cc])) (fun i _=>no-(intOf i).toNat)
 case atStart=>exact⟨0,by omega,rfl,bb,X2⟩
 case round=>
  obtain⟨k,hk,rfl,hE,ai⟩:=hrel;clear X2
  rename World=>wr0
  have s0:=ai.out.2.cell 0;simp only[aL,aJ,aK]at s0
  by_cases av:k<no
  ·have e1:decide ((k:Int)<(no:Int))=true:=aC (by omega)
   have a2:k<os.length:=by rw[←ax.out];exact av
   have ae:=HO.out wr0 ai.out.1;obtain⟨g,off,rfl,hg,c0,c1,c2⟩:=iK ae a2;have a3:=hid (fun h=>xC (chk:=(fun x:MO=>kN x.o)) (bad:=(fun x y=>mH x.o y.o)) a2 h)
   have J:Hid (k=0→(fun x:MO=>kN x.o) os[k] = 0→nG (fun x:MO=>kN x.o) (fun x y=>mH x.o y.o) (dL os k) (os.drop k)=nG (fun x:MO=>kN x.o) (fun x y=>mH x.o y.o) (dL os (k+1)) (os.drop (k+1))):=hid (fun h hz=>by subst h;exact sS a2 hz)
   have Y:Hid (∀m (h:m+1=k),(fun x:MO=>kN x.o) os[k] = 0→nG (fun x:MO=>kN x.o) (fun x y=>mH x.o y.o) (dL os k) (os.drop k)=bif (fun x y=>mH x.o y.o) (os[m]'(by omega)) os[k] then 13 else nG (fun x:MO=>kN x.o) (fun x y=>mH x.o y.o) (dL os (k+1)) (os.drop (k+1))):=hid (fun m h hz=>by subst h;exact oZ a2 hz)
   have a8:=hid (aR a2);have C1:=hid (CO.out _ ai.out.1 _ a8.out);obtain⟨x,hx⟩:∃x,Hid (os[k] = x):=⟨_,hid rfl⟩;rw[hx.out]at c0 c1 c2 C1 a3 J Y a8;unfold MO.row at C1;obtain⟨z,hz⟩:∃z,Hid (kN x.o=z):=⟨_,hid rfl⟩
   try dsimp only at a3 J Y
   rw[hz.out]at C1 a3 J Y;clear hz;obtain⟨⟨xn,xk,xm⟩,xA,xc⟩:=x;dsimp only at *;go_wp2_with fail;refine C1.out.mono ?_;rintro e w5 ⟨rfl,ag⟩;have a1:=hid (ai.out.on ag);have a5:=HO.out w5 a1.out.1;clear ag C1 c0 c1 c2 ae s0
   by_cases a0:z=0
   rotate_left
   ·have dz:(z != 0)=true:=by simpa using a0
    have a4:=hid a0;have hv:Hid (z=V):=hid (Eq.symm (by rw[b2.out,hE.out,a3.out a4.out,aAI a4.out]))
    clear a0 a5 J Y a3;go_wp2_with fail;go_ret;exact⟨congrArg (fun z=>Ending.returned (.int .i64 z)) hv.out,a1.out.1⟩
   have dz:(z != 0)=false:=by simpa using a0
   have a4:=hid a0;have s0:=a1.out.2.cell 0;simp only[aL,aJ,aK]at s0;clear a0 a3
   rcases Nat.eq_zero_or_pos k with aa | aa
   ·have d5:decide (0<k)=false:=aB (by omega)
    have a9:=hid (hE.out.trans (J.out aa a4.out));clear hE J Y a4 a5;go_wp2_with fail
    go_quiet (fail)
    go_wp2_with fail
    go_roundw
    case rel=>exact⟨k+1,by omega,by go_num,a9,hid (a1.out.drewN _)⟩
    case measure=>simp[intOf];omega
   ·have d5:decide (0<k)=true:=aC aa
    obtain⟨m2,af⟩:∃m2,m2+1=k:=⟨k-1,by omega⟩
    have bi:(k:Int)-1=(m2:Int):=by omega
    have bd:IntKind.i64.wrap (m2:Int)=(m2:Int):=IntWalk.i64_in _ (by omega)
    have a7:m2<os.length:=by omega
    have b8:m2<no:=by omega
    obtain⟨g3,b6,e3,_,p0,p1,p2⟩:=iK a5 a7;obtain⟨g4,b5,e4,_,c0,c1,c2⟩:=iK a5 a2;injection e3 with e3;injection e3 with e3 e3b;subst e3;subst e3b;injection e4 with e4;injection e4 with e4 e4b;subst e4;subst e4b;rw[hx.out]at c0 c1 c2;have a6:=hid (Y.out m2 af a4.out);generalize os[m2] = y at *;obtain⟨⟨yn,yk,ym⟩,yA,yc⟩:=y;dsimp only at *;clear J Y af a7 a5
    rcases ap:Op.bytesLess yn.toList xn.toList with _ | _
    ·have aj:=hid (show mH ⟨yn,yk,ym⟩ ⟨xn,xk,xm⟩=true by unfold mH lQ;dsimp only;rw[ap];rfl)
     have hv:Hid ((13:Int)=V):=hid (Eq.symm (by rw[b2.out,hE.out,a6.out,aj.out];rfl))
     clear a6 hE;go_wp2_with fail
     go_quiet (fail)
     go_wp2_with fail;go_ret;exact⟨congrArg (fun z=>Ending.returned (.int .i64 z)) hv.out,(a1.out.drewN _).1⟩
    ·have aj:=hid (show mH ⟨yn,yk,ym⟩ ⟨xn,xk,xm⟩=false by unfold mH lQ;dsimp only;rw[ap];rfl)
     have a9:=hid (hE.out.trans (by rw[a6.out,aj.out,cond_false]))
     clear a6 hE;go_wp2_with fail
     go_quiet (fail)
     go_wp2_with fail
     go_roundw
     case rel=>exact⟨k+1,by omega,by go_num,a9,hid (a1.out.drewN _)⟩
     case measure=>simp[intOf];omega
  ·obtain rfl:no=k:=by omega
   have e1:decide ((no:Int)<(no:Int))=false:=aB (by omega)
   have ah:Hid (E1=0):=hid (by rw[hE.out,ax.out];exact xJ _ _)
   have b3:Hid (V=oG E2 E3):=hid (by rw[b2.out,ah.out,aAN])
   clear hE ah b2;have s1:=ai.out.2.cell 1;simp only[aL,aJ,aK]at s1;go_wp2_with fail;clear s0;clear s1
   go_loopw [5] (fun i wr=>∃k:Nat,k≤nf∧i=.int .i64 k∧Hid (E2=nG fnE oC (dL fs k) (fs.drop k))∧Hid (SR w wr #[.slice oA no oc,.slice fA nf fc,.slice cA nc cc])) (fun i _=>nf-(intOf i).toNat)
   case atStart=>exact⟨0,by omega,rfl,a9,ai⟩
   case round=>
    obtain⟨k,hk,rfl,hE,ak⟩:=hrel;clear ai
    rename World=>wr1
    have s1:=ak.out.2.cell 1;simp only[aL,aJ,aK]at s1
    by_cases av:k<nf
    ·have e1:decide ((k:Int)<(nf:Int))=true:=aC (by omega)
     have a2:k<fs.length:=by rw[←am.out];exact av
     have ae:=HF.out wr1 ak.out.1;obtain⟨g,off,rfl,hg,c0,c1,c2⟩:=lS ae a2;have a3:=hid (fun h=>xC (chk:=fnE) (bad:=oC) a2 h)
     have J:Hid (k=0→fnE fs[k] = 0→nG fnE oC (dL fs k) (fs.drop k)=nG fnE oC (dL fs (k+1)) (fs.drop (k+1))):=hid (fun h hz=>by subst h;exact sS a2 hz)
     have Y:Hid (∀m (h:m+1=k),fnE fs[k] = 0→nG fnE oC (dL fs k) (fs.drop k)=bif oC (fs[m]'(by omega)) fs[k] then 13 else nG fnE oC (dL fs (k+1)) (fs.drop (k+1))):=hid (fun m h hz=>by subst h;exact oZ a2 hz)
     have a8:=hid (aR a2);have C1:=hid (CF.out _ ak.out.1 _ a8.out);obtain⟨x,hx⟩:∃x,Hid (fs[k] = x):=⟨_,hid rfl⟩;rw[hx.out]at c0 c1 c2 C1 a3 J Y a8;unfold kW at C1;obtain⟨z,hz⟩:∃z,Hid (fnE x=z):=⟨_,hid rfl⟩
     try dsimp only at a3 J Y
     rw[hz.out]at C1 a3 J Y;clear hz;obtain⟨xn,xk,xr⟩:=x;dsimp only at *;go_wp2_with fail;refine C1.out.mono ?_;rintro e w5 ⟨rfl,ag⟩;have a1:=hid (ak.out.on ag);have a5:=HF.out w5 a1.out.1;clear ag C1 c0 c1 c2 ae s1
     by_cases a0:z=0
     rotate_left
     ·have dz:(z != 0)=true:=by simpa using a0
      have a4:=hid a0;have hv:Hid (z=V):=hid (Eq.symm (by rw[b3.out,hE.out,a3.out a4.out,aAI a4.out]))
      clear a0 a5 J Y a3;go_wp2_with fail;go_ret;exact⟨congrArg (fun z=>Ending.returned (.int .i64 z)) hv.out,a1.out.1⟩
     have dz:(z != 0)=false:=by simpa using a0
     have a4:=hid a0;have s1:=a1.out.2.cell 1;simp only[aL,aJ,aK]at s1;clear a0 a3
     rcases Nat.eq_zero_or_pos k with aa | aa
     ·have d5:decide (0<k)=false:=aB (by omega)
      have a9:=hid (hE.out.trans (J.out aa a4.out));clear hE J Y a4 a5;go_wp2_with fail
      go_quiet (fail)
      go_wp2_with fail
      go_roundw
      case rel=>exact⟨k+1,by omega,by go_num,a9,hid (a1.out.drewN _)⟩
      case measure=>simp[intOf];omega
     ·have d5:decide (0<k)=true:=aC aa
      obtain⟨m2,af⟩:∃m2,m2+1=k:=⟨k-1,by omega⟩
      have bi:(k:Int)-1=(m2:Int):=by omega
      have bd:IntKind.i64.wrap (m2:Int)=(m2:Int):=IntWalk.i64_in _ (by omega)
      have a7:m2<fs.length:=by omega
      have b8:m2<nf:=by omega
      obtain⟨g3,b6,e3,_,p0,p1,p2⟩:=lS a5 a7;obtain⟨g4,b5,e4,_,c0,c1,c2⟩:=lS a5 a2;injection e3 with e3;injection e3 with e3 e3b;subst e3;subst e3b;injection e4 with e4;injection e4 with e4 e4b;subst e4;subst e4b;rw[hx.out]at c0 c1 c2;have a6:=hid (Y.out m2 af a4.out);generalize fs[m2] = y at *;obtain⟨yn,yk,yr⟩:=y;dsimp only at *;clear J Y af a7 a5
      rcases ap:Op.bytesLess yn.toList xn.toList with _ | _
      ·have aj:=hid (show oC ⟨yn,yk,yr⟩ ⟨xn,xk,xr⟩=true by unfold oC lQ;dsimp only;rw[ap];rfl)
       have hv:Hid ((13:Int)=V):=hid (Eq.symm (by rw[b3.out,hE.out,a6.out,aj.out];rfl))
       clear a6 hE;go_wp2_with fail
       go_quiet (fail)
       go_wp2_with fail;go_ret;exact⟨congrArg (fun z=>Ending.returned (.int .i64 z)) hv.out,(a1.out.drewN _).1⟩
      ·have aj:=hid (show oC ⟨yn,yk,yr⟩ ⟨xn,xk,xr⟩=false by unfold oC lQ;dsimp only;rw[ap];rfl)
       have a9:=hid (hE.out.trans (by rw[a6.out,aj.out,cond_false]))
       clear a6 hE;go_wp2_with fail
       go_quiet (fail)
       go_wp2_with fail
       go_roundw
       case rel=>exact⟨k+1,by omega,by go_num,a9,hid (a1.out.drewN _)⟩
       case measure=>simp[intOf];omega
    ·obtain rfl:nf=k:=by omega
     have e1:decide ((nf:Int)<(nf:Int))=false:=aB (by omega)
     have ah:Hid (E2=0):=hid (by rw[hE.out,am.out];exact xJ _ _)
     have b4:Hid (V=E3):=hid (by rw[b3.out,ah.out,aAN])
     clear hE ah b3;have s2:=ak.out.2.cell 2;simp only[aL,aJ,aK]at s2;go_wp2_with fail;clear s1;clear s2
     go_loopw [7] (fun i wr=>∃k:Nat,k≤nc∧i=.int .i64 k∧Hid (E3=nG (fun x:MC=>jB x.c) (fun x y=>rZ x.c y.c) (dL cs k) (cs.drop k))∧Hid (SR w wr #[.slice oA no oc,.slice fA nf fc,.slice cA nc cc])) (fun i _=>nc-(intOf i).toNat)
     case atStart=>exact⟨0,by omega,rfl,bg,ak⟩
     case round=>
      obtain⟨k,hk,rfl,hE,ar⟩:=hrel;clear ak
      rename World=>wr2
      have s2:=ar.out.2.cell 2;simp only[aL,aJ,aK]at s2
      by_cases av:k<nc
      ·have e1:decide ((k:Int)<(nc:Int))=true:=aC (by omega)
       have a2:k<cs.length:=by rw[←ao.out];exact av
       have ae:=HC.out wr2 ar.out.1;obtain⟨g,off,rfl,hg,c0,c1,c2,c3,c4,c5⟩:=kH ae a2;have a3:=hid (fun h=>xC (chk:=(fun x:MC=>jB x.c)) (bad:=(fun x y=>rZ x.c y.c)) a2 h)
       have J:Hid (k=0→(fun x:MC=>jB x.c) cs[k] = 0→nG (fun x:MC=>jB x.c) (fun x y=>rZ x.c y.c) (dL cs k) (cs.drop k)=nG (fun x:MC=>jB x.c) (fun x y=>rZ x.c y.c) (dL cs (k+1)) (cs.drop (k+1))):=hid (fun h hz=>by subst h;exact sS a2 hz)
       have Y:Hid (∀m (h:m+1=k),(fun x:MC=>jB x.c) cs[k] = 0→nG (fun x:MC=>jB x.c) (fun x y=>rZ x.c y.c) (dL cs k) (cs.drop k)=bif (fun x y=>rZ x.c y.c) (cs[m]'(by omega)) cs[k] then 13 else nG (fun x:MC=>jB x.c) (fun x y=>rZ x.c y.c) (dL cs (k+1)) (cs.drop (k+1))):=hid (fun m h hz=>by subst h;exact oZ a2 hz)
       have a8:=hid (aR a2);have C1:=hid (CC.out _ ar.out.1 _ a8.out);obtain⟨x,hx⟩:∃x,Hid (cs[k] = x):=⟨_,hid rfl⟩;rw[hx.out]at c0 c1 c2 c3 c4 c5 C1 a3 J Y a8;unfold MC.row at C1;obtain⟨z,hz⟩:∃z,Hid (jB x.c=z):=⟨_,hid rfl⟩
       try dsimp only at a3 J Y
       rw[hz.out]at C1 a3 J Y;clear hz;obtain⟨⟨xo,xa,xb,xk,xt,xg⟩,xA,xc⟩:=x;dsimp only at *;go_wp2_with fail;refine C1.out.mono ?_;rintro e w5 ⟨rfl,ag⟩;have a1:=hid (ar.out.on ag);have a5:=HC.out w5 a1.out.1;clear ag C1 c0 c1 c2 c3 c4 c5 ae s2
       by_cases a0:z=0
       rotate_left
       ·have dz:(z != 0)=true:=by simpa using a0
        have a4:=hid a0;have hv:Hid (z=V):=hid (Eq.symm (by rw[b4.out,hE.out,a3.out a4.out]))
        clear a0 a5 J Y a3;go_wp2_with fail;go_ret;exact⟨congrArg (fun z=>Ending.returned (.int .i64 z)) hv.out,a1.out.1⟩
       have dz:(z != 0)=false:=by simpa using a0
       have a4:=hid a0;have s2:=a1.out.2.cell 2;simp only[aL,aJ,aK]at s2;clear a0 a3
       rcases Nat.eq_zero_or_pos k with aa | aa
       ·have d5:decide (0<k)=false:=aB (by omega)
        have a9:=hid (hE.out.trans (J.out aa a4.out));clear hE J Y a4 a5;go_wp2_with fail
        go_quiet (fail)
        go_wp2_with fail
        go_roundw
        case rel=>exact⟨k+1,by omega,by go_num,a9,hid (a1.out.drewN _)⟩
        case measure=>simp[intOf];omega
       ·have d5:decide (0<k)=true:=aC aa
        obtain⟨m2,af⟩:∃m2,m2+1=k:=⟨k-1,by omega⟩
        have bi:(k:Int)-1=(m2:Int):=by omega
        have bd:IntKind.i64.wrap (m2:Int)=(m2:Int):=IntWalk.i64_in _ (by omega)
        have a7:m2<cs.length:=by omega
        have b8:m2<nc:=by omega
        obtain⟨g3,b6,e3,_,p0,p1,p2,p3,p4,p5⟩:=kH a5 a7;obtain⟨g4,b5,e4,_,c0,c1,c2,c3,c4,c5⟩:=kH a5 a2;injection e3 with e3;injection e3 with e3 e3b;subst e3;subst e3b;injection e4 with e4;injection e4 with e4 e4b;subst e4;subst e4b;rw[hx.out]at c0 c1 c2 c3 c4 c5;have a6:=hid (Y.out m2 af a4.out);have ay:=hid (fun W hb=>CK.out W hb _ (aR a7) _ a8.out)
        generalize cs[m2] = y at *;obtain⟨⟨yo,ya,yb,yk,yt,yg⟩,yA,yc⟩:=y;dsimp only at *;clear J Y af a7 a5;have bc:Hid (rZ ⟨yo,ya,yb,yk,yt,yg⟩ ⟨xo,xa,xb,xk,xt,xg⟩=decide (0≤uV ⟨yo,ya,yb,yk,yt,yg⟩ ⟨xo,xa,xb,xk,xt,xg⟩)):=hid rfl;unfold MC.row at ay;dsimp only at ay;generalize uV ⟨yo,ya,yb,yk,yt,yg⟩ ⟨xo,xa,xb,xk,xt,xg⟩=v at *;rw[bc.out]at a6;clear bc;go_wp2_with fail;refine mY 14 (by kernel_rfl) (by kernel_rfl) fun W hW=>?_
        have aw:=a1.out.drew;rw[←hW]at aw;have b1:=hid aw;clear aw;have bp:W.cell? _=_:=(congrArg (fun w9:World=>w9.cell? _) hW).trans s2
        have bq:W.cell? _=_:=(congrArg (fun w9:World=>w9.cell? _) hW).trans p0
        have bj:W.cell? _=_:=(congrArg (fun w9:World=>w9.cell? _) hW).trans p1
        have bm:W.cell? _=_:=(congrArg (fun w9:World=>w9.cell? _) hW).trans p2
        have c6:W.cell? _=_:=(congrArg (fun w9:World=>w9.cell? _) hW).trans p3
        have bl:W.cell? _=_:=(congrArg (fun w9:World=>w9.cell? _) hW).trans p4
        have bn:W.cell? _=_:=(congrArg (fun w9:World=>w9.cell? _) hW).trans p5
        have bo:W.cell? _=_:=(congrArg (fun w9:World=>w9.cell? _) hW).trans c0
        have bw:W.cell? _=_:=(congrArg (fun w9:World=>w9.cell? _) hW).trans c1
        have bv:W.cell? _=_:=(congrArg (fun w9:World=>w9.cell? _) hW).trans c2
        have br:W.cell? _=_:=(congrArg (fun w9:World=>w9.cell? _) hW).trans c3
        have bk:W.cell? _=_:=(congrArg (fun w9:World=>w9.cell? _) hW).trans c4
        have bu:W.cell? _=_:=(congrArg (fun w9:World=>w9.cell? _) hW).trans c5
        clear hW s2 p0 p1 p2 p3 p4 p5 c0 c1 c2 c3 c4 c5 a1;simp only[List.take_succ_cons,List.take_zero,List.drop_succ_cons,List.drop_zero]
        iterate 14 still_step
        refine wpStill_nil ?_;clear bp bq bj bm c6 bl bn bo bw bv br bk bu
        by_cases az:0≤v
        ·have d7:decide (0≤v)=true:=aC az
         have hv:Hid ((13:Int)=V):=hid (Eq.symm (by rw[b4.out,hE.out,a6.out,d7];rfl))
         clear a6 hE az
         go_wp2_with (refine(ay.out _ b1.out.1).mono ?_;rintro e w6 ⟨rfl,ba⟩)
         go_ret;exact⟨congrArg (fun z=>Ending.returned (.int .i64 z)) hv.out,(b1.out.on ba).1⟩
        ·have d7:decide (0≤v)=false:=aB az
         have a9:=hid (hE.out.trans (by rw[a6.out,d7,cond_false]))
         clear a6 hE az
         go_wp2_with (refine(ay.out _ b1.out.1).mono ?_;rintro e w6 ⟨rfl,ba⟩)
         go_roundw
         case rel=>exact⟨k+1,by omega,by go_num,a9,hid (b1.out.on ba)⟩
         case measure=>simp[intOf];omega
      ·obtain rfl:nc=k:=by omega
       have e1:decide ((nc:Int)<(nc:Int))=false:=aB (by omega)
       have ah:Hid (E3=0):=hid (by rw[hE.out,ao.out];exact xJ _ _)
       have bz:Hid ((0:Int)=V):=hid (by rw[b4.out,ah.out])
       clear hE ah b4;go_wp2_with fail;go_ret;exact⟨congrArg (fun z=>Ending.returned (.int .i64 z)) bz.out,ar.out.1⟩
end sy
end Go.Proofs.YtdmmkjijgoiecaaGreatDoor
