import Derived.Test.YtdmmkjijgoiecaaGreatDoorY40
import Derived.Test.YtdmmkjijgoiecaaGreatDoorY44
set_option linter.all false
set_option maxHeartbeats 4000000
namespace Go.Proofs.YtdmmkjijgoiecaaGreatDoor
open Lib(hid)
set_option maxHeartbeats 16000000
set_option maxRecDepth 100000
namespace sy
open RowKit mem
open nm (jI bR)
theorem aDR(s:MS)(w:World)(hs:zD w s)(hm:aIJ)(b8:∀x∈s.cs,x.c.args.length≤8796093022208):Calls Tryz.prog 57 #[s.val] w (dG (iJ s.sys) w):=by
 have HO:=hid (fun W (hb:Below w.heap.size w W)=>hs.o.below hb);have HF:=hid (fun W (hb:Below w.heap.size w W)=>hs.f.below hb);have HC:=hid (fun W (hb:Below w.heap.size w W)=>hs.c.below hb);have CO:Hid (∀W,Below w.heap.size w W→∀x∈s.os,Calls Tryz.prog 114 #[.agg x.row.toArray] W (dG (jQ x.o) W)):=hid (fun W hb x hx=>aCU hm x W ((hs.ok x hx).below hb));have CF:Hid (∀W,Below w.heap.size w W→∀x∈s.fs,Calls Tryz.prog 115 #[.agg (lF x).toArray] W (dG (xY x) W)):=hid (fun W hb x hx=>aAY x W (hs.fk x hx));have CC:Hid (∀W,Below w.heap.size w W→∀x∈s.cs,Calls Tryz.prog 116 #[.agg x.row.toArray] W (dG (iN x.c) W)):=hid (fun W hb x hx=>aHI x W ((hs.ck x hx).below hb));have CK:Hid (∀W,Below w.heap.size w W→∀x∈s.cs,∀y∈s.cs,Calls Tryz.prog 111 #[.agg x.row.toArray,.agg y.row.toArray] W (dG (wT x.c y.c) W)):=hid (fun W hb x hx y hy=>xL x y W ((hs.ck x hx).below hb) ((hs.ck y hy).below hb) (b8 x hx) (b8 y hy))
 have ba:=hs.ol;have bh:=hs.fl;have b5:=hs.cl;unfold maxLen at ba bh b5;unfold dG at CO CF CC CK;clear hs b8 hm;obtain⟨oA,oc,os,fA,fc,fs,cA,cc,cs⟩:=s;unfold MS.sys dG;unfold MS.val;dsimp only at *;obtain⟨no,ar⟩:∃n,Hid (n=os.length):=⟨_,hid rfl⟩;obtain⟨nf,av⟩:∃n,Hid (n=fs.length):=⟨_,hid rfl⟩;obtain⟨nc,aw⟩:∃n,Hid (n=cs.length):=⟨_,hid rfl⟩;obtain⟨V,hV⟩:∃V,Hid (V=iJ ⟨os.map (·.o),fs,cs.map (·.c)⟩):=⟨_,hid rfl⟩;rw[←hV.out,←ar.out,←av.out,←aw.out];rw[←ar.out]at ba;rw[←av.out]at bh;rw[←aw.out]at b5;obtain⟨E1,bd⟩:∃E,Hid (E=lZ (fun x:MO=>jQ x.o) (fun x y=>lK x.o y.o) (dJ os 0) (os.drop 0)):=⟨_,hid rfl⟩;obtain⟨E2,a8⟩:∃E,Hid (E=lZ xY mQ (dJ fs 0) (fs.drop 0)):=⟨_,hid rfl⟩;obtain⟨E3,bg⟩:∃E,Hid (E=lZ (fun x:MC=>iN x.c) (fun x y=>pR x.c y.c) (dJ cs 0) (cs.drop 0)):=⟨_,hid rfl⟩
 have am:Hid (V=if 600<no∨600<nf∨6000<nc then 4 else mV E1 (mV E2 E3)):=hid (by
  rw[hV.out,bd.out,a8.out,bg.out,ar.out,av.out,aw.out];unfold iJ;dsimp only;rw[aH,aH];have g1:=xI (chk:=jQ) (bad:=lK) (f:=fun x:MO=>x.o) none os;have g3:=xI (chk:=iN) (bad:=pR) (f:=fun x:MC=>x.c) none cs;simp only[Option.map_none]at g1 g3;rw[g1,g3]
  rfl)
 clear hV;go_enter Tryz.func57,Tryz.ntmps57;have X2:=hid (SR.new w #[.slice oA no oc,.slice fA nf fc,.slice cA nc cc]);by_cases h0:600<no
 ·have d0:decide ((600:Int)<(no:Int))=true:=aC (by omega)
  have hv:Hid ((4:Int)=V):=hid (by rw[am.out,if_pos (by omega)]);go_wp2_with fail;go_ret;exact⟨rI hv.out,X2.out.1⟩
 have d0:decide ((600:Int)<(no:Int))=false:=aB (by omega);by_cases h1:600<nf
 ·have d1:decide ((600:Int)<(nf:Int))=true:=aC (by omega)
  have hv:Hid ((4:Int)=V):=hid (by rw[am.out,if_pos (by omega)]);go_wp2_with fail;go_ret;exact⟨rI hv.out,X2.out.1⟩
 have d1:decide ((600:Int)<(nf:Int))=false:=aB (by omega);by_cases h2:6000<nc
 ·have d2:decide ((6000:Int)<(nc:Int))=true:=aC (by omega)
  have hv:Hid ((4:Int)=V):=hid (by rw[am.out,if_pos (by omega)]);go_wp2_with fail;go_ret;exact⟨rI hv.out,X2.out.1⟩
 have d2:decide ((6000:Int)<(nc:Int))=false:=aB (by omega);have b1:Hid (V=mV E1 (mV E2 E3)):=hid (by rw[am.out,if_neg (by omega)]);clear am;have s0:=X2.out.2.cell 0;simp only[aL,aJ,aK]at s0;go_wp2_with fail;clear s0;go_loopw [3] (fun i wr=>∃k:Nat,k≤no∧i=.int .i64 k∧Hid (E1=lZ (fun x:MO=>jQ x.o) (fun x y=>lK x.o y.o) (dJ os k) (os.drop k))∧Hid (SR w wr #[.slice oA no oc,.slice fA nf fc,.slice cA nc cc])) (fun i _=>no-(intOf i).toNat)
 case atStart=>exact⟨0,by omega,rfl,bd,X2⟩
 case round=>
  obtain⟨k,hk,rfl,hE,aj⟩:=hrel;clear X2
  rename World=>wr0
  have s0:=aj.out.2.cell 0;simp only[aL,aJ,aK]at s0;by_cases au:k<no
  ·have e1:decide ((k:Int)<(no:Int))=true:=aC (by omega)
   have a2:k<os.length:=by rw[←ar.out];exact au
   have ae:=HO.out wr0 aj.out.1;obtain⟨g,off,rfl,hg,c0,c1,c2⟩:=kS ae a2;have a0:=hid (fun h=>vC (chk:=(fun x:MO=>jQ x.o)) (bad:=(fun x y=>lK x.o y.o)) a2 h);have Y:Hid (k=0→(fun x:MO=>jQ x.o) os[k] = 0→lZ (fun x:MO=>jQ x.o) (fun x y=>lK x.o y.o) (dJ os k) (os.drop k)=lZ (fun x:MO=>jQ x.o) (fun x y=>lK x.o y.o) (dJ os (k+1)) (os.drop (k+1))):=hid (fun h hz=>by subst h;exact qK a2 hz);have J:Hid (∀m (h:m+1=k),(fun x:MO=>jQ x.o) os[k] = 0→lZ (fun x:MO=>jQ x.o) (fun x y=>lK x.o y.o) (dJ os k) (os.drop k)=bif (fun x y=>lK x.o y.o) (os[m]'(by omega)) os[k] then 13 else lZ (fun x:MO=>jQ x.o) (fun x y=>lK x.o y.o) (dJ os (k+1)) (os.drop (k+1))):=hid (fun m h hz=>by subst h;exact nT a2 hz);have a9:=hid (aR a2);have C1:=hid (CO.out _ aj.out.1 _ a9.out);obtain⟨x,hx⟩:∃x,Hid (os[k] = x):=⟨_,hid rfl⟩;rw[hx.out]at c0 c1 c2 C1 a0 Y J a9
   unfold MO.row at C1;obtain⟨z,hz⟩:∃z,Hid (jQ x.o=z):=⟨_,hid rfl⟩
   try dsimp only at a0 Y J
   rw[hz.out]at C1 a0 Y J;clear hz;obtain⟨⟨xn,xk,xm⟩,xA,xc⟩:=x;dsimp only at *;go_wp2_with fail;refine C1.out.mono ?_;rintro e w5 ⟨rfl,af⟩;have a1:=hid (aj.out.on af);have a5:=HO.out w5 a1.out.1;clear af C1 c0 c1 c2 ae s0;by_cases a3:z=0;rotate_left
   ·have dz:(z != 0)=true:=by simpa using a3
    have a4:=hid a3;have hv:Hid (z=V):=hid (Eq.symm (by rw[b1.out,hE.out,a0.out a4.out,zT a4.out]));clear a3 a5 Y J a0;go_wp2_with fail;go_ret;exact⟨rI hv.out,a1.out.1⟩
   have dz:(z != 0)=false:=by simpa using a3
   have a4:=hid a3;have s0:=a1.out.2.cell 0;simp only[aL,aJ,aK]at s0;clear a3 a0;rcases Nat.eq_zero_or_pos k with aa | aa
   ·have d5:decide (0<k)=false:=aB (by omega)
    have a8:=hid (hE.out.trans (Y.out aa a4.out));clear hE Y J a4 a5;go_wp2_with fail;go_quiet (fail);go_wp2_with fail;go_roundw
    case rel=>exact⟨k+1,by omega,by go_num,a8,hid (a1.out.drewN _)⟩
    case measure=>simp[intOf];omega
   ·have d5:decide (0<k)=true:=aC aa
    obtain⟨m2,ad⟩:∃m2,m2+1=k:=⟨k-1,by omega⟩;have bb:(k:Int)-1=(m2:Int):=by omega
    have bc:IntKind.i64.wrap (m2:Int)=(m2:Int):=IntWalk.i64_in _ (by omega);have a7:m2<os.length:=by omega
    have b4:m2<no:=by omega
    obtain⟨g3,b7,e3,_,p0,p1,p2⟩:=kS a5 a7;obtain⟨g4,b6,e4,_,c0,c1,c2⟩:=kS a5 a2;injection e3 with e3;injection e3 with e3 e3b;subst e3;subst e3b;injection e4 with e4;injection e4 with e4 e4b;subst e4;subst e4b;rw[hx.out]at c0 c1 c2;have a6:=hid (J.out m2 ad a4.out);generalize os[m2] = y at *;obtain⟨⟨yn,yk,ym⟩,yA,yc⟩:=y;dsimp only at *;clear Y J ad a7 a5;rcases ao:Op.bytesLess yn.toList xn.toList with _ | _
    ·have ah:=hid (show lK ⟨yn,yk,ym⟩ ⟨xn,xk,xm⟩=true by unfold lK mX;dsimp only;rw[ao];rfl)
     have hv:Hid ((13:Int)=V):=hid (Eq.symm (by rw[b1.out,hE.out,a6.out,ah.out];rfl));clear a6 hE;go_wp2_with fail;go_quiet (fail);go_wp2_with fail;go_ret;exact⟨rI hv.out,(a1.out.drewN _).1⟩
    ·have ah:=hid (show lK ⟨yn,yk,ym⟩ ⟨xn,xk,xm⟩=false by unfold lK mX;dsimp only;rw[ao];rfl)
     have a8:=hid (hE.out.trans (by rw[a6.out,ah.out,cond_false]));clear a6 hE;go_wp2_with fail;go_quiet (fail);go_wp2_with fail;go_roundw
     case rel=>exact⟨k+1,by omega,by go_num,a8,hid (a1.out.drewN _)⟩
     case measure=>simp[intOf];omega
  ·obtain rfl:no=k:=by omega
   have e1:decide ((no:Int)<(no:Int))=false:=aB (by omega);have ag:Hid (E1=0):=hid (by rw[hE.out,ar.out];exact vH _ _);have az:Hid (V=mV E2 E3):=hid (by rw[b1.out,ag.out,zL]);clear hE ag b1;have s1:=aj.out.2.cell 1;simp only[aL,aJ,aK]at s1;go_wp2_with fail;clear s0;clear s1;go_loopw [5] (fun i wr=>∃k:Nat,k≤nf∧i=.int .i64 k∧Hid (E2=lZ xY mQ (dJ fs k) (fs.drop k))∧Hid (SR w wr #[.slice oA no oc,.slice fA nf fc,.slice cA nc cc])) (fun i _=>nf-(intOf i).toNat)
   case atStart=>exact⟨0,by omega,rfl,a8,aj⟩
   case round=>
    obtain⟨k,hk,rfl,hE,ai⟩:=hrel;clear aj
    rename World=>wr1
    have s1:=ai.out.2.cell 1;simp only[aL,aJ,aK]at s1;by_cases au:k<nf
    ·have e1:decide ((k:Int)<(nf:Int))=true:=aC (by omega)
     have a2:k<fs.length:=by rw[←av.out];exact au
     have ae:=HF.out wr1 ai.out.1;obtain⟨g,off,rfl,hg,c0,c1,c2⟩:=oC ae a2;have a0:=hid (fun h=>vC (chk:=xY) (bad:=mQ) a2 h);have Y:Hid (k=0→xY fs[k] = 0→lZ xY mQ (dJ fs k) (fs.drop k)=lZ xY mQ (dJ fs (k+1)) (fs.drop (k+1))):=hid (fun h hz=>by subst h;exact qK a2 hz);have J:Hid (∀m (h:m+1=k),xY fs[k] = 0→lZ xY mQ (dJ fs k) (fs.drop k)=bif mQ (fs[m]'(by omega)) fs[k] then 13 else lZ xY mQ (dJ fs (k+1)) (fs.drop (k+1))):=hid (fun m h hz=>by subst h;exact nT a2 hz);have a9:=hid (aR a2);have C1:=hid (CF.out _ ai.out.1 _ a9.out);obtain⟨x,hx⟩:∃x,Hid (fs[k] = x):=⟨_,hid rfl⟩;rw[hx.out]at c0 c1 c2 C1 a0 Y J a9;unfold lF at C1;obtain⟨z,hz⟩:∃z,Hid (xY x=z):=⟨_,hid rfl⟩
     try dsimp only at a0 Y J
     rw[hz.out]at C1 a0 Y J;clear hz;obtain⟨xn,xk,xr⟩:=x;dsimp only at *;go_wp2_with fail;refine C1.out.mono ?_;rintro e w5 ⟨rfl,af⟩;have a1:=hid (ai.out.on af);have a5:=HF.out w5 a1.out.1;clear af C1 c0 c1 c2 ae s1;by_cases a3:z=0;rotate_left
     ·have dz:(z != 0)=true:=by simpa using a3
      have a4:=hid a3;have hv:Hid (z=V):=hid (Eq.symm (by rw[az.out,hE.out,a0.out a4.out,zT a4.out]));clear a3 a5 Y J a0;go_wp2_with fail;go_ret;exact⟨rI hv.out,a1.out.1⟩
     have dz:(z != 0)=false:=by simpa using a3
     have a4:=hid a3;have s1:=a1.out.2.cell 1;simp only[aL,aJ,aK]at s1;clear a3 a0;rcases Nat.eq_zero_or_pos k with aa | aa
     ·have d5:decide (0<k)=false:=aB (by omega)
      have a8:=hid (hE.out.trans (Y.out aa a4.out));clear hE Y J a4 a5;go_wp2_with fail;go_quiet (fail);go_wp2_with fail;go_roundw
      case rel=>exact⟨k+1,by omega,by go_num,a8,hid (a1.out.drewN _)⟩
      case measure=>simp[intOf];omega
     ·have d5:decide (0<k)=true:=aC aa
      obtain⟨m2,ad⟩:∃m2,m2+1=k:=⟨k-1,by omega⟩;have bb:(k:Int)-1=(m2:Int):=by omega
      have bc:IntKind.i64.wrap (m2:Int)=(m2:Int):=IntWalk.i64_in _ (by omega);have a7:m2<fs.length:=by omega
      have b4:m2<nf:=by omega
      obtain⟨g3,b7,e3,_,p0,p1,p2⟩:=oC a5 a7;obtain⟨g4,b6,e4,_,c0,c1,c2⟩:=oC a5 a2;injection e3 with e3;injection e3 with e3 e3b;subst e3;subst e3b;injection e4 with e4;injection e4 with e4 e4b;subst e4;subst e4b;rw[hx.out]at c0 c1 c2;have a6:=hid (J.out m2 ad a4.out);generalize fs[m2] = y at *;obtain⟨yn,yk,yr⟩:=y;dsimp only at *;clear Y J ad a7 a5;rcases ao:Op.bytesLess yn.toList xn.toList with _ | _
      ·have ah:=hid (show mQ ⟨yn,yk,yr⟩ ⟨xn,xk,xr⟩=true by unfold mQ mX;dsimp only;rw[ao];rfl)
       have hv:Hid ((13:Int)=V):=hid (Eq.symm (by rw[az.out,hE.out,a6.out,ah.out];rfl));clear a6 hE;go_wp2_with fail;go_quiet (fail);go_wp2_with fail;go_ret;exact⟨rI hv.out,(a1.out.drewN _).1⟩
      ·have ah:=hid (show mQ ⟨yn,yk,yr⟩ ⟨xn,xk,xr⟩=false by unfold mQ mX;dsimp only;rw[ao];rfl)
       have a8:=hid (hE.out.trans (by rw[a6.out,ah.out,cond_false]));clear a6 hE;go_wp2_with fail;go_quiet (fail);go_wp2_with fail;go_roundw
       case rel=>exact⟨k+1,by omega,by go_num,a8,hid (a1.out.drewN _)⟩
       case measure=>simp[intOf];omega
    ·obtain rfl:nf=k:=by omega
     have e1:decide ((nf:Int)<(nf:Int))=false:=aB (by omega);have ag:Hid (E2=0):=hid (by rw[hE.out,av.out];exact vH _ _);have b2:Hid (V=E3):=hid (by rw[az.out,ag.out,zL]);clear hE ag az;have s2:=ai.out.2.cell 2;simp only[aL,aJ,aK]at s2;go_wp2_with fail;clear s1;clear s2;go_loopw [7] (fun i wr=>∃k:Nat,k≤nc∧i=.int .i64 k∧Hid (E3=lZ (fun x:MC=>iN x.c) (fun x y=>pR x.c y.c) (dJ cs k) (cs.drop k))∧Hid (SR w wr #[.slice oA no oc,.slice fA nf fc,.slice cA nc cc])) (fun i _=>nc-(intOf i).toNat)
     case atStart=>exact⟨0,by omega,rfl,bg,ai⟩
     case round=>
      obtain⟨k,hk,rfl,hE,ak⟩:=hrel;clear ai
      rename World=>wr2
      have s2:=ak.out.2.cell 2;simp only[aL,aJ,aK]at s2;by_cases au:k<nc
      ·have e1:decide ((k:Int)<(nc:Int))=true:=aC (by omega)
       have a2:k<cs.length:=by rw[←aw.out];exact au
       have ae:=HC.out wr2 ak.out.1;obtain⟨g,off,rfl,hg,c0,c1,c2,c3,c4,c5⟩:=nA ae a2;have a0:=hid (fun h=>vC (chk:=(fun x:MC=>iN x.c)) (bad:=(fun x y=>pR x.c y.c)) a2 h);have Y:Hid (k=0→(fun x:MC=>iN x.c) cs[k] = 0→lZ (fun x:MC=>iN x.c) (fun x y=>pR x.c y.c) (dJ cs k) (cs.drop k)=lZ (fun x:MC=>iN x.c) (fun x y=>pR x.c y.c) (dJ cs (k+1)) (cs.drop (k+1))):=hid (fun h hz=>by subst h;exact qK a2 hz);have J:Hid (∀m (h:m+1=k),(fun x:MC=>iN x.c) cs[k] = 0→lZ (fun x:MC=>iN x.c) (fun x y=>pR x.c y.c) (dJ cs k) (cs.drop k)=bif (fun x y=>pR x.c y.c) (cs[m]'(by omega)) cs[k] then 13 else lZ (fun x:MC=>iN x.c) (fun x y=>pR x.c y.c) (dJ cs (k+1)) (cs.drop (k+1))):=hid (fun m h hz=>by subst h;exact nT a2 hz);have a9:=hid (aR a2);have C1:=hid (CC.out _ ak.out.1 _ a9.out);obtain⟨x,hx⟩:∃x,Hid (cs[k] = x):=⟨_,hid rfl⟩
       rw[hx.out]at c0 c1 c2 c3 c4 c5 C1 a0 Y J a9;unfold MC.row at C1;obtain⟨z,hz⟩:∃z,Hid (iN x.c=z):=⟨_,hid rfl⟩
       try dsimp only at a0 Y J
       rw[hz.out]at C1 a0 Y J;clear hz;obtain⟨⟨xo,xa,xb,xk,xt,xg⟩,xA,xc⟩:=x;dsimp only at *;go_wp2_with fail;refine C1.out.mono ?_;rintro e w5 ⟨rfl,af⟩;have a1:=hid (ak.out.on af);have a5:=HC.out w5 a1.out.1;clear af C1 c0 c1 c2 c3 c4 c5 ae s2;by_cases a3:z=0;rotate_left
       ·have dz:(z != 0)=true:=by simpa using a3
        have a4:=hid a3;have hv:Hid (z=V):=hid (Eq.symm (by rw[b2.out,hE.out,a0.out a4.out]));clear a3 a5 Y J a0;go_wp2_with fail;go_ret;exact⟨rI hv.out,a1.out.1⟩
       have dz:(z != 0)=false:=by simpa using a3
       have a4:=hid a3;have s2:=a1.out.2.cell 2;simp only[aL,aJ,aK]at s2;clear a3 a0;rcases Nat.eq_zero_or_pos k with aa | aa
       ·have d5:decide (0<k)=false:=aB (by omega)
        have a8:=hid (hE.out.trans (Y.out aa a4.out));clear hE Y J a4 a5;go_wp2_with fail;go_quiet (fail);go_wp2_with fail;go_roundw
        case rel=>exact⟨k+1,by omega,by go_num,a8,hid (a1.out.drewN _)⟩
        case measure=>simp[intOf];omega
       ·have d5:decide (0<k)=true:=aC aa
        obtain⟨m2,ad⟩:∃m2,m2+1=k:=⟨k-1,by omega⟩;have bb:(k:Int)-1=(m2:Int):=by omega
        have bc:IntKind.i64.wrap (m2:Int)=(m2:Int):=IntWalk.i64_in _ (by omega);have a7:m2<cs.length:=by omega
        have b4:m2<nc:=by omega
        obtain⟨g3,b7,e3,_,p0,p1,p2,p3,p4,p5⟩:=nA a5 a7;obtain⟨g4,b6,e4,_,c0,c1,c2,c3,c4,c5⟩:=nA a5 a2;injection e3 with e3;injection e3 with e3 e3b;subst e3;subst e3b;injection e4 with e4;injection e4 with e4 e4b;subst e4;subst e4b;rw[hx.out]at c0 c1 c2 c3 c4 c5;have a6:=hid (J.out m2 ad a4.out);have ax:=hid (fun W hb=>CK.out W hb _ (aR a7) _ a9.out);generalize cs[m2] = y at *;obtain⟨⟨yo,ya,yb,yk,yt,yg⟩,yA,yc⟩:=y;dsimp only at *;clear Y J ad a7 a5;have bf:Hid (pR ⟨yo,ya,yb,yk,yt,yg⟩ ⟨xo,xa,xb,xk,xt,xg⟩=decide (0≤wT ⟨yo,ya,yb,yk,yt,yg⟩ ⟨xo,xa,xb,xk,xt,xg⟩)):=hid rfl;unfold MC.row at ax;dsimp only at ax;generalize wT ⟨yo,ya,yb,yk,yt,yg⟩ ⟨xo,xa,xb,xk,xt,xg⟩=v at *;rw[bf.out]at a6;clear bf;go_wp2_with fail;refine mE 14 (by kernel_rfl) (by kernel_rfl) fun W hW=>?_
        have ap:=a1.out.drew;rw[←hW]at ap;have b3:=hid ap;clear ap;have bj:W.cell? _=_:=(congrArg (fun w9:World=>w9.cell? _) hW).trans s2;have bm:W.cell? _=_:=(congrArg (fun w9:World=>w9.cell? _) hW).trans p0;have br:W.cell? _=_:=(congrArg (fun w9:World=>w9.cell? _) hW).trans p1;have bu:W.cell? _=_:=(congrArg (fun w9:World=>w9.cell? _) hW).trans p2;have bl:W.cell? _=_:=(congrArg (fun w9:World=>w9.cell? _) hW).trans p3;have bo:W.cell? _=_:=(congrArg (fun w9:World=>w9.cell? _) hW).trans p4;have bk:W.cell? _=_:=(congrArg (fun w9:World=>w9.cell? _) hW).trans p5;have bp:W.cell? _=_:=(congrArg (fun w9:World=>w9.cell? _) hW).trans c0;have bz:W.cell? _=_:=(congrArg (fun w9:World=>w9.cell? _) hW).trans c1;have bn:W.cell? _=_:=(congrArg (fun w9:World=>w9.cell? _) hW).trans c2;have bi:W.cell? _=_:=(congrArg (fun w9:World=>w9.cell? _) hW).trans c3;have bv:W.cell? _=_:=(congrArg (fun w9:World=>w9.cell? _) hW).trans c4
        have bq:W.cell? _=_:=(congrArg (fun w9:World=>w9.cell? _) hW).trans c5;clear hW s2 p0 p1 p2 p3 p4 p5 c0 c1 c2 c3 c4 c5 a1;simp only[List.take_succ_cons,List.take_zero,List.drop_succ_cons,List.drop_zero]
        iterate 14 still_step
        refine wpStill_nil ?_;clear bj bm br bu bl bo bk bp bz bn bi bv bq;by_cases ay:0≤v
        ·have d7:decide (0≤v)=true:=aC ay
         have hv:Hid ((13:Int)=V):=hid (Eq.symm (by rw[b2.out,hE.out,a6.out,d7];rfl));clear a6 hE ay
         go_wp2_with (refine(ax.out _ b3.out.1).mono ?_;rintro e w6 ⟨rfl,b9⟩)
         go_ret;exact⟨rI hv.out,(b3.out.on b9).1⟩
        ·have d7:decide (0≤v)=false:=aB ay
         have a8:=hid (hE.out.trans (by rw[a6.out,d7,cond_false]));clear a6 hE ay
         go_wp2_with (refine(ax.out _ b3.out.1).mono ?_;rintro e w6 ⟨rfl,b9⟩)
         go_roundw
         case rel=>exact⟨k+1,by omega,by go_num,a8,hid (b3.out.on b9)⟩
         case measure=>simp[intOf];omega
      ·obtain rfl:nc=k:=by omega
       have e1:decide ((nc:Int)<(nc:Int))=false:=aB (by omega);have ag:Hid (E3=0):=hid (by rw[hE.out,aw.out];exact vH _ _);have bw:Hid ((0:Int)=V):=hid (by rw[b2.out,ag.out]);clear hE ag b2;go_wp2_with fail;go_ret;exact⟨rI bw.out,ak.out.1⟩
end sy
end Go.Proofs.YtdmmkjijgoiecaaGreatDoor
