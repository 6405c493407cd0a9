import Derived.Test.YtdmmkjijgoiecaaGreatDoorZ04
import Derived.Test.YtdmmkjijgoiecaaGreatDoorB40
set_option linter.all false
set_option maxHeartbeats 4000000
namespace Go.Proofs.YtdmmkjijgoiecaaGreatDoor
open Lib(hid)
set_option maxRecDepth 100000
namespace sf
open RowKit Go.Sort mem sy inn
theorem aMq{T:List (List UInt8)}{j:Nat}(J:j+1<T.length)(h:¬T[j]<T[j+1]):gJ T=false:=by
 rcases hr:gJ T with _ | _
 ·rfl
 ·exact absurd ((aBc T).2 hr j J) h
theorem aHJ(w:World)(A:Option Addr)(c:Nat)(T:List (List UInt8))(h:Rd w A (T.map encStr))(hm:T.length≤maxLen) :
 Calls Tryz.prog 58 #[.slice A T.length c] w (cZ (gJ T) w):=by
 have HR:Hid (∀w2,Below w.heap.size w w2→Rd w2 A (T.map encStr)):=hid (fun w2 b=>h.below b)
 unfold maxLen at hm;clear h;obtain⟨n,hN⟩:∃n,Hid (n=T.length):=⟨_,hid rfl⟩;obtain⟨V,hV⟩:∃V,Hid (V=gJ T):=⟨_,hid rfl⟩;rw[←hN.out]at hm ⊢;rw[←hV.out];unfold cZ;go_enter Tryz.func58,Tryz.ntmps58;go_wp2_with fail
 go_loopw [3] (fun i wr=>∃k:Nat,i=.int .i64 (k+1:Nat)∧(k+1≤n∨k=0)∧Hid (∀j (h:j+1<T.length),j<k→T[j]<T[j+1])∧Hid (Below w.heap.size w wr)) (fun i _=>n+1-(intOf i).toNat)
 case atStart=>exact⟨0,rfl,by omega,hid (fun j hj hk=>by omega),hid (Below.refl _ _)⟩
 case round=>
  obtain⟨k,rfl,a8,hG,hb⟩:=hrel
  rename World=>wr
  by_cases a6:k+1<n
  ·have e1:decide (((k+1:Nat):Int)<(n:Int))=true:=aC (by omega)
   have a5:k+1<T.length:=by rw[←hN.out];exact a6
   obtain⟨g,off,rfl,a7,hc⟩:=HR.out wr hb.out (by rw[aH];omega)
   have c1:=hc (k+1) (by rw[aH];exact a5)
   have c2:=hc k (by rw[aH];omega)
   rw[List.getElem_map]at c1 c2
   have a4:Hid (T[k]<T[k+1]→∀j (h:j+1<T.length),j<k+1→T[j]<T[j+1]):=hid (fun hn i hi hk=>by
    by_cases e:i=k
    ·subst e;exact hn
    ·exact hG.out i hi (by omega))
   have a0:Hid (¬T[k]<T[k+1]→V=false):=hid (fun h=>by rw[hV.out];exact aMq a5 h)
   have a9:wrap64 (((k+1:Nat):Int)-1)=(k:Int):=by unfold wrap64;omega
   have J:=hid (po.nH T[k+1] T[k])
   have Y:Hid ((T[k]<T[k+1]∧¬T[k+1]<T[k]∧¬T[k+1] = T[k])∨(¬T[k]<T[k+1]∧T[k+1]<T[k])∨(¬T[k]<T[k+1]∧¬T[k+1]<T[k]∧T[k+1] = T[k])):=hid (by
    rcases nS.tot T[k] T[k+1] with h | h | h
    ·exact Or.inl ⟨h,fun h2=>nS.irr _ (nS.tr _ _ _ h h2),fun h2=>nS.irr T[k] (by rw[h2]at h;exact h)⟩
    ·exact Or.inr (Or.inr ⟨by rw[h];exact nS.irr _,by rw[h];exact nS.irr _,h.symm⟩)
    ·exact Or.inr (Or.inl ⟨fun h2=>nS.irr _ (nS.tr _ _ _ h h2),h⟩))
   clear hc a7 hG;unfold encStr at c1 c2
   rcases Y.out with⟨h1,h2,h3⟩ | ⟨h1,h2⟩ | ⟨h1,h2,h3⟩
   ·have hv:=hid (a4.out h1)
    have a1:Op.bytesLess T[k+1] T[k] = false:=J.out.trans (aB h2);have a2:(T[k+1]==T[k])=false:=by simpa using h3
    clear a4 a0 J Y h1 h2 h3;generalize T[k+1] = y1 at c1 a1 a2;generalize T[k] = y2 at c2 a1 a2;go_wp2_with fail
    go_quiet (fail)
    have a3:=hid (fC hb.out hb.out.size nq);go_wp2_with fail
    go_roundw
    case rel=>exact⟨k+1,by first | rfl | go_num,by omega,hv,a3⟩
    case measure=>simp[intOf];omega
   ·have hv:=hid (a0.out h1)
    have a1:Op.bytesLess T[k+1] T[k] = true:=J.out.trans (aC h2);clear a4 a0 J Y h1 h2;generalize T[k+1] = y1 at *;generalize T[k] = y2 at *;go_wp2_with fail
    go_quiet (fail)
    have a3:=hid (fC hb.out hb.out.size nq);go_wp2_with fail;go_ret;exact⟨by rw[hv.out];rfl,a3.out⟩
   ·have hv:=hid (a0.out h1)
    have a1:Op.bytesLess T[k+1] T[k] = false:=J.out.trans (aB h2);have a2:(T[k+1]==T[k])=true:=by simpa using h3
    clear a4 a0 J Y h1 h2 h3;generalize T[k+1] = y1 at *;generalize T[k] = y2 at *;go_wp2_with fail
    go_quiet (fail)
    have a3:=hid (fC hb.out hb.out.size nq);go_wp2_with fail;go_ret;exact⟨by rw[hv.out];rfl,a3.out⟩
  ·have e1:decide (((k+1:Nat):Int)<(n:Int))=false:=aB (by omega)
   have hS:Hid (V=true):=hid (by
    rw[hV.out,←aBc];intro j hj;refine hG.out j hj ?_;have:=hN.out
    omega)
   go_wp2_with fail;go_ret;exact⟨by rw[hS.out];rfl,hb.out⟩
end sf
set_option maxRecDepth 100000
namespace sf
open RowKit mem sy
open re (tx eY MU SU)
def aDr(s:MS)(x:ByteArray):Bool:=(s.os.any fun o=>o.o.name.toList==x.toList)||(s.fs.any fun f=>f.name.toList==x.toList)
theorem aJh(u:MU)(x:ByteArray):aDr u.s x=inD u.su x:=by
 unfold aDr inD aFJ MU.su MS.sys;rw[Bool.eq_iff_iff];simp only[Bool.or_eq_true,List.any_eq_true,beq_iff_eq,bJ,List.mem_append,List.mem_map,Lib.toList_data];constructor
 ·rintro(⟨o,ho,h⟩ | ⟨f,hf,h⟩)
  ·exact Or.inl ⟨o.o,⟨o,ho,rfl⟩,h⟩
  ·exact Or.inr ⟨f,hf,h⟩
 ·rintro(⟨o,⟨p,Y,rfl⟩,J⟩ | ⟨f,hf,J⟩)
  ·exact Or.inl ⟨p,Y,J⟩
  ·exact Or.inr ⟨f,hf,J⟩
theorem aEU{α:Type}(f:α→Bool)(l:List α){k:Nat}(J:k<l.length):(l.take (k+1)).any f=((l.take k).any f||f l[k]):=by
 rw[bC J,List.any_append];simp
theorem aIB(w:World)(s:MS)(hs:vO w s)(x:ByteArray):Calls Tryz.prog 59 #[s.val,.string x] w (cZ (aDr s x) w):=by
 have a3:=hs.ol;have a4:=hs.fl;obtain⟨oA,oc,os,fA,fc,fs,cA,cc,cs⟩:=s;dsimp only at a3 a4;unfold MS.val aDr;dsimp only;obtain⟨V,hV⟩:∃V,Hid (V=((os.any fun o=>o.o.name.toList==x.toList)||(fs.any fun f=>f.name.toList==x.toList))):=⟨_,hid rfl⟩
 rw[←hV.out];obtain⟨no,a0⟩:∃no,Hid (no=os.length):=⟨_,hid rfl⟩;obtain⟨nf,Y⟩:∃nf,Hid (nf=fs.length):=⟨_,hid rfl⟩;rw[←a0.out]at a3 ⊢;rw[←Y.out]at a4 ⊢;generalize cs.length=nc at *;unfold maxLen at a3 a4;obtain⟨W,hW⟩:∃W,Hid (W=w.alloc (.cells #[.slice oA no oc,.slice fA nf fc,.slice cA nc cc] 27)):=⟨_,hid rfl⟩;have hB:=bT.new w 27 #[.slice oA no oc,.slice fA nf fc,.slice cA nc cc];have hb:Below w.heap.size w W:=by rw[hW.out];exact(Below.refl _ _).alloc (aY _) _
 rw[←hW.out]at hB;have y0:W.cell? ⟨w.heap.size,0,none⟩=some (.slice oA no oc):=hB.cell 0;have y1:W.cell? ⟨w.heap.size,1,none⟩=some (.slice fA nf fc):=hB.cell 1;have HO:=hid (hs.o.below hb);have HF:=hid (hs.f.below hb);have HB:=hid hb;clear hs hb hB;unfold cZ;go_enter Tryz.func59,Tryz.ntmps59;go_upto_region 2 with fail;rw[←hW.out];clear hW
 go_loopw [5] (fun i wr=>∃k:Nat,k≤no∧i=.int .i64 k∧wr=W∧Hid (((os.take k).any fun o=>o.o.name.toList==x.toList)=false)) (fun i _=>no-(intOf i).toNat)
 case atStart=>exact⟨0,by omega,rfl,rfl,hid rfl⟩
 case round=>
  obtain⟨k,hk,rfl,rfl,hG⟩:=hrel
  by_cases a5:k<no
  ·have e1:decide ((k:Int)<(no:Int))=true:=aC (by omega)
   have a1:k<os.length:=by rw[←a0.out];exact a5
   obtain⟨g,off,rfl,hg,c0,c1,c2⟩:=iK HO.out a1;have J:=hid (aEU (fun o:MO=>o.o.name.toList==x.toList) os a1)
   rw[hG.out,Bool.false_or]at J
   have hY:Hid ((os[k].o.name.toList==x.toList)=true→V=true):=hid (fun h=>by
    rw[hV.out,Bool.or_eq_true]
    exact Or.inl (List.any_eq_true.2 ⟨os[k],aR a1,h⟩))
   generalize os[k].o.name=y at *;clear c1 c2 hg
   rcases hq:(y.toList==x.toList)with _ | _
   ·rw[hq]at J
    clear hY;go_wp2_with fail
    go_roundw
    case rel=>exact⟨k+1,by omega,by go_num,(by first | trivial | rfl),J⟩
    case measure=>simp[intOf];omega
   ·have hv:=hid (hY.out hq)
    go_wp2_with fail;go_ret;exact⟨by rw[hv.out];rfl,HB.out⟩
  ·obtain rfl:k=no:=by omega
   have e1:decide ((k:Int)<(k:Int))=false:=aB (by omega)
   have hO:Hid ((os.any fun o=>o.o.name.toList==x.toList)=false):=hid (by
    have:=hG.out
    rwa[bE (by rw[a0.out];exact aY _)]at this)
   clear hG;go_wp2_with fail
   rename World=>W
   go_loopw [6] (fun i wr=>∃j:Nat,j≤nf∧i=.int .i64 j∧wr=W∧Hid (((fs.take j).any fun f=>f.name.toList==x.toList)=false)) (fun i _=>nf-(intOf i).toNat)
   case atStart=>exact⟨0,by omega,rfl,rfl,hid rfl⟩
   case round=>
    obtain⟨j,hj,rfl,rfl,hG⟩:=hrel
    by_cases a6:j<nf
    ·have e1:decide ((j:Int)<(nf:Int))=true:=aC (by omega)
     have a2:j<fs.length:=by rw[←Y.out];exact a6
     obtain⟨g,off,rfl,hg,c0,c1,c2⟩:=lS HF.out a2;have J:=hid (aEU (fun f:SF=>f.name.toList==x.toList) fs a2)
     rw[hG.out,Bool.false_or]at J
     have hY:Hid ((fs[j].name.toList==x.toList)=true→V=true):=hid (fun h=>by
      rw[hV.out,Bool.or_eq_true]
      exact Or.inr (List.any_eq_true.2 ⟨fs[j],aR a2,h⟩))
     generalize fs[j].name=y at *;clear c1 c2 hg
     rcases hq:(y.toList==x.toList)with _ | _
     ·rw[hq]at J
      clear hY;go_wp2_with fail
      go_roundw
      case rel=>exact⟨j+1,by omega,by go_num,(by first | trivial | rfl),J⟩
      case measure=>simp[intOf];omega
     ·have hv:=hid (hY.out hq)
      go_wp2_with fail;go_ret;exact⟨by rw[hv.out];rfl,HB.out⟩
    ·obtain rfl:j=nf:=by omega
     have e1:decide ((j:Int)<(j:Int))=false:=aB (by omega)
     have hF:Hid ((fs.any fun f=>f.name.toList==x.toList)=false):=hid (by
      have:=hG.out
      rwa[bE (by rw[Y.out];exact aY _)]at this)
     have hv:Hid (V=false):=hid (by rw[hV.out,hO.out,hF.out];rfl)
     go_wp2_with fail;go_ret;exact⟨by rw[hv.out];rfl,HB.out⟩
end sf
set_option maxRecDepth 100000
namespace sf
open RowKit Go.Sort mem sy dg
open re (tx eY MU SU)
theorem lV{b:Bool}{c:Int}{r:List Int}(hc:c≠0):eQ (iY b c :: r)=if b then eQ r else c:=by
 unfold iY;cases b
 ·show(if(c=0) then _ else c)=c
  rw[if_neg hc]
 ·rfl
theorem tL{α:Type}(f:α→Bool)(l:List α){k:Nat}(J:k<l.length):(l.take (k+1)).all f=((l.take k).all f&&f l[k]):=by
 rw[bC J,List.all_append];simp
theorem aAU{α:Type}{f:α→Bool}{l:List α}{k:Nat}(J:k<l.length)(h:f l[k] = false):l.all f=false:=by
 rcases hr:l.all f with _ | _
 ·rfl
 ·rw[List.all_eq_true.1 hr _ (aR J)]at h
  cases h
theorem wD(w:World)(u:MU)(hu:aIc w u)(b5:∀x∈u.s.cs,x.c.args.length≤8796093022208):Calls Tryz.prog 17 #[u.val] w (dD (eQ (tK u.su)) w):=by
 obtain⟨W1,am⟩:∃W1,Hid (W1=w.alloc (.cells u.row 29)):=⟨_,hid rfl⟩;have bW:Below w.heap.size w W1:=by rw[am.out];exact(Below.refl _ _).alloc (aY _) _
 have B0:bT W1 w.heap.size 29 u.row:=by rw[am.out];exact bT.new w _ _
 have HB:=hid (fun Y (b:Below W1.heap.size W1 Y)=>B0.kept (Fr.of_below b []) (by simp))
 have HU:=hid (fun Y (b:Below W1.heap.size W1 Y)=>(hu.below bW).below b)
 have HP:=hid (fun(Y:World) (b:Below W1.heap.size W1 Y)=>bW.trans (b.mono bW.size))
 have ap:=hid (fun Y=>dg.aCP u.name Y hu.n)
 have b1:=hid (fun Y b=>aFr u.s Y (HU.out Y b).m.sr aLI b5)
 have av:Hid (∀Y,Below W1.heap.size W1 Y→∀x,Calls Tryz.prog 59 #[u.s.val,.string x] Y (cZ (inD u.su x) Y)):=hid (fun Y b x=>by rw[←aJh];exact aIB Y u.s (HU.out Y b).m.sr x)
 have ay:Hid (∀Y,Below W1.heap.size W1 Y→∀A c (l:List ByteArray),Rd Y A (l.map Value.string)→l.length≤maxLen→Calls Tryz.prog 58 #[.slice A l.length c] Y (cZ (gJ (l.map tx)) Y)):=hid (fun Y b A c l hr hl=>by
  have k:=aHJ Y A c (l.map tx) (by rw[nY];exact hr) (by rw[aH];exact hl)
  rw[aH]at k
  exact k)
 have bi:=hu.wl;have bf:=hu.gl;have bh:=hu.kl;obtain⟨V,hV⟩:∃V,Hid (V=eQ (tK u.su)):=⟨_,hid rfl⟩;rw[←hV.out];have b7:V=eQ [iY (bZ u.name) 11,iW u.s.sys,iY (gJ (u.gives.map tx)) 13,iY (u.gives.all (inD u.su)) 7,iY (gJ (u.wants.map tx)) 13,iY (u.wants.all (inD u.su)) 7,iY (u.gives.all (fun s=>!inW u.su s)) 8,iY (decide (u.keeps.length≤6000)) 4,iY (gJ (u.keeps.map tx)) 13,iY (u.keeps.all dP) 11]:=hV.out
 have HV:=hid b7;have HI:Hid (∀s,inW u.su s=decide (tx s∈u.wants.map tx)):=hid (fun s=>rfl)
 obtain⟨D,hD⟩:∃D,Hid (D=inD u.su):=⟨_,hid rfl⟩;obtain⟨I,hI⟩:∃I,Hid (I=inW u.su):=⟨_,hid rfl⟩;rw[←hD.out]at av HV;rw[←hI.out]at HV HI;clear hu bW B0 b5 hV b7 hD hI;obtain⟨nm,gA,gc,gs,wA,wc,ws,kA,kc,ks,⟨oA,oc,os,fA,fc,fs,cA,cc,cs⟩⟩:=u;dsimp only at *;have y0:=fun Y b=>(HB.out Y b).cell 0
 have y1:=fun Y b=>(HB.out Y b).cell 1
 have y2:=fun Y b=>(HB.out Y b).cell 2
 have y3:=fun Y b=>(HB.out Y b).cell 3
 have y4:=fun Y b=>(HB.out Y b).cell 4
 have y5:=fun Y b=>(HB.out Y b).cell 5
 have y6:=fun Y b=>(HB.out Y b).cell 6
 unfold MU.val MU.row at *;dsimp only at *;simp only[aL,aJ,aK]at y0 y1 y2 y3 y4 y5 y6;have Y0:=hid y0;have Y1:=hid y1;have Y2:=hid y2;have Y3:=hid y3;have Y4:=hid y4;have Y5:=hid y5;have Y6:=hid y6;clear y0 y1 y2 y3 y4 y5 y6;unfold MS.val at *;dsimp only at *;have z0:=Y0.out W1 (Below.refl _ _);have z4:=Y4.out W1 (Below.refl _ _);have z5:=Y5.out W1 (Below.refl _ _);have z6:=Y6.out W1 (Below.refl _ _);unfold dD at *;go_enter Tryz.func17,Tryz.ntmps17;go_upto_region 1 with fail;rw[←am.out];clear am;have ao:=hid (b1.out W1 (Below.refl _ _));have bb:=hid (HP.out W1 (Below.refl _ _));generalize bZ nm=nB at *
 rcases nB with _ | _
 ·have hv:Hid (V=11):=hid HV.out
  go_wp2_with fail;refine(ap.out _).mono ?_;rintro e Y ⟨rfl,rfl⟩;go_wp2_with fail;go_ret;exact⟨by rw[hv.out];rfl,bb.out⟩
 rw[lV (by decide),if_pos rfl]at HV
 go_wp2_with fail;refine(ap.out _).mono ?_;rintro e Y ⟨rfl,rfl⟩;clear ap;go_wp2_with fail;generalize iW _=ce at *;refine ao.out.mono ?_;rintro e Y ⟨rfl,b2⟩;have az:=hid b2;clear b2 ao b1 z0 z4 z5 z6
 by_cases aw:ce=0
 rotate_left
 ·have q0:(ce != 0)=true:=by simpa using aw
  have hv:Hid (V=ce):=hid (by rw[HV.out];exact if_neg aw)
  have bc:=hid (HP.out Y az.out);go_wp2_with fail;go_ret;exact⟨by rw[hv.out];rfl,bc.out⟩
 subst aw;have ah:=HV.out;rw[show ∀r,eQ ((0:Int) :: r)=eQ r from fun r=>if_pos rfl]at ah
 obtain⟨ES,af⟩:∃ES,Hid (ES=[iY (gJ (gs.map tx)) 13,iY (gs.all D) 7,iY (gJ (ws.map tx)) 13,iY (ws.all D) 7,iY (gs.all (fun s=>!I s)) 8,iY (decide (ks.length≤6000)) 4,iY (gJ (ks.map tx)) 13,iY (ks.all dP) 11]):=⟨_,hid rfl⟩
 have b8:Hid (V=eQ (ES.drop (2 * 0))):=hid (by rw[ah,af.out];rfl)
 clear ah HV;go_wp2_with fail
 go_loopw [4] (fun i wr=>∃k:Nat,k≤2∧i=.int .i64 k∧Hid (V=eQ (ES.drop (2 * k)))∧Hid (Below W1.heap.size W1 wr)) (fun i _=>2-(intOf i).toNat)
 case atStart=>exact⟨0,by omega,rfl,b8,az⟩
 case round=>
  obtain⟨k,hk,rfl,hF,hb⟩:=hrel;clear b8 az
  rename World=>wr
  have z1:=Y1.out wr hb.out;have z2:=Y2.out wr hb.out;have a1:Hid (Below W1.heap.size W1 (wr.alloc (.cells #[.slice gA gs.length gc,.slice wA ws.length wc] 22))):=hid (hb.out.alloc hb.out.size _)
  rcases(show k=0∨k=1∨k=2 by omega)with rfl | rfl | rfl
  ·have e1:decide (((0:Nat):Int)<2)=true:=by decide
   have a3:=hF.out;rw[af.out]at a3;rw[show ∀(x0 x1 x2 x3 x4 x5 x6 x7:Int),List.drop (2 * 0) [x0,x1,x2,x3,x4,x5,x6,x7] = [x0,x1,x2,x3,x4,x5,x6,x7] from fun _ _ _ _ _ _ _ _=>rfl,lV (by decide)]at a3
   have hN:Hid (V=eQ (ES.drop (2 * (0+1)))∨¬(gJ (gs.map tx)=true∧gs.all D=true)):=hid (by
    by_cases h1:gJ (gs.map tx)=true
    ·by_cases h2:gs.all D=true
     ·refine Or.inl ?_
      rw[a3,if_pos h1,lV (by decide),if_pos h2,af.out]
      rfl
     ·exact Or.inr (fun h=>h2 h.2)
    ·exact Or.inr (fun h=>h1 h.1))
   have a5:Hid (gJ (gs.map tx)=false→V=13):=hid (fun h=>by rw[a3,h];rfl)
   have a7:Hid (gJ (gs.map tx)=true→gs.all D=false→V=7):=hid (fun h1 h2=>by rw[a3,if_pos h1,lV (by decide),h2];rfl)
   clear a3 hF;have K:=hid (ay.out _ a1.out gA gc gs (HU.out _ a1.out).m.gr (aZ bf (by decide)))
   rcases hr:gJ (gs.map tx)with _ | _
   ·have hv:=hid (a5.out hr)
    rw[hr]at K;go_wp2_with fail;refine K.out.mono ?_;rintro e w3 ⟨rfl,b3⟩;have aj:=hid (HP.out w3 (a1.out.trans (b3.mono a1.out.size)));go_wp2_with fail;go_ret;exact⟨by rw[hv.out];rfl,aj.out⟩
   ·rw[hr]at K
    have ae:=hid (a7.out hr);go_wp2_with fail;refine K.out.mono ?_;rintro e w3 ⟨rfl,b3⟩;have a9:=hid (a1.out.trans (b3.mono a1.out.size));clear b3 K a5 a7;go_wp2_with fail;have a4:Hid ((gs.take 0).all D=true):=hid rfl
    go_loopw [6] (fun i wx=>∃j:Nat,j≤gs.length∧i=.int .i64 j∧Hid ((gs.take j).all D=true)∧Hid (Below W1.heap.size W1 wx)) (fun i _=>gs.length-(intOf i).toNat)
    case atStart=>exact⟨0,by omega,rfl,a4,a9⟩
    case round=>
     obtain⟨j,hj,rfl,hG,hx⟩:=hrel;clear a9 a1 hb z1 z2 a4
     rename World=>wx
     by_cases a2:j<gs.length
     ·have e2:decide ((j:Int)<(gs.length:Int))=true:=aC (by omega)
      obtain⟨g,off,rfl,a6,hc⟩:=(HU.out wx hx.out).m.gr (by rw[aH];exact Nat.lt_of_le_of_lt (bA _) a2)
      have c0:=hc j (by rw[aH];exact a2)
      rw[List.getElem_map]at c0;have a0:=hid (tL D gs a2);rw[hG.out,Bool.true_and]at a0;have aa:Hid (D gs[j] = false→V=7):=hid (fun h=>ae.out (aAU a2 h))
      have J:Hid (Below W1.heap.size W1 wx.drew):=hid hx.out.drew;have z4:=Y4.out wx hx.out;have z5:=Y5.out wx hx.out;have z6:=Y6.out wx hx.out;have d4:=Y4.out wx.drew J.out;have d5:=Y5.out wx.drew J.out;have d6:=Y6.out wx.drew J.out;have KT:=hid (av.out wx.drew J.out gs[j]);unfold cZ at KT;clear a6 hc hG;generalize gs[j] = x at *;have b9:wx.drew.cell? ⟨g,off+j,none⟩=some (.string x):=c0
      rcases hq:D x with _ | _
      ·have hv:=hid (aa.out hq)
       rw[hq]at KT;go_wp2_with fail
       go_region_with (go_at_call 59;refine KT.out.mono ?_;rintro e w4 ⟨rfl,b4⟩;have a8:=hid (J.out.trans (b4.mono J.out.size));clear b4)
       all_goals (go_wp2_with fail;go_ret;exact⟨by rw[hv.out];rfl,HP.out _ a8.out⟩)
      ·rw[hq]at KT a0
       go_wp2_with fail
       go_region_with (go_at_call 59;refine KT.out.mono ?_;rintro e w4 ⟨rfl,b4⟩;have a8:=hid (J.out.trans (b4.mono J.out.size));clear b4)
       all_goals (go_wp2_with fail;go_roundw)
       all_goals first | exact⟨j+1,by omega,by go_num,a0,a8⟩ | (simp[intOf];omega)
     ·obtain rfl:j=gs.length:=by omega
      have e2:decide ((gs.length:Int)<(gs.length:Int))=false:=aB (by omega)
      have ar:Hid (V=eQ (ES.drop (2 * (0+1)))):=hid (by
       rcases hN.out with h | h
       ·exact h
       ·exfalso
        refine h ⟨hr,?_⟩;have:=hG.out
        rwa[bF]at this)
      go_wp2_with fail
      go_roundw
      case rel=>exact⟨0+1,by omega,by go_num,ar,hx⟩
      case measure=>simp[intOf]
  ·have e1:decide (((1:Nat):Int)<2)=true:=by decide
   have a3:=hF.out;rw[af.out]at a3;rw[show ∀(x0 x1 x2 x3 x4 x5 x6 x7:Int),List.drop (2 * 1) [x0,x1,x2,x3,x4,x5,x6,x7] = [x2,x3,x4,x5,x6,x7] from fun _ _ _ _ _ _ _ _=>rfl,lV (by decide)]at a3
   have hN:Hid (V=eQ (ES.drop (2 * (1+1)))∨¬(gJ (ws.map tx)=true∧ws.all D=true)):=hid (by
    by_cases h1:gJ (ws.map tx)=true
    ·by_cases h2:ws.all D=true
     ·refine Or.inl ?_
      rw[a3,if_pos h1,lV (by decide),if_pos h2,af.out]
      rfl
     ·exact Or.inr (fun h=>h2 h.2)
    ·exact Or.inr (fun h=>h1 h.1))
   have a5:Hid (gJ (ws.map tx)=false→V=13):=hid (fun h=>by rw[a3,h];rfl)
   have a7:Hid (gJ (ws.map tx)=true→ws.all D=false→V=7):=hid (fun h1 h2=>by rw[a3,if_pos h1,lV (by decide),h2];rfl)
   clear a3 hF;have K:=hid (ay.out _ a1.out wA wc ws (HU.out _ a1.out).m.wr (aZ bi (by decide)))
   rcases hr:gJ (ws.map tx)with _ | _
   ·have hv:=hid (a5.out hr)
    rw[hr]at K;go_wp2_with fail;refine K.out.mono ?_;rintro e w3 ⟨rfl,b3⟩;have aj:=hid (HP.out w3 (a1.out.trans (b3.mono a1.out.size)));go_wp2_with fail;go_ret;exact⟨by rw[hv.out];rfl,aj.out⟩
   ·rw[hr]at K
    have ae:=hid (a7.out hr);go_wp2_with fail;refine K.out.mono ?_;rintro e w3 ⟨rfl,b3⟩;have a9:=hid (a1.out.trans (b3.mono a1.out.size));clear b3 K a5 a7;go_wp2_with fail;have a4:Hid ((ws.take 0).all D=true):=hid rfl
    go_loopw [6] (fun i wx=>∃j:Nat,j≤ws.length∧i=.int .i64 j∧Hid ((ws.take j).all D=true)∧Hid (Below W1.heap.size W1 wx)) (fun i _=>ws.length-(intOf i).toNat)
    case atStart=>exact⟨0,by omega,rfl,a4,a9⟩
    case round=>
     obtain⟨j,hj,rfl,hG,hx⟩:=hrel;clear a9 a1 hb z1 z2 a4
     rename World=>wx
     by_cases a2:j<ws.length
     ·have e2:decide ((j:Int)<(ws.length:Int))=true:=aC (by omega)
      obtain⟨g,off,rfl,a6,hc⟩:=(HU.out wx hx.out).m.wr (by rw[aH];exact Nat.lt_of_le_of_lt (bA _) a2)
      have c0:=hc j (by rw[aH];exact a2)
      rw[List.getElem_map]at c0;have a0:=hid (tL D ws a2);rw[hG.out,Bool.true_and]at a0;have aa:Hid (D ws[j] = false→V=7):=hid (fun h=>ae.out (aAU a2 h))
      have J:Hid (Below W1.heap.size W1 wx.drew):=hid hx.out.drew;have z4:=Y4.out wx hx.out;have z5:=Y5.out wx hx.out;have z6:=Y6.out wx hx.out;have d4:=Y4.out wx.drew J.out;have d5:=Y5.out wx.drew J.out;have d6:=Y6.out wx.drew J.out;have KT:=hid (av.out wx.drew J.out ws[j]);unfold cZ at KT;clear a6 hc hG;generalize ws[j] = x at *;have b9:wx.drew.cell? ⟨g,off+j,none⟩=some (.string x):=c0
      rcases hq:D x with _ | _
      ·have hv:=hid (aa.out hq)
       rw[hq]at KT;go_wp2_with fail
       go_region_with (go_at_call 59;refine KT.out.mono ?_;rintro e w4 ⟨rfl,b4⟩;have a8:=hid (J.out.trans (b4.mono J.out.size));clear b4)
       all_goals (go_wp2_with fail;go_ret;exact⟨by rw[hv.out];rfl,HP.out _ a8.out⟩)
      ·rw[hq]at KT a0
       go_wp2_with fail
       go_region_with (go_at_call 59;refine KT.out.mono ?_;rintro e w4 ⟨rfl,b4⟩;have a8:=hid (J.out.trans (b4.mono J.out.size));clear b4)
       all_goals (go_wp2_with fail;go_roundw)
       all_goals first | exact⟨j+1,by omega,by go_num,a0,a8⟩ | (simp[intOf];omega)
     ·obtain rfl:j=ws.length:=by omega
      have e2:decide ((ws.length:Int)<(ws.length:Int))=false:=aB (by omega)
      have ar:Hid (V=eQ (ES.drop (2 * (1+1)))):=hid (by
       rcases hN.out with h | h
       ·exact h
       ·exfalso
        refine h ⟨hr,?_⟩;have:=hG.out
        rwa[bF]at this)
      go_wp2_with fail
      go_roundw
      case rel=>exact⟨1+1,by omega,by go_num,ar,hx⟩
      case measure=>simp[intOf]
  ·have e1:decide (((2:Nat):Int)<2)=false:=by decide
   have au:=hF.out;rw[af.out,show ∀(x0 x1 x2 x3 x4 x5 x6 x7:Int),List.drop (2 * 2) [x0,x1,x2,x3,x4,x5,x6,x7] = [x4,x5,x6,x7] from fun _ _ _ _ _ _ _ _=>rfl,lV (by decide)]at au
   have ax:=hid au;clear au hF a1 af;have a4:Hid ((gs.take 0).all (fun s=>!I s)=true):=hid rfl
   go_wp2_with fail
   go_loopw [7] (fun i wx=>∃j:Nat,j≤gs.length∧i=.int .i64 j∧Hid ((gs.take j).all (fun s=>!I s)=true)∧Hid (Below W1.heap.size W1 wx)) (fun i _=>gs.length-(intOf i).toNat)
   case atStart=>exact⟨0,by omega,rfl,a4,hb⟩
   case round=>
    obtain⟨j,hj,rfl,hG,hx⟩:=hrel;clear a4 hb z1 z2
    rename World=>wx
    have z1:=Y1.out wx hx.out
    by_cases a2:j<gs.length
    ·have e2:decide ((j:Int)<(gs.length:Int))=true:=aC (by omega)
     obtain⟨g,off,rfl,a6,hc⟩:=(HU.out wx hx.out).m.gr (by rw[aH];exact Nat.lt_of_le_of_lt (bA _) a2)
     have c0:=hc j (by rw[aH];exact a2)
     rw[List.getElem_map]at c0;have a0:=hid (tL (fun s=>!I s) gs a2)
     rw[hG.out,Bool.true_and]at a0;have aa:Hid (I gs[j] = true→V=8):=hid (fun h=>by rw[ax.out,aAU a2 (show(!I gs[j])=false by rw[h];rfl)];rfl)
     have J:Hid (Below W1.heap.size W1 wx.drew):=hid hx.out.drew;have z2:=Y2.out wx hx.out;have d1:=Y1.out wx.drew J.out;have d2:=Y2.out wx.drew J.out
     have KN:Hid (Calls Tryz.prog 60 #[.slice wA ws.length wc,.string gs[j]] wx.drew (fun e w'=>e=.returned (.int .i64 (ins.wN (ws.map tx) (tx gs[j])))∧wx.drew=w')):=hid (by
      have k:=ins.yC wx.drew wA wc (ws.map tx) (tx gs[j]) (by rw[nY];exact(HU.out wx.drew J.out).m.wr) (by rw[aH];omega)
      rw[aH]at k
      exact k)
     have ba:Hid ((I gs[j] = true→0≤ins.wN (ws.map tx) (tx gs[j]))∧(I gs[j] = false→ins.wN (ws.map tx) (tx gs[j])=-1)):=hid (by
      rw[HI.out gs[j]];unfold ins.wN;refine⟨fun h=>?_,fun h=>?_⟩
      ·rw[if_pos (of_decide_eq_true h)];omega
      ·rw[if_neg (of_decide_eq_false h)])
     clear a6 hc hG;generalize ins.wN (ws.map tx) (tx gs[j])=nv at *;generalize gs[j] = x at *;have b9:wx.drew.cell? ⟨g,off+j,none⟩=some (.string x):=c0
     rcases hq:I x with _ | _
     ·obtain rfl:=ba.out.2 hq
      try dsimp only at a0
      rw[hq]at a0;go_wp2_with fail
      go_region_with (go_at_call 60;refine KN.out.mono ?_;rintro e w4 ⟨rfl,rfl⟩)
      all_goals (go_wp2_with fail;go_roundw)
      all_goals first | exact⟨j+1,by omega,by go_num,a0,J⟩ | ((repeat apply Exists.intro);exact⟨⟨j+1,by omega,by go_num,a0,J⟩,rfl⟩) | (simp[intOf];omega)
     ·have hv:=hid (aa.out hq)
      have bg:=ba.out.1 hq;have q0:decide (0≤nv)=true:=aC bg;go_wp2_with fail
      go_region_with (go_at_call 60;refine KN.out.mono ?_;rintro e w4 ⟨rfl,rfl⟩)
      all_goals (go_wp2_with fail;go_ret;exact⟨by rw[hv.out];rfl,HP.out _ J.out⟩)
    ·obtain rfl:j=gs.length:=by omega
     have e2:decide ((gs.length:Int)<(gs.length:Int))=false:=aB (by omega)
     have ag:=ax.out;rw[if_pos (by have:=hG.out;rwa[bF]at this),lV (by decide)]at ag
     have z3:=Y3.out wx hx.out;clear ax hG
     by_cases b6:ks.length≤6000
     rotate_left
     ·have e6:decide ((6000:Int)<(ks.length:Int))=true:=aC (by omega)
      rw[aB b6]at ag;have hv:Hid (V=4):=hid ag;go_wp2_with fail;go_ret;exact⟨by rw[hv.out];rfl,HP.out _ hx.out⟩
     have e6:decide ((6000:Int)<(ks.length:Int))=false:=aB (by omega)
     rw[aC b6,if_pos rfl,lV (by decide)]at ag
     have ai:=hid ag;clear ag;have K:=hid (ay.out _ hx.out kA kc ks (HU.out _ hx.out).m.kr (aZ bh (by decide)))
     rcases hr:gJ (ks.map tx)with _ | _
     ·rw[hr]at K ai
      have hv:Hid (V=13):=hid ai.out;go_wp2_with fail;refine K.out.mono ?_;rintro e w3 ⟨rfl,b3⟩;have aj:=hid (HP.out w3 (hx.out.trans (b3.mono hx.out.size)));go_wp2_with fail;go_ret;exact⟨by rw[hv.out];rfl,aj.out⟩
     ·rw[hr,if_pos rfl,lV (by decide)]at ai
      rw[hr]at K;go_wp2_with fail;refine K.out.mono ?_;rintro e w3 ⟨rfl,b3⟩;have a9:=hid (hx.out.trans (b3.mono hx.out.size));have a4:Hid ((ks.take 0).all dP=true):=hid rfl;clear b3 K;go_wp2_with fail
      go_loopw [8] (fun i wy=>∃q:Nat,q≤ks.length∧i=.int .i64 q∧Hid ((ks.take q).all dP=true)∧Hid (Below W1.heap.size W1 wy)) (fun i _=>ks.length-(intOf i).toNat)
      case atStart=>exact⟨0,by omega,rfl,a4,a9⟩
      case round=>
       obtain⟨q,hq,rfl,hG,hy⟩:=hrel;clear a4 a9 z1 z3
       rename World=>wy
       have z3:=Y3.out wy hy.out
       by_cases ak:q<ks.length
       ·have e3:decide ((q:Int)<(ks.length:Int))=true:=aC (by omega)
        have hU:=HU.out wy hy.out;obtain⟨g,off,rfl,a6,hc⟩:=hU.m.kr (by rw[aH];exact Nat.lt_of_le_of_lt (bA _) ak)
        have c0:=hc q (by rw[aH];exact ak)
        rw[List.getElem_map]at c0;have a0:=hid (tL dP ks ak);rw[hG.out,Bool.true_and]at a0;have aa:Hid (dP ks[q] = false→V=11):=hid (fun h=>by rw[ai.out,aAU ak h];rfl)
        have KN:=hid (fun Y=>jL ks[q] Y (hU.ks ks[q] (aR ak)))
        unfold cZ at KN;clear a6 hc hG hU;generalize ks[q] = x at *
        rcases hn:dP x with _ | _
        ·have hv:=hid (aa.out hn)
         rw[hn]at KN;go_wp2_with fail;refine(KN.out _).mono ?_;rintro e w4 ⟨rfl,b4⟩;have bd:=hid (HP.out w4 (hy.out.trans (b4.mono hy.out.size)));go_wp2_with fail;go_ret;exact⟨by rw[hv.out];rfl,bd.out⟩
        ·rw[hn]at KN a0
         go_wp2_with fail;refine(KN.out _).mono ?_;rintro e w4 ⟨rfl,b4⟩;have a8:=hid (hy.out.trans (b4.mono hy.out.size));clear b4;go_wp2_with fail
         go_roundw
         case rel=>exact⟨q+1,by omega,by go_num,a0,a8⟩
         case measure=>simp[intOf];omega
       ·obtain rfl:q=ks.length:=by omega
        have e3:decide ((ks.length:Int)<(ks.length:Int))=false:=aB (by omega)
        have hv:Hid (V=0):=hid (by
         rw[ai.out,if_pos (by have:=hG.out;rwa[bF]at this)]
         rfl)
        go_wp2_with fail;go_ret;exact⟨by rw[hv.out];rfl,HP.out _ hy.out⟩
end sf
end Go.Proofs.YtdmmkjijgoiecaaGreatDoor
