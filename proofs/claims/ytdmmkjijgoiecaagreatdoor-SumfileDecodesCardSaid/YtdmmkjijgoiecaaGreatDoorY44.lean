import Derived.Test.YtdmmkjijgoiecaaGreatDoorY10
import Derived.Test.YtdmmkjijgoiecaaGreatDoorY36
set_option linter.all false
set_option maxHeartbeats 4000000
namespace Go.Proofs.YtdmmkjijgoiecaaGreatDoor
open Lib(hid)
set_option maxRecDepth 100000
namespace sy
open RowKit Go.Sort mem
theorem aAj:∀a b:List Int,kR (a++b)=if kR a=0 then kR b else kR a
 | [],b=>by simp[kR]
 | x :: r,b=>by
  by_cases J:x=0
  ·simp only[aW,kR,if_pos J]
   exact aAj r b
  ·simp only[aW,kR,if_neg J]
theorem aCz:∀l m:List ByteArray,sU l m=kR (List.zipWith gV l m++[lV l.length m.length])
 | [],[]=>rfl
 | [],b :: m=>by
  have e:lV (([]:List ByteArray).length:Nat) ((b :: m).length:Nat)=-1:=by
   unfold lV;simp only[aI,aG];split
   ·rfl
   ·exfalso;omega
  rw[e];rfl
 | a :: l,[]=>by
  have e:lV ((a :: l).length:Nat) (([]:List ByteArray).length:Nat)=1:=by
   unfold lV;simp only[aI,aG];split
   ·exfalso;omega
   ·split
    ·rfl
    ·exfalso;omega
  rw[e];rfl
 | a :: l,b :: m=>by
  have h:=aCz l m;have e:lV ((a :: l).length:Nat) ((b :: m).length:Nat)=lV (l.length:Nat) (m.length:Nat):=by
   unfold lV;simp only[aG]
   (repeat' split) <;> first | rfl | (exfalso;omega)
  rw[e];simp only[sU,List.zipWith_cons_cons,aW,kR];rw[h]
theorem aDe(a b:SC):wT a b=kR ([lV a.op b.op,gV a.a b.a,gV a.b b.b,lV a.k b.k,gV a.tag b.tag]++List.zipWith gV a.args b.args++[lV a.args.length b.args.length]):=by
 unfold wT;rw[aS,aAj,←aCz];rw[show [lV a.op b.op,gV a.a b.a,gV a.b b.b,lV a.k b.k,gV a.tag b.tag,sU a.args b.args] = [lV a.op b.op,gV a.a b.a,gV a.b b.b,lV a.k b.k,gV a.tag b.tag]++[sU a.args b.args] from rfl,aAj];congr 1;unfold kR kR;split <;> simp_all
theorem aHo:(Tryz.prog.info? 3).map (fun i=>(i.zero,i.size,i.bytes))=some (some (.int .i64 0),1,8):=by kernel_rfl
structure RI(w wr:World)(A:Option Addr)(cap:Nat)(l:List Int)(xs ys:Array Value):Prop where
 seg:Seg wr 3 A cap (ints l)
 fr:Below w.heap.size w wr
 own:∀q∈blk A,w.heap.size+2≤q
 x:bV wr w.heap.size 105 xs
 y:bV wr (w.heap.size+1) 105 ys
theorem RI.push{w wr Y w3:World}{A A2:Option Addr}{cap J:Nat}{l:List Int}{xs ys:Array Value}{o:Obj}{r:Int}(h:RI w wr A cap l xs ys)(h2:Y=(wr.drew).alloc o∨Y=wr.alloc o)
 (hs:Seg w3 3 A2 J (ints l++[.int .i64 r])) (f:Fr (blk A) Y w3) (hb:blk A2=blk A∨blk A2=[Y.heap.size]):RI w w3 A2 J (l++[r]) xs ys:=by
 have hw:w.heap.size+2≤wr.heap.size:=by have:=h.y.lt;omega
 have e2:Y.heap.size=wr.heap.size+1:=by rcases h2 with rfl | rfl <;> simp
 have f1:Fr [] wr Y:=by
  rcases h2 with rfl | rfl
  ·exact(Fr.refl [] wr).drew.alloc o
  ·exact(Fr.refl [] wr).alloc o
 have f2:Fr (blk A) wr w3:=f1.trans f (fun g hg=>(by cases hg)) (fun g hg=>Or.inl hg);refine⟨by simpa[ints] using hs,h.fr.trans (f2.below (fun g hg=>by have:=h.own g hg;omega) h.fr.size),fun q hq=>?_,h.x.kept f2 (fun hq=>by have:=h.own _ hq;omega),h.y.kept f2 (fun hq=>by have:=h.own _ hq;omega)⟩;rcases hb with e | e
 ·exact h.own q (e ▸ hq)
 ·rw[e,aD]at hq
  omega
theorem aH1{l m:List ByteArray}{k:Nat}(hl:k<l.length)(J:k<m.length):(List.zipWith gV l m).take (k+1)=(List.zipWith gV l m).take k++[gV l[k] m[k]]:=by
 rw[bC (by simp;omega)];simp
theorem xL(x y:MC)(w:World)(hx:COk w x)(hy:COk w y)(hn:x.c.args.length≤8796093022208)(ba:y.c.args.length≤8796093022208):Calls Tryz.prog 111 #[.agg x.row.toArray,.agg y.row.toArray] w (dG (wT x.c y.c) w):=by
 rw[aDe];have C1:=hid (fun w=>aIK x.c.op y.c.op w);have C2:=hid (fun w=>aBH x.c.a y.c.a w);have C3:=hid (fun w=>aBH x.c.b y.c.b w);have C4:=hid (fun w=>aIK x.c.k y.c.k w);have C5:=hid (fun w=>aBH x.c.tag y.c.tag w);have C6:=hid (fun w=>aIK x.c.args.length y.c.args.length w);have CT:=hid (fun a b w=>aBH a b w);have b7:=hid hx.g;have b6:=hid hy.g;unfold gD at C1 C2 C3 C4 C5 C6 CT;generalize lV x.c.op y.c.op=r1 at *;generalize gV x.c.a y.c.a=r2 at *;generalize gV x.c.b y.c.b=r3 at *;generalize lV x.c.k y.c.k=r4 at *;generalize gV x.c.tag y.c.tag=r5 at *;generalize lV x.c.args.length y.c.args.length=r6 at *;clear hx hy;obtain⟨⟨op,a,b,k,tag,args⟩,aA,ac⟩:=x;obtain⟨⟨ad,a2,b2,k2,a8,a6⟩,aa,ae⟩:=y;unfold MC.row;dsimp only at *;obtain⟨Z,hZ⟩:∃Z,Hid (Z=List.zipWith gV args a6):=⟨_,hid rfl⟩;rw[←hZ.out];obtain⟨n,hN⟩:∃n,Hid (n=args.length):=⟨_,hid rfl⟩
 obtain⟨n2,a0⟩:∃n,Hid (n=a6.length):=⟨_,hid rfl⟩;rw[←hN.out]at C6 hn ⊢;rw[←a0.out]at C6 ba ⊢;obtain⟨R,hR⟩:∃R,Hid (R=kR ([r1,r2,r3,r4,r5]++Z++[r6])):=⟨_,hid rfl⟩;rw[←hR.out];obtain⟨i0,ax,ao,a5,av⟩:=info_parts aHo;have Hi:=hid ax;have ak:=hid ao;have am:=hid a5;have ai:=hid av;clear ax ao a5 av;go_enter Tryz.func111,Tryz.ntmps111;go_wp2_with fail;have ap:Below w.heap.size w (((w.alloc (.cells #[.int .i64 op,.string a,.string b,.int .i64 k,.string tag,.slice aA n ac] 105)).alloc (.cells #[.int .i64 ad,.string a2,.string b2,.int .i64 k2,.string a8,.slice aa n2 ae] 105)).drew):=(((Fr.refl [] w).alloc _).alloc _).drew.all;have HB:=hid ap;clear ap;have X0:=(bV.new w 105 #[.int .i64 op,.string a,.string b,.int .i64 k,.string tag,.slice aA n ac]).kept ((Fr.refl [] (w.alloc (.cells #[.int .i64 op,.string a,.string b,.int .i64 k,.string tag,.slice aA n ac] 105))).alloc (.cells #[.int .i64 ad,.string a2,.string b2,.int .i64 k2,.string a8,.slice aa n2 ae] 105)).drew (by simp)
 have Y0:=(bV.new (w.alloc (.cells #[.int .i64 op,.string a,.string b,.int .i64 k,.string tag,.slice aA n ac] 105)) 105 #[.int .i64 ad,.string a2,.string b2,.int .i64 k2,.string a8,.slice aa n2 ae]).kept (Fr.refl [] _).drew (by simp);rw[show(w.alloc (.cells #[.int .i64 op,.string a,.string b,.int .i64 k,.string tag,.slice aA n ac] 105)).heap.size=w.heap.size+1 by simp]at Y0;refine mE 25 (by kernel_rfl) (by kernel_rfl) fun W hW=>?_
 rw[←hW]at X0 Y0 HB;clear hW;simp only[List.take_succ_cons,List.take_zero,List.drop_succ_cons,List.drop_zero];have HX:=hid X0;have HY:=hid Y0;have x0:=X0.cell 0;have x1:=X0.cell 1;have x2:=X0.cell 2;have x3:=X0.cell 3;have x4:=X0.cell 4;have y0:=Y0.cell 0;have y1:=Y0.cell 1;have y2:=Y0.cell 2;have y3:=Y0.cell 3;have y4:=Y0.cell 4;clear X0 Y0;simp only[aL,aJ,aK]at x0 x1 x2 x3 x4 y0 y1 y2 y3 y4
 iterate 4 still_step
 still_call (C1.out _)
 iterate 4 still_step
 still_call (C2.out _)
 iterate 4 still_step
 still_call (C3.out _)
 iterate 4 still_step
 still_call (C4.out _)
 iterate 4 still_step
 still_call (C5.out _)
 refine wpStill_nil ?_;clear C1 C2 C3 C4 C5 x0 x1 x2 x3 x4 y0 y1 y2 y3 y4;have az:RI w (W.alloc (.cells #[.int .i64 r1,.int .i64 r2,.int .i64 r3,.int .i64 r4,.int .i64 r5] 3)) (some ⟨W.heap.size,0,none⟩) 5 ([r1,r2,r3,r4,r5]++Z.take 0) #[.int .i64 op,.string a,.string b,.int .i64 k,.string tag,.slice aA n ac] #[.int .i64 ad,.string a2,.string b2,.int .i64 k2,.string a8,.slice aa n2 ae]:=by
  refine⟨?_,HB.out.trans (((Fr.refl [] W).alloc _).all.mono HB.out.size),fun q hq=>?_,HX.out.kept ((Fr.refl [] W).alloc _) (by simp),HY.out.kept ((Fr.refl [] W).alloc _) (by simp)⟩
  ·exact⟨by simp[ints],by simp[maxLen],fun h=>(by cases h),fun a ha=>by cases ha;exact⟨rfl,_,heap_alloc_new W _,by simp[ints],fun j u hu=>by simpa[ints] using hu⟩⟩
  ·rw[aCB,aD]at hq
   have:=HY.out.lt;omega
 have aw:=hid az;clear az HX HY HB;go_wp2_with fail;go_loopw [5,6] (fun s i wr=>∃(Y:Nat) (A:Option Addr) (cap:Nat),Y≤n∧Y≤n2∧i=.int .i64 Y∧s=.slice A (5+Y) cap∧Hid (RI w wr A cap ([r1,r2,r3,r4,r5]++Z.take Y) #[.int .i64 op,.string a,.string b,.int .i64 k,.string tag,.slice aA n ac] #[.int .i64 ad,.string a2,.string b2,.int .i64 k2,.string a8,.slice aa n2 ae])) (fun _ i _=>n-(intOf i).toNat)
 case atStart=>exact⟨0,_,_,by omega,by omega,rfl,rfl,aw⟩
 case round=>
  clear aw;obtain⟨Y,A,cap,bb,bd,rfl,rfl,J⟩:=hrel;rename_i wr _;by_cases h1:Y<n
  ·have e1:decide ((Y:Int)<(n:Int))=true:=aC (by omega)
   by_cases h2:Y<n2
   ·have e2:decide ((Y:Int)<(n2:Int))=true:=aC (by omega)
    have x5:=J.out.x.cell 5;have y5:=J.out.y.cell 5;simp only[aL,aJ,aK]at x5 y5;obtain⟨g,o,rfl,bc,hc⟩:=zU (b7.out.below J.out.fr) (by rw[←hN.out];omega);obtain⟨g2,o2,rfl,bf,ar⟩:=zU (b6.out.below J.out.fr) (by rw[←a0.out];omega);have c1:=hc Y (by rw[←hN.out];exact h1);have c2:=ar Y (by rw[←a0.out];exact h2);have ay:=hid (aH1 (l:=args) (m:=a6) (k:=Y) (by rw[←hN.out];exact h1) (by rw[←a0.out];exact h2));rw[←hZ.out]at ay
    have hlen:Hid (5+Y=(ints ([r1,r2,r3,r4,r5]++Z.take Y)).length):=hid (by
     rw[ints,aH,aF,List.length_take,hZ.out,List.length_zipWith,←hN.out,←a0.out];simp only[aG,aI]
     omega)
    clear hc ar;generalize args[Y]'_=s1 at *;generalize a6[Y]'_=s2 at *;have HT:=hid (fun w=>CT.out s1 s2 w);generalize gV s1 s2=t at *;have b9:5+Y+1≤9223372036854775807:=by omega
    have b5:(5+Y+1) * 8≤140737488355328:=by omega
    go_wp2_with fail
    go_region_law
     ((first | (refine pW (u:=.int .i64 t) (by rfl) (.tmp 48) (.tmp 60) _ (by rfl) (J.out.seg.drew.alloc _) hlen.out Tryz.underlying201 Hi.out ak.out am.out ai.out rfl (by rfl) (by rfl) (dH _ _ _) rfl b9 b5 ?_;intro A3 ah w3 a7 f3 a9) | (go_simp;go_at_call 163;refine(HT.out _).mono ?_;rintro e w2 ⟨rfl,rfl⟩)))
    all_goals
     have a1:=hid (J.out.push (Or.inl rfl) a7 f3 a9);clear a7 f3 a9 J x5 y5 c1 c2;go_wp2_with fail;go_roundw
     case rel=>
      rw[aS,←ay.out]at a1;exact⟨Y+1,_,_,by omega,by omega,by go_num,rfl,a1⟩
     case measure=>simp[intOf];omega
   have e2:decide ((Y:Int)<(n2:Int))=false:=aB (by omega);have a5:Z.take Y=Z:=by
    rw[bE];rw[hZ.out,List.length_zipWith,←hN.out,←a0.out];omega
   rw[a5]at J
   have hlen:Hid (5+Y=(ints ([r1,r2,r3,r4,r5]++Z)).length):=hid (by
    have h:=congrArg List.length a5;rw[List.length_take,hZ.out,List.length_zipWith,←hN.out,←a0.out]at h;rw[ints,aH,aF,hZ.out,List.length_zipWith,←hN.out,←a0.out];simp only[aG,aI]
    omega)
   have x5:=J.out.x.cell 5;have y5:=J.out.y.cell 5;simp only[aL,aJ,aK]at x5 y5
   go_wp2_with (first
    | (refine(C6.out _).mono ?_;rintro e w2 ⟨rfl,rfl⟩)
    | (at_builtin
       refine dQ rfl (.tmp 62) (.tmp 70) _ rfl (J.out.seg.alloc _) hlen.out Tryz.underlying201 Hi.out ak.out am.out ai.out rfl rfl rfl (dH _ _ _) rfl (by omega) (by omega) ?_;intro A3 ah w3 a7 f3 a9;have a1:=hid (J.out.push (Or.inr rfl) a7 f3 a9);clear a7 f3 a9 J x5 y5
       generalize ag:5+Y+1=N3 at *))
   obtain⟨L,hL⟩:∃L,Hid (L=[r1,r2,r3,r4,r5]++Z++[r6]):=⟨_,hid rfl⟩;rw[←hL.out]at a1 hR;have aj:N3=L.length:=by
    have h:=hlen.out;rw[ints,aH]at h;rw[←ag,h,hL.out,List.length_append (bs:=[r6])];rfl
   have b4:N3≤9000000000000:=by omega
   clear hlen ag hL a5 hZ hN a0;subst aj;go_loopw [7] (fun i wx=>∃q:Nat,q≤L.length∧i=.int .i64 q∧Hid (R=kR (L.drop q))∧w3=wx) (fun i _=>L.length-(intOf i).toNat)
   case atStart=>exact⟨0,by omega,rfl,hR,rfl⟩
   case round=>
    obtain⟨q,hq,rfl,hf,rfl⟩:=hrel;by_cases af:q<L.length
    ·have e3:decide ((q:Int)<(L.length:Int))=true:=aC (by omega)
     obtain⟨b3,au,rfl,b1,hcell⟩:=aB4 a1.out.seg.rd (by omega);have c1:=hcell q af;have a3:=hid (hf.out.trans (yF af));clear hcell;generalize L[q] = v at c1 a3;by_cases hv:v=0
     ·subst hv
      have a4:Hid (R=kR (L.drop (q+1))):=hid (a3.out.trans (if_pos rfl));clear hf a3;go_wp2_with fail;go_roundw
      case rel=>exact⟨q+1,by omega,by go_num,a4,trivial⟩
      case measure=>simp[intOf];omega
     ·have b8:(v != 0)=true:=by simpa using hv
      have a4:Hid (R=v):=hid (a3.out.trans (if_neg hv));clear hf a3;go_wp2_with fail;go_ret;exact⟨rI a4.out.symm,a1.out.fr⟩
    ·obtain rfl:q=L.length:=by omega
     have e3:decide ((L.length:Int)<(L.length:Int))=false:=aB (by omega);have a4:Hid (R=0):=hid (hf.out.trans (aAQ L));clear hf;go_wp2_with fail;go_ret;exact⟨rI a4.out.symm,a1.out.fr⟩
  ·have e1:decide ((Y:Int)<(n:Int))=false:=aB (by omega)
   have a5:Z.take Y=Z:=by
    rw[bE];rw[hZ.out,List.length_zipWith,←hN.out,←a0.out];omega
   rw[a5]at J
   have hlen:Hid (5+Y=(ints ([r1,r2,r3,r4,r5]++Z)).length):=hid (by
    have h:=congrArg List.length a5;rw[List.length_take,hZ.out,List.length_zipWith,←hN.out,←a0.out]at h;rw[ints,aH,aF,hZ.out,List.length_zipWith,←hN.out,←a0.out];simp only[aG,aI]
    omega)
   have x5:=J.out.x.cell 5;have y5:=J.out.y.cell 5;simp only[aL,aJ,aK]at x5 y5
   go_wp2_with (first
    | (refine(C6.out _).mono ?_;rintro e w2 ⟨rfl,rfl⟩)
    | (at_builtin
       refine dQ rfl (.tmp 62) (.tmp 70) _ rfl (J.out.seg.alloc _) hlen.out Tryz.underlying201 Hi.out ak.out am.out ai.out rfl rfl rfl (dH _ _ _) rfl (by omega) (by omega) ?_;intro A3 ah w3 a7 f3 a9;have a1:=hid (J.out.push (Or.inr rfl) a7 f3 a9);clear a7 f3 a9 J x5 y5
       generalize ag:5+Y+1=N3 at *))
   obtain⟨L,hL⟩:∃L,Hid (L=[r1,r2,r3,r4,r5]++Z++[r6]):=⟨_,hid rfl⟩;rw[←hL.out]at a1 hR;have aj:N3=L.length:=by
    have h:=hlen.out;rw[ints,aH]at h;rw[←ag,h,hL.out,List.length_append (bs:=[r6])];rfl
   have b4:N3≤9000000000000:=by omega
   clear hlen ag hL a5 hZ hN a0;subst aj;go_loopw [7] (fun i wx=>∃q:Nat,q≤L.length∧i=.int .i64 q∧Hid (R=kR (L.drop q))∧w3=wx) (fun i _=>L.length-(intOf i).toNat)
   case atStart=>exact⟨0,by omega,rfl,hR,rfl⟩
   case round=>
    obtain⟨q,hq,rfl,hf,rfl⟩:=hrel;by_cases af:q<L.length
    ·have e3:decide ((q:Int)<(L.length:Int))=true:=aC (by omega)
     obtain⟨b3,au,rfl,b1,hcell⟩:=aB4 a1.out.seg.rd (by omega);have c1:=hcell q af;have a3:=hid (hf.out.trans (yF af));clear hcell;generalize L[q] = v at c1 a3;by_cases hv:v=0
     ·subst hv
      have a4:Hid (R=kR (L.drop (q+1))):=hid (a3.out.trans (if_pos rfl));clear hf a3;go_wp2_with fail;go_roundw
      case rel=>exact⟨q+1,by omega,by go_num,a4,trivial⟩
      case measure=>simp[intOf];omega
     ·have b8:(v != 0)=true:=by simpa using hv
      have a4:Hid (R=v):=hid (a3.out.trans (if_neg hv));clear hf a3;go_wp2_with fail;go_ret;exact⟨rI a4.out.symm,a1.out.fr⟩
    ·obtain rfl:q=L.length:=by omega
     have e3:decide ((L.length:Int)<(L.length:Int))=false:=aB (by omega);have a4:Hid (R=0):=hid (hf.out.trans (aAQ L));clear hf;go_wp2_with fail;go_ret;exact⟨rI a4.out.symm,a1.out.fr⟩
end sy
end Go.Proofs.YtdmmkjijgoiecaaGreatDoor
