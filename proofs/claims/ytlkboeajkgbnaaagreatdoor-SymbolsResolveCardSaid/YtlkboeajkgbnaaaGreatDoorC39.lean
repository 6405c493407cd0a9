import Derived.Test.YtlkboeajkgbnaaaGreatDoorC34
import Derived.Test.YtlkboeajkgbnaaaGreatDoorC12
set_option linter.all false
set_option maxHeartbeats 4000000
namespace Go.Proofs.YtlkboeajkgbnaaaGreatDoor
open Lib(hid)
set_option maxRecDepth 100000
namespace sy
open RowKit Go.Sort mem
theorem fstN_app:∀a b:List Int,fstN (a++b)=if fstN a=0 then fstN b else fstN a
 | [],b=>by simp[fstN]
 | x :: r,b=>by
  by_cases hx:x=0
  ·simp only[List.cons_append,fstN,if_pos hx]
   exact fstN_app r b
  ·simp only[List.cons_append,fstN,if_neg hx]
theorem lstC_zip:∀l m:List ByteArray,lstC l m=fstN (List.zipWith txtC l m++[intC l.length m.length])
 | [],[]=>rfl
 | [],b :: m=>by
  have e:intC (([]:List ByteArray).length:Nat) ((b :: m).length:Nat)=-1:=by
   unfold intC;simp only[List.length_nil,List.length_cons];split
   ·rfl
   ·exfalso;omega
  rw[e];rfl
 | a :: l,[]=>by
  have e:intC ((a :: l).length:Nat) (([]:List ByteArray).length:Nat)=1:=by
   unfold intC;simp only[List.length_nil,List.length_cons];split
   ·exfalso;omega
   ·split
    ·rfl
    ·exfalso;omega
  rw[e];rfl
 | a :: l,b :: m=>by
  have h:=lstC_zip l m;have e:intC ((a :: l).length:Nat) ((b :: m).length:Nat)=intC (l.length:Nat) (m.length:Nat):=by
   unfold intC;simp only[List.length_cons]
   (repeat' split) <;> first | rfl | (exfalso;omega)
  rw[e];simp only[lstC,List.zipWith_cons_cons,List.cons_append,fstN];rw[h]
theorem conC_zip(a b:SC):conC a b=fstN ([intC a.op b.op,txtC a.a b.a,txtC a.b b.b,intC a.k b.k,txtC a.tag b.tag]++List.zipWith txtC a.args b.args++[intC a.args.length b.args.length]):=by
 unfold conC;rw[List.append_assoc,fstN_app,←lstC_zip];rw[show [intC a.op b.op,txtC a.a b.a,txtC a.b b.b,intC a.k b.k,txtC a.tag b.tag,lstC a.args b.args] = [intC a.op b.op,txtC a.a b.a,txtC a.b b.b,intC a.k b.k,txtC a.tag b.tag]++[lstC a.args b.args] from rfl,fstN_app];congr 1;unfold fstN fstN;split <;> simp_all
theorem info_int:(Tryz.prog.info? 3).map (fun i=>(i.zero,i.size,i.bytes))=some (some (.int .i64 0),1,8):=by kernel_rfl
structure RI(w wr:World)(A:Option Addr)(cap:Nat)(l:List Int)(xs ys:Array Value):Prop where
 seg:Seg wr 3 A cap (ints l)
 fr:Below w.heap.size w wr
 own:∀q∈blk A,w.heap.size+2≤q
 x:Box wr w.heap.size 103 xs
 y:Box wr (w.heap.size+1) 103 ys
theorem RI.push{w wr w2 w3:World}{A A2:Option Addr}{cap cap2:Nat}{l:List Int}{xs ys:Array Value}{o:Obj}{r:Int}(h:RI w wr A cap l xs ys)(h2:w2=(wr.drew).alloc o∨w2=wr.alloc o)
 (hs:Seg w3 3 A2 cap2 (ints l++[.int .i64 r])) (f:Fr (blk A) w2 w3) (hb:blk A2=blk A∨blk A2=[w2.heap.size]):RI w w3 A2 cap2 (l++[r]) xs ys:=by
 have hw:w.heap.size+2≤wr.heap.size:=by have:=h.y.lt;omega
 have e2:w2.heap.size=wr.heap.size+1:=by rcases h2 with rfl | rfl <;> simp
 have f1:Fr [] wr w2:=by
  rcases h2 with rfl | rfl
  ·exact(Fr.refl [] wr).drew.alloc o
  ·exact(Fr.refl [] wr).alloc o
 have f2:Fr (blk A) wr w3:=f1.trans f (fun g hg=>(by cases hg)) (fun g hg=>Or.inl hg);refine⟨by simpa[ints] using hs,h.fr.trans (f2.below (fun g hg=>by have:=h.own g hg;omega) h.fr.size),fun q hq=>?_,h.x.kept f2 (fun hq=>by have:=h.own _ hq;omega),h.y.kept f2 (fun hq=>by have:=h.own _ hq;omega)⟩;rcases hb with e | e
 ·exact h.own q (e ▸ hq)
 ·rw[e,List.mem_singleton]at hq
  omega
theorem zip_take{l m:List ByteArray}{k:Nat}(hl:k<l.length)(hm:k<m.length):(List.zipWith txtC l m).take (k+1)=(List.zipWith txtC l m).take k++[txtC l[k] m[k]]:=by
 rw[List.take_succ_eq_append_getElem (by simp;omega)];simp
theorem rcompare_any(x y:MC)(w:World)(hx:COk w x)(hy:COk w y)(hn:x.c.args.length≤8796093022208)(hn2:y.c.args.length≤8796093022208):Calls Tryz.prog 82 #[.agg x.row.toArray,.agg y.row.toArray] w (IPost (conC x.c y.c) w):=by
 rw[conC_zip];have C1:=hid (fun w=>rints x.c.op y.c.op w);have C2:=hid (fun w=>rtexts x.c.a y.c.a w);have C3:=hid (fun w=>rtexts x.c.b y.c.b w);have C4:=hid (fun w=>rints x.c.k y.c.k w);have C5:=hid (fun w=>rtexts x.c.tag y.c.tag w);have C6:=hid (fun w=>rints x.c.args.length y.c.args.length w);have CT:=hid (fun a b w=>rtexts a b w);have hgx:=hid hx.g;have hgy:=hid hy.g;unfold SPost at C1 C2 C3 C4 C5 C6 CT;generalize intC x.c.op y.c.op=r1 at *;generalize txtC x.c.a y.c.a=r2 at *;generalize txtC x.c.b y.c.b=r3 at *;generalize intC x.c.k y.c.k=r4 at *;generalize txtC x.c.tag y.c.tag=r5 at *;generalize intC x.c.args.length y.c.args.length=r6 at *;clear hx hy;obtain⟨⟨op,a,b,k,tag,args⟩,aA,ac⟩:=x;obtain⟨⟨op2,a2,b2,k2,tag2,args2⟩,aA2,ac2⟩:=y;unfold MC.row;dsimp only at *;obtain⟨Z,hZ⟩:∃Z,Hid (Z=List.zipWith txtC args args2):=⟨_,hid rfl⟩;rw[←hZ.out];obtain⟨n,hN⟩:∃n,Hid (n=args.length):=⟨_,hid rfl⟩
 obtain⟨n2,hN2⟩:∃n,Hid (n=args2.length):=⟨_,hid rfl⟩;rw[←hN.out]at C6 hn ⊢;rw[←hN2.out]at C6 hn2 ⊢;obtain⟨R,hR⟩:∃R,Hid (R=fstN ([r1,r2,r3,r4,r5]++Z++[r6])):=⟨_,hid rfl⟩;rw[←hR.out];obtain⟨i0,hi0,hz0,hz1,hz2⟩:=info_parts info_int;have Hi:=hid hi0;have Hz0:=hid hz0;have Hz1:=hid hz1;have Hz2:=hid hz2;clear hi0 hz0 hz1 hz2;go_enter Tryz.func82,Tryz.ntmps82;go_wp2_with fail;have hb0:Below w.heap.size w (((w.alloc (.cells #[.int .i64 op,.string a,.string b,.int .i64 k,.string tag,.slice aA n ac] 103)).alloc (.cells #[.int .i64 op2,.string a2,.string b2,.int .i64 k2,.string tag2,.slice aA2 n2 ac2] 103)).drew):=(((Fr.refl [] w).alloc _).alloc _).drew.all;have HB:=hid hb0;clear hb0;have X0:=(Box.new w 103 #[.int .i64 op,.string a,.string b,.int .i64 k,.string tag,.slice aA n ac]).kept ((Fr.refl [] (w.alloc (.cells #[.int .i64 op,.string a,.string b,.int .i64 k,.string tag,.slice aA n ac] 103))).alloc (.cells #[.int .i64 op2,.string a2,.string b2,.int .i64 k2,.string tag2,.slice aA2 n2 ac2] 103)).drew (by simp)
 have Y0:=(Box.new (w.alloc (.cells #[.int .i64 op,.string a,.string b,.int .i64 k,.string tag,.slice aA n ac] 103)) 103 #[.int .i64 op2,.string a2,.string b2,.int .i64 k2,.string tag2,.slice aA2 n2 ac2]).kept (Fr.refl [] _).drew (by simp);rw[show(w.alloc (.cells #[.int .i64 op,.string a,.string b,.int .i64 k,.string tag,.slice aA n ac] 103)).heap.size=w.heap.size+1 by simp]at Y0;refine region_tail_w 25 (by kernel_rfl) (by kernel_rfl) fun W hW=>?_
 rw[←hW]at X0 Y0 HB;clear hW;simp only[List.take_succ_cons,List.take_zero,List.drop_succ_cons,List.drop_zero];have HX:=hid X0;have HY:=hid Y0;have x0:=X0.cell 0;have x1:=X0.cell 1;have x2:=X0.cell 2;have x3:=X0.cell 3;have x4:=X0.cell 4;have y0:=Y0.cell 0;have y1:=Y0.cell 1;have y2:=Y0.cell 2;have y3:=Y0.cell 3;have y4:=Y0.cell 4;clear X0 Y0;simp only[List.getElem?_toArray,List.getElem?_cons_zero,List.getElem?_cons_succ]at x0 x1 x2 x3 x4 y0 y1 y2 y3 y4
 iterate 4 still_step
 still_call (C1.out _)
 iterate 4 still_step
 still_call (C2.out _)
 iterate 4 still_step
 still_call (C3.out _)
 iterate 4 still_step
 still_call (C4.out _)
 iterate 4 still_step
 still_call (C5.out _)
 refine wpStill_nil ?_;clear C1 C2 C3 C4 C5 x0 x1 x2 x3 x4 y0 y1 y2 y3 y4;have hRI:RI w (W.alloc (.cells #[.int .i64 r1,.int .i64 r2,.int .i64 r3,.int .i64 r4,.int .i64 r5] 3)) (some ⟨W.heap.size,0,none⟩) 5 ([r1,r2,r3,r4,r5]++Z.take 0) #[.int .i64 op,.string a,.string b,.int .i64 k,.string tag,.slice aA n ac] #[.int .i64 op2,.string a2,.string b2,.int .i64 k2,.string tag2,.slice aA2 n2 ac2]:=by
  refine⟨?_,HB.out.trans (((Fr.refl [] W).alloc _).all.mono HB.out.size),fun q hq=>?_,HX.out.kept ((Fr.refl [] W).alloc _) (by simp),HY.out.kept ((Fr.refl [] W).alloc _) (by simp)⟩
  ·exact⟨by simp[ints],by simp[maxLen],fun h=>(by cases h),fun a ha=>by cases ha;exact⟨rfl,_,heap_alloc_new W _,by simp[ints],fun j u hu=>by simpa[ints] using hu⟩⟩
  ·rw[blk_some,List.mem_singleton]at hq
   have:=HY.out.lt;omega
 have HRI:=hid hRI;clear hRI HX HY HB;go_wp2_with fail;go_loopw [5,6] (fun s i wr=>∃(k':Nat) (A:Option Addr) (cap:Nat),k'≤n∧k'≤n2∧i=.int .i64 k'∧s=.slice A (5+k') cap∧Hid (RI w wr A cap ([r1,r2,r3,r4,r5]++Z.take k') #[.int .i64 op,.string a,.string b,.int .i64 k,.string tag,.slice aA n ac] #[.int .i64 op2,.string a2,.string b2,.int .i64 k2,.string tag2,.slice aA2 n2 ac2])) (fun _ i _=>n-(intOf i).toNat)
 case atStart=>exact⟨0,_,_,by omega,by omega,rfl,rfl,HRI⟩
 case round=>
  clear HRI;obtain⟨k',A,cap,hk1,hk2,rfl,rfl,hri⟩:=hrel;rename_i wr _;by_cases h1:k'<n
  ·have e1:decide ((k':Int)<(n:Int))=true:=decide_eq_true (by omega)
   by_cases h2:k'<n2
   ·have e2:decide ((k':Int)<(n2:Int))=true:=decide_eq_true (by omega)
    have x5:=hri.out.x.cell 5;have y5:=hri.out.y.cell 5;simp only[List.getElem?_toArray,List.getElem?_cons_zero,List.getElem?_cons_succ]at x5 y5;obtain⟨g,o,rfl,hg1,hc⟩:=rd_txts (hgx.out.below hri.out.fr) (by rw[←hN.out];omega);obtain⟨g2,o2,rfl,hg2,hc2⟩:=rd_txts (hgy.out.below hri.out.fr) (by rw[←hN2.out];omega);have c1:=hc k' (by rw[←hN.out];exact h1);have c2:=hc2 k' (by rw[←hN2.out];exact h2);have hzt:=hid (zip_take (l:=args) (m:=args2) (k:=k') (by rw[←hN.out];exact h1) (by rw[←hN2.out];exact h2));rw[←hZ.out]at hzt
    have hlen:Hid (5+k'=(ints ([r1,r2,r3,r4,r5]++Z.take k')).length):=hid (by
     rw[ints,List.length_map,List.length_append,List.length_take,hZ.out,List.length_zipWith,←hN.out,←hN2.out];simp only[List.length_cons,List.length_nil]
     omega)
    clear hc hc2;generalize args[k']'_=s1 at *;generalize args2[k']'_=s2 at *;have HT:=hid (fun w=>CT.out s1 s2 w);generalize txtC s1 s2=t at *;have h63:5+k'+1≤9223372036854775807:=by omega
    have hby:(5+k'+1) * 8≤140737488355328:=by omega
    go_wp2_with fail
    go_region_law
     ((first | (refine step_push (u:=.int .i64 t) (by rfl) (.tmp 48) (.tmp 60) _ (by rfl) (hri.out.seg.drew.alloc _) hlen.out Tryz.underlying140 Hi.out Hz0.out Hz1.out Hz2.out rfl (by rfl) (by rfl) (new_cell _ _ _) rfl h63 hby ?_;intro A3 cap3 w3 hs3 f3 hb3) | (go_simp;go_at_call 105;refine(HT.out _).mono ?_;rintro e w2 ⟨rfl,rfl⟩)))
    all_goals
     have hr3:=hid (hri.out.push (Or.inl rfl) hs3 f3 hb3);clear hs3 f3 hb3 hri x5 y5 c1 c2;go_wp2_with fail;go_roundw
     case rel=>
      rw[List.append_assoc,←hzt.out]at hr3;exact⟨k'+1,_,_,by omega,by omega,by go_num,rfl,hr3⟩
     case measure=>simp[intOf];omega
   have e2:decide ((k':Int)<(n2:Int))=false:=decide_eq_false (by omega);have hz1:Z.take k'=Z:=by
    rw[List.take_of_length_le];rw[hZ.out,List.length_zipWith,←hN.out,←hN2.out];omega
   rw[hz1]at hri
   have hlen:Hid (5+k'=(ints ([r1,r2,r3,r4,r5]++Z)).length):=hid (by
    have h:=congrArg List.length hz1;rw[List.length_take,hZ.out,List.length_zipWith,←hN.out,←hN2.out]at h;rw[ints,List.length_map,List.length_append,hZ.out,List.length_zipWith,←hN.out,←hN2.out];simp only[List.length_cons,List.length_nil]
    omega)
   have x5:=hri.out.x.cell 5;have y5:=hri.out.y.cell 5;simp only[List.getElem?_toArray,List.getElem?_cons_zero,List.getElem?_cons_succ]at x5 y5
   go_wp2_with (first
    | (refine(C6.out _).mono ?_;rintro e w2 ⟨rfl,rfl⟩)
    | (at_builtin
       refine wpList_push rfl (.tmp 62) (.tmp 70) _ rfl (hri.out.seg.alloc _) hlen.out Tryz.underlying140 Hi.out Hz0.out Hz1.out Hz2.out rfl rfl rfl (new_cell _ _ _) rfl (by omega) (by omega) ?_;intro A3 cap3 w3 hs3 f3 hb3;have hr3:=hid (hri.out.push (Or.inr rfl) hs3 f3 hb3);clear hs3 f3 hb3 hri x5 y5
       generalize hn3:5+k'+1=N3 at *))
   obtain⟨L,hL⟩:∃L,Hid (L=[r1,r2,r3,r4,r5]++Z++[r6]):=⟨_,hid rfl⟩;rw[←hL.out]at hr3 hR;have hl3:N3=L.length:=by
    have h:=hlen.out;rw[ints,List.length_map]at h;rw[←hn3,h,hL.out,List.length_append (bs:=[r6])];rfl
   have hl8:N3≤9000000000000:=by omega
   clear hlen hn3 hL hz1 hZ hN hN2;subst hl3;go_loopw [7] (fun i wx=>∃q:Nat,q≤L.length∧i=.int .i64 q∧Hid (R=fstN (L.drop q))∧w3=wx) (fun i _=>L.length-(intOf i).toNat)
   case atStart=>exact⟨0,by omega,rfl,hR,rfl⟩
   case round=>
    obtain⟨q,hq,rfl,hf,rfl⟩:=hrel;by_cases hql:q<L.length
    ·have e3:decide ((q:Int)<(L.length:Int))=true:=decide_eq_true (by omega)
     obtain⟨b3,off3,rfl,hlt3,hcell⟩:=rd_ints hr3.out.seg.rd (by omega);have c1:=hcell q hql;have hf2:=hid (hf.out.trans (fstN_drop hql));clear hcell;generalize L[q] = v at c1 hf2;by_cases hv:v=0
     ·subst hv
      have hf3:Hid (R=fstN (L.drop (q+1))):=hid (hf2.out.trans (if_pos rfl));clear hf hf2;go_wp2_with fail;go_roundw
      case rel=>exact⟨q+1,by omega,by go_num,hf3,trivial⟩
      case measure=>simp[intOf];omega
     ·have hv2:(v != 0)=true:=by simpa using hv
      have hf3:Hid (R=v):=hid (hf2.out.trans (if_neg hv));clear hf hf2;go_wp2_with fail;go_ret;exact⟨congrArg (fun z=>Ending.returned (.int .i64 z)) hf3.out.symm,hr3.out.fr⟩
    ·obtain rfl:q=L.length:=by omega
     have e3:decide ((L.length:Int)<(L.length:Int))=false:=decide_eq_false (by omega);have hf3:Hid (R=0):=hid (hf.out.trans (fstN_end L));clear hf;go_wp2_with fail;go_ret;exact⟨congrArg (fun z=>Ending.returned (.int .i64 z)) hf3.out.symm,hr3.out.fr⟩
  ·have e1:decide ((k':Int)<(n:Int))=false:=decide_eq_false (by omega)
   have hz1:Z.take k'=Z:=by
    rw[List.take_of_length_le];rw[hZ.out,List.length_zipWith,←hN.out,←hN2.out];omega
   rw[hz1]at hri
   have hlen:Hid (5+k'=(ints ([r1,r2,r3,r4,r5]++Z)).length):=hid (by
    have h:=congrArg List.length hz1;rw[List.length_take,hZ.out,List.length_zipWith,←hN.out,←hN2.out]at h;rw[ints,List.length_map,List.length_append,hZ.out,List.length_zipWith,←hN.out,←hN2.out];simp only[List.length_cons,List.length_nil]
    omega)
   have x5:=hri.out.x.cell 5;have y5:=hri.out.y.cell 5;simp only[List.getElem?_toArray,List.getElem?_cons_zero,List.getElem?_cons_succ]at x5 y5
   go_wp2_with (first
    | (refine(C6.out _).mono ?_;rintro e w2 ⟨rfl,rfl⟩)
    | (at_builtin
       refine wpList_push rfl (.tmp 62) (.tmp 70) _ rfl (hri.out.seg.alloc _) hlen.out Tryz.underlying140 Hi.out Hz0.out Hz1.out Hz2.out rfl rfl rfl (new_cell _ _ _) rfl (by omega) (by omega) ?_;intro A3 cap3 w3 hs3 f3 hb3;have hr3:=hid (hri.out.push (Or.inr rfl) hs3 f3 hb3);clear hs3 f3 hb3 hri x5 y5
       generalize hn3:5+k'+1=N3 at *))
   obtain⟨L,hL⟩:∃L,Hid (L=[r1,r2,r3,r4,r5]++Z++[r6]):=⟨_,hid rfl⟩;rw[←hL.out]at hr3 hR;have hl3:N3=L.length:=by
    have h:=hlen.out;rw[ints,List.length_map]at h;rw[←hn3,h,hL.out,List.length_append (bs:=[r6])];rfl
   have hl8:N3≤9000000000000:=by omega
   clear hlen hn3 hL hz1 hZ hN hN2;subst hl3;go_loopw [7] (fun i wx=>∃q:Nat,q≤L.length∧i=.int .i64 q∧Hid (R=fstN (L.drop q))∧w3=wx) (fun i _=>L.length-(intOf i).toNat)
   case atStart=>exact⟨0,by omega,rfl,hR,rfl⟩
   case round=>
    obtain⟨q,hq,rfl,hf,rfl⟩:=hrel;by_cases hql:q<L.length
    ·have e3:decide ((q:Int)<(L.length:Int))=true:=decide_eq_true (by omega)
     obtain⟨b3,off3,rfl,hlt3,hcell⟩:=rd_ints hr3.out.seg.rd (by omega);have c1:=hcell q hql;have hf2:=hid (hf.out.trans (fstN_drop hql));clear hcell;generalize L[q] = v at c1 hf2;by_cases hv:v=0
     ·subst hv
      have hf3:Hid (R=fstN (L.drop (q+1))):=hid (hf2.out.trans (if_pos rfl));clear hf hf2;go_wp2_with fail;go_roundw
      case rel=>exact⟨q+1,by omega,by go_num,hf3,trivial⟩
      case measure=>simp[intOf];omega
     ·have hv2:(v != 0)=true:=by simpa using hv
      have hf3:Hid (R=v):=hid (hf2.out.trans (if_neg hv));clear hf hf2;go_wp2_with fail;go_ret;exact⟨congrArg (fun z=>Ending.returned (.int .i64 z)) hf3.out.symm,hr3.out.fr⟩
    ·obtain rfl:q=L.length:=by omega
     have e3:decide ((L.length:Int)<(L.length:Int))=false:=decide_eq_false (by omega);have hf3:Hid (R=0):=hid (hf.out.trans (fstN_end L));clear hf;go_wp2_with fail;go_ret;exact⟨congrArg (fun z=>Ending.returned (.int .i64 z)) hf3.out.symm,hr3.out.fr⟩
end sy
end Go.Proofs.YtlkboeajkgbnaaaGreatDoor
