import Derived.Shelf.Slices.In.SortNone
import Derived.Shelf.Sort.Plain
import Derived.StillTailTactics
import Derived.Test.YtlkboeajkgbnaaaGreatDoorC08
import Derived.Test.YtlkboeajkgbnaaaGreatDoorC11
set_option linter.all false
set_option maxHeartbeats 4000000
namespace Go.Proofs.YtlkboeajkgbnaaaGreatDoor
open Lib(hid)
set_option maxRecDepth 100000
namespace sy
open RowKit Go.Sort mem
def conC(a b:SC):Int:=fstN [intC a.op b.op,txtC a.a b.a,txtC a.b b.b,intC a.k b.k,txtC a.tag b.tag,lstC a.args b.args]
theorem cmp_int(a b:Int)(w:World):Calls Tryz.prog 93 #[.int .i64 a,.int .i64 b] w (SPost (intC a b) w):=by
 refine(Tryz.cmp_Compare_int a b w).mono ?_;rintro e w' ⟨rfl,rfl⟩;refine⟨?_,rfl⟩;congr 2
def IPost(x:Int)(w:World)(e:Ending)(w':World):Prop:=e=.returned (.int .i64 x)∧Below w.heap.size w w'
theorem rd_new(W:World)(t:TypeId)(l:List Value):Rd (W.alloc (.cells l.toArray t)) (some ⟨W.heap.size,0,none⟩) l:=fun _=>⟨W.heap.size,0,rfl,by simp,fun j hj=>by
 rw[Nat.zero_add,(Box.new W t l.toArray).cell j]
 simp[List.getElem?_eq_getElem hj]⟩
theorem region_tail_w{P:Program}{id:Nat}{Q:Exit→Act→World→Prop}{a:Act}{w:World}{l:List Oper}(n:Nat)(hm:P.follows .mixedOrders=true)(hB:Region.lexTailB .any l.toArray n=true)
 (h:∀W,W=w.drew→wpStill P l.toArray W (fun a'=>wpList P l.toArray Q (l.drop n) a' W) (l.take n) a):(Code.region id l.toArray true).wp P Q a w:=wp_region_still_tail n hm hB (h w.drew rfl)
theorem compare_any(x y:MC)(w:World)(hx:COk w x)(hy:COk w y):Calls Tryz.prog 62 #[.agg x.row.toArray,.agg y.row.toArray] w (IPost (conC x.c y.c) w):=by
 have C1:=hid (fun w=>cmp_int x.c.op y.c.op w);have C2:=hid (fun w=>cmp_str x.c.a y.c.a w);have C3:=hid (fun w=>cmp_str x.c.b y.c.b w);have C4:=hid (fun w=>cmp_int x.c.k y.c.k w);have C5:=hid (fun w=>cmp_str x.c.tag y.c.tag w);have C6:=hid (fun w' (hb:Below w.heap.size w w')=>cmps_any w' x.aA y.aA x.ac y.ac x.c.args y.c.args (hx.g.below hb) (hy.g.below hb) hx.gl hy.gl);obtain⟨R,hR⟩:∃R,Hid (R=conC x.c y.c):=⟨_,hid rfl⟩;rw[←hR.out];unfold conC at hR;unfold SPost at C1 C2 C3 C4 C5 C6;generalize intC x.c.op y.c.op=r1 at *;generalize txtC x.c.a y.c.a=r2 at *;generalize txtC x.c.b y.c.b=r3 at *;generalize intC x.c.k y.c.k=r4 at *;generalize txtC x.c.tag y.c.tag=r5 at *;generalize lstC x.c.args y.c.args=r6 at *;clear hx hy;obtain⟨⟨op,a,b,k,tag,args⟩,aA,ac⟩:=x;obtain⟨⟨op2,a2,b2,k2,tag2,args2⟩,aA2,ac2⟩:=y;unfold MC.row;dsimp only at *;generalize args.length=n at *;generalize args2.length=n2 at *;go_enter Tryz.func62,Tryz.ntmps62
 go_wp2_with fail;have hb0:Below w.heap.size w (((w.alloc (.cells #[.int .i64 op,.string a,.string b,.int .i64 k,.string tag,.slice aA n ac] 103)).alloc (.cells #[.int .i64 op2,.string a2,.string b2,.int .i64 k2,.string tag2,.slice aA2 n2 ac2] 103)).drew):=(((Fr.refl [] w).alloc _).alloc _).drew.all;have HB:=hid hb0;have C7:=hid (C6.out _ hb0);clear C6 hb0;have X0:=(Box.new w 103 #[.int .i64 op,.string a,.string b,.int .i64 k,.string tag,.slice aA n ac]).kept ((Fr.refl [] (w.alloc (.cells #[.int .i64 op,.string a,.string b,.int .i64 k,.string tag,.slice aA n ac] 103))).alloc (.cells #[.int .i64 op2,.string a2,.string b2,.int .i64 k2,.string tag2,.slice aA2 n2 ac2] 103)).drew (by simp);have Y0:=(Box.new (w.alloc (.cells #[.int .i64 op,.string a,.string b,.int .i64 k,.string tag,.slice aA n ac] 103)) 103 #[.int .i64 op2,.string a2,.string b2,.int .i64 k2,.string tag2,.slice aA2 n2 ac2]).kept (Fr.refl [] _).drew (by simp)
 rw[show(w.alloc (.cells #[.int .i64 op,.string a,.string b,.int .i64 k,.string tag,.slice aA n ac] 103)).heap.size=w.heap.size+1 by simp]at Y0;refine region_tail_w 30 (by kernel_rfl) (by kernel_rfl) fun W hW=>?_
 rw[←hW]at C7 X0 Y0 HB;clear hW;simp only[List.take_succ_cons,List.take_zero,List.drop_succ_cons,List.drop_zero];have x0:=X0.cell 0;have x1:=X0.cell 1;have x2:=X0.cell 2;have x3:=X0.cell 3;have x4:=X0.cell 4;have x5:=X0.cell 5;have y0:=Y0.cell 0;have y1:=Y0.cell 1;have y2:=Y0.cell 2;have y3:=Y0.cell 3;have y4:=Y0.cell 4;have y5:=Y0.cell 5;clear X0 Y0;simp only[List.getElem?_toArray,List.getElem?_cons_zero,List.getElem?_cons_succ]at x0 x1 x2 x3 x4 x5 y0 y1 y2 y3 y4 y5
 iterate 4 still_step
 still_call (C1.out _)
 iterate 4 still_step
 still_call (C2.out _)
 iterate 4 still_step
 still_call (C3.out _)
 iterate 4 still_step
 still_call (C4.out _)
 iterate 4 still_step
 still_call (C5.out _)
 iterate 4 still_step
 still_call C7.out
 refine wpStill_nil ?_;clear C1 C2 C3 C4 C5 C7 x0 x1 x2 x3 x4 x5 y0 y1 y2 y3 y4 y5;have HO:=hid (or_any (W.alloc (.cells #[.int .i64 r1,.int .i64 r2,.int .i64 r3,.int .i64 r4,.int .i64 r5,.int .i64 r6] 3)) (some ⟨W.heap.size,0,none⟩) 6 [r1,r2,r3,r4,r5,r6] (rd_new W 3 (ints [r1,r2,r3,r4,r5,r6])) (by simp[maxLen]));have HB2:=hid (HB.out.trans (((Fr.refl [] W).alloc (.cells #[.int .i64 r1,.int .i64 r2,.int .i64 r3,.int .i64 r4,.int .i64 r5,.int .i64 r6] 3)).all.mono HB.out.size));rw[←hR.out]at HO;unfold SPost at HO;clear HB hR
 go_wp2_with (refine HO.out.mono ?_;rintro e w2 ⟨rfl,rfl⟩)
 go_ret;exact⟨rfl,HB2.out⟩
end sy
end Go.Proofs.YtlkboeajkgbnaaaGreatDoor
