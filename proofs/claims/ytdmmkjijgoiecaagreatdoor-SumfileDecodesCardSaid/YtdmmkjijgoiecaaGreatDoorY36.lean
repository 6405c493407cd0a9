import Derived.StillTailTactics
import Derived.Test.YtdmmkjijgoiecaaGreatDoorY25
import Derived.Test.YtdmmkjijgoiecaaGreatDoorY35
set_option linter.all false
set_option maxHeartbeats 4000000
namespace Go.Proofs.YtdmmkjijgoiecaaGreatDoor
open Lib(hid)
set_option maxRecDepth 100000
namespace sy
open RowKit Go.Sort mem
def wT(a b:SC):Int:=kR [lV a.op b.op,gV a.a b.a,gV a.b b.b,lV a.k b.k,gV a.tag b.tag,sU a.args b.args]
theorem aFm(a b:Int)(w:World):Calls Tryz.prog 178 #[.int .i64 a,.int .i64 b] w (gD (lV a b) w):=by
 refine(Tryz.cmp_Compare_int a b w).mono ?_;rintro e w' ⟨rfl,rfl⟩;refine⟨?_,rfl⟩;congr 2
def dG(x:Int)(w:World)(e:Ending)(w':World):Prop:=e=.returned (.int .i64 x)∧Below w.heap.size w w'
theorem aBO(W:World)(t:TypeId)(l:List Value):Rd (W.alloc (.cells l.toArray t)) (some ⟨W.heap.size,0,none⟩) l:=fun _=>⟨W.heap.size,0,rfl,by simp,fun j J=>by
 rw[Nat.zero_add,(bV.new W t l.toArray).cell j]
 simp[aN J]⟩
theorem mE{P:Program}{id:Nat}{Q:Exit→Act→World→Prop}{a:Act}{w:World}{l:List Oper}(n:Nat)(hm:P.follows .mixedOrders=true)(Y:Region.lexTailB .any l.toArray n=true)
 (h:∀W,W=w.drew→wpStill P l.toArray W (fun J=>wpList P l.toArray Q (l.drop n) J W) (l.take n) a):(Code.region id l.toArray true).wp P Q a w:=wp_region_still_tail n hm Y (h w.drew rfl)
theorem aCN(x y:MC)(w:World)(hx:COk w x)(hy:COk w y):Calls Tryz.prog 122 #[.agg x.row.toArray,.agg y.row.toArray] w (dG (wT x.c y.c) w):=by
 have C1:=hid (fun w=>aFm x.c.op y.c.op w);have C2:=hid (fun w=>zN x.c.a y.c.a w);have C3:=hid (fun w=>zN x.c.b y.c.b w);have C4:=hid (fun w=>aFm x.c.k y.c.k w);have C5:=hid (fun w=>zN x.c.tag y.c.tag w);have C6:=hid (fun w' (hb:Below w.heap.size w w')=>aHu w' x.aA y.aA x.ac y.ac x.c.args y.c.args (hx.g.below hb) (hy.g.below hb) hx.gl hy.gl);obtain⟨R,hR⟩:∃R,Hid (R=wT x.c y.c):=⟨_,hid rfl⟩;rw[←hR.out];unfold wT at hR;unfold gD at C1 C2 C3 C4 C5 C6;generalize lV x.c.op y.c.op=r1 at *;generalize gV x.c.a y.c.a=r2 at *;generalize gV x.c.b y.c.b=r3 at *;generalize lV x.c.k y.c.k=r4 at *;generalize gV x.c.tag y.c.tag=r5 at *;generalize sU x.c.args y.c.args=r6 at *;clear hx hy;obtain⟨⟨op,a,b,k,tag,args⟩,aA,ac⟩:=x;obtain⟨⟨a5,a2,b2,k2,J,a0⟩,a4,a3⟩:=y;unfold MC.row;dsimp only at *;generalize args.length=n at *;generalize a0.length=n2 at *;go_enter Tryz.func122,Tryz.ntmps122
 go_wp2_with fail;have a1:Below w.heap.size w (((w.alloc (.cells #[.int .i64 op,.string a,.string b,.int .i64 k,.string tag,.slice aA n ac] 105)).alloc (.cells #[.int .i64 a5,.string a2,.string b2,.int .i64 k2,.string J,.slice a4 n2 a3] 105)).drew):=(((Fr.refl [] w).alloc _).alloc _).drew.all;have HB:=hid a1;have C7:=hid (C6.out _ a1);clear C6 a1;have X0:=(bV.new w 105 #[.int .i64 op,.string a,.string b,.int .i64 k,.string tag,.slice aA n ac]).kept ((Fr.refl [] (w.alloc (.cells #[.int .i64 op,.string a,.string b,.int .i64 k,.string tag,.slice aA n ac] 105))).alloc (.cells #[.int .i64 a5,.string a2,.string b2,.int .i64 k2,.string J,.slice a4 n2 a3] 105)).drew (by simp);have Y:=(bV.new (w.alloc (.cells #[.int .i64 op,.string a,.string b,.int .i64 k,.string tag,.slice aA n ac] 105)) 105 #[.int .i64 a5,.string a2,.string b2,.int .i64 k2,.string J,.slice a4 n2 a3]).kept (Fr.refl [] _).drew (by simp)
 rw[show(w.alloc (.cells #[.int .i64 op,.string a,.string b,.int .i64 k,.string tag,.slice aA n ac] 105)).heap.size=w.heap.size+1 by simp]at Y;refine mE 30 (by kernel_rfl) (by kernel_rfl) fun W hW=>?_
 rw[←hW]at C7 X0 Y HB;clear hW;simp only[List.take_succ_cons,List.take_zero,List.drop_succ_cons,List.drop_zero];have x0:=X0.cell 0;have x1:=X0.cell 1;have x2:=X0.cell 2;have x3:=X0.cell 3;have x4:=X0.cell 4;have x5:=X0.cell 5;have y0:=Y.cell 0;have y1:=Y.cell 1;have y2:=Y.cell 2;have y3:=Y.cell 3;have y4:=Y.cell 4;have y5:=Y.cell 5;clear X0 Y;simp only[aL,aJ,aK]at x0 x1 x2 x3 x4 x5 y0 y1 y2 y3 y4 y5
 iterate 4 still_step
 still_call (C1.out _)
 iterate 4 still_step
 still_call (C2.out _)
 iterate 4 still_step
 still_call (C3.out _)
 iterate 4 still_step
 still_call (C4.out _)
 iterate 4 still_step
 still_call (C5.out _)
 iterate 4 still_step
 still_call C7.out
 refine wpStill_nil ?_;clear C1 C2 C3 C4 C5 C7 x0 x1 x2 x3 x4 x5 y0 y1 y2 y3 y4 y5;have HO:=hid (aMg (W.alloc (.cells #[.int .i64 r1,.int .i64 r2,.int .i64 r3,.int .i64 r4,.int .i64 r5,.int .i64 r6] 3)) (some ⟨W.heap.size,0,none⟩) 6 [r1,r2,r3,r4,r5,r6] (aBO W 3 (ints [r1,r2,r3,r4,r5,r6])) (by simp[maxLen]));have a6:=hid (HB.out.trans (((Fr.refl [] W).alloc (.cells #[.int .i64 r1,.int .i64 r2,.int .i64 r3,.int .i64 r4,.int .i64 r5,.int .i64 r6] 3)).all.mono HB.out.size));rw[←hR.out]at HO;unfold gD at HO;clear HB hR
 go_wp2_with (refine HO.out.mono ?_;rintro e w2 ⟨rfl,rfl⟩)
 go_ret;exact⟨rfl,a6.out⟩
end sy
end Go.Proofs.YtdmmkjijgoiecaaGreatDoor
