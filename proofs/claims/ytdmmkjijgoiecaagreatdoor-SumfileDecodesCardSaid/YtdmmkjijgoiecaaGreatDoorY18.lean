import Derived.Lib.SmallJoins
import Derived.Shelf.Slices.Cells
import Derived.Shelf.Slices.Clone
import Derived.Shelf.Slices.In.SortNone
import Derived.Shelf.Small.Bits
import Derived.Shelf.Small.Utf8
import Derived.Shelf.Small.Wraps
import Derived.Shelf.Sort.Plain
import Derived.Shelf.Strconv.Itoa3
import Derived.Shelf.Strings.AsciiSet
import Derived.Shelf.Strings.Runes
import Derived.Shelf.Strings.Shaped
import Derived.Shelf.Strings.Trim
import Derived.Shelf.Unicode.DecodeSlow
import Derived.Test.YtdmmkjijgoiecaaGreatDoorY17
set_option linter.all false
set_option maxHeartbeats 4000000
namespace Go.Proofs.YtdmmkjijgoiecaaGreatDoor
open Lib(hid)
namespace nm
open RowKit
structure Nd where
 kind:Int
 fn:ByteArray
 copy:Int
 name:ByteArray
 n:Int
 cell:Int
def Nd.cells(d:Nd):Array Value:=#[.int .i64 d.kind,.string d.fn,.int .i64 d.copy,.string d.name,.int .i64 d.n,.int .i64 d.cell]
def Nd.val(d:Nd):Value:=.agg d.cells
def jD(a b:Nd):Bool:=a.kind==b.kind&&(a.fn.toList==b.fn.toList&&(a.copy==b.copy&&(a.name.toList==b.name.toList&&(a.n==b.n&&a.cell==b.cell))))
structure gK:Prop where
 neq:∀(a b:Nd) (w:World),(binOp .neq 175 a.val b.val).run Tryz.prog w=.ok (.bool (!jD a b)) w
 guard:∀(op:BinOp) (x y:Operand) (xs ys:Array Value) (w:World),(eqGuard op 175 x y (.agg xs) (.agg ys)).run Tryz.prog w=.ok () w
def bY(d:Nd):Nd:=
 if d.kind=5 then { kind:=5,fn:=⟨#[]⟩,copy:=0,name:=d.name,n:=0,cell:=d.cell }
 else if d.kind=6 then { kind:=6,fn:=d.fn,copy:=d.copy,name:=d.name,n:=0,cell:=d.cell }
 else if d.kind=1 then { kind:=1,fn:=d.fn,copy:=d.copy,name:=d.name,n:=0,cell:=-1 }
 else if d.kind=7 then { kind:=7,fn:=d.fn,copy:=d.copy,name:=⟨#[]⟩,n:=d.n,cell:=d.cell }
 else if d.kind=2∨d.kind=3 then { kind:=d.kind,fn:=d.fn,copy:=d.copy,name:=⟨#[]⟩,n:=d.n,cell:=-1 }
 else { kind:=d.kind,fn:=d.fn,copy:=d.copy,name:=⟨#[]⟩,n:=0,cell:=-1 }
def aFB(d:Nd)(w:World)(e:Ending)(w':World):Prop:=e=.returned (bY d).val∧Below w.heap.size w w'
theorem vZ(w:World)(a b c:Obj):Below w.heap.size w (((w.alloc a).alloc b).alloc c):=(((Below.refl _ _).alloc (aY _) _).alloc (by simp) _).alloc (by simp;omega) _
theorem jU{d o:Nd}{w w':World}(h:bY d=o)(hb:Below w.heap.size w w'):aFB d w (.returned o.val) w':=⟨by rw[h],hb⟩
theorem rX(d:Nd)(w:World):Calls Tryz.prog 249 #[d.val] w (aFB d w):=by
 obtain⟨kind,fn,copy,name,n,cell⟩:=d;unfold Nd.val Nd.cells;rcases(by omega:kind=5∨kind=6∨kind=1∨kind=7∨kind=2∨kind=3∨(kind≠5∧kind≠6∧kind≠1∧kind≠7∧kind≠2∧kind≠3))with rfl | rfl | rfl | rfl | rfl | rfl | ⟨h5,h6,h1,J,Y,h3⟩
 ·go_enter Tryz.func249,Tryz.ntmps249
  go_wp2
  exact bodyPost_ret (v:=.agg #[.int .i64 5,.string ⟨#[]⟩,.int .i64 0,.string name,.int .i64 0,.int .i64 cell]) (by simp[results,Tryz.results249,go_sem]) rfl (jU (o:=⟨5,⟨#[]⟩,0,name,0,cell⟩) rfl (vZ _ _ _ _))
 ·go_enter Tryz.func249,Tryz.ntmps249
  go_wp2
  exact bodyPost_ret (v:=.agg #[.int .i64 6,.string fn,.int .i64 copy,.string name,.int .i64 0,.int .i64 cell]) (by simp[results,Tryz.results249,go_sem]) rfl (jU (o:=⟨6,fn,copy,name,0,cell⟩) rfl (vZ _ _ _ _))
 ·go_enter Tryz.func249,Tryz.ntmps249
  go_wp2
  exact bodyPost_ret (v:=.agg #[.int .i64 1,.string fn,.int .i64 copy,.string name,.int .i64 0,.int .i64 (-1)]) (by simp[results,Tryz.results249,go_sem]) rfl (jU (o:=⟨1,fn,copy,name,0,-1⟩) rfl (vZ _ _ _ _))
 ·go_enter Tryz.func249,Tryz.ntmps249
  go_wp2
  exact bodyPost_ret (v:=.agg #[.int .i64 7,.string fn,.int .i64 copy,.string ⟨#[]⟩,.int .i64 n,.int .i64 cell]) (by simp[results,Tryz.results249,go_sem]) rfl (jU (o:=⟨7,fn,copy,⟨#[]⟩,n,cell⟩) rfl (vZ _ _ _ _))
 ·go_enter Tryz.func249,Tryz.ntmps249
  go_wp2
  exact bodyPost_ret (v:=.agg #[.int .i64 2,.string fn,.int .i64 copy,.string ⟨#[]⟩,.int .i64 n,.int .i64 (-1)]) (by simp[results,Tryz.results249,go_sem]) rfl (jU (o:=⟨2,fn,copy,⟨#[]⟩,n,-1⟩) rfl (vZ _ _ _ _))
 ·go_enter Tryz.func249,Tryz.ntmps249
  go_wp2
  exact bodyPost_ret (v:=.agg #[.int .i64 3,.string fn,.int .i64 copy,.string ⟨#[]⟩,.int .i64 n,.int .i64 (-1)]) (by simp[results,Tryz.results249,go_sem]) rfl (jU (o:=⟨3,fn,copy,⟨#[]⟩,n,-1⟩) rfl (vZ _ _ _ _))
 ·have b5:(kind==5)=false:=bI.2 h5
  have b6:(kind==6)=false:=bI.2 h6;have b1:(kind==1)=false:=bI.2 h1;have b7:(kind==7)=false:=bI.2 J;have b2:(kind==2)=false:=bI.2 Y;have b3:(kind==3)=false:=bI.2 h3
  have Ho:Hid (bY ⟨kind,fn,copy,name,n,cell⟩=⟨kind,fn,copy,⟨#[]⟩,0,-1⟩):=hid (by
   unfold bY;simp only[]
   rw[if_neg h5,if_neg h6,if_neg h1,if_neg J,if_neg (by rintro(h | h);exact Y h;exact h3 h)])
  clear h5 h6 h1 J Y h3;go_enter Tryz.func249,Tryz.ntmps249
  go_wp2
  exact bodyPost_ret (v:=.agg #[.int .i64 kind,.string fn,.int .i64 copy,.string ⟨#[]⟩,.int .i64 0,.int .i64 (-1)]) (by simp[results,Tryz.results249,go_sem]) rfl (jU (o:=⟨kind,fn,copy,⟨#[]⟩,0,-1⟩) Ho.out (vZ _ _ _ _))
def fK(n least:Int):Bool:=decide (least≤n∧n≤268435456)
theorem fP(n least:Int)(w:World):Calls Tryz.prog 250 #[.int .i64 n,.int .i64 least] w fun e w'=>e=.returned (.bool (fK n least))∧w=w':=by
 by_cases Y:least≤n
 ·by_cases J:n≤268435456
  ·have H:Hid (fK n least=true):=hid (aC ⟨Y,J⟩)
   go_enter Tryz.func250,Tryz.ntmps250
   go_wp2
   go_ret;exact⟨by rw[H.out];rfl,rfl⟩
  ·have H:Hid (fK n least=false):=hid (aB (fun h=>J h.2))
   go_enter Tryz.func250,Tryz.ntmps250
   go_wp2
   go_ret;exact⟨by rw[H.out];rfl,rfl⟩
 ·have H:Hid (fK n least=false):=hid (aB (fun h=>Y h.1))
  go_enter Tryz.func250,Tryz.ntmps250
  go_wp2
  go_ret;exact⟨by rw[H.out];rfl,rfl⟩
def swB(d:Nd):Bool:=
 if(d.kind==5)=true then dg.bZ d.name
 else if(d.kind==1)=true∨(d.kind==6)=true then dg.bZ d.fn&&dg.bZ d.name
 else if(d.kind==3)=true∨(d.kind==7)=true then dg.bZ d.fn&&fK d.n 1
 else dg.bZ d.fn&&fK d.n 0
def dY(d:Nd):Bool:=decide (1≤d.kind∧d.kind≤7)&&(jD d (bY d)&&(fK d.copy 0&&(fK d.cell (-1)&&swB d)))
theorem under:Tryz.prog.underlying 175=some (.struct (Tryz.prog.fieldsOf 175)):=by kernel_rfl
theorem stood:Tryz.prog.stoodInHeld 175=false:=by kernel_rfl
theorem aMd:Tryz.prog.eqGuardType Tryz.prog.depth 175=false:=by kernel_rfl
theorem aJu:(Tryz.prog.fieldsOf 175).toList.map (fun f=>(f.name == "_",f.type,f.offset))=[(false,3,0),(false,9,1),(false,3,2),(false,9,3),(false,3,4),(false,3,5)]:=by kernel_rfl
theorem jC{P:Program}(d:Nat)(xs ys:Array Value)(f:Field)(fs:List Field)(a b:Value)(r:Bool)(w:World)(Y:(f.name == "_")=false)
 (ha:(part f.type xs f.offset).run P w=.ok a w) (hb:(part f.type ys f.offset).run P w=.ok b w) (hr:(Op.equalIn d f.type a b).run P w=.ok r w) :
 (Op.eqFields d xs ys (f :: fs)).run P w=if r then(Op.eqFields d xs ys fs).run P w else .ok false w:=by
 have J:f.name ≠ "_" := by simpa using Y
 rw[Op.eqFields,if_pos J];simp only[Sem.run_bind,ha,hb,hr,Result.andThen_ok,Sem.run_ite,Sem.run_pure];cases r <;> simp
theorem aGH(a b:Nd)(w:World):(binOp .neq 175 a.val b.val).run Tryz.prog w=.ok (.bool (!jD a b)) w:=by
 unfold Nd.val;rw[run_neq_struct,run_equalIn_struct _ _ _ _ _ under stood];have h:=aJu;generalize (Tryz.prog.fieldsOf 175).toList=fs at *;rcases fs with _ | ⟨f0,_ | ⟨f1,_ | ⟨Y,_ | ⟨f3,_ | ⟨f4,_ | ⟨J,_ | ⟨f6,fs⟩⟩⟩⟩⟩⟩⟩
 all_goals first | (simp at h;done) | skip
 simp only[aV,aU,List.cons.injEq,Prod.mk.injEq,and_true]at h;obtain⟨⟨a0,b0,c0⟩,⟨a1,b1,c1⟩,⟨a2,b2,c2⟩,⟨a3,b3,c3⟩,⟨a4,b4,c4⟩,⟨a5,b5,c5⟩⟩:=h;have p0:∀d:Nd,(part f0.type d.cells f0.offset).run Tryz.prog w=.ok (.int .i64 d.kind) w:=fun d=>by rw[b0,c0];unfold Nd.cells;kernel_rfl
 have p1:∀d:Nd,(part f1.type d.cells f1.offset).run Tryz.prog w=.ok (.string d.fn) w:=fun d=>by rw[b1,c1];unfold Nd.cells;kernel_rfl
 have p2:∀d:Nd,(part Y.type d.cells Y.offset).run Tryz.prog w=.ok (.int .i64 d.copy) w:=fun d=>by rw[b2,c2];unfold Nd.cells;kernel_rfl
 have p3:∀d:Nd,(part f3.type d.cells f3.offset).run Tryz.prog w=.ok (.string d.name) w:=fun d=>by rw[b3,c3];unfold Nd.cells;kernel_rfl
 have p4:∀d:Nd,(part f4.type d.cells f4.offset).run Tryz.prog w=.ok (.int .i64 d.n) w:=fun d=>by rw[b4,c4];unfold Nd.cells;kernel_rfl
 have p5:∀d:Nd,(part J.type d.cells J.offset).run Tryz.prog w=.ok (.int .i64 d.cell) w:=fun d=>by rw[b5,c5];unfold Nd.cells;kernel_rfl
 have i0:(Op.equalIn 9999 f0.type (.int .i64 a.kind) (.int .i64 b.kind)).run Tryz.prog w=.ok (a.kind==b.kind) w:=by rw[b0];exact run_equalIn_int w 9998 _ _ _ _ _ Tryz.underlying3
 have i1:(Op.equalIn 9999 f1.type (.string a.fn) (.string b.fn)).run Tryz.prog w=.ok (a.fn.toList==b.fn.toList) w:=by rw[b1];exact run_equalIn_string w 9998 _ _ _ Tryz.underlying9
 have i2:(Op.equalIn 9999 Y.type (.int .i64 a.copy) (.int .i64 b.copy)).run Tryz.prog w=.ok (a.copy==b.copy) w:=by rw[b2];exact run_equalIn_int w 9998 _ _ _ _ _ Tryz.underlying3
 have i3:(Op.equalIn 9999 f3.type (.string a.name) (.string b.name)).run Tryz.prog w=.ok (a.name.toList==b.name.toList) w:=by rw[b3];exact run_equalIn_string w 9998 _ _ _ Tryz.underlying9
 have i4:(Op.equalIn 9999 f4.type (.int .i64 a.n) (.int .i64 b.n)).run Tryz.prog w=.ok (a.n==b.n) w:=by rw[b4];exact run_equalIn_int w 9998 _ _ _ _ _ Tryz.underlying3
 have i5:(Op.equalIn 9999 J.type (.int .i64 a.cell) (.int .i64 b.cell)).run Tryz.prog w=.ok (a.cell==b.cell) w:=by rw[b5];exact run_equalIn_int w 9998 _ _ _ _ _ Tryz.underlying3
 rw[jC 9999 _ _ f0 _ _ _ _ w a0 (p0 a) (p0 b) i0,jC 9999 _ _ f1 _ _ _ _ w a1 (p1 a) (p1 b) i1,jC 9999 _ _ Y _ _ _ _ w a2 (p2 a) (p2 b) i2,
  jC 9999 _ _ f3 _ _ _ _ w a3 (p3 a) (p3 b) i3,jC 9999 _ _ f4 _ _ _ _ w a4 (p4 a) (p4 b) i4,jC 9999 _ _ J _ _ _ _ w a5 (p5 a) (p5 b) i5]
 unfold jD;cases(a.kind==b.kind) <;> cases(a.fn.toList==b.fn.toList) <;> cases(a.copy==b.copy) <;> cases(a.name.toList==b.name.toList) <;> cases(a.n==b.n) <;> cases(a.cell==b.cell) <;> simp[Op.eqFields,Sem.run_pure,Result.andThen]
theorem held:gK:=⟨aGH,fun op x y xs ys w=>run_eqGuard_agg w op _ x y xs ys aMd⟩
end nm
end Go.Proofs.YtdmmkjijgoiecaaGreatDoor
