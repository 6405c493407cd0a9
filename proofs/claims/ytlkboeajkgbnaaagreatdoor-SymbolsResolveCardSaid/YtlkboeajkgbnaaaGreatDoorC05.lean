import Derived.Lib.SmallJoins
import Derived.Shelf.Slices.Cells
import Derived.Shelf.Slices.Clone
import Derived.Shelf.Small.Bits
import Derived.Shelf.Small.Wraps
import Derived.Shelf.Strconv.Itoa3
import Derived.Shelf.Strings.AsciiSet
import Derived.Shelf.Strings.Runes
import Derived.Shelf.Strings.Search2
import Derived.Shelf.Strings.Trim
import Derived.Test.YtlkboeajkgbnaaaGreatDoorC02
set_option linter.all false
set_option maxHeartbeats 4000000
namespace Go.Proofs.YtlkboeajkgbnaaaGreatDoor
open Lib(hid)
namespace nm
open RowKit
structure Nd where
 kind:Int
 fn:ByteArray
 copy:Int
 name:ByteArray
 n:Int
 cell:Int
def Nd.cells(d:Nd):Array Value:=#[.int .i64 d.kind,.string d.fn,.int .i64 d.copy,.string d.name,.int .i64 d.n,.int .i64 d.cell]
def Nd.val(d:Nd):Value:=.agg d.cells
def sameB(a b:Nd):Bool:=a.kind==b.kind&&(a.fn.toList==b.fn.toList&&(a.copy==b.copy&&(a.name.toList==b.name.toList&&(a.n==b.n&&a.cell==b.cell))))
structure Held:Prop where
 neq:∀(a b:Nd) (w:World),(binOp .neq 115 a.val b.val).run Tryz.prog w=.ok (.bool (!sameB a b)) w
 guard:∀(op:BinOp) (x y:Operand) (xs ys:Array Value) (w:World),(eqGuard op 115 x y (.agg xs) (.agg ys)).run Tryz.prog w=.ok () w
def ownN(d:Nd):Nd:=
 if d.kind=5 then { kind:=5,fn:=⟨#[]⟩,copy:=0,name:=d.name,n:=0,cell:=d.cell }
 else if d.kind=6 then { kind:=6,fn:=d.fn,copy:=d.copy,name:=d.name,n:=0,cell:=d.cell }
 else if d.kind=1 then { kind:=1,fn:=d.fn,copy:=d.copy,name:=d.name,n:=0,cell:=-1 }
 else if d.kind=7 then { kind:=7,fn:=d.fn,copy:=d.copy,name:=⟨#[]⟩,n:=d.n,cell:=d.cell }
 else if d.kind=2∨d.kind=3 then { kind:=d.kind,fn:=d.fn,copy:=d.copy,name:=⟨#[]⟩,n:=d.n,cell:=-1 }
 else { kind:=d.kind,fn:=d.fn,copy:=d.copy,name:=⟨#[]⟩,n:=0,cell:=-1 }
def OwnPost(d:Nd)(w:World)(e:Ending)(w':World):Prop:=e=.returned (ownN d).val∧Below w.heap.size w w'
theorem below3(w:World)(a b c:Obj):Below w.heap.size w (((w.alloc a).alloc b).alloc c):=(((Below.refl _ _).alloc (Nat.le_refl _) _).alloc (by simp) _).alloc (by simp;omega) _
theorem ownPost_mk{d o:Nd}{w w':World}(h:ownN d=o)(hb:Below w.heap.size w w'):OwnPost d w (.returned o.val) w':=⟨by rw[h],hb⟩
theorem own_any(d:Nd)(w:World):Calls Tryz.prog 159 #[d.val] w (OwnPost d w):=by
 obtain⟨kind,fn,copy,name,n,cell⟩:=d;unfold Nd.val Nd.cells;rcases(by omega:kind=5∨kind=6∨kind=1∨kind=7∨kind=2∨kind=3∨(kind≠5∧kind≠6∧kind≠1∧kind≠7∧kind≠2∧kind≠3))with rfl | rfl | rfl | rfl | rfl | rfl | ⟨h5,h6,h1,h7,h2,h3⟩
 ·go_enter Tryz.func159,Tryz.ntmps159
  go_wp2
  exact bodyPost_ret (v:=.agg #[.int .i64 5,.string ⟨#[]⟩,.int .i64 0,.string name,.int .i64 0,.int .i64 cell]) (by simp[results,Tryz.results159,go_sem]) rfl (ownPost_mk (o:=⟨5,⟨#[]⟩,0,name,0,cell⟩) rfl (below3 _ _ _ _))
 ·go_enter Tryz.func159,Tryz.ntmps159
  go_wp2
  exact bodyPost_ret (v:=.agg #[.int .i64 6,.string fn,.int .i64 copy,.string name,.int .i64 0,.int .i64 cell]) (by simp[results,Tryz.results159,go_sem]) rfl (ownPost_mk (o:=⟨6,fn,copy,name,0,cell⟩) rfl (below3 _ _ _ _))
 ·go_enter Tryz.func159,Tryz.ntmps159
  go_wp2
  exact bodyPost_ret (v:=.agg #[.int .i64 1,.string fn,.int .i64 copy,.string name,.int .i64 0,.int .i64 (-1)]) (by simp[results,Tryz.results159,go_sem]) rfl (ownPost_mk (o:=⟨1,fn,copy,name,0,-1⟩) rfl (below3 _ _ _ _))
 ·go_enter Tryz.func159,Tryz.ntmps159
  go_wp2
  exact bodyPost_ret (v:=.agg #[.int .i64 7,.string fn,.int .i64 copy,.string ⟨#[]⟩,.int .i64 n,.int .i64 cell]) (by simp[results,Tryz.results159,go_sem]) rfl (ownPost_mk (o:=⟨7,fn,copy,⟨#[]⟩,n,cell⟩) rfl (below3 _ _ _ _))
 ·go_enter Tryz.func159,Tryz.ntmps159
  go_wp2
  exact bodyPost_ret (v:=.agg #[.int .i64 2,.string fn,.int .i64 copy,.string ⟨#[]⟩,.int .i64 n,.int .i64 (-1)]) (by simp[results,Tryz.results159,go_sem]) rfl (ownPost_mk (o:=⟨2,fn,copy,⟨#[]⟩,n,-1⟩) rfl (below3 _ _ _ _))
 ·go_enter Tryz.func159,Tryz.ntmps159
  go_wp2
  exact bodyPost_ret (v:=.agg #[.int .i64 3,.string fn,.int .i64 copy,.string ⟨#[]⟩,.int .i64 n,.int .i64 (-1)]) (by simp[results,Tryz.results159,go_sem]) rfl (ownPost_mk (o:=⟨3,fn,copy,⟨#[]⟩,n,-1⟩) rfl (below3 _ _ _ _))
 ·have b5:(kind==5)=false:=beq_eq_false_iff_ne.2 h5
  have b6:(kind==6)=false:=beq_eq_false_iff_ne.2 h6;have b1:(kind==1)=false:=beq_eq_false_iff_ne.2 h1;have b7:(kind==7)=false:=beq_eq_false_iff_ne.2 h7;have b2:(kind==2)=false:=beq_eq_false_iff_ne.2 h2;have b3:(kind==3)=false:=beq_eq_false_iff_ne.2 h3
  have Ho:Hid (ownN ⟨kind,fn,copy,name,n,cell⟩=⟨kind,fn,copy,⟨#[]⟩,0,-1⟩):=hid (by
   unfold ownN;simp only[]
   rw[if_neg h5,if_neg h6,if_neg h1,if_neg h7,if_neg (by rintro(h | h);exact h2 h;exact h3 h)])
  clear h5 h6 h1 h7 h2 h3;go_enter Tryz.func159,Tryz.ntmps159
  go_wp2
  exact bodyPost_ret (v:=.agg #[.int .i64 kind,.string fn,.int .i64 copy,.string ⟨#[]⟩,.int .i64 0,.int .i64 (-1)]) (by simp[results,Tryz.results159,go_sem]) rfl (ownPost_mk (o:=⟨kind,fn,copy,⟨#[]⟩,0,-1⟩) Ho.out (below3 _ _ _ _))
def cntB(n least:Int):Bool:=decide (least≤n∧n≤268435456)
theorem count_any(n least:Int)(w:World):Calls Tryz.prog 160 #[.int .i64 n,.int .i64 least] w fun e w'=>e=.returned (.bool (cntB n least))∧w=w':=by
 by_cases h1:least≤n
 ·by_cases h2:n≤268435456
  ·have H:Hid (cntB n least=true):=hid (decide_eq_true ⟨h1,h2⟩)
   go_enter Tryz.func160,Tryz.ntmps160
   go_wp2
   go_ret;exact⟨by rw[H.out];rfl,rfl⟩
  ·have H:Hid (cntB n least=false):=hid (decide_eq_false (fun h=>h2 h.2))
   go_enter Tryz.func160,Tryz.ntmps160
   go_wp2
   go_ret;exact⟨by rw[H.out];rfl,rfl⟩
 ·have H:Hid (cntB n least=false):=hid (decide_eq_false (fun h=>h1 h.1))
  go_enter Tryz.func160,Tryz.ntmps160
  go_wp2
  go_ret;exact⟨by rw[H.out];rfl,rfl⟩
def swB(d:Nd):Bool:=
 if(d.kind==5)=true then dg.nameB d.name
 else if(d.kind==1)=true∨(d.kind==6)=true then dg.nameB d.fn&&dg.nameB d.name
 else if(d.kind==3)=true∨(d.kind==7)=true then dg.nameB d.fn&&cntB d.n 1
 else dg.nameB d.fn&&cntB d.n 0
def mayB(d:Nd):Bool:=decide (1≤d.kind∧d.kind≤7)&&(sameB d (ownN d)&&(cntB d.copy 0&&(cntB d.cell (-1)&&swB d)))
theorem under:Tryz.prog.underlying 115=some (.struct (Tryz.prog.fieldsOf 115)):=by kernel_rfl
theorem stood:Tryz.prog.stoodInHeld 115=false:=by kernel_rfl
theorem guardN:Tryz.prog.eqGuardType Tryz.prog.depth 115=false:=by kernel_rfl
theorem nFields:(Tryz.prog.fieldsOf 115).toList.map (fun f=>(f.name == "_",f.type,f.offset))=[(false,3,0),(false,9,1),(false,3,2),(false,9,3),(false,3,4),(false,3,5)]:=by kernel_rfl
theorem eq_step{P:Program}(d:Nat)(xs ys:Array Value)(f:Field)(fs:List Field)(a b:Value)(r:Bool)(w:World)(hn:(f.name == "_")=false)
 (ha:(part f.type xs f.offset).run P w=.ok a w) (hb:(part f.type ys f.offset).run P w=.ok b w) (hr:(Op.equalIn d f.type a b).run P w=.ok r w) :
 (Op.eqFields d xs ys (f :: fs)).run P w=if r then(Op.eqFields d xs ys fs).run P w else .ok false w:=by
 have hn':f.name ≠ "_" := by simpa using hn
 rw[Op.eqFields,if_pos hn'];simp only[Sem.run_bind,ha,hb,hr,Result.andThen_ok,Sem.run_ite,Sem.run_pure];cases r <;> simp
theorem neq_nodes(a b:Nd)(w:World):(binOp .neq 115 a.val b.val).run Tryz.prog w=.ok (.bool (!sameB a b)) w:=by
 unfold Nd.val;rw[run_neq_struct,run_equalIn_struct _ _ _ _ _ under stood];have h:=nFields;generalize (Tryz.prog.fieldsOf 115).toList=fs at *;rcases fs with _ | ⟨f0,_ | ⟨f1,_ | ⟨f2,_ | ⟨f3,_ | ⟨f4,_ | ⟨f5,_ | ⟨f6,fs⟩⟩⟩⟩⟩⟩⟩
 all_goals first | (simp at h;done) | skip
 simp only[List.map_cons,List.map_nil,List.cons.injEq,Prod.mk.injEq,and_true]at h;obtain⟨⟨a0,b0,c0⟩,⟨a1,b1,c1⟩,⟨a2,b2,c2⟩,⟨a3,b3,c3⟩,⟨a4,b4,c4⟩,⟨a5,b5,c5⟩⟩:=h;have p0:∀d:Nd,(part f0.type d.cells f0.offset).run Tryz.prog w=.ok (.int .i64 d.kind) w:=fun d=>by rw[b0,c0];unfold Nd.cells;kernel_rfl
 have p1:∀d:Nd,(part f1.type d.cells f1.offset).run Tryz.prog w=.ok (.string d.fn) w:=fun d=>by rw[b1,c1];unfold Nd.cells;kernel_rfl
 have p2:∀d:Nd,(part f2.type d.cells f2.offset).run Tryz.prog w=.ok (.int .i64 d.copy) w:=fun d=>by rw[b2,c2];unfold Nd.cells;kernel_rfl
 have p3:∀d:Nd,(part f3.type d.cells f3.offset).run Tryz.prog w=.ok (.string d.name) w:=fun d=>by rw[b3,c3];unfold Nd.cells;kernel_rfl
 have p4:∀d:Nd,(part f4.type d.cells f4.offset).run Tryz.prog w=.ok (.int .i64 d.n) w:=fun d=>by rw[b4,c4];unfold Nd.cells;kernel_rfl
 have p5:∀d:Nd,(part f5.type d.cells f5.offset).run Tryz.prog w=.ok (.int .i64 d.cell) w:=fun d=>by rw[b5,c5];unfold Nd.cells;kernel_rfl
 have i0:(Op.equalIn 9999 f0.type (.int .i64 a.kind) (.int .i64 b.kind)).run Tryz.prog w=.ok (a.kind==b.kind) w:=by rw[b0];exact run_equalIn_int w 9998 _ _ _ _ _ Tryz.underlying3
 have i1:(Op.equalIn 9999 f1.type (.string a.fn) (.string b.fn)).run Tryz.prog w=.ok (a.fn.toList==b.fn.toList) w:=by rw[b1];exact run_equalIn_string w 9998 _ _ _ Tryz.underlying9
 have i2:(Op.equalIn 9999 f2.type (.int .i64 a.copy) (.int .i64 b.copy)).run Tryz.prog w=.ok (a.copy==b.copy) w:=by rw[b2];exact run_equalIn_int w 9998 _ _ _ _ _ Tryz.underlying3
 have i3:(Op.equalIn 9999 f3.type (.string a.name) (.string b.name)).run Tryz.prog w=.ok (a.name.toList==b.name.toList) w:=by rw[b3];exact run_equalIn_string w 9998 _ _ _ Tryz.underlying9
 have i4:(Op.equalIn 9999 f4.type (.int .i64 a.n) (.int .i64 b.n)).run Tryz.prog w=.ok (a.n==b.n) w:=by rw[b4];exact run_equalIn_int w 9998 _ _ _ _ _ Tryz.underlying3
 have i5:(Op.equalIn 9999 f5.type (.int .i64 a.cell) (.int .i64 b.cell)).run Tryz.prog w=.ok (a.cell==b.cell) w:=by rw[b5];exact run_equalIn_int w 9998 _ _ _ _ _ Tryz.underlying3
 rw[eq_step 9999 _ _ f0 _ _ _ _ w a0 (p0 a) (p0 b) i0,eq_step 9999 _ _ f1 _ _ _ _ w a1 (p1 a) (p1 b) i1,eq_step 9999 _ _ f2 _ _ _ _ w a2 (p2 a) (p2 b) i2,
  eq_step 9999 _ _ f3 _ _ _ _ w a3 (p3 a) (p3 b) i3,eq_step 9999 _ _ f4 _ _ _ _ w a4 (p4 a) (p4 b) i4,eq_step 9999 _ _ f5 _ _ _ _ w a5 (p5 a) (p5 b) i5]
 unfold sameB;cases(a.kind==b.kind) <;> cases(a.fn.toList==b.fn.toList) <;> cases(a.copy==b.copy) <;> cases(a.name.toList==b.name.toList) <;> cases(a.n==b.n) <;> cases(a.cell==b.cell) <;> simp[Op.eqFields,Sem.run_pure,Result.andThen]
theorem held:Held:=⟨neq_nodes,fun op x y xs ys w=>run_eqGuard_agg w op _ x y xs ys guardN⟩
end nm
end Go.Proofs.YtlkboeajkgbnaaaGreatDoor
