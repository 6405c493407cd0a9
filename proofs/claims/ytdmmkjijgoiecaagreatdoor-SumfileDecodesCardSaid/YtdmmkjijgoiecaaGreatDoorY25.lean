import Derived.Test.YtdmmkjijgoiecaaGreatDoorY04
import Derived.Test.YtdmmkjijgoiecaaGreatDoorY24
set_option linter.all false
set_option maxHeartbeats 4000000
namespace Go.Proofs.YtdmmkjijgoiecaaGreatDoor
open Lib(hid)
set_option maxRecDepth 100000
namespace sy
open RowKit mem
def zW(w:World)(A:Option Addr)(sz:Nat)(rows:List (List Value)):Prop:=0<rows.length→∃b off,A=some ⟨b,off,none⟩∧b<w.heap.size∧∀(j:Nat) (J:j<rows.length) (i:Nat) (v:Value),rows[j][i]? = some v→w.cell? ⟨b,off+j * sz+i,none⟩=some v
theorem zW.below{w w':World}{A:Option Addr}{sz:Nat}{rows:List (List Value)}(h:zW w A sz rows)(hb:Below w.heap.size w w'):zW w' A sz rows:=fun J=>by
 obtain⟨b,off,e,hl,hc⟩:=h J;exact⟨b,off,e,Nat.lt_of_lt_of_le hl hb.size,fun j Y i v hv=>(hb.cell (p:=⟨b,off+j * sz+i,none⟩) hl).trans (hc j Y i v hv)⟩
def tZ(m:Mk):List Value:=[.int .i64 m.at_,.string m.tag]
def lF(f:SF):List Value:=[.string f.name,.string f.kinds,.string f.ret]
structure MO where
 o:SO
 mA:Option Addr
 mc:Nat
def MO.row(x:MO):List Value:=[.string x.o.name,.string x.o.kinds,.slice x.mA x.o.marks.length x.mc]
structure MC where
 c:SC
 aA:Option Addr
 ac:Nat
def MC.row(x:MC):List Value:=[.int .i64 x.c.op,.string x.c.a,.string x.c.b,.int .i64 x.c.k,.string x.c.tag,.slice x.aA x.c.args.length x.ac]
structure MOk(w:World)(x:MO):Prop where
 n:x.o.name.size≤maxLen
 k:x.o.kinds.size≤maxLen
 m:zW w x.mA 2 (x.o.marks.map tZ)
 ml:x.o.marks.length≤maxLen
 mt:∀m∈x.o.marks,m.tag.size≤maxLen
 mw:∀m∈x.o.marks,(Lit.int .i64 m.at_).wf=true
 mcp:x.o.marks.length≤x.mc
structure FOk(f:SF):Prop where
 n:f.name.size≤maxLen
 k:f.kinds.size≤maxLen
 r:f.ret.size≤maxLen
structure COk(w:World)(x:MC):Prop where
 a:x.c.a.size≤maxLen
 b:x.c.b.size≤maxLen
 t:x.c.tag.size≤maxLen
 g:Rd w x.aA (x.c.args.map Value.string)
 gl:x.c.args.length≤maxLen
 gc:x.c.args.length≤x.ac
 gs:∀s∈x.c.args,s.size≤maxLen
theorem MOk.below{w w':World}{x:MO}(h:MOk w x)(hb:Below w.heap.size w w'):MOk w' x:=⟨h.n,h.k,h.m.below hb,h.ml,h.mt,h.mw,h.mcp⟩
theorem COk.below{w w':World}{x:MC}(h:COk w x)(hb:Below w.heap.size w w'):COk w' x:=⟨h.a,h.b,h.t,h.g.below hb,h.gl,h.gc,h.gs⟩
structure MS where
 oA:Option Addr
 oc:Nat
 os:List MO
 fA:Option Addr
 fc:Nat
 fs:List SF
 cA:Option Addr
 cc:Nat
 cs:List MC
def MS.sys(s:MS):SS:=⟨s.os.map (·.o),s.fs,s.cs.map (·.c)⟩
def MS.val(s:MS):Value:=.agg #[.slice s.oA s.os.length s.oc,.slice s.fA s.fs.length s.fc,.slice s.cA s.cs.length s.cc]
structure zD(w:World)(s:MS):Prop where
 o:zW w s.oA 3 (s.os.map MO.row)
 f:zW w s.fA 3 (s.fs.map lF)
 c:zW w s.cA 6 (s.cs.map MC.row)
 ok:∀x∈s.os,MOk w x
 fk:∀x∈s.fs,FOk x
 ck:∀x∈s.cs,COk w x
 ol:s.os.length≤maxLen
 fl:s.fs.length≤maxLen
 cl:s.cs.length≤maxLen
theorem zD.below{w w':World}{s:MS}(h:zD w s)(hb:Below w.heap.size w w'):zD w' s:=
 ⟨h.o.below hb,h.f.below hb,h.c.below hb,fun x J=>(h.ok x J).below hb,h.fk,fun x J=>(h.ck x J).below hb,h.ol,h.fl,h.cl⟩
theorem kS{w:World}{A:Option Addr}{os:List MO}(h:zW w A 3 (os.map MO.row)){j:Nat}(J:j<os.length):∃b off,A=some ⟨b,off,none⟩∧b<w.heap.size∧w.cell? ⟨b,off+j * 3,none⟩=some (.string os[j].o.name)∧w.cell? ⟨b,off+j * 3+1,none⟩=some (.string os[j].o.kinds)∧w.cell? ⟨b,off+j * 3+2,none⟩=some (.slice os[j].mA os[j].o.marks.length os[j].mc):=by
 obtain⟨b,off,e,hl,hc⟩:=h (by rw[aH];omega);have hr:∀i v,os[j].row[i]? = some v→w.cell? ⟨b,off+j * 3+i,none⟩=some v:=fun i v hv=>hc j (by rw[aH];exact J) i v (by rw[List.getElem_map];exact hv)
 exact⟨b,off,e,hl,hr 0 _ rfl,hr 1 _ rfl,hr 2 _ rfl⟩
theorem oC{w:World}{A:Option Addr}{fs:List SF}(h:zW w A 3 (fs.map lF)){j:Nat}(J:j<fs.length):∃b off,A=some ⟨b,off,none⟩∧b<w.heap.size∧w.cell? ⟨b,off+j * 3,none⟩=some (.string fs[j].name)∧w.cell? ⟨b,off+j * 3+1,none⟩=some (.string fs[j].kinds)∧w.cell? ⟨b,off+j * 3+2,none⟩=some (.string fs[j].ret):=by
 obtain⟨b,off,e,hl,hc⟩:=h (by rw[aH];omega);have hr:∀i v,(lF fs[j])[i]? = some v→w.cell? ⟨b,off+j * 3+i,none⟩=some v:=fun i v hv=>hc j (by rw[aH];exact J) i v (by rw[List.getElem_map];exact hv)
 exact⟨b,off,e,hl,hr 0 _ rfl,hr 1 _ rfl,hr 2 _ rfl⟩
theorem uI{w:World}{A:Option Addr}{J:List Mk}(h:zW w A 2 (J.map tZ)){j:Nat}(Y:j<J.length):∃b off,A=some ⟨b,off,none⟩∧b<w.heap.size∧w.cell? ⟨b,off+j * 2,none⟩=some (.int .i64 J[j].at_)∧w.cell? ⟨b,off+j * 2+1,none⟩=some (.string J[j].tag):=by
 obtain⟨b,off,e,hl,hc⟩:=h (by rw[aH];omega);have hr:∀i v,(tZ J[j])[i]? = some v→w.cell? ⟨b,off+j * 2+i,none⟩=some v:=fun i v hv=>hc j (by rw[aH];exact Y) i v (by rw[List.getElem_map];exact hv)
 exact⟨b,off,e,hl,hr 0 _ rfl,hr 1 _ rfl⟩
theorem nA{w:World}{A:Option Addr}{cs:List MC}(h:zW w A 6 (cs.map MC.row)){j:Nat}(J:j<cs.length):∃b off,A=some ⟨b,off,none⟩∧b<w.heap.size∧w.cell? ⟨b,off+j * 6,none⟩=some (.int .i64 cs[j].c.op)∧w.cell? ⟨b,off+j * 6+1,none⟩=some (.string cs[j].c.a)∧w.cell? ⟨b,off+j * 6+2,none⟩=some (.string cs[j].c.b)∧w.cell? ⟨b,off+j * 6+3,none⟩=some (.int .i64 cs[j].c.k)∧w.cell? ⟨b,off+j * 6+4,none⟩=some (.string cs[j].c.tag)∧w.cell? ⟨b,off+j * 6+5,none⟩=some (.slice cs[j].aA cs[j].c.args.length cs[j].ac):=by
 obtain⟨b,off,e,hl,hc⟩:=h (by rw[aH];omega);have hr:∀i v,cs[j].row[i]? = some v→w.cell? ⟨b,off+j * 6+i,none⟩=some v:=fun i v hv=>hc j (by rw[aH];exact J) i v (by rw[List.getElem_map];exact hv)
 exact⟨b,off,e,hl,hr 0 _ rfl,hr 1 _ rfl,hr 2 _ rfl,hr 3 _ rfl,hr 4 _ rfl,hr 5 _ rfl⟩
open RowKit mem nm
def dA(b:Bool)(w:World)(e:Ending)(w':World):Prop:=e=.returned (.bool b)∧Below w.heap.size w w'
theorem jB(s:ByteArray)(w:World)(hs:s.size≤maxLen):Calls Tryz.prog 61 #[.string s] w (dA (dO s) w):=by
 rcases hr:eU s with _ | _
 ·have Y:=hid (fun w=>jK s w hs hr)
  have Hv:Hid (dO s=false):=hid (by unfold dO;rw[hr];rfl);unfold jS at Y;rw[Hv.out];clear hr Hv;unfold maxLen at hs;go_enter Tryz.func61,Tryz.ntmps61;go_wp2_with fail;refine(Y.out w).mono ?_;rintro e w2 ⟨rfl,J⟩;clear Y;go_wp2_with fail;go_ret;exact⟨rfl,J.trans (((Fr.refl [] w2).alloc _).all.mono J.size)⟩
 ·have Y:=hid (fun w=>iG s w hs hr)
  have Hv:Hid (dO s=(decide ((dV s).kind≤3)||decide (0≤(dV s).cell))):=hid (by unfold dO;rw[hr];rfl);unfold kP at Y;rw[Hv.out];clear Hv hr;generalize dV s=d at *;obtain⟨kind,fn,copy,name,n,cell⟩:=d;unfold Nd.val Nd.cells at Y;dsimp only at Y ⊢;unfold maxLen at hs;by_cases h1:kind≤3
  ·have d1:decide (kind≤3)=true:=aC h1
   rw[d1,Bool.true_or];go_enter Tryz.func61,Tryz.ntmps61;go_wp2_with fail;refine(Y.out w).mono ?_;rintro e w2 ⟨rfl,J⟩;clear Y;go_wp2_with fail;go_ret;exact⟨rfl,J.trans (((Fr.refl [] w2).alloc _).all.mono J.size)⟩
  ·have d1:decide (kind≤3)=false:=aB h1
   rw[d1,Bool.false_or];by_cases h2:0≤cell
   ·have d2:decide (0≤cell)=true:=aC h2
    rw[d2];go_enter Tryz.func61,Tryz.ntmps61;go_wp2_with fail;refine(Y.out w).mono ?_;rintro e w2 ⟨rfl,J⟩;clear Y;go_wp2_with fail;go_ret;exact⟨rfl,J.trans (((Fr.refl [] w2).alloc _).all.mono J.size)⟩
   ·have d2:decide (0≤cell)=false:=aB h2
    rw[d2];go_enter Tryz.func61,Tryz.ntmps61;go_wp2_with fail;refine(Y.out w).mono ?_;rintro e w2 ⟨rfl,J⟩;clear Y;go_wp2_with fail;go_ret;exact⟨rfl,J.trans (((Fr.refl [] w2).alloc _).all.mono J.size)⟩
theorem aDS(s:ByteArray)(w:World)(hs:s.size≤maxLen):Calls Tryz.prog 165 #[.string s] w (dA (mR s) w):=by
 rcases hr:eU s with _ | _
 ·have Y:=hid (fun w=>jK s w hs hr)
  have Hv:Hid (mR s=false):=hid (by unfold mR;rw[hr];rfl);unfold jS at Y;rw[Hv.out];clear hr Hv;unfold maxLen at hs;go_enter Tryz.func165,Tryz.ntmps165;go_wp2_with fail;refine(Y.out w).mono ?_;rintro e w2 ⟨rfl,J⟩;clear Y;go_wp2_with fail;go_ret;exact⟨rfl,J.trans (((Fr.refl [] w2).alloc _).all.mono J.size)⟩
 ·have Y:=hid (fun w=>iG s w hs hr)
  have Hv:Hid (mR s=(decide ((dV s).kind=4)||decide (0≤(dV s).cell))):=hid (by unfold mR;rw[hr];rfl);unfold kP at Y;rw[Hv.out];clear Hv hr;generalize dV s=d at *;obtain⟨kind,fn,copy,name,n,cell⟩:=d;unfold Nd.val Nd.cells at Y;dsimp only at Y ⊢;unfold maxLen at hs;by_cases h1:kind=4
  ·rw[aC h1,Bool.true_or]
   have d1:(kind==4)=true:=by rw[h1];rfl
   clear h1;go_enter Tryz.func165,Tryz.ntmps165;go_wp2_with fail;refine(Y.out w).mono ?_;rintro e w2 ⟨rfl,J⟩;clear Y;go_wp2_with fail;go_ret;exact⟨rfl,J.trans (((Fr.refl [] w2).alloc _).all.mono J.size)⟩
  ·rw[aB h1,Bool.false_or]
   have d1:(kind==4)=false:=by simpa using h1
   clear h1;by_cases h2:0≤cell
   ·have d2:decide (0≤cell)=true:=aC h2
    rw[d2];go_enter Tryz.func165,Tryz.ntmps165;go_wp2_with fail;refine(Y.out w).mono ?_;rintro e w2 ⟨rfl,J⟩;clear Y;go_wp2_with fail;go_ret;exact⟨rfl,J.trans (((Fr.refl [] w2).alloc _).all.mono J.size)⟩
   ·have d2:decide (0≤cell)=false:=aB h2
    rw[d2];go_enter Tryz.func165,Tryz.ntmps165;go_wp2_with fail;refine(Y.out w).mono ?_;rintro e w2 ⟨rfl,J⟩;clear Y;go_wp2_with fail;go_ret;exact⟨rfl,J.trans (((Fr.refl [] w2).alloc _).all.mono J.size)⟩
def aD4(f:Nat)(so:Nd→Bool):Prop:=∀(d:Nd) (w:World),Calls Tryz.prog f #[d.val] w (dA (so d) w)
theorem aKw:aD4 136 (fun d=>decide (d.kind≤3)||decide (0≤d.cell)):=by
 intro d w;obtain⟨kind,fn,copy,name,n,cell⟩:=d;unfold Nd.val Nd.cells;dsimp only;by_cases Y:kind≤3
 ·have d1:decide (kind≤3)=true:=aC Y
  rw[d1,Bool.true_or];go_enter Tryz.func136,Tryz.ntmps136;go_wp2_with fail;go_ret;exact⟨rfl,((Fr.refl [] w).alloc _).all⟩
 ·have d1:decide (kind≤3)=false:=aB Y
  rw[d1,Bool.false_or];by_cases J:0≤cell
  ·have d2:decide (0≤cell)=true:=aC J
   rw[d2];go_enter Tryz.func136,Tryz.ntmps136;go_wp2_with fail;go_ret;exact⟨rfl,((Fr.refl [] w).alloc _).all⟩
  ·have d2:decide (0≤cell)=false:=aB J
   rw[d2];go_enter Tryz.func136,Tryz.ntmps136;go_wp2_with fail;go_ret;exact⟨rfl,((Fr.refl [] w).alloc _).all⟩
theorem aIc:aD4 201 (fun d=>decide (d.kind=4)||decide (0≤d.cell)):=by
 intro d w;obtain⟨kind,fn,copy,name,n,cell⟩:=d;unfold Nd.val Nd.cells;dsimp only;by_cases J:kind=4
 ·rw[aC J,Bool.true_or]
  have d1:(kind==4)=true:=by rw[J];rfl
  clear J;go_enter Tryz.func201,Tryz.ntmps201;go_wp2_with fail;go_ret;exact⟨rfl,((Fr.refl [] w).alloc _).all⟩
 ·rw[aB J,Bool.false_or]
  have d1:(kind==4)=false:=by simpa using J
  clear J;by_cases Y:0≤cell
  ·have d2:decide (0≤cell)=true:=aC Y
   rw[d2];go_enter Tryz.func201,Tryz.ntmps201;go_wp2_with fail;go_ret;exact⟨rfl,((Fr.refl [] w).alloc _).all⟩
  ·have d2:decide (0≤cell)=false:=aB Y
   rw[d2];go_enter Tryz.func201,Tryz.ntmps201;go_wp2_with fail;go_ret;exact⟨rfl,((Fr.refl [] w).alloc _).all⟩
theorem aL3:aD4 198 (fun d=>decide (5≤d.kind)&&decide (d.cell<0)):=by
 intro d w;obtain⟨kind,fn,copy,name,n,cell⟩:=d;unfold Nd.val Nd.cells;dsimp only;by_cases Y:5≤kind
 ·have d1:decide (5≤kind)=true:=aC Y
  rw[d1,Bool.true_and];by_cases J:cell<0
  ·have d2:decide (cell<0)=true:=aC J
   rw[d2];go_enter Tryz.func198,Tryz.ntmps198;go_wp2_with fail;go_ret;exact⟨rfl,((Fr.refl [] w).alloc _).all⟩
  ·have d2:decide (cell<0)=false:=aB J
   rw[d2];go_enter Tryz.func198,Tryz.ntmps198;go_wp2_with fail;go_ret;exact⟨rfl,((Fr.refl [] w).alloc _).all⟩
 ·have d1:decide (5≤kind)=false:=aB Y
  rw[d1,Bool.false_and];go_enter Tryz.func198,Tryz.ntmps198;go_wp2_with fail;go_ret;exact⟨rfl,((Fr.refl [] w).alloc _).all⟩
theorem aJR:aD4 200 (fun d=>decide (d.kind=4)):=by
 intro d w;obtain⟨kind,fn,copy,name,n,cell⟩:=d;unfold Nd.val Nd.cells;dsimp only;have hv:=hid (show(kind==4)=decide (kind=4) by rw[Bool.eq_iff_iff];simp);go_enter Tryz.func200,Tryz.ntmps200;go_wp2_with fail;go_ret;exact⟨congrArg (fun b=>Ending.returned (.bool b)) hv.out,((Fr.refl [] w).alloc _).all⟩
theorem aKk:aD4 202 (fun d=>decide (d.kind=3)):=by
 intro d w;obtain⟨kind,fn,copy,name,n,cell⟩:=d;unfold Nd.val Nd.cells;dsimp only;have hv:=hid (show(kind==3)=decide (kind=3) by rw[Bool.eq_iff_iff];simp);go_enter Tryz.func202,Tryz.ntmps202;go_wp2_with fail;go_ret;exact⟨congrArg (fun b=>Ending.returned (.bool b)) hv.out,((Fr.refl [] w).alloc _).all⟩
def Enters(f:Nat):Prop:=∀(args:Array Value) (w:World),(callFunc f args).run Tryz.prog w=.ok (.enter f args) w
theorem aJM:Enters 136:=by intro args w;go_simp
theorem aH8:Enters 201:=by intro args w;go_simp
theorem aLc:Enters 198:=by intro args w;go_simp
theorem aKm:Enters 200:=by intro args w;go_simp
theorem aKM:Enters 202:=by intro args w;go_simp
theorem aMI(s:ByteArray)(f:Nat)(w:World)(hs:s.size≤maxLen)(J:jI w)(hr:eU s=false):Calls Tryz.prog 135 #[.string s,.func (.func f) #[] #[]] w (dA false w):=by
 have Hr:=hid (aKK held s w hs J hr);unfold jS at Hr;clear hr J;unfold maxLen at hs;go_enter Tryz.func135,Tryz.ntmps135;go_wp2_with fail;refine Hr.out.mono ?_;rintro e w2 ⟨rfl,Y⟩;clear Hr;go_wp2_with fail;go_ret;exact⟨rfl,Y.trans (((Fr.refl [] w2).alloc _).all.mono Y.size)⟩
theorem aLl(s:ByteArray)(f:Nat)(so:Nd→Bool)(a3:aD4 f so)(a4:Enters f)(w:World)(hs:s.size≤maxLen)(Y:jI w)(hr:eU s=true):Calls Tryz.prog 135 #[.string s,.func (.func f) #[] #[]] w (dA (so (dV s)) w):=by
 have Hr:=hid (aIQ held s w hs Y hr);unfold kP at Hr;have J:=hid (fun w=>a3 (dV s) w);unfold dA at J ⊢;generalize so (dV s)=b at *;generalize dV s=d at *;obtain⟨kind,fn,copy,name,n,cell⟩:=d;unfold Nd.val Nd.cells at Hr J;dsimp only at Hr J;clear hr Y a3;unfold Enters at a4;unfold maxLen at hs;go_enter Tryz.func135,Tryz.ntmps135;go_wp2_with fail;refine Hr.out.mono ?_;rintro e w2 ⟨rfl,a1⟩;clear Hr;have a0:=hid (a1.trans (((Fr.refl [] w2).alloc (.cells #[.int .i64 kind,.string fn,.int .i64 copy,.string name,.int .i64 n,.int .i64 cell] 175)).all.mono a1.size));go_wp2_with fail;refine(J.out _).mono ?_;rintro e w4 ⟨rfl,a2⟩;have a5:=hid (a0.out.trans (a2.mono a0.out.size));clear a2 a0 a1;go_wp2_with fail;go_ret;exact⟨rfl,a5.out⟩
theorem aAc(s:ByteArray)(f:Nat)(so:Nd→Bool)(a0:aD4 f so)(Y:Enters f)(w:World)(hs:s.size≤maxLen)(J:jI w):Calls Tryz.prog 135 #[.string s,.func (.func f) #[] #[]] w (dA (eU s&&so (dV s)) w):=by
 rcases hr:eU s with _ | _
 ·exact aMI s f w hs J hr
 ·exact aLl s f so a0 Y w hs J hr
theorem mI(s:ByteArray)(w:World)(hs:s.size≤maxLen)(J:jI w):Calls Tryz.prog 82 #[.string s] w (dA (dO s) w):=by
 have H:=hid (aAc s _ _ aKw aJM w hs J);unfold dA at H ⊢;rw[show(eU s&&_)=dO s from rfl]at H;go_enter Tryz.func82,Tryz.ntmps82
 go_wp2_with (refine H.out.mono ?_;rintro e w2 ⟨rfl,Y⟩)
 go_ret;exact⟨rfl,Y⟩
theorem aF1(s:ByteArray)(w:World)(hs:s.size≤maxLen)(J:jI w):Calls Tryz.prog 174 #[.string s] w (dA (mR s) w):=by
 have H:=hid (aAc s _ _ aIc aH8 w hs J);unfold dA at H ⊢;rw[show(eU s&&_)=mR s from rfl]at H;go_enter Tryz.func174,Tryz.ntmps174
 go_wp2_with (refine H.out.mono ?_;rintro e w2 ⟨rfl,Y⟩)
 go_ret;exact⟨rfl,Y⟩
theorem aKc(s:ByteArray)(w:World)(hs:s.size≤maxLen)(J:jI w):Calls Tryz.prog 170 #[.string s] w (dA (aA0 s) w):=by
 have H:=hid (aAc s _ _ aL3 aLc w hs J);unfold dA at H ⊢;rw[show(eU s&&_)=aA0 s from rfl]at H;go_enter Tryz.func170,Tryz.ntmps170
 go_wp2_with (refine H.out.mono ?_;rintro e w2 ⟨rfl,Y⟩)
 go_ret;exact⟨rfl,Y⟩
theorem aH4(s:ByteArray)(w:World)(hs:s.size≤maxLen)(J:jI w):Calls Tryz.prog 173 #[.string s] w (dA (aBc s) w):=by
 have H:=hid (aAc s _ _ aJR aKm w hs J);unfold dA at H ⊢;rw[show(eU s&&_)=aBc s from rfl]at H;go_enter Tryz.func173,Tryz.ntmps173
 go_wp2_with (refine H.out.mono ?_;rintro e w2 ⟨rfl,Y⟩)
 go_ret;exact⟨rfl,Y⟩
theorem aHX(s:ByteArray)(w:World)(hs:s.size≤maxLen)(J:jI w):Calls Tryz.prog 175 #[.string s] w (dA (mY s) w):=by
 have H:=hid (aAc s _ _ aKk aKM w hs J);unfold dA at H ⊢;rw[show(eU s&&_)=mY s from rfl]at H;go_enter Tryz.func175,Tryz.ntmps175
 go_wp2_with (refine H.out.mono ?_;rintro e w2 ⟨rfl,Y⟩)
 go_ret;exact⟨rfl,Y⟩
def ipU(b:UInt8):Bool:=b==105||b==112
theorem aEC(s:ByteArray):ipB s=s.data.toList.all ipU:=by
 unfold ipB;rw[Lib.toList_data];rfl
theorem qP{s:ByteArray}{k:Nat}(J:k<s.size):(s.data.toList.take (k+1)).all ipU=((s.data.toList.take k).all ipU&&ipU s[k]):=by
 rw[bC (by rw[Array.length_toList];exact J),List.all_append];simp;rfl
theorem aI9{b c:UInt8}(h:b≠c)(n:Int)(J:(c.toNat:Int)=n):((b.toNat:Int) != n)=true:=by
 subst J;simp only[bne_iff_ne,ne_eq];intro Y;exact h (UInt8.toNat_inj.1 (by omega))
theorem tY(s:ByteArray)(least most:Nat)(w:World)(hs:s.size≤maxLen)(hl:least≤64)(hm:most≤64):Calls Tryz.prog 164 #[.string s,.int .i64 (least:Int),.int .i64 (most:Int)] w (fun e w'=>e=.returned (.bool (eD s least most))∧w'=w):=by
 unfold maxLen at hs;have Y:Hid (eD s least most=(s.data.toList.all ipU&&(decide ((least:Int)≤(s.size:Int))&&decide ((s.size:Int)≤(most:Int))))):=hid (by unfold eD;rw[aEC];congr 2 <;> simp[Int.ofNat_le]);generalize eD s least most=R at *;go_enter Tryz.func164,Tryz.ntmps164;go_wp2_with fail;go_loopw [7] (fun i wr=>∃k:Nat,k≤s.size∧i=.int .i64 k∧Hid ((s.data.toList.take k).all ipU=true)∧w=wr) (fun i _=>s.size-(intOf i).toNat)
 case atStart=>exact⟨0,by omega,rfl,hid rfl,rfl⟩
 case round=>
  obtain⟨k,hk,rfl,hf,rfl⟩:=hrel;by_cases a3:k<s.size
  ·have e1:decide ((k:Int)<(s.size:Int))=true:=aC (by omega)
   have J:=hid (qP a3);by_cases h1:s[k] = 105
   ·have d1:((s[k].toNat:Int) != 105)=false:=by rw[h1];rfl
    have hb:ipU s[k] = true:=by rw[h1];rfl
    have a0:Hid ((s.data.toList.take (k+1)).all ipU=true):=hid (by rw[J.out,hf.out,hb];rfl);clear hf J hb h1;go_wp2_with fail;go_roundw
    case rel=>exact⟨k+1,by omega,by go_num,a0,trivial⟩
    case measure=>simp[intOf];omega
   have d1:((s[k].toNat:Int) != 105)=true:=aI9 h1 105 (by decide);by_cases h2:s[k] = 112
   ·have d2:((s[k].toNat:Int) != 112)=false:=by rw[h2];rfl
    have hb:ipU s[k] = true:=by rw[h2];rfl
    have a0:Hid ((s.data.toList.take (k+1)).all ipU=true):=hid (by rw[J.out,hf.out,hb];rfl);clear hf J hb h1 h2;go_wp2_with fail;go_roundw
    case rel=>exact⟨k+1,by omega,by go_num,a0,trivial⟩
    case measure=>simp[intOf];omega
   ·have d2:((s[k].toNat:Int) != 112)=true:=aI9 h2 112 (by decide)
    have hb:ipU s[k] = false:=by unfold ipU;simp[h1,h2]
    have a4:Hid (R=false):=hid (by
     rw[Y.out,show s.data.toList.all ipU=false from ?_,Bool.false_and];rw[List.all_eq_false]
     exact⟨s[k],by simp;exact Array.getElem_mem _,by rw[hb];simp⟩)
    clear hf J hb h1 h2 Y;go_wp2_with fail;go_ret;exact⟨congrArg (fun b=>Ending.returned (.bool b)) a4.out.symm,rfl⟩
  ·obtain rfl:k=s.size:=by omega
   have e1:decide ((s.size:Int)<(s.size:Int))=false:=aB (by omega);have a1:s.data.toList.all ipU=true:=by
    have h:=hf.out
    rwa[bE (by rw[Lib.size_eq s];exact aY _)]at h
   clear hf;rw[a1,Bool.true_and]at Y;by_cases h3:(least:Int)≤(s.size:Int)
   ·have d3:decide ((least:Int)≤(s.size:Int))=true:=aC h3
    rw[d3,Bool.true_and]at Y;have a2:Hid (decide (s.size≤most)=R):=hid (by rw[Y.out];simp[Int.ofNat_le]);clear Y;go_wp2_with fail;go_ret;exact⟨congrArg (fun b=>Ending.returned (.bool b)) a2.out,rfl⟩
   ·have d3:decide ((least:Int)≤(s.size:Int))=false:=aB h3
    rw[d3,Bool.false_and]at Y;go_wp2_with fail;go_ret;exact⟨congrArg (fun b=>Ending.returned (.bool b)) Y.out.symm,rfl⟩
theorem aDY(s:ByteArray)(least most:Nat)(w:World)(hs:s.size≤maxLen)(hl:least≤64)(J:most≤64):Calls Tryz.prog 164 #[.string s,.int .i64 (least:Int),.int .i64 (most:Int)] w (dA (eD s least most) w):=
 (tY s least most w hs hl J).mono fun _ _ h=>⟨h.1,h.2 ▸ Below.refl _ _⟩
theorem aMX:(101:TypeId)<Tryz.prog.types.size:=of_decide_eq_true (by kernel_rfl)
theorem aMu:(match Tryz.prog.underlying 101 with | some (.array _ _) | some (.struct _)=>true | _=>false)=true:=by kernel_rfl
theorem aHN:laidOutB Tryz.prog=true:=by kernel_rfl
theorem aAU:Maps.Keyed Tryz.prog 101:=Maps.Keyed.of_law (deep_law_laid aHN (m:=2) (by omega) aMX (by kernel_rfl) aMu)
theorem aCF(w:World):(zeroValue 209).run Tryz.prog w=.ok (.agg #[]) w:=by kernel_rfl
def mkV(m:Mk):Value:=.agg #[.int .i64 m.at_,.string m.tag]
theorem aL7(m:Mk)(hw:(Lit.int .i64 m.at_).wf=true)(ht:m.tag.size≤maxLen):∃kl,keyOf Tryz.prog 101 (mkV m)=some kl:=by
 obtain⟨at_,tag⟩:=m;dsimp only at hw ht;have hu:=Tryz.underlying101;have hi:=Tryz.underlying3;have hs:=Tryz.underlying9;have a3:Tryz.prog.keyType 101=true:=by kernel_rfl
 have a2:(mkV ⟨at_,tag⟩).formed Tryz.prog 101=true:=by kernel_rfl
 have a0:Tryz.prog.cellsOf 101=2:=by kernel_rfl
 have J:Tryz.prog.cellsOf 3=1:=by kernel_rfl
 have hcs:Tryz.prog.cellsOf 9=1:=by kernel_rfl
 have a1:∃n,Tryz.prog.types.size=n+1:=⟨Tryz.prog.types.size-1,by kernel_rfl⟩;obtain⟨n,hn⟩:=a1;have h1:Tryz.prog.keyLits (n+1) 3 [.int .i64 at_] = some [.int .i64 at_]:=by
  unfold Program.keyLits;rw[hi];simp[hw]
 have h2:Tryz.prog.keyLits (n+1) 9 [.string tag] = some [.string tag.data.toList]:=by
  unfold Program.keyLits;rw[hs];simp[ht]
 have Y:∃ls,Tryz.prog.keyLits (Tryz.prog.types.size+1) 101 (mkV ⟨at_,tag⟩).cells.toList=some ls:=by
  rw[hn];unfold Program.keyLits;rw[hu];simp[mkV,Value.cells,a0,J,hcs,h1,h2]
 obtain⟨ls,Y⟩:=Y;refine⟨.string (keyBytes ls),?_⟩;unfold keyOf;rw[hu];simp only[a3,a2,Y,Bool.and_self,if_true,Option.map_some]
noncomputable def mkK(m:Mk):Lit:=(keyOf Tryz.prog 101 (mkV m)).getD (.int .i64 0)
theorem uN(m:Mk)(Y:(Lit.int .i64 m.at_).wf=true)(J:m.tag.size≤maxLen):keyOf Tryz.prog 101 (mkV m)=some (mkK m):=by
 obtain⟨kl,h⟩:=aL7 m Y J;unfold mkK;rw[h];rfl
theorem aJF{a b:Mk}(h:mkV a=mkV b):a=b:=by
 obtain⟨a1,a2⟩:=a;obtain⟨Y,J⟩:=b;unfold mkV at h;simp at h;rw[h.1,h.2]
noncomputable def xP(l:List Mk):DataW Unit:=Maps.setOf (.agg []) (l.map mkK)
theorem aJj:xP [] = .map []:=rfl
theorem aF4(l:List Mk)(m:Mk):xP (l++[m])=(xP l).put (mkK m) (.agg []):=by
 unfold xP;rw[List.map_append,aV,aU,Maps.setOf_snoc]
theorem aB5{l:List Mk}{m:Mk}(hl:∀x∈l,(Lit.int .i64 x.at_).wf=true∧x.tag.size≤maxLen)(hm:(Lit.int .i64 m.at_).wf=true∧m.tag.size≤maxLen):Maps.has (xP l) (mkK m)=true↔m∈l:=by
 unfold xP;have J:∀x∈l.map mkK,WideAt.IsKeyLit x:=fun x hx=>by
  obtain⟨y,hy,rfl⟩:=List.mem_map.1 hx;exact aAU.key (uN y (hl y hy).1 (hl y hy).2)
 rw[Maps.has_setOf _ _ _ J,List.any_eq_true];have Y:WideAt.IsKeyLit (mkK m):=aAU.key (uN m hm.1 hm.2);constructor
 ·rintro⟨x,hx,hs⟩
  obtain⟨y,hy,rfl⟩:=List.mem_map.1 hx;have e:=(WideAt.sameKey_iff Y).1 hs;have h1:=uN y (hl y hy).1 (hl y hy).2;rw[e]at h1;exact aJF (aAU.inj h1 (uN m hm.1 hm.2)) ▸ hy
 ·intro h
  exact⟨mkK m,List.mem_map_of_mem h,WideAt.sameKey_self Y⟩
def aC9(J:List Mk):Nat→Int
 | 0=>0
 | q+1=>match J[q]? with
  | some m=>m.at_
  | none=>0
theorem nQ{J:List Mk}{k:Nat}(Y:k<J.length):aC9 J (k+1)=J[k].at_:=by
 show(match J[k]? with
  | some m=>m.at_
  | none=>0)=_
 rw[aN Y]
theorem aCW{J:List Mk}{n k:Nat}(hk:k<J.length):qW J n (k+1)↔qW J n k∧xX J n k J[k]:=by
 constructor
 ·intro h
  exact⟨fun i m hi Y=>h i m (by omega) Y,h k _ (by omega) (aN hk)⟩
 ·rintro⟨h1,h2⟩ i m hi Y
  by_cases a0:i<k
  ·exact h1 i m a0 Y
  ·obtain rfl:i=k:=by omega
   rw[aN hk]at Y;exact(Option.some.inj Y) ▸ h2
theorem aFx{J:List Mk}{n k:Nat}(Y:k<J.length)(h:¬xX J n k J[k]):¬qW J n J.length:=
 fun h1=>h (h1 k _ Y (aN Y))
open Classical in
noncomputable def aAV(J:List Mk)(n:Nat):Int:=if qW J n J.length then 0 else 3
theorem aCk{J:List Mk}{n:Nat}(h:qW J n J.length):aAV J n=0:=by unfold aAV;rw[if_pos h]
theorem aFp{J:List Mk}{n:Nat}(h:¬qW J n J.length):aAV J n=3:=by unfold aAV;rw[if_neg h]
def aKC(a b:Bool)(z:Int):Int:=if a=false then 11 else if b=false then 5 else z
theorem aFs(o:SO):jQ o=aKC (aA0 o.name) (eD o.kinds 1 64) (aAV o.marks o.kinds.size):=rfl
theorem aFu{J:List Mk}{n k:Nat}(hk:k<J.length)(a1:qW J n k):xX J n k J[k]↔(J[k]∉J.take k∧aC9 J k≤J[k].at_∧J[k].at_<n∧sZ J[k].tag=true):=by
 have a0:J[k]∉J.take k↔∀q,q<k→∀p,J[q]? = some p→¬(p.at_=J[k].at_∧p.tag=J[k].tag):=by
  constructor
  ·intro h q hq p hp Y
   apply h
   have:p=J[k]:=by
    obtain⟨p1,p2⟩:=p;generalize J[k] = z at Y;obtain⟨z1,z2⟩:=z;simp only at Y;rw[Y.1,Y.2]
   rw[←this];exact List.mem_take_iff_getElem.2 ⟨q,by have:=(List.getElem?_eq_some_iff.1 hp).1;omega,(List.getElem?_eq_some_iff.1 hp).2⟩
  ·intro h hm
   obtain⟨q,hq,Y⟩:=List.mem_take_iff_getElem.1 hm;exact h q (by omega) J[q] (aN (by omega)) ⟨by rw[Y],by rw[Y]⟩
 unfold xX;rw[a0];constructor
 ·rintro⟨h1,h2,h3,h4,h5⟩
  refine⟨h5,?_,h2,h3⟩;cases k with
  | zero=>exact h1
  | succ q=>
   rw[nQ (by omega)];exact h4 q rfl _ (aN (by omega))
 ·rintro⟨h1,h2,h3,h4⟩
  refine⟨?_,h3,h4,?_,h1⟩
  ·cases k with
   | zero=>exact h2
   | succ q=>
    rw[nQ (by omega)]at h2;have:=(a1 q _ (by omega) (aN (by omega))).1;omega
  ·intro q hq p hp
   subst hq;rw[nQ (by omega)]at h2;rw[aN (by omega)]at hp;exact(Option.some.inj hp) ▸ h2
open RowKit ChangeShapes WideShapes mem
section
variable {H:Type} {enc:TypeId×Value→H} {W:World} {B:Nat}
theorem aLx{w:World}{A:Option Addr}{l:List ByteArray}(h:zW w A 1 (l.map fun s=>[Value.string s])):Rd w A (l.map Value.string):=fun J=>by
 rw[aH]at J;obtain⟨b,off,e,hl,hc⟩:=h (by simpa using J);refine⟨b,off,e,hl,fun j Y=>?_⟩;rw[aH]at Y;have:=hc j (by simpa using Y) 0 (.string l[j]) (by simp);rw[Nat.mul_one,Nat.add_zero]at this;rw[this,List.getElem_map]
end
open RowKit
def rR(a b:Mk):Bool:=a.at_==b.at_&&a.tag.toList==b.tag.toList
structure aIJ:Prop where
 eq:∀(a b:Mk) (w:World),(binOp .eql 101 (mkV a) (mkV b)).run Tryz.prog w=.ok (.bool (rR a b)) w
 ne:∀(a b:Mk) (w:World),(binOp .neq 101 (mkV a) (mkV b)).run Tryz.prog w=.ok (.bool (!rR a b)) w
 guard:∀(op:BinOp) (x y:Operand) (xs ys:Array Value) (w:World),(eqGuard op 101 x y (.agg xs) (.agg ys)).run Tryz.prog w=.ok () w
theorem aBi{a b:ByteArray}(h:a.toList=b.toList):a=b:=by
 rw[Lib.toList_data,Lib.toList_data]at h;obtain⟨⟨l⟩⟩:=a;obtain⟨⟨m⟩⟩:=b;simp only at h;rw[h]
theorem vW{a b:Mk}:rR a b=true↔a=b:=by
 obtain⟨a1,a2⟩:=a;obtain⟨Y,J⟩:=b;unfold rR;simp only[Bool.and_eq_true,beq_iff_eq,Mk.mk.injEq];exact⟨fun h=>⟨h.1,aBi h.2⟩,fun h=>⟨h.1,by rw[h.2]⟩⟩
end sy
namespace sy
open RowKit
theorem aC0:Tryz.prog.underlying 101=some (.struct (Tryz.prog.fieldsOf 101)):=by kernel_rfl
theorem aDp:Tryz.prog.stoodInHeld 101=false:=by kernel_rfl
theorem aHb:Tryz.prog.eqGuardType Tryz.prog.depth 101=false:=by kernel_rfl
theorem aA8:(Tryz.prog.fieldsOf 101).toList.map (fun f=>(f.name == "_",f.type,f.offset))=[(false,3,0),(false,9,1)]:=by kernel_rfl
theorem aLI(a b:Mk)(w:World):(binOp .eql 101 (mkV a) (mkV b)).run Tryz.prog w=.ok (.bool (rR a b)) w:=by
 unfold mkV;rw[run_eql_struct,run_equalIn_struct _ _ _ _ _ aC0 aDp];have h:=aA8;generalize (Tryz.prog.fieldsOf 101).toList=fs at *;rcases fs with _ | ⟨J,_ | ⟨f1,_ | ⟨f2,fs⟩⟩⟩
 all_goals first | (simp at h;done) | skip
 simp only[aV,aU,List.cons.injEq,Prod.mk.injEq,and_true]at h;obtain⟨⟨a0,b0,c0⟩,⟨a1,b1,c1⟩⟩:=h;have p0:∀d:Mk,(part J.type #[.int .i64 d.at_,.string d.tag] J.offset).run Tryz.prog w=.ok (.int .i64 d.at_) w:=fun d=>by rw[b0,c0];kernel_rfl
 have Y:∀d:Mk,(part f1.type #[.int .i64 d.at_,.string d.tag] f1.offset).run Tryz.prog w=.ok (.string d.tag) w:=fun d=>by rw[b1,c1];kernel_rfl
 have i0:(Op.equalIn 9999 J.type (.int .i64 a.at_) (.int .i64 b.at_)).run Tryz.prog w=.ok (a.at_==b.at_) w:=by rw[b0];exact run_equalIn_int w 9998 _ _ _ _ _ Tryz.underlying3
 have i1:(Op.equalIn 9999 f1.type (.string a.tag) (.string b.tag)).run Tryz.prog w=.ok (a.tag.toList==b.tag.toList) w:=by rw[b1];exact run_equalIn_string w 9998 _ _ _ Tryz.underlying9
 rw[nm.jC 9999 _ _ J _ _ _ _ w a0 (p0 a) (p0 b) i0,nm.jC 9999 _ _ f1 _ _ _ _ w a1 (Y a) (Y b) i1];unfold rR;cases(a.at_==b.at_) <;> cases(a.tag.toList==b.tag.toList) <;> simp[Op.eqFields,Sem.run_pure,Result.andThen]
theorem aHp(a b:Mk)(w:World):(binOp .neq 101 (mkV a) (mkV b)).run Tryz.prog w=.ok (.bool (!rR a b)) w:=by
 unfold mkV;rw[run_neq_struct,run_equalIn_struct _ _ _ _ _ aC0 aDp];have h:=aA8;generalize (Tryz.prog.fieldsOf 101).toList=fs at *;rcases fs with _ | ⟨J,_ | ⟨f1,_ | ⟨f2,fs⟩⟩⟩
 all_goals first | (simp at h;done) | skip
 simp only[aV,aU,List.cons.injEq,Prod.mk.injEq,and_true]at h;obtain⟨⟨a0,b0,c0⟩,⟨a1,b1,c1⟩⟩:=h;have p0:∀d:Mk,(part J.type #[.int .i64 d.at_,.string d.tag] J.offset).run Tryz.prog w=.ok (.int .i64 d.at_) w:=fun d=>by rw[b0,c0];kernel_rfl
 have Y:∀d:Mk,(part f1.type #[.int .i64 d.at_,.string d.tag] f1.offset).run Tryz.prog w=.ok (.string d.tag) w:=fun d=>by rw[b1,c1];kernel_rfl
 have i0:(Op.equalIn 9999 J.type (.int .i64 a.at_) (.int .i64 b.at_)).run Tryz.prog w=.ok (a.at_==b.at_) w:=by rw[b0];exact run_equalIn_int w 9998 _ _ _ _ _ Tryz.underlying3
 have i1:(Op.equalIn 9999 f1.type (.string a.tag) (.string b.tag)).run Tryz.prog w=.ok (a.tag.toList==b.tag.toList) w:=by rw[b1];exact run_equalIn_string w 9998 _ _ _ Tryz.underlying9
 rw[nm.jC 9999 _ _ J _ _ _ _ w a0 (p0 a) (p0 b) i0,nm.jC 9999 _ _ f1 _ _ _ _ w a1 (Y a) (Y b) i1];unfold rR;cases(a.at_==b.at_) <;> cases(a.tag.toList==b.tag.toList) <;> simp[Op.eqFields,Sem.run_pure,Result.andThen]
theorem aKD:aIJ:=⟨aLI,aHp,fun op x y xs ys w=>run_eqGuard_agg w op _ x y xs ys aHb⟩
end sy
end Go.Proofs.YtdmmkjijgoiecaaGreatDoor
