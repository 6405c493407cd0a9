import Derived.Test.YtlkboeajkgbnaaaGreatDoorC09
import Derived.Test.YtlkboeajkgbnaaaGreatDoorC16
set_option linter.all false
set_option maxHeartbeats 4000000
namespace Go.Proofs.YtlkboeajkgbnaaaGreatDoor
namespace ym
open RowKit sy
structure Use where
 m:ByteArray
 g:Bool
 w:Bool
 o:SO
 f:SF
open Classical in
noncomputable def like(a b:Use):Bool:=decide (a.o=b.o∧a.f=b.f)
theorem like_iff(a b:Use):like a b=true↔a.o=b.o∧a.f=b.f:=by unfold like;simp
theorem like_self(a:Use):like a a=true:=by rw[like_iff];exact⟨rfl,rfl⟩
theorem like_trans{a b:Use}(h:like a b=true)(c:Use):like a c=like b c:=by
 obtain⟨h1,h2⟩:=(like_iff a b).1 h;unfold like;rw[h1,h2]
def Use.alone(u:Use):Bool:=!u.g&&!u.w
structure PS where
 giver:ByteArray
 wanted:List ByteArray
 e0:Bool
 e1:Bool
noncomputable def psStep(n:Nat)(f:Use)(s:PS)(u:Use):PS:=
 ⟨if u.g then u.m else s.giver,if u.w then s.wanted++[u.m] else s.wanted,(s.e0||(u.g&&decide (s.giver.size≠0)))||(decide (1<n)&&u.alone),s.e1||!like f u⟩
noncomputable def psAll(n:Nat)(f:Use)(l:List Use):PS:=l.foldl (psStep n f) ⟨⟨#[]⟩,[],false,false⟩
def gCount(l:List Use):Nat:=(l.filter (·.g)).length
def giverFrom(a:ByteArray)(l:List Use):ByteArray:=l.foldl (fun a u=>if u.g then u.m else a) a
def wantL(l:List Use):List ByteArray:=(l.filter (·.w)).map (·.m)
theorem ps_fold(n:Nat)(f:Use):∀(l:List Use) (s:PS),(∀u∈l,u.m.size≠0) →
 l.foldl (psStep n f) s=⟨giverFrom s.giver l,s.wanted++wantL l,(s.e0||decide (2≤(if s.giver.size≠0 then 1 else 0)+gCount l∧0<gCount l))||(decide (1<n)&&l.any Use.alone),s.e1||l.any (fun u=>!like f u)⟩:=by
 intro l
 induction l with
 | nil=>intro s _;simp[giverFrom,wantL,gCount]
 | cons u t ih=>
  intro s h;have hu:=h u (List.mem_cons_self);rw[List.foldl_cons,ih _ (fun x hx=>h x (List.mem_cons_of_mem _ hx))];have hg:∀a,giverFrom a (u :: t)=giverFrom (if u.g then u.m else a) t:=fun a=>rfl
  unfold psStep;dsimp only;rw[hg];congr 1
  ·unfold wantL;rw[List.filter_cons];cases u.w <;> simp
  ·unfold gCount
   cases hgu:u.g
   ·simp only[hgu,Bool.false_and,Bool.or_false,List.filter_cons,List.any_cons]
    cases s.e0 <;> cases decide (1<n) <;> cases u.alone <;> simp
   ·simp only[hgu,Bool.true_and,List.filter_cons,List.any_cons,List.length_cons,if_true,if_pos hu]
    have ha:u.alone=false:=by unfold Use.alone;rw[hgu];rfl
    rw[ha];by_cases hs:s.giver.size≠0
    ·simp only[if_pos hs,decide_eq_true hs]
     have e1:decide (2≤1+((t.filter (·.g)).length+1)∧0<(t.filter (·.g)).length+1)=true:=decide_eq_true ⟨by omega,by omega⟩;rw[e1];cases s.e0 <;> cases decide (1<n) <;> simp
    ·simp only[if_neg hs,decide_eq_false hs]
     have e1:decide (2≤0+((t.filter (·.g)).length+1)∧0<(t.filter (·.g)).length+1)=decide (2≤1+(t.filter (·.g)).length∧0<(t.filter (·.g)).length):=by
      apply decide_eq_decide.2;omega
     rw[e1];cases s.e0 <;> cases decide (1<n) <;> simp
  ·simp[Bool.or_assoc]
theorem ps_all(n:Nat)(f:Use)(l:List Use)(h:∀u∈l,u.m.size≠0) :
 psAll n f l=⟨giverFrom ⟨#[]⟩ l,wantL l,decide (2≤gCount l)||(decide (1<n)&&l.any Use.alone),l.any (fun u=>!like f u)⟩:=by
 unfold psAll;rw[ps_fold n f l _ h];have e:decide (2≤(if(⟨#[]⟩:ByteArray).size≠0 then 1 else 0)+gCount l∧0<gCount l)=decide (2≤gCount l):=by
  apply decide_eq_decide.2
  have:(if(⟨#[]⟩:ByteArray).size≠0 then 1 else 0)=0:=rfl;rw[this];omega
 simp only[e,Bool.false_or,List.nil_append]
noncomputable def sameFrom:Option Use→List Use→Bool
 | _,[]=>true
 | none,u :: t=>sameFrom (some u) t
 | some a,u :: t=>like u a&&sameFrom (some u) t
theorem like_comm(a b:Use):like a b=like b a:=by
 unfold like
 apply decide_eq_decide.2
 constructor <;> rintro⟨h1,h2⟩ <;> exact⟨h1.symm,h2.symm⟩
theorem same_from(f:Use):∀(l:List Use) (a:Use),like f a=true→sameFrom (some a) l=!l.any (fun u=>!like f u):=by
 intro l
 induction l with
 | nil=>intro a _;rfl
 | cons u t ih=>
  intro a h;show(like u a&&sameFrom (some u) t)=_;rw[like_comm u a,←like_trans h u,List.any_cons];cases hu:like f u
  ·simp
  ·rw[ih u hu];simp
theorem same_all(f:Use)(l:List Use):sameFrom none (f :: l)=!(f :: l).any (fun u=>!like f u):=by
 show sameFrom (some f) l=_;rw[same_from f l f (like_self f),List.any_cons,like_self];simp
theorem giver_none:∀(l:List Use) (a:ByteArray),gCount l=0→giverFrom a l=a:=by
 intro l
 induction l with
 | nil=>intro a _;rfl
 | cons u t ih=>
  intro a h;unfold gCount at h;rw[List.filter_cons]at h;cases hg:u.g
  ·rw[hg]at h
   show giverFrom (if u.g then u.m else a) t=a;rw[hg];exact ih a h
  ·rw[hg]at h;simp at h
theorem giver_some:∀(l:List Use) (a:ByteArray),(∀u∈l,u.m.size≠0)→(a.size≠0∨0<gCount l)→(giverFrom a l).size≠0:=by
 intro l
 induction l with
 | nil=>intro a _ h;rcases h with h | h;exact h;simp[gCount]at h
 | cons u t ih=>
  intro a h hg;show(giverFrom (if u.g then u.m else a) t).size≠0
  apply ih _ (fun x hx=>h x (List.mem_cons_of_mem _ hx))
  cases hu:u.g
  ·rcases hg with hg | hg
   ·exact .inl hg
   ·right;unfold gCount at hg ⊢;rw[List.filter_cons,hu]at hg;exact hg
  ·exact .inl (h u (List.mem_cons_self))
theorem giver_empty(l:List Use)(h:∀u∈l,u.m.size≠0):((giverFrom ⟨#[]⟩ l).size=0)↔gCount l=0:=by
 constructor
 ·intro e
  by_cases hz:gCount l=0
  ·exact hz
  ·exact absurd e (giver_some l _ h (.inr (by omega)))
 ·intro e;rw[giver_none l _ e];rfl
end ym
namespace sy
open RowKit mem
def Tbl(w:World)(A:Option Addr)(sz:Nat)(rows:List (List Value)):Prop:=0<rows.length→∃b off,A=some ⟨b,off,none⟩∧b<w.heap.size∧∀(j:Nat) (hj:j<rows.length) (i:Nat) (v:Value),rows[j][i]? = some v→w.cell? ⟨b,off+j * sz+i,none⟩=some v
theorem Tbl.below{w w':World}{A:Option Addr}{sz:Nat}{rows:List (List Value)}(h:Tbl w A sz rows)(hb:Below w.heap.size w w'):Tbl w' A sz rows:=fun hz=>by
 obtain⟨b,off,e,hl,hc⟩:=h hz;exact⟨b,off,e,Nat.lt_of_lt_of_le hl hb.size,fun j hj i v hv=>(hb.cell (p:=⟨b,off+j * sz+i,none⟩) hl).trans (hc j hj i v hv)⟩
def mkRow(m:Mk):List Value:=[.int .i64 m.at_,.string m.tag]
def fnRow(f:SF):List Value:=[.string f.name,.string f.kinds,.string f.ret]
structure MO where
 o:SO
 mA:Option Addr
 mc:Nat
def MO.row(x:MO):List Value:=[.string x.o.name,.string x.o.kinds,.slice x.mA x.o.marks.length x.mc]
structure MC where
 c:SC
 aA:Option Addr
 ac:Nat
def MC.row(x:MC):List Value:=[.int .i64 x.c.op,.string x.c.a,.string x.c.b,.int .i64 x.c.k,.string x.c.tag,.slice x.aA x.c.args.length x.ac]
structure MOk(w:World)(x:MO):Prop where
 n:x.o.name.size≤maxLen
 k:x.o.kinds.size≤maxLen
 m:Tbl w x.mA 2 (x.o.marks.map mkRow)
 ml:x.o.marks.length≤maxLen
 mt:∀m∈x.o.marks,m.tag.size≤maxLen
 mw:∀m∈x.o.marks,(Lit.int .i64 m.at_).wf=true
 mcp:x.o.marks.length≤x.mc
structure FOk(f:SF):Prop where
 n:f.name.size≤maxLen
 k:f.kinds.size≤maxLen
 r:f.ret.size≤maxLen
structure COk(w:World)(x:MC):Prop where
 a:x.c.a.size≤maxLen
 b:x.c.b.size≤maxLen
 t:x.c.tag.size≤maxLen
 g:Rd w x.aA (x.c.args.map Value.string)
 gl:x.c.args.length≤maxLen
 gc:x.c.args.length≤x.ac
 gs:∀s∈x.c.args,s.size≤maxLen
theorem MOk.below{w w':World}{x:MO}(h:MOk w x)(hb:Below w.heap.size w w'):MOk w' x:=⟨h.n,h.k,h.m.below hb,h.ml,h.mt,h.mw,h.mcp⟩
theorem COk.below{w w':World}{x:MC}(h:COk w x)(hb:Below w.heap.size w w'):COk w' x:=⟨h.a,h.b,h.t,h.g.below hb,h.gl,h.gc,h.gs⟩
structure MS where
 oA:Option Addr
 oc:Nat
 os:List MO
 fA:Option Addr
 fc:Nat
 fs:List SF
 cA:Option Addr
 cc:Nat
 cs:List MC
def MS.sys(s:MS):SS:=⟨s.os.map (·.o),s.fs,s.cs.map (·.c)⟩
def MS.val(s:MS):Value:=.agg #[.slice s.oA s.os.length s.oc,.slice s.fA s.fs.length s.fc,.slice s.cA s.cs.length s.cc]
structure SysM(w:World)(s:MS):Prop where
 o:Tbl w s.oA 3 (s.os.map MO.row)
 f:Tbl w s.fA 3 (s.fs.map fnRow)
 c:Tbl w s.cA 6 (s.cs.map MC.row)
 ok:∀x∈s.os,MOk w x
 fk:∀x∈s.fs,FOk x
 ck:∀x∈s.cs,COk w x
 ol:s.os.length≤maxLen
 fl:s.fs.length≤maxLen
 cl:s.cs.length≤maxLen
theorem SysM.below{w w':World}{s:MS}(h:SysM w s)(hb:Below w.heap.size w w'):SysM w' s:=
 ⟨h.o.below hb,h.f.below hb,h.c.below hb,fun x hx=>(h.ok x hx).below hb,h.fk,fun x hx=>(h.ck x hx).below hb,h.ol,h.fl,h.cl⟩
theorem tbl_obj{w:World}{A:Option Addr}{os:List MO}(h:Tbl w A 3 (os.map MO.row)){j:Nat}(hj:j<os.length):∃b off,A=some ⟨b,off,none⟩∧b<w.heap.size∧w.cell? ⟨b,off+j * 3,none⟩=some (.string os[j].o.name)∧w.cell? ⟨b,off+j * 3+1,none⟩=some (.string os[j].o.kinds)∧w.cell? ⟨b,off+j * 3+2,none⟩=some (.slice os[j].mA os[j].o.marks.length os[j].mc):=by
 obtain⟨b,off,e,hl,hc⟩:=h (by rw[List.length_map];omega);have hr:∀i v,os[j].row[i]? = some v→w.cell? ⟨b,off+j * 3+i,none⟩=some v:=fun i v hv=>hc j (by rw[List.length_map];exact hj) i v (by rw[List.getElem_map];exact hv)
 exact⟨b,off,e,hl,hr 0 _ rfl,hr 1 _ rfl,hr 2 _ rfl⟩
theorem tbl_fn{w:World}{A:Option Addr}{fs:List SF}(h:Tbl w A 3 (fs.map fnRow)){j:Nat}(hj:j<fs.length):∃b off,A=some ⟨b,off,none⟩∧b<w.heap.size∧w.cell? ⟨b,off+j * 3,none⟩=some (.string fs[j].name)∧w.cell? ⟨b,off+j * 3+1,none⟩=some (.string fs[j].kinds)∧w.cell? ⟨b,off+j * 3+2,none⟩=some (.string fs[j].ret):=by
 obtain⟨b,off,e,hl,hc⟩:=h (by rw[List.length_map];omega);have hr:∀i v,(fnRow fs[j])[i]? = some v→w.cell? ⟨b,off+j * 3+i,none⟩=some v:=fun i v hv=>hc j (by rw[List.length_map];exact hj) i v (by rw[List.getElem_map];exact hv)
 exact⟨b,off,e,hl,hr 0 _ rfl,hr 1 _ rfl,hr 2 _ rfl⟩
theorem tbl_mk{w:World}{A:Option Addr}{ms:List Mk}(h:Tbl w A 2 (ms.map mkRow)){j:Nat}(hj:j<ms.length):∃b off,A=some ⟨b,off,none⟩∧b<w.heap.size∧w.cell? ⟨b,off+j * 2,none⟩=some (.int .i64 ms[j].at_)∧w.cell? ⟨b,off+j * 2+1,none⟩=some (.string ms[j].tag):=by
 obtain⟨b,off,e,hl,hc⟩:=h (by rw[List.length_map];omega);have hr:∀i v,(mkRow ms[j])[i]? = some v→w.cell? ⟨b,off+j * 2+i,none⟩=some v:=fun i v hv=>hc j (by rw[List.length_map];exact hj) i v (by rw[List.getElem_map];exact hv)
 exact⟨b,off,e,hl,hr 0 _ rfl,hr 1 _ rfl⟩
theorem tbl_con{w:World}{A:Option Addr}{cs:List MC}(h:Tbl w A 6 (cs.map MC.row)){j:Nat}(hj:j<cs.length):∃b off,A=some ⟨b,off,none⟩∧b<w.heap.size∧w.cell? ⟨b,off+j * 6,none⟩=some (.int .i64 cs[j].c.op)∧w.cell? ⟨b,off+j * 6+1,none⟩=some (.string cs[j].c.a)∧w.cell? ⟨b,off+j * 6+2,none⟩=some (.string cs[j].c.b)∧w.cell? ⟨b,off+j * 6+3,none⟩=some (.int .i64 cs[j].c.k)∧w.cell? ⟨b,off+j * 6+4,none⟩=some (.string cs[j].c.tag)∧w.cell? ⟨b,off+j * 6+5,none⟩=some (.slice cs[j].aA cs[j].c.args.length cs[j].ac):=by
 obtain⟨b,off,e,hl,hc⟩:=h (by rw[List.length_map];omega);have hr:∀i v,cs[j].row[i]? = some v→w.cell? ⟨b,off+j * 6+i,none⟩=some v:=fun i v hv=>hc j (by rw[List.length_map];exact hj) i v (by rw[List.getElem_map];exact hv)
 exact⟨b,off,e,hl,hr 0 _ rfl,hr 1 _ rfl,hr 2 _ rfl,hr 3 _ rfl,hr 4 _ rfl,hr 5 _ rfl⟩
end sy
open Lib(hid)
namespace sy
open RowKit mem nm
def BPost(b:Bool)(w:World)(e:Ending)(w':World):Prop:=e=.returned (.bool b)∧Below w.heap.size w w'
theorem rnode_any(s:ByteArray)(w:World)(hs:s.size≤maxLen):Calls Tryz.prog 50 #[.string s] w (BPost (nodeB s) w):=by
 rcases hr:readB s with _ | _
 ·have Hr:=hid (fun w=>rread_no s w hs hr)
  have Hv:Hid (nodeB s=false):=hid (by unfold nodeB;rw[hr];rfl);unfold ReadNo at Hr;rw[Hv.out];clear hr Hv;unfold maxLen at hs;go_enter Tryz.func50,Tryz.ntmps50;go_wp2_with fail;refine(Hr.out w).mono ?_;rintro e w2 ⟨rfl,hb2⟩;clear Hr;go_wp2_with fail;go_ret;exact⟨rfl,hb2.trans (((Fr.refl [] w2).alloc _).all.mono hb2.size)⟩
 ·have Hr:=hid (fun w=>rread_yes s w hs hr)
  have Hv:Hid (nodeB s=(decide ((cand s).kind≤3)||decide (0≤(cand s).cell))):=hid (by unfold nodeB;rw[hr];rfl);unfold ReadYes at Hr;rw[Hv.out];clear Hv hr;generalize cand s=d at *;obtain⟨kind,fn,copy,name,n,cell⟩:=d;unfold Nd.val Nd.cells at Hr;dsimp only at Hr ⊢;unfold maxLen at hs;by_cases h1:kind≤3
  ·have d1:decide (kind≤3)=true:=decide_eq_true h1
   rw[d1,Bool.true_or];go_enter Tryz.func50,Tryz.ntmps50;go_wp2_with fail;refine(Hr.out w).mono ?_;rintro e w2 ⟨rfl,hb2⟩;clear Hr;go_wp2_with fail;go_ret;exact⟨rfl,hb2.trans (((Fr.refl [] w2).alloc _).all.mono hb2.size)⟩
  ·have d1:decide (kind≤3)=false:=decide_eq_false h1
   rw[d1,Bool.false_or];by_cases h2:0≤cell
   ·have d2:decide (0≤cell)=true:=decide_eq_true h2
    rw[d2];go_enter Tryz.func50,Tryz.ntmps50;go_wp2_with fail;refine(Hr.out w).mono ?_;rintro e w2 ⟨rfl,hb2⟩;clear Hr;go_wp2_with fail;go_ret;exact⟨rfl,hb2.trans (((Fr.refl [] w2).alloc _).all.mono hb2.size)⟩
   ·have d2:decide (0≤cell)=false:=decide_eq_false h2
    rw[d2];go_enter Tryz.func50,Tryz.ntmps50;go_wp2_with fail;refine(Hr.out w).mono ?_;rintro e w2 ⟨rfl,hb2⟩;clear Hr;go_wp2_with fail;go_ret;exact⟨rfl,hb2.trans (((Fr.refl [] w2).alloc _).all.mono hb2.size)⟩
theorem rplace_any(s:ByteArray)(w:World)(hs:s.size≤maxLen):Calls Tryz.prog 102 #[.string s] w (BPost (placeB s) w):=by
 rcases hr:readB s with _ | _
 ·have Hr:=hid (fun w=>rread_no s w hs hr)
  have Hv:Hid (placeB s=false):=hid (by unfold placeB;rw[hr];rfl);unfold ReadNo at Hr;rw[Hv.out];clear hr Hv;unfold maxLen at hs;go_enter Tryz.func102,Tryz.ntmps102;go_wp2_with fail;refine(Hr.out w).mono ?_;rintro e w2 ⟨rfl,hb2⟩;clear Hr;go_wp2_with fail;go_ret;exact⟨rfl,hb2.trans (((Fr.refl [] w2).alloc _).all.mono hb2.size)⟩
 ·have Hr:=hid (fun w=>rread_yes s w hs hr)
  have Hv:Hid (placeB s=(decide ((cand s).kind=4)||decide (0≤(cand s).cell))):=hid (by unfold placeB;rw[hr];rfl);unfold ReadYes at Hr;rw[Hv.out];clear Hv hr;generalize cand s=d at *;obtain⟨kind,fn,copy,name,n,cell⟩:=d;unfold Nd.val Nd.cells at Hr;dsimp only at Hr ⊢;unfold maxLen at hs;by_cases h1:kind=4
  ·rw[decide_eq_true h1,Bool.true_or]
   have d1:(kind==4)=true:=by rw[h1];rfl
   clear h1;go_enter Tryz.func102,Tryz.ntmps102;go_wp2_with fail;refine(Hr.out w).mono ?_;rintro e w2 ⟨rfl,hb2⟩;clear Hr;go_wp2_with fail;go_ret;exact⟨rfl,hb2.trans (((Fr.refl [] w2).alloc _).all.mono hb2.size)⟩
  ·rw[decide_eq_false h1,Bool.false_or]
   have d1:(kind==4)=false:=by simpa using h1
   clear h1;by_cases h2:0≤cell
   ·have d2:decide (0≤cell)=true:=decide_eq_true h2
    rw[d2];go_enter Tryz.func102,Tryz.ntmps102;go_wp2_with fail;refine(Hr.out w).mono ?_;rintro e w2 ⟨rfl,hb2⟩;clear Hr;go_wp2_with fail;go_ret;exact⟨rfl,hb2.trans (((Fr.refl [] w2).alloc _).all.mono hb2.size)⟩
   ·have d2:decide (0≤cell)=false:=decide_eq_false h2
    rw[d2];go_enter Tryz.func102,Tryz.ntmps102;go_wp2_with fail;refine(Hr.out w).mono ?_;rintro e w2 ⟨rfl,hb2⟩;clear Hr;go_wp2_with fail;go_ret;exact⟨rfl,hb2.trans (((Fr.refl [] w2).alloc _).all.mono hb2.size)⟩
def SoIs(f:Nat)(so:Nd→Bool):Prop:=∀(d:Nd) (w:World),Calls Tryz.prog f #[d.val] w (BPost (so d) w)
theorem so_node:SoIs 69 (fun d=>decide (d.kind≤3)||decide (0≤d.cell)):=by
 intro d w;obtain⟨kind,fn,copy,name,n,cell⟩:=d;unfold Nd.val Nd.cells;dsimp only;by_cases h1:kind≤3
 ·have d1:decide (kind≤3)=true:=decide_eq_true h1
  rw[d1,Bool.true_or];go_enter Tryz.func69,Tryz.ntmps69;go_wp2_with fail;go_ret;exact⟨rfl,((Fr.refl [] w).alloc _).all⟩
 ·have d1:decide (kind≤3)=false:=decide_eq_false h1
  rw[d1,Bool.false_or];by_cases h2:0≤cell
  ·have d2:decide (0≤cell)=true:=decide_eq_true h2
   rw[d2];go_enter Tryz.func69,Tryz.ntmps69;go_wp2_with fail;go_ret;exact⟨rfl,((Fr.refl [] w).alloc _).all⟩
  ·have d2:decide (0≤cell)=false:=decide_eq_false h2
   rw[d2];go_enter Tryz.func69,Tryz.ntmps69;go_wp2_with fail;go_ret;exact⟨rfl,((Fr.refl [] w).alloc _).all⟩
theorem so_place:SoIs 112 (fun d=>decide (d.kind=4)||decide (0≤d.cell)):=by
 intro d w;obtain⟨kind,fn,copy,name,n,cell⟩:=d;unfold Nd.val Nd.cells;dsimp only;by_cases h1:kind=4
 ·rw[decide_eq_true h1,Bool.true_or]
  have d1:(kind==4)=true:=by rw[h1];rfl
  clear h1;go_enter Tryz.func112,Tryz.ntmps112;go_wp2_with fail;go_ret;exact⟨rfl,((Fr.refl [] w).alloc _).all⟩
 ·rw[decide_eq_false h1,Bool.false_or]
  have d1:(kind==4)=false:=by simpa using h1
  clear h1;by_cases h2:0≤cell
  ·have d2:decide (0≤cell)=true:=decide_eq_true h2
   rw[d2];go_enter Tryz.func112,Tryz.ntmps112;go_wp2_with fail;go_ret;exact⟨rfl,((Fr.refl [] w).alloc _).all⟩
  ·have d2:decide (0≤cell)=false:=decide_eq_false h2
   rw[d2];go_enter Tryz.func112,Tryz.ntmps112;go_wp2_with fail;go_ret;exact⟨rfl,((Fr.refl [] w).alloc _).all⟩
theorem so_obj:SoIs 109 (fun d=>decide (5≤d.kind)&&decide (d.cell<0)):=by
 intro d w;obtain⟨kind,fn,copy,name,n,cell⟩:=d;unfold Nd.val Nd.cells;dsimp only;by_cases h1:5≤kind
 ·have d1:decide (5≤kind)=true:=decide_eq_true h1
  rw[d1,Bool.true_and];by_cases h2:cell<0
  ·have d2:decide (cell<0)=true:=decide_eq_true h2
   rw[d2];go_enter Tryz.func109,Tryz.ntmps109;go_wp2_with fail;go_ret;exact⟨rfl,((Fr.refl [] w).alloc _).all⟩
  ·have d2:decide (cell<0)=false:=decide_eq_false h2
   rw[d2];go_enter Tryz.func109,Tryz.ntmps109;go_wp2_with fail;go_ret;exact⟨rfl,((Fr.refl [] w).alloc _).all⟩
 ·have d1:decide (5≤kind)=false:=decide_eq_false h1
  rw[d1,Bool.false_and];go_enter Tryz.func109,Tryz.ntmps109;go_wp2_with fail;go_ret;exact⟨rfl,((Fr.refl [] w).alloc _).all⟩
theorem so_func:SoIs 111 (fun d=>decide (d.kind=4)):=by
 intro d w;obtain⟨kind,fn,copy,name,n,cell⟩:=d;unfold Nd.val Nd.cells;dsimp only;have hv:=hid (show(kind==4)=decide (kind=4) by rw[Bool.eq_iff_iff];simp);go_enter Tryz.func111,Tryz.ntmps111;go_wp2_with fail;go_ret;exact⟨congrArg (fun b=>Ending.returned (.bool b)) hv.out,((Fr.refl [] w).alloc _).all⟩
theorem so_site:SoIs 113 (fun d=>decide (d.kind=3)):=by
 intro d w;obtain⟨kind,fn,copy,name,n,cell⟩:=d;unfold Nd.val Nd.cells;dsimp only;have hv:=hid (show(kind==3)=decide (kind=3) by rw[Bool.eq_iff_iff];simp);go_enter Tryz.func113,Tryz.ntmps113;go_wp2_with fail;go_ret;exact⟨congrArg (fun b=>Ending.returned (.bool b)) hv.out,((Fr.refl [] w).alloc _).all⟩
end sy
set_option maxRecDepth 100000
namespace sy
open RowKit mem nm
def Enters(f:Nat):Prop:=∀(args:Array Value) (w:World),(callFunc f args).run Tryz.prog w=.ok (.enter f args) w
theorem en_node:Enters 69:=by intro args w;go_simp
theorem en_place:Enters 112:=by intro args w;go_simp
theorem en_obj:Enters 109:=by intro args w;go_simp
theorem en_func:Enters 111:=by intro args w;go_simp
theorem en_site:Enters 113:=by intro args w;go_simp
theorem is_no(s:ByteArray)(f:Nat)(w:World)(hs:s.size≤maxLen)(htab:Tab w)(hr:readB s=false):Calls Tryz.prog 68 #[.string s,.func (.func f) #[] #[]] w (BPost false w):=by
 have Hr:=hid (read_no held s w hs htab hr);unfold ReadNo at Hr;clear hr htab;unfold maxLen at hs;go_enter Tryz.func68,Tryz.ntmps68;go_wp2_with fail;refine Hr.out.mono ?_;rintro e w2 ⟨rfl,hb2⟩;clear Hr;go_wp2_with fail;go_ret;exact⟨rfl,hb2.trans (((Fr.refl [] w2).alloc _).all.mono hb2.size)⟩
theorem is_yes(s:ByteArray)(f:Nat)(so:Nd→Bool)(hso:SoIs f so)(hen:Enters f)(w:World)(hs:s.size≤maxLen)(htab:Tab w)(hr:readB s=true):Calls Tryz.prog 68 #[.string s,.func (.func f) #[] #[]] w (BPost (so (cand s)) w):=by
 have Hr:=hid (read_yes held s w hs htab hr);unfold ReadYes at Hr;have Hso:=hid (fun w=>hso (cand s) w);unfold BPost at Hso ⊢;generalize so (cand s)=b at *;generalize cand s=d at *;obtain⟨kind,fn,copy,name,n,cell⟩:=d;unfold Nd.val Nd.cells at Hr Hso;dsimp only at Hr Hso;clear hr htab hso;unfold Enters at hen;unfold maxLen at hs;go_enter Tryz.func68,Tryz.ntmps68;go_wp2_with fail;refine Hr.out.mono ?_;rintro e w2 ⟨rfl,hb2⟩;clear Hr;have hb3:=hid (hb2.trans (((Fr.refl [] w2).alloc (.cells #[.int .i64 kind,.string fn,.int .i64 copy,.string name,.int .i64 n,.int .i64 cell] 115)).all.mono hb2.size));go_wp2_with fail;refine(Hso.out _).mono ?_;rintro e w4 ⟨rfl,hb4⟩;have hb5:=hid (hb3.out.trans (hb4.mono hb3.out.size));clear hb4 hb3 hb2;go_wp2_with fail;go_ret;exact⟨rfl,hb5.out⟩
theorem is_any(s:ByteArray)(f:Nat)(so:Nd→Bool)(hso:SoIs f so)(hen:Enters f)(w:World)(hs:s.size≤maxLen)(htab:Tab w):Calls Tryz.prog 68 #[.string s,.func (.func f) #[] #[]] w (BPost (readB s&&so (cand s)) w):=by
 rcases hr:readB s with _ | _
 ·exact is_no s f w hs htab hr
 ·exact is_yes s f so hso hen w hs htab hr
theorem node_any(s:ByteArray)(w:World)(hs:s.size≤maxLen)(htab:Tab w):Calls Tryz.prog 37 #[.string s] w (BPost (nodeB s) w):=by
 have H:=hid (is_any s _ _ so_node en_node w hs htab);unfold BPost at H ⊢;rw[show(readB s&&_)=nodeB s from rfl]at H;go_enter Tryz.func37,Tryz.ntmps37
 go_wp2_with (refine H.out.mono ?_;rintro e w2 ⟨rfl,hb2⟩)
 go_ret;exact⟨rfl,hb2⟩
theorem place_any(s:ByteArray)(w:World)(hs:s.size≤maxLen)(htab:Tab w):Calls Tryz.prog 89 #[.string s] w (BPost (placeB s) w):=by
 have H:=hid (is_any s _ _ so_place en_place w hs htab);unfold BPost at H ⊢;rw[show(readB s&&_)=placeB s from rfl]at H;go_enter Tryz.func89,Tryz.ntmps89
 go_wp2_with (refine H.out.mono ?_;rintro e w2 ⟨rfl,hb2⟩)
 go_ret;exact⟨rfl,hb2⟩
theorem obj_any(s:ByteArray)(w:World)(hs:s.size≤maxLen)(htab:Tab w):Calls Tryz.prog 85 #[.string s] w (BPost (objB s) w):=by
 have H:=hid (is_any s _ _ so_obj en_obj w hs htab);unfold BPost at H ⊢;rw[show(readB s&&_)=objB s from rfl]at H;go_enter Tryz.func85,Tryz.ntmps85
 go_wp2_with (refine H.out.mono ?_;rintro e w2 ⟨rfl,hb2⟩)
 go_ret;exact⟨rfl,hb2⟩
theorem func_any(s:ByteArray)(w:World)(hs:s.size≤maxLen)(htab:Tab w):Calls Tryz.prog 88 #[.string s] w (BPost (funcB s) w):=by
 have H:=hid (is_any s _ _ so_func en_func w hs htab);unfold BPost at H ⊢;rw[show(readB s&&_)=funcB s from rfl]at H;go_enter Tryz.func88,Tryz.ntmps88
 go_wp2_with (refine H.out.mono ?_;rintro e w2 ⟨rfl,hb2⟩)
 go_ret;exact⟨rfl,hb2⟩
theorem site_any(s:ByteArray)(w:World)(hs:s.size≤maxLen)(htab:Tab w):Calls Tryz.prog 90 #[.string s] w (BPost (siteB s) w):=by
 have H:=hid (is_any s _ _ so_site en_site w hs htab);unfold BPost at H ⊢;rw[show(readB s&&_)=siteB s from rfl]at H;go_enter Tryz.func90,Tryz.ntmps90
 go_wp2_with (refine H.out.mono ?_;rintro e w2 ⟨rfl,hb2⟩)
 go_ret;exact⟨rfl,hb2⟩
end sy
namespace sy
open RowKit mem
def ipU(b:UInt8):Bool:=b==105||b==112
theorem ipB_eq(s:ByteArray):ipB s=s.data.toList.all ipU:=by
 unfold ipB;rw[Lib.toList_data];rfl
theorem all_take{s:ByteArray}{k:Nat}(hk:k<s.size):(s.data.toList.take (k+1)).all ipU=((s.data.toList.take k).all ipU&&ipU s[k]):=by
 rw[List.take_succ_eq_append_getElem (by rw[Array.length_toList];exact hk),List.all_append];simp;rfl
theorem num_ne{b c:UInt8}(h:b≠c)(n:Int)(hn:(c.toNat:Int)=n):((b.toNat:Int) != n)=true:=by
 subst hn;simp only[bne_iff_ne,ne_eq];intro h';exact h (UInt8.toNat_inj.1 (by omega))
theorem rkinds_same(s:ByteArray)(least most:Nat)(w:World)(hs:s.size≤maxLen)(hl:least≤64)(hm:most≤64):Calls Tryz.prog 101 #[.string s,.int .i64 (least:Int),.int .i64 (most:Int)] w (fun e w'=>e=.returned (.bool (kindsB s least most))∧w'=w):=by
 unfold maxLen at hs;have hR:Hid (kindsB s least most=(s.data.toList.all ipU&&(decide ((least:Int)≤(s.size:Int))&&decide ((s.size:Int)≤(most:Int))))):=hid (by unfold kindsB;rw[ipB_eq];congr 2 <;> simp[Int.ofNat_le]);generalize kindsB s least most=R at *;go_enter Tryz.func101,Tryz.ntmps101;go_wp2_with fail;go_loopw [7] (fun i wr=>∃k:Nat,k≤s.size∧i=.int .i64 k∧Hid ((s.data.toList.take k).all ipU=true)∧w=wr) (fun i _=>s.size-(intOf i).toNat)
 case atStart=>exact⟨0,by omega,rfl,hid rfl,rfl⟩
 case round=>
  obtain⟨k,hk,rfl,hf,rfl⟩:=hrel;by_cases hkl:k<s.size
  ·have e1:decide ((k:Int)<(s.size:Int))=true:=decide_eq_true (by omega)
   have hf2:=hid (all_take hkl);by_cases h1:s[k] = 105
   ·have d1:((s[k].toNat:Int) != 105)=false:=by rw[h1];rfl
    have hb:ipU s[k] = true:=by rw[h1];rfl
    have hf3:Hid ((s.data.toList.take (k+1)).all ipU=true):=hid (by rw[hf2.out,hf.out,hb];rfl);clear hf hf2 hb h1;go_wp2_with fail;go_roundw
    case rel=>exact⟨k+1,by omega,by go_num,hf3,trivial⟩
    case measure=>simp[intOf];omega
   have d1:((s[k].toNat:Int) != 105)=true:=num_ne h1 105 (by decide);by_cases h2:s[k] = 112
   ·have d2:((s[k].toNat:Int) != 112)=false:=by rw[h2];rfl
    have hb:ipU s[k] = true:=by rw[h2];rfl
    have hf3:Hid ((s.data.toList.take (k+1)).all ipU=true):=hid (by rw[hf2.out,hf.out,hb];rfl);clear hf hf2 hb h1 h2;go_wp2_with fail;go_roundw
    case rel=>exact⟨k+1,by omega,by go_num,hf3,trivial⟩
    case measure=>simp[intOf];omega
   ·have d2:((s[k].toNat:Int) != 112)=true:=num_ne h2 112 (by decide)
    have hb:ipU s[k] = false:=by unfold ipU;simp[h1,h2]
    have hR0:Hid (R=false):=hid (by
     rw[hR.out,show s.data.toList.all ipU=false from ?_,Bool.false_and];rw[List.all_eq_false]
     exact⟨s[k],by simp;exact Array.getElem_mem _,by rw[hb];simp⟩)
    clear hf hf2 hb h1 h2 hR;go_wp2_with fail;go_ret;exact⟨congrArg (fun b=>Ending.returned (.bool b)) hR0.out.symm,rfl⟩
  ·obtain rfl:k=s.size:=by omega
   have e1:decide ((s.size:Int)<(s.size:Int))=false:=decide_eq_false (by omega);have hall:s.data.toList.all ipU=true:=by
    have h:=hf.out
    rwa[List.take_of_length_le (by rw[Lib.size_eq s];exact Nat.le_refl _)]at h
   clear hf;rw[hall,Bool.true_and]at hR;by_cases h3:(least:Int)≤(s.size:Int)
   ·have d3:decide ((least:Int)≤(s.size:Int))=true:=decide_eq_true h3
    rw[d3,Bool.true_and]at hR;have hR2:Hid (decide (s.size≤most)=R):=hid (by rw[hR.out];simp[Int.ofNat_le]);clear hR;go_wp2_with fail;go_ret;exact⟨congrArg (fun b=>Ending.returned (.bool b)) hR2.out,rfl⟩
   ·have d3:decide ((least:Int)≤(s.size:Int))=false:=decide_eq_false h3
    rw[d3,Bool.false_and]at hR;go_wp2_with fail;go_ret;exact⟨congrArg (fun b=>Ending.returned (.bool b)) hR.out.symm,rfl⟩
theorem rkinds_any(s:ByteArray)(least most:Nat)(w:World)(hs:s.size≤maxLen)(hl:least≤64)(hm:most≤64):Calls Tryz.prog 101 #[.string s,.int .i64 (least:Int),.int .i64 (most:Int)] w (BPost (kindsB s least most) w):=
 (rkinds_same s least most w hs hl hm).mono fun _ _ h=>⟨h.1,h.2 ▸ Below.refl _ _⟩
end sy
namespace sy
open RowKit
theorem mrow:(101:TypeId)<Tryz.prog.types.size:=of_decide_eq_true (by kernel_rfl)
theorem mwide:(match Tryz.prog.underlying 101 with | some (.array _ _) | some (.struct _)=>true | _=>false)=true:=by kernel_rfl
theorem laidOut0:laidOutB Tryz.prog=true:=by kernel_rfl
theorem mlaw:Maps.Keyed Tryz.prog 101:=Maps.Keyed.of_law (deep_law_laid laidOut0 (m:=2) (by omega) mrow (by kernel_rfl) mwide)
theorem mzero(w:World):(zeroValue 128).run Tryz.prog w=.ok (.agg #[]) w:=by kernel_rfl
def mkV(m:Mk):Value:=.agg #[.int .i64 m.at_,.string m.tag]
theorem mk_key(m:Mk)(hw:(Lit.int .i64 m.at_).wf=true)(ht:m.tag.size≤maxLen):∃kl,keyOf Tryz.prog 101 (mkV m)=some kl:=by
 obtain⟨at_,tag⟩:=m;dsimp only at hw ht;have hu:=Tryz.underlying101;have hi:=Tryz.underlying3;have hs:=Tryz.underlying9;have hkt:Tryz.prog.keyType 101=true:=by kernel_rfl
 have hfm:(mkV ⟨at_,tag⟩).formed Tryz.prog 101=true:=by kernel_rfl
 have hc2:Tryz.prog.cellsOf 101=2:=by kernel_rfl
 have hci:Tryz.prog.cellsOf 3=1:=by kernel_rfl
 have hcs:Tryz.prog.cellsOf 9=1:=by kernel_rfl
 have hsz:∃n,Tryz.prog.types.size=n+1:=⟨Tryz.prog.types.size-1,by kernel_rfl⟩;obtain⟨n,hn⟩:=hsz;have h1:Tryz.prog.keyLits (n+1) 3 [.int .i64 at_] = some [.int .i64 at_]:=by
  unfold Program.keyLits;rw[hi];simp[hw]
 have h2:Tryz.prog.keyLits (n+1) 9 [.string tag] = some [.string tag.data.toList]:=by
  unfold Program.keyLits;rw[hs];simp[ht]
 have h3:∃ls,Tryz.prog.keyLits (Tryz.prog.types.size+1) 101 (mkV ⟨at_,tag⟩).cells.toList=some ls:=by
  rw[hn];unfold Program.keyLits;rw[hu];simp[mkV,Value.cells,hc2,hci,hcs,h1,h2]
 obtain⟨ls,h3⟩:=h3;refine⟨.string (keyBytes ls),?_⟩;unfold keyOf;rw[hu];simp only[hkt,hfm,h3,Bool.and_self,if_true,Option.map_some]
noncomputable def mkK(m:Mk):Lit:=(keyOf Tryz.prog 101 (mkV m)).getD (.int .i64 0)
theorem mk_keyOf(m:Mk)(hw:(Lit.int .i64 m.at_).wf=true)(ht:m.tag.size≤maxLen):keyOf Tryz.prog 101 (mkV m)=some (mkK m):=by
 obtain⟨kl,h⟩:=mk_key m hw ht;unfold mkK;rw[h];rfl
theorem mkV_inj{a b:Mk}(h:mkV a=mkV b):a=b:=by
 obtain⟨a1,a2⟩:=a;obtain⟨b1,b2⟩:=b;unfold mkV at h;simp at h;rw[h.1,h.2]
noncomputable def seenD(l:List Mk):DataW Unit:=Maps.setOf (.agg []) (l.map mkK)
theorem seen_nil:seenD [] = .map []:=rfl
theorem seen_snoc(l:List Mk)(m:Mk):seenD (l++[m])=(seenD l).put (mkK m) (.agg []):=by
 unfold seenD;rw[List.map_append,List.map_cons,List.map_nil,Maps.setOf_snoc]
theorem has_seen_iff{l:List Mk}{m:Mk}(hl:∀x∈l,(Lit.int .i64 x.at_).wf=true∧x.tag.size≤maxLen)(hm:(Lit.int .i64 m.at_).wf=true∧m.tag.size≤maxLen):Maps.has (seenD l) (mkK m)=true↔m∈l:=by
 unfold seenD;have hkey:∀x∈l.map mkK,WideAt.IsKeyLit x:=fun x hx=>by
  obtain⟨y,hy,rfl⟩:=List.mem_map.1 hx;exact mlaw.key (mk_keyOf y (hl y hy).1 (hl y hy).2)
 rw[Maps.has_setOf _ _ _ hkey,List.any_eq_true];have hkm:WideAt.IsKeyLit (mkK m):=mlaw.key (mk_keyOf m hm.1 hm.2);constructor
 ·rintro⟨x,hx,hs⟩
  obtain⟨y,hy,rfl⟩:=List.mem_map.1 hx;have e:=(WideAt.sameKey_iff hkm).1 hs;have h1:=mk_keyOf y (hl y hy).1 (hl y hy).2;rw[e]at h1;exact mkV_inj (mlaw.inj h1 (mk_keyOf m hm.1 hm.2)) ▸ hy
 ·intro h
  exact⟨mkK m,List.mem_map_of_mem h,WideAt.sameKey_self hkm⟩
def atOf(ms:List Mk):Nat→Int
 | 0=>0
 | q+1=>match ms[q]? with
  | some m=>m.at_
  | none=>0
theorem atOf_succ{ms:List Mk}{k:Nat}(hk:k<ms.length):atOf ms (k+1)=ms[k].at_:=by
 show(match ms[k]? with
  | some m=>m.at_
  | none=>0)=_
 rw[List.getElem?_eq_getElem hk]
theorem mks_succ{ms:List Mk}{n k:Nat}(hk:k<ms.length):mksOk ms n (k+1)↔mksOk ms n k∧mkGood ms n k ms[k]:=by
 constructor
 ·intro h
  exact⟨fun i m hi hm=>h i m (by omega) hm,h k _ (by omega) (List.getElem?_eq_getElem hk)⟩
 ·rintro⟨h1,h2⟩ i m hi hm
  by_cases hik:i<k
  ·exact h1 i m hik hm
  ·obtain rfl:i=k:=by omega
   rw[List.getElem?_eq_getElem hk]at hm;exact(Option.some.inj hm) ▸ h2
theorem mks_bad{ms:List Mk}{n k:Nat}(hk:k<ms.length)(h:¬mkGood ms n k ms[k]):¬mksOk ms n ms.length:=
 fun h1=>h (h1 k _ hk (List.getElem?_eq_getElem hk))
open Classical in
noncomputable def mksE(ms:List Mk)(n:Nat):Int:=if mksOk ms n ms.length then 0 else 3
theorem mksE_yes{ms:List Mk}{n:Nat}(h:mksOk ms n ms.length):mksE ms n=0:=by unfold mksE;rw[if_pos h]
theorem mksE_no{ms:List Mk}{n:Nat}(h:¬mksOk ms n ms.length):mksE ms n=3:=by unfold mksE;rw[if_neg h]
def objI(a b:Bool)(z:Int):Int:=if a=false then 11 else if b=false then 5 else z
theorem objE_eq(o:SO):objE o=objI (objB o.name) (kindsB o.kinds 1 64) (mksE o.marks o.kinds.size):=rfl
theorem mk_step{ms:List Mk}{n k:Nat}(hk:k<ms.length)(hok:mksOk ms n k):mkGood ms n k ms[k]↔(ms[k]∉ms.take k∧atOf ms k≤ms[k].at_∧ms[k].at_<n∧tagB ms[k].tag=true):=by
 have hmem:ms[k]∉ms.take k↔∀q,q<k→∀p,ms[q]? = some p→¬(p.at_=ms[k].at_∧p.tag=ms[k].tag):=by
  constructor
  ·intro h q hq p hp he
   apply h
   have:p=ms[k]:=by
    obtain⟨p1,p2⟩:=p;generalize ms[k] = z at he;obtain⟨z1,z2⟩:=z;simp only at he;rw[he.1,he.2]
   rw[←this];exact List.mem_take_iff_getElem.2 ⟨q,by have:=(List.getElem?_eq_some_iff.1 hp).1;omega,(List.getElem?_eq_some_iff.1 hp).2⟩
  ·intro h hm
   obtain⟨q,hq,he⟩:=List.mem_take_iff_getElem.1 hm;exact h q (by omega) ms[q] (List.getElem?_eq_getElem (by omega)) ⟨by rw[he],by rw[he]⟩
 unfold mkGood;rw[hmem];constructor
 ·rintro⟨h1,h2,h3,h4,h5⟩
  refine⟨h5,?_,h2,h3⟩;cases k with
  | zero=>exact h1
  | succ q=>
   rw[atOf_succ (by omega)];exact h4 q rfl _ (List.getElem?_eq_getElem (by omega))
 ·rintro⟨h1,h2,h3,h4⟩
  refine⟨?_,h3,h4,?_,h1⟩
  ·cases k with
   | zero=>exact h2
   | succ q=>
    rw[atOf_succ (by omega)]at h2;have:=(hok q _ (by omega) (List.getElem?_eq_getElem (by omega))).1;omega
  ·intro q hq p hp
   subst hq;rw[atOf_succ (by omega)]at h2;rw[List.getElem?_eq_getElem (by omega)]at hp;exact(Option.some.inj hp) ▸ h2
end sy
namespace sy
open RowKit
def fnV(f:SF):Value:=.agg #[.string f.name,.string f.kinds,.string f.ret]
def sameMk(a b:Mk):Bool:=a.at_==b.at_&&a.tag.toList==b.tag.toList
def sameF(a b:SF):Bool:=a.name.toList==b.name.toList&&(a.kinds.toList==b.kinds.toList&&a.ret.toList==b.ret.toList)
structure HeldM:Prop where
 eq:∀(a b:Mk) (w:World),(binOp .eql 101 (mkV a) (mkV b)).run Tryz.prog w=.ok (.bool (sameMk a b)) w
 ne:∀(a b:Mk) (w:World),(binOp .neq 101 (mkV a) (mkV b)).run Tryz.prog w=.ok (.bool (!sameMk a b)) w
 guard:∀(op:BinOp) (x y:Operand) (xs ys:Array Value) (w:World),(eqGuard op 101 x y (.agg xs) (.agg ys)).run Tryz.prog w=.ok () w
structure HeldF:Prop where
 eq:∀(a b:SF) (w:World),(binOp .eql 72 (fnV a) (fnV b)).run Tryz.prog w=.ok (.bool (sameF a b)) w
 ne:∀(a b:SF) (w:World),(binOp .neq 72 (fnV a) (fnV b)).run Tryz.prog w=.ok (.bool (!sameF a b)) w
 guard:∀(op:BinOp) (x y:Operand) (xs ys:Array Value) (w:World),(eqGuard op 72 x y (.agg xs) (.agg ys)).run Tryz.prog w=.ok () w
theorem ba_toList{a b:ByteArray}(h:a.toList=b.toList):a=b:=by
 rw[Lib.toList_data,Lib.toList_data]at h;obtain⟨⟨l⟩⟩:=a;obtain⟨⟨m⟩⟩:=b;simp only at h;rw[h]
theorem sameMk_iff{a b:Mk}:sameMk a b=true↔a=b:=by
 obtain⟨a1,a2⟩:=a;obtain⟨b1,b2⟩:=b;unfold sameMk;simp only[Bool.and_eq_true,beq_iff_eq,Mk.mk.injEq];exact⟨fun h=>⟨h.1,ba_toList h.2⟩,fun h=>⟨h.1,by rw[h.2]⟩⟩
theorem sameF_iff{a b:SF}:sameF a b=true↔a=b:=by
 obtain⟨a1,a2,a3⟩:=a;obtain⟨b1,b2,b3⟩:=b;unfold sameF;simp only[Bool.and_eq_true,beq_iff_eq,SF.mk.injEq];exact⟨fun h=>⟨ba_toList h.1,ba_toList h.2.1,ba_toList h.2.2⟩,fun h=>⟨by rw[h.1],by rw[h.2.1],by rw[h.2.2]⟩⟩
end sy
namespace sy
open RowKit ChangeShapes WideShapes mem
theorem block_of_cell{w:World}{a:Addr}{v:Value}(h:w.cell? a=some v):a.block<w.heap.size:=by
 unfold World.cell? at h;rcases Nat.lt_or_ge a.block w.heap.size with h1 | h1
 ·exact h1
 ·rw[Array.getElem?_eq_none h1]at h;cases h
theorem mem_all{H:Type}{P:Program}{e:TypeId}:∀{l:List (DataW H)} {d:DataW H},d∈l→∀n∈d.weights P e,n∈DataW.weightsAll P e l
 | [],d,h,_,_=>by simp at h
 | x :: l,d,h,n,hn=>by
  simp only[DataW.weightsAll,List.mem_append];rcases List.mem_cons.1 h with rfl | h
  ·exact Or.inl hn
  ·exact Or.inr (mem_all h n hn)
theorem wide_of{P:Program}{t e:TypeId}{H:Type}{enc:TypeId×Value→H}{W:World}{fuel:Nat}{u:Value}{x:DataW H×List MemPlace}{α:Type}[Inhabited α]{B sz:Nat}(row:α→List Value)(Q:α→Prop)
 (ht:P.underlying t=some (.slice e)) (hc:P.cellsOf e=sz) (hz:0<sz) (hr:∀x,(row x).length=sz)
 (hf:∀(n:Nat) (cs:List Value) (y:DataW H×List MemPlace),DataW.trod enc P W 0 (fun _=>true) true n e cs=some y→cs.length=sz→(∀m∈y.1.weights P e,m≤B)→∃x,cs=row x∧Q x)
 (h:DataW.trod enc P W 0 (fun _=>true) true fuel t [u] = some x) (hw:∀m∈x.1.weights P t,m≤B) :
 ∃(A:Option Addr) (cap:Nat) (xs:List α),u=.slice A xs.length cap∧Tbl W A sz (xs.map row)∧(∀x∈xs,Q x)∧xs.length≤cap∧cap≤maxLen∧xs.length * P.bytesOf e≤B:=by
 rcases Go.Deep.open_slice ht h with⟨hcs,_⟩ | ⟨a,l,c,m,n,D,Pl,hcs,_,hl,hm,hmm,hxd,hx⟩
 ·simp only[List.cons.injEq,and_true]at hcs
  subst hcs;exact⟨none,0,[],rfl,fun h=>by simp at h,by simp,Nat.le_refl _,Nat.zero_le _,by simp⟩
 ·simp only[List.cons.injEq,and_true]at hcs
  subst hcs;simp only[if_true]at hmm;subst hmm;have hd:x.1=.slice ((List.range l).map D) ((List.range (m-l)).map fun j=>D (l+j)):=congrArg Prod.fst hxd;rw[hd]at hw;simp only[DataW.weights,ht,List.mem_cons,List.mem_append,List.length_map,List.length_range]at hw;have hwd:∀i,i<m→∀q∈(D i).weights P e,q≤B:=fun i hi q hq=>by
   rcases Nat.lt_or_ge i l with h1 | h1
   ·exact hw q (Or.inr (Or.inl (mem_all (List.mem_map.2 ⟨i,List.mem_range.2 h1,rfl⟩) q hq)))
   ·exact hw q (Or.inr (Or.inr (mem_all (List.mem_map.2 ⟨i-l,List.mem_range.2 (by omega),by rw[show l+(i-l)=i by omega]⟩) q hq)))
  have hb:=hw _ (Or.inl rfl);rw[show l+(m-l)=m by omega]at hb;rw[hc]at hx
  obtain⟨X,hX⟩:=Go.Deep.choose_lt (α:=α) (p:=fun i x=>(∀(j:Nat) (v:Value),(row x)[j]? = some v→W.cell? (a.add (i * sz+j))=some v)∧Q x) (n:=m) (fun i hi=>by
   obtain⟨cs',h1,h2⟩:=hx i hi;obtain⟨_,hcl,hat⟩:=World.cells?_some h1;obtain⟨x,rfl,hq⟩:=hf n _ _ h2 hcl (hwd i hi);refine⟨x,fun j v hv=>?_,hq⟩;have hj:j<sz:=by rw[←hcl];exact(List.getElem?_eq_some_iff.1 hv).1
   have h0:=hat j hj;rw[Go.Deep.add_add]at h0
   rw[h0,←hv])
  refine⟨some a,m,(List.range l).map X,by simp,fun hzz=>?_,fun x hx'=>?_,by simpa using hl,hm,?_⟩
  ·simp only[List.length_map,List.length_range]at hzz
   obtain⟨v0,hv0⟩:∃v,(row (X 0))[0]? = some v:=⟨_,List.getElem?_eq_getElem (by rw[hr];exact hz)⟩;have h0:=(hX 0 (by omega)).1 0 v0 hv0;obtain⟨b,off,spot⟩:=a;have hs:spot=none:=by simpa[Addr.add] using World.cell?_spot h0
   subst hs;refine⟨b,off,rfl,by have:=block_of_cell h0;simpa[Addr.add] using this,fun j hj i v hv=>?_⟩;simp only[List.length_map,List.length_range]at hj;have hv2:(row (X j))[i]? = some v:=by simpa using hv
   have:=(hX j (by omega)).1 i v hv2
   rwa[Go.WideShapes.add_plain,←Nat.add_assoc]at this
  ·obtain⟨i,hi,rfl⟩:=List.mem_map.1 hx'
   exact(hX i (by have:=List.mem_range.1 hi;omega)).2
  ·simp only[List.length_map,List.length_range]
   exact Nat.le_trans (Nat.mul_le_mul_right _ hl) hb
theorem fld{P:Program}{e:TypeId}{H:Type}{enc:TypeId×Value→H}{W:World}{tys:List (TypeId×Nat)}(hq:(P.fieldsOf e).toList.map (fun f=>(f.type,f.offset))=tys){ys:List (DataW H×List MemPlace)}{n:Nat}{cs:List Value}(hl:ys.length=(P.fieldsOf e).size)
 (hf:∀(i:Nat) (f:Field),(P.fieldsOf e)[i]? = some f→DataW.trod enc P W 0 (fun _=>true) true n f.type ((cs.drop f.offset).take (P.cellsOf f.type))=ys[i]?) (hu:P.underlying e=some (.struct (P.fieldsOf e))) {B:Nat} (hw:∀m∈(DataW.agg (ys.map (·.1))).weights P e,m≤B)
 (i:Nat) (t:TypeId) (o:Nat) (hi:tys[i]? = some (t,o)):∃y,DataW.trod enc P W 0 (fun _=>true) true n t ((cs.drop o).take (P.cellsOf t))=some y∧∀m∈y.1.weights P t,m≤B:=by
 rw[←hq,List.getElem?_map]at hi;obtain⟨f,h1,h2⟩:=Option.map_eq_some_iff.1 hi;rw[Array.getElem?_toList]at h1;simp only[Prod.mk.injEq]at h2;have hlt:i<ys.length:=by rw[hl];exact(Array.getElem?_eq_some_iff.1 h1).1
 have h3:=hf i f h1;rw[h2.1,h2.2,List.getElem?_eq_getElem hlt]at h3;refine⟨ys[i],h3,fun m hm=>hw m ?_⟩;simp only[DataW.weights,hu];exact DataW.weights_mem_each (j:=i) (t:=t) (d:=ys[i].1) (by rw[List.getElem?_map,Array.getElem?_toList,h1];simp[h2.1]) (by rw[List.getElem?_map,List.getElem?_eq_getElem hlt];rfl) m hm
theorem cStr:Tryz.prog.cellsOf 9=1:=by kernel_rfl
theorem cInt:Tryz.prog.cellsOf 3=1:=by kernel_rfl
theorem cMk:Tryz.prog.cellsOf 101=2:=by kernel_rfl
theorem cOb:Tryz.prog.cellsOf 70=3:=by kernel_rfl
theorem cFn:Tryz.prog.cellsOf 72=3:=by kernel_rfl
theorem cCo:Tryz.prog.cellsOf 103=6:=by kernel_rfl
theorem cMs:Tryz.prog.cellsOf 68=1:=by kernel_rfl
theorem cSs:Tryz.prog.cellsOf 31=1:=by kernel_rfl
theorem cOs:Tryz.prog.cellsOf 37=1:=by kernel_rfl
theorem cFs:Tryz.prog.cellsOf 38=1:=by kernel_rfl
theorem cCs:Tryz.prog.cellsOf 39=1:=by kernel_rfl
theorem cSy:Tryz.prog.cellsOf 41=3:=by kernel_rfl
theorem bStr:Tryz.prog.bytesOf 9=16:=by kernel_rfl
theorem uMk:Tryz.prog.underlying 101=some (.struct (Tryz.prog.fieldsOf 101)):=by kernel_rfl
theorem uOb:Tryz.prog.underlying 70=some (.struct (Tryz.prog.fieldsOf 70)):=by kernel_rfl
theorem uFn:Tryz.prog.underlying 72=some (.struct (Tryz.prog.fieldsOf 72)):=by kernel_rfl
theorem uCo:Tryz.prog.underlying 103=some (.struct (Tryz.prog.fieldsOf 103)):=by kernel_rfl
theorem uSy:Tryz.prog.underlying 41=some (.struct (Tryz.prog.fieldsOf 41)):=by kernel_rfl
theorem fMk:(Tryz.prog.fieldsOf 101).toList.map (fun f=>(f.type,f.offset))=[(3,0),(9,1)]:=by kernel_rfl
theorem fOb:(Tryz.prog.fieldsOf 70).toList.map (fun f=>(f.type,f.offset))=[(9,0),(9,1),(68,2)]:=by kernel_rfl
theorem fFn:(Tryz.prog.fieldsOf 72).toList.map (fun f=>(f.type,f.offset))=[(9,0),(9,1),(9,2)]:=by kernel_rfl
theorem fCo:(Tryz.prog.fieldsOf 103).toList.map (fun f=>(f.type,f.offset))=[(3,0),(9,1),(9,2),(3,3),(9,4),(31,5)]:=by kernel_rfl
theorem fSy:(Tryz.prog.fieldsOf 41).toList.map (fun f=>(f.type,f.offset))=[(37,0),(38,1),(39,2)]:=by kernel_rfl
section
variable {H:Type} {enc:TypeId×Value→H} {W:World} {B:Nat}
theorem int_el{n:Nat}{u:Value}{y:DataW H×List MemPlace}(h:DataW.trod enc Tryz.prog W 0 (fun _=>true) true n 3 [u] = some y):∃a:Int,u=.int .i64 a∧(Lit.int .i64 a).wf=true:=by
 obtain⟨a,e,_,hs⟩:=DataW.trod_int Tryz.underlying3 h;simp only[List.cons.injEq,and_true]at e;exact⟨a,e,hs⟩
theorem tbl_rd{w:World}{A:Option Addr}{l:List ByteArray}(h:Tbl w A 1 (l.map fun s=>[Value.string s])):Rd w A (l.map Value.string):=fun hz=>by
 rw[List.length_map]at hz;obtain⟨b,off,e,hl,hc⟩:=h (by simpa using hz);refine⟨b,off,e,hl,fun j hj=>?_⟩;rw[List.length_map]at hj;have:=hc j (by simpa using hj) 0 (.string l[j]) (by simp);rw[Nat.mul_one,Nat.add_zero]at this;rw[this,List.getElem_map]
end
end sy
namespace sy
open RowKit
theorem under_mk:Tryz.prog.underlying 101=some (.struct (Tryz.prog.fieldsOf 101)):=by kernel_rfl
theorem stood_mk:Tryz.prog.stoodInHeld 101=false:=by kernel_rfl
theorem guard_mk:Tryz.prog.eqGuardType Tryz.prog.depth 101=false:=by kernel_rfl
theorem fields_mk:(Tryz.prog.fieldsOf 101).toList.map (fun f=>(f.name == "_",f.type,f.offset))=[(false,3,0),(false,9,1)]:=by kernel_rfl
theorem eql_mk(a b:Mk)(w:World):(binOp .eql 101 (mkV a) (mkV b)).run Tryz.prog w=.ok (.bool (sameMk a b)) w:=by
 unfold mkV;rw[run_eql_struct,run_equalIn_struct _ _ _ _ _ under_mk stood_mk];have h:=fields_mk;generalize (Tryz.prog.fieldsOf 101).toList=fs at *;rcases fs with _ | ⟨f0,_ | ⟨f1,_ | ⟨f2,fs⟩⟩⟩
 all_goals first | (simp at h;done) | skip
 simp only[List.map_cons,List.map_nil,List.cons.injEq,Prod.mk.injEq,and_true]at h;obtain⟨⟨a0,b0,c0⟩,⟨a1,b1,c1⟩⟩:=h;have p0:∀d:Mk,(part f0.type #[.int .i64 d.at_,.string d.tag] f0.offset).run Tryz.prog w=.ok (.int .i64 d.at_) w:=fun d=>by rw[b0,c0];kernel_rfl
 have p1:∀d:Mk,(part f1.type #[.int .i64 d.at_,.string d.tag] f1.offset).run Tryz.prog w=.ok (.string d.tag) w:=fun d=>by rw[b1,c1];kernel_rfl
 have i0:(Op.equalIn 9999 f0.type (.int .i64 a.at_) (.int .i64 b.at_)).run Tryz.prog w=.ok (a.at_==b.at_) w:=by rw[b0];exact run_equalIn_int w 9998 _ _ _ _ _ Tryz.underlying3
 have i1:(Op.equalIn 9999 f1.type (.string a.tag) (.string b.tag)).run Tryz.prog w=.ok (a.tag.toList==b.tag.toList) w:=by rw[b1];exact run_equalIn_string w 9998 _ _ _ Tryz.underlying9
 rw[nm.eq_step 9999 _ _ f0 _ _ _ _ w a0 (p0 a) (p0 b) i0,nm.eq_step 9999 _ _ f1 _ _ _ _ w a1 (p1 a) (p1 b) i1];unfold sameMk;cases(a.at_==b.at_) <;> cases(a.tag.toList==b.tag.toList) <;> simp[Op.eqFields,Sem.run_pure,Result.andThen]
theorem neq_mk(a b:Mk)(w:World):(binOp .neq 101 (mkV a) (mkV b)).run Tryz.prog w=.ok (.bool (!sameMk a b)) w:=by
 unfold mkV;rw[run_neq_struct,run_equalIn_struct _ _ _ _ _ under_mk stood_mk];have h:=fields_mk;generalize (Tryz.prog.fieldsOf 101).toList=fs at *;rcases fs with _ | ⟨f0,_ | ⟨f1,_ | ⟨f2,fs⟩⟩⟩
 all_goals first | (simp at h;done) | skip
 simp only[List.map_cons,List.map_nil,List.cons.injEq,Prod.mk.injEq,and_true]at h;obtain⟨⟨a0,b0,c0⟩,⟨a1,b1,c1⟩⟩:=h;have p0:∀d:Mk,(part f0.type #[.int .i64 d.at_,.string d.tag] f0.offset).run Tryz.prog w=.ok (.int .i64 d.at_) w:=fun d=>by rw[b0,c0];kernel_rfl
 have p1:∀d:Mk,(part f1.type #[.int .i64 d.at_,.string d.tag] f1.offset).run Tryz.prog w=.ok (.string d.tag) w:=fun d=>by rw[b1,c1];kernel_rfl
 have i0:(Op.equalIn 9999 f0.type (.int .i64 a.at_) (.int .i64 b.at_)).run Tryz.prog w=.ok (a.at_==b.at_) w:=by rw[b0];exact run_equalIn_int w 9998 _ _ _ _ _ Tryz.underlying3
 have i1:(Op.equalIn 9999 f1.type (.string a.tag) (.string b.tag)).run Tryz.prog w=.ok (a.tag.toList==b.tag.toList) w:=by rw[b1];exact run_equalIn_string w 9998 _ _ _ Tryz.underlying9
 rw[nm.eq_step 9999 _ _ f0 _ _ _ _ w a0 (p0 a) (p0 b) i0,nm.eq_step 9999 _ _ f1 _ _ _ _ w a1 (p1 a) (p1 b) i1];unfold sameMk;cases(a.at_==b.at_) <;> cases(a.tag.toList==b.tag.toList) <;> simp[Op.eqFields,Sem.run_pure,Result.andThen]
theorem held_mk:HeldM:=⟨eql_mk,neq_mk,fun op x y xs ys w=>run_eqGuard_agg w op _ x y xs ys guard_mk⟩
theorem under_sf:Tryz.prog.underlying 72=some (.struct (Tryz.prog.fieldsOf 72)):=by kernel_rfl
theorem stood_sf:Tryz.prog.stoodInHeld 72=false:=by kernel_rfl
theorem guard_sf:Tryz.prog.eqGuardType Tryz.prog.depth 72=false:=by kernel_rfl
theorem fields_sf:(Tryz.prog.fieldsOf 72).toList.map (fun f=>(f.name == "_",f.type,f.offset))=[(false,9,0),(false,9,1),(false,9,2)]:=by kernel_rfl
theorem eql_sf(a b:SF)(w:World):(binOp .eql 72 (fnV a) (fnV b)).run Tryz.prog w=.ok (.bool (sameF a b)) w:=by
 unfold fnV;rw[run_eql_struct,run_equalIn_struct _ _ _ _ _ under_sf stood_sf];have h:=fields_sf;generalize (Tryz.prog.fieldsOf 72).toList=fs at *;rcases fs with _ | ⟨f0,_ | ⟨f1,_ | ⟨f2,_ | ⟨f3,fs⟩⟩⟩⟩
 all_goals first | (simp at h;done) | skip
 simp only[List.map_cons,List.map_nil,List.cons.injEq,Prod.mk.injEq,and_true]at h;obtain⟨⟨a0,b0,c0⟩,⟨a1,b1,c1⟩,⟨a2,b2,c2⟩⟩:=h;have p0:∀d:SF,(part f0.type #[.string d.name,.string d.kinds,.string d.ret] f0.offset).run Tryz.prog w=.ok (.string d.name) w:=fun d=>by rw[b0,c0];kernel_rfl
 have p1:∀d:SF,(part f1.type #[.string d.name,.string d.kinds,.string d.ret] f1.offset).run Tryz.prog w=.ok (.string d.kinds) w:=fun d=>by rw[b1,c1];kernel_rfl
 have p2:∀d:SF,(part f2.type #[.string d.name,.string d.kinds,.string d.ret] f2.offset).run Tryz.prog w=.ok (.string d.ret) w:=fun d=>by rw[b2,c2];kernel_rfl
 have i0:(Op.equalIn 9999 f0.type (.string a.name) (.string b.name)).run Tryz.prog w=.ok (a.name.toList==b.name.toList) w:=by rw[b0];exact run_equalIn_string w 9998 _ _ _ Tryz.underlying9
 have i1:(Op.equalIn 9999 f1.type (.string a.kinds) (.string b.kinds)).run Tryz.prog w=.ok (a.kinds.toList==b.kinds.toList) w:=by rw[b1];exact run_equalIn_string w 9998 _ _ _ Tryz.underlying9
 have i2:(Op.equalIn 9999 f2.type (.string a.ret) (.string b.ret)).run Tryz.prog w=.ok (a.ret.toList==b.ret.toList) w:=by rw[b2];exact run_equalIn_string w 9998 _ _ _ Tryz.underlying9
 rw[nm.eq_step 9999 _ _ f0 _ _ _ _ w a0 (p0 a) (p0 b) i0,nm.eq_step 9999 _ _ f1 _ _ _ _ w a1 (p1 a) (p1 b) i1,nm.eq_step 9999 _ _ f2 _ _ _ _ w a2 (p2 a) (p2 b) i2];unfold sameF;cases(a.name.toList==b.name.toList) <;> cases(a.kinds.toList==b.kinds.toList) <;> cases(a.ret.toList==b.ret.toList) <;> simp[Op.eqFields,Sem.run_pure,Result.andThen]
theorem neq_sf(a b:SF)(w:World):(binOp .neq 72 (fnV a) (fnV b)).run Tryz.prog w=.ok (.bool (!sameF a b)) w:=by
 unfold fnV;rw[run_neq_struct,run_equalIn_struct _ _ _ _ _ under_sf stood_sf];have h:=fields_sf;generalize (Tryz.prog.fieldsOf 72).toList=fs at *;rcases fs with _ | ⟨f0,_ | ⟨f1,_ | ⟨f2,_ | ⟨f3,fs⟩⟩⟩⟩
 all_goals first | (simp at h;done) | skip
 simp only[List.map_cons,List.map_nil,List.cons.injEq,Prod.mk.injEq,and_true]at h;obtain⟨⟨a0,b0,c0⟩,⟨a1,b1,c1⟩,⟨a2,b2,c2⟩⟩:=h;have p0:∀d:SF,(part f0.type #[.string d.name,.string d.kinds,.string d.ret] f0.offset).run Tryz.prog w=.ok (.string d.name) w:=fun d=>by rw[b0,c0];kernel_rfl
 have p1:∀d:SF,(part f1.type #[.string d.name,.string d.kinds,.string d.ret] f1.offset).run Tryz.prog w=.ok (.string d.kinds) w:=fun d=>by rw[b1,c1];kernel_rfl
 have p2:∀d:SF,(part f2.type #[.string d.name,.string d.kinds,.string d.ret] f2.offset).run Tryz.prog w=.ok (.string d.ret) w:=fun d=>by rw[b2,c2];kernel_rfl
 have i0:(Op.equalIn 9999 f0.type (.string a.name) (.string b.name)).run Tryz.prog w=.ok (a.name.toList==b.name.toList) w:=by rw[b0];exact run_equalIn_string w 9998 _ _ _ Tryz.underlying9
 have i1:(Op.equalIn 9999 f1.type (.string a.kinds) (.string b.kinds)).run Tryz.prog w=.ok (a.kinds.toList==b.kinds.toList) w:=by rw[b1];exact run_equalIn_string w 9998 _ _ _ Tryz.underlying9
 have i2:(Op.equalIn 9999 f2.type (.string a.ret) (.string b.ret)).run Tryz.prog w=.ok (a.ret.toList==b.ret.toList) w:=by rw[b2];exact run_equalIn_string w 9998 _ _ _ Tryz.underlying9
 rw[nm.eq_step 9999 _ _ f0 _ _ _ _ w a0 (p0 a) (p0 b) i0,nm.eq_step 9999 _ _ f1 _ _ _ _ w a1 (p1 a) (p1 b) i1,nm.eq_step 9999 _ _ f2 _ _ _ _ w a2 (p2 a) (p2 b) i2];unfold sameF;cases(a.name.toList==b.name.toList) <;> cases(a.kinds.toList==b.kinds.toList) <;> cases(a.ret.toList==b.ret.toList) <;> simp[Op.eqFields,Sem.run_pure,Result.andThen]
theorem held_sf:HeldF:=⟨eql_sf,neq_sf,fun op x y xs ys w=>run_eqGuard_agg w op _ x y xs ys guard_sf⟩
end sy
end Go.Proofs.YtlkboeajkgbnaaaGreatDoor
