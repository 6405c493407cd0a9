import Derived.Deep.DeepCutAuto
import Derived.Deep.OwnRows
import Derived.Handy
import Derived.Laws.Cover1
import Derived.Shelf.Strings.SlTrimAscii
import Derived.StillTailTactics
import Derived.Test.YtdmmkjijgoiecaaGreatDoorB21
import Derived.Test.YtdmmkjijgoiecaaGreatDoorB34
import Derived.Test.YtdmmkjijgoiecaaGreatDoorB31
set_option linter.all false
set_option maxHeartbeats 4000000
namespace Go.Proofs.YtdmmkjijgoiecaaGreatDoor
namespace re
open RowKit Shelf mem sy
inductive Ev where
 | n (k:Int)
 | t (s:ByteArray)
structure SU where
 name:ByteArray
 gives:List ByteArray
 wants:List ByteArray
 keeps:List ByteArray
 sys:SS
def fD(l:List ByteArray):List Ev:=.n l.length :: l.map Ev.t
def rE(m:Mk):List Ev:=[.n m.at_,.t m.tag]
def tQ(l:List Mk):List Ev:=.n l.length :: l.flatMap rE
def jC(o:SO):List Ev:=.t o.name :: .t o.kinds :: tQ o.marks
def qU(l:List SO):List Ev:=.n l.length :: l.flatMap jC
def mE(f:SF):List Ev:=[.t f.name,.t f.kinds,.t f.ret]
def qV(l:List SF):List Ev:=.n l.length :: l.flatMap mE
def mQ(c:SC):List Ev:=.n c.op :: .t c.a :: .t c.b :: .n c.k :: .t c.tag :: fD c.args
def qW(l:List SC):List Ev:=.n l.length :: l.flatMap mQ
def dB(s:SU):List Ev:=.t s.name :: (fD s.gives++(fD s.wants++(fD s.keeps++(qU s.sys.objs++(qV s.sys.fns++qW s.sys.cons)))))
structure MU where
 name:ByteArray
 gA:Option Addr
 gc:Nat
 gives:List ByteArray
 wA:Option Addr
 wc:Nat
 wants:List ByteArray
 kA:Option Addr
 kc:Nat
 keeps:List ByteArray
 s:MS
def MU.su(u:MU):SU:=⟨u.name,u.gives,u.wants,u.keeps,u.s.sys⟩
def MU.row(u:MU):Array Value:=#[.string u.name,.slice u.gA u.gives.length u.gc,.slice u.wA u.wants.length u.wc,.slice u.kA u.keeps.length u.kc,.slice u.s.oA u.s.os.length u.s.oc,.slice u.s.fA u.s.fs.length u.s.fc,.slice u.s.cA u.s.cs.length u.s.cc]
def MU.val(u:MU):Value:=.agg u.row
structure eY(w:World)(u:MU):Prop where
 gr:Rd w u.gA (u.gives.map Value.string)
 wr:Rd w u.wA (u.wants.map Value.string)
 kr:Rd w u.kA (u.keeps.map Value.string)
 sr:vO w u.s
theorem eY.below{w w':World}{u:MU}(h:eY w u)(hb:Below w.heap.size w w'):eY w' u:=⟨h.gr.below hb,h.wr.below hb,h.kr.below hb,h.sr.below hb⟩
def MX:Nat:=15000000
structure St(I:List Nat→List Ev→World→Prop)(w:World)(F F':List Nat)(evs:List Ev)(w':World):Prop where
 i:I F' evs w'
 fr:Fr F w w'
 nw:∀x∈F',x∈F∨w.heap.size≤x
def gP(I:List Nat→List Ev→World→Prop)(F:List Nat)(J:List Ev)(w:World)(e:Ending)(w':World):Prop:=e=.returned (.tuple #[])∧∃Y,St I w F Y J w'
structure pX(fn ft:FuncId)(g:Nat)(w0:World)(I:List Nat→List Ev→World→Prop):Prop where
 lt:∀{F evs w},I F evs w→∀x∈F,x<w.heap.size
 ge:∀{F evs w},I F evs w→∀x∈F,w0.heap.size≤x
 be:∀{F evs w},I F evs w→Below w0.heap.size w0 w
 kept:∀{F evs w w' G},I F evs w→Fr G w w'→(∀x∈F,x∉G)→(∀x∈G,w0.heap.size≤x)→I F evs w'
 num:∀{F evs w} (k:Int),I F evs w→evs.length≤MX→Calls Tryz.prog fn #[.pointer (some ⟨g,0,none⟩),.int .i64 k] w (gP I F (evs++[.n k]) w)
 txt:∀{F evs w} (s:ByteArray),I F evs w→evs.length≤MX→Calls Tryz.prog ft #[.pointer (some ⟨g,0,none⟩),.string s] w (gP I F (evs++[.t s]) w)
section
variable {fn ft:FuncId} {g:Nat} {w0:World} {I:List Nat→List Ev→World→Prop}
theorem St.start{w:World}{F:List Nat}{J:List Ev}(h:I F J w):St I w F F J w:=⟨h,Fr.refl _ _,fun x Y=>Or.inl Y⟩
theorem St.trans{w w1 w2:World}{F F1 F2:List Nat}{e1 e2:List Ev}(h:St I w F F1 e1 w1)(k:St I w1 F1 F2 e2 w2):St I w F F2 e2 w2:=
 ⟨k.i,h.fr.trans k.fr (fun g J=>Or.inl J) (fun g J=>h.nw g J),fun x hx=>by
  rcases k.nw x hx with Y | Y
  ·exact h.nw x Y
  ·exact Or.inr (aZ h.fr.size Y)⟩
theorem pX.alloc(S:pX fn ft g w0 I){w:World}{F:List Nat}{J:List Ev}(h:I F J w)(o:Obj):I F J (w.alloc o):=S.kept h ((Fr.refl [] w).alloc o) (by simp) (by simp)
theorem pX.drew(S:pX fn ft g w0 I){w:World}{F:List Nat}{J:List Ev}(h:I F J w):I F J w.drew:=S.kept h ((Fr.refl [] w).drew) (by simp) (by simp)
theorem St.drew(S:pX fn ft g w0 I){w Y:World}{F F1:List Nat}{J:List Ev}(h:St I w F F1 J Y):St I w F F1 J Y.drew:=⟨S.drew h.i,h.fr.drew,h.nw⟩
theorem St.from_alloc{w w1:World}{o:Obj}{F F1:List Nat}{Y:List Ev}(h:St I (w.alloc o) F F1 Y w1):St I w F F1 Y w1:=
 ⟨h.i,((Fr.refl [] w).alloc o).trans h.fr (by simp) (fun g hg=>Or.inl hg),fun x hx=>by
  rcases h.nw x hx with J | J
  ·exact Or.inl J
  ·exact Or.inr (aZ ((Fr.refl [] w).alloc o).size J)⟩
theorem pX.cell(S:pX fn ft g w0 I){w:World}{F:List Nat}{J:List Ev}(h:I F J w){p:Addr}(Y:p.block<w0.heap.size){v:Value}(hv:w0.cell? p=some v):w.cell? p=some v:=((S.be h).cell Y).trans hv
theorem St.box{w w':World}{F Y:List Nat}{J:List Ev}(h:St I w F Y J w'){b:Nat}{t:TypeId}{cs:Array Value}(hb:bT w b t cs)(hn:b∉F):bT w' b t cs:=hb.kept h.fr hn
theorem St.nin{w w':World}{F Y:List Nat}{J:List Ev}(h:St I w F Y J w'){c:Nat}(hn:c∉F)(hl:c<w.heap.size):c∉Y:=fun hx=>by
 rcases h.nw c hx with h1 | h1
 ·exact hn h1
 ·omega
end
theorem jK{α β:Type}(f:α→List β)(hf:∀x,1≤(f x).length):∀l:List α,l.length≤(l.flatMap f).length
 | []=>by simp
 | x :: l=>by
  rw[List.flatMap_cons,aF,aG];have:=jK f hf l;have:=hf x;omega
theorem rP{α β:Type}(f:α→List β)(l:List α)(k:Nat)(h:k<l.length):((l.take k).flatMap f).length+(f l[k]).length≤(l.flatMap f).length:=by
 have e:l.flatMap f=(l.take k).flatMap f++(f l[k]++(l.drop (k+1)).flatMap f):=by
  conv=>lhs;rw[←List.take_append_drop k l,bD h]
  rw[List.flatMap_append,List.flatMap_cons]
 rw[e,aF,aF];omega
theorem kX{α β:Type}(f:α→List β)(l:List α)(k:Nat)(h:k<l.length):(l.take (k+1)).flatMap f=(l.take k).flatMap f++f l[k]:=by
 rw[(List.take_append_getElem h).symm,List.flatMap_append,List.flatMap_cons,List.flatMap_nil,List.append_nil]
end re
open Lib(hid)
set_option maxRecDepth 100000
namespace re
open RowKit Shelf mem sy vr
theorem fO{w0 w w':World}{G:List Nat}(h:Below w0.heap.size w0 w)(f:Fr G w w')(J:∀x∈G,w0.heap.size≤x):Below w0.heap.size w0 w':=h.trans (f.below J h.size)
theorem aNp:(Tryz.prog.info? 9).map (fun i=>(i.zero,i.size,i.bytes))=some (some (.string ⟨#[]⟩),1,16):=by kernel_rfl
theorem aDe:∃i,Tryz.prog.info? 9=some i∧i.zero=some (.string ⟨#[]⟩)∧i.size=1∧i.bytes=16:=by
 have h:=aNp
 rcases hi:Tryz.prog.info? 9 with _ | i
 ·rw[hi]at h;cases h
 ·rw[hi]at h
  simp only[Option.map_some,Option.some.injEq,Prod.mk.injEq]at h;exact⟨i,rfl,h.1,h.2.1,h.2.2⟩
def oM:List Ev→List ByteArray
 | []=>[]
 | .n _ :: l=>oM l
 | .t s :: l=>s :: oM l
theorem xD:∀(a b:List Ev),oM (a++b)=oM a++oM b
 | [],b=>rfl
 | .n _ :: a,b=>by show oM (a++b)=_;exact xD a b
 | .t s :: a,b=>by show s :: oM (a++b)=s :: oM a++oM b;rw[xD a b];rfl
theorem wZ:∀a:List Ev,(oM a).length≤a.length
 | []=>aY _
 | .n _ :: a=>by have:=wZ a;show(oM a).length≤a.length+1;omega
 | .t s :: a=>by have:=wZ a;show(oM a).length+1≤a.length+1;omega
structure TS(w0:World)(g:Nat)(F:List Nat)(l:List ByteArray)(w:World):Prop where
 be:Below w0.heap.size w0 w
 ge:∀x∈F,w0.heap.size≤x
 x:∃A cap,F=g :: blk A∧bT w g 119 #[.slice A l.length cap]∧Seg w 9 A cap (l.map Value.string)
theorem TS.kept{w0:World}{g:Nat}{F G:List Nat}{l:List ByteArray}{w w':World}(h:TS w0 g F l w)(f:Fr G w w')(J:∀x∈F,x∉G)(Y:∀x∈G,w0.heap.size≤x):TS w0 g F l w':=by
 obtain⟨A,cap,rfl,hb,hs⟩:=h.x;exact⟨fO h.be f Y,h.ge,A,cap,rfl,hb.kept f (J g (by simp)),hs.kept f (fun x hx=>J x (by simp[hx]))⟩
def IT(w0:World)(g:Nat)(F:List Nat)(J:List Ev)(w:World):Prop:=TS w0 g F (oM J) w
theorem aOY{w0:World}{g:Nat}{F:List Nat}{J:List Ev}{w:World}(k:Int)(h:IT w0 g F J w) :
 Calls Tryz.prog 289 #[.pointer (some ⟨g,0,none⟩),.int .i64 k] w (gP (IT w0 g) F (J++[.n k]) w):=by
 have H:Hid (IT w0 g F (J++[.n k]) w):=hid (by unfold IT at h ⊢;rw[xD];show TS w0 g F (oM J++[]) w;rw[List.append_nil];exact h)
 clear h;go_enter Tryz.func289,Tryz.ntmps289;go_wp2_with fail
 go_end0
 exact⟨rfl,F,⟨H.out,Fr.refl _ _,fun x Y=>Or.inl Y⟩⟩
theorem aOy{w0:World}{g:Nat}{F:List Nat}{Y:List Ev}{w:World}(s:ByteArray)(h:IT w0 g F Y w)(hl:Y.length≤MX) :
 Calls Tryz.prog 290 #[.pointer (some ⟨g,0,none⟩),.string s] w (gP (IT w0 g) F (Y++[.t s]) w):=by
 have hlen:=wZ Y;have am:(oM Y).length≤15000000:=by unfold MX at hl;omega
 unfold gP;have J:Hid (∀F' w',IT w0 g F' (Y++[.t s]) w'↔TS w0 g F' (oM Y++[s]) w'):=hid (fun F' w'=>by unfold IT;rw[xD];exact Iff.rfl)
 unfold IT at h;generalize oM Y=l at *;obtain⟨a5,a1,A,cap,rfl,hb,hs⟩:=h;have aa:g∉blk A:=hs.ne_box hb (by decide)
 have c0:w.cell? ⟨g,0,none⟩=some (.slice A l.length cap):=hb.cell 0;have ao:g<w.heap.size:=hb.lt;have ap:=a1 g (by simp)
 obtain⟨i0,a4,a3,a8,a7⟩:=aDe;have Hi:=hid a4;have ah:=hid a3;have ag:=hid a8;have af:=hid a7;have HS:=hid hs;have a6:=hid a5;have HG:=hid a1;have HB:=hid hb;clear hs a4 a3 a8 a7 a5 a1 hb hlen hl;go_enter Tryz.func290,Tryz.ntmps290
 go_wp2_with (at_builtin;refine dR rfl _ _ _ rfl (HS.out.alloc _) (by rw[aH]) Tryz.underlying22 Hi.out ah.out ag.out af.out rfl rfl rfl (dI _ _ _) rfl (by omega) (by omega) ?_;intro A3 a0 w3 ai f3 aj;have a2:Hid (bT w3 g 119 #[.slice A l.length cap]):=hid ((HB.out.kept ((Fr.refl [] w).alloc _) (by simp)).kept f3 aa);have ar:=a2.out.free 0;have au:w3.cell? ⟨g,0,none⟩=some (.slice A l.length cap):=a2.out.cell 0)
 go_end0
 have fa:Fr (g :: blk A) w w3:=((Fr.refl [] w).alloc (.cells #[.string s] 9)).trans f3 (by simp) (fun x J=>Or.inl (by simp[J]))
 have fb:Fr (g :: blk A) w (w3.setCell ⟨g,0,none⟩ (.slice A3 (l.length+1) a0)):=fa.setCell (p:=⟨g,0,none⟩) (Or.inl (by simp)) _
 have a9:∀x∈blk A3,x∈blk A∨w.heap.size<x:=fun x J=>by
  rcases aj with e | e
  ·rw[e]at J;exact Or.inl J
  ·rw[e,aD]at J
   exact Or.inr (by rw[J];show w.heap.size<(w.heap.push _).size;rw[bH];omega)
 have ae:∀x∈g :: blk A3,x∈g :: blk A∨w.heap.size≤x:=fun x J=>by
  rcases aM.1 J with e | e
  ·exact Or.inl (by simp[e])
  ·rcases a9 x e with h1 | h1
   ·exact Or.inl (by simp[h1])
   ·exact Or.inr (by omega)
 have ak:g∉blk A3:=fun J=>by
  rcases a9 g J with h1 | h1
  ·exact aa h1
  ·omega
 refine⟨rfl,g :: blk A3,⟨(J.out _ _).2 ⟨fO a6.out fb HG.out,fun x J=>?_,A3,a0,rfl,?_,?_⟩,fb,ae⟩⟩
 ·rcases ae x J with h1 | h1
  ·exact HG.out x h1
  ·exact aZ a6.out.size h1
 ·have:=a2.out.put 0 (.slice A3 (l.length+1) a0)
  rw[aF];exact this
 ·rw[List.map_append]
  exact ai.kept ((Fr.refl [g] w3).setCell (p:=⟨g,0,none⟩) (Or.inl (by simp)) _) (fun x J h1=>by rw[aD]at h1;rw[h1]at J;exact ak J)
theorem aNP(w0:World)(g:Nat):pX 289 290 g w0 (IT w0 g) where
 lt:=fun {F evs w} h x hx=>by
  obtain⟨A,cap,rfl,hb,hs⟩:=h.x
  rcases aM.1 hx with e | e
  ·rw[e];exact hb.lt
  ·exact hs.lt x e
 ge:=fun h=>h.ge
 be:=fun h=>h.be
 kept:=fun h f J Y=>TS.kept h f J Y
 num:=fun k h _=>aOY k h
 txt:=fun s h hl=>aOy s h hl
end re
set_option maxRecDepth 100000
namespace re
open RowKit Shelf mem sy vx vr po inn
abbrev tx(s:ByteArray):List UInt8:=s.data.toList
def sQ(m:List (List UInt8))(st:List UInt8×Int)(s:ByteArray):List UInt8×Int:=if st.2=0∧tx s∉m then(st.1,7) else st
def aB9(m:List (List UInt8))(st:List UInt8×Int)(s:ByteArray):List UInt8×Int:=iX (sQ m st s) (if tx s∈m then(m.idxOf (tx s):Nat) else 0:Nat)
def yQ(m:List (List UInt8))(st:List UInt8×Int):Ev→List UInt8×Int
 | .n k=>iX st k
 | .t s=>aB9 m st s
def fM(m:List (List UInt8))(J:List Ev):List UInt8×Int:=J.foldl (yQ m) ([],0)
theorem aEP(st:List UInt8×Int)(k:Int):(iX st k).1.length≤st.1.length+5:=by
 unfold iX;split
 ·omega
 ·split
  ·dsimp only;omega
  ·rw[aF]
   have:=iM k.toNat (by omega)
   omega
theorem aA6(m:List (List UInt8))(st:List UInt8×Int)(s:ByteArray):(sQ m st s).1.length=st.1.length:=by
 unfold sQ;split <;> rfl
theorem aIr(m:List (List UInt8))(st:List UInt8×Int)(e:Ev):(yQ m st e).1.length≤st.1.length+5:=by
 cases e with
 | n k=>exact aEP st k
 | t s=>
  show(iX _ _).1.length≤_
  have:=aEP (sQ m st s) (if tx s∈m then(m.idxOf (tx s):Nat) else 0:Nat)
  rw[aA6]at this;exact this
theorem uZ(m:List (List UInt8))(J:List Ev)(e:Ev):fM m (J++[e])=yQ m (fM m J) e:=by
 unfold fM;rw[List.foldl_append];rfl
theorem aCu(m:List (List UInt8)):∀(J:List Ev) (st:List UInt8×Int),(J.foldl (yQ m) st).1.length≤st.1.length+5 * J.length
 | [],st=>by simp
 | e :: l,st=>by
  have Y:=aCu m l (yQ m st e);have h2:=aIr m st e;rw[List.foldl_cons,aG];omega
theorem mW(m:List (List UInt8))(J:List Ev):(fM m J).1.length≤5 * J.length:=by
 have h:=aCu m J ([],0);unfold fM
 simpa using h
structure WS(w0:World)(g pb:Nat)(F:List Nat)(st:List UInt8×Int)(w:World):Prop where
 be:Below w0.heap.size w0 w
 ge:∀x∈F,w0.heap.size≤x
 x:∃A cap,F=g :: blk A∧WX 127 [.pointer (some ⟨pb,0,none⟩),.int .i64 st.2] w g A cap (st.1,0)
theorem WS.kept{w0:World}{g pb:Nat}{F G:List Nat}{st:List UInt8×Int}{w w':World}(h:WS w0 g pb F st w)(f:Fr G w w')(Y:∀x∈F,x∉G)(hG:∀x∈G,w0.heap.size≤x):WS w0 g pb F st w':=by
 obtain⟨A,cap,rfl,J⟩:=h.x;exact⟨fO h.be f hG,h.ge,A,cap,rfl,J.kept f (Y g (by simp)) (fun x J=>Y x (by simp[J]))⟩
theorem WS.lt{w0:World}{g pb:Nat}{F:List Nat}{st:List UInt8×Int}{w:World}(h:WS w0 g pb F st w):∀x∈F,x<w.heap.size:=fun x Y=>by
 obtain⟨A,cap,rfl,J⟩:=h.x
 rcases aM.1 Y with e | e
 ·rw[e];exact J.box.lt
 ·exact J.seg.lt x e
theorem WS.cells{w0:World}{g pb:Nat}{F:List Nat}{st:List UInt8×Int}{w:World}(h:WS w0 g pb F st w):w.cell? ⟨g,2,none⟩=some (.pointer (some ⟨pb,0,none⟩))∧w.cell? ⟨g,3,none⟩=some (.int .i64 st.2)∧w.frozen? ⟨g,3,none⟩=false:=by
 obtain⟨A,cap,rfl,J⟩:=h.x;exact⟨J.box.cell 2,J.box.cell 3,J.box.free 3⟩
theorem WS.err{w0:World}{g pb:Nat}{F:List Nat}{st:List UInt8×Int}{w:World}(h:WS w0 g pb F st w)(e:Int):WS w0 g pb F (st.1,e) (w.setCell ⟨g,3,none⟩ (.int .i64 e))∧Fr F w (w.setCell ⟨g,3,none⟩ (.int .i64 e)):=by
 obtain⟨A,cap,rfl,J⟩:=h.x;have f1:Fr [g] w (w.setCell ⟨g,3,none⟩ (.int .i64 e)):=(Fr.refl [g] w).setCell (p:=⟨g,3,none⟩) (Or.inl (by simp)) _
 have f2:Fr (g :: blk A) w (w.setCell ⟨g,3,none⟩ (.int .i64 e)):=(Fr.refl (g :: blk A) w).setCell (p:=⟨g,3,none⟩) (Or.inl (by simp)) _
 refine⟨⟨fO h.be f2 h.ge,h.ge,A,cap,rfl,?_,?_,J.ne⟩,f2⟩
 ·have:=J.box.put 3 (.int .i64 e)
  exact this
 ·exact J.seg.kept f1 (fun x hx Y=>by rw[aD]at Y;rw[Y]at hx;exact J.nf hx)
def WP(w0:World)(g pb:Nat)(F:List Nat)(st:List UInt8×Int)(w:World)(e:Ending)(w':World):Prop:=e=.returned (.tuple #[])∧∃J,WS w0 g pb J st w'∧Fr F w w'∧∀x∈J,x∈F∨w.heap.size≤x
theorem w_num{w0:World}{g pb:Nat}{F:List Nat}{st:List UInt8×Int}{w:World}(k:Int)(h:WS w0 g pb F st w)(hl:st.1.length≤100000000) :
 Calls Tryz.prog 291 #[.pointer (some ⟨g,0,none⟩),.int .i64 k] w (WP w0 g pb F (iX st k) w):=by
 obtain⟨c2,c3,f3⟩:=h.cells;have H:=hid h;obtain⟨S,E⟩:=st;dsimp only at c3 hl;unfold iX;dsimp only;clear h
 by_cases hE:E=0
 ·subst hE
  rw[if_neg (by simp)]
  by_cases hk:k<0∨268435456<k
  ·rw[if_pos hk]
   have HX:=hid (H.out.err 2);have hn:Hid (∀x∈F,x∈F∨w.heap.size≤x):=hid (fun x Y=>Or.inl Y)
   have a4:(w.setCell ⟨g,3,none⟩ (.int .i64 2)).cell? ⟨g,3,none⟩=some (.int .i64 2):=HX.out.1.cells.2.1
   by_cases J:k<0
   ·have d1:decide (k<0)=true:=aC J
    go_enter Tryz.func291,Tryz.ntmps291;go_wp2_with fail
    go_end0
    exact⟨rfl,F,HX.out.1,HX.out.2,hn.out⟩
   ·have d1:decide (k<0)=false:=aB J
    have d2:decide (268435456<k)=true:=aC (by omega)
    go_enter Tryz.func291,Tryz.ntmps291;go_wp2_with fail
    go_end0
    exact⟨rfl,F,HX.out.1,HX.out.2,hn.out⟩
  ·rw[if_neg hk]
   have d1:decide (k<0)=false:=aB (by omega)
   have d2:decide (268435456<k)=false:=aB (by omega)
   obtain⟨A,cap,rfl,hw⟩:=H.out.x;have K:=hid (aC4 w g A cap (S,0) k hw hl);have hp:Hid (iX (S,0) k=(S++nb k.toNat,0)):=hid (by unfold iX;rw[if_neg (by simp),if_neg hk])
   rw[hp.out]at K;clear hw hk hp;go_enter Tryz.func291,Tryz.ntmps291;go_wp2_with fail;refine K.out.mono ?_;rintro e w1 ⟨rfl,A1,a0,x1,fr1,a2⟩;have X1:=hid x1;have a3:=hid fr1;have a1:=hid a2;clear x1 fr1 a2 K;go_wp2_with fail
   go_end0
   refine⟨rfl,g :: blk A1,⟨fO H.out.be a3.out H.out.ge,fun x Y=>?_,A1,a0,rfl,X1.out⟩,a3.out,fun x Y=>?_⟩
   ·rcases aM.1 Y with e | e
    ·exact H.out.ge x (by simp[e])
    ·rcases a1.out x e with J | J
     ·exact H.out.ge x (by simp[J])
     ·exact aZ H.out.be.size J
   ·rcases aM.1 Y with e | e
    ·exact Or.inl (by simp[e])
    ·rcases a1.out x e with J | J
     ·exact Or.inl (by simp[J])
     ·exact Or.inr J
 ·rw[if_pos hE]
  have d0:(E==0)=false:=by simpa using hE
  have hn:Hid (∀x∈F,x∈F∨w.heap.size≤x):=hid (fun x Y=>Or.inl Y)
  go_enter Tryz.func291,Tryz.ntmps291;go_wp2_with fail
  go_end0
  exact⟨rfl,F,H.out,Fr.refl _ _,hn.out⟩
theorem aOJ{w0:World}{g pb:Nat}{pA:Option Addr}{pc:Nat}{m:List (List UInt8)}(hp:Pl w0 pb pA pc m)(hs:m.Pairwise (fun a b=>a<b))(hm:m.length≤1000000){F:List Nat}{st:List UInt8×Int}{w:World}(s:ByteArray)(h:WS w0 g pb F st w)(hl:st.1.length≤100000000) :
 Calls Tryz.prog 292 #[.pointer (some ⟨g,0,none⟩),.string s] w (WP w0 g pb F (aB9 m st s) w):=by
 obtain⟨c2,c3,f3⟩:=h.cells;have KP:=hid (aJN w pb pA pc m (tx s) (hp.below h.be) hs hm);have H:=hid h;have HG:=hid h.ge;unfold aB9;obtain⟨ix,a3⟩:∃i,Hid (i=if tx s∈m then m.idxOf (tx s) else 0):=⟨_,hid rfl⟩
 obtain⟨T,hT⟩:∃T,Hid (T=sQ m st s):=⟨_,hid rfl⟩;have e1:Hid (((if tx s∈m then(m.idxOf (tx s):Nat) else 0:Nat):Int)=(ix:Int)):=hid (by rw[a3.out])
 rw[←hT.out];have a5:T.1.length≤100000000:=by rw[hT.out,aA6];exact hl
 unfold pnV at KP;rw[←a3.out]at KP ⊢;have es:encStr (tx s)=.string s:=rfl;rw[es]at KP;have J:Hid (∀Y,Below w.heap.size w Y→WS w0 g pb F st Y∧Fr [] w Y):=hid (fun Y b=>⟨H.out.kept (Fr.of_below b []) (by simp) (by simp),Fr.of_below b []⟩)
 have KN:=hid (fun(Y:World) (x:WS w0 g pb F T Y)=>w_num (ix:Int) x a5)
 have a2:Hid (∀Y w2 w3 F',Fr [] w Y→Fr F Y w2→WS w0 g pb F' (iX T ix) w3→Fr F w2 w3→(∀x∈F',x∈F∨w2.heap.size≤x)→WP w0 g pb F (iX T ix) w (.returned (.tuple #[])) w3):=hid (fun Y w2 w3 F' h1 h2 h3 h4 h5=>by
  have a1:Fr F w w2:=h1.trans h2 (by simp) (fun x hx=>Or.inl hx)
  refine⟨rfl,F',h3,a1.trans h4 (fun x hx=>Or.inl hx) (fun x hx=>Or.inl hx),fun x hx=>?_⟩
  rcases h5 x hx with e | e
  ·exact Or.inl e
  ·exact Or.inr (aZ a1.size e))
 unfold WP at KN;clear h hp hs a3 e1
 by_cases hE:st.2=0
 ·rw[hE]at c3
  by_cases hx:tx s∈m
  ·have eT:T=st:=by rw[hT.out];unfold sQ;rw[if_neg (fun h=>h.2 hx)]
   rw[aC hx]at KP;clear hx hT;go_enter Tryz.func292,Tryz.ntmps292;go_wp2_with fail;refine KP.out.mono ?_;rintro e Y ⟨rfl,b1⟩;obtain⟨x1,y1⟩:=J.out _ b1;obtain⟨z2,z3,z4⟩:=x1.cells;have Y1:=hid y1;rw[hE]at z3;have K2:=hid (KN.out Y (by rw[eT];exact x1))
   clear x1 y1 b1 KN J KP c2 c3 f3 z4;go_wp2_with fail;refine K2.out.mono ?_;rintro e w3 ⟨rfl,F3,x3,f3,n3⟩;have X3:=hid x3;have a0:=hid f3;have N3:=hid n3;clear x3 f3 n3;go_wp2_with fail
   go_end0
   exact a2.out Y Y w3 F3 Y1.out (Fr.refl _ _) X3.out a0.out N3.out
  ·have eT:T=(st.1,7):=by rw[hT.out];unfold sQ;rw[if_pos ⟨hE,hx⟩]
   rw[aB hx]at KP;clear hx hT;go_enter Tryz.func292,Tryz.ntmps292;go_wp2_with fail;refine KP.out.mono ?_;rintro e Y ⟨rfl,b1⟩;obtain⟨x1,y1⟩:=J.out _ b1;obtain⟨z2,z3,z4⟩:=x1.cells;have Y1:=hid y1;rw[hE]at z3;have X2:=hid (x1.err 7);have K2:=hid (KN.out _ (by rw[eT];exact X2.out.1))
   clear x1 y1 b1 KN J KP c2 c3 f3;go_wp2_with fail;refine K2.out.mono ?_;rintro e w3 ⟨rfl,F3,x3,f3,n3⟩;have X3:=hid x3;have a0:=hid f3;have N3:=hid n3;clear x3 f3 n3;go_wp2_with fail
   go_end0
   exact a2.out Y _ w3 F3 Y1.out X2.out.2 X3.out a0.out N3.out
 ·have eT:T=st:=by rw[hT.out];unfold sQ;rw[if_neg (fun h=>hE h.1)]
  have d0:(st.2==0)=false:=by simpa using hE
  obtain⟨bx,a4⟩:∃b,b=decide (tx s∈m):=⟨_,rfl⟩;rw[←a4]at KP;clear hT a4;go_enter Tryz.func292,Tryz.ntmps292;go_wp2_with fail;refine KP.out.mono ?_;rintro e Y ⟨rfl,b1⟩;obtain⟨x1,y1⟩:=J.out _ b1;obtain⟨z2,z3,z4⟩:=x1.cells;have Y1:=hid y1;have K2:=hid (KN.out Y (by rw[eT];exact x1))
  clear x1 y1 b1 KN J KP c2 c3 f3 z4;go_wp2_with fail;refine K2.out.mono ?_;rintro e w3 ⟨rfl,F3,x3,f3,n3⟩;have X3:=hid x3;have a0:=hid f3;have N3:=hid n3;clear x3 f3 n3;go_wp2_with fail
  go_end0
  exact a2.out Y Y w3 F3 Y1.out (Fr.refl _ _) X3.out a0.out N3.out
def IW(w0:World)(g pb:Nat)(m:List (List UInt8))(F:List Nat)(J:List Ev)(w:World):Prop:=WS w0 g pb F (fM m J) w
theorem aNk{w0:World}{pb:Nat}{pA:Option Addr}{pc:Nat}{m:List (List UInt8)}(g:Nat)(hp:Pl w0 pb pA pc m)(hs:m.Pairwise (fun a b=>a<b))(hm:m.length≤1000000):pX 291 292 g w0 (IW w0 g pb m) where
 lt:=fun h=>WS.lt h
 ge:=fun h=>WS.ge h
 be:=fun h=>WS.be h
 kept:=fun h f h1 h2=>WS.kept h f h1 h2
 num:=fun {F evs w} k h hl=>(w_num k h (by have:=mW m evs;unfold MX at hl;omega)).mono fun e w' ⟨Y,J,a,b,c⟩=>⟨Y,J,by unfold IW;rw[uZ];exact a,b,c⟩
 txt:=fun {F evs w} s h hl=>(aOJ hp hs hm s h (by have:=mW m evs;unfold MX at hl;omega)).mono fun e w' ⟨Y,J,a,b,c⟩=>⟨Y,J,by unfold IW;rw[uZ];exact a,b,c⟩
end re
set_option maxRecDepth 100000
namespace re
open RowKit Shelf mem vr po
structure PD(w0:World)(r:Nat)(s:ByteArray)(p:Nat)(er:Int)(w:World):Prop where
 rd:RD w r s p er
 be:Below w0.heap.size w0 w
 ge:w0.heap.size≤r
def cK(er:Int):Bool:=er != 0&&er != 6
def uD(r pb:Nat):Value:=.agg #[.pointer (some ⟨r,0,none⟩),.pointer (some ⟨pb,0,none⟩)]
def PP(w0:World)(r:Nat)(s:ByteArray)(v:Value)(p:Nat)(er:Int)(w:World)(e:Ending)(w':World):Prop:=e=.returned v∧PD w0 r s p er w'∧Fr [r] w w'
section
variable {w0:World} {r pb:Nat} {s:ByteArray} {p:Nat} {er:Int}
theorem PD.lt{w:World}(h:PD w0 r s p er w):r<w.heap.size:=h.rd.box.lt
theorem PD.of{w w':World}{q:Nat}{Y:Int}(h:PD w0 r s p er w)(f:Fr [r] w w')(x:RD w' r s q Y):PD w0 r s q Y w':=
 ⟨x,h.be.trans (f.below (fun g J=>by rw[aD]at J;rw[J];exact h.ge) h.be.size),h.ge⟩
theorem PD.alloc{w:World}(h:PD w0 r s p er w)(o:Obj):PD w0 r s p er (w.alloc o):=h.of ((Fr.refl [r] w).alloc o) ⟨h.rd.box.kept ((Fr.refl [] w).alloc o) (by simp)⟩
theorem mI{w:World}(h:PD w0 r s p er w) :
 Calls Tryz.prog 157 #[uD r pb] w (PP w0 r s (.bool (cK er)) p er w):=by
 have hW:=h.alloc (.cells #[.pointer (some ⟨r,0,none⟩),.pointer (some ⟨pb,0,none⟩)] 141);have B:=bT.new w 141 #[.pointer (some ⟨r,0,none⟩),.pointer (some ⟨pb,0,none⟩)];obtain⟨W,Y⟩:∃W,Hid (W=w.alloc (.cells #[.pointer (some ⟨r,0,none⟩),.pointer (some ⟨pb,0,none⟩)] 141)):=⟨_,hid rfl⟩;have hf:Hid (Fr [r] w W):=hid (by rw[Y.out];exact(Fr.refl [r] w).alloc _)
 rw[←Y.out]at hW B;have K:=hid (rQ W r s p er hW.rd);have HW:=hid hW;have J:Hid (∀w2,RD w2 r s p er→Fr [r] W w2→PP w0 r s (.bool (cK er)) p er w (.returned (.bool (cK er))) w2):=hid (fun w2 x f=>⟨rfl,HW.out.of f x,hf.out.trans f (fun x hx=>Or.inl hx) (fun x hx=>Or.inl hx)⟩)
 have x0:W.cell? ⟨w.heap.size,0,none⟩=some (.pointer (some ⟨r,0,none⟩)):=B.cell 0
 have hv:Hid (cK er=(dE s p er != 0&&dE s p er != 6)):=hid (by
  unfold cK dE
  by_cases he:er=0
  ·subst he
   by_cases hp:p<s.size <;> simp[hp]
  ·rw[if_neg (fun h=>he h.1)])
 rw[hv.out]at J ⊢;unfold jS at K;clear hW B h HW hf hv;unfold uD;generalize dE s p er=d at *;go_enter Tryz.func157,Tryz.ntmps157;go_upto_region 1 with fail;rw[←Y.out];clear Y;generalize w.heap.size=bm at *;go_wp2_with fail;refine K.out.mono ?_;rintro e w2 ⟨rfl,x2,f2⟩;have H2:=hid (J.out w2 x2 f2);clear x2 f2 K x0 J
 by_cases h0:d=0
 ·subst h0
  go_wp2_with fail;go_ret;exact H2.out
 ·have d0:(d != 0)=true:=by simpa using h0
  by_cases h6:d=6
  ·subst h6
   go_wp2_with fail;go_ret;exact H2.out
  ·have d6:(d != 6)=true:=by simpa using h6
   have e3:Hid ((d != 0&&d != 6)=true):=hid (by rw[d0,d6];rfl)
   go_wp2_with fail;go_ret;have h:=H2.out;rw[e3.out]at h ⊢;exact h
def tN(m:List (List UInt8))(s:ByteArray)(p:Nat)(er:Int):Int:=if nV s p er<m.length then nE s p er else fE (nE s p er) 2
def tT(m:List (List UInt8))(s:ByteArray)(p:Nat)(er:Int):ByteArray:=if cK (tN m s p er) then⟨#[]⟩ else(m[nV s p er]?.map fun x=>ByteArray.mk x.toArray).getD ⟨#[]⟩
theorem gF{pA:Option Addr}{pc:Nat}{m:List (List UInt8)}{w:World}(hp:Pl w0 pb pA pc m)(hm:m.length≤1000000)(hs:s.size≤maxLen)(a7:p≤s.size)(h:PD w0 r s p er w) :
 Calls Tryz.prog 95 #[uD r pb] w (PP w0 r s (.string (tT m s p er)) (nP s p er) (tN m s p er) w):=by
 have hW:=h.alloc (.cells #[.pointer (some ⟨r,0,none⟩),.pointer (some ⟨pb,0,none⟩)] 141);have B:=bT.new w 141 #[.pointer (some ⟨r,0,none⟩),.pointer (some ⟨pb,0,none⟩)];obtain⟨W,a2⟩:∃W,Hid (W=w.alloc (.cells #[.pointer (some ⟨r,0,none⟩),.pointer (some ⟨pb,0,none⟩)] 141)):=⟨_,hid rfl⟩;have hf:Hid (Fr [r] w W):=hid (by rw[a2.out];exact(Fr.refl [r] w).alloc _)
 have a4:w.heap.size≠r:=by have:=h.lt;omega
 rw[←a2.out]at hW B;have K:=hid (gY W r s p er hW.rd hs a7);have HW:=hid hW;have HB:=hid B;have x0:W.cell? ⟨w.heap.size,0,none⟩=some (.pointer (some ⟨r,0,none⟩)):=B.cell 0;have HP:Hid (∀w1,PD w0 r s (nP s p er) (nE s p er) w1→Pl w1 pb pA pc m):=hid (fun w1 x=>hp.below x.be)
 have HC:Hid (∀w1,Fr [r] W w1→w1.cell? ⟨w.heap.size,0,none⟩=some (.pointer (some ⟨r,0,none⟩))∧w1.cell? ⟨w.heap.size,1,none⟩=some (.pointer (some ⟨pb,0,none⟩))):=hid (fun w1 f=>⟨(HB.out.kept f (by simpa using a4)).cell 0,(HB.out.kept f (by simpa using a4)).cell 1⟩)
 have HT:=hid (fun a b c (f:Fr [r] a b) (k:Fr [r] b c)=>f.trans (G:=[r]) k (fun x hx=>Or.inl hx) (fun x hx=>Or.inl hx))
 have HN:Hid (nE s p er=nE s p er):=hid rfl;unfold jS at K;have HO:=hid (fun(a b:World) (q:Nat) (e1 e2:Int) (x:PD w0 r s q e1 a) (f:Fr [r] a b) (y:RD b r s q e2)=>x.of f y)
 have a6:Hid (∀w2,RD w2 r s (nP s p er) (nE s p er)→Fr [r] W w2→PD w0 r s (nP s p er) (nE s p er) w2):=hid (fun w2 x f=>hW.of f x)
 obtain⟨V,hV⟩:∃V,Hid (V=tT m s p er):=⟨_,hid rfl⟩;obtain⟨E,hE⟩:∃E,Hid (E=tN m s p er):=⟨_,hid rfl⟩
 have a3:Hid (∀h:nV s p er<m.length,E=nE s p er∧(cK (nE s p er)=false→V=ByteArray.mk (m[nV s p er]).toArray)∧(cK (nE s p er)=true→V=⟨#[]⟩)):=hid (fun h=>by
  have h1:E=nE s p er:=by rw[hE.out];unfold tN;rw[if_pos h]
  refine⟨h1,fun hb=>?_,fun hb=>?_⟩
  ·rw[hV.out];unfold tT;rw[←hE.out,h1,hb,aN h];rfl
  ·rw[hV.out];unfold tT;rw[←hE.out,h1,hb];rfl)
 have a5:Hid (¬nV s p er<m.length→E=fE (nE s p er) 2∧V=⟨#[]⟩):=hid (fun h=>by
  refine⟨by rw[hE.out];unfold tN;rw[if_neg h],?_⟩
  rw[hV.out];unfold tT;rw[List.getElem?_eq_none (by omega)]
  split <;> rfl)
 rw[←hV.out,←hE.out];clear hW B h HW hp HN hV hE;generalize nP s p er=p1 at *;generalize nE s p er=e1 at *;generalize nV s p er=n at *;unfold uD;go_enter Tryz.func95,Tryz.ntmps95;go_upto_region 1 with fail;rw[←a2.out];clear a2 HB a4;generalize w.heap.size=bm at *;go_wp2_with fail;refine K.out.mono ?_;rintro e w2 ⟨rfl,x2,f2⟩;have D2:=hid (a6.out w2 x2 f2);have F2:=hid f2;obtain⟨c0,c1⟩:=HC.out w2 f2;have P2:=hid (HP.out w2 D2.out);clear x2 f2 K x0 a6
 by_cases hn:n<m.length
 ·have KA:=hid (aKX w2 pb pA pc m n P2.out hn (by omega))
  obtain⟨J,a1,a0⟩:=a3.out hn;have a1:=hid a1;have a0:=hid a0;have J:=hid J;have KW:=hid (mI (pb:=pb) D2.out);unfold uD PP at KW;unfold encStr at KA;clear P2 HP a3 a5;generalize ByteArray.mk m[n].toArray=y at *
  try clear hn
  go_wp2_with fail;refine KA.out.mono ?_;rintro e w3 ⟨rfl,rfl⟩;go_wp2_with fail;refine KW.out.mono ?_;rintro e w4 ⟨rfl,x4,f4⟩;have X4:=hid x4;have F4:=hid (HT.out _ _ _ hf.out (HT.out _ _ _ F2.out f4));clear x4 f4 KW KA
  rcases hb:cK e1 with _ | _
  ·have Y:=hid (a1.out hb)
   clear a1 a0;go_wp2_with fail;go_ret;exact⟨by rw[Y.out];rfl,by rw[J.out];exact X4.out,F4.out⟩
  ·have Y:=hid (a0.out hb)
   clear a1 a0;go_wp2_with fail;go_ret;exact⟨by rw[Y.out];rfl,by rw[J.out];exact X4.out,F4.out⟩
 ·have KA:=hid (aHc w2 pb pA pc m n P2.out (Or.inr (by omega)))
  obtain⟨J,Y⟩:=a5.out hn;have Y:=hid Y;have J:=hid J;have KF:=hid (uU w2 r s p1 e1 2 D2.out.rd);unfold jS at KF;clear hn P2 HP a3 a5;generalize fE e1 2=e2 at *;go_wp2_with fail;refine KA.out.mono ?_;rintro e w3 ⟨rfl,rfl⟩;go_wp2_with fail;refine KF.out.mono ?_;rintro e w3 ⟨rfl,x3,f3⟩;have D3:=hid (HO.out _ _ _ _ _ D2.out f3 x3);have F3:=hid (HT.out _ _ _ F2.out f3);obtain⟨a8,a9⟩:=HC.out w3 F3.out;have KW:=hid (mI (pb:=pb) D3.out);unfold uD PP at KW;clear x3 f3 KF KA c0 c1;go_wp2_with fail;refine KW.out.mono ?_;rintro e w4 ⟨rfl,x4,f4⟩;have X4:=hid x4;have F4:=hid (HT.out _ _ _ hf.out (HT.out _ _ _ F3.out f4));clear x4 f4 KW
  rcases hb:cK e2 with _ | _
  ·go_wp2_with fail
   go_ret;exact⟨by rw[Y.out];rfl,by rw[J.out];exact X4.out,F4.out⟩
  ·go_wp2_with fail
   go_ret;exact⟨by rw[Y.out];rfl,by rw[J.out];exact X4.out,F4.out⟩
end
end re
namespace re
open RowKit Shelf mem vr po
def dX{α:Type}(one:Nat→Int→α×Nat×Int):Nat→Nat→Int→List α×Nat×Int
 | 0,p,er=>([],p,er)
 | k+1,p,er=>if cK er then([],p,er) else((one p er).1 :: (dX one k (one p er).2.1 (one p er).2.2).1,(dX one k (one p er).2.1 (one p er).2.2).2)
def eL(s:ByteArray)(p:Nat)(er:Int):Int:=if 6000<nV s p er then fE (nE s p er) 4 else nE s p er
def dA{α:Type}(one:Nat→Int→α×Nat×Int)(s:ByteArray)(p:Nat)(er:Int):List α×Nat×Int:=dX one (nV s p er) (nP s p er) (eL s p er)
def fG(m:List (List UInt8))(s:ByteArray)(p:Nat)(er:Int):ByteArray×Nat×Int:=(tT m s p er,nP s p er,tN m s p er)
structure LS(w0:World)(r:Nat)(s:ByteArray)(p:Nat)(er:Int)(W:World)(e:TypeId)(A:Option Addr)(cap:Nat)(xs:List Value)(w:World):Prop where
 pd:PD w0 r s p er w
 fr:Fr [r] W w
 seg:Seg w e A cap xs
 nw:∀x∈blk A,W.heap.size≤x
section
variable {w0:World} {r pb:Nat} {s:ByteArray} {p:Nat} {er:Int}
theorem LS.read{W w w2:World}{e:TypeId}{A:Option Addr}{cap:Nat}{xs:List Value}{q:Nat}{e2:Int}(h:LS w0 r s p er W e A cap xs w)(Y:e≠196)(x:PD w0 r s q e2 w2)(f:Fr [r] w w2):LS w0 r s q e2 W e A cap xs w2:=
 ⟨x,h.fr.trans f (fun x J=>Or.inl J) (fun x J=>Or.inl J),h.seg.kept f (fun x J h1=>by
  rw[aD]at h1;rw[h1]at J
  exact h.seg.ne_box h.pd.rd.box Y J),h.nw⟩
theorem LS.push{W w w3:World}{o:Obj}{e:TypeId}{A A3:Option Addr}{cap Y:Nat}{xs ys:List Value}(h:LS w0 r s p er W e A cap xs w)(a0:e≠196)(h0:w0.heap.size≤W.heap.size)(s3:Seg w3 e A3 Y ys)(f3:Fr (blk A) (w.alloc o) w3)(b3:blk A3=blk A∨blk A3=[(w.alloc o).heap.size]):LS w0 r s p er W e A3 Y ys w3:=by
 have hr:r∉blk A:=h.seg.ne_box h.pd.rd.box a0;have f4:Fr (blk A) w w3:=((Fr.refl [] w).alloc o).trans f3 (by simp) (fun x J=>Or.inl J)
 have f5:Fr [r] W w3:=h.fr.trans f4 (fun x J=>Or.inl J) (fun x J=>Or.inr (h.nw x J))
 refine⟨⟨⟨h.pd.rd.box.kept f4 hr⟩,fO h.pd.be f4 (fun x J=>aZ h0 (h.nw x J)),h.pd.ge⟩,f5,s3,fun x J=>?_⟩
 rcases b3 with e1 | e1
 ·rw[e1]at J;exact h.nw x J
 ·rw[e1,aD]at J
  rw[J];exact aZ h.fr.size ((Fr.refl [] w).alloc o).size
end
end re
set_option maxRecDepth 100000
namespace re
open RowKit Shelf mem vr po
theorem eB(s:ByteArray)(p:Nat)(er:Int)(J:p≤s.size):nP s p er≤s.size:=by
 unfold nP;split
 ·exact J
 ·exact aGJ s p J
def LP(w0:World)(r:Nat)(s:ByteArray)(e:TypeId)(n:Nat)(xs:List Value)(q:Nat)(eq:Int)(w:World)(J:Ending)(w':World):Prop:=∃A cap,J=.returned (.slice A n cap)∧Seg w' e A cap xs∧PD w0 r s q eq w'∧Fr [r] w w'∧∀x∈blk A,w.heap.size≤x
theorem LS.end_{w0:World}{r:Nat}{s:ByteArray}{p:Nat}{er:Int}{w W Y:World}{o:Obj}{e:TypeId}{A:Option Addr}{cap:Nat}{xs:List Value}{n:Nat}(h:LS w0 r s p er W e A cap xs Y)(hW:W=w.alloc o):LP w0 r s e n xs p er w (.returned (.slice A n cap)) Y:=by
 subst hW;exact⟨A,cap,rfl,h.seg,h.pd,((Fr.refl [] w).alloc o).trans h.fr (by simp) (fun x J=>Or.inl J),fun x J=>aZ ((Fr.refl [] w).alloc o).size (h.nw x J)⟩
theorem aD9{w0:World}{r pb:Nat}{s:ByteArray}{p:Nat}{er:Int}{pA:Option Addr}{pc:Nat}{m:List (List UInt8)}{w:World}(hp:Pl w0 pb pA pc m)(hm:m.length≤1000000)(hs:s.size≤maxLen)(ah:p≤s.size)(h:PD w0 r s p er w)(h6:nV s p er≤6000∨cK (eL s p er)=true) :
 Calls Tryz.prog 96 #[uD r pb,.func (.func 95) #[uD r pb] #[]] w (LP w0 r s 9 (dA (fG m s) s p er).1.length ((dA (fG m s) s p er).1.map Value.string) (dA (fG m s) s p er).2.1 (dA (fG m s) s p er).2.2 w):=by
 have hW:=h.alloc (.cells #[.pointer (some ⟨r,0,none⟩),.pointer (some ⟨pb,0,none⟩)] 141);have B:=bT.new w 141 #[.pointer (some ⟨r,0,none⟩),.pointer (some ⟨pb,0,none⟩)];obtain⟨W,aa⟩:∃W,Hid (W=w.alloc (.cells #[.pointer (some ⟨r,0,none⟩),.pointer (some ⟨pb,0,none⟩)] 141)):=⟨_,hid rfl⟩;have ai:w.heap.size≠r:=by have:=h.lt;omega
 have a3:Hid (∀(J:World) A cap (xs:List Value) n q e,LS w0 r s q e W 9 A cap xs J→LP w0 r s 9 n xs q e w (.returned (.slice A n cap)) J):=hid (fun J A cap xs n q e x=>x.end_ aa.out)
 rw[←aa.out]at hW B;have ay:Hid (w0.heap.size≤W.heap.size):=hid hW.be.size;have HB:Hid (∀J,Fr [r] W J→J.cell? ⟨w.heap.size,0,none⟩=some (.pointer (some ⟨r,0,none⟩))∧J.cell? ⟨w.heap.size,1,none⟩=some (.pointer (some ⟨pb,0,none⟩))):=hid (fun J f=>⟨(B.kept f (by simpa using ai)).cell 0,(B.kept f (by simpa using ai)).cell 1⟩)
 have x0:W.cell? ⟨w.heap.size,0,none⟩=some (.pointer (some ⟨r,0,none⟩)):=B.cell 0;have K:=hid (gY W r s p er hW.rd hs ah);have av:Hid (∀J,RD J r s (nP s p er) (nE s p er)→Fr [r] W J→LS w0 r s (nP s p er) (nE s p er) W 9 none 0 [] J):=hid (fun J x f=>⟨hW.of f x,f,Seg.nil _ _,fun q hq=>by cases hq⟩)
 have HT:=hid (fun(J:World) (q:Nat) (e:Int) (hq:q≤s.size) (x:PD w0 r s q e J)=>gF (pb:=pb) hp hm hs hq x)
 have a9:=hid (fun(J:World) (q:Nat) (e:Int) (x:PD w0 r s q e J)=>mI (pb:=pb) x)
 have a7:=hid (eB s p er ah);obtain⟨R,hR⟩:∃R,Hid (R=dA (fG m s) s p er):=⟨_,hid rfl⟩;rw[←hR.out];have a8:Hid (R=dX (fG m s) (nV s p er) (nP s p er) (eL s p er)):=hid hR.out;have af:Hid (eL s p er=if 6000<nV s p er then fE (nE s p er) 4 else nE s p er):=hid rfl
 unfold jS at K;unfold PP at HT a9;have a6:=hid h6;clear hW B h hp hm hs ah ai hR h6;generalize nP s p er=p1 at *;generalize nE s p er=e1 at *;generalize nV s p er=n at *;generalize eL s p er=e2 at *;obtain⟨i0,am,aj,aw,ar⟩:=aDe;have Hi:=hid am;have b3:=hid aj;have b2:=hid aw;have az:=hid ar;clear am aj aw ar;unfold uD at HT a9 ⊢;go_enter Tryz.func96,Tryz.ntmps96;go_upto_region 1 with fail;rw[←aa.out];clear aa;generalize w.heap.size=bx at *;go_wp2_with fail;refine K.out.mono ?_;rintro e J ⟨rfl,x2,f2⟩;have L2:=hid (av.out J x2 f2);obtain⟨c0,c1⟩:=HB.out J f2;clear x2 f2 K x0 av;have ak:=hid L2.out.pd
 by_cases h6:6000<n
 ·have d6:decide (6000<(n:Int))=true:=aC (by omega)
  have ae:e2=fE e1 4:=by rw[af.out,if_pos h6]
  have KF:=hid (uU J r s p1 e1 4 L2.out.pd.rd);rw[←ae]at KF;unfold jS at KF;clear af ae;go_wp2_with fail;refine KF.out.mono ?_;rintro e w3 ⟨rfl,x3,f3⟩;have L3:=hid (L2.out.read (by decide) (L2.out.pd.of f3 x3) f3)
  clear x3 f3 KF c0 c1 L2 ak;have a2:Hid (LS w0 r s p1 e2 W 9 none 0 (([]:List ByteArray).map Value.string) w3):=L3;have a5:Hid (R=([]++(dX (fG m s) (n-0) p1 e2).1,(dX (fG m s) (n-0) p1 e2).2)):=hid a8.out;clear L3 a8;obtain⟨c0,c1⟩:=HB.out w3 a2.out.fr;go_wp2_with fail
  go_loopw [6,7] (fun v i wr=>∃(k:Nat) (A:Option Addr) (cap:Nat) (xs:List ByteArray) (q:Nat) (eq:Int),k≤n∧i=.int .i64 k∧v=.slice A xs.length cap∧xs.length≤k∧Hid (LS w0 r s q eq W 9 A cap (xs.map Value.string) wr)∧Hid (q≤s.size)∧Hid (n≤6000∨cK eq=true)∧Hid (R=(xs++(dX (fG m s) (n-k) q eq).1,(dX (fG m s) (n-k) q eq).2))) (fun _ i _=>n-(intOf i).toNat)
  case atStart=>exact⟨0,none,0,[],p1,e2,by omega,rfl,rfl,by simp,a2,a7,a6,a5⟩
  case round=>
   obtain⟨k,A,cap,xs,q,eq,hk,rfl,rfl,b5,HL,hq,hh,a0⟩:=hrel;clear a2 a5 c0 c1 a6 a7;obtain⟨c0,c1⟩:=HB.out wr HL.out.fr
   by_cases b1:k<n
   ·have d1:decide ((k:Int)<(n:Int))=true:=aC (by omega)
    have KW:=hid (a9.out wr q eq HL.out.pd);obtain⟨j,hj⟩:∃j,n-k=j+1:=⟨n-k-1,by omega⟩
    have a4:n-(k+1)=j:=by omega
    rcases hb:cK eq with _ | _
    ·rw[hb]at KW
     have ao:n≤6000:=by
      rcases hh.out with h1 | h1
      ·exact h1
      ·rw[hb]at h1;cases h1
     exact absurd h6 (by omega)
    ·rw[hb]at KW
     have Y:Hid (R=(xs,q,eq)):=hid (by
      rw[a0.out,hj]
      show(xs++(if cK eq then _ else _:List ByteArray×Nat×Int).1,(if cK eq then _ else _:List ByteArray×Nat×Int).2)=_
      rw[hb]
      simp)
     clear a0 hh hj a4;have a1:=hid (fun(w4:World) (x:PD w0 r s q eq w4) (f:Fr [r] wr w4)=>HL.out.read (by decide) x f)
     go_wp2_with fail;refine KW.out.mono ?_;rintro e w4 ⟨rfl,x4,f4⟩;have L4:=hid (a1.out w4 x4 f4);clear x4 f4 KW a1 HL;go_wp2_with fail;go_ret;rw[Y.out];exact a3.out _ _ _ _ _ _ _ L4.out
   ·obtain rfl:k=n:=by omega
    have d1:decide ((k:Int)<(k:Int))=false:=aB (by omega)
    have Y:Hid (R=(xs,q,eq)):=hid (by rw[a0.out,Nat.sub_self];simp[dX])
    go_wp2_with fail;go_ret;rw[Y.out];exact a3.out _ _ _ _ _ _ _ HL.out
 ·have d6:decide (6000<(n:Int))=false:=aB (by omega)
  have ae:e2=e1:=by rw[af.out,if_neg h6]
  subst ae;have L3:=L2;clear af c0 c1 L2 ak;have a2:Hid (LS w0 r s p1 e2 W 9 none 0 (([]:List ByteArray).map Value.string) J):=L3;have a5:Hid (R=([]++(dX (fG m s) (n-0) p1 e2).1,(dX (fG m s) (n-0) p1 e2).2)):=hid a8.out;clear L3 a8;obtain⟨c0,c1⟩:=HB.out J a2.out.fr;go_wp2_with fail
  go_loopw [6,7] (fun v i wr=>∃(k:Nat) (A:Option Addr) (cap:Nat) (xs:List ByteArray) (q:Nat) (eq:Int),k≤n∧i=.int .i64 k∧v=.slice A xs.length cap∧xs.length≤k∧Hid (LS w0 r s q eq W 9 A cap (xs.map Value.string) wr)∧Hid (q≤s.size)∧Hid (n≤6000∨cK eq=true)∧Hid (R=(xs++(dX (fG m s) (n-k) q eq).1,(dX (fG m s) (n-k) q eq).2))) (fun _ i _=>n-(intOf i).toNat)
  case atStart=>exact⟨0,none,0,[],p1,e2,by omega,rfl,rfl,by simp,a2,a7,a6,a5⟩
  case round=>
   obtain⟨k,A,cap,xs,q,eq,hk,rfl,rfl,b5,HL,hq,hh,a0⟩:=hrel;clear a2 a5 c0 c1 a6 a7;obtain⟨c0,c1⟩:=HB.out wr HL.out.fr
   by_cases b1:k<n
   ·have d1:decide ((k:Int)<(n:Int))=true:=aC (by omega)
    have KW:=hid (a9.out wr q eq HL.out.pd);obtain⟨j,hj⟩:∃j,n-k=j+1:=⟨n-k-1,by omega⟩
    have a4:n-(k+1)=j:=by omega
    rcases hb:cK eq with _ | _
    ·rw[hb]at KW
     have ao:n≤6000:=by
      rcases hh.out with h1 | h1
      ·exact h1
      ·rw[hb]at h1;cases h1
     have Y:Hid (R=((xs++[tT m s q eq])++(dX (fG m s) (n-(k+1)) (nP s q eq) (tN m s q eq)).1,(dX (fG m s) (n-(k+1)) (nP s q eq) (tN m s q eq)).2)):=hid (by
      rw[a0.out,hj,a4]
      show(xs++(if cK eq then _ else _:List ByteArray×Nat×Int).1,(if cK eq then _ else _:List ByteArray×Nat×Int).2)=_
      rw[hb]
      simp[fG])
     have b6:=hid (eB s q eq hq.out);clear a0 hh hj a4;have a1:=hid (fun(w4:World) (x:PD w0 r s q eq w4) (f:Fr [r] wr w4)=>HL.out.read (by decide) x f)
     go_wp2_with fail;refine KW.out.mono ?_;rintro e w4 ⟨rfl,x4,f4⟩;have L4:=hid (a1.out w4 x4 f4);have KT:=hid (HT.out w4 q eq hq.out x4);clear x4 f4 KW a1 HL;generalize tT m s q eq=y at *;go_wp2_with fail;refine KT.out.mono ?_;rintro e w5 ⟨rfl,x5,f5⟩;have L5:=hid (L4.out.read (by decide) x5 f5)
     clear x5 f5 KT L4 hq;generalize nP s q eq=q2 at *;generalize tN m s q eq=e3 at *
     go_wp2_with (at_builtin;refine dR rfl _ _ _ rfl (L5.out.seg.alloc _) (by rw[aH]) Tryz.underlying22 Hi.out b3.out b2.out az.out rfl rfl rfl (dI _ _ _) rfl (by omega) (by omega) ?_;intro A3 ag w6 au f6 ax;have L6:=hid (L5.out.push (by decide) ay.out au f6 ax);clear au f6 ax)
     have b4:Hid (LS w0 r s q2 e3 W 9 A3 ag ((xs++[y]).map Value.string) w6):=hid (by rw[List.map_append];exact L6.out)
     have ap:(xs++[y]).length=xs.length+1:=by simp
     go_roundw
     case rel=>exact⟨k+1,A3,ag,xs++[y],q2,e3,by omega,by go_num,by rw[ap],by omega,b4,b6,hid (Or.inl ao),Y⟩
     case measure=>simp[intOf];omega
    ·rw[hb]at KW
     have Y:Hid (R=(xs,q,eq)):=hid (by
      rw[a0.out,hj]
      show(xs++(if cK eq then _ else _:List ByteArray×Nat×Int).1,(if cK eq then _ else _:List ByteArray×Nat×Int).2)=_
      rw[hb]
      simp)
     clear a0 hh hj a4;have a1:=hid (fun(w4:World) (x:PD w0 r s q eq w4) (f:Fr [r] wr w4)=>HL.out.read (by decide) x f)
     go_wp2_with fail;refine KW.out.mono ?_;rintro e w4 ⟨rfl,x4,f4⟩;have L4:=hid (a1.out w4 x4 f4);clear x4 f4 KW a1 HL;go_wp2_with fail;go_ret;rw[Y.out];exact a3.out _ _ _ _ _ _ _ L4.out
   ·obtain rfl:k=n:=by omega
    have d1:decide ((k:Int)<(k:Int))=false:=aB (by omega)
    have Y:Hid (R=(xs,q,eq)):=hid (by rw[a0.out,Nat.sub_self];simp[dX])
    go_wp2_with fail;go_ret;rw[Y.out];exact a3.out _ _ _ _ _ _ _ HL.out
end re
namespace re
open RowKit Shelf mem vr po
theorem aDl:∀(l:List UInt8) (i n:Nat),(cntF i n l).2.2≤3
 | [],i,n=>by unfold cntF;simp
 | b :: l,i,n=>by
  unfold cntF;split
  ·simp
  ·split
   ·simp
   ·split
    ·simp
    ·first
     | exact aDl l _ _
     | (split
        ·simp
        ·exact aDl l _ _)
theorem rV(s:ByteArray)(p:Nat)(er:Int)(h:er≠6):nE s p er≠6:=by
 unfold nE;split
 ·exact h
 ·have:(ct s p).2.2≤3:=by unfold ct cnt;exact aDl _ _ _
  omega
theorem aMT(er d:Int)(h:er≠6)(hd:d≠6):fE er d≠6:=by
 unfold fE;split
 ·exact hd
 ·exact h
theorem lN(m:List (List UInt8))(s:ByteArray)(p:Nat)(er:Int)(h:er≠6):tN m s p er≠6:=by
 unfold tN;split
 ·exact rV s p er h
 ·exact aMT _ _ (rV s p er h) (by decide)
theorem vF(s:ByteArray)(p:Nat)(er:Int)(h:er≠6):eL s p er≠6:=by
 unfold eL;split
 ·exact aMT _ _ (rV s p er h) (by decide)
 ·exact rV s p er h
theorem aAm(er:Int)(h:er≠6):cK er=decide (er≠0):=by
 unfold cK
 by_cases h0:er=0
 ·subst h0;rfl
 ·simp[h0,h]
theorem uQ(s:ByteArray)(p:Nat)(er:Int)(h:er≠6):nV s p er≤6000∨cK (eL s p er)=true:=by
 by_cases Y:6000<nV s p er
 ·right
  rw[aAm _ (vF s p er h)];unfold eL fE;rw[if_pos Y];split
  ·rfl
  ·rename_i J
   simpa using J
 ·left;omega
end re
namespace re
open RowKit Shelf mem sy vr po
structure El(β:Type) where
 row:β→List Value
 bl:β→List Nat
 ok:World→β→Prop
structure El.Good{β:Type}(E:El β)(sz:Nat):Prop where
 pos:0<sz
 len:∀b,(E.row b).length=sz
 one:∀b,∀u∈E.row b,u.oneCell'=true
 kept:∀{w w':World} {F:List Nat} {b:β},E.ok w b→Fr F w w'→(∀x∈E.bl b,x∉F)→E.ok w' b
 lt:∀{w:World} {b:β},E.ok w b→∀x∈E.bl b,x<w.heap.size
structure Rdr(lo:Nat)(D:Nat→Int→World→Prop):Prop where
 kept:∀{q:Nat} {e:Int} {w w':World} {G:List Nat},D q e w→Fr G w w'→(∀x∈G,lo≤x)→D q e w'
theorem aDn(w0:World)(r:Nat)(s:ByteArray):Rdr (r+1) (PD w0 r s):=⟨by
 intro q e w w' G h f J
 exact⟨⟨h.rd.box.kept f (fun hr=>by have:=J r hr;omega)⟩,fO h.be f (fun x Y=>by have:=J x Y;have:=h.ge;omega),h.ge⟩⟩
structure kD{β:Type}(E:El β)(sz:Nat)(F:List Nat)(D:Nat→Int→World→Prop)(p:Nat)(er:Int)(W:World)(e:TypeId)(A:Option Addr)(cap:Nat)(xs:List β)(w:World):Prop where
 pd:D p er w
 fr:Fr F W w
 sg:Sg sz w e A cap xs.length (xs.flatMap E.row)
 nw:∀x∈blk A,W.heap.size≤x
 ok:∀b∈xs,E.ok w b∧∀x∈E.bl b,W.heap.size≤x∧x∉blk A
 hr:∀x∈F,x<W.heap.size
def OP{α β:Type}(E:El β)(J:β→α)(r:Nat)(D:Nat→Int→World→Prop)(a:α)(q:Nat)(eq:Int)(w:World)(Y:Ending)(w':World):Prop:=∃b,Y=.returned (.agg (E.row b).toArray)∧J b=a∧D q eq w'∧Fr [r] w w'∧E.ok w' b∧∀x∈E.bl b,w.heap.size≤x
def yO{α β:Type}(E:El β)(sz:Nat)(J:β→α)(r:Nat)(D:Nat→Int→World→Prop)(e:TypeId)(L:List α)(q:Nat)(eq:Int)(w:World)(Y:Ending)(w':World):Prop:=∃(A:Option Addr) (cap:Nat) (bs:List β),bs.map J=L∧Y=.returned (.slice A bs.length cap)∧Sg sz w' e A cap bs.length (bs.flatMap E.row)∧D q eq w'∧Fr [r] w w'∧(∀x∈blk A,w.heap.size≤x)∧∀b∈bs,E.ok w' b∧∀x∈E.bl b,w.heap.size≤x
section
variable {β:Type} {E:El β} {sz:Nat} {lo:Nat} {F:List Nat} {r:Nat} {D:Nat→Int→World→Prop} {p:Nat} {er:Int}
theorem kD.start{W w:World}{e:TypeId}(x:D p er w)(f:Fr F W w)(hr:∀x∈F,x<W.heap.size):kD E sz F D p er W e none 0 [] w:=
 ⟨x,f,Sg.new sz w e,fun x J=>(by cases J),fun b hb=>(by cases hb),hr⟩
theorem kD.read{W w w2:World}{e:TypeId}{A:Option Addr}{cap:Nat}{xs:List β}{q:Nat}{e2:Int}(G:E.Good sz)(h:kD E sz F D p er W e A cap xs w)(x:D q e2 w2)(f:Fr F w w2):kD E sz F D q e2 W e A cap xs w2:=by
 refine⟨x,h.fr.trans f (fun x J=>Or.inl J) (fun x J=>Or.inl J),h.sg.kept f (fun x J Y=>?_),h.nw,fun b hb=>⟨G.kept (h.ok b hb).1 f (fun x J Y=>?_),(h.ok b hb).2⟩,h.hr⟩
 ·have:=h.nw x J
  have:=h.hr x Y;omega
 ·have:=((h.ok b hb).2 x J).1
  have:=h.hr x Y;omega
theorem kD.push{W w w3:World}{o:Obj}{e:TypeId}{A A3:Option Addr}{cap Y:Nat}{xs:List β}{b:β}(R:Rdr lo D)(G:E.Good sz)(h:kD E sz F D p er W e A cap xs w)(h0:lo≤W.heap.size)(hb:E.ok w b)(hn:∀x∈E.bl b,W.heap.size≤x∧x∉blk A)(s3:Sg sz w3 e A3 Y (xs.length+1) (xs.flatMap E.row++E.row b))(f3:Fr (blk A) (w.alloc o) w3)(b3:blk A3=blk A∨blk A3=[(w.alloc o).heap.size]):kD E sz F D p er W e A3 Y (xs++[b]) w3:=by
 have f4:Fr (blk A) w w3:=((Fr.refl [] w).alloc o).trans f3 (by simp) (fun x J=>Or.inl J)
 have f5:Fr F W w3:=h.fr.trans f4 (fun x J=>Or.inl J) (fun x J=>Or.inr (h.nw x J))
 have hz:(w.alloc o).heap.size=w.heap.size+1:=bH _;refine⟨R.kept h.pd f4 (fun x J=>aZ h0 (h.nw x J)),f5,?_,fun x J=>?_,fun c hc=>?_,h.hr⟩
 ·rw[aF,List.flatMap_append]
  simpa using s3
 ·rcases b3 with e1 | e1
  ·rw[e1]at J;exact h.nw x J
  ·rw[e1,aD]at J
   rw[J];exact aZ h.fr.size ((Fr.refl [] w).alloc o).size
 ·have key:E.ok w c∧∀x∈E.bl c,W.heap.size≤x∧x∉blk A:=by
   rcases List.mem_append.1 hc with hc | hc
   ·exact h.ok c hc
   ·rw[aD]at hc;subst hc;exact⟨hb,hn⟩
  refine⟨G.kept key.1 f4 (fun x J=>(key.2 x J).2),fun x J=>⟨(key.2 x J).1,fun h1=>?_⟩⟩
  rcases b3 with e1 | e1
  ·rw[e1]at h1;exact(key.2 x J).2 h1
  ·rw[e1,aD]at h1
   have:=G.lt key.1 x J;omega
theorem kD.end_{α:Type}{pr:β→α}{w W w2:World}{o:Obj}{e:TypeId}{A:Option Addr}{cap:Nat}{xs:List β}(h:kD E sz [r] D p er W e A cap xs w2)(hW:W=w.alloc o):yO E sz pr r D e (xs.map pr) p er w (.returned (.slice A xs.length cap)) w2:=by
 subst hW;have Y:=((Fr.refl [] w).alloc o).size;exact⟨A,cap,xs,rfl,rfl,h.sg,h.pd,((Fr.refl [] w).alloc o).trans h.fr (by simp) (fun x J=>Or.inl J),fun x J=>aZ Y (h.nw x J),fun b hb=>⟨(h.ok b hb).1,fun x J=>aZ Y ((h.ok b hb).2 x J).1⟩⟩
theorem kD.new{W w:World}{e:TypeId}{A:Option Addr}{cap:Nat}{xs:List β}{l:List Nat}(h:kD E sz F D p er W e A cap xs w)(hl:∀x∈l,w.heap.size≤x):∀x∈l,W.heap.size≤x∧x∉blk A:=fun x J=>⟨aZ h.fr.size (hl x J),fun Y=>by
 have:=h.sg.lt x Y;have:=hl x J
 omega⟩
end
theorem jO(w:World)(t:TypeId)(l:List Value):∀(j:Nat) (v:Value),l[j]? = some v→(w.alloc (.cells l.toArray t)).cell? ((⟨w.heap.size,0,none⟩:Addr).add j)=some v:=by
 intro j v h;have J:(⟨w.heap.size,0,none⟩:Addr).add j=⟨w.heap.size,j,none⟩:=by unfold Addr.add;split <;> simp_all
 rw[J,(bT.new w t l.toArray).cell j]
 simpa using h
theorem aD2{α β:Type}(f:α→List β)(sz:Nat)(h:∀x,(f x).length=sz):∀(l:List α) (j:Nat) (J:j<l.length) (i:Nat),i<sz→(l.flatMap f)[j * sz+i]? = (f l[j])[i]?
 | [],j,J,i,hi=>by simp at J
 | x :: l,0,J,i,hi=>by
  rw[List.flatMap_cons,Nat.zero_mul,Nat.zero_add,List.getElem?_append_left (by rw[h];exact hi)]
  rfl
 | x :: l,j+1,J,i,hi=>by
  have Y:(j+1) * sz=j * sz+sz:=by rw[Nat.add_mul,Nat.one_mul]
  rw[List.flatMap_cons,List.getElem?_append_right (by rw[h];omega),h,show(j+1) * sz+i-sz=j * sz+i by omega]
  exact aD2 f sz h l j (by simpa using J) i hi
theorem aEg{α β:Type}(f:α→List β)(sz:Nat)(h:∀x,(f x).length=sz):∀l:List α,(l.flatMap f).length=l.length * sz
 | []=>by simp
 | x :: l=>by rw[List.flatMap_cons,aF,h,aEg f sz h l,aG,Nat.add_mul,Nat.one_mul,Nat.add_comm]
theorem aAa{β:Type}{sz:Nat}{w:World}{e:TypeId}{A:Option Addr}{cap:Nat}{xs:List β}{f:β→List Value}(hf:∀x,(f x).length=sz)(J:0<sz)(h:Sg sz w e A cap xs.length (xs.flatMap f)):zW w A sz (xs.map f):=fun hz=>by
 rw[aH]at hz;have a1:=aEg f sz hf xs;have a0:0<xs.length * sz:=Nat.mul_pos hz J;obtain⟨g,off,e,hl,hc⟩:=h.rd J (by omega)
 refine⟨g,off,e,hl,fun j Y i v hv=>?_⟩
 rw[aH]at Y;rw[List.getElem_map]at hv;have hi:i<sz:=by rw[←hf xs[j]];exact(List.getElem?_eq_some_iff.1 hv).1
 have h1:=aD2 f sz hf xs j Y i hi;rw[hv]at h1;obtain⟨h2,h3⟩:=List.getElem?_eq_some_iff.1 h1;have:=hc (j * sz+i) h2;rw[h3]at this;rw[Nat.add_assoc];exact this
theorem zW.kept{F:List Nat}{w w':World}{A:Option Addr}{sz:Nat}{rows:List (List Value)}(h:zW w A sz rows)(hf:Fr F w w')(hd:∀g∈blk A,g∉F):zW w' A sz rows:=fun Y=>by
 obtain⟨b,off,e,hl,hc⟩:=h Y;subst e;have hb:b∉F:=hd b (by simp[blk])
 refine⟨b,off,rfl,Nat.lt_of_lt_of_le hl hf.size,fun j J i v hv=>?_⟩
 exact(World.cell?_of_block (w:=w) (hf.block b hl hb)).trans (hc j J i v hv)
def EMk:El Mk:=⟨oI,fun _=>[],fun _ m=>m.tag.size≤maxLen∧(Lit.int .i64 m.at_).wf=true⟩
def EFn:El SF:=⟨kW,fun _=>[],fun _ f=>FOk f⟩
def EOb:El MO:=⟨MO.row,fun x=>blk x.mA,fun w x=>MOk w x∧∀g∈blk x.mA,g<w.heap.size⟩
def ECo:El MC:=⟨MC.row,fun x=>blk x.aA,fun w x=>COk w x∧∀g∈blk x.aA,g<w.heap.size⟩
def ETx:El ByteArray:=⟨fun s=>[.string s],fun _=>[],fun _ _=>True⟩
theorem vJ:ETx.Good 1:=⟨by decide,fun _=>rfl,fun b u J=>by
 simp only[ETx,aM,aT,or_false]at J
 rcases J with rfl
 rfl,fun h _ _=>h,fun _ x Y=>by cases Y⟩
theorem gMk:EMk.Good 2:=⟨by decide,fun _=>rfl,fun b u J=>by
 simp only[EMk,oI,aM,aT,or_false]at J
 rcases J with rfl | rfl <;> rfl,fun h _ _=>h,fun _ x Y=>by cases Y⟩
theorem gFn:EFn.Good 3:=⟨by decide,fun _=>rfl,fun b u J=>by
 simp only[EFn,kW,aM,aT,or_false]at J
 rcases J with rfl | rfl | rfl <;> rfl,fun h _ _=>h,fun _ x Y=>by cases Y⟩
theorem gOb:EOb.Good 3:=⟨by decide,fun _=>rfl,fun b u J=>by
 simp only[EOb,MO.row,aM,aT,or_false]at J
 rcases J with rfl | rfl | rfl <;> rfl,fun {w w' F b} h f hd=>⟨⟨h.1.n,h.1.k,zW.kept h.1.m f hd,h.1.ml,h.1.mt,h.1.mw,h.1.mcp⟩,fun g Y=>Nat.lt_of_lt_of_le (h.2 g Y) f.size⟩,fun h x hx=>h.2 x hx⟩
theorem gCo:ECo.Good 6:=⟨by decide,fun _=>rfl,fun b u J=>by
 simp only[ECo,MC.row,aM,aT,or_false]at J
 rcases J with rfl | rfl | rfl | rfl | rfl | rfl <;> rfl,fun {w w' F b} h f hd=>⟨⟨h.1.a,h.1.b,h.1.t,h.1.g.kept f hd,h.1.gl,h.1.gc,h.1.gs⟩,fun g Y=>Nat.lt_of_lt_of_le (h.2 g Y) f.size⟩,fun h x hx=>h.2 x hx⟩
end re
set_option maxRecDepth 100000
namespace re
open RowKit Shelf mem sy vr po
theorem aLd:(Tryz.prog.info? 103).map (fun i=>(i.zero,i.size,i.bytes))=some (some (.agg #[.string ⟨#[]⟩,.string ⟨#[]⟩,.string ⟨#[]⟩]),3,48):=by kernel_rfl
theorem aGH:∃i,Tryz.prog.info? 103=some i∧i.zero=some (.agg #[.string ⟨#[]⟩,.string ⟨#[]⟩,.string ⟨#[]⟩])∧i.size=3∧i.bytes=48:=by
 have h:=aLd
 rcases hi:Tryz.prog.info? 103 with _ | i
 ·rw[hi]at h;cases h
 ·rw[hi]at h
  simp only[Option.map_some,Option.some.injEq,Prod.mk.injEq]at h;exact⟨i,rfl,h.1,h.2.1,h.2.2⟩
theorem list_fn{w0:World}{r pb:Nat}{s:ByteArray}{p:Nat}{er:Int}{one:Nat→Int→SF×Nat×Int}{w:World}(hs:s.size≤maxLen)(ai:p≤s.size)(h:PD w0 r s p er w)(he:er≠6)
 (b5:Hid (∀q e,q≤s.size→e≠6→(one q e).2.1≤s.size∧(one q e).2.2≠6))
 (HT:Hid (∀(J:World) (q:Nat) (e:Int),q≤s.size→e≠6→PD w0 r s q e J→Fr [r] w J→Calls Tryz.prog 100 #[uD r pb] J (OP EFn (fun m:SF=>m) r (PD w0 r s) (one q e).1 (one q e).2.1 (one q e).2.2 J))) :
 Calls Tryz.prog 99 #[uD r pb,.func (.func 100) #[uD r pb] #[]] w (yO EFn 3 (fun m:SF=>m) r (PD w0 r s) 103 (dA one s p er).1 (dA one s p er).2.1 (dA one s p er).2.2 w):=by
 have hW:=h.alloc (.cells #[.pointer (some ⟨r,0,none⟩),.pointer (some ⟨pb,0,none⟩)] 141);have B:=bT.new w 141 #[.pointer (some ⟨r,0,none⟩),.pointer (some ⟨pb,0,none⟩)];obtain⟨W,a5⟩:∃W,Hid (W=w.alloc (.cells #[.pointer (some ⟨r,0,none⟩),.pointer (some ⟨pb,0,none⟩)] 141)):=⟨_,hid rfl⟩;have ao:w.heap.size≠r:=by have:=h.lt;omega
 have a3:Hid (∀(J:World) A cap (xs:List SF) q e,kD EFn 3 [r] (PD w0 r s) q e W 103 A cap xs J→yO EFn 3 (fun m:SF=>m) r (PD w0 r s) 103 (xs.map (fun m:SF=>m)) q e w (.returned (.slice A xs.length cap)) J):=hid (fun J A cap xs q e x=>x.end_ a5.out)
 have hf:Fr [] w W:=by rw[a5.out];exact(Fr.refl [] w).alloc _
 have b4:Hid (∀(J:World) (q:Nat) (e:Int),q≤s.size→e≠6→PD w0 r s q e J→Fr [r] W J→Calls Tryz.prog 100 #[uD r pb] J (OP EFn (fun m:SF=>m) r (PD w0 r s) (one q e).1 (one q e).2.1 (one q e).2.2 J)):=hid (fun J q e a b c f=>HT.out J q e a b c (hf.trans f (by simp) (fun x hx=>Or.inl hx)))
 rw[←a5.out]at hW B;have bd:Hid (w0.heap.size≤W.heap.size):=hid hW.be.size;have ap:r<W.heap.size:=hW.lt;have bc:Hid (r+1≤W.heap.size):=hid ap;have HB:Hid (∀J,Fr [r] W J→J.cell? ⟨w.heap.size,0,none⟩=some (.pointer (some ⟨r,0,none⟩))∧J.cell? ⟨w.heap.size,1,none⟩=some (.pointer (some ⟨pb,0,none⟩))):=hid (fun J f=>⟨(B.kept f (by simpa using ao)).cell 0,(B.kept f (by simpa using ao)).cell 1⟩)
 have x0:W.cell? ⟨w.heap.size,0,none⟩=some (.pointer (some ⟨r,0,none⟩)):=B.cell 0;have K:=hid (gY W r s p er hW.rd hs ai);have b2:Hid (∀J,RD J r s (nP s p er) (nE s p er)→Fr [r] W J→kD EFn 3 [r] (PD w0 r s) (nP s p er) (nE s p er) W 103 none 0 [] J):=hid (fun J x f=>kD.start (hW.of f x) f (by simpa using ap))
 have a9:=hid (fun(J:World) (q:Nat) (e:Int) (x:PD w0 r s q e J)=>mI (pb:=pb) x)
 have a8:=hid (eB s p er ai);have a7:=hid (vF s p er he);obtain⟨R,hR⟩:∃R,Hid (R=dA one s p er):=⟨_,hid rfl⟩;rw[←hR.out];have ah:Hid (R=dX one (nV s p er) (nP s p er) (eL s p er)):=hid hR.out;have ag:Hid (eL s p er=if 6000<nV s p er then fE (nE s p er) 4 else nE s p er):=hid rfl
 unfold jS at K;unfold PP at a9;have ae:=hid (uQ s p er he);clear hW B h hs ai ao hR he hf HT ap;generalize nP s p er=p1 at *;generalize nE s p er=e1 at *;generalize nV s p er=n at *;generalize eL s p er=e2 at *;obtain⟨i0,ar,b1,b3,ax⟩:=aGH;have Hi:=hid ar;have b8:=hid b1;have b7:=hid b3;have b6:=hid ax;clear ar b1 b3 ax;unfold uD at a9 b4 ⊢;go_enter Tryz.func99,Tryz.ntmps99;go_upto_region 1 with fail;rw[←a5.out];clear a5;generalize w.heap.size=bx at *;go_wp2_with fail;refine K.out.mono ?_;rintro e J ⟨rfl,x2,f2⟩;have L2:=hid (b2.out J x2 f2);obtain⟨c0,c1⟩:=HB.out J f2;clear x2 f2 K x0 b2
 by_cases h6:6000<n
 ·have d6:decide (6000<(n:Int))=true:=aC (by omega)
  have af:e2=fE e1 4:=by rw[ag.out,if_pos h6]
  have KF:=hid (uU J r s p1 e1 4 L2.out.pd.rd);rw[←af]at KF;unfold jS at KF;clear ag af;go_wp2_with fail;refine KF.out.mono ?_;rintro e w3 ⟨rfl,x3,f3⟩;have L3:=hid (L2.out.read gFn (L2.out.pd.of f3 x3) f3);clear x3 f3 KF c0 c1 L2;have a2:Hid (kD EFn 3 [r] (PD w0 r s) p1 e2 W 103 none 0 [] w3):=L3;have a4:Hid (R=(([]:List SF).map (fun m:SF=>m)++(dX one (n-0) p1 e2).1,(dX one (n-0) p1 e2).2)):=hid ah.out
  clear L3 ah;obtain⟨c0,c1⟩:=HB.out w3 a2.out.fr;go_wp2_with fail
  go_loopw [6,7] (fun v i wr=>∃(k:Nat) (A:Option Addr) (cap:Nat) (xs:List SF) (q:Nat) (eq:Int),k≤n∧i=.int .i64 k∧v=.slice A xs.length cap∧xs.length≤k∧Hid (kD EFn 3 [r] (PD w0 r s) q eq W 103 A cap xs wr)∧Hid (q≤s.size)∧Hid (eq≠6)∧Hid (n≤6000∨cK eq=true)∧Hid (R=(xs.map (fun m:SF=>m)++(dX one (n-k) q eq).1,(dX one (n-k) q eq).2))) (fun _ i _=>n-(intOf i).toNat)
  case atStart=>exact⟨0,none,0,[],p1,e2,by omega,rfl,rfl,by simp,a2,a8,a7,ae,a4⟩
  case round=>
   obtain⟨k,A,cap,xs,q,eq,hk,rfl,rfl,ba,HL,hq,aa,hh,Y⟩:=hrel;clear a2 a4 c0 c1 ae a8 a7;obtain⟨c0,c1⟩:=HB.out wr HL.out.fr
   by_cases bb:k<n
   ·have d1:decide ((k:Int)<(n:Int))=true:=aC (by omega)
    have KW:=hid (a9.out wr q eq HL.out.pd);obtain⟨j,hj⟩:∃j,n-k=j+1:=⟨n-k-1,by omega⟩
    have a6:n-(k+1)=j:=by omega
    rcases hb:cK eq with _ | _
    ·rw[hb]at KW
     have aw:n≤6000:=by
      rcases hh.out with h1 | h1
      ·exact h1
      ·rw[hb]at h1;cases h1
     exact absurd h6 (by omega)
    ·rw[hb]at KW
     have a0:Hid (R=(xs.map (fun m:SF=>m),q,eq)):=hid (by
      rw[Y.out,hj]
      show(xs.map (fun m:SF=>m)++(if cK eq then _ else _:List SF×Nat×Int).1,(if cK eq then _ else _:List SF×Nat×Int).2)=_
      rw[hb]
      simp)
     clear Y hh hj a6;have a1:=hid (fun(w4:World) (x:PD w0 r s q eq w4) (f:Fr [r] wr w4)=>HL.out.read gFn x f)
     go_wp2_with fail;refine KW.out.mono ?_;rintro e w4 ⟨rfl,x4,f4⟩;have L4:=hid (a1.out w4 x4 f4);clear x4 f4 KW a1 HL;go_wp2_with fail;go_ret;rw[a0.out];exact a3.out _ _ _ _ _ _ L4.out
   ·obtain rfl:k=n:=by omega
    have d1:decide ((k:Int)<(k:Int))=false:=aB (by omega)
    have a0:Hid (R=(xs.map (fun m:SF=>m),q,eq)):=hid (by rw[Y.out,Nat.sub_self];simp[dX])
    go_wp2_with fail;go_ret;rw[a0.out];exact a3.out _ _ _ _ _ _ HL.out
 ·have d6:decide (6000<(n:Int))=false:=aB (by omega)
  have af:e2=e1:=by rw[ag.out,if_neg h6]
  subst af;have L3:=L2;clear ag c0 c1 L2;have a2:Hid (kD EFn 3 [r] (PD w0 r s) p1 e2 W 103 none 0 [] J):=L3;have a4:Hid (R=(([]:List SF).map (fun m:SF=>m)++(dX one (n-0) p1 e2).1,(dX one (n-0) p1 e2).2)):=hid ah.out
  clear L3 ah;obtain⟨c0,c1⟩:=HB.out J a2.out.fr;go_wp2_with fail
  go_loopw [6,7] (fun v i wr=>∃(k:Nat) (A:Option Addr) (cap:Nat) (xs:List SF) (q:Nat) (eq:Int),k≤n∧i=.int .i64 k∧v=.slice A xs.length cap∧xs.length≤k∧Hid (kD EFn 3 [r] (PD w0 r s) q eq W 103 A cap xs wr)∧Hid (q≤s.size)∧Hid (eq≠6)∧Hid (n≤6000∨cK eq=true)∧Hid (R=(xs.map (fun m:SF=>m)++(dX one (n-k) q eq).1,(dX one (n-k) q eq).2))) (fun _ i _=>n-(intOf i).toNat)
  case atStart=>exact⟨0,none,0,[],p1,e2,by omega,rfl,rfl,by simp,a2,a8,a7,ae,a4⟩
  case round=>
   obtain⟨k,A,cap,xs,q,eq,hk,rfl,rfl,ba,HL,hq,aa,hh,Y⟩:=hrel;clear a2 a4 c0 c1 ae a8 a7;obtain⟨c0,c1⟩:=HB.out wr HL.out.fr
   by_cases bb:k<n
   ·have d1:decide ((k:Int)<(n:Int))=true:=aC (by omega)
    have KW:=hid (a9.out wr q eq HL.out.pd);obtain⟨j,hj⟩:∃j,n-k=j+1:=⟨n-k-1,by omega⟩
    have a6:n-(k+1)=j:=by omega
    rcases hb:cK eq with _ | _
    ·rw[hb]at KW
     have aw:n≤6000:=by
      rcases hh.out with h1 | h1
      ·exact h1
      ·rw[hb]at h1;cases h1
     have a0:Hid (R=((xs.map (fun m:SF=>m)++[(one q eq).1])++(dX one (n-(k+1)) (one q eq).2.1 (one q eq).2.2).1,(dX one (n-(k+1)) (one q eq).2.1 (one q eq).2.2).2)):=hid (by
      rw[Y.out,hj,a6]
      show(xs.map (fun m:SF=>m)++(if cK eq then _ else _:List SF×Nat×Int).1,(if cK eq then _ else _:List SF×Nat×Int).2)=_
      rw[hb]
      simp)
     obtain⟨ak,aj⟩:=b5.out q eq hq.out aa.out;replace ak:=hid ak;replace aj:=hid aj;clear Y hh hj a6;have a1:=hid (fun(w4:World) (x:PD w0 r s q eq w4) (f:Fr [r] wr w4)=>HL.out.read gFn x f)
     go_wp2_with fail;refine KW.out.mono ?_;rintro e w4 ⟨rfl,x4,f4⟩;have L4:=hid (a1.out w4 x4 f4);have KT:=hid (b4.out w4 q eq hq.out aa.out x4 L4.out.fr);clear x4 f4 KW a1 HL;unfold OP at KT;generalize (one q eq).1=y at *;generalize (one q eq).2.1=q2 at *;generalize (one q eq).2.2=e3 at *;go_wp2_with fail;refine KT.out.mono ?_;rintro e w5 ⟨b,he,am,x5,f5,o5,n5⟩;obtain rfl:e=.returned (.agg #[.string b.name,.string b.kinds,.string b.ret]):=he;have N5:=hid (L4.out.new n5);have L5:=hid (L4.out.read gFn x5 f5);have O5:=hid o5;replace am:=hid am;clear x5 f5 KT L4 hq aa n5 o5
     go_wp2_with (at_builtin;refine jF (us:=[.string b.name,.string b.kinds,.string b.ret]) rfl _ _ _ rfl (L5.out.sg.alloc _) Tryz.underlying24 Hi.out b8.out b7.out b6.out rfl rfl rfl rfl (jO _ _ [.string b.name,.string b.kinds,.string b.ret]) (gFn.one b) (by omega) (by omega) ?_;intro A3 au w6 ay f6 av;have L6:=hid (L5.out.push (aDn w0 r s) gFn bc.out O5.out N5.out ay f6 av);clear ay f6 av)
     have az:(xs++[b]).length=xs.length+1:=by simp
     have b9:Hid (R=((xs++[b]).map (fun m:SF=>m)++(dX one (n-(k+1)) q2 e3).1,(dX one (n-(k+1)) q2 e3).2)):=hid (by rw[List.map_append,List.map_singleton,am.out];exact a0.out)
     go_roundw
     case rel=>exact⟨k+1,A3,au,xs++[b],q2,e3,by omega,by go_num,by rw[az],by omega,L6,ak,aj,hid (Or.inl aw),b9⟩
     case measure=>simp[intOf];omega
    ·rw[hb]at KW
     have a0:Hid (R=(xs.map (fun m:SF=>m),q,eq)):=hid (by
      rw[Y.out,hj]
      show(xs.map (fun m:SF=>m)++(if cK eq then _ else _:List SF×Nat×Int).1,(if cK eq then _ else _:List SF×Nat×Int).2)=_
      rw[hb]
      simp)
     clear Y hh hj a6;have a1:=hid (fun(w4:World) (x:PD w0 r s q eq w4) (f:Fr [r] wr w4)=>HL.out.read gFn x f)
     go_wp2_with fail;refine KW.out.mono ?_;rintro e w4 ⟨rfl,x4,f4⟩;have L4:=hid (a1.out w4 x4 f4);clear x4 f4 KW a1 HL;go_wp2_with fail;go_ret;rw[a0.out];exact a3.out _ _ _ _ _ _ L4.out
   ·obtain rfl:k=n:=by omega
    have d1:decide ((k:Int)<(k:Int))=false:=aB (by omega)
    have a0:Hid (R=(xs.map (fun m:SF=>m),q,eq)):=hid (by rw[Y.out,Nat.sub_self];simp[dX])
    go_wp2_with fail;go_ret;rw[a0.out];exact a3.out _ _ _ _ _ _ HL.out
end re
set_option maxRecDepth 100000
namespace re
open RowKit Shelf mem sy vr po
theorem aLt:(Tryz.prog.info? 99).map (fun i=>(i.zero,i.size,i.bytes))=some (some (.agg #[.string ⟨#[]⟩,.string ⟨#[]⟩,.slice none 0 0]),3,56):=by kernel_rfl
theorem aGA:∃i,Tryz.prog.info? 99=some i∧i.zero=some (.agg #[.string ⟨#[]⟩,.string ⟨#[]⟩,.slice none 0 0])∧i.size=3∧i.bytes=56:=by
 have h:=aLt
 rcases hi:Tryz.prog.info? 99 with _ | i
 ·rw[hi]at h;cases h
 ·rw[hi]at h
  simp only[Option.map_some,Option.some.injEq,Prod.mk.injEq]at h;exact⟨i,rfl,h.1,h.2.1,h.2.2⟩
theorem aLG{w0:World}{r pb:Nat}{s:ByteArray}{p:Nat}{er:Int}{one:Nat→Int→SO×Nat×Int}{w:World}(hs:s.size≤maxLen)(ai:p≤s.size)(h:PD w0 r s p er w)(he:er≠6)
 (b5:Hid (∀q e,q≤s.size→e≠6→(one q e).2.1≤s.size∧(one q e).2.2≠6))
 (HT:Hid (∀(J:World) (q:Nat) (e:Int),q≤s.size→e≠6→PD w0 r s q e J→Fr [r] w J→Calls Tryz.prog 98 #[uD r pb] J (OP EOb MO.o r (PD w0 r s) (one q e).1 (one q e).2.1 (one q e).2.2 J))) :
 Calls Tryz.prog 97 #[uD r pb,.func (.func 98) #[uD r pb] #[]] w (yO EOb 3 MO.o r (PD w0 r s) 99 (dA one s p er).1 (dA one s p er).2.1 (dA one s p er).2.2 w):=by
 have hW:=h.alloc (.cells #[.pointer (some ⟨r,0,none⟩),.pointer (some ⟨pb,0,none⟩)] 141);have B:=bT.new w 141 #[.pointer (some ⟨r,0,none⟩),.pointer (some ⟨pb,0,none⟩)];obtain⟨W,a5⟩:∃W,Hid (W=w.alloc (.cells #[.pointer (some ⟨r,0,none⟩),.pointer (some ⟨pb,0,none⟩)] 141)):=⟨_,hid rfl⟩;have ao:w.heap.size≠r:=by have:=h.lt;omega
 have a3:Hid (∀(J:World) A cap (xs:List MO) q e,kD EOb 3 [r] (PD w0 r s) q e W 99 A cap xs J→yO EOb 3 MO.o r (PD w0 r s) 99 (xs.map MO.o) q e w (.returned (.slice A xs.length cap)) J):=hid (fun J A cap xs q e x=>x.end_ a5.out)
 have hf:Fr [] w W:=by rw[a5.out];exact(Fr.refl [] w).alloc _
 have b4:Hid (∀(J:World) (q:Nat) (e:Int),q≤s.size→e≠6→PD w0 r s q e J→Fr [r] W J→Calls Tryz.prog 98 #[uD r pb] J (OP EOb MO.o r (PD w0 r s) (one q e).1 (one q e).2.1 (one q e).2.2 J)):=hid (fun J q e a b c f=>HT.out J q e a b c (hf.trans f (by simp) (fun x hx=>Or.inl hx)))
 rw[←a5.out]at hW B;have bd:Hid (w0.heap.size≤W.heap.size):=hid hW.be.size;have ap:r<W.heap.size:=hW.lt;have bc:Hid (r+1≤W.heap.size):=hid ap;have HB:Hid (∀J,Fr [r] W J→J.cell? ⟨w.heap.size,0,none⟩=some (.pointer (some ⟨r,0,none⟩))∧J.cell? ⟨w.heap.size,1,none⟩=some (.pointer (some ⟨pb,0,none⟩))):=hid (fun J f=>⟨(B.kept f (by simpa using ao)).cell 0,(B.kept f (by simpa using ao)).cell 1⟩)
 have x0:W.cell? ⟨w.heap.size,0,none⟩=some (.pointer (some ⟨r,0,none⟩)):=B.cell 0;have K:=hid (gY W r s p er hW.rd hs ai);have b2:Hid (∀J,RD J r s (nP s p er) (nE s p er)→Fr [r] W J→kD EOb 3 [r] (PD w0 r s) (nP s p er) (nE s p er) W 99 none 0 [] J):=hid (fun J x f=>kD.start (hW.of f x) f (by simpa using ap))
 have a9:=hid (fun(J:World) (q:Nat) (e:Int) (x:PD w0 r s q e J)=>mI (pb:=pb) x)
 have a8:=hid (eB s p er ai);have a7:=hid (vF s p er he);obtain⟨R,hR⟩:∃R,Hid (R=dA one s p er):=⟨_,hid rfl⟩;rw[←hR.out];have ah:Hid (R=dX one (nV s p er) (nP s p er) (eL s p er)):=hid hR.out;have ag:Hid (eL s p er=if 6000<nV s p er then fE (nE s p er) 4 else nE s p er):=hid rfl
 unfold jS at K;unfold PP at a9;have ae:=hid (uQ s p er he);clear hW B h hs ai ao hR he hf HT ap;generalize nP s p er=p1 at *;generalize nE s p er=e1 at *;generalize nV s p er=n at *;generalize eL s p er=e2 at *;obtain⟨i0,ar,b1,b3,ax⟩:=aGA;have Hi:=hid ar;have b8:=hid b1;have b7:=hid b3;have b6:=hid ax;clear ar b1 b3 ax;unfold uD at a9 b4 ⊢;go_enter Tryz.func97,Tryz.ntmps97;go_upto_region 1 with fail;rw[←a5.out];clear a5;generalize w.heap.size=bx at *;go_wp2_with fail;refine K.out.mono ?_;rintro e J ⟨rfl,x2,f2⟩;have L2:=hid (b2.out J x2 f2);obtain⟨c0,c1⟩:=HB.out J f2;clear x2 f2 K x0 b2
 by_cases h6:6000<n
 ·have d6:decide (6000<(n:Int))=true:=aC (by omega)
  have af:e2=fE e1 4:=by rw[ag.out,if_pos h6]
  have KF:=hid (uU J r s p1 e1 4 L2.out.pd.rd);rw[←af]at KF;unfold jS at KF;clear ag af;go_wp2_with fail;refine KF.out.mono ?_;rintro e w3 ⟨rfl,x3,f3⟩;have L3:=hid (L2.out.read gOb (L2.out.pd.of f3 x3) f3);clear x3 f3 KF c0 c1 L2;have a2:Hid (kD EOb 3 [r] (PD w0 r s) p1 e2 W 99 none 0 [] w3):=L3;have a4:Hid (R=(([]:List MO).map MO.o++(dX one (n-0) p1 e2).1,(dX one (n-0) p1 e2).2)):=hid ah.out;clear L3 ah;obtain⟨c0,c1⟩:=HB.out w3 a2.out.fr;go_wp2_with fail
  go_loopw [6,7] (fun v i wr=>∃(k:Nat) (A:Option Addr) (cap:Nat) (xs:List MO) (q:Nat) (eq:Int),k≤n∧i=.int .i64 k∧v=.slice A xs.length cap∧xs.length≤k∧Hid (kD EOb 3 [r] (PD w0 r s) q eq W 99 A cap xs wr)∧Hid (q≤s.size)∧Hid (eq≠6)∧Hid (n≤6000∨cK eq=true)∧Hid (R=(xs.map MO.o++(dX one (n-k) q eq).1,(dX one (n-k) q eq).2))) (fun _ i _=>n-(intOf i).toNat)
  case atStart=>exact⟨0,none,0,[],p1,e2,by omega,rfl,rfl,by simp,a2,a8,a7,ae,a4⟩
  case round=>
   obtain⟨k,A,cap,xs,q,eq,hk,rfl,rfl,ba,HL,hq,aa,hh,Y⟩:=hrel;clear a2 a4 c0 c1 ae a8 a7;obtain⟨c0,c1⟩:=HB.out wr HL.out.fr
   by_cases bb:k<n
   ·have d1:decide ((k:Int)<(n:Int))=true:=aC (by omega)
    have KW:=hid (a9.out wr q eq HL.out.pd);obtain⟨j,hj⟩:∃j,n-k=j+1:=⟨n-k-1,by omega⟩
    have a6:n-(k+1)=j:=by omega
    rcases hb:cK eq with _ | _
    ·rw[hb]at KW
     have aw:n≤6000:=by
      rcases hh.out with h1 | h1
      ·exact h1
      ·rw[hb]at h1;cases h1
     exact absurd h6 (by omega)
    ·rw[hb]at KW
     have a0:Hid (R=(xs.map MO.o,q,eq)):=hid (by
      rw[Y.out,hj]
      show(xs.map MO.o++(if cK eq then _ else _:List SO×Nat×Int).1,(if cK eq then _ else _:List SO×Nat×Int).2)=_
      rw[hb]
      simp)
     clear Y hh hj a6;have a1:=hid (fun(w4:World) (x:PD w0 r s q eq w4) (f:Fr [r] wr w4)=>HL.out.read gOb x f)
     go_wp2_with fail;refine KW.out.mono ?_;rintro e w4 ⟨rfl,x4,f4⟩;have L4:=hid (a1.out w4 x4 f4);clear x4 f4 KW a1 HL;go_wp2_with fail;go_ret;rw[a0.out];exact a3.out _ _ _ _ _ _ L4.out
   ·obtain rfl:k=n:=by omega
    have d1:decide ((k:Int)<(k:Int))=false:=aB (by omega)
    have a0:Hid (R=(xs.map MO.o,q,eq)):=hid (by rw[Y.out,Nat.sub_self];simp[dX])
    go_wp2_with fail;go_ret;rw[a0.out];exact a3.out _ _ _ _ _ _ HL.out
 ·have d6:decide (6000<(n:Int))=false:=aB (by omega)
  have af:e2=e1:=by rw[ag.out,if_neg h6]
  subst af;have L3:=L2;clear ag c0 c1 L2;have a2:Hid (kD EOb 3 [r] (PD w0 r s) p1 e2 W 99 none 0 [] J):=L3;have a4:Hid (R=(([]:List MO).map MO.o++(dX one (n-0) p1 e2).1,(dX one (n-0) p1 e2).2)):=hid ah.out;clear L3 ah;obtain⟨c0,c1⟩:=HB.out J a2.out.fr;go_wp2_with fail
  go_loopw [6,7] (fun v i wr=>∃(k:Nat) (A:Option Addr) (cap:Nat) (xs:List MO) (q:Nat) (eq:Int),k≤n∧i=.int .i64 k∧v=.slice A xs.length cap∧xs.length≤k∧Hid (kD EOb 3 [r] (PD w0 r s) q eq W 99 A cap xs wr)∧Hid (q≤s.size)∧Hid (eq≠6)∧Hid (n≤6000∨cK eq=true)∧Hid (R=(xs.map MO.o++(dX one (n-k) q eq).1,(dX one (n-k) q eq).2))) (fun _ i _=>n-(intOf i).toNat)
  case atStart=>exact⟨0,none,0,[],p1,e2,by omega,rfl,rfl,by simp,a2,a8,a7,ae,a4⟩
  case round=>
   obtain⟨k,A,cap,xs,q,eq,hk,rfl,rfl,ba,HL,hq,aa,hh,Y⟩:=hrel;clear a2 a4 c0 c1 ae a8 a7;obtain⟨c0,c1⟩:=HB.out wr HL.out.fr
   by_cases bb:k<n
   ·have d1:decide ((k:Int)<(n:Int))=true:=aC (by omega)
    have KW:=hid (a9.out wr q eq HL.out.pd);obtain⟨j,hj⟩:∃j,n-k=j+1:=⟨n-k-1,by omega⟩
    have a6:n-(k+1)=j:=by omega
    rcases hb:cK eq with _ | _
    ·rw[hb]at KW
     have aw:n≤6000:=by
      rcases hh.out with h1 | h1
      ·exact h1
      ·rw[hb]at h1;cases h1
     have a0:Hid (R=((xs.map MO.o++[(one q eq).1])++(dX one (n-(k+1)) (one q eq).2.1 (one q eq).2.2).1,(dX one (n-(k+1)) (one q eq).2.1 (one q eq).2.2).2)):=hid (by
      rw[Y.out,hj,a6]
      show(xs.map MO.o++(if cK eq then _ else _:List SO×Nat×Int).1,(if cK eq then _ else _:List SO×Nat×Int).2)=_
      rw[hb]
      simp)
     obtain⟨ak,aj⟩:=b5.out q eq hq.out aa.out;replace ak:=hid ak;replace aj:=hid aj;clear Y hh hj a6;have a1:=hid (fun(w4:World) (x:PD w0 r s q eq w4) (f:Fr [r] wr w4)=>HL.out.read gOb x f)
     go_wp2_with fail;refine KW.out.mono ?_;rintro e w4 ⟨rfl,x4,f4⟩;have L4:=hid (a1.out w4 x4 f4);have KT:=hid (b4.out w4 q eq hq.out aa.out x4 L4.out.fr);clear x4 f4 KW a1 HL;unfold OP at KT;generalize (one q eq).1=y at *;generalize (one q eq).2.1=q2 at *;generalize (one q eq).2.2=e3 at *;go_wp2_with fail;refine KT.out.mono ?_;rintro e w5 ⟨b,he,am,x5,f5,o5,n5⟩;obtain rfl:e=.returned (.agg #[.string b.o.name,.string b.o.kinds,.slice b.mA b.o.marks.length b.mc]):=he;have N5:=hid (L4.out.new n5);have L5:=hid (L4.out.read gOb x5 f5);have O5:=hid o5;replace am:=hid am;clear x5 f5 KT L4 hq aa n5 o5
     go_wp2_with (at_builtin;refine jF (us:=[.string b.o.name,.string b.o.kinds,.slice b.mA b.o.marks.length b.mc]) rfl _ _ _ rfl (L5.out.sg.alloc _) Tryz.underlying23 Hi.out b8.out b7.out b6.out rfl rfl rfl rfl (jO _ _ [.string b.o.name,.string b.o.kinds,.slice b.mA b.o.marks.length b.mc]) (gOb.one b) (by omega) (by omega) ?_;intro A3 au w6 ay f6 av;have L6:=hid (L5.out.push (aDn w0 r s) gOb bc.out O5.out N5.out ay f6 av);clear ay f6 av)
     have az:(xs++[b]).length=xs.length+1:=by simp
     have b9:Hid (R=((xs++[b]).map MO.o++(dX one (n-(k+1)) q2 e3).1,(dX one (n-(k+1)) q2 e3).2)):=hid (by rw[List.map_append,List.map_singleton,am.out];exact a0.out)
     go_roundw
     case rel=>exact⟨k+1,A3,au,xs++[b],q2,e3,by omega,by go_num,by rw[az],by omega,L6,ak,aj,hid (Or.inl aw),b9⟩
     case measure=>simp[intOf];omega
    ·rw[hb]at KW
     have a0:Hid (R=(xs.map MO.o,q,eq)):=hid (by
      rw[Y.out,hj]
      show(xs.map MO.o++(if cK eq then _ else _:List SO×Nat×Int).1,(if cK eq then _ else _:List SO×Nat×Int).2)=_
      rw[hb]
      simp)
     clear Y hh hj a6;have a1:=hid (fun(w4:World) (x:PD w0 r s q eq w4) (f:Fr [r] wr w4)=>HL.out.read gOb x f)
     go_wp2_with fail;refine KW.out.mono ?_;rintro e w4 ⟨rfl,x4,f4⟩;have L4:=hid (a1.out w4 x4 f4);clear x4 f4 KW a1 HL;go_wp2_with fail;go_ret;rw[a0.out];exact a3.out _ _ _ _ _ _ L4.out
   ·obtain rfl:k=n:=by omega
    have d1:decide ((k:Int)<(k:Int))=false:=aB (by omega)
    have a0:Hid (R=(xs.map MO.o,q,eq)):=hid (by rw[Y.out,Nat.sub_self];simp[dX])
    go_wp2_with fail;go_ret;rw[a0.out];exact a3.out _ _ _ _ _ _ HL.out
end re
set_option maxRecDepth 100000
namespace re
open RowKit Shelf mem sy vr po
theorem aLm:(Tryz.prog.info? 105).map (fun i=>(i.zero,i.size,i.bytes))=some (some (.agg #[.int .i64 0,.string ⟨#[]⟩,.string ⟨#[]⟩,.int .i64 0,.string ⟨#[]⟩,.slice none 0 0]),6,88):=by kernel_rfl
theorem aGG:∃i,Tryz.prog.info? 105=some i∧i.zero=some (.agg #[.int .i64 0,.string ⟨#[]⟩,.string ⟨#[]⟩,.int .i64 0,.string ⟨#[]⟩,.slice none 0 0])∧i.size=6∧i.bytes=88:=by
 have h:=aLm
 rcases hi:Tryz.prog.info? 105 with _ | i
 ·rw[hi]at h;cases h
 ·rw[hi]at h
  simp only[Option.map_some,Option.some.injEq,Prod.mk.injEq]at h;exact⟨i,rfl,h.1,h.2.1,h.2.2⟩
theorem aL6{w0:World}{r pb:Nat}{s:ByteArray}{p:Nat}{er:Int}{one:Nat→Int→SC×Nat×Int}{w:World}(hs:s.size≤maxLen)(ai:p≤s.size)(h:PD w0 r s p er w)(he:er≠6)
 (b5:Hid (∀q e,q≤s.size→e≠6→(one q e).2.1≤s.size∧(one q e).2.2≠6))
 (HT:Hid (∀(J:World) (q:Nat) (e:Int),q≤s.size→e≠6→PD w0 r s q e J→Fr [r] w J→Calls Tryz.prog 102 #[uD r pb] J (OP ECo MC.c r (PD w0 r s) (one q e).1 (one q e).2.1 (one q e).2.2 J))) :
 Calls Tryz.prog 101 #[uD r pb,.func (.func 102) #[uD r pb] #[]] w (yO ECo 6 MC.c r (PD w0 r s) 105 (dA one s p er).1 (dA one s p er).2.1 (dA one s p er).2.2 w):=by
 have hW:=h.alloc (.cells #[.pointer (some ⟨r,0,none⟩),.pointer (some ⟨pb,0,none⟩)] 141);have B:=bT.new w 141 #[.pointer (some ⟨r,0,none⟩),.pointer (some ⟨pb,0,none⟩)];obtain⟨W,a5⟩:∃W,Hid (W=w.alloc (.cells #[.pointer (some ⟨r,0,none⟩),.pointer (some ⟨pb,0,none⟩)] 141)):=⟨_,hid rfl⟩;have ao:w.heap.size≠r:=by have:=h.lt;omega
 have a3:Hid (∀(J:World) A cap (xs:List MC) q e,kD ECo 6 [r] (PD w0 r s) q e W 105 A cap xs J→yO ECo 6 MC.c r (PD w0 r s) 105 (xs.map MC.c) q e w (.returned (.slice A xs.length cap)) J):=hid (fun J A cap xs q e x=>x.end_ a5.out)
 have hf:Fr [] w W:=by rw[a5.out];exact(Fr.refl [] w).alloc _
 have b4:Hid (∀(J:World) (q:Nat) (e:Int),q≤s.size→e≠6→PD w0 r s q e J→Fr [r] W J→Calls Tryz.prog 102 #[uD r pb] J (OP ECo MC.c r (PD w0 r s) (one q e).1 (one q e).2.1 (one q e).2.2 J)):=hid (fun J q e a b c f=>HT.out J q e a b c (hf.trans f (by simp) (fun x hx=>Or.inl hx)))
 rw[←a5.out]at hW B;have bd:Hid (w0.heap.size≤W.heap.size):=hid hW.be.size;have ap:r<W.heap.size:=hW.lt;have bc:Hid (r+1≤W.heap.size):=hid ap;have HB:Hid (∀J,Fr [r] W J→J.cell? ⟨w.heap.size,0,none⟩=some (.pointer (some ⟨r,0,none⟩))∧J.cell? ⟨w.heap.size,1,none⟩=some (.pointer (some ⟨pb,0,none⟩))):=hid (fun J f=>⟨(B.kept f (by simpa using ao)).cell 0,(B.kept f (by simpa using ao)).cell 1⟩)
 have x0:W.cell? ⟨w.heap.size,0,none⟩=some (.pointer (some ⟨r,0,none⟩)):=B.cell 0;have K:=hid (gY W r s p er hW.rd hs ai);have b2:Hid (∀J,RD J r s (nP s p er) (nE s p er)→Fr [r] W J→kD ECo 6 [r] (PD w0 r s) (nP s p er) (nE s p er) W 105 none 0 [] J):=hid (fun J x f=>kD.start (hW.of f x) f (by simpa using ap))
 have a9:=hid (fun(J:World) (q:Nat) (e:Int) (x:PD w0 r s q e J)=>mI (pb:=pb) x)
 have a8:=hid (eB s p er ai);have a7:=hid (vF s p er he);obtain⟨R,hR⟩:∃R,Hid (R=dA one s p er):=⟨_,hid rfl⟩;rw[←hR.out];have ah:Hid (R=dX one (nV s p er) (nP s p er) (eL s p er)):=hid hR.out;have ag:Hid (eL s p er=if 6000<nV s p er then fE (nE s p er) 4 else nE s p er):=hid rfl
 unfold jS at K;unfold PP at a9;have ae:=hid (uQ s p er he);clear hW B h hs ai ao hR he hf HT ap;generalize nP s p er=p1 at *;generalize nE s p er=e1 at *;generalize nV s p er=n at *;generalize eL s p er=e2 at *;obtain⟨i0,ar,b1,b3,ax⟩:=aGG;have Hi:=hid ar;have b8:=hid b1;have b7:=hid b3;have b6:=hid ax;clear ar b1 b3 ax;unfold uD at a9 b4 ⊢;go_enter Tryz.func101,Tryz.ntmps101;go_upto_region 1 with fail;rw[←a5.out];clear a5;generalize w.heap.size=bx at *;go_wp2_with fail;refine K.out.mono ?_;rintro e J ⟨rfl,x2,f2⟩;have L2:=hid (b2.out J x2 f2);obtain⟨c0,c1⟩:=HB.out J f2;clear x2 f2 K x0 b2
 by_cases h6:6000<n
 ·have d6:decide (6000<(n:Int))=true:=aC (by omega)
  have af:e2=fE e1 4:=by rw[ag.out,if_pos h6]
  have KF:=hid (uU J r s p1 e1 4 L2.out.pd.rd);rw[←af]at KF;unfold jS at KF;clear ag af;go_wp2_with fail;refine KF.out.mono ?_;rintro e w3 ⟨rfl,x3,f3⟩;have L3:=hid (L2.out.read gCo (L2.out.pd.of f3 x3) f3);clear x3 f3 KF c0 c1 L2;have a2:Hid (kD ECo 6 [r] (PD w0 r s) p1 e2 W 105 none 0 [] w3):=L3;have a4:Hid (R=(([]:List MC).map MC.c++(dX one (n-0) p1 e2).1,(dX one (n-0) p1 e2).2)):=hid ah.out;clear L3 ah;obtain⟨c0,c1⟩:=HB.out w3 a2.out.fr;go_wp2_with fail
  go_loopw [6,7] (fun v i wr=>∃(k:Nat) (A:Option Addr) (cap:Nat) (xs:List MC) (q:Nat) (eq:Int),k≤n∧i=.int .i64 k∧v=.slice A xs.length cap∧xs.length≤k∧Hid (kD ECo 6 [r] (PD w0 r s) q eq W 105 A cap xs wr)∧Hid (q≤s.size)∧Hid (eq≠6)∧Hid (n≤6000∨cK eq=true)∧Hid (R=(xs.map MC.c++(dX one (n-k) q eq).1,(dX one (n-k) q eq).2))) (fun _ i _=>n-(intOf i).toNat)
  case atStart=>exact⟨0,none,0,[],p1,e2,by omega,rfl,rfl,by simp,a2,a8,a7,ae,a4⟩
  case round=>
   obtain⟨k,A,cap,xs,q,eq,hk,rfl,rfl,ba,HL,hq,aa,hh,Y⟩:=hrel;clear a2 a4 c0 c1 ae a8 a7;obtain⟨c0,c1⟩:=HB.out wr HL.out.fr
   by_cases bb:k<n
   ·have d1:decide ((k:Int)<(n:Int))=true:=aC (by omega)
    have KW:=hid (a9.out wr q eq HL.out.pd);obtain⟨j,hj⟩:∃j,n-k=j+1:=⟨n-k-1,by omega⟩
    have a6:n-(k+1)=j:=by omega
    rcases hb:cK eq with _ | _
    ·rw[hb]at KW
     have aw:n≤6000:=by
      rcases hh.out with h1 | h1
      ·exact h1
      ·rw[hb]at h1;cases h1
     exact absurd h6 (by omega)
    ·rw[hb]at KW
     have a0:Hid (R=(xs.map MC.c,q,eq)):=hid (by
      rw[Y.out,hj]
      show(xs.map MC.c++(if cK eq then _ else _:List SC×Nat×Int).1,(if cK eq then _ else _:List SC×Nat×Int).2)=_
      rw[hb]
      simp)
     clear Y hh hj a6;have a1:=hid (fun(w4:World) (x:PD w0 r s q eq w4) (f:Fr [r] wr w4)=>HL.out.read gCo x f)
     go_wp2_with fail;refine KW.out.mono ?_;rintro e w4 ⟨rfl,x4,f4⟩;have L4:=hid (a1.out w4 x4 f4);clear x4 f4 KW a1 HL;go_wp2_with fail;go_ret;rw[a0.out];exact a3.out _ _ _ _ _ _ L4.out
   ·obtain rfl:k=n:=by omega
    have d1:decide ((k:Int)<(k:Int))=false:=aB (by omega)
    have a0:Hid (R=(xs.map MC.c,q,eq)):=hid (by rw[Y.out,Nat.sub_self];simp[dX])
    go_wp2_with fail;go_ret;rw[a0.out];exact a3.out _ _ _ _ _ _ HL.out
 ·have d6:decide (6000<(n:Int))=false:=aB (by omega)
  have af:e2=e1:=by rw[ag.out,if_neg h6]
  subst af;have L3:=L2;clear ag c0 c1 L2;have a2:Hid (kD ECo 6 [r] (PD w0 r s) p1 e2 W 105 none 0 [] J):=L3;have a4:Hid (R=(([]:List MC).map MC.c++(dX one (n-0) p1 e2).1,(dX one (n-0) p1 e2).2)):=hid ah.out;clear L3 ah;obtain⟨c0,c1⟩:=HB.out J a2.out.fr;go_wp2_with fail
  go_loopw [6,7] (fun v i wr=>∃(k:Nat) (A:Option Addr) (cap:Nat) (xs:List MC) (q:Nat) (eq:Int),k≤n∧i=.int .i64 k∧v=.slice A xs.length cap∧xs.length≤k∧Hid (kD ECo 6 [r] (PD w0 r s) q eq W 105 A cap xs wr)∧Hid (q≤s.size)∧Hid (eq≠6)∧Hid (n≤6000∨cK eq=true)∧Hid (R=(xs.map MC.c++(dX one (n-k) q eq).1,(dX one (n-k) q eq).2))) (fun _ i _=>n-(intOf i).toNat)
  case atStart=>exact⟨0,none,0,[],p1,e2,by omega,rfl,rfl,by simp,a2,a8,a7,ae,a4⟩
  case round=>
   obtain⟨k,A,cap,xs,q,eq,hk,rfl,rfl,ba,HL,hq,aa,hh,Y⟩:=hrel;clear a2 a4 c0 c1 ae a8 a7;obtain⟨c0,c1⟩:=HB.out wr HL.out.fr
   by_cases bb:k<n
   ·have d1:decide ((k:Int)<(n:Int))=true:=aC (by omega)
    have KW:=hid (a9.out wr q eq HL.out.pd);obtain⟨j,hj⟩:∃j,n-k=j+1:=⟨n-k-1,by omega⟩
    have a6:n-(k+1)=j:=by omega
    rcases hb:cK eq with _ | _
    ·rw[hb]at KW
     have aw:n≤6000:=by
      rcases hh.out with h1 | h1
      ·exact h1
      ·rw[hb]at h1;cases h1
     have a0:Hid (R=((xs.map MC.c++[(one q eq).1])++(dX one (n-(k+1)) (one q eq).2.1 (one q eq).2.2).1,(dX one (n-(k+1)) (one q eq).2.1 (one q eq).2.2).2)):=hid (by
      rw[Y.out,hj,a6]
      show(xs.map MC.c++(if cK eq then _ else _:List SC×Nat×Int).1,(if cK eq then _ else _:List SC×Nat×Int).2)=_
      rw[hb]
      simp)
     obtain⟨ak,aj⟩:=b5.out q eq hq.out aa.out;replace ak:=hid ak;replace aj:=hid aj;clear Y hh hj a6;have a1:=hid (fun(w4:World) (x:PD w0 r s q eq w4) (f:Fr [r] wr w4)=>HL.out.read gCo x f)
     go_wp2_with fail;refine KW.out.mono ?_;rintro e w4 ⟨rfl,x4,f4⟩;have L4:=hid (a1.out w4 x4 f4);have KT:=hid (b4.out w4 q eq hq.out aa.out x4 L4.out.fr);clear x4 f4 KW a1 HL;unfold OP at KT;generalize (one q eq).1=y at *;generalize (one q eq).2.1=q2 at *;generalize (one q eq).2.2=e3 at *;go_wp2_with fail;refine KT.out.mono ?_;rintro e w5 ⟨b,he,am,x5,f5,o5,n5⟩;obtain rfl:e=.returned (.agg #[.int .i64 b.c.op,.string b.c.a,.string b.c.b,.int .i64 b.c.k,.string b.c.tag,.slice b.aA b.c.args.length b.ac]):=he;have N5:=hid (L4.out.new n5);have L5:=hid (L4.out.read gCo x5 f5);have O5:=hid o5;replace am:=hid am;clear x5 f5 KT L4 hq aa n5 o5
     go_wp2_with (at_builtin;refine jF (us:=[.int .i64 b.c.op,.string b.c.a,.string b.c.b,.int .i64 b.c.k,.string b.c.tag,.slice b.aA b.c.args.length b.ac]) rfl _ _ _ rfl (L5.out.sg.alloc _) Tryz.underlying25 Hi.out b8.out b7.out b6.out rfl rfl rfl rfl (jO _ _ [.int .i64 b.c.op,.string b.c.a,.string b.c.b,.int .i64 b.c.k,.string b.c.tag,.slice b.aA b.c.args.length b.ac]) (gCo.one b) (by omega) (by omega) ?_;intro A3 au w6 ay f6 av;have L6:=hid (L5.out.push (aDn w0 r s) gCo bc.out O5.out N5.out ay f6 av);clear ay f6 av)
     have az:(xs++[b]).length=xs.length+1:=by simp
     have b9:Hid (R=((xs++[b]).map MC.c++(dX one (n-(k+1)) q2 e3).1,(dX one (n-(k+1)) q2 e3).2)):=hid (by rw[List.map_append,List.map_singleton,am.out];exact a0.out)
     go_roundw
     case rel=>exact⟨k+1,A3,au,xs++[b],q2,e3,by omega,by go_num,by rw[az],by omega,L6,ak,aj,hid (Or.inl aw),b9⟩
     case measure=>simp[intOf];omega
    ·rw[hb]at KW
     have a0:Hid (R=(xs.map MC.c,q,eq)):=hid (by
      rw[Y.out,hj]
      show(xs.map MC.c++(if cK eq then _ else _:List SC×Nat×Int).1,(if cK eq then _ else _:List SC×Nat×Int).2)=_
      rw[hb]
      simp)
     clear Y hh hj a6;have a1:=hid (fun(w4:World) (x:PD w0 r s q eq w4) (f:Fr [r] wr w4)=>HL.out.read gCo x f)
     go_wp2_with fail;refine KW.out.mono ?_;rintro e w4 ⟨rfl,x4,f4⟩;have L4:=hid (a1.out w4 x4 f4);clear x4 f4 KW a1 HL;go_wp2_with fail;go_ret;rw[a0.out];exact a3.out _ _ _ _ _ _ L4.out
   ·obtain rfl:k=n:=by omega
    have d1:decide ((k:Int)<(k:Int))=false:=aB (by omega)
    have a0:Hid (R=(xs.map MC.c,q,eq)):=hid (by rw[Y.out,Nat.sub_self];simp[dX])
    go_wp2_with fail;go_ret;rw[a0.out];exact a3.out _ _ _ _ _ _ HL.out
end re
set_option maxRecDepth 100000
namespace re
open RowKit Shelf mem sy vr po
theorem aLz:(Tryz.prog.info? 101).map (fun i=>(i.zero,i.size,i.bytes))=some (some (.agg #[.int .i64 0,.string ⟨#[]⟩]),2,24):=by kernel_rfl
theorem aGy:∃i,Tryz.prog.info? 101=some i∧i.zero=some (.agg #[.int .i64 0,.string ⟨#[]⟩])∧i.size=2∧i.bytes=24:=by
 have h:=aLz
 rcases hi:Tryz.prog.info? 101 with _ | i
 ·rw[hi]at h;cases h
 ·rw[hi]at h
  simp only[Option.map_some,Option.some.injEq,Prod.mk.injEq]at h;exact⟨i,rfl,h.1,h.2.1,h.2.2⟩
theorem aL2{w0:World}{r pb rb:Nat}{s:ByteArray}{p:Nat}{er:Int}{one:Nat→Int→Mk×Nat×Int}{w:World}(hs:s.size≤maxLen)(ai:p≤s.size)(h:PD w0 r s p er w)(he:er≠6)
 (b5:Hid (∀q e,q≤s.size→e≠6→(one q e).2.1≤s.size∧(one q e).2.2≠6))
 (HT:Hid (∀(J:World) (q:Nat) (e:Int),q≤s.size→e≠6→PD w0 r s q e J→Fr [r] w J→Calls Tryz.prog 159 #[.pointer (some ⟨rb,0,none⟩)] J (OP EMk (fun m:Mk=>m) r (PD w0 r s) (one q e).1 (one q e).2.1 (one q e).2.2 J))) :
 Calls Tryz.prog 158 #[uD r pb,.func (.func 159) #[] #[.pointer (some ⟨rb,0,none⟩)]] w (yO EMk 2 (fun m:Mk=>m) r (PD w0 r s) 101 (dA one s p er).1 (dA one s p er).2.1 (dA one s p er).2.2 w):=by
 have hW:=h.alloc (.cells #[.pointer (some ⟨r,0,none⟩),.pointer (some ⟨pb,0,none⟩)] 141);have B:=bT.new w 141 #[.pointer (some ⟨r,0,none⟩),.pointer (some ⟨pb,0,none⟩)];obtain⟨W,a5⟩:∃W,Hid (W=w.alloc (.cells #[.pointer (some ⟨r,0,none⟩),.pointer (some ⟨pb,0,none⟩)] 141)):=⟨_,hid rfl⟩;have ao:w.heap.size≠r:=by have:=h.lt;omega
 have a3:Hid (∀(J:World) A cap (xs:List Mk) q e,kD EMk 2 [r] (PD w0 r s) q e W 101 A cap xs J→yO EMk 2 (fun m:Mk=>m) r (PD w0 r s) 101 (xs.map (fun m:Mk=>m)) q e w (.returned (.slice A xs.length cap)) J):=hid (fun J A cap xs q e x=>x.end_ a5.out)
 have hf:Fr [] w W:=by rw[a5.out];exact(Fr.refl [] w).alloc _
 have b4:Hid (∀(J:World) (q:Nat) (e:Int),q≤s.size→e≠6→PD w0 r s q e J→Fr [r] W J→Calls Tryz.prog 159 #[.pointer (some ⟨rb,0,none⟩)] J (OP EMk (fun m:Mk=>m) r (PD w0 r s) (one q e).1 (one q e).2.1 (one q e).2.2 J)):=hid (fun J q e a b c f=>HT.out J q e a b c (hf.trans f (by simp) (fun x hx=>Or.inl hx)))
 rw[←a5.out]at hW B;have bd:Hid (w0.heap.size≤W.heap.size):=hid hW.be.size;have ap:r<W.heap.size:=hW.lt;have bc:Hid (r+1≤W.heap.size):=hid ap;have HB:Hid (∀J,Fr [r] W J→J.cell? ⟨w.heap.size,0,none⟩=some (.pointer (some ⟨r,0,none⟩))∧J.cell? ⟨w.heap.size,1,none⟩=some (.pointer (some ⟨pb,0,none⟩))):=hid (fun J f=>⟨(B.kept f (by simpa using ao)).cell 0,(B.kept f (by simpa using ao)).cell 1⟩)
 have x0:W.cell? ⟨w.heap.size,0,none⟩=some (.pointer (some ⟨r,0,none⟩)):=B.cell 0;have K:=hid (gY W r s p er hW.rd hs ai);have b2:Hid (∀J,RD J r s (nP s p er) (nE s p er)→Fr [r] W J→kD EMk 2 [r] (PD w0 r s) (nP s p er) (nE s p er) W 101 none 0 [] J):=hid (fun J x f=>kD.start (hW.of f x) f (by simpa using ap))
 have a9:=hid (fun(J:World) (q:Nat) (e:Int) (x:PD w0 r s q e J)=>mI (pb:=pb) x)
 have a8:=hid (eB s p er ai);have a7:=hid (vF s p er he);obtain⟨R,hR⟩:∃R,Hid (R=dA one s p er):=⟨_,hid rfl⟩;rw[←hR.out];have ah:Hid (R=dX one (nV s p er) (nP s p er) (eL s p er)):=hid hR.out;have ag:Hid (eL s p er=if 6000<nV s p er then fE (nE s p er) 4 else nE s p er):=hid rfl
 unfold jS at K;unfold PP at a9;have ae:=hid (uQ s p er he);clear hW B h hs ai ao hR he hf HT ap;generalize nP s p er=p1 at *;generalize nE s p er=e1 at *;generalize nV s p er=n at *;generalize eL s p er=e2 at *;obtain⟨i0,ar,b1,b3,ax⟩:=aGy;have Hi:=hid ar;have b8:=hid b1;have b7:=hid b3;have b6:=hid ax;clear ar b1 b3 ax;unfold uD at a9 b4 ⊢;go_enter Tryz.func158,Tryz.ntmps158;go_upto_region 1 with fail;rw[←a5.out];clear a5;generalize w.heap.size=bx at *;go_wp2_with fail;refine K.out.mono ?_;rintro e J ⟨rfl,x2,f2⟩;have L2:=hid (b2.out J x2 f2);obtain⟨c0,c1⟩:=HB.out J f2;clear x2 f2 K x0 b2
 by_cases h6:6000<n
 ·have d6:decide (6000<(n:Int))=true:=aC (by omega)
  have af:e2=fE e1 4:=by rw[ag.out,if_pos h6]
  have KF:=hid (uU J r s p1 e1 4 L2.out.pd.rd);rw[←af]at KF;unfold jS at KF;clear ag af;go_wp2_with fail;refine KF.out.mono ?_;rintro e w3 ⟨rfl,x3,f3⟩;have L3:=hid (L2.out.read gMk (L2.out.pd.of f3 x3) f3);clear x3 f3 KF c0 c1 L2;have a2:Hid (kD EMk 2 [r] (PD w0 r s) p1 e2 W 101 none 0 [] w3):=L3;have a4:Hid (R=(([]:List Mk).map (fun m:Mk=>m)++(dX one (n-0) p1 e2).1,(dX one (n-0) p1 e2).2)):=hid ah.out
  clear L3 ah;obtain⟨c0,c1⟩:=HB.out w3 a2.out.fr;go_wp2_with fail
  go_loopw [6,7] (fun v i wr=>∃(k:Nat) (A:Option Addr) (cap:Nat) (xs:List Mk) (q:Nat) (eq:Int),k≤n∧i=.int .i64 k∧v=.slice A xs.length cap∧xs.length≤k∧Hid (kD EMk 2 [r] (PD w0 r s) q eq W 101 A cap xs wr)∧Hid (q≤s.size)∧Hid (eq≠6)∧Hid (n≤6000∨cK eq=true)∧Hid (R=(xs.map (fun m:Mk=>m)++(dX one (n-k) q eq).1,(dX one (n-k) q eq).2))) (fun _ i _=>n-(intOf i).toNat)
  case atStart=>exact⟨0,none,0,[],p1,e2,by omega,rfl,rfl,by simp,a2,a8,a7,ae,a4⟩
  case round=>
   obtain⟨k,A,cap,xs,q,eq,hk,rfl,rfl,ba,HL,hq,aa,hh,Y⟩:=hrel;clear a2 a4 c0 c1 ae a8 a7;obtain⟨c0,c1⟩:=HB.out wr HL.out.fr
   by_cases bb:k<n
   ·have d1:decide ((k:Int)<(n:Int))=true:=aC (by omega)
    have KW:=hid (a9.out wr q eq HL.out.pd);obtain⟨j,hj⟩:∃j,n-k=j+1:=⟨n-k-1,by omega⟩
    have a6:n-(k+1)=j:=by omega
    rcases hb:cK eq with _ | _
    ·rw[hb]at KW
     have aw:n≤6000:=by
      rcases hh.out with h1 | h1
      ·exact h1
      ·rw[hb]at h1;cases h1
     exact absurd h6 (by omega)
    ·rw[hb]at KW
     have a0:Hid (R=(xs.map (fun m:Mk=>m),q,eq)):=hid (by
      rw[Y.out,hj]
      show(xs.map (fun m:Mk=>m)++(if cK eq then _ else _:List Mk×Nat×Int).1,(if cK eq then _ else _:List Mk×Nat×Int).2)=_
      rw[hb]
      simp)
     clear Y hh hj a6;have a1:=hid (fun(w4:World) (x:PD w0 r s q eq w4) (f:Fr [r] wr w4)=>HL.out.read gMk x f)
     go_wp2_with fail;refine KW.out.mono ?_;rintro e w4 ⟨rfl,x4,f4⟩;have L4:=hid (a1.out w4 x4 f4);clear x4 f4 KW a1 HL;go_wp2_with fail;go_ret;rw[a0.out];exact a3.out _ _ _ _ _ _ L4.out
   ·obtain rfl:k=n:=by omega
    have d1:decide ((k:Int)<(k:Int))=false:=aB (by omega)
    have a0:Hid (R=(xs.map (fun m:Mk=>m),q,eq)):=hid (by rw[Y.out,Nat.sub_self];simp[dX])
    go_wp2_with fail;go_ret;rw[a0.out];exact a3.out _ _ _ _ _ _ HL.out
 ·have d6:decide (6000<(n:Int))=false:=aB (by omega)
  have af:e2=e1:=by rw[ag.out,if_neg h6]
  subst af;have L3:=L2;clear ag c0 c1 L2;have a2:Hid (kD EMk 2 [r] (PD w0 r s) p1 e2 W 101 none 0 [] J):=L3;have a4:Hid (R=(([]:List Mk).map (fun m:Mk=>m)++(dX one (n-0) p1 e2).1,(dX one (n-0) p1 e2).2)):=hid ah.out
  clear L3 ah;obtain⟨c0,c1⟩:=HB.out J a2.out.fr;go_wp2_with fail
  go_loopw [6,7] (fun v i wr=>∃(k:Nat) (A:Option Addr) (cap:Nat) (xs:List Mk) (q:Nat) (eq:Int),k≤n∧i=.int .i64 k∧v=.slice A xs.length cap∧xs.length≤k∧Hid (kD EMk 2 [r] (PD w0 r s) q eq W 101 A cap xs wr)∧Hid (q≤s.size)∧Hid (eq≠6)∧Hid (n≤6000∨cK eq=true)∧Hid (R=(xs.map (fun m:Mk=>m)++(dX one (n-k) q eq).1,(dX one (n-k) q eq).2))) (fun _ i _=>n-(intOf i).toNat)
  case atStart=>exact⟨0,none,0,[],p1,e2,by omega,rfl,rfl,by simp,a2,a8,a7,ae,a4⟩
  case round=>
   obtain⟨k,A,cap,xs,q,eq,hk,rfl,rfl,ba,HL,hq,aa,hh,Y⟩:=hrel;clear a2 a4 c0 c1 ae a8 a7;obtain⟨c0,c1⟩:=HB.out wr HL.out.fr
   by_cases bb:k<n
   ·have d1:decide ((k:Int)<(n:Int))=true:=aC (by omega)
    have KW:=hid (a9.out wr q eq HL.out.pd);obtain⟨j,hj⟩:∃j,n-k=j+1:=⟨n-k-1,by omega⟩
    have a6:n-(k+1)=j:=by omega
    rcases hb:cK eq with _ | _
    ·rw[hb]at KW
     have aw:n≤6000:=by
      rcases hh.out with h1 | h1
      ·exact h1
      ·rw[hb]at h1;cases h1
     have a0:Hid (R=((xs.map (fun m:Mk=>m)++[(one q eq).1])++(dX one (n-(k+1)) (one q eq).2.1 (one q eq).2.2).1,(dX one (n-(k+1)) (one q eq).2.1 (one q eq).2.2).2)):=hid (by
      rw[Y.out,hj,a6]
      show(xs.map (fun m:Mk=>m)++(if cK eq then _ else _:List Mk×Nat×Int).1,(if cK eq then _ else _:List Mk×Nat×Int).2)=_
      rw[hb]
      simp)
     obtain⟨ak,aj⟩:=b5.out q eq hq.out aa.out;replace ak:=hid ak;replace aj:=hid aj;clear Y hh hj a6;have a1:=hid (fun(w4:World) (x:PD w0 r s q eq w4) (f:Fr [r] wr w4)=>HL.out.read gMk x f)
     go_wp2_with fail;refine KW.out.mono ?_;rintro e w4 ⟨rfl,x4,f4⟩;have L4:=hid (a1.out w4 x4 f4);have KT:=hid (b4.out w4 q eq hq.out aa.out x4 L4.out.fr);clear x4 f4 KW a1 HL;unfold OP at KT;generalize (one q eq).1=y at *;generalize (one q eq).2.1=q2 at *;generalize (one q eq).2.2=e3 at *;go_wp2_with fail;refine KT.out.mono ?_;rintro e w5 ⟨b,he,am,x5,f5,o5,n5⟩;obtain rfl:e=.returned (.agg #[.int .i64 b.at_,.string b.tag]):=he;have N5:=hid (L4.out.new n5);have L5:=hid (L4.out.read gMk x5 f5);have O5:=hid o5;replace am:=hid am;clear x5 f5 KT L4 hq aa n5 o5
     go_wp2_with (at_builtin;refine jF (us:=[.int .i64 b.at_,.string b.tag]) rfl _ _ _ rfl (L5.out.sg.alloc _) Tryz.underlying97 Hi.out b8.out b7.out b6.out rfl rfl rfl rfl (jO _ _ [.int .i64 b.at_,.string b.tag]) (gMk.one b) (by omega) (by omega) ?_;intro A3 au w6 ay f6 av;have L6:=hid (L5.out.push (aDn w0 r s) gMk bc.out O5.out N5.out ay f6 av);clear ay f6 av)
     have az:(xs++[b]).length=xs.length+1:=by simp
     have b9:Hid (R=((xs++[b]).map (fun m:Mk=>m)++(dX one (n-(k+1)) q2 e3).1,(dX one (n-(k+1)) q2 e3).2)):=hid (by rw[List.map_append,List.map_singleton,am.out];exact a0.out)
     go_roundw
     case rel=>exact⟨k+1,A3,au,xs++[b],q2,e3,by omega,by go_num,by rw[az],by omega,L6,ak,aj,hid (Or.inl aw),b9⟩
     case measure=>simp[intOf];omega
    ·rw[hb]at KW
     have a0:Hid (R=(xs.map (fun m:Mk=>m),q,eq)):=hid (by
      rw[Y.out,hj]
      show(xs.map (fun m:Mk=>m)++(if cK eq then _ else _:List Mk×Nat×Int).1,(if cK eq then _ else _:List Mk×Nat×Int).2)=_
      rw[hb]
      simp)
     clear Y hh hj a6;have a1:=hid (fun(w4:World) (x:PD w0 r s q eq w4) (f:Fr [r] wr w4)=>HL.out.read gMk x f)
     go_wp2_with fail;refine KW.out.mono ?_;rintro e w4 ⟨rfl,x4,f4⟩;have L4:=hid (a1.out w4 x4 f4);clear x4 f4 KW a1 HL;go_wp2_with fail;go_ret;rw[a0.out];exact a3.out _ _ _ _ _ _ L4.out
   ·obtain rfl:k=n:=by omega
    have d1:decide ((k:Int)<(k:Int))=false:=aB (by omega)
    have a0:Hid (R=(xs.map (fun m:Mk=>m),q,eq)):=hid (by rw[Y.out,Nat.sub_self];simp[dX])
    go_wp2_with fail;go_ret;rw[a0.out];exact a3.out _ _ _ _ _ _ HL.out
end re
set_option maxRecDepth 100000
namespace re
open RowKit Shelf mem sy vr po
theorem PD.set{w0 w:World}{r:Nat}{s:ByteArray}{p:Nat}{er:Int}(h:PD w0 r s p er w){b:Nat}(hb:b≠r)(h0:w0.heap.size≤b)(i:Nat)(v:Value):PD w0 r s p er (w.setCell ⟨b,i,none⟩ v):=by
 have f:Fr [b] w (w.setCell ⟨b,i,none⟩ v):=(Fr.refl [b] w).setCell (p:=⟨b,i,none⟩) (Or.inl (by simp)) _
 exact⟨⟨h.rd.box.kept f (by simpa using hb.symm)⟩,fO h.be f (fun x J=>by rw[aD]at J;rw[J];exact h0),h.ge⟩
structure SW(w0:World)(r:Nat)(s:ByteArray)(p:Nat)(er:Int)(W:World)(t:TypeId)(b:Nat)(cs:Array Value)(w:World):Prop where
 pd:PD w0 r s p er w
 fr:Fr [r] W w
 bx:bT w b t cs
 nw:W.heap.size≤b
 h0:w0.heap.size≤W.heap.size
 hr:r<W.heap.size
theorem SW.read{w0 W w Y:World}{r:Nat}{s:ByteArray}{p q:Nat}{er e2:Int}{t:TypeId}{b:Nat}{cs:Array Value}(h:SW w0 r s p er W t b cs w)(x:PD w0 r s q e2 Y)(f:Fr [r] w Y):SW w0 r s q e2 W t b cs Y:=
 ⟨x,h.fr.trans f (fun x J=>Or.inl J) (fun x J=>Or.inl J),h.bx.kept f (by rw[aD];have:=h.nw;have:=h.hr;omega),h.nw,h.h0,h.hr⟩
theorem SW.put{w0 W w:World}{r:Nat}{s:ByteArray}{p:Nat}{er:Int}{t:TypeId}{b:Nat}{cs:Array Value}(h:SW w0 r s p er W t b cs w)(i:Nat)(v:Value):SW w0 r s p er W t b (cs.setIfInBounds i v) (w.setCell ⟨b,i,none⟩ v):=
 ⟨h.pd.set (by have:=h.nw;have:=h.hr;omega) (aZ h.h0 h.nw) i v,h.fr.setCell (p:=⟨b,i,none⟩) (Or.inr h.nw) v,h.bx.put i v,h.nw,h.h0,h.hr⟩
theorem SW.new{w0 W w:World}{r:Nat}{s:ByteArray}{p:Nat}{er:Int}(x:PD w0 r s p er w)(f:Fr [r] W w)(h0:w0.heap.size≤W.heap.size)(hr:r<W.heap.size)(t:TypeId)(cs:Array Value):SW w0 r s p er W t w.heap.size cs (w.alloc (.cells cs t)):=
 ⟨x.alloc _,f.alloc _,bT.new w t cs,f.size,h0,hr⟩
def nU(m:List (List UInt8))(s:ByteArray)(p:Nat)(er:Int):SF×Nat×Int:=
 (⟨tT m s p er,tT m s (nP s p er) (tN m s p er),tT m s (nP s (nP s p er) (tN m s p er)) (tN m s (nP s p er) (tN m s p er))⟩,
  nP s (nP s (nP s p er) (tN m s p er)) (tN m s (nP s p er) (tN m s p er)),tN m s (nP s (nP s p er) (tN m s p er)) (tN m s (nP s p er) (tN m s p er)))
theorem uF:Tryz.prog.underlying 103=some (.struct (Tryz.prog.fieldsOf 103)):=by kernel_rfl
theorem aNJ{w0:World}{r pb:Nat}{s:ByteArray}{p:Nat}{er:Int}{pA:Option Addr}{pc:Nat}{m:List (List UInt8)}{w:World}(hp:Pl w0 pb pA pc m)(hm:m.length≤1000000)(hs:s.size≤maxLen)(a1:p≤s.size)(h:PD w0 r s p er w) :
 Calls Tryz.prog 100 #[uD r pb] w (PP w0 r s (.agg #[.string (nU m s p er).1.name,.string (nU m s p er).1.kinds,.string (nU m s p er).1.ret]) (nU m s p er).2.1 (nU m s p er).2.2 w):=by
 obtain⟨W,J⟩:∃W,Hid (W=(w.alloc (.cells #[.pointer (some ⟨r,0,none⟩),.pointer (some ⟨pb,0,none⟩)] 141)).alloc (.cells #[.string ⟨#[]⟩,.string ⟨#[]⟩,.string ⟨#[]⟩] 103)):=⟨_,hid rfl⟩;have hz:(w.alloc (.cells #[.pointer (some ⟨r,0,none⟩),.pointer (some ⟨pb,0,none⟩)] 141)).heap.size=w.heap.size+1:=bH _;have hW:PD w0 r s p er W:=by rw[J.out];exact(h.alloc _).alloc _
 have hf:Hid (Fr [] w W):=hid (by rw[J.out];exact((Fr.refl [] w).alloc _).alloc _)
 have B0:bT W w.heap.size 141 #[.pointer (some ⟨r,0,none⟩),.pointer (some ⟨pb,0,none⟩)]:=by rw[J.out];exact(bT.new w _ _).kept ((Fr.refl [] _).alloc _) (by simp)
 have B1:bT W (w.heap.size+1) 103 #[.string ⟨#[]⟩,.string ⟨#[]⟩,.string ⟨#[]⟩]:=by rw[J.out,←hz];exact bT.new _ _ _
 have a4:=h.lt;have n0:w.heap.size≠r:=by omega
 have n1:w.heap.size+1≠r:=by omega
 have HB:Hid (∀Y,Fr [r] W Y→bT Y w.heap.size 141 #[.pointer (some ⟨r,0,none⟩),.pointer (some ⟨pb,0,none⟩)]∧bT Y (w.heap.size+1) 103 #[.string ⟨#[]⟩,.string ⟨#[]⟩,.string ⟨#[]⟩]):=hid (fun Y f=>⟨B0.kept f (by simpa using n0),B1.kept f (by simpa using n1)⟩)
 have HT:=hid (fun(Y:World) (q:Nat) (e:Int) (hq:q≤s.size) (x:PD w0 r s q e Y)=>gF (pb:=pb) hp hm hs hq x)
 have a3:Hid (w0.heap.size≤W.heap.size):=hid hW.be.size;have a7:Hid (r<W.heap.size):=hid hW.lt;have q1:=hid (eB s p er a1);have q2:=hid (eB s (nP s p er) (tN m s p er) q1.out)
 have a0:Hid (∀(w8:World) (q:Nat) (e:Int) (b3:Nat) (cs:Array Value) (x y z:Value),SW w0 r s q e W 103 b3 cs w8→bT (((w8.setCell ⟨w.heap.size+1,0,none⟩ x).setCell ⟨w.heap.size+1,1,none⟩ y).setCell ⟨w.heap.size+1,2,none⟩ z) (w.heap.size+1) 103 #[x,y,z]∧PD w0 r s q e (((w8.setCell ⟨w.heap.size+1,0,none⟩ x).setCell ⟨w.heap.size+1,1,none⟩ y).setCell ⟨w.heap.size+1,2,none⟩ z)∧Fr [r] w (((w8.setCell ⟨w.heap.size+1,0,none⟩ x).setCell ⟨w.heap.size+1,1,none⟩ y).setCell ⟨w.heap.size+1,2,none⟩ z)):=hid (fun w8 q e b3 cs x y z g=>by
  have b:=(HB.out w8 g.fr).2;have l0:w0.heap.size≤w.heap.size+1:=aZ h.be.size (Nat.le_succ _);have fa:Fr [r] w w8:=hf.out.trans g.fr (by simp) (fun x hx=>Or.inl hx)
  exact⟨((b.put 0 x).put 1 y).put 2 z,((g.pd.set n1 l0 0 x).set n1 l0 1 y).set n1 l0 2 z,((fa.setCell (p:=⟨w.heap.size+1,0,none⟩) (Or.inr (Nat.le_succ _)) x).setCell (p:=⟨w.heap.size+1,1,none⟩) (Or.inr (Nat.le_succ _)) y).setCell (p:=⟨w.heap.size+1,2,none⟩) (Or.inr (Nat.le_succ _)) z⟩)
 have K1:=hid (HT.out W p er a1 hW);have x0:W.cell? ⟨w.heap.size,0,none⟩=some (.pointer (some ⟨r,0,none⟩)):=B0.cell 0;have x1:W.cell? ⟨w.heap.size,1,none⟩=some (.pointer (some ⟨pb,0,none⟩)):=B0.cell 1;have HF:=hid (Fr.refl [r] W);unfold PP at HT K1 ⊢;unfold nU;dsimp only;clear hp hm hs a1 h hW B0 B1 a4 n0 n1 hf;unfold uD at *;generalize tT m s p er=a at *;generalize nP s p er=p1 at *;generalize tN m s p er=e1 at *;have aa:=hid (fun(w3:World) (x:PD w0 r s p1 e1 w3)=>HT.out w3 p1 e1 q1.out x)
 generalize tT m s p1 e1=b at *;generalize nP s p1 e1=p2 at *;generalize tN m s p1 e1=e2 at *;have a6:=hid (fun(w3:World) (x:PD w0 r s p2 e2 w3)=>HT.out w3 p2 e2 q2.out x)
 generalize tT m s p2 e2=c at *;generalize nP s p2 e2=p3 at *;generalize tN m s p2 e2=e3 at *;clear HT;go_enter Tryz.func100,Tryz.ntmps100;go_upto_region 1 with fail;rw[←J.out]
 try rw[hz]
 clear hz J;generalize w.heap.size=bx at *;go_wp2_with fail;refine K1.out.mono ?_;rintro e Y ⟨rfl,y2,f2⟩;have S3:=hid (SW.new y2 f2 a3.out a7.out 103 #[.string a,.string ⟨#[]⟩,.string ⟨#[]⟩]);clear y2 f2 K1 x0 x1;go_upto_region 2 with fail;generalize Y.alloc (.cells #[.string a,.string ⟨#[]⟩,.string ⟨#[]⟩] 103)=w3 at *;generalize Y.heap.size=b3 at *;have x0:w3.cell? ⟨bx,0,none⟩=some (.pointer (some ⟨r,0,none⟩)):=(HB.out _ S3.out.fr).1.cell 0;have x1:w3.cell? ⟨bx,1,none⟩=some (.pointer (some ⟨pb,0,none⟩)):=(HB.out _ S3.out.fr).1.cell 1;have K2:=hid (aa.out w3 S3.out.pd);go_wp2_with fail;refine K2.out.mono ?_;rintro e w4 ⟨rfl,y4,f4⟩;have S4:=hid (S3.out.read y4 f4);have c4:=S4.out.bx.cell 1;have g4:=S4.out.bx.free 1;clear y4 f4 K2 x0 x1 S3;go_upto_region 3 with fail;have S5:=hid (S4.out.put 1 (.string b));generalize w4.setCell ⟨b3,1,none⟩ (.string b)=w5 at *;clear c4 g4 S4;have x0:w5.cell? ⟨bx,0,none⟩=some (.pointer (some ⟨r,0,none⟩)):=(HB.out _ S5.out.fr).1.cell 0
 have x1:w5.cell? ⟨bx,1,none⟩=some (.pointer (some ⟨pb,0,none⟩)):=(HB.out _ S5.out.fr).1.cell 1;have K3:=hid (a6.out w5 S5.out.pd);go_wp2_with fail;refine K3.out.mono ?_;rintro e w6 ⟨rfl,y6,f6⟩;have S6:=hid (S5.out.read y6 f6);have c6:=S6.out.bx.cell 2;have g6:=S6.out.bx.free 2;clear y6 f6 K3 x0 x1 S5;go_upto_region 4 with fail;have S7:=hid (S6.out.put 2 (.string c));generalize w6.setCell ⟨b3,2,none⟩ (.string c)=w7 at *;clear c6 g6 S6;have x0:w7.cell? ⟨b3,0,none⟩=some (.string a):=S7.out.bx.cell 0;have x1:w7.cell? ⟨b3,1,none⟩=some (.string b):=S7.out.bx.cell 1;have x2:w7.cell? ⟨b3,2,none⟩=some (.string c):=S7.out.bx.cell 2;have B7:=hid (HB.out _ S7.out.fr).2;have z0:w7.cell? ⟨bx+1,0,none⟩=some (.string ⟨#[]⟩):=B7.out.cell 0;have z1:w7.cell? ⟨bx+1,1,none⟩=some (.string ⟨#[]⟩):=B7.out.cell 1;have z2:w7.cell? ⟨bx+1,2,none⟩=some (.string ⟨#[]⟩):=B7.out.cell 2;have v0:=B7.out.free 0;have v1:=B7.out.free 1
 have v2:=B7.out.free 2;obtain⟨hB,hD,a2⟩:=a0.out w7 p3 e3 b3 _ (.string a) (.string b) (.string c) S7.out;have a8:=hid hB;have a5:=hid hD;have a9:=hid a2;clear hB hD a2 a0;go_wp2_with fail;refine bodyPost_ret (results_cell_row rfl _ _ _ _ _ _ _ rfl a8.out uF rfl (by kernel_rfl)) rfl ?_
 exact⟨rfl,a5.out,a9.out⟩
end re
set_option maxRecDepth 100000
namespace re
open RowKit Shelf mem sy vr po
def nT(m:List (List UInt8))(s:ByteArray)(p:Nat)(er:Int):Mk×Nat×Int:=
 (⟨(nV s p er:Nat),tT m s (nP s p er) (nE s p er)⟩,nP s (nP s p er) (nE s p er),tN m s (nP s p er) (nE s p er))
theorem uM:Tryz.prog.underlying 101=some (.struct (Tryz.prog.fieldsOf 101)):=by kernel_rfl
theorem aKs{w0:World}{r pb rb:Nat}{s:ByteArray}{p:Nat}{er:Int}{pA:Option Addr}{pc:Nat}{m:List (List UInt8)}{w:World}(hp:Pl w0 pb pA pc m)(hm:m.length≤1000000)(hs:s.size≤maxLen)(a1:p≤s.size)(h:PD w0 r s p er w)(a5:bT w rb 141 #[.pointer (some ⟨r,0,none⟩),.pointer (some ⟨pb,0,none⟩)])(a3:rb≠r) :
 Calls Tryz.prog 159 #[.pointer (some ⟨rb,0,none⟩)] w (PP w0 r s (.agg #[.int .i64 (nT m s p er).1.at_,.string (nT m s p er).1.tag]) (nT m s p er).2.1 (nT m s p er).2.2 w):=by
 obtain⟨W,Y⟩:∃W,Hid (W=w.alloc (.cells #[.int .i64 0,.string ⟨#[]⟩] 101)):=⟨_,hid rfl⟩;have hW:PD w0 r s p er W:=by rw[Y.out];exact h.alloc _
 have hf:Hid (Fr [] w W):=hid (by rw[Y.out];exact(Fr.refl [] w).alloc _)
 have B0:bT W rb 141 #[.pointer (some ⟨r,0,none⟩),.pointer (some ⟨pb,0,none⟩)]:=a5.kept hf.out (by simp)
 have B1:bT W w.heap.size 101 #[.int .i64 0,.string ⟨#[]⟩]:=by rw[Y.out];exact bT.new _ _ _
 have a7:=h.lt;have n1:w.heap.size≠r:=by omega
 have HB:Hid (∀J,Fr [r] W J→bT J rb 141 #[.pointer (some ⟨r,0,none⟩),.pointer (some ⟨pb,0,none⟩)]∧bT J w.heap.size 101 #[.int .i64 0,.string ⟨#[]⟩]):=hid (fun J f=>⟨B0.kept f (by simpa using a3),B1.kept f (by simpa using n1)⟩)
 have a6:Hid (w0.heap.size≤W.heap.size):=hid hW.be.size;have a9:Hid (r<W.heap.size):=hid hW.lt;have q1:=hid (eB s p er a1)
 have a0:Hid (∀(w8:World) (q:Nat) (e:Int) (b3:Nat) (cs:Array Value) (x y:Value),SW w0 r s q e W 101 b3 cs w8→bT ((w8.setCell ⟨w.heap.size,0,none⟩ x).setCell ⟨w.heap.size,1,none⟩ y) w.heap.size 101 #[x,y]∧PD w0 r s q e ((w8.setCell ⟨w.heap.size,0,none⟩ x).setCell ⟨w.heap.size,1,none⟩ y)∧Fr [r] w ((w8.setCell ⟨w.heap.size,0,none⟩ x).setCell ⟨w.heap.size,1,none⟩ y)):=hid (fun w8 q e b3 cs x y g=>by
  have b:=(HB.out w8 g.fr).2;have l0:w0.heap.size≤w.heap.size:=h.be.size;have fa:Fr [r] w w8:=hf.out.trans g.fr (by simp) (fun x hx=>Or.inl hx)
  exact⟨(b.put 0 x).put 1 y,(g.pd.set n1 l0 0 x).set n1 l0 1 y,(fa.setCell (p:=⟨w.heap.size,0,none⟩) (Or.inr (aY _)) x).setCell (p:=⟨w.heap.size,1,none⟩) (Or.inr (aY _)) y⟩)
 have K1:=hid (gY W r s p er hW.rd hs a1);have HO:Hid (∀J,RD J r s (nP s p er) (nE s p er)→Fr [r] W J→PD w0 r s (nP s p er) (nE s p er) J):=hid (fun J x f=>hW.of f x)
 have a2:=hid (fun(w3:World) (x:PD w0 r s (nP s p er) (nE s p er) w3)=>gF (pb:=pb) hp hm hs q1.out x)
 have x0:W.cell? ⟨rb,0,none⟩=some (.pointer (some ⟨r,0,none⟩)):=B0.cell 0;unfold PP at a2 ⊢;unfold jS at K1;unfold nT;dsimp only;clear hp hm hs a1 h hW B0 B1 a7 n1 hf a5 a3;unfold uD at *;generalize nV s p er=a at *;generalize nP s p er=p1 at *;generalize nE s p er=e1 at *;generalize tT m s p1 e1=c at *;generalize nP s p1 e1=p2 at *;generalize tN m s p1 e1=e2 at *;go_enter Tryz.func159,Tryz.ntmps159;go_upto_region 1 with fail;rw[←Y.out];clear Y;generalize w.heap.size=bx at *;go_wp2_with fail;refine K1.out.mono ?_;rintro e J ⟨rfl,y2,f2⟩;have S3:=hid (SW.new (HO.out J y2 f2) f2 a6.out a9.out 101 #[.int .i64 (a:Int),.string ⟨#[]⟩]);clear y2 f2 K1 x0 HO;go_upto_region 2 with fail;generalize J.alloc (.cells #[.int .i64 (a:Int),.string ⟨#[]⟩] 101)=w3 at *;generalize J.heap.size=b3 at *;have x0:w3.cell? ⟨rb,0,none⟩=some (.pointer (some ⟨r,0,none⟩)):=(HB.out _ S3.out.fr).1.cell 0
 have x1:w3.cell? ⟨rb,1,none⟩=some (.pointer (some ⟨pb,0,none⟩)):=(HB.out _ S3.out.fr).1.cell 1;have K2:=hid (a2.out w3 S3.out.pd);go_wp2_with fail;refine K2.out.mono ?_;rintro e w6 ⟨rfl,y6,f6⟩;have S6:=hid (S3.out.read y6 f6);have c6:=S6.out.bx.cell 1;have g6:=S6.out.bx.free 1;clear y6 f6 K2 x0 x1 S3 a2;go_upto_region 3 with fail;have S7:=hid (S6.out.put 1 (.string c));generalize w6.setCell ⟨b3,1,none⟩ (.string c)=w7 at *;clear c6 g6 S6;have x0:w7.cell? ⟨b3,0,none⟩=some (.int .i64 (a:Int)):=S7.out.bx.cell 0;have x1:w7.cell? ⟨b3,1,none⟩=some (.string c):=S7.out.bx.cell 1;have B7:=hid (HB.out _ S7.out.fr).2;have z0:w7.cell? ⟨bx,0,none⟩=some (.int .i64 0):=B7.out.cell 0;have z1:w7.cell? ⟨bx,1,none⟩=some (.string ⟨#[]⟩):=B7.out.cell 1;have v0:=B7.out.free 0;have v1:=B7.out.free 1;obtain⟨hB,hD,a4⟩:=a0.out w7 p2 e2 b3 _ (.int .i64 (a:Int)) (.string c) S7.out;have aa:=hid hB;have a8:=hid hD
 have ae:=hid a4;clear hB hD a4 a0;go_wp2_with fail;refine bodyPost_ret (results_cell_row rfl _ _ _ _ _ _ _ rfl aa.out uM rfl (by kernel_rfl)) rfl ?_
 exact⟨rfl,a8.out,ae.out⟩
end re
namespace re
open RowKit Shelf mem sy vr po
theorem aM2(s:ByteArray)(p:Nat)(er:Int)(J:p≤s.size):nV s p er≤268435456:=by
 unfold nV;split
 ·omega
 ·by_cases h:(ct s p).2.2=0
  ·exact(aHg s p J h).2
  ·rw[(aAf s p h).1];omega
theorem aMX(s:ByteArray)(p:Nat)(er:Int)(J:p≤s.size):(Lit.int .i64 (nV s p er:Nat)).wf=true:=by
 have:=aM2 s p er J
 show(decide ((-9223372036854775808:Int)≤(nV s p er:Nat))&&decide (((nV s p er:Nat):Int)≤9223372036854775807))=true
 simp only[Bool.and_eq_true,bJ];omega
theorem kG(m:List (List UInt8))(s:ByteArray)(p:Nat)(er:Int)(h:∀x∈m,x.length≤maxLen):(tT m s p er).size≤maxLen:=by
 have h0:(ByteArray.mk #[]).size≤maxLen:=by unfold maxLen;decide
 unfold tT;split
 ·exact h0
 ·rcases J:m[nV s p er]? with _ | x
  ·exact h0
  ·simp only[Option.map_some,Option.getD_some]
   have:=h x (List.mem_of_getElem? J)
   simpa[ByteArray.size] using this
theorem zP(m:List (List UInt8))(s:ByteArray)(h:∀x∈m,x.length≤maxLen):∀(k q:Nat) (e:Int),∀x∈(dX (fG m s) k q e).1,x.size≤maxLen
 | 0,q,e,x,J=>by simp[dX]at J
 | k+1,q,e,x,J=>by
  unfold dX at J;split at J
  ·simp at J
  ·rcases aM.1 J with rfl | J
   ·exact kG m s q e h
   ·exact zP m s h k _ _ x J
def Okp(s:ByteArray){α:Type}(one:Nat→Int→α×Nat×Int):Prop:=∀q e,q≤s.size→e≠6→(one q e).2.1≤s.size∧(one q e).2.2≠6
theorem aFZ(m:List (List UInt8))(s:ByteArray):Okp s (fG m s):=fun q e J Y=>⟨eB s q e J,lN m s q e Y⟩
theorem aNo(m:List (List UInt8))(s:ByteArray):Okp s (nT m s):=fun q e J Y=>⟨eB s _ _ (eB s q e J),lN m s _ _ (rV s q e Y)⟩
theorem aNf(m:List (List UInt8))(s:ByteArray):Okp s (nU m s):=fun q e J Y=>⟨eB s _ _ (eB s _ _ (eB s q e J)),lN m s _ _ (lN m s _ _ (lN m s q e Y))⟩
theorem aMF{s:ByteArray}{α:Type}{one:Nat→Int→α×Nat×Int}(h:Okp s one):∀(k q:Nat) (e:Int),q≤s.size→e≠6→(dX one k q e).2.1≤s.size∧(dX one k q e).2.2≠6
 | 0,q,e,hq,he=>⟨hq,he⟩
 | k+1,q,e,hq,he=>by
  unfold dX;split
  ·exact⟨hq,he⟩
  ·exact aMF h k _ _ (h q e hq he).1 (h q e hq he).2
theorem oL{s:ByteArray}{α:Type}{one:Nat→Int→α×Nat×Int}(h:Okp s one):Okp s (fun q e=>dA one s q e):=fun q e J Y=>aMF h _ _ _ (eB s q e J) (vF s q e Y)
theorem aLX{w0:World}{r pb rb:Nat}{s:ByteArray}{p:Nat}{er:Int}{pA:Option Addr}{pc:Nat}{m:List (List UInt8)}{w:World}(hp:Pl w0 pb pA pc m)(hm:m.length≤1000000)(a1:∀x∈m,x.length≤maxLen)(hs:s.size≤maxLen)(J:p≤s.size)(h:PD w0 r s p er w)(a0:bT w rb 141 #[.pointer (some ⟨r,0,none⟩),.pointer (some ⟨pb,0,none⟩)])(Y:rb≠r) :
 Calls Tryz.prog 159 #[.pointer (some ⟨rb,0,none⟩)] w (OP EMk (fun m:Mk=>m) r (PD w0 r s) (nT m s p er).1 (nT m s p er).2.1 (nT m s p er).2.2 w):=
 (aKs hp hm hs J h a0 Y).mono (fun e w' x=>⟨(nT m s p er).1,x.1,rfl,x.2.1,x.2.2,⟨kG m s _ _ a1,aMX s p er J⟩,fun x hx=>by cases hx⟩)
theorem aOA{w0:World}{r pb:Nat}{s:ByteArray}{p:Nat}{er:Int}{pA:Option Addr}{pc:Nat}{m:List (List UInt8)}{w:World}(hp:Pl w0 pb pA pc m)(hm:m.length≤1000000)(J:∀x∈m,x.length≤maxLen)(hs:s.size≤maxLen)(Y:p≤s.size)(h:PD w0 r s p er w) :
 Calls Tryz.prog 100 #[uD r pb] w (OP EFn (fun m:SF=>m) r (PD w0 r s) (nU m s p er).1 (nU m s p er).2.1 (nU m s p er).2.2 w):=
 (aNJ hp hm hs Y h).mono (fun e w' x=>⟨(nU m s p er).1,x.1,rfl,x.2.1,x.2.2,⟨kG m s _ _ J,kG m s _ _ J,kG m s _ _ J⟩,fun x hx=>by cases hx⟩)
def vN(m:List (List UInt8))(s:ByteArray)(p:Nat)(er:Int):SO×Nat×Int:=
 (⟨tT m s p er,tT m s (nP s p er) (tN m s p er),(dA (nT m s) s (nP s (nP s p er) (tN m s p er)) (tN m s (nP s p er) (tN m s p er))).1⟩,
  (dA (nT m s) s (nP s (nP s p er) (tN m s p er)) (tN m s (nP s p er) (tN m s p er))).2)
def lW(m:List (List UInt8))(s:ByteArray)(p:Nat)(er:Int):SC×Nat×Int:=
 let J:=nP s p er
 let e1:=nE s p er
 let p2:=nP s J e1
 let e2:=tN m s J e1
 let p3:=nP s p2 e2
 let Y:=tN m s p2 e2
 let p4:=nP s p3 Y
 let e4:=nE s p3 Y
 let p5:=nP s p4 e4
 let e5:=tN m s p4 e4
 (⟨(nV s p er:Nat),tT m s J e1,tT m s p2 e2,(nV s p3 Y:Nat),tT m s p4 e4,(dA (fG m s) s p5 e5).1⟩,(dA (fG m s) s p5 e5).2)
theorem aNQ(m:List (List UInt8))(s:ByteArray):Okp s (vN m s):=fun q e J Y=>oL (aNo m s) _ _ (eB s _ _ (eB s q e J)) (lN m s _ _ (lN m s q e Y))
theorem aNI(m:List (List UInt8))(s:ByteArray):Okp s (lW m s):=fun q e J Y=>oL (aFZ m s) _ _ (eB s _ _ (eB s _ _ (eB s _ _ (eB s _ _ (eB s q e J))))) (lN m s _ _ (rV s _ _ (lN m s _ _ (lN m s _ _ (rV s q e Y)))))
end re
namespace re
open RowKit Shelf mem sy vr po
def rdG(m:List (List UInt8))(s:ByteArray):List ByteArray×Nat×Int:=dA (fG m s) s (nP s 0 0) (tN m s 0 0)
def rdW(m:List (List UInt8))(s:ByteArray):List ByteArray×Nat×Int:=dA (fG m s) s (rdG m s).2.1 (rdG m s).2.2
def uS(m:List (List UInt8))(s:ByteArray):List ByteArray×Nat×Int:=dA (fG m s) s (rdW m s).2.1 (rdW m s).2.2
def vP(m:List (List UInt8))(s:ByteArray):List SO×Nat×Int:=dA (vN m s) s (uS m s).2.1 (uS m s).2.2
def lF(m:List (List UInt8))(s:ByteArray):List SF×Nat×Int:=dA (nU m s) s (vP m s).2.1 (vP m s).2.2
def vH(m:List (List UInt8))(s:ByteArray):List SC×Nat×Int:=dA (lW m s) s (lF m s).2.1 (lF m s).2.2
def oQ(m:List (List UInt8))(s:ByteArray):Int:=dE s (vH m s).2.1 (vH m s).2.2
def rdA(m:List (List UInt8))(s:ByteArray):SU:=⟨tT m s 0 0,(rdG m s).1,(rdW m s).1,(uS m s).1,⟨(vP m s).1,(lF m s).1,(vH m s).1⟩⟩
def su0:SU:=⟨⟨#[]⟩,[],[],[],⟨[],[],[]⟩⟩
def kF(m:List (List UInt8))(s:ByteArray):SU:=if oQ m s=0 then rdA m s else su0
def RDP(S:SU)(er:Int)(w:World)(e:Ending)(w':World):Prop:=∃u:MU,e=.returned (.tuple #[u.val,.int .i64 er])∧u.su=S∧eY w' u∧Below w.heap.size w w'
theorem aHQ(m:List (List UInt8))(s:ByteArray):nP s 0 0≤s.size∧tN m s 0 0≠6:=aFZ m s 0 0 (bA _) (by decide)
theorem aH3(m:List (List UInt8))(s:ByteArray):(rdG m s).2.1≤s.size∧(rdG m s).2.2≠6:=oL (aFZ m s) _ _ (aHQ m s).1 (aHQ m s).2
theorem aIj(m:List (List UInt8))(s:ByteArray):(rdW m s).2.1≤s.size∧(rdW m s).2.2≠6:=oL (aFZ m s) _ _ (aH3 m s).1 (aH3 m s).2
theorem aD5(m:List (List UInt8))(s:ByteArray):(uS m s).2.1≤s.size∧(uS m s).2.2≠6:=oL (aFZ m s) _ _ (aIj m s).1 (aIj m s).2
theorem aDQ(m:List (List UInt8))(s:ByteArray):(vP m s).2.1≤s.size∧(vP m s).2.2≠6:=oL (aNQ m s) _ _ (aD5 m s).1 (aD5 m s).2
theorem aE5(m:List (List UInt8))(s:ByteArray):(lF m s).2.1≤s.size∧(lF m s).2.2≠6:=oL (aNf m s) _ _ (aDQ m s).1 (aDQ m s).2
theorem aOM(m:List (List UInt8))(s:ByteArray):(vH m s).2.1≤s.size∧(vH m s).2.2≠6:=oL (aNI m s) _ _ (aE5 m s).1 (aE5 m s).2
structure LL{β:Type}(E:El β)(sz:Nat)(e:TypeId)(lo:Nat)(A:Option Addr)(cap:Nat)(bs:List β)(w:World):Prop where
 sg:Sg sz w e A cap bs.length (bs.flatMap E.row)
 nw:∀x∈blk A,lo≤x
 ok:∀b∈bs,E.ok w b∧∀x∈E.bl b,lo≤x
theorem LL.kept{β:Type}{E:El β}{sz:Nat}{e:TypeId}{lo:Nat}{A:Option Addr}{cap:Nat}{bs:List β}{w w':World}{F:List Nat}(G:E.Good sz)(h:LL E sz e lo A cap bs w)(f:Fr F w w')(hF:∀x∈F,x<lo):LL E sz e lo A cap bs w':=
 ⟨h.sg.kept f (fun x Y J=>by have:=h.nw x Y;have:=hF x J;omega),h.nw,fun b hb=>⟨G.kept (h.ok b hb).1 f (fun x Y J=>by have:=(h.ok b hb).2 x Y;have:=hF x J;omega),(h.ok b hb).2⟩⟩
structure TL1(lo:Nat)(A:Option Addr)(cap:Nat)(xs:List ByteArray)(w:World):Prop where
 rd:Rd w A (xs.map Value.string)
 nw:∀x∈blk A,lo≤x
theorem TL1.kept{lo:Nat}{A:Option Addr}{cap:Nat}{xs:List ByteArray}{w w':World}{F:List Nat}(h:TL1 lo A cap xs w)(f:Fr F w w')(J:∀x∈F,x<lo):TL1 lo A cap xs w':=
 ⟨h.rd.kept f (fun x hx Y=>by have:=h.nw x hx;have:=J x Y;omega),h.nw⟩
theorem aJ1{lo:Nat}{gA wA kA oA fA cA:Option Addr}{gc wc kc oc fc cc:Nat}{g w k:List ByteArray}{os:List MO}{fs:List SF}{cs:List MC}{eO eF eC:TypeId}{W:World}(n:ByteArray)(hg:TL1 lo gA gc g W)(hw:TL1 lo wA wc w W)(hk:TL1 lo kA kc k W)(Y:LL EOb 3 eO lo oA oc os W)(hf:LL EFn 3 eF lo fA fc fs W)(hc:LL ECo 6 eC lo cA cc cs W) :
 eY W ⟨n,gA,gc,g,wA,wc,w,kA,kc,k,⟨oA,oc,os,fA,fc,fs,cA,cc,cs⟩⟩:=
 ⟨hg.rd,hw.rd,hk.rd,⟨aAa (f:=MO.row) (fun _=>rfl) (by decide) Y.sg,aAa (f:=kW) (fun _=>rfl) (by decide) hf.sg,aAa (f:=MC.row) (fun _=>rfl) (by decide) hc.sg,fun x J=>(Y.ok x J).1.1,fun x J=>(hf.ok x J).1,fun x J=>(hc.ok x J).1.1,aZ Y.sg.le Y.sg.max,aZ hf.sg.le hf.sg.max,aZ hc.sg.le hc.sg.max⟩⟩
theorem yO.ll{α β:Type}{E:El β}{sz:Nat}{pr:β→α}{r:Nat}{D:Nat→Int→World→Prop}{e:TypeId}{L:List α}{q:Nat}{eq:Int}{w w':World}{Y:Ending}{lo:Nat}(h:yO E sz pr r D e L q eq w Y w')(hl:lo≤w.heap.size):∃A cap bs,bs.map pr=L∧Y=.returned (.slice A bs.length cap)∧LL E sz e lo A cap bs w'∧D q eq w'∧Fr [r] w w':=by
 obtain⟨A,cap,bs,h1,h2,h3,h4,h5,h6,h7⟩:=h;exact⟨A,cap,bs,h1,h2,⟨h3,fun x J=>aZ hl (h6 x J),fun b hb=>⟨(h7 b hb).1,fun x J=>aZ hl ((h7 b hb).2 x J)⟩⟩,h4,h5⟩
theorem LP.tl{w0:World}{r:Nat}{s:ByteArray}{e:TypeId}{n:Nat}{xs:List ByteArray}{q:Nat}{eq:Int}{w w':World}{J:Ending}{lo:Nat}(h:LP w0 r s e n (xs.map Value.string) q eq w J w')(hl:lo≤w.heap.size):∃A cap,J=.returned (.slice A n cap)∧TL1 lo A cap xs w'∧PD w0 r s q eq w'∧Fr [r] w w':=by
 obtain⟨A,cap,h1,h2,h3,h4,Y⟩:=h;exact⟨A,cap,h1,⟨h2.rd,fun x hx=>aZ hl (Y x hx)⟩,h3,h4⟩
end re
namespace re
open RowKit Shelf mem sy vr po
theorem aFg{α:Type}(one:Nat→Int→α×Nat×Int)(k q:Nat)(e:Int)(J:e≠6)(h0:e≠0):dX one k q e=([],q,e):=by
 cases k with
 | zero=>rfl
 | succ k=>
  show(if cK e then _ else _)=_
  rw[aAm e J,aC h0];rfl
theorem go_step{α:Type}(one:Nat→Int→α×Nat×Int)(k q:Nat):dX one (k+1) q 0=((one q 0).1 :: (dX one k (one q 0).2.1 (one q 0).2.2).1,(dX one k (one q 0).2.1 (one q 0).2.2).2):=by
 show(if cK 0 then _ else _)=_
 rw[show cK 0=false from rfl];rfl
section
variable {w0:World} {x r:Nat} {pA:Option Addr} {pc:Nat} {m:List (List UInt8)} {s:ByteArray} {p:Nat} {er:Int}
end
end re
end Go.Proofs.YtdmmkjijgoiecaaGreatDoor
