import Derived.Deep.DeepCutAuto
import Derived.Deep.OwnRows
import Derived.Handy
import Derived.Laws.Cover1
import Derived.Shelf.Strings.SlTrimAscii
import Derived.StillTailTactics
import Derived.Test.YtdmmkjijgoiecaaGreatDoorY25
import Derived.Test.YtdmmkjijgoiecaaGreatDoorY12
import Derived.Test.YtdmmkjijgoiecaaGreatDoorY14
set_option linter.all false
set_option maxHeartbeats 4000000
namespace Go.Proofs.YtdmmkjijgoiecaaGreatDoor
namespace re
open RowKit Shelf mem sy
inductive Ev where
 | n (k:Int)
 | t (s:ByteArray)
structure SU where
 name:ByteArray
 gives:List ByteArray
 wants:List ByteArray
 keeps:List ByteArray
 sys:SS
def fB(l:List ByteArray):List Ev:=.n l.length :: l.map Ev.t
def pV(m:Mk):List Ev:=[.n m.at_,.t m.tag]
def rY(l:List Mk):List Ev:=.n l.length :: l.flatMap pV
def iR(o:SO):List Ev:=.t o.name :: .t o.kinds :: rY o.marks
def pY(l:List SO):List Ev:=.n l.length :: l.flatMap iR
def lW(f:SF):List Ev:=[.t f.name,.t f.kinds,.t f.ret]
def qL(l:List SF):List Ev:=.n l.length :: l.flatMap lW
def mJ(c:SC):List Ev:=.n c.op :: .t c.a :: .t c.b :: .n c.k :: .t c.tag :: fB c.args
def qU(l:List SC):List Ev:=.n l.length :: l.flatMap mJ
def dF(s:SU):List Ev:=.t s.name :: (fB s.gives++(fB s.wants++(fB s.keeps++(pY s.sys.objs++(qL s.sys.fns++qU s.sys.cons)))))
structure MU where
 name:ByteArray
 gA:Option Addr
 gc:Nat
 gives:List ByteArray
 wA:Option Addr
 wc:Nat
 wants:List ByteArray
 kA:Option Addr
 kc:Nat
 keeps:List ByteArray
 s:MS
def MU.su(u:MU):SU:=⟨u.name,u.gives,u.wants,u.keeps,u.s.sys⟩
def MU.row(u:MU):Array Value:=#[.string u.name,.slice u.gA u.gives.length u.gc,.slice u.wA u.wants.length u.wc,.slice u.kA u.keeps.length u.kc,.slice u.s.oA u.s.os.length u.s.oc,.slice u.s.fA u.s.fs.length u.s.fc,.slice u.s.cA u.s.cs.length u.s.cc]
def MU.val(u:MU):Value:=.agg u.row
structure gH(w:World)(u:MU):Prop where
 gr:Rd w u.gA (u.gives.map Value.string)
 wr:Rd w u.wA (u.wants.map Value.string)
 kr:Rd w u.kA (u.keeps.map Value.string)
 sr:zD w u.s
theorem gH.below{w w':World}{u:MU}(h:gH w u)(hb:Below w.heap.size w w'):gH w' u:=⟨h.gr.below hb,h.wr.below hb,h.kr.below hb,h.sr.below hb⟩
def MX:Nat:=15000000
structure St(I:List Nat→List Ev→World→Prop)(w:World)(F F':List Nat)(evs:List Ev)(w':World):Prop where
 i:I F' evs w'
 fr:Fr F w w'
 nw:∀x∈F',x∈F∨w.heap.size≤x
def gD(I:List Nat→List Ev→World→Prop)(F:List Nat)(J:List Ev)(w:World)(e:Ending)(w':World):Prop:=e=.returned (.tuple #[])∧∃Y,St I w F Y J w'
structure sI(fn ft:FuncId)(g:Nat)(w0:World)(I:List Nat→List Ev→World→Prop):Prop where
 lt:∀{F evs w},I F evs w→∀x∈F,x<w.heap.size
 ge:∀{F evs w},I F evs w→∀x∈F,w0.heap.size≤x
 be:∀{F evs w},I F evs w→Below w0.heap.size w0 w
 kept:∀{F evs w w' G},I F evs w→Fr G w w'→(∀x∈F,x∉G)→(∀x∈G,w0.heap.size≤x)→I F evs w'
 num:∀{F evs w} (k:Int),I F evs w→evs.length≤MX→Calls Tryz.prog fn #[.pointer (some ⟨g,0,none⟩),.int .i64 k] w (gD I F (evs++[.n k]) w)
 txt:∀{F evs w} (s:ByteArray),I F evs w→evs.length≤MX→Calls Tryz.prog ft #[.pointer (some ⟨g,0,none⟩),.string s] w (gD I F (evs++[.t s]) w)
section
variable {fn ft:FuncId} {g:Nat} {w0:World} {I:List Nat→List Ev→World→Prop}
theorem St.start{w:World}{F:List Nat}{J:List Ev}(h:I F J w):St I w F F J w:=⟨h,Fr.refl _ _,fun x Y=>Or.inl Y⟩
theorem St.trans{w w1 w2:World}{F F1 F2:List Nat}{e1 e2:List Ev}(h:St I w F F1 e1 w1)(k:St I w1 F1 F2 e2 w2):St I w F F2 e2 w2:=
 ⟨k.i,h.fr.trans k.fr (fun g J=>Or.inl J) (fun g J=>h.nw g J),fun x hx=>by
  rcases k.nw x hx with Y | Y
  ·exact h.nw x Y
  ·exact Or.inr (aZ h.fr.size Y)⟩
theorem sI.alloc(S:sI fn ft g w0 I){w:World}{F:List Nat}{J:List Ev}(h:I F J w)(o:Obj):I F J (w.alloc o):=S.kept h ((Fr.refl [] w).alloc o) (by simp) (by simp)
theorem sI.drew(S:sI fn ft g w0 I){w:World}{F:List Nat}{J:List Ev}(h:I F J w):I F J w.drew:=S.kept h ((Fr.refl [] w).drew) (by simp) (by simp)
theorem St.drew(S:sI fn ft g w0 I){w J:World}{F F1:List Nat}{Y:List Ev}(h:St I w F F1 Y J):St I w F F1 Y J.drew:=⟨S.drew h.i,h.fr.drew,h.nw⟩
theorem St.from_alloc{w w1:World}{o:Obj}{F F1:List Nat}{Y:List Ev}(h:St I (w.alloc o) F F1 Y w1):St I w F F1 Y w1:=
 ⟨h.i,((Fr.refl [] w).alloc o).trans h.fr (by simp) (fun g hg=>Or.inl hg),fun x hx=>by
  rcases h.nw x hx with J | J
  ·exact Or.inl J
  ·exact Or.inr (aZ ((Fr.refl [] w).alloc o).size J)⟩
theorem sI.cell(S:sI fn ft g w0 I){w:World}{F:List Nat}{J:List Ev}(h:I F J w){p:Addr}(Y:p.block<w0.heap.size){v:Value}(hv:w0.cell? p=some v):w.cell? p=some v:=((S.be h).cell Y).trans hv
theorem St.box{w w':World}{F Y:List Nat}{J:List Ev}(h:St I w F Y J w'){b:Nat}{t:TypeId}{cs:Array Value}(hb:bV w b t cs)(hn:b∉F):bV w' b t cs:=hb.kept h.fr hn
theorem St.nin{w w':World}{F F':List Nat}{J:List Ev}(h:St I w F F' J w'){c:Nat}(hn:c∉F)(hl:c<w.heap.size):c∉F':=fun hx=>by
 rcases h.nw c hx with Y | Y
 ·exact hn Y
 ·omega
end
theorem jA{α β:Type}(f:α→List β)(hf:∀x,1≤(f x).length):∀l:List α,l.length≤(l.flatMap f).length
 | []=>by simp
 | x :: l=>by
  rw[List.flatMap_cons,aF,aG];have:=jA f hf l;have:=hf x;omega
theorem pJ{α β:Type}(f:α→List β)(l:List α)(k:Nat)(h:k<l.length):((l.take k).flatMap f).length+(f l[k]).length≤(l.flatMap f).length:=by
 have e:l.flatMap f=(l.take k).flatMap f++(f l[k]++(l.drop (k+1)).flatMap f):=by
  conv=>lhs;rw[←List.take_append_drop k l,bD h]
  rw[List.flatMap_append,List.flatMap_cons]
 rw[e,aF,aF];omega
theorem kF{α β:Type}(f:α→List β)(l:List α)(k:Nat)(h:k<l.length):(l.take (k+1)).flatMap f=(l.take k).flatMap f++f l[k]:=by
 rw[(List.take_append_getElem h).symm,List.flatMap_append,List.flatMap_cons,List.flatMap_nil,List.append_nil]
end re
open Lib(hid)
set_option maxRecDepth 100000
namespace re
open RowKit Shelf mem sy vr
theorem fI{w0 w w':World}{G:List Nat}(h:Below w0.heap.size w0 w)(f:Fr G w w')(J:∀x∈G,w0.heap.size≤x):Below w0.heap.size w0 w':=h.trans (f.below J h.size)
theorem aLC:(Tryz.prog.info? 9).map (fun i=>(i.zero,i.size,i.bytes))=some (some (.string ⟨#[]⟩),1,16):=by kernel_rfl
theorem aBQ:∃i,Tryz.prog.info? 9=some i∧i.zero=some (.string ⟨#[]⟩)∧i.size=1∧i.bytes=16:=by
 have h:=aLC;rcases hi:Tryz.prog.info? 9 with _ | i
 ·rw[hi]at h;cases h
 ·rw[hi]at h
  simp only[Option.map_some,Option.some.injEq,Prod.mk.injEq]at h;exact⟨i,rfl,h.1,h.2.1,h.2.2⟩
def nS:List Ev→List ByteArray
 | []=>[]
 | .n _ :: l=>nS l
 | .t s :: l=>s :: nS l
theorem uX:∀(a b:List Ev),nS (a++b)=nS a++nS b
 | [],b=>rfl
 | .n _ :: a,b=>by show nS (a++b)=_;exact uX a b
 | .t s :: a,b=>by show s :: nS (a++b)=s :: nS a++nS b;rw[uX a b];rfl
theorem vG:∀a:List Ev,(nS a).length≤a.length
 | []=>aY _
 | .n _ :: a=>by have:=vG a;show(nS a).length≤a.length+1;omega
 | .t s :: a=>by have:=vG a;show(nS a).length+1≤a.length+1;omega
structure TS(w0:World)(g:Nat)(F:List Nat)(l:List ByteArray)(w:World):Prop where
 be:Below w0.heap.size w0 w
 ge:∀x∈F,w0.heap.size≤x
 x:∃A cap,F=g :: blk A∧bV w g 119 #[.slice A l.length cap]∧Seg w 9 A cap (l.map Value.string)
theorem TS.kept{w0:World}{g:Nat}{F G:List Nat}{l:List ByteArray}{w w':World}(h:TS w0 g F l w)(f:Fr G w w')(hF:∀x∈F,x∉G)(Y:∀x∈G,w0.heap.size≤x):TS w0 g F l w':=by
 obtain⟨A,cap,rfl,hb,hs⟩:=h.x;exact⟨fI h.be f Y,h.ge,A,cap,rfl,hb.kept f (hF g (by simp)),hs.kept f (fun x J=>hF x (by simp[J]))⟩
def IT(w0:World)(g:Nat)(F:List Nat)(J:List Ev)(w:World):Prop:=TS w0 g F (nS J) w
theorem aMx{w0:World}{g:Nat}{F:List Nat}{J:List Ev}{w:World}(k:Int)(h:IT w0 g F J w) :
 Calls Tryz.prog 289 #[.pointer (some ⟨g,0,none⟩),.int .i64 k] w (gD (IT w0 g) F (J++[.n k]) w):=by
 have H:Hid (IT w0 g F (J++[.n k]) w):=hid (by unfold IT at h ⊢;rw[uX];show TS w0 g F (nS J++[]) w;rw[List.append_nil];exact h);clear h;go_enter Tryz.func289,Tryz.ntmps289;go_wp2_with fail;go_end0;exact⟨rfl,F,⟨H.out,Fr.refl _ _,fun x Y=>Or.inl Y⟩⟩
theorem aMF{w0:World}{g:Nat}{F:List Nat}{Y:List Ev}{w:World}(s:ByteArray)(h:IT w0 g F Y w)(hl:Y.length≤MX) :
 Calls Tryz.prog 290 #[.pointer (some ⟨g,0,none⟩),.string s] w (gD (IT w0 g) F (Y++[.t s]) w):=by
 have hlen:=vG Y;have ar:(nS Y).length≤15000000:=by unfold MX at hl;omega
 unfold gD;have J:Hid (∀F' w',IT w0 g F' (Y++[.t s]) w'↔TS w0 g F' (nS Y++[s]) w'):=hid (fun F' w'=>by unfold IT;rw[uX];exact Iff.rfl);unfold IT at h;generalize nS Y=l at *;obtain⟨a5,a1,A,cap,rfl,hb,hs⟩:=h;have aa:g∉blk A:=hs.ne_box hb (by decide);have c0:w.cell? ⟨g,0,none⟩=some (.slice A l.length cap):=hb.cell 0;have am:g<w.heap.size:=hb.lt;have ak:=a1 g (by simp);obtain⟨i0,a3,ad,a6,a4⟩:=aBQ;have Hi:=hid a3;have ae:=hid ad;have aj:=hid a6;have ag:=hid a4;have HS:=hid hs;have a8:=hid a5;have HG:=hid a1;have HB:=hid hb;clear hs a3 ad a6 a4 a5 a1 hb hlen hl;go_enter Tryz.func290,Tryz.ntmps290
 go_wp2_with (at_builtin;refine dQ rfl _ _ _ rfl (HS.out.alloc _) (by rw[aH]) Tryz.underlying22 Hi.out ae.out aj.out ag.out rfl rfl rfl (dH _ _ _) rfl (by omega) (by omega) ?_;intro A3 a0 w3 af f3 ah;have a2:Hid (bV w3 g 119 #[.slice A l.length cap]):=hid ((HB.out.kept ((Fr.refl [] w).alloc _) (by simp)).kept f3 aa);have ao:=a2.out.free 0;have ap:w3.cell? ⟨g,0,none⟩=some (.slice A l.length cap):=a2.out.cell 0)
 go_end0;have fa:Fr (g :: blk A) w w3:=((Fr.refl [] w).alloc (.cells #[.string s] 9)).trans f3 (by simp) (fun x J=>Or.inl (by simp[J]));have fb:Fr (g :: blk A) w (w3.setCell ⟨g,0,none⟩ (.slice A3 (l.length+1) a0)):=fa.setCell (p:=⟨g,0,none⟩) (Or.inl (by simp)) _;have a9:∀x∈blk A3,x∈blk A∨w.heap.size<x:=fun x J=>by
  rcases ah with e | e
  ·rw[e]at J;exact Or.inl J
  ·rw[e,aD]at J
   exact Or.inr (by rw[J];show w.heap.size<(w.heap.push _).size;rw[bH];omega)
 have a7:∀x∈g :: blk A3,x∈g :: blk A∨w.heap.size≤x:=fun x J=>by
  rcases aM.1 J with e | e
  ·exact Or.inl (by simp[e])
  ·rcases a9 x e with h1 | h1
   ·exact Or.inl (by simp[h1])
   ·exact Or.inr (by omega)
 have ai:g∉blk A3:=fun J=>by
  rcases a9 g J with h1 | h1
  ·exact aa h1
  ·omega
 refine⟨rfl,g :: blk A3,⟨(J.out _ _).2 ⟨fI a8.out fb HG.out,fun x J=>?_,A3,a0,rfl,?_,?_⟩,fb,a7⟩⟩
 ·rcases a7 x J with h1 | h1
  ·exact HG.out x h1
  ·exact aZ a8.out.size h1
 ·have:=a2.out.put 0 (.slice A3 (l.length+1) a0)
  rw[aF];exact this
 ·rw[List.map_append]
  exact af.kept ((Fr.refl [g] w3).setCell (p:=⟨g,0,none⟩) (Or.inl (by simp)) _) (fun x J h1=>by rw[aD]at h1;rw[h1]at J;exact ai J)
theorem aMi(w0:World)(g:Nat):sI 289 290 g w0 (IT w0 g) where
 lt:=fun {F evs w} h x hx=>by
  obtain⟨A,cap,rfl,hb,hs⟩:=h.x;rcases aM.1 hx with e | e
  ·rw[e];exact hb.lt
  ·exact hs.lt x e
 ge:=fun h=>h.ge
 be:=fun h=>h.be
 kept:=fun h f Y J=>TS.kept h f Y J
 num:=fun k h _=>aMx k h
 txt:=fun s h hl=>aMF s h hl
end re
namespace re
open RowKit Shelf mem sy vx vr po inn
abbrev tx(s:ByteArray):List UInt8:=s.data.toList
def qX(m:List (List UInt8))(st:List UInt8×Int)(s:ByteArray):List UInt8×Int:=if st.2=0∧tx s∉m then(st.1,7) else st
def aAW(m:List (List UInt8))(st:List UInt8×Int)(s:ByteArray):List UInt8×Int:=iK (qX m st s) (if tx s∈m then(m.idxOf (tx s):Nat) else 0:Nat)
def wZ(m:List (List UInt8))(st:List UInt8×Int):Ev→List UInt8×Int
 | .n k=>iK st k
 | .t s=>aAW m st s
def fQ(m:List (List UInt8))(J:List Ev):List UInt8×Int:=J.foldl (wZ m) ([],0)
theorem aDm(st:List UInt8×Int)(k:Int):(iK st k).1.length≤st.1.length+5:=by
 unfold iK;split
 ·omega
 ·split
  ·dsimp only;omega
  ·rw[aF]
   have:=lI k.toNat (by omega);omega
theorem aAG(m:List (List UInt8))(st:List UInt8×Int)(s:ByteArray):(qX m st s).1.length=st.1.length:=by
 unfold qX;split <;> rfl
theorem aGt(m:List (List UInt8))(st:List UInt8×Int)(e:Ev):(wZ m st e).1.length≤st.1.length+5:=by
 cases e with
 | n k=>exact aDm st k
 | t s=>
  show(iK _ _).1.length≤_;have:=aDm (qX m st s) (if tx s∈m then(m.idxOf (tx s):Nat) else 0:Nat);rw[aAG]at this;exact this
theorem rH(m:List (List UInt8))(J:List Ev)(e:Ev):fQ m (J++[e])=wZ m (fQ m J) e:=by
 unfold fQ;rw[List.foldl_append];rfl
theorem aBj(m:List (List UInt8)):∀(J:List Ev) (st:List UInt8×Int),(J.foldl (wZ m) st).1.length≤st.1.length+5 * J.length
 | [],st=>by simp
 | e :: l,st=>by
  have h1:=aBj m l (wZ m st e);have Y:=aGt m st e;rw[List.foldl_cons,aG];omega
theorem nR(m:List (List UInt8))(J:List Ev):(fQ m J).1.length≤5 * J.length:=by
 have h:=aBj m J ([],0);unfold fQ
 simpa using h
structure WS(w0:World)(g pb:Nat)(F:List Nat)(st:List UInt8×Int)(w:World):Prop where
 be:Below w0.heap.size w0 w
 ge:∀x∈F,w0.heap.size≤x
 x:∃A cap,F=g :: blk A∧WX 127 [.pointer (some ⟨pb,0,none⟩),.int .i64 st.2] w g A cap (st.1,0)
theorem WS.kept{w0:World}{g pb:Nat}{F G:List Nat}{st:List UInt8×Int}{w w':World}(h:WS w0 g pb F st w)(f:Fr G w w')(hF:∀x∈F,x∉G)(Y:∀x∈G,w0.heap.size≤x):WS w0 g pb F st w':=by
 obtain⟨A,cap,rfl,J⟩:=h.x;exact⟨fI h.be f Y,h.ge,A,cap,rfl,J.kept f (hF g (by simp)) (fun x J=>hF x (by simp[J]))⟩
theorem WS.lt{w0:World}{g pb:Nat}{F:List Nat}{st:List UInt8×Int}{w:World}(h:WS w0 g pb F st w):∀x∈F,x<w.heap.size:=fun x Y=>by
 obtain⟨A,cap,rfl,J⟩:=h.x;rcases aM.1 Y with e | e
 ·rw[e];exact J.box.lt
 ·exact J.seg.lt x e
theorem WS.cells{w0:World}{g pb:Nat}{F:List Nat}{st:List UInt8×Int}{w:World}(h:WS w0 g pb F st w):w.cell? ⟨g,2,none⟩=some (.pointer (some ⟨pb,0,none⟩))∧w.cell? ⟨g,3,none⟩=some (.int .i64 st.2)∧w.frozen? ⟨g,3,none⟩=false:=by
 obtain⟨A,cap,rfl,J⟩:=h.x;exact⟨J.box.cell 2,J.box.cell 3,J.box.free 3⟩
theorem WS.err{w0:World}{g pb:Nat}{F:List Nat}{st:List UInt8×Int}{w:World}(h:WS w0 g pb F st w)(e:Int):WS w0 g pb F (st.1,e) (w.setCell ⟨g,3,none⟩ (.int .i64 e))∧Fr F w (w.setCell ⟨g,3,none⟩ (.int .i64 e)):=by
 obtain⟨A,cap,rfl,J⟩:=h.x;have f1:Fr [g] w (w.setCell ⟨g,3,none⟩ (.int .i64 e)):=(Fr.refl [g] w).setCell (p:=⟨g,3,none⟩) (Or.inl (by simp)) _;have f2:Fr (g :: blk A) w (w.setCell ⟨g,3,none⟩ (.int .i64 e)):=(Fr.refl (g :: blk A) w).setCell (p:=⟨g,3,none⟩) (Or.inl (by simp)) _;refine⟨⟨fI h.be f2 h.ge,h.ge,A,cap,rfl,?_,?_,J.ne⟩,f2⟩
 ·have:=J.box.put 3 (.int .i64 e)
  exact this
 ·exact J.seg.kept f1 (fun x Y h1=>by rw[aD]at h1;rw[h1]at Y;exact J.nf Y)
def WP(w0:World)(g pb:Nat)(F:List Nat)(st:List UInt8×Int)(w:World)(e:Ending)(w':World):Prop:=e=.returned (.tuple #[])∧∃J,WS w0 g pb J st w'∧Fr F w w'∧∀x∈J,x∈F∨w.heap.size≤x
theorem w_num{w0:World}{g pb:Nat}{F:List Nat}{st:List UInt8×Int}{w:World}(k:Int)(h:WS w0 g pb F st w)(hl:st.1.length≤100000000) :
 Calls Tryz.prog 291 #[.pointer (some ⟨g,0,none⟩),.int .i64 k] w (WP w0 g pb F (iK st k) w):=by
 obtain⟨c2,c3,f3⟩:=h.cells;have H:=hid h;obtain⟨S,E⟩:=st;dsimp only at c3 hl;unfold iK;dsimp only;clear h;by_cases hE:E=0
 ·subst hE
  rw[if_neg (by simp)];by_cases hk:k<0∨268435456<k
  ·rw[if_pos hk]
   have HX:=hid (H.out.err 2);have hn:Hid (∀x∈F,x∈F∨w.heap.size≤x):=hid (fun x Y=>Or.inl Y);have a4:(w.setCell ⟨g,3,none⟩ (.int .i64 2)).cell? ⟨g,3,none⟩=some (.int .i64 2):=HX.out.1.cells.2.1;by_cases J:k<0
   ·have d1:decide (k<0)=true:=aC J
    go_enter Tryz.func291,Tryz.ntmps291;go_wp2_with fail;go_end0;exact⟨rfl,F,HX.out.1,HX.out.2,hn.out⟩
   ·have d1:decide (k<0)=false:=aB J
    have d2:decide (268435456<k)=true:=aC (by omega);go_enter Tryz.func291,Tryz.ntmps291;go_wp2_with fail;go_end0;exact⟨rfl,F,HX.out.1,HX.out.2,hn.out⟩
  ·rw[if_neg hk]
   have d1:decide (k<0)=false:=aB (by omega);have d2:decide (268435456<k)=false:=aB (by omega);obtain⟨A,cap,rfl,hw⟩:=H.out.x;have K:=hid (aBS w g A cap (S,0) k hw hl);have hp:Hid (iK (S,0) k=(S++nb k.toNat,0)):=hid (by unfold iK;rw[if_neg (by simp),if_neg hk]);rw[hp.out]at K;clear hw hk hp;go_enter Tryz.func291,Tryz.ntmps291;go_wp2_with fail;refine K.out.mono ?_;rintro e w1 ⟨rfl,A1,a3,x1,fr1,a0⟩;have X1:=hid x1;have a1:=hid fr1;have a2:=hid a0;clear x1 fr1 a0 K;go_wp2_with fail;go_end0;refine⟨rfl,g :: blk A1,⟨fI H.out.be a1.out H.out.ge,fun x Y=>?_,A1,a3,rfl,X1.out⟩,a1.out,fun x Y=>?_⟩
   ·rcases aM.1 Y with e | e
    ·exact H.out.ge x (by simp[e])
    ·rcases a2.out x e with J | J
     ·exact H.out.ge x (by simp[J])
     ·exact aZ H.out.be.size J
   ·rcases aM.1 Y with e | e
    ·exact Or.inl (by simp[e])
    ·rcases a2.out x e with J | J
     ·exact Or.inl (by simp[J])
     ·exact Or.inr J
 ·rw[if_pos hE]
  have d0:(E==0)=false:=by simpa using hE
  have hn:Hid (∀x∈F,x∈F∨w.heap.size≤x):=hid (fun x Y=>Or.inl Y);go_enter Tryz.func291,Tryz.ntmps291;go_wp2_with fail;go_end0;exact⟨rfl,F,H.out,Fr.refl _ _,hn.out⟩
theorem aMp{w0:World}{g pb:Nat}{pA:Option Addr}{pc:Nat}{m:List (List UInt8)}(hp:Pl w0 pb pA pc m)(hs:m.Pairwise (fun a b=>a<b))(hm:m.length≤1000000){F:List Nat}{st:List UInt8×Int}{w:World}(s:ByteArray)(h:WS w0 g pb F st w)(hl:st.1.length≤100000000) :
 Calls Tryz.prog 292 #[.pointer (some ⟨g,0,none⟩),.string s] w (WP w0 g pb F (aAW m st s) w):=by
 obtain⟨c2,c3,f3⟩:=h.cells;have KP:=hid (aI7 w pb pA pc m (tx s) (hp.below h.be) hs hm);have H:=hid h;have HG:=hid h.ge;unfold aAW;obtain⟨ix,a3⟩:∃i,Hid (i=if tx s∈m then m.idxOf (tx s) else 0):=⟨_,hid rfl⟩;obtain⟨T,hT⟩:∃T,Hid (T=qX m st s):=⟨_,hid rfl⟩;have e1:Hid (((if tx s∈m then(m.idxOf (tx s):Nat) else 0:Nat):Int)=(ix:Int)):=hid (by rw[a3.out]);rw[←hT.out];have a5:T.1.length≤100000000:=by rw[hT.out,aAG];exact hl
 unfold pnV at KP;rw[←a3.out]at KP ⊢;have es:encStr (tx s)=.string s:=rfl;rw[es]at KP;have J:Hid (∀Y,Below w.heap.size w Y→WS w0 g pb F st Y∧Fr [] w Y):=hid (fun Y b=>⟨H.out.kept (Fr.of_below b []) (by simp) (by simp),Fr.of_below b []⟩);have KN:=hid (fun(Y:World) (x:WS w0 g pb F T Y)=>w_num (ix:Int) x a5)
 have a0:Hid (∀Y w2 w3 F',Fr [] w Y→Fr F Y w2→WS w0 g pb F' (iK T ix) w3→Fr F w2 w3→(∀x∈F',x∈F∨w2.heap.size≤x)→WP w0 g pb F (iK T ix) w (.returned (.tuple #[])) w3):=hid (fun Y w2 w3 F' h1 h2 h3 h4 h5=>by
  have a1:Fr F w w2:=h1.trans h2 (by simp) (fun x hx=>Or.inl hx);refine⟨rfl,F',h3,a1.trans h4 (fun x hx=>Or.inl hx) (fun x hx=>Or.inl hx),fun x hx=>?_⟩;rcases h5 x hx with e | e
  ·exact Or.inl e
  ·exact Or.inr (aZ a1.size e))
 unfold WP at KN;clear h hp hs a3 e1;by_cases hE:st.2=0
 ·rw[hE]at c3
  by_cases hx:tx s∈m
  ·have eT:T=st:=by rw[hT.out];unfold qX;rw[if_neg (fun h=>h.2 hx)]
   rw[aC hx]at KP;clear hx hT;go_enter Tryz.func292,Tryz.ntmps292;go_wp2_with fail;refine KP.out.mono ?_;rintro e Y ⟨rfl,b1⟩;obtain⟨x1,y1⟩:=J.out _ b1;obtain⟨z2,z3,z4⟩:=x1.cells;have Y1:=hid y1;rw[hE]at z3;have K2:=hid (KN.out Y (by rw[eT];exact x1));clear x1 y1 b1 KN J KP c2 c3 f3 z4;go_wp2_with fail;refine K2.out.mono ?_;rintro e w3 ⟨rfl,F3,x3,f3,n3⟩;have X3:=hid x3;have a2:=hid f3;have N3:=hid n3;clear x3 f3 n3;go_wp2_with fail;go_end0;exact a0.out Y Y w3 F3 Y1.out (Fr.refl _ _) X3.out a2.out N3.out
  ·have eT:T=(st.1,7):=by rw[hT.out];unfold qX;rw[if_pos ⟨hE,hx⟩]
   rw[aB hx]at KP;clear hx hT;go_enter Tryz.func292,Tryz.ntmps292;go_wp2_with fail;refine KP.out.mono ?_;rintro e Y ⟨rfl,b1⟩;obtain⟨x1,y1⟩:=J.out _ b1;obtain⟨z2,z3,z4⟩:=x1.cells;have Y1:=hid y1;rw[hE]at z3;have X2:=hid (x1.err 7);have K2:=hid (KN.out _ (by rw[eT];exact X2.out.1));clear x1 y1 b1 KN J KP c2 c3 f3;go_wp2_with fail;refine K2.out.mono ?_;rintro e w3 ⟨rfl,F3,x3,f3,n3⟩;have X3:=hid x3;have a2:=hid f3;have N3:=hid n3;clear x3 f3 n3;go_wp2_with fail;go_end0;exact a0.out Y _ w3 F3 Y1.out X2.out.2 X3.out a2.out N3.out
 ·have eT:T=st:=by rw[hT.out];unfold qX;rw[if_neg (fun h=>hE h.1)]
  have d0:(st.2==0)=false:=by simpa using hE
  obtain⟨bx,a4⟩:∃b,b=decide (tx s∈m):=⟨_,rfl⟩;rw[←a4]at KP;clear hT a4;go_enter Tryz.func292,Tryz.ntmps292;go_wp2_with fail;refine KP.out.mono ?_;rintro e Y ⟨rfl,b1⟩;obtain⟨x1,y1⟩:=J.out _ b1;obtain⟨z2,z3,z4⟩:=x1.cells;have Y1:=hid y1;have K2:=hid (KN.out Y (by rw[eT];exact x1));clear x1 y1 b1 KN J KP c2 c3 f3 z4;go_wp2_with fail;refine K2.out.mono ?_;rintro e w3 ⟨rfl,F3,x3,f3,n3⟩;have X3:=hid x3;have a2:=hid f3;have N3:=hid n3;clear x3 f3 n3;go_wp2_with fail;go_end0;exact a0.out Y Y w3 F3 Y1.out (Fr.refl _ _) X3.out a2.out N3.out
def IW(w0:World)(g pb:Nat)(m:List (List UInt8))(F:List Nat)(J:List Ev)(w:World):Prop:=WS w0 g pb F (fQ m J) w
theorem aLb{w0:World}{pb:Nat}{pA:Option Addr}{pc:Nat}{m:List (List UInt8)}(g:Nat)(hp:Pl w0 pb pA pc m)(hs:m.Pairwise (fun a b=>a<b))(hm:m.length≤1000000):sI 291 292 g w0 (IW w0 g pb m) where
 lt:=fun h=>WS.lt h
 ge:=fun h=>WS.ge h
 be:=fun h=>WS.be h
 kept:=fun h f h1 h2=>WS.kept h f h1 h2
 num:=fun {F evs w} k h hl=>(w_num k h (by have:=nR m evs;unfold MX at hl;omega)).mono fun e w' ⟨J,Y,a,b,c⟩=>⟨J,Y,by unfold IW;rw[rH];exact a,b,c⟩
 txt:=fun {F evs w} s h hl=>(aMp hp hs hm s h (by have:=nR m evs;unfold MX at hl;omega)).mono fun e w' ⟨J,Y,a,b,c⟩=>⟨J,Y,by unfold IW;rw[rH];exact a,b,c⟩
end re
namespace re
open RowKit Shelf mem vr po
structure PD(w0:World)(r:Nat)(s:ByteArray)(p:Nat)(er:Int)(w:World):Prop where
 rd:RD w r s p er
 be:Below w0.heap.size w0 w
 ge:w0.heap.size≤r
def cB(er:Int):Bool:=er != 0&&er != 6
def rD(r pb:Nat):Value:=.agg #[.pointer (some ⟨r,0,none⟩),.pointer (some ⟨pb,0,none⟩)]
def PP(w0:World)(r:Nat)(s:ByteArray)(v:Value)(p:Nat)(er:Int)(w:World)(e:Ending)(w':World):Prop:=e=.returned v∧PD w0 r s p er w'∧Fr [r] w w'
section
variable {w0:World} {r pb:Nat} {s:ByteArray} {p:Nat} {er:Int}
theorem PD.lt{w:World}(h:PD w0 r s p er w):r<w.heap.size:=h.rd.box.lt
theorem PD.of{w w':World}{q:Nat}{Y:Int}(h:PD w0 r s p er w)(f:Fr [r] w w')(x:RD w' r s q Y):PD w0 r s q Y w':=
 ⟨x,h.be.trans (f.below (fun g J=>by rw[aD]at J;rw[J];exact h.ge) h.be.size),h.ge⟩
theorem PD.alloc{w:World}(h:PD w0 r s p er w)(o:Obj):PD w0 r s p er (w.alloc o):=h.of ((Fr.refl [r] w).alloc o) ⟨h.rd.box.kept ((Fr.refl [] w).alloc o) (by simp)⟩
theorem lS{w:World}(h:PD w0 r s p er w) :
 Calls Tryz.prog 157 #[rD r pb] w (PP w0 r s (.bool (cB er)) p er w):=by
 have hW:=h.alloc (.cells #[.pointer (some ⟨r,0,none⟩),.pointer (some ⟨pb,0,none⟩)] 141);have B:=bV.new w 141 #[.pointer (some ⟨r,0,none⟩),.pointer (some ⟨pb,0,none⟩)];obtain⟨W,Y⟩:∃W,Hid (W=w.alloc (.cells #[.pointer (some ⟨r,0,none⟩),.pointer (some ⟨pb,0,none⟩)] 141)):=⟨_,hid rfl⟩;have hf:Hid (Fr [r] w W):=hid (by rw[Y.out];exact(Fr.refl [r] w).alloc _);rw[←Y.out]at hW B;have K:=hid (oV W r s p er hW.rd);have HW:=hid hW;have J:Hid (∀w2,RD w2 r s p er→Fr [r] W w2→PP w0 r s (.bool (cB er)) p er w (.returned (.bool (cB er))) w2):=hid (fun w2 x f=>⟨rfl,HW.out.of f x,hf.out.trans f (fun x hx=>Or.inl hx) (fun x hx=>Or.inl hx)⟩);have x0:W.cell? ⟨w.heap.size,0,none⟩=some (.pointer (some ⟨r,0,none⟩)):=B.cell 0
 have hv:Hid (cB er=(dE s p er != 0&&dE s p er != 6)):=hid (by
  unfold cB dE;by_cases he:er=0
  ·subst he
   by_cases hp:p<s.size <;> simp[hp]
  ·rw[if_neg (fun h=>he h.1)])
 rw[hv.out]at J ⊢;unfold jE at K;clear hW B h HW hf hv;unfold rD;generalize dE s p er=d at *;go_enter Tryz.func157,Tryz.ntmps157;go_upto_region 1 with fail;rw[←Y.out];clear Y;generalize w.heap.size=bm at *;go_wp2_with fail;refine K.out.mono ?_;rintro e w2 ⟨rfl,x2,f2⟩;have H2:=hid (J.out w2 x2 f2);clear x2 f2 K x0 J;by_cases h0:d=0
 ·subst h0
  go_wp2_with fail;go_ret;exact H2.out
 ·have d0:(d != 0)=true:=by simpa using h0
  by_cases h6:d=6
  ·subst h6
   go_wp2_with fail;go_ret;exact H2.out
  ·have d6:(d != 6)=true:=by simpa using h6
   have e3:Hid ((d != 0&&d != 6)=true):=hid (by rw[d0,d6];rfl);go_wp2_with fail;go_ret;have h:=H2.out;rw[e3.out]at h ⊢;exact h
def tN(m:List (List UInt8))(s:ByteArray)(p:Nat)(er:Int):Int:=if nV s p er<m.length then nE s p er else fE (nE s p er) 2
def tT(m:List (List UInt8))(s:ByteArray)(p:Nat)(er:Int):ByteArray:=if cB (tN m s p er) then⟨#[]⟩ else(m[nV s p er]?.map fun x=>ByteArray.mk x.toArray).getD ⟨#[]⟩
theorem fT{pA:Option Addr}{pc:Nat}{m:List (List UInt8)}{w:World}(hp:Pl w0 pb pA pc m)(hm:m.length≤1000000)(hs:s.size≤maxLen)(a7:p≤s.size)(h:PD w0 r s p er w) :
 Calls Tryz.prog 95 #[rD r pb] w (PP w0 r s (.string (tT m s p er)) (nP s p er) (tN m s p er) w):=by
 have hW:=h.alloc (.cells #[.pointer (some ⟨r,0,none⟩),.pointer (some ⟨pb,0,none⟩)] 141);have B:=bV.new w 141 #[.pointer (some ⟨r,0,none⟩),.pointer (some ⟨pb,0,none⟩)];obtain⟨W,a2⟩:∃W,Hid (W=w.alloc (.cells #[.pointer (some ⟨r,0,none⟩),.pointer (some ⟨pb,0,none⟩)] 141)):=⟨_,hid rfl⟩;have hf:Hid (Fr [r] w W):=hid (by rw[a2.out];exact(Fr.refl [r] w).alloc _);have a4:w.heap.size≠r:=by have:=h.lt;omega
 rw[←a2.out]at hW B;have K:=hid (gM W r s p er hW.rd hs a7);have HW:=hid hW;have HB:=hid B;have x0:W.cell? ⟨w.heap.size,0,none⟩=some (.pointer (some ⟨r,0,none⟩)):=B.cell 0;have HP:Hid (∀w1,PD w0 r s (nP s p er) (nE s p er) w1→Pl w1 pb pA pc m):=hid (fun w1 x=>hp.below x.be);have HC:Hid (∀w1,Fr [r] W w1→w1.cell? ⟨w.heap.size,0,none⟩=some (.pointer (some ⟨r,0,none⟩))∧w1.cell? ⟨w.heap.size,1,none⟩=some (.pointer (some ⟨pb,0,none⟩))):=hid (fun w1 f=>⟨(HB.out.kept f (by simpa using a4)).cell 0,(HB.out.kept f (by simpa using a4)).cell 1⟩);have HT:=hid (fun a b c (f:Fr [r] a b) (k:Fr [r] b c)=>f.trans (G:=[r]) k (fun x hx=>Or.inl hx) (fun x hx=>Or.inl hx));have HN:Hid (nE s p er=nE s p er):=hid rfl;unfold jE at K;have HO:=hid (fun(a b:World) (q:Nat) (e1 e2:Int) (x:PD w0 r s q e1 a) (f:Fr [r] a b) (y:RD b r s q e2)=>x.of f y);have a6:Hid (∀w2,RD w2 r s (nP s p er) (nE s p er)→Fr [r] W w2→PD w0 r s (nP s p er) (nE s p er) w2):=hid (fun w2 x f=>hW.of f x)
 obtain⟨V,hV⟩:∃V,Hid (V=tT m s p er):=⟨_,hid rfl⟩;obtain⟨E,hE⟩:∃E,Hid (E=tN m s p er):=⟨_,hid rfl⟩
 have a3:Hid (∀h:nV s p er<m.length,E=nE s p er∧(cB (nE s p er)=false→V=ByteArray.mk (m[nV s p er]).toArray)∧(cB (nE s p er)=true→V=⟨#[]⟩)):=hid (fun h=>by
  have h1:E=nE s p er:=by rw[hE.out];unfold tN;rw[if_pos h]
  refine⟨h1,fun hb=>?_,fun hb=>?_⟩
  ·rw[hV.out];unfold tT;rw[←hE.out,h1,hb,aN h];rfl
  ·rw[hV.out];unfold tT;rw[←hE.out,h1,hb];rfl)
 have a5:Hid (¬nV s p er<m.length→E=fE (nE s p er) 2∧V=⟨#[]⟩):=hid (fun h=>by
  refine⟨by rw[hE.out];unfold tN;rw[if_neg h],?_⟩;rw[hV.out];unfold tT;rw[List.getElem?_eq_none (by omega)]
  split <;> rfl)
 rw[←hV.out,←hE.out];clear hW B h HW hp HN hV hE;generalize nP s p er=p1 at *;generalize nE s p er=e1 at *;generalize nV s p er=n at *;unfold rD;go_enter Tryz.func95,Tryz.ntmps95;go_upto_region 1 with fail;rw[←a2.out];clear a2 HB a4;generalize w.heap.size=bm at *;go_wp2_with fail;refine K.out.mono ?_;rintro e w2 ⟨rfl,x2,f2⟩;have D2:=hid (a6.out w2 x2 f2);have F2:=hid f2;obtain⟨c0,c1⟩:=HC.out w2 f2;have P2:=hid (HP.out w2 D2.out);clear x2 f2 K x0 a6;by_cases hn:n<m.length
 ·have KA:=hid (aIw w2 pb pA pc m n P2.out hn (by omega))
  obtain⟨J,a1,a0⟩:=a3.out hn;have a1:=hid a1;have a0:=hid a0;have J:=hid J;have KW:=hid (lS (pb:=pb) D2.out);unfold rD PP at KW;unfold encStr at KA;clear P2 HP a3 a5;generalize ByteArray.mk m[n].toArray=y at *
  try clear hn
  go_wp2_with fail;refine KA.out.mono ?_;rintro e w3 ⟨rfl,rfl⟩;go_wp2_with fail;refine KW.out.mono ?_;rintro e w4 ⟨rfl,x4,f4⟩;have X4:=hid x4;have F4:=hid (HT.out _ _ _ hf.out (HT.out _ _ _ F2.out f4));clear x4 f4 KW KA;rcases hb:cB e1 with _ | _
  ·have Y:=hid (a1.out hb)
   clear a1 a0;go_wp2_with fail;go_ret;exact⟨by rw[Y.out];rfl,by rw[J.out];exact X4.out,F4.out⟩
  ·have Y:=hid (a0.out hb)
   clear a1 a0;go_wp2_with fail;go_ret;exact⟨by rw[Y.out];rfl,by rw[J.out];exact X4.out,F4.out⟩
 ·have KA:=hid (aE1 w2 pb pA pc m n P2.out (Or.inr (by omega)))
  obtain⟨J,Y⟩:=a5.out hn;have Y:=hid Y;have J:=hid J;have KF:=hid (rQ w2 r s p1 e1 2 D2.out.rd);unfold jE at KF;clear hn P2 HP a3 a5;generalize fE e1 2=e2 at *;go_wp2_with fail;refine KA.out.mono ?_;rintro e w3 ⟨rfl,rfl⟩;go_wp2_with fail;refine KF.out.mono ?_;rintro e w3 ⟨rfl,x3,f3⟩;have D3:=hid (HO.out _ _ _ _ _ D2.out f3 x3);have F3:=hid (HT.out _ _ _ F2.out f3);obtain⟨a8,a9⟩:=HC.out w3 F3.out;have KW:=hid (lS (pb:=pb) D3.out);unfold rD PP at KW;clear x3 f3 KF KA c0 c1;go_wp2_with fail;refine KW.out.mono ?_;rintro e w4 ⟨rfl,x4,f4⟩;have X4:=hid x4;have F4:=hid (HT.out _ _ _ hf.out (HT.out _ _ _ F3.out f4));clear x4 f4 KW;rcases hb:cB e2 with _ | _
  ·go_wp2_with fail
   go_ret;exact⟨by rw[Y.out];rfl,by rw[J.out];exact X4.out,F4.out⟩
  ·go_wp2_with fail
   go_ret;exact⟨by rw[Y.out];rfl,by rw[J.out];exact X4.out,F4.out⟩
end
end re
namespace re
open RowKit Shelf mem vr po
def dX{α:Type}(one:Nat→Int→α×Nat×Int):Nat→Nat→Int→List α×Nat×Int
 | 0,p,er=>([],p,er)
 | k+1,p,er=>if cB er then([],p,er) else((one p er).1 :: (dX one k (one p er).2.1 (one p er).2.2).1,(dX one k (one p er).2.1 (one p er).2.2).2)
def eL(s:ByteArray)(p:Nat)(er:Int):Int:=if 6000<nV s p er then fE (nE s p er) 4 else nE s p er
def cK{α:Type}(one:Nat→Int→α×Nat×Int)(s:ByteArray)(p:Nat)(er:Int):List α×Nat×Int:=dX one (nV s p er) (nP s p er) (eL s p er)
def fD(m:List (List UInt8))(s:ByteArray)(p:Nat)(er:Int):ByteArray×Nat×Int:=(tT m s p er,nP s p er,tN m s p er)
structure LS(w0:World)(r:Nat)(s:ByteArray)(p:Nat)(er:Int)(W:World)(e:TypeId)(A:Option Addr)(cap:Nat)(xs:List Value)(w:World):Prop where
 pd:PD w0 r s p er w
 fr:Fr [r] W w
 seg:Seg w e A cap xs
 nw:∀x∈blk A,W.heap.size≤x
section
variable {w0:World} {r pb:Nat} {s:ByteArray} {p:Nat} {er:Int}
theorem LS.read{W w w2:World}{e:TypeId}{A:Option Addr}{cap:Nat}{xs:List Value}{q:Nat}{e2:Int}(h:LS w0 r s p er W e A cap xs w)(Y:e≠196)(x:PD w0 r s q e2 w2)(f:Fr [r] w w2):LS w0 r s q e2 W e A cap xs w2:=
 ⟨x,h.fr.trans f (fun x J=>Or.inl J) (fun x J=>Or.inl J),h.seg.kept f (fun x J h1=>by
  rw[aD]at h1;rw[h1]at J
  exact h.seg.ne_box h.pd.rd.box Y J),h.nw⟩
theorem LS.push{W w w3:World}{o:Obj}{e:TypeId}{A A3:Option Addr}{cap Y:Nat}{xs ys:List Value}(h:LS w0 r s p er W e A cap xs w)(a0:e≠196)(h0:w0.heap.size≤W.heap.size)(s3:Seg w3 e A3 Y ys)(f3:Fr (blk A) (w.alloc o) w3)(b3:blk A3=blk A∨blk A3=[(w.alloc o).heap.size]):LS w0 r s p er W e A3 Y ys w3:=by
 have hr:r∉blk A:=h.seg.ne_box h.pd.rd.box a0;have f4:Fr (blk A) w w3:=((Fr.refl [] w).alloc o).trans f3 (by simp) (fun x J=>Or.inl J);have f5:Fr [r] W w3:=h.fr.trans f4 (fun x J=>Or.inl J) (fun x J=>Or.inr (h.nw x J));refine⟨⟨⟨h.pd.rd.box.kept f4 hr⟩,fI h.pd.be f4 (fun x J=>aZ h0 (h.nw x J)),h.pd.ge⟩,f5,s3,fun x J=>?_⟩;rcases b3 with e1 | e1
 ·rw[e1]at J;exact h.nw x J
 ·rw[e1,aD]at J
  rw[J];exact aZ h.fr.size ((Fr.refl [] w).alloc o).size
end
end re
namespace re
open RowKit Shelf mem vr po
theorem eB(s:ByteArray)(p:Nat)(er:Int)(J:p≤s.size):nP s p er≤s.size:=by
 unfold nP;split
 ·exact J
 ·exact aE5 s p J
def LP(w0:World)(r:Nat)(s:ByteArray)(e:TypeId)(n:Nat)(xs:List Value)(q:Nat)(eq:Int)(w:World)(J:Ending)(w':World):Prop:=∃A cap,J=.returned (.slice A n cap)∧Seg w' e A cap xs∧PD w0 r s q eq w'∧Fr [r] w w'∧∀x∈blk A,w.heap.size≤x
theorem LS.end_{w0:World}{r:Nat}{s:ByteArray}{p:Nat}{er:Int}{w W Y:World}{o:Obj}{e:TypeId}{A:Option Addr}{cap:Nat}{xs:List Value}{n:Nat}(h:LS w0 r s p er W e A cap xs Y)(hW:W=w.alloc o):LP w0 r s e n xs p er w (.returned (.slice A n cap)) Y:=by
 subst hW;exact⟨A,cap,rfl,h.seg,h.pd,((Fr.refl [] w).alloc o).trans h.fr (by simp) (fun x J=>Or.inl J),fun x J=>aZ ((Fr.refl [] w).alloc o).size (h.nw x J)⟩
theorem aCr{w0:World}{r pb:Nat}{s:ByteArray}{p:Nat}{er:Int}{pA:Option Addr}{pc:Nat}{m:List (List UInt8)}{w:World}(hp:Pl w0 pb pA pc m)(hm:m.length≤1000000)(hs:s.size≤maxLen)(ah:p≤s.size)(h:PD w0 r s p er w)(h6:nV s p er≤6000∨cB (eL s p er)=true) :
 Calls Tryz.prog 96 #[rD r pb,.func (.func 95) #[rD r pb] #[]] w (LP w0 r s 9 (cK (fD m s) s p er).1.length ((cK (fD m s) s p er).1.map Value.string) (cK (fD m s) s p er).2.1 (cK (fD m s) s p er).2.2 w):=by
 have hW:=h.alloc (.cells #[.pointer (some ⟨r,0,none⟩),.pointer (some ⟨pb,0,none⟩)] 141);have B:=bV.new w 141 #[.pointer (some ⟨r,0,none⟩),.pointer (some ⟨pb,0,none⟩)];obtain⟨W,ae⟩:∃W,Hid (W=w.alloc (.cells #[.pointer (some ⟨r,0,none⟩),.pointer (some ⟨pb,0,none⟩)] 141)):=⟨_,hid rfl⟩;have ag:w.heap.size≠r:=by have:=h.lt;omega
 have a3:Hid (∀(J:World) A cap (xs:List Value) n q e,LS w0 r s q e W 9 A cap xs J→LP w0 r s 9 n xs q e w (.returned (.slice A n cap)) J):=hid (fun J A cap xs n q e x=>x.end_ ae.out);rw[←ae.out]at hW B;have b4:Hid (w0.heap.size≤W.heap.size):=hid hW.be.size;have HB:Hid (∀J,Fr [r] W J→J.cell? ⟨w.heap.size,0,none⟩=some (.pointer (some ⟨r,0,none⟩))∧J.cell? ⟨w.heap.size,1,none⟩=some (.pointer (some ⟨pb,0,none⟩))):=hid (fun J f=>⟨(B.kept f (by simpa using ag)).cell 0,(B.kept f (by simpa using ag)).cell 1⟩);have x0:W.cell? ⟨w.heap.size,0,none⟩=some (.pointer (some ⟨r,0,none⟩)):=B.cell 0;have K:=hid (gM W r s p er hW.rd hs ah);have ak:Hid (∀J,RD J r s (nP s p er) (nE s p er)→Fr [r] W J→LS w0 r s (nP s p er) (nE s p er) W 9 none 0 [] J):=hid (fun J x f=>⟨hW.of f x,f,Seg.nil _ _,fun q hq=>by cases hq⟩);have HT:=hid (fun(J:World) (q:Nat) (e:Int) (hq:q≤s.size) (x:PD w0 r s q e J)=>fT (pb:=pb) hp hm hs hq x)
 have a6:=hid (fun(J:World) (q:Nat) (e:Int) (x:PD w0 r s q e J)=>lS (pb:=pb) x);have a7:=hid (eB s p er ah);obtain⟨R,hR⟩:∃R,Hid (R=cK (fD m s) s p er):=⟨_,hid rfl⟩;rw[←hR.out];have a8:Hid (R=dX (fD m s) (nV s p er) (nP s p er) (eL s p er)):=hid hR.out;have a9:Hid (eL s p er=if 6000<nV s p er then fE (nE s p er) 4 else nE s p er):=hid rfl;unfold jE at K;unfold PP at HT a6;have aa:=hid h6;clear hW B h hp hm hs ah ag hR h6;generalize nP s p er=p1 at *;generalize nE s p er=e1 at *;generalize nV s p er=n at *;generalize eL s p er=e2 at *;obtain⟨i0,ai,aw,au,ap⟩:=aBQ;have Hi:=hid ai;have ay:=hid aw;have b5:=hid au;have b2:=hid ap;clear ai aw au ap;unfold rD at HT a6 ⊢;go_enter Tryz.func96,Tryz.ntmps96;go_upto_region 1 with fail;rw[←ae.out];clear ae;generalize w.heap.size=bx at *;go_wp2_with fail;refine K.out.mono ?_;rintro e J ⟨rfl,x2,f2⟩;have L2:=hid (ak.out J x2 f2)
 obtain⟨c0,c1⟩:=HB.out J f2;clear x2 f2 K x0 ak;have ao:=hid L2.out.pd;by_cases h6:6000<n
 ·have d6:decide (6000<(n:Int))=true:=aC (by omega)
  have ad:e2=fE e1 4:=by rw[a9.out,if_pos h6]
  have KF:=hid (rQ J r s p1 e1 4 L2.out.pd.rd);rw[←ad]at KF;unfold jE at KF;clear a9 ad;go_wp2_with fail;refine KF.out.mono ?_;rintro e w3 ⟨rfl,x3,f3⟩;have L3:=hid (L2.out.read (by decide) (L2.out.pd.of f3 x3) f3);clear x3 f3 KF c0 c1 L2 ao;have a2:Hid (LS w0 r s p1 e2 W 9 none 0 (([]:List ByteArray).map Value.string) w3):=L3;have a5:Hid (R=([]++(dX (fD m s) (n-0) p1 e2).1,(dX (fD m s) (n-0) p1 e2).2)):=hid a8.out;clear L3 a8;obtain⟨c0,c1⟩:=HB.out w3 a2.out.fr;go_wp2_with fail;go_loopw [6,7] (fun v i wr=>∃(k:Nat) (A:Option Addr) (cap:Nat) (xs:List ByteArray) (q:Nat) (eq:Int),k≤n∧i=.int .i64 k∧v=.slice A xs.length cap∧xs.length≤k∧Hid (LS w0 r s q eq W 9 A cap (xs.map Value.string) wr)∧Hid (q≤s.size)∧Hid (n≤6000∨cB eq=true)∧Hid (R=(xs++(dX (fD m s) (n-k) q eq).1,(dX (fD m s) (n-k) q eq).2))) (fun _ i _=>n-(intOf i).toNat)
  case atStart=>exact⟨0,none,0,[],p1,e2,by omega,rfl,rfl,by simp,a2,a7,aa,a5⟩
  case round=>
   obtain⟨k,A,cap,xs,q,eq,hk,rfl,rfl,b3,HL,hq,hh,a0⟩:=hrel;clear a2 a5 c0 c1 aa a7;obtain⟨c0,c1⟩:=HB.out wr HL.out.fr;by_cases b1:k<n
   ·have d1:decide ((k:Int)<(n:Int))=true:=aC (by omega)
    have KW:=hid (a6.out wr q eq HL.out.pd);obtain⟨j,hj⟩:∃j,n-k=j+1:=⟨n-k-1,by omega⟩;have a4:n-(k+1)=j:=by omega
    rcases hb:cB eq with _ | _
    ·rw[hb]at KW
     have aj:n≤6000:=by
      rcases hh.out with h1 | h1
      ·exact h1
      ·rw[hb]at h1;cases h1
     exact absurd h6 (by omega)
    ·rw[hb]at KW
     have Y:Hid (R=(xs,q,eq)):=hid (by
      rw[a0.out,hj];show(xs++(if cB eq then _ else _:List ByteArray×Nat×Int).1,(if cB eq then _ else _:List ByteArray×Nat×Int).2)=_;rw[hb]
      simp)
     clear a0 hh hj a4;have a1:=hid (fun(w4:World) (x:PD w0 r s q eq w4) (f:Fr [r] wr w4)=>HL.out.read (by decide) x f);go_wp2_with fail;refine KW.out.mono ?_;rintro e w4 ⟨rfl,x4,f4⟩;have L4:=hid (a1.out w4 x4 f4);clear x4 f4 KW a1 HL;go_wp2_with fail;go_ret;rw[Y.out];exact a3.out _ _ _ _ _ _ _ L4.out
   ·obtain rfl:k=n:=by omega
    have d1:decide ((k:Int)<(k:Int))=false:=aB (by omega);have Y:Hid (R=(xs,q,eq)):=hid (by rw[a0.out,Nat.sub_self];simp[dX]);go_wp2_with fail;go_ret;rw[Y.out];exact a3.out _ _ _ _ _ _ _ HL.out
 ·have d6:decide (6000<(n:Int))=false:=aB (by omega)
  have ad:e2=e1:=by rw[a9.out,if_neg h6]
  subst ad;have L3:=L2;clear a9 c0 c1 L2 ao;have a2:Hid (LS w0 r s p1 e2 W 9 none 0 (([]:List ByteArray).map Value.string) J):=L3;have a5:Hid (R=([]++(dX (fD m s) (n-0) p1 e2).1,(dX (fD m s) (n-0) p1 e2).2)):=hid a8.out;clear L3 a8;obtain⟨c0,c1⟩:=HB.out J a2.out.fr;go_wp2_with fail;go_loopw [6,7] (fun v i wr=>∃(k:Nat) (A:Option Addr) (cap:Nat) (xs:List ByteArray) (q:Nat) (eq:Int),k≤n∧i=.int .i64 k∧v=.slice A xs.length cap∧xs.length≤k∧Hid (LS w0 r s q eq W 9 A cap (xs.map Value.string) wr)∧Hid (q≤s.size)∧Hid (n≤6000∨cB eq=true)∧Hid (R=(xs++(dX (fD m s) (n-k) q eq).1,(dX (fD m s) (n-k) q eq).2))) (fun _ i _=>n-(intOf i).toNat)
  case atStart=>exact⟨0,none,0,[],p1,e2,by omega,rfl,rfl,by simp,a2,a7,aa,a5⟩
  case round=>
   obtain⟨k,A,cap,xs,q,eq,hk,rfl,rfl,b3,HL,hq,hh,a0⟩:=hrel;clear a2 a5 c0 c1 aa a7;obtain⟨c0,c1⟩:=HB.out wr HL.out.fr;by_cases b1:k<n
   ·have d1:decide ((k:Int)<(n:Int))=true:=aC (by omega)
    have KW:=hid (a6.out wr q eq HL.out.pd);obtain⟨j,hj⟩:∃j,n-k=j+1:=⟨n-k-1,by omega⟩;have a4:n-(k+1)=j:=by omega
    rcases hb:cB eq with _ | _
    ·rw[hb]at KW
     have aj:n≤6000:=by
      rcases hh.out with h1 | h1
      ·exact h1
      ·rw[hb]at h1;cases h1
     have Y:Hid (R=((xs++[tT m s q eq])++(dX (fD m s) (n-(k+1)) (nP s q eq) (tN m s q eq)).1,(dX (fD m s) (n-(k+1)) (nP s q eq) (tN m s q eq)).2)):=hid (by
      rw[a0.out,hj,a4];show(xs++(if cB eq then _ else _:List ByteArray×Nat×Int).1,(if cB eq then _ else _:List ByteArray×Nat×Int).2)=_;rw[hb]
      simp[fD])
     have ax:=hid (eB s q eq hq.out);clear a0 hh hj a4;have a1:=hid (fun(w4:World) (x:PD w0 r s q eq w4) (f:Fr [r] wr w4)=>HL.out.read (by decide) x f);go_wp2_with fail;refine KW.out.mono ?_;rintro e w4 ⟨rfl,x4,f4⟩;have L4:=hid (a1.out w4 x4 f4);have KT:=hid (HT.out w4 q eq hq.out x4);clear x4 f4 KW a1 HL;generalize tT m s q eq=y at *;go_wp2_with fail;refine KT.out.mono ?_;rintro e w5 ⟨rfl,x5,f5⟩;have L5:=hid (L4.out.read (by decide) x5 f5);clear x5 f5 KT L4 hq;generalize nP s q eq=q2 at *;generalize tN m s q eq=e3 at *
     go_wp2_with (at_builtin;refine dQ rfl _ _ _ rfl (L5.out.seg.alloc _) (by rw[aH]) Tryz.underlying22 Hi.out ay.out b5.out b2.out rfl rfl rfl (dH _ _ _) rfl (by omega) (by omega) ?_;intro A3 af w6 ar f6 am;have L6:=hid (L5.out.push (by decide) b4.out ar f6 am);clear ar f6 am)
     have az:Hid (LS w0 r s q2 e3 W 9 A3 af ((xs++[y]).map Value.string) w6):=hid (by rw[List.map_append];exact L6.out);have av:(xs++[y]).length=xs.length+1:=by simp
     go_roundw
     case rel=>exact⟨k+1,A3,af,xs++[y],q2,e3,by omega,by go_num,by rw[av],by omega,az,ax,hid (Or.inl aj),Y⟩
     case measure=>simp[intOf];omega
    ·rw[hb]at KW
     have Y:Hid (R=(xs,q,eq)):=hid (by
      rw[a0.out,hj];show(xs++(if cB eq then _ else _:List ByteArray×Nat×Int).1,(if cB eq then _ else _:List ByteArray×Nat×Int).2)=_;rw[hb]
      simp)
     clear a0 hh hj a4;have a1:=hid (fun(w4:World) (x:PD w0 r s q eq w4) (f:Fr [r] wr w4)=>HL.out.read (by decide) x f);go_wp2_with fail;refine KW.out.mono ?_;rintro e w4 ⟨rfl,x4,f4⟩;have L4:=hid (a1.out w4 x4 f4);clear x4 f4 KW a1 HL;go_wp2_with fail;go_ret;rw[Y.out];exact a3.out _ _ _ _ _ _ _ L4.out
   ·obtain rfl:k=n:=by omega
    have d1:decide ((k:Int)<(k:Int))=false:=aB (by omega);have Y:Hid (R=(xs,q,eq)):=hid (by rw[a0.out,Nat.sub_self];simp[dX]);go_wp2_with fail;go_ret;rw[Y.out];exact a3.out _ _ _ _ _ _ _ HL.out
theorem aCg:∀(l:List UInt8) (i n:Nat),(cntF i n l).2.2≤3
 | [],i,n=>by unfold cntF;simp
 | b :: l,i,n=>by
  unfold cntF;split
  ·simp
  ·split
   ·simp
   ·split
    ·simp
    ·first
     | exact aCg l _ _
     | (split
        ·simp
        ·exact aCg l _ _)
theorem pG(s:ByteArray)(p:Nat)(er:Int)(h:er≠6):nE s p er≠6:=by
 unfold nE;split
 ·exact h
 ·have:(ct s p).2.2≤3:=by unfold ct cnt;exact aCg _ _ _
  omega
theorem aK3(er d:Int)(h:er≠6)(hd:d≠6):fE er d≠6:=by
 unfold fE;split
 ·exact hd
 ·exact h
theorem kX(m:List (List UInt8))(s:ByteArray)(p:Nat)(er:Int)(h:er≠6):tN m s p er≠6:=by
 unfold tN;split
 ·exact pG s p er h
 ·exact aK3 _ _ (pG s p er h) (by decide)
theorem sO(s:ByteArray)(p:Nat)(er:Int)(h:er≠6):eL s p er≠6:=by
 unfold eL;split
 ·exact aK3 _ _ (pG s p er h) (by decide)
 ·exact pG s p er h
theorem yJ(er:Int)(h:er≠6):cB er=decide (er≠0):=by
 unfold cB;by_cases h0:er=0
 ·subst h0;rfl
 ·simp[h0,h]
theorem sK(s:ByteArray)(p:Nat)(er:Int)(h:er≠6):nV s p er≤6000∨cB (eL s p er)=true:=by
 by_cases J:6000<nV s p er
 ·right
  rw[yJ _ (sO s p er h)];unfold eL fE;rw[if_pos J];split
  ·rfl
  ·rename_i Y
   simpa using Y
 ·left;omega
end re
namespace re
open RowKit Shelf mem sy vr po
structure El(β:Type) where
 row:β→List Value
 bl:β→List Nat
 ok:World→β→Prop
structure El.Good{β:Type}(E:El β)(sz:Nat):Prop where
 pos:0<sz
 len:∀b,(E.row b).length=sz
 one:∀b,∀u∈E.row b,u.oneCell'=true
 kept:∀{w w':World} {F:List Nat} {b:β},E.ok w b→Fr F w w'→(∀x∈E.bl b,x∉F)→E.ok w' b
 lt:∀{w:World} {b:β},E.ok w b→∀x∈E.bl b,x<w.heap.size
structure Rdr(lo:Nat)(D:Nat→Int→World→Prop):Prop where
 kept:∀{q:Nat} {e:Int} {w w':World} {G:List Nat},D q e w→Fr G w w'→(∀x∈G,lo≤x)→D q e w'
theorem aB9(w0:World)(r:Nat)(s:ByteArray):Rdr (r+1) (PD w0 r s):=⟨by
 intro q e w w' G h f J
 exact⟨⟨h.rd.box.kept f (fun hr=>by have:=J r hr;omega)⟩,fI h.be f (fun x Y=>by have:=J x Y;have:=h.ge;omega),h.ge⟩⟩
structure jP{β:Type}(E:El β)(sz:Nat)(F:List Nat)(D:Nat→Int→World→Prop)(p:Nat)(er:Int)(W:World)(e:TypeId)(A:Option Addr)(cap:Nat)(xs:List β)(w:World):Prop where
 pd:D p er w
 fr:Fr F W w
 sg:Sg sz w e A cap xs.length (xs.flatMap E.row)
 nw:∀x∈blk A,W.heap.size≤x
 ok:∀b∈xs,E.ok w b∧∀x∈E.bl b,W.heap.size≤x∧x∉blk A
 hr:∀x∈F,x<W.heap.size
def OP{α β:Type}(E:El β)(Y:β→α)(r:Nat)(D:Nat→Int→World→Prop)(a:α)(q:Nat)(eq:Int)(w:World)(J:Ending)(w':World):Prop:=∃b,J=.returned (.agg (E.row b).toArray)∧Y b=a∧D q eq w'∧Fr [r] w w'∧E.ok w' b∧∀x∈E.bl b,w.heap.size≤x
def wN{α β:Type}(E:El β)(sz:Nat)(Y:β→α)(r:Nat)(D:Nat→Int→World→Prop)(e:TypeId)(L:List α)(q:Nat)(eq:Int)(w:World)(J:Ending)(w':World):Prop:=∃(A:Option Addr) (cap:Nat) (bs:List β),bs.map Y=L∧J=.returned (.slice A bs.length cap)∧Sg sz w' e A cap bs.length (bs.flatMap E.row)∧D q eq w'∧Fr [r] w w'∧(∀x∈blk A,w.heap.size≤x)∧∀b∈bs,E.ok w' b∧∀x∈E.bl b,w.heap.size≤x
section
variable {β:Type} {E:El β} {sz:Nat} {lo:Nat} {F:List Nat} {r:Nat} {D:Nat→Int→World→Prop} {p:Nat} {er:Int}
theorem jP.start{W w:World}{e:TypeId}(x:D p er w)(f:Fr F W w)(hr:∀x∈F,x<W.heap.size):jP E sz F D p er W e none 0 [] w:=
 ⟨x,f,Sg.new sz w e,fun x J=>(by cases J),fun b hb=>(by cases hb),hr⟩
theorem jP.read{W w Y:World}{e:TypeId}{A:Option Addr}{cap:Nat}{xs:List β}{q:Nat}{e2:Int}(G:E.Good sz)(h:jP E sz F D p er W e A cap xs w)(x:D q e2 Y)(f:Fr F w Y):jP E sz F D q e2 W e A cap xs Y:=by
 refine⟨x,h.fr.trans f (fun x J=>Or.inl J) (fun x J=>Or.inl J),h.sg.kept f (fun x J h1=>?_),h.nw,fun b hb=>⟨G.kept (h.ok b hb).1 f (fun x J h1=>?_),(h.ok b hb).2⟩,h.hr⟩
 ·have:=h.nw x J
  have:=h.hr x h1;omega
 ·have:=((h.ok b hb).2 x J).1
  have:=h.hr x h1;omega
theorem jP.push{W w w3:World}{o:Obj}{e:TypeId}{A A3:Option Addr}{cap Y:Nat}{xs:List β}{b:β}(R:Rdr lo D)(G:E.Good sz)(h:jP E sz F D p er W e A cap xs w)(h0:lo≤W.heap.size)(hb:E.ok w b)(hn:∀x∈E.bl b,W.heap.size≤x∧x∉blk A)(s3:Sg sz w3 e A3 Y (xs.length+1) (xs.flatMap E.row++E.row b))(f3:Fr (blk A) (w.alloc o) w3)(b3:blk A3=blk A∨blk A3=[(w.alloc o).heap.size]):jP E sz F D p er W e A3 Y (xs++[b]) w3:=by
 have f4:Fr (blk A) w w3:=((Fr.refl [] w).alloc o).trans f3 (by simp) (fun x J=>Or.inl J);have f5:Fr F W w3:=h.fr.trans f4 (fun x J=>Or.inl J) (fun x J=>Or.inr (h.nw x J));have hz:(w.alloc o).heap.size=w.heap.size+1:=bH _;refine⟨R.kept h.pd f4 (fun x J=>aZ h0 (h.nw x J)),f5,?_,fun x J=>?_,fun c hc=>?_,h.hr⟩
 ·rw[aF,List.flatMap_append]
  simpa using s3
 ·rcases b3 with e1 | e1
  ·rw[e1]at J;exact h.nw x J
  ·rw[e1,aD]at J
   rw[J];exact aZ h.fr.size ((Fr.refl [] w).alloc o).size
 ·have key:E.ok w c∧∀x∈E.bl c,W.heap.size≤x∧x∉blk A:=by
   rcases List.mem_append.1 hc with hc | hc
   ·exact h.ok c hc
   ·rw[aD]at hc;subst hc;exact⟨hb,hn⟩
  refine⟨G.kept key.1 f4 (fun x J=>(key.2 x J).2),fun x J=>⟨(key.2 x J).1,fun h1=>?_⟩⟩;rcases b3 with e1 | e1
  ·rw[e1]at h1;exact(key.2 x J).2 h1
  ·rw[e1,aD]at h1
   have:=G.lt key.1 x J;omega
theorem jP.fin{α:Type}{J:β→α}{W Y:World}{e:TypeId}{A:Option Addr}{cap:Nat}{xs:List β}(h:jP E sz [r] D p er W e A cap xs Y):wN E sz J r D e (xs.map J) p er W (.returned (.slice A xs.length cap)) Y:=
 ⟨A,cap,xs,rfl,rfl,h.sg,h.pd,h.fr,h.nw,fun b hb=>⟨(h.ok b hb).1,fun x hx=>((h.ok b hb).2 x hx).1⟩⟩
theorem jP.end_{α:Type}{pr:β→α}{w W w2:World}{o:Obj}{e:TypeId}{A:Option Addr}{cap:Nat}{xs:List β}(h:jP E sz [r] D p er W e A cap xs w2)(hW:W=w.alloc o):wN E sz pr r D e (xs.map pr) p er w (.returned (.slice A xs.length cap)) w2:=by
 subst hW;have Y:=((Fr.refl [] w).alloc o).size;exact⟨A,cap,xs,rfl,rfl,h.sg,h.pd,((Fr.refl [] w).alloc o).trans h.fr (by simp) (fun x J=>Or.inl J),fun x J=>aZ Y (h.nw x J),fun b hb=>⟨(h.ok b hb).1,fun x J=>aZ Y ((h.ok b hb).2 x J).1⟩⟩
theorem jP.new{W w:World}{e:TypeId}{A:Option Addr}{cap:Nat}{xs:List β}{l:List Nat}(h:jP E sz F D p er W e A cap xs w)(hl:∀x∈l,w.heap.size≤x):∀x∈l,W.heap.size≤x∧x∉blk A:=fun x J=>⟨aZ h.fr.size (hl x J),fun Y=>by
 have:=h.sg.lt x Y;have:=hl x J
 omega⟩
end
theorem iZ(w:World)(t:TypeId)(l:List Value):∀(j:Nat) (v:Value),l[j]? = some v→(w.alloc (.cells l.toArray t)).cell? ((⟨w.heap.size,0,none⟩:Addr).add j)=some v:=by
 intro j v h;have J:(⟨w.heap.size,0,none⟩:Addr).add j=⟨w.heap.size,j,none⟩:=by unfold Addr.add;split <;> simp_all
 rw[J,(bV.new w t l.toArray).cell j]
 simpa using h
theorem aDh{α β:Type}(f:α→List β)(sz:Nat)(h:∀x,(f x).length=sz):∀(l:List α) (j:Nat) (J:j<l.length) (i:Nat),i<sz→(l.flatMap f)[j * sz+i]? = (f l[j])[i]?
 | [],j,J,i,hi=>by simp at J
 | x :: l,0,J,i,hi=>by
  rw[List.flatMap_cons,Nat.zero_mul,Nat.zero_add,List.getElem?_append_left (by rw[h];exact hi)];rfl
 | x :: l,j+1,J,i,hi=>by
  have Y:(j+1) * sz=j * sz+sz:=by rw[Nat.add_mul,Nat.one_mul]
  rw[List.flatMap_cons,List.getElem?_append_right (by rw[h];omega),h,show(j+1) * sz+i-sz=j * sz+i by omega];exact aDh f sz h l j (by simpa using J) i hi
theorem aCA{α β:Type}(f:α→List β)(sz:Nat)(h:∀x,(f x).length=sz):∀l:List α,(l.flatMap f).length=l.length * sz
 | []=>by simp
 | x :: l=>by rw[List.flatMap_cons,aF,h,aCA f sz h l,aG,Nat.add_mul,Nat.one_mul,Nat.add_comm]
theorem yC{β:Type}{sz:Nat}{w:World}{e:TypeId}{A:Option Addr}{cap:Nat}{xs:List β}{f:β→List Value}(hf:∀x,(f x).length=sz)(hp:0<sz)(h:Sg sz w e A cap xs.length (xs.flatMap f)):zW w A sz (xs.map f):=fun Y=>by
 rw[aH]at Y;have a0:=aCA f sz hf xs;have J:0<xs.length * sz:=Nat.mul_pos Y hp;obtain⟨g,off,e,hl,hc⟩:=h.rd hp (by omega);refine⟨g,off,e,hl,fun j hj i v hv=>?_⟩;rw[aH]at hj;rw[List.getElem_map]at hv;have hi:i<sz:=by rw[←hf xs[j]];exact(List.getElem?_eq_some_iff.1 hv).1
 have h1:=aDh f sz hf xs j hj i hi;rw[hv]at h1;obtain⟨h2,h3⟩:=List.getElem?_eq_some_iff.1 h1;have:=hc (j * sz+i) h2;rw[h3]at this;rw[Nat.add_assoc];exact this
theorem zW.kept{F:List Nat}{w w':World}{A:Option Addr}{sz:Nat}{rows:List (List Value)}(h:zW w A sz rows)(hf:Fr F w w')(hd:∀g∈blk A,g∉F):zW w' A sz rows:=fun J=>by
 obtain⟨b,off,e,hl,hc⟩:=h J;subst e;have hb:b∉F:=hd b (by simp[blk]);refine⟨b,off,rfl,Nat.lt_of_lt_of_le hl hf.size,fun j Y i v hv=>?_⟩;exact(World.cell?_of_block (w:=w) (hf.block b hl hb)).trans (hc j Y i v hv)
def EMk:El Mk:=⟨tZ,fun _=>[],fun _ m=>m.tag.size≤maxLen∧(Lit.int .i64 m.at_).wf=true⟩
def EFn:El SF:=⟨lF,fun _=>[],fun _ f=>FOk f⟩
def zG:El MO:=⟨MO.row,fun x=>blk x.mA,fun w x=>MOk w x∧∀g∈blk x.mA,g<w.heap.size⟩
def zR:El MC:=⟨MC.row,fun x=>blk x.aA,fun w x=>COk w x∧∀g∈blk x.aA,g<w.heap.size⟩
def ETx:El ByteArray:=⟨fun s=>[.string s],fun _=>[],fun _ _=>True⟩
theorem sS:ETx.Good 1:=⟨by decide,fun _=>rfl,fun b u J=>by
 simp only[ETx,aM,aT,or_false]at J;rcases J with rfl
 rfl,fun h _ _=>h,fun _ x Y=>by cases Y⟩
theorem gMk:EMk.Good 2:=⟨by decide,fun _=>rfl,fun b u J=>by
 simp only[EMk,tZ,aM,aT,or_false]at J
 rcases J with rfl | rfl <;> rfl,fun h _ _=>h,fun _ x Y=>by cases Y⟩
theorem gFn:EFn.Good 3:=⟨by decide,fun _=>rfl,fun b u J=>by
 simp only[EFn,lF,aM,aT,or_false]at J
 rcases J with rfl | rfl | rfl <;> rfl,fun h _ _=>h,fun _ x Y=>by cases Y⟩
theorem yX:zG.Good 3:=⟨by decide,fun _=>rfl,fun b u J=>by
 simp only[zG,MO.row,aM,aT,or_false]at J
 rcases J with rfl | rfl | rfl <;> rfl,fun {w w' F b} h f hd=>⟨⟨h.1.n,h.1.k,zW.kept h.1.m f hd,h.1.ml,h.1.mt,h.1.mw,h.1.mcp⟩,fun g hg=>Nat.lt_of_lt_of_le (h.2 g hg) f.size⟩,fun h x Y=>h.2 x Y⟩
theorem gCo:zR.Good 6:=⟨by decide,fun _=>rfl,fun b u J=>by
 simp only[zR,MC.row,aM,aT,or_false]at J
 rcases J with rfl | rfl | rfl | rfl | rfl | rfl <;> rfl,fun {w w' F b} h f hd=>⟨⟨h.1.a,h.1.b,h.1.t,h.1.g.kept f hd,h.1.gl,h.1.gc,h.1.gs⟩,fun g hg=>Nat.lt_of_lt_of_le (h.2 g hg) f.size⟩,fun h x Y=>h.2 x Y⟩
end re
namespace re
open RowKit Shelf mem sy vr po
theorem aKH:(Tryz.prog.info? 103).map (fun i=>(i.zero,i.size,i.bytes))=some (some (.agg #[.string ⟨#[]⟩,.string ⟨#[]⟩,.string ⟨#[]⟩]),3,48):=by kernel_rfl
theorem aFe:∃i,Tryz.prog.info? 103=some i∧i.zero=some (.agg #[.string ⟨#[]⟩,.string ⟨#[]⟩,.string ⟨#[]⟩])∧i.size=3∧i.bytes=48:=by
 have h:=aKH;rcases hi:Tryz.prog.info? 103 with _ | i
 ·rw[hi]at h;cases h
 ·rw[hi]at h
  simp only[Option.map_some,Option.some.injEq,Prod.mk.injEq]at h;exact⟨i,rfl,h.1,h.2.1,h.2.2⟩
theorem list_fn{w0:World}{r pb:Nat}{s:ByteArray}{p:Nat}{er:Int}{one:Nat→Int→SF×Nat×Int}{w:World}(hs:s.size≤maxLen)(ak:p≤s.size)(h:PD w0 r s p er w)(he:er≠6)
 (b4:Hid (∀q e,q≤s.size→e≠6→(one q e).2.1≤s.size∧(one q e).2.2≠6))
 (HT:Hid (∀(J:World) (q:Nat) (e:Int),q≤s.size→e≠6→PD w0 r s q e J→Fr [r] w J→Calls Tryz.prog 100 #[rD r pb] J (OP EFn (fun m:SF=>m) r (PD w0 r s) (one q e).1 (one q e).2.1 (one q e).2.2 J))) :
 Calls Tryz.prog 99 #[rD r pb,.func (.func 100) #[rD r pb] #[]] w (wN EFn 3 (fun m:SF=>m) r (PD w0 r s) 103 (cK one s p er).1 (cK one s p er).2.1 (cK one s p er).2.2 w):=by
 have hW:=h.alloc (.cells #[.pointer (some ⟨r,0,none⟩),.pointer (some ⟨pb,0,none⟩)] 141);have B:=bV.new w 141 #[.pointer (some ⟨r,0,none⟩),.pointer (some ⟨pb,0,none⟩)];obtain⟨W,a6⟩:∃W,Hid (W=w.alloc (.cells #[.pointer (some ⟨r,0,none⟩),.pointer (some ⟨pb,0,none⟩)] 141)):=⟨_,hid rfl⟩;have ah:w.heap.size≠r:=by have:=h.lt;omega
 have a3:Hid (∀(J:World) A cap (xs:List SF) q e,jP EFn 3 [r] (PD w0 r s) q e W 103 A cap xs J→wN EFn 3 (fun m:SF=>m) r (PD w0 r s) 103 (xs.map (fun m:SF=>m)) q e w (.returned (.slice A xs.length cap)) J):=hid (fun J A cap xs q e x=>x.end_ a6.out);have hf:Fr [] w W:=by rw[a6.out];exact(Fr.refl [] w).alloc _
 have az:Hid (∀(J:World) (q:Nat) (e:Int),q≤s.size→e≠6→PD w0 r s q e J→Fr [r] W J→Calls Tryz.prog 100 #[rD r pb] J (OP EFn (fun m:SF=>m) r (PD w0 r s) (one q e).1 (one q e).2.1 (one q e).2.2 J)):=hid (fun J q e a b c f=>HT.out J q e a b c (hf.trans f (by simp) (fun x hx=>Or.inl hx)));rw[←a6.out]at hW B;have bc:Hid (w0.heap.size≤W.heap.size):=hid hW.be.size;have aj:r<W.heap.size:=hW.lt;have b8:Hid (r+1≤W.heap.size):=hid aj;have HB:Hid (∀J,Fr [r] W J→J.cell? ⟨w.heap.size,0,none⟩=some (.pointer (some ⟨r,0,none⟩))∧J.cell? ⟨w.heap.size,1,none⟩=some (.pointer (some ⟨pb,0,none⟩))):=hid (fun J f=>⟨(B.kept f (by simpa using ah)).cell 0,(B.kept f (by simpa using ah)).cell 1⟩);have x0:W.cell? ⟨w.heap.size,0,none⟩=some (.pointer (some ⟨r,0,none⟩)):=B.cell 0;have K:=hid (gM W r s p er hW.rd hs ak);have b1:Hid (∀J,RD J r s (nP s p er) (nE s p er)→Fr [r] W J→jP EFn 3 [r] (PD w0 r s) (nP s p er) (nE s p er) W 103 none 0 [] J):=hid (fun J x f=>jP.start (hW.of f x) f (by simpa using aj))
 have af:=hid (fun(J:World) (q:Nat) (e:Int) (x:PD w0 r s q e J)=>lS (pb:=pb) x);have ad:=hid (eB s p er ak);have a8:=hid (sO s p er he);obtain⟨R,hR⟩:∃R,Hid (R=cK one s p er):=⟨_,hid rfl⟩;rw[←hR.out];have ag:Hid (R=dX one (nV s p er) (nP s p er) (eL s p er)):=hid hR.out;have a9:Hid (eL s p er=if 6000<nV s p er then fE (nE s p er) 4 else nE s p er):=hid rfl;unfold jE at K;unfold PP at af;have a7:=hid (sK s p er he);clear hW B h hs ak ah hR he hf HT aj;generalize nP s p er=p1 at *;generalize nE s p er=e1 at *;generalize nV s p er=n at *;generalize eL s p er=e2 at *;obtain⟨i0,ay,au,b3,ax⟩:=aFe;have Hi:=hid ay;have b9:=hid au;have bb:=hid b3;have b7:=hid ax;clear ay au b3 ax;unfold rD at af az ⊢;go_enter Tryz.func99,Tryz.ntmps99;go_upto_region 1 with fail;rw[←a6.out];clear a6;generalize w.heap.size=bx at *;go_wp2_with fail;refine K.out.mono ?_
 rintro e J ⟨rfl,x2,f2⟩;have L2:=hid (b1.out J x2 f2);obtain⟨c0,c1⟩:=HB.out J f2;clear x2 f2 K x0 b1;by_cases h6:6000<n
 ·have d6:decide (6000<(n:Int))=true:=aC (by omega)
  have aa:e2=fE e1 4:=by rw[a9.out,if_pos h6]
  have KF:=hid (rQ J r s p1 e1 4 L2.out.pd.rd);rw[←aa]at KF;unfold jE at KF;clear a9 aa;go_wp2_with fail;refine KF.out.mono ?_;rintro e w3 ⟨rfl,x3,f3⟩;have L3:=hid (L2.out.read gFn (L2.out.pd.of f3 x3) f3);clear x3 f3 KF c0 c1 L2;have a2:Hid (jP EFn 3 [r] (PD w0 r s) p1 e2 W 103 none 0 [] w3):=L3;have a4:Hid (R=(([]:List SF).map (fun m:SF=>m)++(dX one (n-0) p1 e2).1,(dX one (n-0) p1 e2).2)):=hid ag.out;clear L3 ag;obtain⟨c0,c1⟩:=HB.out w3 a2.out.fr;go_wp2_with fail;go_loopw [6,7] (fun v i wr=>∃(k:Nat) (A:Option Addr) (cap:Nat) (xs:List SF) (q:Nat) (eq:Int),k≤n∧i=.int .i64 k∧v=.slice A xs.length cap∧xs.length≤k∧Hid (jP EFn 3 [r] (PD w0 r s) q eq W 103 A cap xs wr)∧Hid (q≤s.size)∧Hid (eq≠6)∧Hid (n≤6000∨cB eq=true)∧Hid (R=(xs.map (fun m:SF=>m)++(dX one (n-k) q eq).1,(dX one (n-k) q eq).2))) (fun _ i _=>n-(intOf i).toNat)
  case atStart=>exact⟨0,none,0,[],p1,e2,by omega,rfl,rfl,by simp,a2,ad,a8,a7,a4⟩
  case round=>
   obtain⟨k,A,cap,xs,q,eq,hk,rfl,rfl,ba,HL,hq,ae,hh,a0⟩:=hrel;clear a2 a4 c0 c1 a7 ad a8;obtain⟨c0,c1⟩:=HB.out wr HL.out.fr;by_cases b5:k<n
   ·have d1:decide ((k:Int)<(n:Int))=true:=aC (by omega)
    have KW:=hid (af.out wr q eq HL.out.pd);obtain⟨j,hj⟩:∃j,n-k=j+1:=⟨n-k-1,by omega⟩;have a5:n-(k+1)=j:=by omega
    rcases hb:cB eq with _ | _
    ·rw[hb]at KW
     have ap:n≤6000:=by
      rcases hh.out with h1 | h1
      ·exact h1
      ·rw[hb]at h1;cases h1
     exact absurd h6 (by omega)
    ·rw[hb]at KW
     have Y:Hid (R=(xs.map (fun m:SF=>m),q,eq)):=hid (by
      rw[a0.out,hj];show(xs.map (fun m:SF=>m)++(if cB eq then _ else _:List SF×Nat×Int).1,(if cB eq then _ else _:List SF×Nat×Int).2)=_;rw[hb]
      simp)
     clear a0 hh hj a5;have a1:=hid (fun(w4:World) (x:PD w0 r s q eq w4) (f:Fr [r] wr w4)=>HL.out.read gFn x f);go_wp2_with fail;refine KW.out.mono ?_;rintro e w4 ⟨rfl,x4,f4⟩;have L4:=hid (a1.out w4 x4 f4);clear x4 f4 KW a1 HL;go_wp2_with fail;go_ret;rw[Y.out];exact a3.out _ _ _ _ _ _ L4.out
   ·obtain rfl:k=n:=by omega
    have d1:decide ((k:Int)<(k:Int))=false:=aB (by omega);have Y:Hid (R=(xs.map (fun m:SF=>m),q,eq)):=hid (by rw[a0.out,Nat.sub_self];simp[dX]);go_wp2_with fail;go_ret;rw[Y.out];exact a3.out _ _ _ _ _ _ HL.out
 ·have d6:decide (6000<(n:Int))=false:=aB (by omega)
  have aa:e2=e1:=by rw[a9.out,if_neg h6]
  subst aa;have L3:=L2;clear a9 c0 c1 L2;have a2:Hid (jP EFn 3 [r] (PD w0 r s) p1 e2 W 103 none 0 [] J):=L3;have a4:Hid (R=(([]:List SF).map (fun m:SF=>m)++(dX one (n-0) p1 e2).1,(dX one (n-0) p1 e2).2)):=hid ag.out;clear L3 ag;obtain⟨c0,c1⟩:=HB.out J a2.out.fr;go_wp2_with fail;go_loopw [6,7] (fun v i wr=>∃(k:Nat) (A:Option Addr) (cap:Nat) (xs:List SF) (q:Nat) (eq:Int),k≤n∧i=.int .i64 k∧v=.slice A xs.length cap∧xs.length≤k∧Hid (jP EFn 3 [r] (PD w0 r s) q eq W 103 A cap xs wr)∧Hid (q≤s.size)∧Hid (eq≠6)∧Hid (n≤6000∨cB eq=true)∧Hid (R=(xs.map (fun m:SF=>m)++(dX one (n-k) q eq).1,(dX one (n-k) q eq).2))) (fun _ i _=>n-(intOf i).toNat)
  case atStart=>exact⟨0,none,0,[],p1,e2,by omega,rfl,rfl,by simp,a2,ad,a8,a7,a4⟩
  case round=>
   obtain⟨k,A,cap,xs,q,eq,hk,rfl,rfl,ba,HL,hq,ae,hh,a0⟩:=hrel;clear a2 a4 c0 c1 a7 ad a8;obtain⟨c0,c1⟩:=HB.out wr HL.out.fr;by_cases b5:k<n
   ·have d1:decide ((k:Int)<(n:Int))=true:=aC (by omega)
    have KW:=hid (af.out wr q eq HL.out.pd);obtain⟨j,hj⟩:∃j,n-k=j+1:=⟨n-k-1,by omega⟩;have a5:n-(k+1)=j:=by omega
    rcases hb:cB eq with _ | _
    ·rw[hb]at KW
     have ap:n≤6000:=by
      rcases hh.out with h1 | h1
      ·exact h1
      ·rw[hb]at h1;cases h1
     have Y:Hid (R=((xs.map (fun m:SF=>m)++[(one q eq).1])++(dX one (n-(k+1)) (one q eq).2.1 (one q eq).2.2).1,(dX one (n-(k+1)) (one q eq).2.1 (one q eq).2.2).2)):=hid (by
      rw[a0.out,hj,a5];show(xs.map (fun m:SF=>m)++(if cB eq then _ else _:List SF×Nat×Int).1,(if cB eq then _ else _:List SF×Nat×Int).2)=_;rw[hb]
      simp)
     obtain⟨ao,ai⟩:=b4.out q eq hq.out ae.out;replace ao:=hid ao;replace ai:=hid ai;clear a0 hh hj a5;have a1:=hid (fun(w4:World) (x:PD w0 r s q eq w4) (f:Fr [r] wr w4)=>HL.out.read gFn x f);go_wp2_with fail;refine KW.out.mono ?_;rintro e w4 ⟨rfl,x4,f4⟩;have L4:=hid (a1.out w4 x4 f4);have KT:=hid (az.out w4 q eq hq.out ae.out x4 L4.out.fr);clear x4 f4 KW a1 HL;unfold OP at KT;generalize (one q eq).1=y at *;generalize (one q eq).2.1=q2 at *;generalize (one q eq).2.2=e3 at *;go_wp2_with fail;refine KT.out.mono ?_;rintro e w5 ⟨b,he,am,x5,f5,o5,n5⟩;obtain rfl:e=.returned (.agg #[.string b.name,.string b.kinds,.string b.ret]):=he;have N5:=hid (L4.out.new n5);have L5:=hid (L4.out.read gFn x5 f5);have O5:=hid o5;replace am:=hid am;clear x5 f5 KT L4 hq ae n5 o5
     go_wp2_with (at_builtin;refine iV (us:=[.string b.name,.string b.kinds,.string b.ret]) rfl _ _ _ rfl (L5.out.sg.alloc _) Tryz.underlying24 Hi.out b9.out bb.out b7.out rfl rfl rfl rfl (iZ _ _ [.string b.name,.string b.kinds,.string b.ret]) (gFn.one b) (by omega) (by omega) ?_;intro A3 aw w6 av f6 b2;have L6:=hid (L5.out.push (aB9 w0 r s) gFn b8.out O5.out N5.out av f6 b2);clear av f6 b2)
     have ar:(xs++[b]).length=xs.length+1:=by simp
     have b6:Hid (R=((xs++[b]).map (fun m:SF=>m)++(dX one (n-(k+1)) q2 e3).1,(dX one (n-(k+1)) q2 e3).2)):=hid (by rw[List.map_append,List.map_singleton,am.out];exact Y.out);go_roundw
     case rel=>exact⟨k+1,A3,aw,xs++[b],q2,e3,by omega,by go_num,by rw[ar],by omega,L6,ao,ai,hid (Or.inl ap),b6⟩
     case measure=>simp[intOf];omega
    ·rw[hb]at KW
     have Y:Hid (R=(xs.map (fun m:SF=>m),q,eq)):=hid (by
      rw[a0.out,hj];show(xs.map (fun m:SF=>m)++(if cB eq then _ else _:List SF×Nat×Int).1,(if cB eq then _ else _:List SF×Nat×Int).2)=_;rw[hb]
      simp)
     clear a0 hh hj a5;have a1:=hid (fun(w4:World) (x:PD w0 r s q eq w4) (f:Fr [r] wr w4)=>HL.out.read gFn x f);go_wp2_with fail;refine KW.out.mono ?_;rintro e w4 ⟨rfl,x4,f4⟩;have L4:=hid (a1.out w4 x4 f4);clear x4 f4 KW a1 HL;go_wp2_with fail;go_ret;rw[Y.out];exact a3.out _ _ _ _ _ _ L4.out
   ·obtain rfl:k=n:=by omega
    have d1:decide ((k:Int)<(k:Int))=false:=aB (by omega);have Y:Hid (R=(xs.map (fun m:SF=>m),q,eq)):=hid (by rw[a0.out,Nat.sub_self];simp[dX]);go_wp2_with fail;go_ret;rw[Y.out];exact a3.out _ _ _ _ _ _ HL.out
end re
namespace re
open RowKit Shelf mem sy vr
structure RS(w0:World)(g:Nat)(pA:Option Addr)(pc:Nat)(m:List (List UInt8))(L:List (List UInt8))(st:List UInt8×Int)(w:World):Prop where
 be:Below w0.heap.size w0 w
 ge:w0.heap.size≤g
 x:∃A cap,bV w g 135 #[.slice pA m.length pc,.string (bs st.1),.slice A L.length cap,.int .i64 st.2]∧Seg w 9 A cap (L.map encStr)
def RQ(w0:World)(g:Nat)(J:Option Addr)(pc:Nat)(m:List (List UInt8))(L:List (List UInt8))(st:List UInt8×Int)(w:World)(e:Ending)(w':World):Prop:=e=.returned (.tuple #[])∧RS w0 g J pc m L st w'∧Fr [g] w w'
section
variable {w0:World} {g:Nat} {pA:Option Addr} {pc:Nat} {m L:List (List UInt8)} {st:List UInt8×Int}
theorem RS.bel{w w':World}(h:RS w0 g pA pc m L st w)(hb:Below w.heap.size w w'):RS w0 g pA pc m L st w':=by
 obtain⟨A,cap,J,hs⟩:=h.x;exact⟨fI h.be (Fr.of_below hb []) (by simp),h.ge,A,cap,J.kept (Fr.of_below hb []) (by simp),hs.kept (Fr.of_below hb []) (by simp)⟩
theorem RS.drew{w:World}(h:RS w0 g pA pc m L st w):RS w0 g pA pc m L st w.drew:=h.bel (Below.refl _ _).drew
theorem RS.cells{w:World}(h:RS w0 g pA pc m L st w):w.cell? ⟨g,0,none⟩=some (.slice pA m.length pc)∧w.cell? ⟨g,1,none⟩=some (.string (bs st.1))∧w.cell? ⟨g,3,none⟩=some (.int .i64 st.2)∧w.frozen? ⟨g,1,none⟩=false∧w.frozen? ⟨g,3,none⟩=false:=by
 obtain⟨A,cap,J,hs⟩:=h.x;exact⟨J.cell 0,J.cell 1,J.cell 3,J.free 1,J.free 3⟩
theorem RS.setE{w:World}(h:RS w0 g pA pc m L st w)(e:Int):RS w0 g pA pc m L (st.1,e) (w.setCell ⟨g,3,none⟩ (.int .i64 e))∧Fr [g] w (w.setCell ⟨g,3,none⟩ (.int .i64 e)):=by
 obtain⟨A,cap,J,hs⟩:=h.x;have f1:Fr [g] w (w.setCell ⟨g,3,none⟩ (.int .i64 e)):=(Fr.refl [g] w).setCell (p:=⟨g,3,none⟩) (Or.inl (by simp)) _;have hn:g∉blk A:=hs.ne_box J (by decide);exact⟨⟨fI h.be f1 (fun x J=>by rw[aD]at J;rw[J];exact h.ge),h.ge,A,cap,J.put 3 _,hs.kept f1 (fun x J Y=>by rw[aD]at Y;rw[Y]at J;exact hn J)⟩,f1⟩
theorem RS.setS{w:World}(h:RS w0 g pA pc m L st w)(S:List UInt8):RS w0 g pA pc m L (S,st.2) (w.setCell ⟨g,1,none⟩ (.string (bs S)))∧Fr [g] w (w.setCell ⟨g,1,none⟩ (.string (bs S))):=by
 obtain⟨A,cap,J,hs⟩:=h.x;have f1:Fr [g] w (w.setCell ⟨g,1,none⟩ (.string (bs S))):=(Fr.refl [g] w).setCell (p:=⟨g,1,none⟩) (Or.inl (by simp)) _;have hn:g∉blk A:=hs.ne_box J (by decide);exact⟨⟨fI h.be f1 (fun x J=>by rw[aD]at J;rw[J];exact h.ge),h.ge,A,cap,J.put 1 _,hs.kept f1 (fun x J Y=>by rw[aD]at Y;rw[Y]at J;exact hn J)⟩,f1⟩
theorem aKP{w:World}(k:Int)(h:RS w0 g pA pc m L st w)(hl:st.1.length≤100000000) :
 Calls Tryz.prog 151 #[.pointer (some ⟨g,0,none⟩),.int .i64 k] w (RQ w0 g pA pc m L (iK st k) w):=by
 obtain⟨c0,c1,c3,f1,f3⟩:=h.cells;have H:=hid h;obtain⟨S,E⟩:=st;dsimp only at c1 c3 hl;unfold iK;dsimp only;clear h c0;by_cases hE:E=0
 ·subst hE
  rw[if_neg (by simp)];by_cases hk:k<0∨268435456<k
  ·rw[if_pos hk]
   have HX:=hid (H.out.setE 2);have a6:(w.setCell ⟨g,3,none⟩ (.int .i64 2)).cell? ⟨g,3,none⟩=some (.int .i64 2):=HX.out.1.cells.2.2.1;by_cases h1:k<0
   ·have d1:decide (k<0)=true:=aC h1
    go_enter Tryz.func151,Tryz.ntmps151;go_wp2_with fail;go_end0;exact⟨rfl,HX.out.1,HX.out.2⟩
   ·have d1:decide (k<0)=false:=aB h1
    have d2:decide (268435456<k)=true:=aC (by omega);go_enter Tryz.func151,Tryz.ntmps151;go_wp2_with fail;go_end0;exact⟨rfl,HX.out.1,HX.out.2⟩
  ·rw[if_neg hk]
   have d1:decide (k<0)=false:=aB (by omega);have d2:decide (268435456<k)=false:=aB (by omega);obtain⟨n,rfl⟩:=Int.eq_ofNat_of_zero_le (by omega:0≤k);have hn:n≤268435456:=by omega
   rw[Int.toNat_natCast];have K:=hid (fun w'=>aDi w' n hn);have a2:=lI n hn;have a7:¬9223372036854775807<(bs S).size+(bs (nb n)).size:=by rw[nG,nG];omega
   have HN:Hid (∀Y,Below w.drew.heap.size w.drew Y→Y.cell? ⟨g,1,none⟩=some (.string (bs S))∧Y.frozen? ⟨g,1,none⟩=false∧RS w0 g pA pc m L (S++nb n,0) (Y.setCell ⟨g,1,none⟩ (.string (bs S++bs (nb n))))∧Fr [g] w (Y.setCell ⟨g,1,none⟩ (.string (bs S++bs (nb n))))):=hid (fun Y hb=>by
    have h2:=H.out.drew.bel hb;obtain⟨a0,a1,a3,a4,a5⟩:=h2.cells;have h3:=h2.setS (S++nb n);rw[←aEA]at h3
    exact⟨a1,a4,h3.1,((Fr.refl [g] w).drew.trans (G:=[g]) (Fr.of_below hb [g]) (by simp) (by simp)).setCell (p:=⟨g,1,none⟩) (Or.inl (by simp)) _⟩)
   clear hk H hl f3;go_enter Tryz.func151,Tryz.ntmps151;go_wp2_with fail
   go_region_with ((go_at_call 40;refine(K.out _).mono ?_;rintro e Y ⟨rfl,hb⟩;obtain⟨k1,k2,k3,k4⟩:=HN.out _ hb;have k3:=hid k3;have k4:=hid k4;clear hb))
   all_goals (go_wp2_with fail;go_end0;exact⟨rfl,k3.out,k4.out⟩)
 ·rw[if_pos hE]
  have d0:(E==0)=false:=by simpa using hE
  have J:=hid (Fr.refl [g] w);by_cases h1:k<0
  ·have d1:decide (k<0)=true:=aC h1
   go_enter Tryz.func151,Tryz.ntmps151;go_wp2_with fail;go_end0;exact⟨rfl,H.out,J.out⟩
  ·have d1:decide (k<0)=false:=aB h1
   by_cases h2:268435456<k
   ·have d2:decide (268435456<k)=true:=aC h2
    go_enter Tryz.func151,Tryz.ntmps151;go_wp2_with fail;go_end0;exact⟨rfl,H.out,J.out⟩
   ·have d2:decide (268435456<k)=false:=aB h2
    go_enter Tryz.func151,Tryz.ntmps151;go_wp2_with fail;go_end0;exact⟨rfl,H.out,J.out⟩
end
end re
end Go.Proofs.YtdmmkjijgoiecaaGreatDoor
