import Derived.Test.YtdmmkjijgoiecaaGreatDoorY01
import Derived.Deep.AppendSrc
import Derived.Deep.Draws
import Derived.Lib.Hide
import Derived.ProofKit
import Derived.Test.YtdmmkjijgoiecaaGreatDoorRows
import Derived.Test.YtdmmkjijgoiecaaGreatDoorY03
set_option linter.all false
set_option maxHeartbeats 4000000
namespace Go.Proofs.YtdmmkjijgoiecaaGreatDoor
open Lib(hid)
set_option maxRecDepth 100000
namespace mem
open RowKit
structure Fr(F:List Nat)(w w':World):Prop where
 os:w'.os=w.os
 tape:w'.tape=w.tape
 output:w'.output=w.output
 size:w.heap.size≤w'.heap.size
 block:∀k,k<w.heap.size→k∉F→w'.heap[k]? = w.heap[k]?
theorem Fr.refl(F:List Nat)(w:World):Fr F w w:=⟨rfl,rfl,rfl,aY _,fun _ _ _=>rfl⟩
theorem Fr.of_below{w w':World}(h:Below w.heap.size w w')(F:List Nat):Fr F w w':=⟨h.os,h.tape,h.output,h.size,fun k J _=>h.block k J⟩
theorem Fr.below{F:List Nat}{w w':World}{B:Nat}(h:Fr F w w')(hF:∀g∈F,B≤g)(hB:B≤w.heap.size):Below B w w':=
 ⟨h.os,h.tape,h.output,h.size,fun k Y=>h.block k (by omega) (fun J=>by have:=hF k J;omega)⟩
theorem Fr.all{w w':World}(h:Fr [] w w'):Below w.heap.size w w':=h.below (fun g J=>(by cases J)) (aY _)
theorem Fr.trans{F F' G:List Nat}{a b c:World}(h:Fr F a b)(k:Fr F' b c)(hF:∀g∈F,g∈G∨a.heap.size≤g)(Y:∀g∈F',g∈G∨a.heap.size≤g):Fr G a c:=by
 refine⟨k.os.trans h.os,k.tape.trans h.tape,k.output.trans h.output,aZ h.size k.size,fun i hi hn=>?_⟩;have h1:i∉F:=fun J=>by rcases hF i J with h | h;exact hn h;omega
 have h2:i∉F':=fun J=>by rcases Y i J with h | h;exact hn h;omega
 exact(k.block i (Nat.lt_of_lt_of_le hi h.size) h2).trans (h.block i hi h1)
theorem Fr.alloc{F:List Nat}{a b:World}(h:Fr F a b)(o:Obj):Fr F a (b.alloc o):=
 ⟨h.os,h.tape,h.output,aZ h.size (by simp),fun i hi J=>(Below.heap_alloc b o i (Nat.lt_of_lt_of_le hi h.size)).trans (h.block i hi J)⟩
theorem Fr.drew{F:List Nat}{a b:World}(h:Fr F a b):Fr F a b.drew:=⟨h.os,h.tape,h.output,h.size,h.block⟩
theorem Fr.drewN{F:List Nat}{a b:World}(h:Fr F a b)(n:Nat):Fr F a (b.drewN n):=⟨h.os,h.tape,h.output,h.size,h.block⟩
theorem Fr.setCell{F:List Nat}{a b:World}(h:Fr F a b){p:Addr}(J:p.block∈F∨a.heap.size≤p.block)(u:Value):Fr F a (b.setCell p u):=
 ⟨h.os,h.tape,h.output,aZ h.size (by simp[World.setCell]),fun i hi Y=>by
  refine(Below.heap_setCell b p u i (fun e=>?_)).trans (h.block i hi Y);subst e;rcases J with J | J
  ·exact Y J
  ·omega⟩
theorem Fr.grown{F:List Nat}{a b c:World}(h:Fr F a b){row:Option Nat}(J:b.grownBy c row)(hr:∀k,row=some k→k∈F∨a.heap.size≤k):Fr F a c:=
 ⟨J.os.trans h.os,J.tape.trans h.tape,J.output.trans h.output,aZ h.size J.size,fun i hi Y=>by
  refine(J.block i (Nat.lt_of_lt_of_le hi h.size) (fun e=>?_)).trans (h.block i hi Y);rcases hr i e.symm with h1 | h1
  ·exact Y h1
  ·omega⟩
def bV(w:World)(g:Nat)(t:TypeId)(cs:Array Value):Prop:=w.heap[g]? = some (.cells cs t (0,0))
theorem bV.lt{w:World}{g:Nat}{t:TypeId}{cs:Array Value}(h:bV w g t cs):g<w.heap.size:=by
 rcases Nat.lt_or_ge g w.heap.size with J | J
 ·exact J
 ·unfold bV at h;rw[Array.getElem?_eq_none J]at h;cases h
theorem bV.cell{w:World}{g:Nat}{t:TypeId}{cs:Array Value}(h:bV w g t cs)(i:Nat):w.cell? ⟨g,i,none⟩=cs[i]?:=cell_of_row w g i cs t (0,0) h
theorem bV.free{w:World}{g:Nat}{t:TypeId}{cs:Array Value}(h:bV w g t cs)(i:Nat):w.frozen? ⟨g,i,none⟩=false:=by
 unfold bV at h;simp[World.frozen?,h]
theorem bV.new(w:World)(t:TypeId)(cs:Array Value):bV (w.alloc (.cells cs t)) w.heap.size t cs:=heap_alloc_new w _
theorem bV.kept{F:List Nat}{w w':World}{g:Nat}{t:TypeId}{cs:Array Value}(h:bV w g t cs)(hf:Fr F w w')(J:g∉F):bV w' g t cs:=(hf.block g h.lt J).trans h
theorem bV.put{w:World}{g:Nat}{t:TypeId}{cs:Array Value}(h:bV w g t cs)(i:Nat)(u:Value):bV (w.setCell ⟨g,i,none⟩ u) g t (cs.setIfInBounds i u):=by
 unfold bV at h ⊢;simp[World.setCell,Array.getElem?_modify,h]
def Seg(w:World)(e:TypeId)(A:Option Addr)(cap:Nat)(xs:List Value):Prop:=
 xs.length≤cap∧cap≤maxLen∧(A=none→cap=0)∧∀a,A=some a→a.spot=none∧∃J,w.heap[a.block]? = some (.cells J e (0,0))∧a.off+cap≤J.size∧∀j u,xs[j]? = some u→J[a.off+j]? = some u
def blk(A:Option Addr):List Nat:=match A with | some a=>[a.block] | none=>[]
theorem aCB(g off:Nat):blk (some ⟨g,off,none⟩)=[g]:=rfl
theorem Seg.lt{w:World}{e:TypeId}{A:Option Addr}{cap:Nat}{xs:List Value}(h:Seg w e A cap xs):∀g∈blk A,g<w.heap.size:=by
 intro g J;cases A with
 | none=>cases J
 | some a=>
  obtain⟨_,Y,hc,_⟩:=h.2.2.2 a rfl;simp only[blk,aD]at J;subst J;exact(bB.1 hc).1
theorem Seg.kept{F:List Nat}{w w':World}{e:TypeId}{A:Option Addr}{cap:Nat}{xs:List Value}(h:Seg w e A cap xs)(hf:Fr F w w')(hd:∀g∈blk A,g∉F):Seg w' e A cap xs:=by
 refine⟨h.1,h.2.1,h.2.2.1,fun a ha=>?_⟩;subst ha;obtain⟨hs,J,hc,r⟩:=h.2.2.2 a rfl;exact⟨hs,J,(hf.block _ (bB.1 hc).1 (hd _ (by simp[blk]))).trans hc,r⟩
theorem Seg.alloc{w:World}{e:TypeId}{A:Option Addr}{cap:Nat}{xs:List Value}(h:Seg w e A cap xs)(o:Obj):Seg (w.alloc o) e A cap xs:=h.kept ((Fr.refl [] w).alloc o) (by simp)
theorem Seg.drew{w:World}{e:TypeId}{A:Option Addr}{cap:Nat}{xs:List Value}(h:Seg w e A cap xs):Seg w.drew e A cap xs:=h
theorem dH(w:World)(u:Value)(t:TypeId):(w.alloc (.cells #[u] t)).cell? ⟨w.heap.size,0,none⟩=some u:=(bV.new w t #[u]).cell 0
theorem Seg.ne_box{w:World}{e t:TypeId}{A:Option Addr}{cap b:Nat}{xs:List Value}{cs:Array Value}(h:Seg w e A cap xs)(hb:bV w b t cs)(J:e≠t):b∉blk A:=by
 intro Y;cases A with
 | none=>cases Y
 | some a=>
  simp only[blk,aD]at Y;subst Y;obtain⟨_,a0,hc,_⟩:=h.2.2.2 a rfl;unfold bV at hb;rw[hc]at hb;injection hb with hb;injection hb with _ h2;exact J h2
theorem Seg.nil(w:World)(e:TypeId):Seg w e none 0 []:=⟨aY _,bA _,fun _=>rfl,fun a h=>(by cases h)⟩
theorem Seg.empty{w:World}{e:TypeId}{xs:List Value}{cap:Nat}(h:Seg w e none cap xs):xs=[]∧cap=0:=by
 have:=h.2.2.1 rfl;exact⟨List.eq_nil_of_length_eq_zero (by have:=h.1;omega),this⟩
theorem Seg.at_{w:World}{e:TypeId}{A:Option Addr}{cap:Nat}{xs:List Value}(h:Seg w e A cap xs)(hz:0<xs.length) :
 ∃g off,A=some ⟨g,off,none⟩∧g<w.heap.size∧∀j (Y:j<xs.length),w.cell? ⟨g,off+j,none⟩=some xs[j]:=by
 cases A with
 | none=>have:=h.2.2.1 rfl;have:=h.1;omega
 | some a=>
  obtain⟨hs,J,hc,hl,hx⟩:=h.2.2.2 a rfl;obtain⟨g,off,spot⟩:=a;have hs:spot=none:=hs;subst hs;refine⟨g,off,rfl,(bB.1 hc).1,fun j Y=>?_⟩;rw[cell_of_row w g (off+j) J e (0,0) hc];exact hx j _ (aN Y)
theorem Seg.push{P:Program}{w:World}{e t ty:TypeId}{A:Option Addr}{cap bytes:Nat}{xs:List Value}{i:TypeInfo}{z:Value}(h:Seg w e A cap xs)(ht:P.underlying t=some (.slice e))(hi:P.info? e=some i)(hz:i.zero=some z)(hs:i.size=1)(hb:i.bytes=bytes)(a3:z.cells.size=1)
 {ad:Addr} {u:Value} (hu:w.cell? ad=some u) (h1:u.oneCell'=true) (a8:xs.length+1≤9223372036854775807) (a7:(xs.length+1) * bytes≤140737488355328) :
 ∃A' a1 w',(Builtin.append_ #[t,t] ty #[.slice A xs.length cap,.slice (some ad) 1 1]).run P w=.ok (.slice A' (xs.length+1) a1) w'∧Seg w' e A' a1 (xs++[u])∧Fr (blk A) w w'∧(blk A'=blk A∨blk A'=[w.heap.size]):=by
 have a2:Src P i.size t (.slice (some ad) 1 1) 1 [u] w:=Src.ofSlice w ht ad 1 1 [u] (by rw[hs];rfl) (fun j v hv=>by
  cases j with
  | zero=>simp at hv;subst hv;simpa[Addr.add] using hu
  | succ j=>simp at hv) (fun v hv=>by rw[aD]at hv;subst hv;exact h1)
 by_cases a0:xs.length+1≤cap
 ·rcases A with _ | a
  ·have:=h.2.2.1 rfl;omega
  ·obtain⟨Y,J,hc,hl,hx⟩:=h.2.2.2 a rfl
   obtain⟨g,off,spot⟩:=a;have Y:spot=none:=Y;subst Y;have hl:off+cap≤J.size:=hl;have hc:w.heap[g]? = some (.cells J e (0,0)):=hc;have hcell:w.cell? ⟨g,off+xs.length,none⟩=some (J[off+xs.length]'(by omega)):=by
    rw[cell_of_row w g _ J e (0,0) hc];exact Array.getElem?_eq_getElem (by omega)
   have hr:=run_append_room_src (P:=P) w t t ty e i ht hi g off xs.length cap _ 1 [u] a2 a0 (fun j hj=>by
    have:j=0:=by simpa using hj
    subst this;rw[hs,Nat.mul_one,Nat.add_zero,hcell];rfl) (fun j hj=>by
    have:j=0:=by simpa using hj
    subst this
    simp[World.frozen?,hc])
   rw[hs,Nat.mul_one]at hr;refine⟨_,_,_,hr,?_,?_,Or.inl rfl⟩
   ·refine⟨by simpa using a0,h.2.1,fun hn=>(by cases hn),fun a ha=>?_⟩
    cases ha;refine⟨rfl,J.setIfInBounds (off+xs.length) u,?_,by simpa using hl,fun j v hv=>?_⟩
    ·show((w.setCell ⟨g,off+xs.length,none⟩ u).heap[g]?)=_
     simp[World.setCell,Array.getElem?_modify,hc]
    ·show(J.setIfInBounds (off+xs.length) u)[off+j]? = some v
     rw[Array.getElem?_setIfInBounds];rcases Nat.lt_or_ge j xs.length with hj | hj
     ·rw[if_neg (by omega)]
      rw[List.getElem?_append_left hj]at hv;exact hx j v hv
     ·rw[List.getElem?_append_right hj]at hv
      have a4:j-xs.length=0:=by
       have:=(List.getElem?_eq_some_iff.1 hv).1;simp at this;omega
      rw[a4]at hv;simp at hv;subst hv;rw[if_pos (by omega),if_pos (by omega)]
   ·show Fr _ w (w.setCell ⟨g,off+xs.length,none⟩ u)
    exact(Fr.refl _ w).setCell (Or.inl (by simp[blk])) u
 ·have hold:(Builtin.firstCells i.size xs.length (.slice A xs.length cap)).run P w.drew=.ok xs.toArray w.drew:=by
   rcases A with _ | a
   ·obtain⟨rfl,rfl⟩:=h.empty
    exact run_firstCells_none w.drew i.size 0 0 0
   ·obtain⟨Y,J,hc,hl,hx⟩:=h.2.2.2 a rfl
    obtain⟨g,off,spot⟩:=a;have Y:spot=none:=Y;subst Y
    exact run_firstCells_some w.drew i.size xs.length ⟨g,off,none⟩ xs.length cap xs (by rw[hs,Nat.mul_one]) (fun j v hv=>by
     have e1:(⟨g,off,none⟩:Addr).add j=⟨g,off+j,none⟩:=by unfold Addr.add;split <;> simp_all
     rw[e1];show w.cell? _=_;rw[cell_of_row w g (off+j) J e (0,0) hc]
     exact hx j v hv)
  have hlen:=h.1;have hr:=run_append_grow_src (P:=P) w t t ty e i z ht hi hz A xs.length cap xs hold _ 1 [u] a2 (by omega) (by omega) (growslice_fits (by omega) (by rw[hb];exact a7));have a5:=grownCap_ge w (xs.length+1) cap e;have a6:grownCap w (xs.length+1) cap e≤maxLen:=grownCap_le_maxLen w (xs.length+1) cap e (by unfold maxLen;omega);refine⟨_,_,_,hr,?_,(Fr.refl _ w).drew.alloc _,Or.inr rfl⟩;refine⟨by simpa using a5,a6,fun hn=>(by cases hn),fun a ha=>?_⟩;cases ha;refine⟨rfl,_,heap_alloc_new w.drew _,?_,fun j v hv=>?_⟩
  ·show 0+_≤_
   simp only[Array.size_append,List.size_toArray,aF,List.length_singleton,size_zeroCells,a3];omega
  ·show(_:Array Value)[0+j]? = some v
   have hj:=(List.getElem?_eq_some_iff.1 hv).1;rw[Nat.zero_add,Array.getElem?_append_left (by simpa using hj)]
   simpa using hv
theorem dQ{P:Program}{w:World}{ops:Array Oper}{rest:List Oper}{o:Oper}{a:Act}{Q:Exit→Act→World→Prop}(a2:o.guard=none)(s x:Operand)(t:TypeId)
 (ho:o.op=.call { callee:=.builtin .append,args:=#[s,x],argTypes:=#[t,t] }) {e:TypeId} {A:Option Addr} {cap n bytes:Nat} {xs:List Value} {i:TypeInfo} {z:Value} (h:Seg w e A cap xs) (hn:n=xs.length) (ht:P.underlying t=some (.slice e)) (hi:P.info? e=some i) (hz:i.zero=some z) (hs:i.size=1) (hb:i.bytes=bytes) (a3:z.cells.size=1)
 {ad:Addr} {u:Value} (a0:a.eval s=.slice A n cap) (hex:a.eval x=.slice (some ad) 1 1) (hu:w.cell? ad=some u) (h1:u.oneCell'=true) (a4:n+1≤9223372036854775807) (a1:(n+1) * bytes≤140737488355328)
 (hK:∀Y J w',Seg w' e Y J (xs++[u])→Fr (blk A) w w'→(blk Y=blk A∨blk Y=[w.heap.size])→wpList P ops Q rest (a.put o.dst (.slice Y (n+1) J)) w'):wpList P ops Q (o :: rest) a w:=by
 subst hn;refine wpList_plain a2 fun K a5=>?_
 obtain⟨Y,J,w',hr,h2,h3,h4⟩:=h.push (ty:=o.type) ht hi hz hs hb a3 hu h1 a4 a1;unfold Oper.wp execOp;simp only[ho,resolve,invoke,builtin,Sem.run_bind,Sem.run_pure,Result.andThen_ok,List.map_toArray,aV,aU,a0,hex,hr];exact a5 _ _ (hK Y J w' h2 h3 h4)
theorem lC(g:Nat)(e:TypeId):∀(vs:List Value) (off:Nat) (w:World) (Y:Array Value),w.heap[g]? = some (.cells Y e (0,0))→off+vs.length≤Y.size →
 ∃J,(w.setCells g off vs).heap[g]? = some (.cells J e (0,0))∧J.size=Y.size∧(∀j v,vs[j]? = some v→J[off+j]? = some v)∧∀i,i<off∨off+vs.length≤i→J[i]? = Y[i]?
 | [],off,w,Y,h,_=>⟨Y,h,rfl,fun j v hv=>by simp at hv,fun _ _=>rfl⟩
 | v :: r,off,w,Y,h,hl=>by
  simp only[aG]at hl;have h1:(w.setCell ⟨g,off,none⟩ v).heap[g]? = some (.cells (Y.setIfInBounds off v) e (0,0)):=by simp[World.setCell,Array.getElem?_modify,h]
  obtain⟨J,h2,h3,h4,h5⟩:=lC g e r (off+1) _ _ h1 (by simpa using by omega);refine⟨J,h2,by rw[h3];simp,fun j u hu=>?_,fun i hi=>?_⟩
  ·cases j with
   | zero=>
    rw[h5 (off+0) (Or.inl (by omega))];simp at hu;subst hu;rw[Array.getElem?_setIfInBounds,if_pos (by omega),if_pos (by omega)]
   | succ j=>
    rw[show off+(j+1)=off+1+j by omega];exact h4 j u (by simpa using hu)
  ·simp only[aG]at hi
   rw[h5 i (by omega),Array.getElem?_setIfInBounds,if_neg (by omega)]
theorem mK(g:Nat):∀(vs:List Value) (off:Nat) (w:World),Fr [g] w (w.setCells g off vs)
 | [],_,w=>Fr.refl _ w
 | v :: r,off,w=>((Fr.refl [g] w).setCell (p:=⟨g,off,none⟩) (Or.inl (by simp)) v).trans (mK g r (off+1) _) (fun _ h=>Or.inl h) (fun _ h=>Or.inl h)
theorem Seg.upto{P:Program}{w:World}{e t:TypeId}{A:Option Addr}{cap:Nat}{xs:List Value}(h:Seg w e A cap xs)(ht:P.underlying t=some (.slice (P.elem t)))(hs:∀w,(sizeOf (P.elem t)).run P w=.ok 1 w)(k:Nat)(hk:k≤xs.length) :
 (∀W,(Instr.slice t (.slice A xs.length cap) none (some (.int .i64 k)) none).run P W=.ok (.slice A k cap) W)∧∀W,Seg W e A cap xs→Seg W e A cap (xs.take k):=by
 have hl:=h.1;refine⟨fun W=>?_,fun W Y=>⟨by simp;omega,Y.2.1,Y.2.2.1,fun a ha=>?_⟩⟩
 ·rw[run_slice_h W t A xs.length cap ht .i64 k (by omega) (by omega),hs,Result.andThen_ok]
  unfold sliced;by_cases h0:cap=0
  ·rw[if_pos h0];simp
  ·rw[if_neg h0]
   cases A <;> simp[Addr.add]
 ·obtain⟨h1,a0,h2,h3,h4⟩:=Y.2.2.2 a ha
  refine⟨h1,a0,h2,h3,fun j u J=>?_⟩;rw[List.getElem?_take]at J;split at J
  ·exact h4 j u J
  ·cases J
theorem Seg.from_{P:Program}{w:World}{e t:TypeId}{A:Option Addr}{cap:Nat}{xs:List Value}(h:Seg w e A cap xs)(ht:P.underlying t=some (.slice (P.elem t)))(hs:∀w,(sizeOf (P.elem t)).run P w=.ok 1 w)(k:Nat)(hk:k≤xs.length) :
 ∃A',(∀W,(Instr.slice t (.slice A xs.length cap) (some (.int .i64 k)) none none).run P W=.ok (.slice A' (xs.length-k) (cap-k)) W)∧blk A'=blk A∧∀W,Seg W e A cap xs→Seg W e A' (cap-k) (xs.drop k):=by
 have hl:=h.1;refine⟨if cap=k then A else A.map (·.add k),fun W=>?_,?_,fun W hW=>⟨by simp;omega,by have:=hW.2.1;omega,fun hn=>?_,fun a ha=>?_⟩⟩
 ·rw[run_slice_l W t A xs.length cap ht .i64 k (by omega) (by omega),hs,Result.andThen_ok]
  unfold sliced;simp
 ·split
  ·rfl
  ·cases A with
   | none=>rfl
   | some a=>simp only[Option.map_some,blk];rw[show(a.add k).block=a.block by unfold Addr.add;split <;> rfl]
 ·split at hn
  ·omega
  ·cases A with
   | none=>have:=hW.2.2.1 rfl;omega
   | some a=>cases hn
 ·by_cases h0:cap=k
  ·rw[if_pos h0]at ha
   obtain⟨h1,J,h2,h3,h4⟩:=hW.2.2.2 a ha;refine⟨h1,J,h2,by omega,fun j u Y=>?_⟩;rw[List.getElem?_drop]at Y;have:=(List.getElem?_eq_some_iff.1 Y).1;omega
  ·rw[if_neg h0]at ha
   cases A with
   | none=>cases ha
   | some a0=>
    simp only[Option.map_some,Option.some.injEq]at ha;subst ha;obtain⟨h1,J,h2,h3,h4⟩:=hW.2.2.2 a0 rfl;obtain⟨g,off,spot⟩:=a0;have h1:spot=none:=h1;subst h1;have e1:(⟨g,off,none⟩:Addr).add k=⟨g,off+k,none⟩:=by unfold Addr.add;split <;> simp_all
    rw[e1];refine⟨rfl,J,h2,?_,fun j u Y=>?_⟩
    ·show off+k+(cap-k)≤_
     have:off+cap≤J.size:=h3;omega
    ·rw[List.getElem?_drop]at Y
     show J[off+k+j]? = _;rw[Nat.add_assoc];exact h4 _ u Y
def Rd(w:World)(A:Option Addr)(xs:List Value):Prop:=0<xs.length→∃g off,A=some ⟨g,off,none⟩∧g<w.heap.size∧∀j (J:j<xs.length),w.cell? ⟨g,off+j,none⟩=some xs[j]
theorem Seg.rd{w:World}{e:TypeId}{A:Option Addr}{cap:Nat}{xs:List Value}(h:Seg w e A cap xs):Rd w A xs:=fun J=>h.at_ J
theorem Rd.kept{F:List Nat}{w w':World}{A:Option Addr}{xs:List Value}(h:Rd w A xs)(hf:Fr F w w')(hd:∀g∈blk A,g∉F):Rd w' A xs:=fun J=>by
 obtain⟨g,off,rfl,hl,hc⟩:=h J;exact⟨g,off,rfl,Nat.lt_of_lt_of_le hl hf.size,fun j Y=>(World.cell?_of_block (w:=w) (hf.block g hl (hd g (by simp[blk])))).trans (hc j Y)⟩
theorem Rd.below{w w':World}{A:Option Addr}{xs:List Value}(h:Rd w A xs)(hb:Below w.heap.size w w'):Rd w' A xs:=h.kept (Fr.of_below hb []) (by simp)
theorem Rd.alloc{w:World}{A:Option Addr}{xs:List Value}(h:Rd w A xs)(o:Obj):Rd (w.alloc o) A xs:=h.kept ((Fr.refl [] w).alloc o) (by simp)
theorem Rd.src{P:Program}{w:World}{e' t:TypeId}{A:Option Addr}{cap:Nat}{xs:List Value}(h:Rd w A xs)(J:P.underlying t=some (.slice e'))(h1:∀u∈xs,u.oneCell'=true):Src P 1 t (.slice A xs.length cap) xs.length xs w:=by
 cases A with
 | none=>
  have h0:xs=[]:=List.eq_nil_of_length_eq_zero (by
   rcases Nat.eq_zero_or_pos xs.length with h0 | h0
   ·exact h0
   ·obtain⟨_,_,h,_⟩:=h h0;cases h)
  subst h0;exact Src.ofNil w J cap
 | some a=>
  refine Src.ofSlice w J _ xs.length cap xs (by simp) (fun j v hv=>?_) h1;have Y:=(List.getElem?_eq_some_iff.1 hv).1;obtain⟨g,off,ha,_,hc⟩:=h (by omega);cases ha;have e1:(⟨g,off,none⟩:Addr).add j=⟨g,off+j,none⟩:=by unfold Addr.add;split <;> simp_all
  rw[e1,hc j Y,←hv,aN Y]
theorem Seg.app{P:Program}{w:World}{e t ty:TypeId}{A B:Option Addr}{cap c2 bytes:Nat}{xs ys:List Value}{i:TypeInfo}{z:Value}(h:Seg w e A cap xs)(hy:Rd w B ys)(ht:P.underlying t=some (.slice e))(hi:P.info? e=some i)(hz:i.zero=some z)(hs:i.size=1)(hb:i.bytes=bytes)(a4:z.cells.size=1)
 (h1:∀u∈ys,u.oneCell'=true) (a9:xs.length+ys.length≤9223372036854775807) (a8:(xs.length+ys.length) * bytes≤140737488355328) :
 ∃A' a2 w',(Builtin.append_ #[t,t] ty #[.slice A xs.length cap,.slice B ys.length c2]).run P w=.ok (.slice A' (xs.length+ys.length) a2) w'∧Seg w' e A' a2 (xs++ys)∧Fr (blk A) w w'∧(blk A'=blk A∨blk A'=[w.heap.size]):=by
 have a3:Src P i.size t (.slice B ys.length c2) ys.length ys w:=by rw[hs];exact hy.src ht h1
 by_cases Y:xs.length+ys.length≤cap
 ·rcases A with _ | a
  ·obtain⟨rfl,rfl⟩:=h.empty
   have a5:ys=[]:=List.eq_nil_of_length_eq_zero (by simpa using Y);subst a5;refine⟨none,0,w,?_,Seg.nil w e,Fr.refl _ w,Or.inl rfl⟩;rcases B with _ | b
   ·simp[Builtin.append_,run_underlying ht,sizeOf,typeInfo,hi,Builtin.lenOf,Builtin.firstCells]
   ·simp[Builtin.append_,run_underlying ht,sizeOf,typeInfo,hi,Builtin.lenOf,Builtin.firstCells,loadCells,loadCellsFrom]
  ·obtain⟨J,a0,hc,hl,hx⟩:=h.2.2.2 a rfl
   obtain⟨g,off,spot⟩:=a;have J:spot=none:=J;subst J;have hl:off+cap≤a0.size:=hl;have hc:w.heap[g]? = some (.cells a0 e (0,0)):=hc
   have hr:=run_append_room_src (P:=P) w t t ty e i ht hi g off xs.length cap _ ys.length ys a3 Y (fun j hj=>by
    rw[hs,Nat.mul_one,cell_of_row w g _ a0 e (0,0) hc,Array.getElem?_eq_getElem (by omega)];rfl) (fun j hj=>by simp[World.frozen?,hc])
   rw[hs,Nat.mul_one]at hr;obtain⟨a1,k1,k2,k3,k4⟩:=lC g e ys (off+xs.length) w a0 hc (by omega);refine⟨_,_,_,hr,⟨by simpa using Y,h.2.1,fun hn=>(by cases hn),fun a ha=>?_⟩,mK g ys _ w,Or.inl rfl⟩;cases ha;refine⟨rfl,a1,k1,by rw[k2];exact hl,fun j u hu=>?_⟩;rcases Nat.lt_or_ge j xs.length with hj | hj
   ·rw[List.getElem?_append_left hj]at hu
    show a1[off+j]? = _;rw[k4 _ (Or.inl (by omega))];exact hx j u hu
   ·rw[List.getElem?_append_right hj]at hu
    show a1[off+j]? = _;have:=k3 _ u hu
    rwa[show off+xs.length+(j-xs.length)=off+j by omega]at this
 ·have hold:(Builtin.firstCells i.size xs.length (.slice A xs.length cap)).run P w.drew=.ok xs.toArray w.drew:=by
   rcases A with _ | a
   ·obtain⟨rfl,rfl⟩:=h.empty
    exact run_firstCells_none w.drew i.size 0 0 0
   ·obtain⟨J,a0,hc,hl,hx⟩:=h.2.2.2 a rfl
    obtain⟨g,off,spot⟩:=a;have J:spot=none:=J;subst J
    exact run_firstCells_some w.drew i.size xs.length ⟨g,off,none⟩ xs.length cap xs (by rw[hs,Nat.mul_one]) (fun j v hv=>by
     have e1:(⟨g,off,none⟩:Addr).add j=⟨g,off+j,none⟩:=by unfold Addr.add;split <;> simp_all
     rw[e1];show w.cell? _=_;rw[cell_of_row w g (off+j) a0 e (0,0) hc]
     exact hx j v hv)
  have hlen:=h.1;have hr:=run_append_grow_src (P:=P) w t t ty e i z ht hi hz A xs.length cap xs hold _ ys.length ys a3 (by omega) (by omega) (growslice_fits (by omega) (by rw[hb];exact a8));have a6:=grownCap_ge w (xs.length+ys.length) cap e;have a7:grownCap w (xs.length+ys.length) cap e≤maxLen:=grownCap_le_maxLen w (xs.length+ys.length) cap e (by unfold maxLen;omega);refine⟨_,_,_,hr,?_,(Fr.refl _ w).drew.alloc _,Or.inr rfl⟩;refine⟨by simpa using a6,a7,fun hn=>(by cases hn),fun a ha=>?_⟩;cases ha;refine⟨rfl,_,heap_alloc_new w.drew _,?_,fun j v hv=>?_⟩
  ·show 0+_≤_
   simp only[Array.size_append,List.size_toArray,aF,size_zeroCells,a4];omega
  ·show(_:Array Value)[0+j]? = some v
   have hj:=(List.getElem?_eq_some_iff.1 hv).1;rw[Nat.zero_add,Array.getElem?_append_left (by simpa using hj)]
   simpa using hv
theorem aLS{P:Program}{w:World}{o:Oper}{a:Act}{K:Act→World→Prop}{Q:Exit→Act→World→Prop}(s x:Operand)(t:TypeId)
 (ho:o.op=.call { callee:=.builtin .append,args:=#[s,x],argTypes:=#[t,t] }) {e:TypeId} {A B:Option Addr} {cap c2 n m bytes:Nat} {xs ys:List Value} {i:TypeInfo} {z:Value} (h:Seg w e A cap xs) (hy:Rd w B ys) (hn:n=xs.length) (hm:m=ys.length) (ht:P.underlying t=some (.slice e)) (hi:P.info? e=some i) (hz:i.zero=some z) (hs:i.size=1) (hb:i.bytes=bytes) (a2:z.cells.size=1)
 (a0:a.eval s=.slice A n cap) (hex:a.eval x=.slice B m c2) (h1:∀u∈ys,u.oneCell'=true) (a3:n+m≤9223372036854775807) (a1:(n+m) * bytes≤140737488355328)
 (hK:∀Y J w',Seg w' e Y J (xs++ys)→Fr (blk A) w w'→(blk Y=blk A∨blk Y=[w.heap.size])→K (a.put o.dst (.slice Y (n+m) J)) w'):o.wp P a w K Q:=by
 subst hn;subst hm;obtain⟨Y,J,w',hr,h2,h3,h4⟩:=h.app (ty:=o.type) (c2:=c2) hy ht hi hz hs hb a2 h1 a3 a1;unfold Oper.wp execOp;simp only[ho,resolve,invoke,builtin,Sem.run_bind,Sem.run_pure,Result.andThen_ok,List.map_toArray,aV,aU,a0,hex,hr];exact hK Y J w' h2 h3 h4
theorem rG{P:Program}{w:World}{ops:Array Oper}{rest:List Oper}{o:Oper}{a:Act}{Q:Exit→Act→World→Prop}(a5:o.guard=none)(s x:Operand)(t:TypeId)
 (ho:o.op=.call { callee:=.builtin .append,args:=#[s,x],argTypes:=#[t,t] }) {e:TypeId} {A B:Option Addr} {cap c2 n m bytes:Nat} {xs ys:List Value} {i:TypeInfo} {z:Value} (h:Seg w e A cap xs) (hy:Rd w B ys) (hn:n=xs.length) (hm:m=ys.length) (ht:P.underlying t=some (.slice e)) (hi:P.info? e=some i) (hz:i.zero=some z) (hs:i.size=1) (hb:i.bytes=bytes) (a6:z.cells.size=1)
 (a0:a.eval s=.slice A n cap) (hex:a.eval x=.slice B m c2) (h1:∀u∈ys,u.oneCell'=true) (a7:n+m≤9223372036854775807) (a4:(n+m) * bytes≤140737488355328)
 (hK:∀Y J w',Seg w' e Y J (xs++ys)→Fr (blk A) w w'→(blk Y=blk A∨blk Y=[w.heap.size])→wpList P ops Q rest (a.put o.dst (.slice Y (n+m) J)) w'):wpList P ops Q (o :: rest) a w:=
 wpList_plain a5 fun _ a8=>aLS s x t ho h hy hn hm ht hi hz hs hb a6 a0 hex h1 a7 a4 fun Y J w' a1 a2 a3=>a8 _ _ (hK Y J w' a1 a2 a3)
end mem
namespace vr
open RowKit mem
def bs(l:List UInt8):ByteArray:=⟨l.toArray⟩
theorem aEA(l m:List UInt8):bs l++bs m=bs (l++m):=by
 unfold bs
 apply ByteArray.ext
 simp
theorem nG(l:List UInt8):(bs l).size=l.length:=by unfold bs;simp[ByteArray.size]
theorem aKR(s:ByteArray):bs s.data.toList=s:=by unfold bs;simp
theorem aET(W:World)(b:UInt8)(v:Int)(hv:v=(b.toNat:Int)):(convert 44 9 (.slice (some ⟨W.heap.size,0,none⟩) 1 1)).run Tryz.prog (W.alloc (.cells #[.int .u8 v] 5))=.ok (.string (bs [b])) (W.alloc (.cells #[.int .u8 v] 5)):=by
 refine run_convert_bytes_back (P:=Tryz.prog) (W.alloc (.cells #[.int .u8 v] 5)) 44 9 5 ⟨W.heap.size,0,none⟩ 1 [b] Tryz.underlying44 Tryz.underlying5 Tryz.underlying9 (fun j J=>?_);have:j=0:=by simpa using J
 subst this;rw[hv];simp[Addr.add]
theorem aDi(w:World)(n:Nat)(h:n≤268435456) :
 Calls Tryz.prog 40 #[.int .i64 n] w fun e w'=>e=.returned (.string (bs (nb n)))∧Below w.heap.size w w':=by
 have h0:(Value.string { data:=#[] })=.string (bs []):=rfl;go_enter Tryz.func40,Tryz.ntmps40;clear h0;go_wp2_with fail;go_loopw [0,3] (fun c s wr=>∃(k:Nat) (pre:List UInt8),c=.int .i64 k∧s=.string (bs pre)∧k≤268435456∧Hid (pre++nb k=nb n)∧Hid (Below w.heap.size w wr)) (fun c _ _=>(intOf c).toNat)
 case atStart=>exact⟨n,[],rfl,rfl,h,hid rfl,hid (Below.refl _ _)⟩
 case round=>
  obtain⟨k,pre,rfl,rfl,hk,hp,hb⟩:=hrel;rename_i wr _;have a3:pre.length≤5:=by have:=lI n h;rw[←hp.out,aF]at this;omega
  by_cases h1:128≤k
  ·have e1:decide ((128:Int)≤(k:Int))=true:=aC (by omega)
   have a2:=fun W=>aET W (xQ (k % 128+128)) ((k:Int) % 128+128) (by have:=sG (k % 128+128) (by omega);omega)
   have a0:Hid (bs pre++bs [xQ (k % 128+128)] = bs (pre++[xQ (k % 128+128)])):=hid (aEA _ _);have a1:¬9223372036854775807<(bs pre).size+(bs [xQ (k % 128+128)]).size:=by rw[nG,nG];simp;omega
   have J:Hid ((pre++[xQ (k % 128+128)])++nb (k / 128)=nb n):=hid (by rw[←hp.out,nH k h1];simp);have Y:Hid (Below w.heap.size w (wr.alloc (.cells #[.int .u8 ((k:Int) % 128+128)] 5))):=hid (hb.out.alloc hb.out.size _);clear hp hb;go_wp2_with fail;go_roundw
   case rel=>exact⟨k / 128,_,by go_num,by rw[a0.out],by omega,J,Y⟩
   case measure=>simp[intOf];omega
  ·have e1:decide ((128:Int)≤(k:Int))=false:=aB (by omega)
   have a2:=fun W=>aET W (xQ k) (k:Int) (by have:=sG k (by omega);omega)
   have a1:¬9223372036854775807<(bs pre).size+(bs [xQ k]).size:=by rw[nG,nG];simp;omega
   have J:Hid (bs pre++bs [xQ k] = bs (nb n)):=hid (by rw[aEA,←hp.out,iF k (by omega)]);have Y:Hid (Below w.heap.size w (wr.alloc (.cells #[.int .u8 (k:Int)] 5))):=hid (hb.out.alloc hb.out.size _);clear hp hb;go_wp2_with fail;go_ret;exact⟨by rw[←J.out];rfl,Y.out⟩
theorem tX{a b c J Y c':Int}(h1:a=J)(h2:b=Y)(h3:c=c'):Ending.returned (.tuple #[.int .i64 a,.int .i64 b,.int .i64 c])=.returned (.tuple #[.int .i64 J,.int .i64 Y,.int .i64 c']):=by rw[h1,h2,h3]
theorem nK(s:ByteArray):s.data.toList.length=s.size:=by rw[Array.length_toList];rfl
theorem drop_at(s:ByteArray)(k:Nat)(h:k<s.size):s.data.toList.drop k=s[k] :: s.data.toList.drop (k+1):=by
 rw[bD (by rw[nK];exact h)];rfl
theorem aI2(s:ByteArray)(k:Nat)(h:s.size≤k):s.data.toList.drop k=[]:=List.drop_of_length_le (by rw[nK];exact h)
def lD(i n b:Nat):Nat:=n+b % 128 * 2 ^ (7 * i)
theorem lX(s:ByteArray)(k i m:Nat)(h:s.size≤k):cntF i m (s.data.toList.drop k)=(0,0,1):=by rw[aI2 s k h];rfl
theorem gN(s:ByteArray)(k i m:Nat)(h:k<s.size)(hb:s[k].toNat=0)(hi:0<i):cntF i m (s.data.toList.drop k)=(0,0,3):=by
 rw[drop_at s k h];unfold cntF;rw[if_pos ⟨hb,hi⟩]
theorem lY(s:ByteArray)(k i m:Nat)(h:k<s.size)(hb:¬(s[k].toNat=0∧0<i))(hi:i=4∧1<s[k].toNat∨268435456<lD i m s[k].toNat):cntF i m (s.data.toList.drop k)=(0,0,2):=by
 unfold lD at hi;rw[drop_at s k h];unfold cntF;rw[if_neg hb,if_pos hi]
theorem pU(s:ByteArray)(k i m:Nat)(h:k<s.size)(hb:¬(s[k].toNat=0∧0<i))(hi:¬(i=4∧1<s[k].toNat∨268435456<lD i m s[k].toNat))(J:s[k].toNat<128):cntF i m (s.data.toList.drop k)=(lD i m s[k].toNat,i+1,0):=by
 unfold lD at hi ⊢;rw[drop_at s k h];unfold cntF;rw[if_neg hb,if_neg hi,if_pos J]
theorem jM(s:ByteArray)(k i m:Nat)(h:k<s.size)(hb:¬(s[k].toNat=0∧0<i))(hi:¬(i=4∧1<s[k].toNat∨268435456<lD i m s[k].toNat))(Y:¬s[k].toNat<128)(J:¬4≤i):cntF i m (s.data.toList.drop k)=cntF (i+1) (lD i m s[k].toNat) (s.data.toList.drop (k+1)):=by
 unfold lD at hi ⊢;rw[drop_at s k h];conv=>lhs;unfold cntF
 rw[if_neg hb,if_neg hi,if_neg Y,if_neg J]
theorem fP(s:ByteArray)(w:World)(hs:s.size≤maxLen) :
 Calls Tryz.prog 155 #[.string s] w fun e w'=>e=.returned (.tuple #[.int .i64 (cnt s.data.toList).1,.int .i64 (cnt s.data.toList).2.1,.int .i64 (cnt s.data.toList).2.2])∧w=w':=by
 unfold maxLen at hs;go_enter Tryz.func155,Tryz.ntmps155;go_wp2_with fail;go_loopw [5,8] (fun n i wr=>∃(k m:Nat),k≤4∧k≤s.size∧Hid (m<128 ^ k)∧Hid (cnt s.data.toList=cntF k m (s.data.toList.drop k))∧i=.int .i64 k∧n=.int .i64 m∧w=wr) (fun _ i _=>5-(intOf i).toNat)
 case atStart=>exact⟨0,0,by omega,by omega,hid (by decide),hid rfl,rfl,rfl,rfl⟩
 case round=>
  obtain⟨k,m,hk,a7,hm,hc,rfl,rfl,rfl⟩:=hrel;by_cases h0:k=0
  ·subst h0
   have a5:m<1:=hm.out;clear hm;by_cases hz:s.size=0
   ·have hv:=hid (hc.out.trans (lX s 0 0 m (by omega)))
    have hd:(((0:Nat):Int)==(s.size:Int))=true:=by simp;omega
    clear hc;go_wp2_with fail;go_ret3;rw[hv.out];exact⟨tX rfl rfl rfl,rfl⟩
   ·have Y:0<s.size:=by omega
    have hd:(((0:Nat):Int)==(s.size:Int))=false:=by simp;omega
    have hb:=s[0].toNat_lt;have h1:=fun a b c=>hc.out.trans (pU s 0 0 m Y a b c)
    have h2:=fun a b=>hc.out.trans (lY s 0 0 m Y a b)
    have h3:=fun a b=>hc.out.trans (gN s 0 0 m Y a b)
    have h4:=fun a b c d=>hc.out.trans (jM s 0 0 m Y a b c d)
    have H1:=hid h1;have H2:=hid h2;have H3:=hid h3;have H4:=hid h4;clear hc h1 h2 h3 h4;generalize a1:s[0].toNat=b at *;have a3:=hid a1;have J:Hid (lD 0 m b=m+b % 128):=hid (by unfold lD;simp);by_cases a2:b=0
    ·subst a2
     have hv:=hid (H1.out (by omega) (by rw[J.out];omega) (by omega));rw[J.out]at hv;clear H1 H2 H3 H4;go_wp2_with fail;go_ret3;rw[hv.out];exact⟨tX (by omega) rfl rfl,rfl⟩
    ·have a4:((b:Int)==0)=false:=by simp;omega
     have d2:decide ((268435456:Int)<(m:Int)+(b:Int) % 128)=false:=aB (by omega);by_cases a0:b<128
     ·have hv:=hid (H1.out (by omega) (by rw[J.out];omega) a0)
      rw[J.out]at hv;have d1:decide ((b:Int)<128)=true:=aC (by omega);clear H1 H2 H3 H4;go_wp2_with fail;go_ret3;rw[hv.out];exact⟨tX (by omega) rfl rfl,rfl⟩
     ·have hv:=hid (H4.out (by omega) (by rw[J.out];omega) a0 (by omega))
      rw[J.out]at hv;have d1:decide ((b:Int)<128)=false:=aB (by omega);clear H1 H2 H3 H4;go_wp2_with fail;go_roundw
      case rel=>exact⟨1,m+b % 128,by omega,by omega,hid (by show _<128;omega),hv,by go_num,by go_num,trivial⟩
      case measure=>simp[intOf]
  ·by_cases h1:k=1
   ·subst h1
    have a5:m<128:=hm.out;clear hm;by_cases hz:s.size=1
    ·have hv:=hid (hc.out.trans (lX s 1 1 m (by omega)))
     have hd:(((1:Nat):Int)==(s.size:Int))=true:=by simp;omega
     clear hc;go_wp2_with fail;go_ret3;rw[hv.out];exact⟨tX rfl rfl rfl,rfl⟩
    ·have Y:1<s.size:=by omega
     have hd:(((1:Nat):Int)==(s.size:Int))=false:=by simp;omega
     have hb:=s[1].toNat_lt;have h1:=fun a b c=>hc.out.trans (pU s 1 1 m Y a b c)
     have h2:=fun a b=>hc.out.trans (lY s 1 1 m Y a b)
     have h3:=fun a b=>hc.out.trans (gN s 1 1 m Y a b)
     have h4:=fun a b c d=>hc.out.trans (jM s 1 1 m Y a b c d)
     have H1:=hid h1;have H2:=hid h2;have H3:=hid h3;have H4:=hid h4;clear hc h1 h2 h3 h4;generalize a1:s[1].toNat=b at *;have a3:=hid a1;have J:Hid (lD 1 m b=m+b % 128 * 128):=hid (by unfold lD;rfl);by_cases a2:b=0
     ·subst a2
      have hv:=hid (H3.out rfl (by omega));clear H1 H2 H3 H4;go_wp2_with fail;go_ret3;rw[hv.out];exact⟨tX rfl rfl rfl,rfl⟩
     ·have a4:((b:Int)==0)=false:=by simp;omega
      have d2:decide ((268435456:Int)<(m:Int)+(b:Int) % 128 * 128)=false:=aB (by omega);by_cases a0:b<128
      ·have hv:=hid (H1.out (by omega) (by rw[J.out];omega) a0)
       rw[J.out]at hv;have d1:decide ((b:Int)<128)=true:=aC (by omega);clear H1 H2 H3 H4;go_wp2_with fail;go_ret3;rw[hv.out];exact⟨tX (by omega) rfl rfl,rfl⟩
      ·have hv:=hid (H4.out (by omega) (by rw[J.out];omega) a0 (by omega))
       rw[J.out]at hv;have d1:decide ((b:Int)<128)=false:=aB (by omega);clear H1 H2 H3 H4;go_wp2_with fail;go_roundw
       case rel=>exact⟨2,m+b % 128 * 128,by omega,by omega,hid (by show _<16384;omega),hv,by go_num,by go_num,trivial⟩
       case measure=>simp[intOf]
   ·by_cases h2:k=2
    ·subst h2
     have a5:m<16384:=hm.out;clear hm;by_cases hz:s.size=2
     ·have hv:=hid (hc.out.trans (lX s 2 2 m (by omega)))
      have hd:(((2:Nat):Int)==(s.size:Int))=true:=by simp;omega
      clear hc;go_wp2_with fail;go_ret3;rw[hv.out];exact⟨tX rfl rfl rfl,rfl⟩
     ·have Y:2<s.size:=by omega
      have hd:(((2:Nat):Int)==(s.size:Int))=false:=by simp;omega
      have hb:=s[2].toNat_lt;have h1:=fun a b c=>hc.out.trans (pU s 2 2 m Y a b c)
      have h2:=fun a b=>hc.out.trans (lY s 2 2 m Y a b)
      have h3:=fun a b=>hc.out.trans (gN s 2 2 m Y a b)
      have h4:=fun a b c d=>hc.out.trans (jM s 2 2 m Y a b c d)
      have H1:=hid h1;have H2:=hid h2;have H3:=hid h3;have H4:=hid h4;clear hc h1 h2 h3 h4;generalize a1:s[2].toNat=b at *;have a3:=hid a1;have J:Hid (lD 2 m b=m+b % 128 * 16384):=hid (by unfold lD;rfl);by_cases a2:b=0
      ·subst a2
       have hv:=hid (H3.out rfl (by omega));clear H1 H2 H3 H4;go_wp2_with fail;go_ret3;rw[hv.out];exact⟨tX rfl rfl rfl,rfl⟩
      ·have a4:((b:Int)==0)=false:=by simp;omega
       have d2:decide ((268435456:Int)<(m:Int)+(b:Int) % 128 * 16384)=false:=aB (by omega);by_cases a0:b<128
       ·have hv:=hid (H1.out (by omega) (by rw[J.out];omega) a0)
        rw[J.out]at hv;have d1:decide ((b:Int)<128)=true:=aC (by omega);clear H1 H2 H3 H4;go_wp2_with fail;go_ret3;rw[hv.out];exact⟨tX (by omega) rfl rfl,rfl⟩
       ·have hv:=hid (H4.out (by omega) (by rw[J.out];omega) a0 (by omega))
        rw[J.out]at hv;have d1:decide ((b:Int)<128)=false:=aB (by omega);clear H1 H2 H3 H4;go_wp2_with fail;go_roundw
        case rel=>exact⟨3,m+b % 128 * 16384,by omega,by omega,hid (by show _<2097152;omega),hv,by go_num,by go_num,trivial⟩
        case measure=>simp[intOf]
    ·by_cases h3:k=3
     ·subst h3
      have a5:m<2097152:=hm.out;clear hm;by_cases hz:s.size=3
      ·have hv:=hid (hc.out.trans (lX s 3 3 m (by omega)))
       have hd:(((3:Nat):Int)==(s.size:Int))=true:=by simp;omega
       clear hc;go_wp2_with fail;go_ret3;rw[hv.out];exact⟨tX rfl rfl rfl,rfl⟩
      ·have Y:3<s.size:=by omega
       have hd:(((3:Nat):Int)==(s.size:Int))=false:=by simp;omega
       have hb:=s[3].toNat_lt;have h1:=fun a b c=>hc.out.trans (pU s 3 3 m Y a b c)
       have h2:=fun a b=>hc.out.trans (lY s 3 3 m Y a b)
       have h3:=fun a b=>hc.out.trans (gN s 3 3 m Y a b)
       have h4:=fun a b c d=>hc.out.trans (jM s 3 3 m Y a b c d)
       have H1:=hid h1;have H2:=hid h2;have H3:=hid h3;have H4:=hid h4;clear hc h1 h2 h3 h4;generalize a1:s[3].toNat=b at *;have a3:=hid a1;have J:Hid (lD 3 m b=m+b % 128 * 2097152):=hid (by unfold lD;rfl);by_cases a2:b=0
       ·subst a2
        have hv:=hid (H3.out rfl (by omega));clear H1 H2 H3 H4;go_wp2_with fail;go_ret3;rw[hv.out];exact⟨tX rfl rfl rfl,rfl⟩
       ·have a4:((b:Int)==0)=false:=by simp;omega
        have d2:decide ((268435456:Int)<(m:Int)+(b:Int) % 128 * 2097152)=false:=aB (by omega);by_cases a0:b<128
        ·have hv:=hid (H1.out (by omega) (by rw[J.out];omega) a0)
         rw[J.out]at hv;have d1:decide ((b:Int)<128)=true:=aC (by omega);clear H1 H2 H3 H4;go_wp2_with fail;go_ret3;rw[hv.out];exact⟨tX (by omega) rfl rfl,rfl⟩
        ·have hv:=hid (H4.out (by omega) (by rw[J.out];omega) a0 (by omega))
         rw[J.out]at hv;have d1:decide ((b:Int)<128)=false:=aB (by omega);clear H1 H2 H3 H4;go_wp2_with fail;go_roundw
         case rel=>exact⟨4,m+b % 128 * 2097152,by omega,by omega,hid (by show _<268435456;omega),hv,by go_num,by go_num,trivial⟩
         case measure=>simp[intOf]
     ·obtain rfl:k=4:=by omega
      have a5:m<268435456:=hm.out;clear hm;by_cases hz:s.size=4
      ·have hv:=hid (hc.out.trans (lX s 4 4 m (by omega)))
       have hd:(((4:Nat):Int)==(s.size:Int))=true:=by simp;omega
       clear hc;go_wp2_with fail;go_ret3;rw[hv.out];exact⟨tX rfl rfl rfl,rfl⟩
      ·have Y:4<s.size:=by omega
       have hd:(((4:Nat):Int)==(s.size:Int))=false:=by simp;omega
       have hb:=s[4].toNat_lt;have h1:=fun a b c=>hc.out.trans (pU s 4 4 m Y a b c)
       have h2:=fun a b=>hc.out.trans (lY s 4 4 m Y a b)
       have h3:=fun a b=>hc.out.trans (gN s 4 4 m Y a b)
       have h4:=fun a b c d=>hc.out.trans (jM s 4 4 m Y a b c d)
       have H1:=hid h1;have H2:=hid h2;have H3:=hid h3;have H4:=hid h4;clear hc h1 h2 h3 h4;generalize a1:s[4].toNat=b at *;have a3:=hid a1;have J:Hid (lD 4 m b=m+b % 128 * 268435456):=hid (by unfold lD;rfl);by_cases a2:b=0
       ·subst a2
        have hv:=hid (H3.out rfl (by omega));clear H1 H2 H3 H4;go_wp2_with fail;go_ret3;rw[hv.out];exact⟨tX rfl rfl rfl,rfl⟩
       ·have a4:((b:Int)==0)=false:=by simp;omega
        by_cases a0:1<b
        ·have hv:=hid (H2.out (by omega) (Or.inl ⟨rfl,a0⟩))
         have d1:decide ((1:Int)<(b:Int))=true:=aC (by omega);clear H1 H2 H3 H4;go_wp2_with fail;go_ret3;rw[hv.out];exact⟨tX rfl rfl rfl,rfl⟩
        ·have d1:decide ((1:Int)<(b:Int))=false:=aB (by omega)
         have d3:decide ((b:Int)<128)=true:=aC (by omega);by_cases a6:0<m
         ·have hv:=hid (H2.out (by omega) (Or.inr (by rw[J.out];omega)))
          have d2:decide ((268435456:Int)<(m:Int)+(b:Int) % 128 * 268435456)=true:=aC (by omega);clear H1 H2 H3 H4;go_wp2_with fail;go_ret3;rw[hv.out];exact⟨tX rfl rfl rfl,rfl⟩
         ·have hv:=hid (H1.out (by omega) (by rw[J.out];omega) (by omega))
          rw[J.out]at hv;have d2:decide ((268435456:Int)<(m:Int)+(b:Int) % 128 * 268435456)=false:=aB (by omega);clear H1 H2 H3 H4;go_wp2_with fail;go_ret3;rw[hv.out];exact⟨tX (by omega) rfl rfl,rfl⟩
def pl(at_:Nat)(r:Nat×Nat×Nat):Nat:=if r.2.2=0 then at_+r.2.1 else 0
def aFy(s:ByteArray)(p:Nat)(w:World)(e:Ending)(w':World):Prop:=e=.returned (.tuple #[.int .i64 (cnt (s.data.toList.drop p)).1,.int .i64 (pl p (cnt (s.data.toList.drop p))),.int .i64 (cnt (s.data.toList.drop p)).2.2])∧w=w'
theorem fM{s:ByteArray}{p:Nat}{w:World}{a b c:Int}{r:Nat×Nat×Nat}(h:cnt (s.data.toList.drop p)=r)(h1:a=(r.1:Int))(Y:b=(pl p r:Int))(J:c=(r.2.2:Int)):aFy s p w (.returned (.tuple #[.int .i64 a,.int .i64 b,.int .i64 c])) w:=by
 unfold aFy;rw[h,h1,Y,J];exact⟨rfl,rfl⟩
theorem wK(s:ByteArray)(p:Nat)(w:World)(hs:s.size≤maxLen)(hp:p≤s.size) :
 Calls Tryz.prog 103 #[.string s,.int .i64 p] w (aFy s p w):=by
 unfold maxLen at hs;go_enter Tryz.func103,Tryz.ntmps103;go_wp2_with fail;go_loopw [7,8] (fun n i wr=>∃(k m:Nat),k≤4∧p+k≤s.size∧Hid (m<128 ^ k)∧Hid (cnt (s.data.toList.drop p)=cntF k m (s.data.toList.drop (p+k)))∧i=.int .i64 k∧n=.int .i64 m∧w=wr) (fun _ i _=>5-(intOf i).toNat)
 case atStart=>exact⟨0,0,by omega,by omega,hid (by decide),hid rfl,rfl,rfl,rfl⟩
 case round=>
  obtain⟨k,m,hk,a6,hm,hc,rfl,rfl,rfl⟩:=hrel;by_cases h0:k=0
  ·subst h0
   have a4:m<1:=hm.out;clear hm;by_cases hz:s.size≤p+0
   ·have hv:=hid (hc.out.trans (lX s (p+0) 0 m (by omega)))
    have hd:decide ((s.size:Int)≤(p:Int))=true:=aC (by omega);clear hc;go_wp2_with fail;go_ret3;exact fM hv.out rfl rfl rfl
   ·obtain⟨q,hq⟩:∃q,Hid (q=p+0):=⟨_,hid rfl⟩
    have Y:p+0<s.size:=by omega
    have hd:decide ((s.size:Int)≤(p:Int))=false:=aB (by omega);have hb:=s[p+0].toNat_lt;have H1:=hid (fun a b c=>hc.out.trans (pU s (p+0) 0 m Y a b c));have H2:=hid (fun a b=>hc.out.trans (lY s (p+0) 0 m Y a b));have H3:=hid (fun a b=>hc.out.trans (gN s (p+0) 0 m Y a b));have H4:=hid (fun a b c d=>hc.out.trans (jM s (p+0) 0 m Y a b c d));clear hc;generalize a2:s[p+0].toNat=b at *;simp only[Nat.add_zero]at a2;have J:Hid (lD 0 m b=m+b % 128):=hid (by unfold lD;simp);by_cases a0:b=0
    ·have hv:=hid (H1.out (by omega) (by rw[J.out];omega) (by omega))
     rw[J.out]at hv;subst a0;clear H1 H2 H3 H4;go_wp2_with fail;go_ret3;exact fM hv.out (by simp) (by simp[pl]) rfl
    ·have a3:((b:Int)==0)=false:=by simp;omega
     have d2:decide ((268435456:Int)<(m:Int)+(b:Int) % 128)=false:=aB (by omega);by_cases a1:b<128
     ·have hv:=hid (H1.out (by omega) (by rw[J.out];omega) a1)
      rw[J.out]at hv;have d1:decide ((b:Int)<128)=true:=aC (by omega);clear H1 H2 H3 H4;go_wp2_with fail;go_ret3;exact fM hv.out (by simp) (by simp[pl]) rfl
     ·have hv:=hid (H4.out (by omega) (by rw[J.out];omega) a1 (by omega))
      rw[J.out]at hv;have d1:decide ((b:Int)<128)=false:=aB (by omega);clear H1 H2 H3 H4;go_wp2_with fail;go_roundw
      case rel=>exact⟨1,m+b % 128,by omega,by omega,hid (by show _<128;omega),hv,by go_num,by go_num,trivial⟩
      case measure=>simp[intOf]
  ·by_cases h1:k=1
   ·subst h1
    have a4:m<128:=hm.out;clear hm;by_cases hz:s.size≤p+1
    ·have hv:=hid (hc.out.trans (lX s (p+1) 1 m (by omega)))
     have hd:decide ((s.size:Int)≤(p:Int)+1)=true:=aC (by omega);clear hc;go_wp2_with fail;go_ret3;exact fM hv.out rfl rfl rfl
    ·obtain⟨q,hq⟩:∃q,Hid (q=p+1):=⟨_,hid rfl⟩
     have Y:p+1<s.size:=by omega
     have hd:decide ((s.size:Int)≤(p:Int)+1)=false:=aB (by omega);have hb:=s[p+1].toNat_lt;have H1:=hid (fun a b c=>hc.out.trans (pU s (p+1) 1 m Y a b c));have H2:=hid (fun a b=>hc.out.trans (lY s (p+1) 1 m Y a b));have H3:=hid (fun a b=>hc.out.trans (gN s (p+1) 1 m Y a b));have H4:=hid (fun a b c d=>hc.out.trans (jM s (p+1) 1 m Y a b c d));clear hc;generalize a2:s[p+1].toNat=b at *;have J:Hid (lD 1 m b=m+b % 128 * 128):=hid (by unfold lD;rfl);by_cases a0:b=0
     ·have hv:=hid (H3.out a0 (by omega))
      subst a0;clear H1 H2 H3 H4;go_wp2_with fail;go_ret3;exact fM hv.out rfl rfl rfl
     ·have a3:((b:Int)==0)=false:=by simp;omega
      have d2:decide ((268435456:Int)<(m:Int)+(b:Int) % 128 * 128)=false:=aB (by omega);by_cases a1:b<128
      ·have hv:=hid (H1.out (by omega) (by rw[J.out];omega) a1)
       rw[J.out]at hv;have d1:decide ((b:Int)<128)=true:=aC (by omega);clear H1 H2 H3 H4;go_wp2_with fail;go_ret3;exact fM hv.out (by simp) (by simp[pl];omega) rfl
      ·have hv:=hid (H4.out (by omega) (by rw[J.out];omega) a1 (by omega))
       rw[J.out]at hv;have d1:decide ((b:Int)<128)=false:=aB (by omega);clear H1 H2 H3 H4;go_wp2_with fail;go_roundw
       case rel=>exact⟨2,m+b % 128 * 128,by omega,by omega,hid (by show _<16384;omega),hv,by go_num,by go_num,trivial⟩
       case measure=>simp[intOf]
   ·by_cases h2:k=2
    ·subst h2
     have a4:m<16384:=hm.out;clear hm;by_cases hz:s.size≤p+2
     ·have hv:=hid (hc.out.trans (lX s (p+2) 2 m (by omega)))
      have hd:decide ((s.size:Int)≤(p:Int)+2)=true:=aC (by omega);clear hc;go_wp2_with fail;go_ret3;exact fM hv.out rfl rfl rfl
     ·obtain⟨q,hq⟩:∃q,Hid (q=p+2):=⟨_,hid rfl⟩
      have Y:p+2<s.size:=by omega
      have hd:decide ((s.size:Int)≤(p:Int)+2)=false:=aB (by omega);have hb:=s[p+2].toNat_lt;have H1:=hid (fun a b c=>hc.out.trans (pU s (p+2) 2 m Y a b c));have H2:=hid (fun a b=>hc.out.trans (lY s (p+2) 2 m Y a b));have H3:=hid (fun a b=>hc.out.trans (gN s (p+2) 2 m Y a b));have H4:=hid (fun a b c d=>hc.out.trans (jM s (p+2) 2 m Y a b c d));clear hc;generalize a2:s[p+2].toNat=b at *;have J:Hid (lD 2 m b=m+b % 128 * 16384):=hid (by unfold lD;rfl);by_cases a0:b=0
      ·have hv:=hid (H3.out a0 (by omega))
       subst a0;clear H1 H2 H3 H4;go_wp2_with fail;go_ret3;exact fM hv.out rfl rfl rfl
      ·have a3:((b:Int)==0)=false:=by simp;omega
       have d2:decide ((268435456:Int)<(m:Int)+(b:Int) % 128 * 16384)=false:=aB (by omega);by_cases a1:b<128
       ·have hv:=hid (H1.out (by omega) (by rw[J.out];omega) a1)
        rw[J.out]at hv;have d1:decide ((b:Int)<128)=true:=aC (by omega);clear H1 H2 H3 H4;go_wp2_with fail;go_ret3;exact fM hv.out (by simp) (by simp[pl];omega) rfl
       ·have hv:=hid (H4.out (by omega) (by rw[J.out];omega) a1 (by omega))
        rw[J.out]at hv;have d1:decide ((b:Int)<128)=false:=aB (by omega);clear H1 H2 H3 H4;go_wp2_with fail;go_roundw
        case rel=>exact⟨3,m+b % 128 * 16384,by omega,by omega,hid (by show _<2097152;omega),hv,by go_num,by go_num,trivial⟩
        case measure=>simp[intOf]
    ·by_cases h3:k=3
     ·subst h3
      have a4:m<2097152:=hm.out;clear hm;by_cases hz:s.size≤p+3
      ·have hv:=hid (hc.out.trans (lX s (p+3) 3 m (by omega)))
       have hd:decide ((s.size:Int)≤(p:Int)+3)=true:=aC (by omega);clear hc;go_wp2_with fail;go_ret3;exact fM hv.out rfl rfl rfl
      ·obtain⟨q,hq⟩:∃q,Hid (q=p+3):=⟨_,hid rfl⟩
       have Y:p+3<s.size:=by omega
       have hd:decide ((s.size:Int)≤(p:Int)+3)=false:=aB (by omega);have hb:=s[p+3].toNat_lt;have H1:=hid (fun a b c=>hc.out.trans (pU s (p+3) 3 m Y a b c));have H2:=hid (fun a b=>hc.out.trans (lY s (p+3) 3 m Y a b));have H3:=hid (fun a b=>hc.out.trans (gN s (p+3) 3 m Y a b));have H4:=hid (fun a b c d=>hc.out.trans (jM s (p+3) 3 m Y a b c d));clear hc;generalize a2:s[p+3].toNat=b at *;have J:Hid (lD 3 m b=m+b % 128 * 2097152):=hid (by unfold lD;rfl);by_cases a0:b=0
       ·have hv:=hid (H3.out a0 (by omega))
        subst a0;clear H1 H2 H3 H4;go_wp2_with fail;go_ret3;exact fM hv.out rfl rfl rfl
       ·have a3:((b:Int)==0)=false:=by simp;omega
        have d2:decide ((268435456:Int)<(m:Int)+(b:Int) % 128 * 2097152)=false:=aB (by omega);by_cases a1:b<128
        ·have hv:=hid (H1.out (by omega) (by rw[J.out];omega) a1)
         rw[J.out]at hv;have d1:decide ((b:Int)<128)=true:=aC (by omega);clear H1 H2 H3 H4;go_wp2_with fail;go_ret3;exact fM hv.out (by simp) (by simp[pl];omega) rfl
        ·have hv:=hid (H4.out (by omega) (by rw[J.out];omega) a1 (by omega))
         rw[J.out]at hv;have d1:decide ((b:Int)<128)=false:=aB (by omega);clear H1 H2 H3 H4;go_wp2_with fail;go_roundw
         case rel=>exact⟨4,m+b % 128 * 2097152,by omega,by omega,hid (by show _<268435456;omega),hv,by go_num,by go_num,trivial⟩
         case measure=>simp[intOf]
     ·obtain rfl:k=4:=by omega
      have a4:m<268435456:=hm.out;clear hm;by_cases hz:s.size≤p+4
      ·have hv:=hid (hc.out.trans (lX s (p+4) 4 m (by omega)))
       have hd:decide ((s.size:Int)≤(p:Int)+4)=true:=aC (by omega);clear hc;go_wp2_with fail;go_ret3;exact fM hv.out rfl rfl rfl
      ·obtain⟨q,hq⟩:∃q,Hid (q=p+4):=⟨_,hid rfl⟩
       have Y:p+4<s.size:=by omega
       have hd:decide ((s.size:Int)≤(p:Int)+4)=false:=aB (by omega);have hb:=s[p+4].toNat_lt;have H1:=hid (fun a b c=>hc.out.trans (pU s (p+4) 4 m Y a b c));have H2:=hid (fun a b=>hc.out.trans (lY s (p+4) 4 m Y a b));have H3:=hid (fun a b=>hc.out.trans (gN s (p+4) 4 m Y a b));have H4:=hid (fun a b c d=>hc.out.trans (jM s (p+4) 4 m Y a b c d));clear hc;generalize a2:s[p+4].toNat=b at *;have J:Hid (lD 4 m b=m+b % 128 * 268435456):=hid (by unfold lD;rfl);by_cases a0:b=0
       ·have hv:=hid (H3.out a0 (by omega))
        subst a0;clear H1 H2 H3 H4;go_wp2_with fail;go_ret3;exact fM hv.out rfl rfl rfl
       ·have a3:((b:Int)==0)=false:=by simp;omega
        by_cases a1:1<b
        ·have hv:=hid (H2.out (by omega) (Or.inl ⟨rfl,a1⟩))
         have d1:decide ((1:Int)<(b:Int))=true:=aC (by omega);clear H1 H2 H3 H4;go_wp2_with fail;go_ret3;exact fM hv.out rfl rfl rfl
        ·have d1:decide ((1:Int)<(b:Int))=false:=aB (by omega)
         have d3:decide ((b:Int)<128)=true:=aC (by omega);by_cases a5:0<m
         ·have hv:=hid (H2.out (by omega) (Or.inr (by rw[J.out];omega)))
          have d2:decide ((268435456:Int)<(m:Int)+(b:Int) % 128 * 268435456)=true:=aC (by omega);clear H1 H2 H3 H4;go_wp2_with fail;go_ret3;exact fM hv.out rfl rfl rfl
         ·have hv:=hid (H1.out (by omega) (by rw[J.out];omega) (by omega))
          rw[J.out]at hv;have d2:decide ((268435456:Int)<(m:Int)+(b:Int) % 128 * 268435456)=false:=aB (by omega);clear H1 H2 H3 H4;go_wp2_with fail;go_ret3;exact fM hv.out (by simp) (by simp[pl];omega) rfl
end vr
namespace mem
open RowKit
structure Sg(sz:Nat)(w:World)(e:TypeId)(A:Option Addr)(cap n:Nat)(cs:List Value):Prop where
 len:cs.length=n * sz
 le:n≤cap
 max:cap≤maxLen
 nil:A=none→cap=0
 ex:∀a,A=some a→a.spot=none∧∃cur,w.heap[a.block]? = some (.cells cur e (0,0))∧a.off+cap * sz≤cur.size∧∀j u,cs[j]? = some u→cur[a.off+j]? = some u
theorem Sg.new(sz:Nat)(w:World)(e:TypeId):Sg sz w e none 0 0 []:=⟨by simp,aY _,bA _,fun _=>rfl,fun a h=>(by cases h)⟩
theorem Sg.lt{sz:Nat}{w:World}{e:TypeId}{A:Option Addr}{cap n:Nat}{cs:List Value}(h:Sg sz w e A cap n cs):∀g∈blk A,g<w.heap.size:=by
 intro g J;cases A with
 | none=>cases J
 | some a=>
  obtain⟨_,Y,hc,_⟩:=h.ex a rfl;simp only[blk,aD]at J;subst J;exact(bB.1 hc).1
theorem Sg.kept{sz:Nat}{F:List Nat}{w w':World}{e:TypeId}{A:Option Addr}{cap n:Nat}{cs:List Value}(h:Sg sz w e A cap n cs)(hf:Fr F w w')(hd:∀g∈blk A,g∉F):Sg sz w' e A cap n cs:=by
 refine⟨h.len,h.le,h.max,h.nil,fun a ha=>?_⟩;subst ha;obtain⟨hs,J,hc,r⟩:=h.ex a rfl;exact⟨hs,J,(hf.block _ (bB.1 hc).1 (hd _ (by simp[blk]))).trans hc,r⟩
theorem Sg.alloc{sz:Nat}{w:World}{e:TypeId}{A:Option Addr}{cap n:Nat}{cs:List Value}(h:Sg sz w e A cap n cs)(o:Obj):Sg sz (w.alloc o) e A cap n cs:=h.kept ((Fr.refl [] w).alloc o) (by simp)
theorem Sg.rd{sz:Nat}{w:World}{e:TypeId}{A:Option Addr}{cap n:Nat}{cs:List Value}(h:Sg sz w e A cap n cs)(Y:0<sz):Rd w A cs:=fun hz=>by
 cases A with
 | none=>
  have h0:=h.nil rfl;have h1:=h.le;have h2:=h.len;obtain rfl:n=0:=by omega
  omega
 | some a=>
  obtain⟨hs,J,hc,hl,hx⟩:=h.ex a rfl;obtain⟨g,off,spot⟩:=a;have hs:spot=none:=hs;subst hs;refine⟨g,off,rfl,(bB.1 hc).1,fun j hj=>?_⟩;rw[cell_of_row w g (off+j) J e (0,0) hc];exact hx j _ (aN hj)
theorem Sg.push{P:Program}{sz:Nat}{w:World}{e t ty:TypeId}{A:Option Addr}{cap n bytes:Nat}{cs us:List Value}{i:TypeInfo}{z:Value}(h:Sg sz w e A cap n cs)(ht:P.underlying t=some (.slice e))(hi:P.info? e=some i)(hz:i.zero=some z)(hs:i.size=sz)(hb:i.bytes=bytes)(a8:z.cells.size=sz)
 {ad:Addr} (hl:us.length=sz) (hu:∀j v,us[j]? = some v→w.cell? (ad.add j)=some v) (h1:∀u∈us,u.oneCell'=true) (ag:n+1≤9223372036854775807) (ae:(n+1) * bytes≤140737488355328) :
 ∃A' a4 w',(Builtin.append_ #[t,t] ty #[.slice A n cap,.slice (some ad) 1 1]).run P w=.ok (.slice A' (n+1) a4) w'∧Sg sz w' e A' a4 (n+1) (cs++us)∧Fr (blk A) w w'∧(blk A'=blk A∨blk A'=[w.heap.size]):=by
 have a5:Src P i.size t (.slice (some ad) 1 1) 1 us w:=Src.ofSlice w ht ad 1 1 us (by rw[hs,hl];simp) hu h1;have a7:=h.len;have a6:(n+1) * sz=n * sz+sz:=by rw[Nat.add_mul,Nat.one_mul]
 have J:(cs++us).length=(n+1) * sz:=by rw[aF,a7,hl,a6]
 by_cases a0:n+1≤cap
 ·rcases A with _ | a
  ·have:=h.nil rfl;omega
  ·obtain⟨Y,a1,hc,a3,hx⟩:=h.ex a rfl
   obtain⟨g,off,spot⟩:=a;have Y:spot=none:=Y;subst Y;have a3:off+cap * sz≤a1.size:=a3;have hc:w.heap[g]? = some (.cells a1 e (0,0)):=hc;have af:(n+1) * sz≤cap * sz:=Nat.mul_le_mul_right _ a0
   have hr:=run_append_room_src (P:=P) w t t ty e i ht hi g off n cap _ 1 us a5 a0 (fun j hj=>by
    rw[hs,cell_of_row w g _ a1 e (0,0) hc,Array.getElem?_eq_getElem (by omega)];rfl) (fun j hj=>by simp[World.frozen?,hc])
   rw[hs]at hr;obtain⟨a2,k1,k2,k3,k4⟩:=lC g e us (off+n * sz) w a1 hc (by omega);refine⟨_,_,_,hr,⟨J,a0,h.max,fun hn=>(by cases hn),fun a ha=>?_⟩,mK g us _ w,Or.inl rfl⟩;cases ha;refine⟨rfl,a2,k1,by rw[k2];exact a3,fun j u hu=>?_⟩;rcases Nat.lt_or_ge j cs.length with hj | hj
   ·rw[List.getElem?_append_left hj]at hu
    show a2[off+j]? = _;rw[k4 _ (Or.inl (by omega))];exact hx j u hu
   ·rw[List.getElem?_append_right hj]at hu
    show a2[off+j]? = _;have:=k3 _ u hu
    rwa[show off+n * sz+(j-cs.length)=off+j by omega]at this
 ·have hold:(Builtin.firstCells i.size n (.slice A n cap)).run P w.drew=.ok cs.toArray w.drew:=by
   rcases A with _ | a
   ·have h0:=h.nil rfl
    have h2:=h.le;obtain rfl:n=0:=by omega
    obtain rfl:cs=[]:=List.eq_nil_of_length_eq_zero (by omega);exact run_firstCells_none w.drew i.size 0 0 cap
   ·obtain⟨Y,a1,hc,a3,hx⟩:=h.ex a rfl
    obtain⟨g,off,spot⟩:=a;have Y:spot=none:=Y;subst Y
    exact run_firstCells_some w.drew i.size n ⟨g,off,none⟩ n cap cs (by rw[hs];exact a7) (fun j v hv=>by
     have e1:(⟨g,off,none⟩:Addr).add j=⟨g,off+j,none⟩:=by unfold Addr.add;split <;> simp_all
     rw[e1];show w.cell? _=_;rw[cell_of_row w g (off+j) a1 e (0,0) hc]
     exact hx j v hv)
  have hlen:=h.le;have hr:=run_append_grow_src (P:=P) w t t ty e i z ht hi hz A n cap cs hold _ 1 us a5 (by omega) (by omega) (growslice_fits (by omega) (by rw[hb];exact ae));have a9:=grownCap_ge w (n+1) cap e;have aa:grownCap w (n+1) cap e≤maxLen:=grownCap_le_maxLen w (n+1) cap e (by unfold maxLen;omega);refine⟨_,_,_,hr,?_,(Fr.refl _ w).drew.alloc _,Or.inr rfl⟩;refine⟨J,a9,aa,fun hn=>(by cases hn),fun a ha=>?_⟩;cases ha;refine⟨rfl,_,heap_alloc_new w.drew _,?_,fun j v hv=>?_⟩
  ·show 0+_≤_
   simp only[Array.size_append,List.size_toArray,J,size_zeroCells,a8];rw[←Nat.add_mul,Nat.zero_add];exact Nat.mul_le_mul_right _ (by omega)
  ·show(_:Array Value)[0+j]? = some v
   have hj:=(List.getElem?_eq_some_iff.1 hv).1;rw[Nat.zero_add,Array.getElem?_append_left (by simpa using hj)]
   simpa using hv
theorem iV{P:Program}{sz:Nat}{w:World}{ops:Array Oper}{rest:List Oper}{o:Oper}{a:Act}{Q:Exit→Act→World→Prop}(a2:o.guard=none)(s x:Operand)(t:TypeId)
 (ho:o.op=.call { callee:=.builtin .append,args:=#[s,x],argTypes:=#[t,t] }) {e:TypeId} {A:Option Addr} {cap n bytes:Nat} {cs us:List Value} {i:TypeInfo} {z:Value} (h:Sg sz w e A cap n cs) (ht:P.underlying t=some (.slice e)) (hi:P.info? e=some i) (hz:i.zero=some z) (hs:i.size=sz) (hb:i.bytes=bytes) (a3:z.cells.size=sz)
 {ad:Addr} (a0:a.eval s=.slice A n cap) (hex:a.eval x=.slice (some ad) 1 1) (hl:us.length=sz) (hu:∀j v,us[j]? = some v→w.cell? (ad.add j)=some v) (h1:∀u∈us,u.oneCell'=true) (a4:n+1≤9223372036854775807) (a1:(n+1) * bytes≤140737488355328)
 (hK:∀Y J w',Sg sz w' e Y J (n+1) (cs++us)→Fr (blk A) w w'→(blk Y=blk A∨blk Y=[w.heap.size])→wpList P ops Q rest (a.put o.dst (.slice Y (n+1) J)) w'):wpList P ops Q (o :: rest) a w:=by
 refine wpList_plain a2 fun K a5=>?_
 obtain⟨Y,J,w',hr,h2,h3,h4⟩:=h.push (ty:=o.type) ht hi hz hs hb a3 hl hu h1 a4 a1;unfold Oper.wp execOp;simp only[ho,resolve,invoke,builtin,Sem.run_bind,Sem.run_pure,Result.andThen_ok,List.map_toArray,aV,aU,a0,hex,hr];exact a5 _ _ (hK Y J w' h2 h3 h4)
end mem
end Go.Proofs.YtdmmkjijgoiecaaGreatDoor
