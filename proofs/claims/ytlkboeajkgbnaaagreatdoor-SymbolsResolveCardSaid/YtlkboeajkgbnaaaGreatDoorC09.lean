import Derived.Deep.AppendSrc
import Derived.Deep.Draws
import Derived.Lib.Hide
import Derived.ProofKit
import Derived.Test.YtlkboeajkgbnaaaGreatDoorRows
import Derived.WalkKit
set_option linter.all false
set_option maxHeartbeats 4000000
namespace Go.Proofs.YtlkboeajkgbnaaaGreatDoor
namespace mem
open RowKit
structure Fr(F:List Nat)(w w':World):Prop where
 os:w'.os=w.os
 tape:w'.tape=w.tape
 output:w'.output=w.output
 size:w.heap.size≤w'.heap.size
 block:∀k,k<w.heap.size→k∉F→w'.heap[k]? = w.heap[k]?
theorem Fr.refl(F:List Nat)(w:World):Fr F w w:=⟨rfl,rfl,rfl,Nat.le_refl _,fun _ _ _=>rfl⟩
theorem Fr.of_below{w w':World}(h:Below w.heap.size w w')(F:List Nat):Fr F w w':=⟨h.os,h.tape,h.output,h.size,fun k hk _=>h.block k hk⟩
theorem Fr.below{F:List Nat}{w w':World}{B:Nat}(h:Fr F w w')(hF:∀g∈F,B≤g)(hB:B≤w.heap.size):Below B w w':=
 ⟨h.os,h.tape,h.output,h.size,fun k hk=>h.block k (by omega) (fun hm=>by have:=hF k hm;omega)⟩
theorem Fr.all{w w':World}(h:Fr [] w w'):Below w.heap.size w w':=h.below (fun g hg=>(by cases hg)) (Nat.le_refl _)
theorem Fr.trans{F F' G:List Nat}{a b c:World}(h:Fr F a b)(k:Fr F' b c)(hF:∀g∈F,g∈G∨a.heap.size≤g)(hF':∀g∈F',g∈G∨a.heap.size≤g):Fr G a c:=by
 refine⟨k.os.trans h.os,k.tape.trans h.tape,k.output.trans h.output,Nat.le_trans h.size k.size,fun i hi hn=>?_⟩;have h1:i∉F:=fun hm=>by rcases hF i hm with h | h;exact hn h;omega
 have h2:i∉F':=fun hm=>by rcases hF' i hm with h | h;exact hn h;omega
 exact(k.block i (Nat.lt_of_lt_of_le hi h.size) h2).trans (h.block i hi h1)
theorem Fr.mono{F G:List Nat}{a b:World}(h:Fr F a b)(hF:∀g∈F,g∈G∨a.heap.size≤g):Fr G a b:=
 ⟨h.os,h.tape,h.output,h.size,fun i hi hn=>h.block i hi (fun hm=>by rcases hF i hm with h | h;exact hn h;omega)⟩
theorem Fr.alloc{F:List Nat}{a b:World}(h:Fr F a b)(o:Obj):Fr F a (b.alloc o):=
 ⟨h.os,h.tape,h.output,Nat.le_trans h.size (by simp),fun i hi hn=>(Below.heap_alloc b o i (Nat.lt_of_lt_of_le hi h.size)).trans (h.block i hi hn)⟩
theorem Fr.drew{F:List Nat}{a b:World}(h:Fr F a b):Fr F a b.drew:=⟨h.os,h.tape,h.output,h.size,h.block⟩
theorem Fr.drewN{F:List Nat}{a b:World}(h:Fr F a b)(n:Nat):Fr F a (b.drewN n):=⟨h.os,h.tape,h.output,h.size,h.block⟩
theorem Fr.setCell{F:List Nat}{a b:World}(h:Fr F a b){p:Addr}(hp:p.block∈F∨a.heap.size≤p.block)(u:Value):Fr F a (b.setCell p u):=
 ⟨h.os,h.tape,h.output,Nat.le_trans h.size (by simp[World.setCell]),fun i hi hn=>by
  refine(Below.heap_setCell b p u i (fun e=>?_)).trans (h.block i hi hn);subst e;rcases hp with hp | hp
  ·exact hn hp
  ·omega⟩
theorem Fr.grown{F:List Nat}{a b c:World}(h:Fr F a b){row:Option Nat}(hg:b.grownBy c row)(hr:∀k,row=some k→k∈F∨a.heap.size≤k):Fr F a c:=
 ⟨hg.os.trans h.os,hg.tape.trans h.tape,hg.output.trans h.output,Nat.le_trans h.size hg.size,fun i hi hn=>by
  refine(hg.block i (Nat.lt_of_lt_of_le hi h.size) (fun e=>?_)).trans (h.block i hi hn);rcases hr i e.symm with h1 | h1
  ·exact hn h1
  ·omega⟩
def Box(w:World)(g:Nat)(t:TypeId)(cs:Array Value):Prop:=w.heap[g]? = some (.cells cs t (0,0))
theorem Box.lt{w:World}{g:Nat}{t:TypeId}{cs:Array Value}(h:Box w g t cs):g<w.heap.size:=by
 rcases Nat.lt_or_ge g w.heap.size with h1 | h1
 ·exact h1
 ·unfold Box at h;rw[Array.getElem?_eq_none h1]at h;cases h
theorem Box.cell{w:World}{g:Nat}{t:TypeId}{cs:Array Value}(h:Box w g t cs)(i:Nat):w.cell? ⟨g,i,none⟩=cs[i]?:=cell_of_row w g i cs t (0,0) h
theorem Box.free{w:World}{g:Nat}{t:TypeId}{cs:Array Value}(h:Box w g t cs)(i:Nat):w.frozen? ⟨g,i,none⟩=false:=by
 unfold Box at h;simp[World.frozen?,h]
theorem Box.new(w:World)(t:TypeId)(cs:Array Value):Box (w.alloc (.cells cs t)) w.heap.size t cs:=heap_alloc_new w _
theorem Box.kept{F:List Nat}{w w':World}{g:Nat}{t:TypeId}{cs:Array Value}(h:Box w g t cs)(hf:Fr F w w')(hg:g∉F):Box w' g t cs:=(hf.block g h.lt hg).trans h
theorem Box.put{w:World}{g:Nat}{t:TypeId}{cs:Array Value}(h:Box w g t cs)(i:Nat)(u:Value):Box (w.setCell ⟨g,i,none⟩ u) g t (cs.setIfInBounds i u):=by
 unfold Box at h ⊢;simp[World.setCell,Array.getElem?_modify,h]
def Seg(w:World)(e:TypeId)(A:Option Addr)(cap:Nat)(xs:List Value):Prop:=
 xs.length≤cap∧cap≤maxLen∧(A=none→cap=0)∧∀a,A=some a→a.spot=none∧∃cur,w.heap[a.block]? = some (.cells cur e (0,0))∧a.off+cap≤cur.size∧∀j u,xs[j]? = some u→cur[a.off+j]? = some u
def blk(A:Option Addr):List Nat:=match A with | some a=>[a.block] | none=>[]
theorem blk_some(g off:Nat):blk (some ⟨g,off,none⟩)=[g]:=rfl
theorem Seg.lt{w:World}{e:TypeId}{A:Option Addr}{cap:Nat}{xs:List Value}(h:Seg w e A cap xs):∀g∈blk A,g<w.heap.size:=by
 intro g hg;cases A with
 | none=>cases hg
 | some a=>
  obtain⟨_,cur,hc,_⟩:=h.2.2.2 a rfl;simp only[blk,List.mem_singleton]at hg;subst hg;exact(Array.getElem?_eq_some_iff.1 hc).1
theorem Seg.kept{F:List Nat}{w w':World}{e:TypeId}{A:Option Addr}{cap:Nat}{xs:List Value}(h:Seg w e A cap xs)(hf:Fr F w w')(hd:∀g∈blk A,g∉F):Seg w' e A cap xs:=by
 refine⟨h.1,h.2.1,h.2.2.1,fun a ha=>?_⟩;subst ha;obtain⟨hs,cur,hc,r⟩:=h.2.2.2 a rfl;exact⟨hs,cur,(hf.block _ (Array.getElem?_eq_some_iff.1 hc).1 (hd _ (by simp[blk]))).trans hc,r⟩
theorem Seg.alloc{w:World}{e:TypeId}{A:Option Addr}{cap:Nat}{xs:List Value}(h:Seg w e A cap xs)(o:Obj):Seg (w.alloc o) e A cap xs:=h.kept ((Fr.refl [] w).alloc o) (by simp)
theorem Seg.drew{w:World}{e:TypeId}{A:Option Addr}{cap:Nat}{xs:List Value}(h:Seg w e A cap xs):Seg w.drew e A cap xs:=h
theorem new_cell(w:World)(u:Value)(t:TypeId):(w.alloc (.cells #[u] t)).cell? ⟨w.heap.size,0,none⟩=some u:=(Box.new w t #[u]).cell 0
theorem Seg.ne_box{w:World}{e t:TypeId}{A:Option Addr}{cap b:Nat}{xs:List Value}{cs:Array Value}(h:Seg w e A cap xs)(hb:Box w b t cs)(hne:e≠t):b∉blk A:=by
 intro hm;cases A with
 | none=>cases hm
 | some a=>
  simp only[blk,List.mem_singleton]at hm;subst hm;obtain⟨_,cur,hc,_⟩:=h.2.2.2 a rfl;unfold Box at hb;rw[hc]at hb;injection hb with hb;injection hb with _ h2;exact hne h2
theorem Seg.nil(w:World)(e:TypeId):Seg w e none 0 []:=⟨Nat.le_refl _,Nat.zero_le _,fun _=>rfl,fun a h=>(by cases h)⟩
theorem Seg.empty{w:World}{e:TypeId}{xs:List Value}{cap:Nat}(h:Seg w e none cap xs):xs=[]∧cap=0:=by
 have:=h.2.2.1 rfl;exact⟨List.eq_nil_of_length_eq_zero (by have:=h.1;omega),this⟩
theorem Seg.at_{w:World}{e:TypeId}{A:Option Addr}{cap:Nat}{xs:List Value}(h:Seg w e A cap xs)(hz:0<xs.length) :
 ∃g off,A=some ⟨g,off,none⟩∧g<w.heap.size∧∀j (hj:j<xs.length),w.cell? ⟨g,off+j,none⟩=some xs[j]:=by
 cases A with
 | none=>have:=h.2.2.1 rfl;have:=h.1;omega
 | some a=>
  obtain⟨hs,cur,hc,hl,hx⟩:=h.2.2.2 a rfl;obtain⟨g,off,spot⟩:=a;have hs:spot=none:=hs;subst hs;refine⟨g,off,rfl,(Array.getElem?_eq_some_iff.1 hc).1,fun j hj=>?_⟩;rw[cell_of_row w g (off+j) cur e (0,0) hc];exact hx j _ (List.getElem?_eq_getElem hj)
theorem Seg.free{w:World}{e:TypeId}{g off cap:Nat}{xs:List Value}(h:Seg w e (some ⟨g,off,none⟩) cap xs)(j:Nat):w.frozen? ⟨g,j,none⟩=false:=by
 obtain⟨_,cur,hc,_⟩:=h.2.2.2 _ rfl;simp[World.frozen?,show w.heap[g]? = _ from hc]
theorem Seg.push{P:Program}{w:World}{e t ty:TypeId}{A:Option Addr}{cap bytes:Nat}{xs:List Value}{i:TypeInfo}{z:Value}(h:Seg w e A cap xs)(ht:P.underlying t=some (.slice e))(hi:P.info? e=some i)(hz:i.zero=some z)(hs:i.size=1)(hb:i.bytes=bytes)(hzs:z.cells.size=1)
 {ad:Addr} {u:Value} (hu:w.cell? ad=some u) (h1:u.oneCell'=true) (h63:xs.length+1≤9223372036854775807) (hby:(xs.length+1) * bytes≤140737488355328) :
 ∃A' cap' w',(Builtin.append_ #[t,t] ty #[.slice A xs.length cap,.slice (some ad) 1 1]).run P w=.ok (.slice A' (xs.length+1) cap') w'∧Seg w' e A' cap' (xs++[u])∧Fr (blk A) w w'∧(blk A'=blk A∨blk A'=[w.heap.size]):=by
 have hsrc:Src P i.size t (.slice (some ad) 1 1) 1 [u] w:=Src.ofSlice w ht ad 1 1 [u] (by rw[hs];rfl) (fun j v hv=>by
  cases j with
  | zero=>simp at hv;subst hv;simpa[Addr.add] using hu
  | succ j=>simp at hv) (fun v hv=>by rw[List.mem_singleton]at hv;subst hv;exact h1)
 by_cases hroom:xs.length+1≤cap
 ·rcases A with _ | a
  ·have:=h.2.2.1 rfl;omega
  ·obtain⟨hsp,cur,hc,hl,hx⟩:=h.2.2.2 a rfl
   obtain⟨g,off,spot⟩:=a;have hsp:spot=none:=hsp;subst hsp;have hl:off+cap≤cur.size:=hl;have hc:w.heap[g]? = some (.cells cur e (0,0)):=hc;have hcell:w.cell? ⟨g,off+xs.length,none⟩=some (cur[off+xs.length]'(by omega)):=by
    rw[cell_of_row w g _ cur e (0,0) hc];exact Array.getElem?_eq_getElem (by omega)
   have hr:=run_append_room_src (P:=P) w t t ty e i ht hi g off xs.length cap _ 1 [u] hsrc hroom (fun j hj=>by
    have:j=0:=by simpa using hj
    subst this;rw[hs,Nat.mul_one,Nat.add_zero,hcell];rfl) (fun j hj=>by
    have:j=0:=by simpa using hj
    subst this
    simp[World.frozen?,hc])
   rw[hs,Nat.mul_one]at hr;refine⟨_,_,_,hr,?_,?_,Or.inl rfl⟩
   ·refine⟨by simpa using hroom,h.2.1,fun hn=>(by cases hn),fun a ha=>?_⟩
    cases ha;refine⟨rfl,cur.setIfInBounds (off+xs.length) u,?_,by simpa using hl,fun j v hv=>?_⟩
    ·show((w.setCell ⟨g,off+xs.length,none⟩ u).heap[g]?)=_
     simp[World.setCell,Array.getElem?_modify,hc]
    ·show(cur.setIfInBounds (off+xs.length) u)[off+j]? = some v
     rw[Array.getElem?_setIfInBounds];rcases Nat.lt_or_ge j xs.length with hj | hj
     ·rw[if_neg (by omega)]
      rw[List.getElem?_append_left hj]at hv;exact hx j v hv
     ·rw[List.getElem?_append_right hj]at hv
      have hj0:j-xs.length=0:=by
       have:=(List.getElem?_eq_some_iff.1 hv).1;simp at this;omega
      rw[hj0]at hv;simp at hv;subst hv;rw[if_pos (by omega),if_pos (by omega)]
   ·show Fr _ w (w.setCell ⟨g,off+xs.length,none⟩ u)
    exact(Fr.refl _ w).setCell (Or.inl (by simp[blk])) u
 ·have hold:(Builtin.firstCells i.size xs.length (.slice A xs.length cap)).run P w.drew=.ok xs.toArray w.drew:=by
   rcases A with _ | a
   ·obtain⟨rfl,rfl⟩:=h.empty
    exact run_firstCells_none w.drew i.size 0 0 0
   ·obtain⟨hsp,cur,hc,hl,hx⟩:=h.2.2.2 a rfl
    obtain⟨g,off,spot⟩:=a;have hsp:spot=none:=hsp;subst hsp
    exact run_firstCells_some w.drew i.size xs.length ⟨g,off,none⟩ xs.length cap xs (by rw[hs,Nat.mul_one]) (fun j v hv=>by
     have e1:(⟨g,off,none⟩:Addr).add j=⟨g,off+j,none⟩:=by unfold Addr.add;split <;> simp_all
     rw[e1];show w.cell? _=_;rw[cell_of_row w g (off+j) cur e (0,0) hc]
     exact hx j v hv)
  have hlen:=h.1;have hr:=run_append_grow_src (P:=P) w t t ty e i z ht hi hz A xs.length cap xs hold _ 1 [u] hsrc (by omega) (by omega) (growslice_fits (by omega) (by rw[hb];exact hby));have hge:=grownCap_ge w (xs.length+1) cap e;have hcm:grownCap w (xs.length+1) cap e≤maxLen:=grownCap_le_maxLen w (xs.length+1) cap e (by unfold maxLen;omega);refine⟨_,_,_,hr,?_,(Fr.refl _ w).drew.alloc _,Or.inr rfl⟩;refine⟨by simpa using hge,hcm,fun hn=>(by cases hn),fun a ha=>?_⟩;cases ha;refine⟨rfl,_,heap_alloc_new w.drew _,?_,fun j v hv=>?_⟩
  ·show 0+_≤_
   simp only[Array.size_append,List.size_toArray,List.length_append,List.length_singleton,size_zeroCells,hzs];omega
  ·show(_:Array Value)[0+j]? = some v
   have hj:=(List.getElem?_eq_some_iff.1 hv).1;rw[Nat.zero_add,Array.getElem?_append_left (by simpa using hj)]
   simpa using hv
theorem wpList_push{P:Program}{w:World}{ops:Array Oper}{rest:List Oper}{o:Oper}{a:Act}{Q:Exit→Act→World→Prop}(hgd:o.guard=none)(s x:Operand)(t:TypeId)
 (ho:o.op=.call { callee:=.builtin .append,args:=#[s,x],argTypes:=#[t,t] }) {e:TypeId} {A:Option Addr} {cap n bytes:Nat} {xs:List Value} {i:TypeInfo} {z:Value} (h:Seg w e A cap xs) (hn:n=xs.length) (ht:P.underlying t=some (.slice e)) (hi:P.info? e=some i) (hz:i.zero=some z) (hs:i.size=1) (hb:i.bytes=bytes) (hzs:z.cells.size=1)
 {ad:Addr} {u:Value} (hes:a.eval s=.slice A n cap) (hex:a.eval x=.slice (some ad) 1 1) (hu:w.cell? ad=some u) (h1:u.oneCell'=true) (h63:n+1≤9223372036854775807) (hby:(n+1) * bytes≤140737488355328)
 (hK:∀A' cap' w',Seg w' e A' cap' (xs++[u])→Fr (blk A) w w'→(blk A'=blk A∨blk A'=[w.heap.size])→wpList P ops Q rest (a.put o.dst (.slice A' (n+1) cap')) w'):wpList P ops Q (o :: rest) a w:=by
 subst hn;refine wpList_plain hgd fun K hK'=>?_
 obtain⟨A',cap',w',hr,h2,h3,h4⟩:=h.push (ty:=o.type) ht hi hz hs hb hzs hu h1 h63 hby;unfold Oper.wp execOp;simp only[ho,resolve,invoke,builtin,Sem.run_bind,Sem.run_pure,Result.andThen_ok,List.map_toArray,List.map_cons,List.map_nil,hes,hex,hr];exact hK' _ _ (hK A' cap' w' h2 h3 h4)
theorem setCells_row(g:Nat)(e:TypeId):∀(vs:List Value) (off:Nat) (w:World) (cur:Array Value),w.heap[g]? = some (.cells cur e (0,0))→off+vs.length≤cur.size →
 ∃cur',(w.setCells g off vs).heap[g]? = some (.cells cur' e (0,0))∧cur'.size=cur.size∧(∀j v,vs[j]? = some v→cur'[off+j]? = some v)∧∀i,i<off∨off+vs.length≤i→cur'[i]? = cur[i]?
 | [],off,w,cur,h,_=>⟨cur,h,rfl,fun j v hv=>by simp at hv,fun _ _=>rfl⟩
 | v :: r,off,w,cur,h,hl=>by
  simp only[List.length_cons]at hl;have h1:(w.setCell ⟨g,off,none⟩ v).heap[g]? = some (.cells (cur.setIfInBounds off v) e (0,0)):=by simp[World.setCell,Array.getElem?_modify,h]
  obtain⟨cur',h2,h3,h4,h5⟩:=setCells_row g e r (off+1) _ _ h1 (by simpa using by omega);refine⟨cur',h2,by rw[h3];simp,fun j u hu=>?_,fun i hi=>?_⟩
  ·cases j with
   | zero=>
    rw[h5 (off+0) (Or.inl (by omega))];simp at hu;subst hu;rw[Array.getElem?_setIfInBounds,if_pos (by omega),if_pos (by omega)]
   | succ j=>
    rw[show off+(j+1)=off+1+j by omega];exact h4 j u (by simpa using hu)
  ·simp only[List.length_cons]at hi
   rw[h5 i (by omega),Array.getElem?_setIfInBounds,if_neg (by omega)]
theorem setCells_fr(g:Nat):∀(vs:List Value) (off:Nat) (w:World),Fr [g] w (w.setCells g off vs)
 | [],_,w=>Fr.refl _ w
 | v :: r,off,w=>((Fr.refl [g] w).setCell (p:=⟨g,off,none⟩) (Or.inl (by simp)) v).trans (setCells_fr g r (off+1) _) (fun _ h=>Or.inl h) (fun _ h=>Or.inl h)
theorem Seg.upto{P:Program}{w:World}{e t:TypeId}{A:Option Addr}{cap:Nat}{xs:List Value}(h:Seg w e A cap xs)(ht:P.underlying t=some (.slice (P.elem t)))(hs:∀w,(sizeOf (P.elem t)).run P w=.ok 1 w)(k:Nat)(hk:k≤xs.length) :
 (∀W,(Instr.slice t (.slice A xs.length cap) none (some (.int .i64 k)) none).run P W=.ok (.slice A k cap) W)∧∀W,Seg W e A cap xs→Seg W e A cap (xs.take k):=by
 have hl:=h.1;refine⟨fun W=>?_,fun W hW=>⟨by simp;omega,hW.2.1,hW.2.2.1,fun a ha=>?_⟩⟩
 ·rw[run_slice_h W t A xs.length cap ht .i64 k (by omega) (by omega),hs,Result.andThen_ok]
  unfold sliced;by_cases h0:cap=0
  ·rw[if_pos h0];simp
  ·rw[if_neg h0]
   cases A <;> simp[Addr.add]
 ·obtain⟨h1,cur,h2,h3,h4⟩:=hW.2.2.2 a ha
  refine⟨h1,cur,h2,h3,fun j u hu=>?_⟩;rw[List.getElem?_take]at hu;split at hu
  ·exact h4 j u hu
  ·cases hu
theorem Seg.from_{P:Program}{w:World}{e t:TypeId}{A:Option Addr}{cap:Nat}{xs:List Value}(h:Seg w e A cap xs)(ht:P.underlying t=some (.slice (P.elem t)))(hs:∀w,(sizeOf (P.elem t)).run P w=.ok 1 w)(k:Nat)(hk:k≤xs.length) :
 ∃A',(∀W,(Instr.slice t (.slice A xs.length cap) (some (.int .i64 k)) none none).run P W=.ok (.slice A' (xs.length-k) (cap-k)) W)∧blk A'=blk A∧∀W,Seg W e A cap xs→Seg W e A' (cap-k) (xs.drop k):=by
 have hl:=h.1;refine⟨if cap=k then A else A.map (·.add k),fun W=>?_,?_,fun W hW=>⟨by simp;omega,by have:=hW.2.1;omega,fun hn=>?_,fun a ha=>?_⟩⟩
 ·rw[run_slice_l W t A xs.length cap ht .i64 k (by omega) (by omega),hs,Result.andThen_ok]
  unfold sliced;simp
 ·split
  ·rfl
  ·cases A with
   | none=>rfl
   | some a=>simp only[Option.map_some,blk];rw[show(a.add k).block=a.block by unfold Addr.add;split <;> rfl]
 ·split at hn
  ·omega
  ·cases A with
   | none=>have:=hW.2.2.1 rfl;omega
   | some a=>cases hn
 ·by_cases h0:cap=k
  ·rw[if_pos h0]at ha
   obtain⟨h1,cur,h2,h3,h4⟩:=hW.2.2.2 a ha;refine⟨h1,cur,h2,by omega,fun j u hu=>?_⟩;rw[List.getElem?_drop]at hu;have:=(List.getElem?_eq_some_iff.1 hu).1;omega
  ·rw[if_neg h0]at ha
   cases A with
   | none=>cases ha
   | some a0=>
    simp only[Option.map_some,Option.some.injEq]at ha;subst ha;obtain⟨h1,cur,h2,h3,h4⟩:=hW.2.2.2 a0 rfl;obtain⟨g,off,spot⟩:=a0;have h1:spot=none:=h1;subst h1;have e1:(⟨g,off,none⟩:Addr).add k=⟨g,off+k,none⟩:=by unfold Addr.add;split <;> simp_all
    rw[e1];refine⟨rfl,cur,h2,?_,fun j u hu=>?_⟩
    ·show off+k+(cap-k)≤_
     have:off+cap≤cur.size:=h3;omega
    ·rw[List.getElem?_drop]at hu
     show cur[off+k+j]? = _;rw[Nat.add_assoc];exact h4 _ u hu
def Rd(w:World)(A:Option Addr)(xs:List Value):Prop:=0<xs.length→∃g off,A=some ⟨g,off,none⟩∧g<w.heap.size∧∀j (hj:j<xs.length),w.cell? ⟨g,off+j,none⟩=some xs[j]
theorem Seg.rd{w:World}{e:TypeId}{A:Option Addr}{cap:Nat}{xs:List Value}(h:Seg w e A cap xs):Rd w A xs:=fun hz=>h.at_ hz
theorem Rd.kept{F:List Nat}{w w':World}{A:Option Addr}{xs:List Value}(h:Rd w A xs)(hf:Fr F w w')(hd:∀g∈blk A,g∉F):Rd w' A xs:=fun hz=>by
 obtain⟨g,off,rfl,hl,hc⟩:=h hz;exact⟨g,off,rfl,Nat.lt_of_lt_of_le hl hf.size,fun j hj=>(World.cell?_of_block (w:=w) (hf.block g hl (hd g (by simp[blk])))).trans (hc j hj)⟩
theorem Rd.below{w w':World}{A:Option Addr}{xs:List Value}(h:Rd w A xs)(hb:Below w.heap.size w w'):Rd w' A xs:=h.kept (Fr.of_below hb []) (by simp)
theorem Rd.alloc{w:World}{A:Option Addr}{xs:List Value}(h:Rd w A xs)(o:Obj):Rd (w.alloc o) A xs:=h.kept ((Fr.refl [] w).alloc o) (by simp)
theorem Rd.src{P:Program}{w:World}{e' t:TypeId}{A:Option Addr}{cap:Nat}{xs:List Value}(h:Rd w A xs)(ht:P.underlying t=some (.slice e'))(h1:∀u∈xs,u.oneCell'=true):Src P 1 t (.slice A xs.length cap) xs.length xs w:=by
 cases A with
 | none=>
  have h0:xs=[]:=List.eq_nil_of_length_eq_zero (by
   rcases Nat.eq_zero_or_pos xs.length with h0 | h0
   ·exact h0
   ·obtain⟨_,_,h,_⟩:=h h0;cases h)
  subst h0;exact Src.ofNil w ht cap
 | some a=>
  refine Src.ofSlice w ht _ xs.length cap xs (by simp) (fun j v hv=>?_) h1;have hj:=(List.getElem?_eq_some_iff.1 hv).1;obtain⟨g,off,ha,_,hc⟩:=h (by omega);cases ha;have e1:(⟨g,off,none⟩:Addr).add j=⟨g,off+j,none⟩:=by unfold Addr.add;split <;> simp_all
  rw[e1,hc j hj,←hv,List.getElem?_eq_getElem hj]
theorem Seg.app{P:Program}{w:World}{e t ty:TypeId}{A B:Option Addr}{cap c2 bytes:Nat}{xs ys:List Value}{i:TypeInfo}{z:Value}(h:Seg w e A cap xs)(hy:Rd w B ys)(ht:P.underlying t=some (.slice e))(hi:P.info? e=some i)(hz:i.zero=some z)(hs:i.size=1)(hb:i.bytes=bytes)(hzs:z.cells.size=1)
 (h1:∀u∈ys,u.oneCell'=true) (h63:xs.length+ys.length≤9223372036854775807) (hby:(xs.length+ys.length) * bytes≤140737488355328) :
 ∃A' cap' w',(Builtin.append_ #[t,t] ty #[.slice A xs.length cap,.slice B ys.length c2]).run P w=.ok (.slice A' (xs.length+ys.length) cap') w'∧Seg w' e A' cap' (xs++ys)∧Fr (blk A) w w'∧(blk A'=blk A∨blk A'=[w.heap.size]):=by
 have hsrc:Src P i.size t (.slice B ys.length c2) ys.length ys w:=by rw[hs];exact hy.src ht h1
 by_cases hroom:xs.length+ys.length≤cap
 ·rcases A with _ | a
  ·obtain⟨rfl,rfl⟩:=h.empty
   have hy0:ys=[]:=List.eq_nil_of_length_eq_zero (by simpa using hroom);subst hy0;refine⟨none,0,w,?_,Seg.nil w e,Fr.refl _ w,Or.inl rfl⟩;rcases B with _ | b
   ·simp[Builtin.append_,run_underlying ht,sizeOf,typeInfo,hi,Builtin.lenOf,Builtin.firstCells]
   ·simp[Builtin.append_,run_underlying ht,sizeOf,typeInfo,hi,Builtin.lenOf,Builtin.firstCells,loadCells,loadCellsFrom]
  ·obtain⟨hsp,cur,hc,hl,hx⟩:=h.2.2.2 a rfl
   obtain⟨g,off,spot⟩:=a;have hsp:spot=none:=hsp;subst hsp;have hl:off+cap≤cur.size:=hl;have hc:w.heap[g]? = some (.cells cur e (0,0)):=hc
   have hr:=run_append_room_src (P:=P) w t t ty e i ht hi g off xs.length cap _ ys.length ys hsrc hroom (fun j hj=>by
    rw[hs,Nat.mul_one,cell_of_row w g _ cur e (0,0) hc,Array.getElem?_eq_getElem (by omega)];rfl) (fun j hj=>by simp[World.frozen?,hc])
   rw[hs,Nat.mul_one]at hr;obtain⟨cur',k1,k2,k3,k4⟩:=setCells_row g e ys (off+xs.length) w cur hc (by omega);refine⟨_,_,_,hr,⟨by simpa using hroom,h.2.1,fun hn=>(by cases hn),fun a ha=>?_⟩,setCells_fr g ys _ w,Or.inl rfl⟩;cases ha;refine⟨rfl,cur',k1,by rw[k2];exact hl,fun j u hu=>?_⟩;rcases Nat.lt_or_ge j xs.length with hj | hj
   ·rw[List.getElem?_append_left hj]at hu
    show cur'[off+j]? = _;rw[k4 _ (Or.inl (by omega))];exact hx j u hu
   ·rw[List.getElem?_append_right hj]at hu
    show cur'[off+j]? = _;have:=k3 _ u hu
    rwa[show off+xs.length+(j-xs.length)=off+j by omega]at this
 ·have hold:(Builtin.firstCells i.size xs.length (.slice A xs.length cap)).run P w.drew=.ok xs.toArray w.drew:=by
   rcases A with _ | a
   ·obtain⟨rfl,rfl⟩:=h.empty
    exact run_firstCells_none w.drew i.size 0 0 0
   ·obtain⟨hsp,cur,hc,hl,hx⟩:=h.2.2.2 a rfl
    obtain⟨g,off,spot⟩:=a;have hsp:spot=none:=hsp;subst hsp
    exact run_firstCells_some w.drew i.size xs.length ⟨g,off,none⟩ xs.length cap xs (by rw[hs,Nat.mul_one]) (fun j v hv=>by
     have e1:(⟨g,off,none⟩:Addr).add j=⟨g,off+j,none⟩:=by unfold Addr.add;split <;> simp_all
     rw[e1];show w.cell? _=_;rw[cell_of_row w g (off+j) cur e (0,0) hc]
     exact hx j v hv)
  have hlen:=h.1;have hr:=run_append_grow_src (P:=P) w t t ty e i z ht hi hz A xs.length cap xs hold _ ys.length ys hsrc (by omega) (by omega) (growslice_fits (by omega) (by rw[hb];exact hby));have hge:=grownCap_ge w (xs.length+ys.length) cap e;have hcm:grownCap w (xs.length+ys.length) cap e≤maxLen:=grownCap_le_maxLen w (xs.length+ys.length) cap e (by unfold maxLen;omega);refine⟨_,_,_,hr,?_,(Fr.refl _ w).drew.alloc _,Or.inr rfl⟩;refine⟨by simpa using hge,hcm,fun hn=>(by cases hn),fun a ha=>?_⟩;cases ha;refine⟨rfl,_,heap_alloc_new w.drew _,?_,fun j v hv=>?_⟩
  ·show 0+_≤_
   simp only[Array.size_append,List.size_toArray,List.length_append,size_zeroCells,hzs];omega
  ·show(_:Array Value)[0+j]? = some v
   have hj:=(List.getElem?_eq_some_iff.1 hv).1;rw[Nat.zero_add,Array.getElem?_append_left (by simpa using hj)]
   simpa using hv
theorem wp_app{P:Program}{w:World}{o:Oper}{a:Act}{K:Act→World→Prop}{Q:Exit→Act→World→Prop}(s x:Operand)(t:TypeId)
 (ho:o.op=.call { callee:=.builtin .append,args:=#[s,x],argTypes:=#[t,t] }) {e:TypeId} {A B:Option Addr} {cap c2 n m bytes:Nat} {xs ys:List Value} {i:TypeInfo} {z:Value} (h:Seg w e A cap xs) (hy:Rd w B ys) (hn:n=xs.length) (hm:m=ys.length) (ht:P.underlying t=some (.slice e)) (hi:P.info? e=some i) (hz:i.zero=some z) (hs:i.size=1) (hb:i.bytes=bytes) (hzs:z.cells.size=1)
 (hes:a.eval s=.slice A n cap) (hex:a.eval x=.slice B m c2) (h1:∀u∈ys,u.oneCell'=true) (h63:n+m≤9223372036854775807) (hby:(n+m) * bytes≤140737488355328)
 (hK:∀A' cap' w',Seg w' e A' cap' (xs++ys)→Fr (blk A) w w'→(blk A'=blk A∨blk A'=[w.heap.size])→K (a.put o.dst (.slice A' (n+m) cap')) w'):o.wp P a w K Q:=by
 subst hn;subst hm;obtain⟨A',cap',w',hr,h2,h3,h4⟩:=h.app (ty:=o.type) (c2:=c2) hy ht hi hz hs hb hzs h1 h63 hby;unfold Oper.wp execOp;simp only[ho,resolve,invoke,builtin,Sem.run_bind,Sem.run_pure,Result.andThen_ok,List.map_toArray,List.map_cons,List.map_nil,hes,hex,hr];exact hK A' cap' w' h2 h3 h4
theorem wpList_app{P:Program}{w:World}{ops:Array Oper}{rest:List Oper}{o:Oper}{a:Act}{Q:Exit→Act→World→Prop}(hgd:o.guard=none)(s x:Operand)(t:TypeId)
 (ho:o.op=.call { callee:=.builtin .append,args:=#[s,x],argTypes:=#[t,t] }) {e:TypeId} {A B:Option Addr} {cap c2 n m bytes:Nat} {xs ys:List Value} {i:TypeInfo} {z:Value} (h:Seg w e A cap xs) (hy:Rd w B ys) (hn:n=xs.length) (hm:m=ys.length) (ht:P.underlying t=some (.slice e)) (hi:P.info? e=some i) (hz:i.zero=some z) (hs:i.size=1) (hb:i.bytes=bytes) (hzs:z.cells.size=1)
 (hes:a.eval s=.slice A n cap) (hex:a.eval x=.slice B m c2) (h1:∀u∈ys,u.oneCell'=true) (h63:n+m≤9223372036854775807) (hby:(n+m) * bytes≤140737488355328)
 (hK:∀A' cap' w',Seg w' e A' cap' (xs++ys)→Fr (blk A) w w'→(blk A'=blk A∨blk A'=[w.heap.size])→wpList P ops Q rest (a.put o.dst (.slice A' (n+m) cap')) w'):wpList P ops Q (o :: rest) a w:=
 wpList_plain hgd fun _ hK'=>wp_app s x t ho h hy hn hm ht hi hz hs hb hzs hes hex h1 h63 hby fun A' cap' w' a1 a2 a3=>hK' _ _ (hK A' cap' w' a1 a2 a3)
structure Sg(sz:Nat)(w:World)(e:TypeId)(A:Option Addr)(cap n:Nat)(cs:List Value):Prop where
 len:cs.length=n * sz
 le:n≤cap
 max:cap≤maxLen
 nil:A=none→cap=0
 ex:∀a,A=some a→a.spot=none∧∃cur,w.heap[a.block]? = some (.cells cur e (0,0))∧a.off+cap * sz≤cur.size∧∀j u,cs[j]? = some u→cur[a.off+j]? = some u
theorem Sg.new(sz:Nat)(w:World)(e:TypeId):Sg sz w e none 0 0 []:=⟨by simp,Nat.le_refl _,Nat.zero_le _,fun _=>rfl,fun a h=>(by cases h)⟩
theorem Sg.lt{sz:Nat}{w:World}{e:TypeId}{A:Option Addr}{cap n:Nat}{cs:List Value}(h:Sg sz w e A cap n cs):∀g∈blk A,g<w.heap.size:=by
 intro g hg;cases A with
 | none=>cases hg
 | some a=>
  obtain⟨_,cur,hc,_⟩:=h.ex a rfl;simp only[blk,List.mem_singleton]at hg;subst hg;exact(Array.getElem?_eq_some_iff.1 hc).1
theorem Sg.kept{sz:Nat}{F:List Nat}{w w':World}{e:TypeId}{A:Option Addr}{cap n:Nat}{cs:List Value}(h:Sg sz w e A cap n cs)(hf:Fr F w w')(hd:∀g∈blk A,g∉F):Sg sz w' e A cap n cs:=by
 refine⟨h.len,h.le,h.max,h.nil,fun a ha=>?_⟩;subst ha;obtain⟨hs,cur,hc,r⟩:=h.ex a rfl;exact⟨hs,cur,(hf.block _ (Array.getElem?_eq_some_iff.1 hc).1 (hd _ (by simp[blk]))).trans hc,r⟩
theorem Sg.alloc{sz:Nat}{w:World}{e:TypeId}{A:Option Addr}{cap n:Nat}{cs:List Value}(h:Sg sz w e A cap n cs)(o:Obj):Sg sz (w.alloc o) e A cap n cs:=h.kept ((Fr.refl [] w).alloc o) (by simp)
theorem Sg.rd{sz:Nat}{w:World}{e:TypeId}{A:Option Addr}{cap n:Nat}{cs:List Value}(h:Sg sz w e A cap n cs)(hsz:0<sz):Rd w A cs:=fun hz=>by
 cases A with
 | none=>
  have h0:=h.nil rfl;have h1:=h.le;have h2:=h.len;obtain rfl:n=0:=by omega
  omega
 | some a=>
  obtain⟨hs,cur,hc,hl,hx⟩:=h.ex a rfl;obtain⟨g,off,spot⟩:=a;have hs:spot=none:=hs;subst hs;refine⟨g,off,rfl,(Array.getElem?_eq_some_iff.1 hc).1,fun j hj=>?_⟩;rw[cell_of_row w g (off+j) cur e (0,0) hc];exact hx j _ (List.getElem?_eq_getElem hj)
theorem Sg.push{P:Program}{sz:Nat}{w:World}{e t ty:TypeId}{A:Option Addr}{cap n bytes:Nat}{cs us:List Value}{i:TypeInfo}{z:Value}(h:Sg sz w e A cap n cs)(ht:P.underlying t=some (.slice e))(hi:P.info? e=some i)(hz:i.zero=some z)(hs:i.size=sz)(hb:i.bytes=bytes)(hzs:z.cells.size=sz)
 {ad:Addr} (hl:us.length=sz) (hu:∀j v,us[j]? = some v→w.cell? (ad.add j)=some v) (h1:∀u∈us,u.oneCell'=true) (h63:n+1≤9223372036854775807) (hby:(n+1) * bytes≤140737488355328) :
 ∃A' cap' w',(Builtin.append_ #[t,t] ty #[.slice A n cap,.slice (some ad) 1 1]).run P w=.ok (.slice A' (n+1) cap') w'∧Sg sz w' e A' cap' (n+1) (cs++us)∧Fr (blk A) w w'∧(blk A'=blk A∨blk A'=[w.heap.size]):=by
 have hsrc:Src P i.size t (.slice (some ad) 1 1) 1 us w:=Src.ofSlice w ht ad 1 1 us (by rw[hs,hl];simp) hu h1;have hcl:=h.len;have hmul:(n+1) * sz=n * sz+sz:=by rw[Nat.add_mul,Nat.one_mul]
 have hlen':(cs++us).length=(n+1) * sz:=by rw[List.length_append,hcl,hl,hmul]
 by_cases hroom:n+1≤cap
 ·rcases A with _ | a
  ·have:=h.nil rfl;omega
  ·obtain⟨hsp,cur,hc,hle,hx⟩:=h.ex a rfl
   obtain⟨g,off,spot⟩:=a;have hsp:spot=none:=hsp;subst hsp;have hle:off+cap * sz≤cur.size:=hle;have hc:w.heap[g]? = some (.cells cur e (0,0)):=hc;have hcap:(n+1) * sz≤cap * sz:=Nat.mul_le_mul_right _ hroom
   have hr:=run_append_room_src (P:=P) w t t ty e i ht hi g off n cap _ 1 us hsrc hroom (fun j hj=>by
    rw[hs,cell_of_row w g _ cur e (0,0) hc,Array.getElem?_eq_getElem (by omega)];rfl) (fun j hj=>by simp[World.frozen?,hc])
   rw[hs]at hr;obtain⟨cur',k1,k2,k3,k4⟩:=setCells_row g e us (off+n * sz) w cur hc (by omega);refine⟨_,_,_,hr,⟨hlen',hroom,h.max,fun hn=>(by cases hn),fun a ha=>?_⟩,setCells_fr g us _ w,Or.inl rfl⟩;cases ha;refine⟨rfl,cur',k1,by rw[k2];exact hle,fun j u hu=>?_⟩;rcases Nat.lt_or_ge j cs.length with hj | hj
   ·rw[List.getElem?_append_left hj]at hu
    show cur'[off+j]? = _;rw[k4 _ (Or.inl (by omega))];exact hx j u hu
   ·rw[List.getElem?_append_right hj]at hu
    show cur'[off+j]? = _;have:=k3 _ u hu
    rwa[show off+n * sz+(j-cs.length)=off+j by omega]at this
 ·have hold:(Builtin.firstCells i.size n (.slice A n cap)).run P w.drew=.ok cs.toArray w.drew:=by
   rcases A with _ | a
   ·have h0:=h.nil rfl
    have h2:=h.le;obtain rfl:n=0:=by omega
    obtain rfl:cs=[]:=List.eq_nil_of_length_eq_zero (by omega);exact run_firstCells_none w.drew i.size 0 0 cap
   ·obtain⟨hsp,cur,hc,hle,hx⟩:=h.ex a rfl
    obtain⟨g,off,spot⟩:=a;have hsp:spot=none:=hsp;subst hsp
    exact run_firstCells_some w.drew i.size n ⟨g,off,none⟩ n cap cs (by rw[hs];exact hcl) (fun j v hv=>by
     have e1:(⟨g,off,none⟩:Addr).add j=⟨g,off+j,none⟩:=by unfold Addr.add;split <;> simp_all
     rw[e1];show w.cell? _=_;rw[cell_of_row w g (off+j) cur e (0,0) hc]
     exact hx j v hv)
  have hlen:=h.le;have hr:=run_append_grow_src (P:=P) w t t ty e i z ht hi hz A n cap cs hold _ 1 us hsrc (by omega) (by omega) (growslice_fits (by omega) (by rw[hb];exact hby));have hge:=grownCap_ge w (n+1) cap e;have hcm:grownCap w (n+1) cap e≤maxLen:=grownCap_le_maxLen w (n+1) cap e (by unfold maxLen;omega);refine⟨_,_,_,hr,?_,(Fr.refl _ w).drew.alloc _,Or.inr rfl⟩;refine⟨hlen',hge,hcm,fun hn=>(by cases hn),fun a ha=>?_⟩;cases ha;refine⟨rfl,_,heap_alloc_new w.drew _,?_,fun j v hv=>?_⟩
  ·show 0+_≤_
   simp only[Array.size_append,List.size_toArray,hlen',size_zeroCells,hzs];rw[←Nat.add_mul,Nat.zero_add];exact Nat.mul_le_mul_right _ (by omega)
  ·show(_:Array Value)[0+j]? = some v
   have hj:=(List.getElem?_eq_some_iff.1 hv).1;rw[Nat.zero_add,Array.getElem?_append_left (by simpa using hj)]
   simpa using hv
theorem wpList_row{P:Program}{sz:Nat}{w:World}{ops:Array Oper}{rest:List Oper}{o:Oper}{a:Act}{Q:Exit→Act→World→Prop}(hgd:o.guard=none)(s x:Operand)(t:TypeId)
 (ho:o.op=.call { callee:=.builtin .append,args:=#[s,x],argTypes:=#[t,t] }) {e:TypeId} {A:Option Addr} {cap n bytes:Nat} {cs us:List Value} {i:TypeInfo} {z:Value} (h:Sg sz w e A cap n cs) (ht:P.underlying t=some (.slice e)) (hi:P.info? e=some i) (hz:i.zero=some z) (hs:i.size=sz) (hb:i.bytes=bytes) (hzs:z.cells.size=sz)
 {ad:Addr} (hes:a.eval s=.slice A n cap) (hex:a.eval x=.slice (some ad) 1 1) (hl:us.length=sz) (hu:∀j v,us[j]? = some v→w.cell? (ad.add j)=some v) (h1:∀u∈us,u.oneCell'=true) (h63:n+1≤9223372036854775807) (hby:(n+1) * bytes≤140737488355328)
 (hK:∀A' cap' w',Sg sz w' e A' cap' (n+1) (cs++us)→Fr (blk A) w w'→(blk A'=blk A∨blk A'=[w.heap.size])→wpList P ops Q rest (a.put o.dst (.slice A' (n+1) cap')) w'):wpList P ops Q (o :: rest) a w:=by
 refine wpList_plain hgd fun K hK'=>?_
 obtain⟨A',cap',w',hr,h2,h3,h4⟩:=h.push (ty:=o.type) ht hi hz hs hb hzs hl hu h1 h63 hby;unfold Oper.wp execOp;simp only[ho,resolve,invoke,builtin,Sem.run_bind,Sem.run_pure,Result.andThen_ok,List.map_toArray,List.map_cons,List.map_nil,hes,hex,hr];exact hK' _ _ (hK A' cap' w' h2 h3 h4)
theorem step_row{P:Program}{sz:Nat}{w:World}{ops:Array Oper}{o:Oper}{a:Act}{K:Act→World→Prop}{Q:Exit→Act→World→Prop}{E:Prop}(hgd:o.guard=none)(s x:Operand)(t:TypeId)
 (ho:o.op=.call { callee:=.builtin .append,args:=#[s,x],argTypes:=#[t,t] }) {e:TypeId} {A:Option Addr} {cap n bytes:Nat} {cs us:List Value} {i:TypeInfo} {z:Value} (h:Sg sz w e A cap n cs) (ht:P.underlying t=some (.slice e)) (hi:P.info? e=some i) (hz:i.zero=some z) (hs:i.size=sz) (hb:i.bytes=bytes) (hzs:z.cells.size=sz)
 {ad:Addr} (hes:a.eval s=.slice A n cap) (hex:a.eval x=.slice (some ad) 1 1) (hl:us.length=sz) (hu:∀j v,us[j]? = some v→w.cell? (ad.add j)=some v) (h1:∀u∈us,u.oneCell'=true) (h63:n+1≤9223372036854775807) (hby:(n+1) * bytes≤140737488355328)
 (hK:∀A' cap' w',Sg sz w' e A' cap' (n+1) (cs++us)→Fr (blk A) w w'→(blk A'=blk A∨blk A'=[w.heap.size])→K (a.put o.dst (.slice A' (n+1) cap')) w') :
 if Region.wanted o (yielded ops a.tmps)=true then Oper.wp P o a w K Q else E:=by
 have hw:Region.wanted o (yielded ops a.tmps)=true:=by simp[Region.wanted,hgd]
 rw[if_pos hw];obtain⟨A',cap',w',hr,h2,h3,h4⟩:=h.push (ty:=o.type) ht hi hz hs hb hzs hl hu h1 h63 hby;unfold Oper.wp execOp;simp only[ho,resolve,invoke,builtin,Sem.run_bind,Sem.run_pure,Result.andThen_ok,List.map_toArray,List.map_cons,List.map_nil,hes,hex,hr];exact hK A' cap' w' h2 h3 h4
end mem
end Go.Proofs.YtlkboeajkgbnaaaGreatDoor
