import Derived.Deep.RegionHeld3
import Derived.OwnWalkIn
import Derived.RangeFuncBound
import Derived.RangeFuncNested
import Derived.Test.YtlkboeajkgbnaaaGreatDoorC09
set_option linter.all false
set_option maxHeartbeats 4000000
namespace Go.Proofs.YtlkboeajkgbnaaaGreatDoor
namespace mem
open RowKit
theorem rowsIn_of{n l:Nat}{P:Program}{row:String}{args:Array Value}{w:World}{R:Value→World→Prop}(h:Rows P row args w R):RowsIn (Fence.wide.inRound l) n P row args w R:=
 fun c cs _=>let ⟨v,w',r,s⟩:=h c cs;⟨v,w',r,stepsIn_wide.2 s⟩
theorem step_push{P:Program}{w:World}{ops:Array Oper}{o:Oper}{a:Act}{K:Act→World→Prop}{Q:Exit→Act→World→Prop}{E:Prop}(hgd:o.guard=none)(s x:Operand)(t:TypeId)
 (ho:o.op=.call { callee:=.builtin .append,args:=#[s,x],argTypes:=#[t,t] }) {e:TypeId} {A:Option Addr} {cap n bytes:Nat} {xs:List Value} {i:TypeInfo} {z:Value} (h:Seg w e A cap xs) (hn:n=xs.length) (ht:P.underlying t=some (.slice e)) (hi:P.info? e=some i) (hz:i.zero=some z) (hs:i.size=1) (hb:i.bytes=bytes) (hzs:z.cells.size=1)
 {ad:Addr} {u:Value} (hes:a.eval s=.slice A n cap) (hex:a.eval x=.slice (some ad) 1 1) (hu:w.cell? ad=some u) (h1:u.oneCell'=true) (h63:n+1≤9223372036854775807) (hby:(n+1) * bytes≤140737488355328)
 (hK:∀A' cap' w',Seg w' e A' cap' (xs++[u])→Fr (blk A) w w'→(blk A'=blk A∨blk A'=[w.heap.size])→K (a.put o.dst (.slice A' (n+1) cap')) w') :
 if Region.wanted o (yielded ops a.tmps)=true then Oper.wp P o a w K Q else E:=by
 have hw:Region.wanted o (yielded ops a.tmps)=true:=by simp[Region.wanted,hgd]
 rw[if_pos hw];subst hn;obtain⟨A',cap',w',hr,h2,h3,h4⟩:=h.push (ty:=o.type) ht hi hz hs hb hzs hu h1 h63 hby;unfold Oper.wp execOp;simp only[ho,resolve,invoke,builtin,Sem.run_bind,Sem.run_pure,Result.andThen_ok,List.map_toArray,List.map_cons,List.map_nil,hes,hex,hr];exact hK A' cap' w' h2 h3 h4
def boolsAll:Nat→List (List Bool)
 | 0=>[[]]
 | n+1=>(boolsAll n).flatMap fun l=>[false :: l,true :: l]
theorem mem_boolsAll:∀l:List Bool,l∈boolsAll l.length
 | []=>by simp[boolsAll]
 | b :: l=>by
  simp only[List.length_cons,boolsAll,List.mem_flatMap];exact⟨l,mem_boolsAll l,by cases b <;> simp⟩
def closedB(ops:Array Oper)(l:List Bool):Bool:=(List.range l.length).all fun j=>!l.getD j false||((ops[j]?).map fun o=>o.after.all fun e=>!Region.binds .any e||l.getD e.on false).getD true
theorem closedB_spec{ops:Array Oper}{l:List Bool}(h:∀j o,l.getD j false=true→ops[j]? = some o→∀e∈o.after,Region.binds .any e=true→l.getD e.on false=true):closedB ops l=true:=by
 unfold closedB;rw[List.all_eq_true];intro j _;rcases hj:l.getD j false with _ | _
 ·rfl
 ·rw[Bool.not_true,Bool.false_or]
  cases ho:ops[j]? with
  | none=>rfl
  | some o=>
   simp only[Option.map_some,Option.getD_some];rw[Array.all_eq_true_iff_forall_mem];intro e he;rcases hb:Region.binds .any e with _ | _
   ·rfl
   ·rw[h j o hj ho e he hb];rfl
def tailB(ops:Array Oper)(k:Nat):Bool:=ops.size==k+2&&(boolsAll k).all fun l=>!closedB ops l||(
 let r:=Region.ready .any (ops.toList.take k).toArray l.toArray
 if r.isEmpty then Region.ready .any ops (l++[false,false]).toArray==[k]&&(Region.ready .any ops (l++[true,false]).toArray==[k+1]&&Region.ready .any ops (l++[true,true]).toArray==[])
 else Region.ready .any ops (l++[false,false]).toArray==r)
section
variable {P:Program} {ops:Array Oper} {k:Nat}
theorem tail_size(h:tailB ops k=true):ops.size=k+2:=by
 unfold tailB at h;rw[Bool.and_eq_true]at h
 simpa using h.1
theorem tail_at(h:tailB ops k=true)(l:List Bool)(hl:l.length=k)(hcl:closedB ops l=true) :
 (Region.ready .any (ops.toList.take k).toArray l.toArray≠[]→Region.ready .any ops (l++[false,false]).toArray=Region.ready .any (ops.toList.take k).toArray l.toArray) ∧
 (Region.ready .any (ops.toList.take k).toArray l.toArray=[]→Region.ready .any ops (l++[false,false]).toArray=[k]∧Region.ready .any ops (l++[true,false]).toArray=[k+1]∧Region.ready .any ops (l++[true,true]).toArray=[]):=by
 unfold tailB at h;rw[Bool.and_eq_true,List.all_eq_true]at h;have h2:=h.2 l (hl ▸ mem_boolsAll l);rw[hcl,Bool.not_true,Bool.false_or]at h2;dsimp only at h2;constructor
 ·intro hne
  rw[if_neg (by simpa using hne)]at h2
  simpa using h2
 ·intro he
  rw[if_pos (by simpa using he)]at h2
  simpa using h2
theorem lin_step(fuel t:Nat)(listed:Array Bool):Region.linearise.go .any ops (fuel+1) t listed [] = (match (Region.ready .any ops listed)[t % (Region.ready .any ops listed).length]? with
 | some i=>i :: Region.linearise.go .any ops fuel (t / (Region.ready .any ops listed).length) (listed.setIfInBounds i true) []
 | none=>[]):=by
 simp only[Region.linearise.go]
 change (match (Region.ready .any ops listed)[t % (Region.ready .any ops listed).length]? with
  | some i=>Region.linearise.go .any ops fuel (t / (Region.ready .any ops listed).length) (listed.setIfInBounds i true) [i]
  | none=>[].reverse)=_
 cases(Region.ready .any ops listed)[t % (Region.ready .any ops listed).length]? with
 | none=>rfl
 | some i=>
  simp only[];rw[linearise_go_acc,List.reverse_singleton,List.singleton_append]
theorem set_first{l:List Bool}{i:Nat}(hi:i<l.length)(m:List Bool):(l++m).toArray.setIfInBounds i true=((l.set i true)++m).toArray:=by
 rw[List.setIfInBounds_toArray,List.set_append_left _ _ hi]
theorem tail_end(h:tailB ops k=true)(l:List Bool)(hl:l.length=k)(hcl:closedB ops l=true)(he:Region.ready .any (ops.toList.take k).toArray l.toArray=[])(fuel t:Nat):Region.linearise.go .any ops (fuel+2) t (l++[false,false]).toArray [] = [k,k+1]:=by
 obtain⟨h1,h2,h3⟩:=(tail_at h l hl hcl).2 he;have e1:(l++[false,false]).toArray.setIfInBounds k true=(l++[true,false]).toArray:=by
  rw[List.setIfInBounds_toArray,List.set_append_right _ _ (by omega),hl,Nat.sub_self];rfl
 have e2:(l++[true,false]).toArray.setIfInBounds (k+1) true=(l++[true,true]).toArray:=by
  rw[List.setIfInBounds_toArray,List.set_append_right _ _ (by omega),hl,show k+1-k=1 by omega];rfl
 rw[lin_step,h1];simp only[List.length_singleton,Nat.mod_one,List.getElem?_cons_zero];rw[e1];cases fuel with
 | zero=>
  rw[lin_step,h2];simp only[List.length_singleton,Nat.mod_one,List.getElem?_cons_zero];rfl
 | succ fuel=>
  rw[lin_step,h2];simp only[List.length_singleton,Nat.mod_one,List.getElem?_cons_zero];rw[e2,lin_step,h3];rfl
theorem wpOp_in{Q:Exit→Act→World→Prop}{F:Nat}{l:Nat}(hL:¬LetsOut Q){o:Oper}(hd:∀c,o.op≠.defer c){a:Act}{w:World}{K K':Act→World→Prop}{Q':Exit→Act→World→Prop}(hK:∀a w,K a w→K' a w)(hQ:∀c a w,Q (.panic c) a w→Q' (.panic c) a w)(h:o.wp P a w K Q):o.wpIn (Fence.wide.inRound l) F P a w K' Q':=by
 refine⟨fun _ _=>trivial,?_⟩;rw[Oper.semAt_plain _ _ _ hd];unfold Oper.wp at h;generalize (execOp a.eval o).run P w=r at h ⊢;cases r with
 | ok nx w'=>
  cases nx with
  | value v=>exact hK _ _ h
  | skip=>exact hK _ _ h
  | defer d=>exact hK _ _ h
  | enter f args=>
   refine⟨fun hh=>(by simp[Fence.wide]at hh),?_⟩;refine CallsIn.inRound l (callsIn_wide.2 (Calls.mono h ?_));intro e w'' hh;cases e with
   | returned v=>exact hK _ _ hh
   | panicked c=>exact hQ _ _ _ hh
   | outgrown=>exact absurd hh hL
  | row row args=>
   refine⟨fun hh=>(by simp[Fence.wide]at hh),?_⟩;exact(rowsIn_of h).mono (fun v w'' hh=>hK _ _ hh)
  | _=>exact h.elim
 | halt x w'=>
  cases x with
  | panic v=>exact hQ _ _ _ h
  | _=>exact h.elim
theorem ops_tail(h:tailB ops k=true)(l0 n:Nat)(hd:∀(i:Nat) (o:Oper),ops[i]? = some o→(∀c,o.op≠.defer c)∧o.guard=none){Q:Exit→Act→World→Prop}{T:Act→World→Prop}(hT:∀a w,T a w→wpOpsIn (Fence.wide.inRound l0) n P ops Q [k,k+1] a w) :
 ∀(fuel t:Nat) (l:List Bool) (a:Act) (w:World),l.length=k→(∀j o,l.getD j false=true→ops[j]? = some o→∀e∈o.after,Region.binds .any e=true→l.getD e.on false=true)→wpAny P .any (ops.toList.take k).toArray (fun e a w=>e=.normal∧T a w) fuel l.toArray a w →
  wpOpsIn (Fence.wide.inRound l0) n P ops Q (Region.linearise.go .any ops (fuel+2) t (l++[false,false]).toArray []) a w:=by
 have hsz:=tail_size h;intro fuel
 induction fuel with
 | zero=>
  intro t l a w hl hcl hw;rw[tail_end h l hl (closedB_spec hcl) hw.1];exact hT a w hw.2.2
 | succ fuel ih=>
  intro t l a w hl hcl hw;by_cases he:Region.ready .any (ops.toList.take k).toArray l.toArray=[]
  ·rw[tail_end h l hl (closedB_spec hcl) he]
   exact hT a w (hw.1 he).2
  ·rw[lin_step,(tail_at h l hl (closedB_spec hcl)).1 he]
   cases hi:(Region.ready .any (ops.toList.take k).toArray l.toArray)[t % (Region.ready .any (ops.toList.take k).toArray l.toArray).length]? with
   | none=>
    exfalso
    have hlt:t % (Region.ready .any (ops.toList.take k).toArray l.toArray).length<(Region.ready .any (ops.toList.take k).toArray l.toArray).length:=Nat.mod_lt _ (List.length_pos_iff.2 he);rw[List.getElem?_eq_getElem hlt]at hi;cases hi
   | some i=>
    simp only[];have hm:=List.mem_of_getElem? hi;have hop:=hw.2 i hm;obtain⟨_,o,ho,hdep⟩:=mem_ready.1 hm;have hik:i<k:=by
     have:=(Array.getElem?_eq_some_iff.1 ho).1;simp at this;omega
    have ho2:ops[i]? = some o:=by
     rw[List.getElem?_toArray,List.getElem?_take_of_lt hik,Array.getElem?_toList]at ho;exact ho
    have hcl2:∀j o,(l.set i true).getD j false=true→ops[j]? = some o→∀e∈o.after,Region.binds .any e=true→(l.set i true).getD e.on false=true:=fun j oj hj hoj e he hb=>by
     have up:∀q,l.getD q false=true→(l.set i true).getD q false=true:=fun q hq=>by
      rw[List.getD_eq_getElem?_getD,List.getElem?_set];split
      ·split
       ·rfl
       ·rename_i h1 h2
        subst h1;rw[List.getD_eq_getElem?_getD,List.getElem?_eq_none (by omega)]at hq;exact hq
      ·rw[List.getD_eq_getElem?_getD]at hq
       exact hq
     by_cases hji:j=i
     ·subst hji
      rw[ho2]at hoj;obtain rfl:=Option.some.inj hoj;exact up _ (by simpa using hdep e he hb)
     ·refine up _ (hcl j oj ?_ hoj e he hb)
      rw[List.getD_eq_getElem?_getD,List.getElem?_set_ne (fun e=>hji e.symm)]at hj;rw[List.getD_eq_getElem?_getD];exact hj
    have hset:l.toArray.setIfInBounds i true=(l.set i true).toArray:=by rw[List.setIfInBounds_toArray]
    rw[set_first (by omega)];unfold wpOpsIn;rw[ho2];unfold wpOp at hop;rw[ho]at hop;simp only at hop ⊢;have next:∀a w,wpAny P .any (ops.toList.take k).toArray (fun e a w=>e=.normal∧T a w) fuel (l.toArray.setIfInBounds i true) a w→wpOpsIn (Fence.wide.inRound l0) n P ops Q (Region.linearise.go .any ops (fuel+2) (t / (Region.ready .any (ops.toList.take k).toArray l.toArray).length) (l.set i true++[false,false]).toArray []) a w:=fun a w hh=>ih _ _ _ _ (by simpa using hl) hcl2 (by rw[hset]at hh;exact hh)
    have hw1:∀y,Region.wanted o y=true:=fun y=>by simp[Region.wanted,(hd i o ho2).2]
    rw[if_pos (hw1 _)]at hop ⊢;rcases hop with hop | ⟨_,hop⟩
    ·refine wpOp_in (Q:=fun e a w=>e=.normal∧T a w) (fun hl=>?_) (hd i o ho2).1 next (fun c a w hh=>absurd hh.1 (by simp)) hop
     obtain⟨_,_,hh,_⟩:=hl;cases hh
    ·exfalso
     obtain⟨_,_,hh,_⟩:=hop;cases hh
theorem region_tail_round{Q:Exit→Act→World→Prop}{T:Act→World→Prop}{S:World→Prop}{id l0 n:Nat}{a:Act}{w:World}(k:Nat)(h:tailB ops k=true)(hm:P.follows .mixedOrders=true)(hd:∀(i:Nat) (o:Oper),ops[i]? = some o→(∀c,o.op≠.defer c)∧o.guard=none)
 (hT:∀a w,T a w→wpOpsIn (Fence.wide.inRound l0) n P ops Q [k,k+1] a w)
 (hA:wpAnyH P .any (ops.toList.take k).toArray (fun e a w=>e=.normal∧T a w) S k (Array.replicate k false) a w.drew):(Code.region id ops true).wpIn (Fence.wide.inRound l0) n P Q a w:=by
 refine wpIn_region_draw fun t=>?_
 simp only[Region.schedule,hm,Bool.true_or,if_true];unfold Region.linearise;rw[tail_size h];have e:Array.replicate (k+2) false=(List.replicate k false++[false,false]).toArray:=by
  rw[←List.toArray_replicate,show k+2=k+2 from rfl,←List.replicate_append_replicate];rfl
 rw[e];refine ops_tail h l0 n hd hT k t (List.replicate k false) a _ (by simp) (fun j o hj=>?_) ?_
 ·exfalso
  rw[List.getD_eq_getElem?_getD,List.getElem?_replicate]at hj;split at hj <;> simp at hj
 rw[List.toArray_replicate];exact wpAny_of_held _ _ _ _ hA
end
end mem
end Go.Proofs.YtlkboeajkgbnaaaGreatDoor
