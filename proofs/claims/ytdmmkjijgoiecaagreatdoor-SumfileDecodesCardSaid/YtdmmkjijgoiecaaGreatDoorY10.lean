import Derived.Deep.RegionHeld3
import Derived.OwnWalkIn
import Derived.RangeFuncBound
import Derived.RangeFuncNested
import Derived.Test.YtdmmkjijgoiecaaGreatDoorY04
set_option linter.all false
set_option maxHeartbeats 4000000
namespace Go.Proofs.YtdmmkjijgoiecaaGreatDoor
namespace mem
open RowKit
theorem aG2{n l:Nat}{P:Program}{row:String}{args:Array Value}{w:World}{R:Value→World→Prop}(h:Rows P row args w R):RowsIn (Fence.wide.inRound l) n P row args w R:=
 fun c cs _=>let ⟨v,w',r,s⟩:=h c cs;⟨v,w',r,stepsIn_wide.2 s⟩
theorem gX{P:Program}{ops:Array Oper}{Q:Exit→Act→World→Prop}(l n:Nat)(hd:∀(i:Nat) (o:Oper),ops[i]? = some o→∀c,o.op≠.defer c)(Y:¬LetsOut Q) :
 ∀(L:List Nat) (a:Act) (w:World),wpOps P ops Q L a w→wpOpsIn (Fence.wide.inRound l) n P ops Q L a w
 | [],_,_,h=>h
 | i :: rest,a,w,h=>by
  unfold wpOps at h;unfold wpOpsIn;cases ho:ops[i]? with
  | none=>
   rw[ho]at h;exact gX l n hd Y rest a w h
  | some o=>
   rw[ho]at h;simp only at h ⊢;split
   ·rename_i hw
    rw[if_pos hw]at h;rcases h with h | ⟨_,h⟩
    ·refine⟨fun _ _=>trivial,?_⟩
     rw[Oper.semAt_plain _ _ _ (hd i o ho)];unfold Oper.wp at h;generalize (execOp a.eval o).run P w=r at h ⊢;cases r with
     | ok nx w'=>
      cases nx with
      | value v=>exact gX l n hd Y rest _ _ h
      | skip=>exact gX l n hd Y rest _ _ h
      | defer d=>exact gX l n hd Y rest _ _ h
      | enter f args=>
       refine⟨fun J=>(by simp[Fence.wide]at J),?_⟩;refine CallsIn.inRound l (callsIn_wide.2 (Calls.mono h ?_));intro e a0 J;cases e with
       | returned v=>exact gX l n hd Y rest _ _ J
       | panicked c=>exact J
       | outgrown=>exact J
      | row row args=>
       refine⟨fun J=>(by simp[Fence.wide]at J),?_⟩;exact(aG2 h).mono (fun v a0 J=>gX l n hd Y rest _ _ J)
      | _=>exact h.elim
     | halt x w'=>
      cases x with
      | panic v=>exact h
      | _=>exact h.elim
    ·exact absurd h Y
   ·rename_i hw
    rw[if_neg hw]at h;exact⟨fun _ _=>trivial,gX l n hd Y rest _ _ h⟩
theorem xS{P:Program}{ops:Array Oper}{Q:Exit→Act→World→Prop}{S:World→Prop}{id l n:Nat}{a:Act}{w:World}(hm:P.follows .mixedOrders=true)(hd:∀(i:Nat) (o:Oper),ops[i]? = some o→∀c,o.op≠.defer c)
 (h:wpAnyH P .any ops (fun e a w=>e=.normal∧Q .normal a w) S ops.size (Array.replicate ops.size false) a w.drew):(Code.region id ops true).wpIn (Fence.wide.inRound l) n P Q a w:=by
 refine wpIn_mono (wpIn_region_draw (Q:=fun e a w=>e=.normal∧Q .normal a w) fun t=>?_) (fun e a w J=>?_)
 ·refine gX l n hd (fun hl=>?_) _ _ _ ?_
  ·obtain⟨_,_,h,_⟩:=hl
   cases h
  ·simp only[Region.schedule,hm,Bool.true_or,if_true]
   exact wpAny_sound ops.size t _ a _ (wpAny_of_held _ _ _ _ h)
 ·obtain⟨rfl,Y⟩:=J
  exact Y
theorem pW{P:Program}{w:World}{ops:Array Oper}{o:Oper}{a:Act}{K:Act→World→Prop}{Q:Exit→Act→World→Prop}{E:Prop}(a2:o.guard=none)(s x:Operand)(t:TypeId)
 (ho:o.op=.call { callee:=.builtin .append,args:=#[s,x],argTypes:=#[t,t] }) {e:TypeId} {A:Option Addr} {cap n bytes:Nat} {xs:List Value} {i:TypeInfo} {z:Value} (h:Seg w e A cap xs) (hn:n=xs.length) (ht:P.underlying t=some (.slice e)) (hi:P.info? e=some i) (hz:i.zero=some z) (hs:i.size=1) (hb:i.bytes=bytes) (a3:z.cells.size=1)
 {ad:Addr} {u:Value} (a0:a.eval s=.slice A n cap) (hex:a.eval x=.slice (some ad) 1 1) (hu:w.cell? ad=some u) (h1:u.oneCell'=true) (a4:n+1≤9223372036854775807) (a1:(n+1) * bytes≤140737488355328)
 (hK:∀Y J w',Seg w' e Y J (xs++[u])→Fr (blk A) w w'→(blk Y=blk A∨blk Y=[w.heap.size])→K (a.put o.dst (.slice Y (n+1) J)) w') :
 if Region.wanted o (yielded ops a.tmps)=true then Oper.wp P o a w K Q else E:=by
 have hw:Region.wanted o (yielded ops a.tmps)=true:=by simp[Region.wanted,a2]
 rw[if_pos hw];subst hn;obtain⟨Y,J,w',hr,h2,h3,h4⟩:=h.push (ty:=o.type) ht hi hz hs hb a3 hu h1 a4 a1;unfold Oper.wp execOp;simp only[ho,resolve,invoke,builtin,Sem.run_bind,Sem.run_pure,Result.andThen_ok,List.map_toArray,aV,aU,a0,hex,hr];exact hK Y J w' h2 h3 h4
end mem
end Go.Proofs.YtdmmkjijgoiecaaGreatDoor
