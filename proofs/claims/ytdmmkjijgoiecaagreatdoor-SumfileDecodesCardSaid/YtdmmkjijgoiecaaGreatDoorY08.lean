import Derived.Test.YtdmmkjijgoiecaaGreatDoorY01
import Derived.Deep.AppendSrc
import Derived.Lib.Hide
import Derived.LoopIn
import Derived.LoopNIn
import Derived.OwnWalkIn
import Derived.ProofKit
import Derived.RangeFuncBound
import Derived.RangeFuncNested
import Derived.Shelf.RegionOpen
import Derived.Test.YtdmmkjijgoiecaaGreatDoorRows
import Derived.Test.YtdmmkjijgoiecaaGreatDoorY03
set_option linter.all false
set_option maxHeartbeats 4000000
namespace Go.Proofs.YtdmmkjijgoiecaaGreatDoor
open Lib(hid)
set_option maxRecDepth 100000
namespace vr
open RowKit Shelf
attribute [local go_sem] Oper.semAt_some
theorem aLz:∀x:Fin 128,bits .or .u8 ((x.val:Nat):Int) 128=((x.val+128:Nat):Int):=by decide
theorem aMq(k:Nat):((k % 128+128:Nat):Int)=bits .or .u8 ((k:Int) % 128) 128:=by
 have:=aLz ⟨k % 128,Nat.mod_lt _ (by omega)⟩;rw[show((k:Int) % 128)=((k % 128:Nat):Int) from by omega];exact this.symm
theorem aIz(n k:Nat)(pre:List UInt8)(h:pre++nb k=nb n)(J:128≤k):(pre++[xQ (k % 128+128)])++nb (k / 128)=nb n:=by
 rw[←h,nH k J];simp
theorem aEH(F:Fence)(n:Nat)(hf:F.fn 146)(a5:F.round=none)(hn:1≤n)(l Bn m:Nat)(hm:m≤268435456)(J Jx:List UInt8→World→Prop)
 (hY:∀pre x W,J pre W→pre.length<(nb m).length→YieldAt F (n-1) Tryz.prog l #[.int .u8 ((x:UInt8).toNat:Int)] W fun e W'=>
  (e=.returned (.bool true)∧J (pre++[x]) W'∧True)∨(e=.returned (.bool false)∧Jx (pre++[x]) W'))
 (W:World) (a8:W.cell? ⟨Bn,0,none⟩=some (.int .i64 m)) (h0:J [] W) :
 CallsIn F n Tryz.prog 146 #[.func (.yield l) #[] #[],.pointer (some ⟨Bn,0,none⟩)] W fun e W'=>(∃v,e=.returned v) ∧
  ((∃ys,ys=nb m∧J ys W')∨(∃pre,pre <+: nb m∧Jx pre W')):=by
 refine callsIn_of_wp Tryz.func146 rfl hf ?_ a5;simp only[Tryz.ntmps146,List.size_toArray,aG,aI,Nat.reduceAdd,Nat.reduceSub,Array.replicate_succ,Array.replicate_zero,List.push_toArray,List.append_toArray,aX,aW]
 gi_wp2
 gi_loopw [3] (fun p wr=>∃(k:Nat) (pre:List UInt8),p=.int .i64 k∧k≤268435456∧pre++nb k=nb m∧J pre wr)
  (fun p wr=>(intOf p).toNat)
 case atStart=>
  exact⟨m,[],rfl,hm,rfl,h0⟩
 case round=>
  obtain⟨k,pre,rfl,hk,hp,a4⟩:=hrel;have a1:pre.length<(nb m).length:=by rw[←hp,aF];have:=aCd k;omega
  by_cases h1:128≤k
  ·have e1:decide ((128:Int)≤(k:Int))=true:=aC (by omega)
   have Y:=hid (aIz m k pre hp h1);have a6:Hid ((pre++[xQ (k % 128+128)]) <+: nb m):=hid ⟨nb (k / 128),Y.out⟩;obtain⟨fn,tmps,assign,body,hy,hR⟩:=hY pre (xQ (k % 128+128)) wr a4 a1;rw[sG _ (by omega),aMq]at hy;have HJ:Hid (∀W',J (pre++[xQ (k % 128+128)]) W'→∃(k':Nat) (a2:List UInt8),Value.int .i64 ((k / 128:Nat):Int)=.int .i64 k'∧k'≤268435456∧a2++nb k'=nb m∧J a2 W'):=hid (fun W' h=>⟨k / 128,_,rfl,by omega,Y.out,h⟩);clear hp a1
   gi_wp2
   refine hR.mono ?_;rintro e W3 (⟨rfl,a3,a7⟩ | ⟨rfl,a0⟩)
   ·gi_wp2
    go_roundw
    case rel=>exact HJ.out _ a3
    case measure=>simp[intOf];omega
   ·gi_wp2
    refine bodyPost_ret (results_none rfl _ _ _) rfl ?_;exact⟨⟨_,rfl⟩,.inr ⟨_,a6.out,a0⟩⟩
  ·have e1:decide ((128:Int)≤(k:Int))=false:=aB (by omega)
   have Y:Hid (pre++[xQ k] = nb m):=hid (by rw[←hp,iF k (by omega)]);obtain⟨fn,tmps,assign,body,hy,hR⟩:=hY pre (xQ k) wr a4 a1;rw[sG _ (by omega)]at hy;clear hp a1
   gi_wp2
   refine hR.mono ?_;rintro e W3 (⟨rfl,a3,a7⟩ | ⟨rfl,a0⟩)
   ·gi_wp2
    go_end0;exact⟨⟨_,rfl⟩,.inl ⟨_,Y.out,a3⟩⟩
   ·gi_wp2
    go_end0;exact⟨⟨_,rfl⟩,.inr ⟨_,⟨[],by rw[List.append_nil];exact Y.out⟩,a0⟩⟩
theorem xJ(F:Fence)(n:Nat)(hf:F.fn 146)(a1:F.round=none)(hn:1≤n)(Y m:Nat)(hm:m≤268435456)(w:World)(a0:Y<w.heap.size)(hc:w.cell? ⟨Y,0,none⟩=some (.int .i64 m)) :
 SeqStopsK F n Tryz.prog 146 #[.pointer (some ⟨Y,0,none⟩)] (fun x:UInt8=>#[Value.int .u8 (x.toNat:Int)]) (fun _ _=>True) (fun ys=>ys=nb m) (fun pre=>pre <+: nb m) (nb m).length w:=fun l J Jx W hW _ _ hY h0=>
 aEH F n hf a1 hn l Y m hm J Jx hY W ((hW.cell (p:=⟨Y,0,none⟩) a0).trans hc) h0
theorem aBv(F:Fence)(n:Nat)(hf:F.fn 85)(J:F.round=none)(m:Nat)(w:World) :
 CallsIn F n Tryz.prog 85 #[.int .i64 m] w fun e w'=>e=.returned (.func (.func 146) #[] #[.pointer (some ⟨w.heap.size,0,none⟩)])∧w'=w.alloc (.cells #[.int .i64 m] 3):=by
 refine callsIn_of_wp Tryz.func85 rfl hf ?_ J;simp only[Tryz.ntmps85,List.size_toArray,aG,aI,Nat.reduceAdd,Nat.reduceSub,Array.replicate_succ,Array.replicate_zero,List.push_toArray,List.append_toArray,aX,aW]
 gi_wp2
 go_ret;exact⟨rfl,rfl⟩
end vr
end Go.Proofs.YtdmmkjijgoiecaaGreatDoor
