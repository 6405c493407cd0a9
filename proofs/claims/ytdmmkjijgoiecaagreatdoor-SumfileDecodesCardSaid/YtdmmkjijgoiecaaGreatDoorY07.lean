import Derived.RangeFuncBound
import Derived.RangeFuncNested
import Derived.Test.YtdmmkjijgoiecaaGreatDoorY02
import Derived.Test.YtdmmkjijgoiecaaGreatDoorY06
set_option linter.all false
set_option maxHeartbeats 4000000
namespace Go.Proofs.YtdmmkjijgoiecaaGreatDoor
open Lib(hid)
set_option maxRecDepth 100000
namespace inn
open RowKit Shelf mem
attribute [local go_sem] Oper.semAt_some
def jG(l:List (List UInt8)):List (List UInt8):=jN (fun a b:List UInt8=>a<b) l
def Kq(n:Nat)(W J:World):Prop:=∀k,n≤k→∀cs t fr,W.heap[k]? = some (.cells cs t fr)→J.heap[k]? = some (.cells cs t fr)
theorem aM4{n:Nat}{A B C:World}(h:Kq n A B)(k:Kq n B C):Kq n A C:=fun i hi cs t fr J=>k i hi cs t fr (h i hi cs t fr J)
theorem aMZ{n:Nat}(W:World)(l:Nat)(o o':Obj)(h:W.heap[l]? = some o)(hc:o.isCells=false):Kq n W (W.putObj l o'):=fun k _ cs t fr Y=>by
 have J:k≠l:=by
  rintro rfl;rw[Y]at h;cases h;cases hc
 exact(World.putObj_heap_other J).trans Y
theorem CB.kq{α:Type}{enc:α→Value}{e:TypeId}{w w':World}{g cap n:Nat}{xs:List α}(h:CB enc e w g cap xs)(hk:Kq n w w')(hg:n≤g):CB enc e w' g cap xs:=by
 obtain⟨J,h1,Y,h3⟩:=h.ex;exact⟨⟨J,hk g hg _ _ _ h1,Y,h3⟩,h.le,h.max⟩
theorem grown_of{w w':World}(h:Below w.heap.size w w'):w.grownBy w' none:=⟨h.os,h.tape,h.output,h.size,fun k J _=>h.block k J⟩
theorem fI{W Y J:World}{g:Nat}(h:Below W.heap.size W Y)(hf:Fr [g] Y J)(hg:W.heap.size≤g):Below W.heap.size W J:=
 h.trans (hf.below (by simpa using hg) h.size)
theorem take_prefix{α:Type}(l:List α)(k:Nat):l.take k <+: l:=List.take_prefix k l
theorem aFR(n:Nat)(hn:2≤n)(l Bn n₀:Nat)(A:Option Addr)(c:Nat)(Y:List (List UInt8))(hz:0<Y.length)(a0:Y.length≤1000000)(Pw:List UInt8→Prop)(hP:∀x∈jG Y,Pw x)(J Jx:List (List UInt8)→World→Prop)
 (W:World) (ah:n₀≤W.heap.size)
 (hJ:AbidesFrom W.heap.size J)
 (hY:∀pre x W,Pw x→J pre W→pre.length<(jG Y).length→YieldAt Fence.wide (n-1) Tryz.prog l #[encStr x] W fun e W'=>
  (e=.returned (.bool true)∧J (pre++[x]) W'∧Kq n₀ W W')∨(e=.returned (.bool false)∧Jx (pre++[x]) W'))
 (ao:W.cell? ⟨Bn,0,none⟩=some (.slice A Y.length c)) (hA:Rd W A (Y.map encStr)) (h0:J [] W) :
 CallsIn Fence.wide n Tryz.prog 181 #[.func (.yield l) #[] #[],.pointer (some ⟨Bn,0,none⟩)] W fun e W'=>(∃v,e=.returned v) ∧
  ((∃ys,ys=jG Y∧J ys W')∨(∃pre,pre <+: jG Y∧Jx pre W')):=by
 have K1:=aJW W A c Y hA hz a0;refine callsIn_of_wp Tryz.func181 rfl trivial ?_ rfl;simp only[Tryz.ntmps181,List.size_toArray,aG,aI,Nat.reduceAdd,Nat.reduceSub,Array.replicate_succ,Array.replicate_zero,List.push_toArray,List.append_toArray,aX,aW]
 gi_wp2_with (refine⟨trivial,fun _=>(by omega),?_⟩;gi_at_call 182;refine(callsIn_wide.2 K1).mono ?_;rintro e w1 ⟨g,cap,rfl,hg,ae,ag⟩)
 have K2:=aLn w1 g cap Y ae a0;clear K1 hA ao
 gi_wp2_with (refine⟨trivial,fun _=>(by omega),?_⟩;gi_at_call 183;refine(callsIn_wide.2 K2).mono ?_;rintro e w2 ⟨rfl,a1,a9⟩)
 have K3:=aGN w2 g cap _ a1 (by simpa using a0);rw[aAz,List.length_mergeSort]at K3;clear K2
 gi_wp2_with (refine⟨trivial,fun _=>(by omega),?_⟩;gi_at_call 184;refine(callsIn_wide.2 K3).mono ?_;rintro e w3 ⟨rfl,a3,aa⟩)
 have a6:=fI (fI ag a9 hg) aa hg;have HJ:=hid (hJ [] W w3 none h0 (grown_of a6) (fun r e=>by cases e));have HC:Hid (CB encStr 9 w3 g cap (jG Y)):=hid a3;have hlen:(jG Y).length≤1000000:=by
  have:=Lib.compact_length_le (Y.mergeSort fun x y=>decide (x≤y));rw[aAz,List.length_mergeSort]at this;show(jN _ Y).length≤1000000;omega
 have ak:n₀≤g:=by omega
 change Hid _ at HJ;clear K3 ae a1 a3 a9 aa ag a6 h0 hJ hg;have ad:jN (fun a b:List UInt8=>a<b) Y=jG Y:=rfl;simp only[ad]at *;clear ad
 gi_loopw [13] (fun i wr=>∃k:Nat,k≤(jG Y).length∧i=.int .i64 k∧Hid (J ((jG Y).take k) wr)∧Hid (CB encStr 9 wr g cap (jG Y))) (fun i _=>(jG Y).length-(intOf i).toNat)
 case atStart=>exact⟨0,by omega,rfl,HJ,HC⟩
 case round=>
  obtain⟨k,hk,rfl,hj,hc⟩:=hrel;rename_i wr;by_cases a4:k<(jG Y).length
  ·have e1:decide ((k:Int)<((jG Y).length:Int))=true:=aC (by omega)
   have ck:=hc.out.cell encStr k a4;obtain⟨fn,tmps,assign,body,hy,hR⟩:=hY ((jG Y).take k) (jG Y)[k] wr (hP _ (aR a4)) hj.out (by rw[List.length_take];omega);rw[←bC a4]at hR;have a8:Hid ((jG Y).take (k+1) <+: (jG Y)):=hid (take_prefix (jG Y) (k+1));generalize (jG Y)[k] = y at *
   gi_wp2
   refine⟨fun _=>(by omega),hR.mono ?_⟩;rintro e W3 (⟨rfl,a7,af⟩ | ⟨rfl,a2⟩)
   ·have am:=hid a7
    have aj:=hid (hc.out.kq af ak);clear a7 af
    gi_wp2
    go_roundw
    case rel=>exact⟨k+1,by omega,by go_num,am,aj⟩
    case measure=>simp[intOf];omega
   ·have a5:=hid a2
    clear a2
    gi_wp2
    refine bodyPost_ret (results_none rfl _ _ _) rfl ?_;exact⟨⟨_,rfl⟩,.inr ⟨_,a8.out,a5.out⟩⟩
  ·obtain rfl:k=(jG Y).length:=by omega
   have e1:decide (((jG Y).length:Int)<((jG Y).length:Int))=false:=aB (by omega);have ai:Hid (J (jG Y) wr):=hid (by have:=hj.out;rwa[bF]at this);clear hj
   gi_wp2
   go_end0;exact⟨⟨_,rfl⟩,.inl ⟨_,rfl,ai.out⟩⟩
attribute [local go_sem] Oper.semAt_some
theorem aIp(w:World)(A:Option Addr)(c:Nat):Calls Tryz.prog 182 #[.slice A 0 c] w fun e w'=>∃B cap,e=.returned (.slice B 0 cap)∧Below w.heap.size w w':=by
 cases A with
 | none=>
  refine(Tryz.slices_Clone_string_nil 0 c w).mono ?_;rintro e w' ⟨rfl,rfl⟩;exact⟨none,0,rfl,Below.refl _ _⟩
 | some a=>
  refine(Tryz.slices_Clone_string_zero a c w).mono ?_;rintro e w' ⟨v,rfl,J,hv,hb⟩;obtain⟨_,h | ⟨g,cap,Y,rfl,_⟩⟩:=J
  ·exact absurd h.1 hv
  ·exact⟨some ⟨g,0,none⟩,cap,rfl,hb⟩
theorem aGB(n:Nat)(hn:2≤n)(l Bn:Nat)(A:Option Addr)(c:Nat)(J Jx:List (List UInt8)→World→Prop)
 (W:World) (hJ:AbidesFrom W.heap.size J)
 (a0:W.cell? ⟨Bn,0,none⟩=some (.slice A 0 c)) (h0:J [] W) :
 CallsIn Fence.wide n Tryz.prog 181 #[.func (.yield l) #[] #[],.pointer (some ⟨Bn,0,none⟩)] W fun e W'=>(∃v,e=.returned v) ∧
  ((∃ys,ys=jG []∧J ys W')∨(∃pre,pre <+: jG []∧Jx pre W')):=by
 have K1:=aIp W A c;refine callsIn_of_wp Tryz.func181 rfl trivial ?_ rfl;simp only[Tryz.ntmps181,List.size_toArray,aG,aI,Nat.reduceAdd,Nat.reduceSub,Array.replicate_succ,Array.replicate_zero,List.push_toArray,List.append_toArray,aX,aW]
 gi_wp2_with (refine⟨trivial,fun _=>(by omega),?_⟩;gi_at_call 182;refine(callsIn_wide.2 K1).mono ?_;rintro e w1 ⟨B,cap,rfl,Y⟩)
 have K2:=Tryz.slices_Sort_string_none B cap w1;clear K1 a0
 gi_wp2_with (refine⟨trivial,fun _=>(by omega),?_⟩;gi_at_call 183;refine(callsIn_wide.2 K2).mono ?_;rintro e w2 ⟨rfl,a1⟩)
 subst a1;have K3:=Tryz.slices_Compact_string_empty B cap w2;clear K2
 gi_wp2_with (refine⟨trivial,fun _=>(by omega),?_⟩;gi_at_call 184;refine(callsIn_wide.2 K3).mono ?_;rintro e w3 ⟨rfl,a2⟩)
 subst a2;have HJ:=hid (hJ [] W w3 none h0 (grown_of Y) (fun r e=>by cases e));clear K3 hJ h0 Y
 gi_loopw [13] (fun i wr=>i=.int .i64 0∧w3=wr) (fun _ _=>0)
 case atStart=>exact⟨rfl,rfl⟩
 case round=>
  obtain⟨rfl,rfl⟩:=hrel
  gi_wp2
  go_end0;exact⟨⟨_,rfl⟩,.inl ⟨_,rfl,HJ.out⟩⟩
theorem aAq(n:Nat)(hn:2≤n)(Bn:Nat)(A:Option Addr)(c:Nat)(Y:List (List UInt8))(a0:Y.length≤1000000)(w:World)(a2:Bn<w.heap.size)(hc:w.cell? ⟨Bn,0,none⟩=some (.slice A Y.length c))(hA:Rd w A (Y.map encStr)) :
 SeqStopsK Fence.wide n Tryz.prog 181 #[.pointer (some ⟨Bn,0,none⟩)] (fun x:List UInt8=>#[encStr x]) (Kq w.heap.size) (fun ys=>ys=jG Y) (fun pre=>pre <+: jG Y) (jG Y).length w:=fun l J Jx W hW hJ _ hY h0=>by
 have a1:=(hW.cell (p:=⟨Bn,0,none⟩) a2).trans hc;rcases Nat.eq_zero_or_pos Y.length with hz | hz
 ·obtain rfl:Y=[]:=List.eq_nil_of_length_eq_zero hz
  exact aGB n hn l Bn A c J Jx W hJ a1 h0
 ·exact aFR n hn l Bn w.heap.size A c Y hz a0 (fun _=>True) (fun _ _=>trivial) J Jx W hW.size hJ (fun pre x W _=>hY pre x W) a1 (hA.below hW) h0
theorem vK(J:List (List UInt8))(x:List UInt8):x∈jG J↔x∈J:=(gG mP J).2 x
theorem aCm(n:Nat)(A:Option Addr)(m c:Nat)(w:World) :
 CallsIn Fence.wide n Tryz.prog 123 #[.slice A m c] w fun e w'=>e=.returned (.func (.func 181) #[] #[.pointer (some ⟨w.heap.size,0,none⟩)])∧w'=w.alloc (.cells #[.slice A m c] 22):=by
 refine callsIn_of_wp Tryz.func123 rfl trivial ?_ rfl;simp only[Tryz.ntmps123,List.size_toArray,aG,aI,Nat.reduceAdd,Nat.reduceSub,Array.replicate_succ,Array.replicate_zero,List.push_toArray,List.append_toArray,aX,aW]
 gi_wp2
 go_ret;exact⟨rfl,rfl⟩
end inn
end Go.Proofs.YtdmmkjijgoiecaaGreatDoor
