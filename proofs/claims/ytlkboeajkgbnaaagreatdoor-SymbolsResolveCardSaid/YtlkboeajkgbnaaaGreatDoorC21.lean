import Derived.RangeFuncBound
import Derived.RangeFuncNested
import Derived.Test.YtlkboeajkgbnaaaGreatDoorC18
import Derived.Test.YtlkboeajkgbnaaaGreatDoorC20
set_option linter.all false
set_option maxHeartbeats 4000000
namespace Go.Proofs.YtlkboeajkgbnaaaGreatDoor
open Lib(hid)
set_option maxRecDepth 100000
namespace inn
open RowKit Shelf mem
attribute [local go_sem] Oper.semAt_some
def rsS(l:List (List UInt8)):List (List UInt8):=intoAll (fun a b:List UInt8=>a<b) l
def Kq(n:Nat)(W W':World):Prop:=∀k,n≤k→∀cs t fr,W.heap[k]? = some (.cells cs t fr)→W'.heap[k]? = some (.cells cs t fr)
theorem kq_t{n:Nat}{A B C:World}(h:Kq n A B)(k:Kq n B C):Kq n A C:=fun i hi cs t fr hh=>k i hi cs t fr (h i hi cs t fr hh)
theorem kq_b{n:Nat}(W:World)(l:Nat)(o o':Obj)(h:W.heap[l]? = some o)(hc:o.isCells=false):Kq n W (W.putObj l o'):=fun k _ cs t fr hh=>by
 have hne:k≠l:=by
  rintro rfl;rw[hh]at h;cases h;cases hc
 exact(World.putObj_heap_other hne).trans hh
theorem CB.kq{α:Type}{enc:α→Value}{e:TypeId}{w w':World}{g cap n:Nat}{xs:List α}(h:CB enc e w g cap xs)(hk:Kq n w w')(hg:n≤g):CB enc e w' g cap xs:=by
 obtain⟨cur,h1,h2,h3⟩:=h.ex;exact⟨⟨cur,hk g hg _ _ _ h1,h2,h3⟩,h.le,h.max⟩
theorem grown_of{w w':World}(h:Below w.heap.size w w'):w.grownBy w' none:=⟨h.os,h.tape,h.output,h.size,fun k hk _=>h.block k hk⟩
theorem below_fr{W w1 w2:World}{g:Nat}(h:Below W.heap.size W w1)(hf:Fr [g] w1 w2)(hg:W.heap.size≤g):Below W.heap.size W w2:=
 h.trans (hf.below (by simpa using hg) h.size)
theorem take_prefix{α:Type}(l:List α)(k:Nat):l.take k <+: l:=List.take_prefix k l
theorem rising1_s(n:Nat)(hn:2≤n)(l Bn n₀:Nat)(A:Option Addr)(c:Nat)(ss:List (List UInt8))(hz:0<ss.length)(hbig:ss.length≤1000000)(Pw:List UInt8→Prop)(hP:∀x∈rsS ss,Pw x)(J Jx:List (List UInt8)→World→Prop)
 (W:World) (hn₀:n₀≤W.heap.size)
 (hJ:AbidesFrom W.heap.size J)
 (hY:∀pre x W,Pw x→J pre W→pre.length<(rsS ss).length→YieldAt Fence.wide (n-1) Tryz.prog l #[encStr x] W fun e W'=>
  (e=.returned (.bool true)∧J (pre++[x]) W'∧Kq n₀ W W')∨(e=.returned (.bool false)∧Jx (pre++[x]) W'))
 (hBn:W.cell? ⟨Bn,0,none⟩=some (.slice A ss.length c)) (hA:Rd W A (ss.map encStr)) (h0:J [] W) :
 CallsIn Fence.wide n Tryz.prog 72 #[.func (.yield l) #[] #[],.pointer (some ⟨Bn,0,none⟩)] W fun e W'=>(∃v,e=.returned v) ∧
  ((∃ys,ys=rsS ss∧J ys W')∨(∃pre,pre <+: rsS ss∧Jx pre W')):=by
 have K1:=clone_s W A c ss hA hz hbig;refine callsIn_of_wp Tryz.func72 rfl trivial ?_ rfl;simp only[Tryz.ntmps72,List.size_toArray,List.length_cons,List.length_nil,Nat.reduceAdd,Nat.reduceSub,Array.replicate_succ,Array.replicate_zero,List.push_toArray,List.append_toArray,List.nil_append,List.cons_append]
 gi_wp2_with (refine⟨trivial,fun _=>(by omega),?_⟩;gi_at_call 73;refine(callsIn_wide.2 K1).mono ?_;rintro e w1 ⟨g,cap,rfl,hg,hcb,hb1⟩)
 have K2:=sort_s w1 g cap ss hcb hbig;clear K1 hA hBn
 gi_wp2_with (refine⟨trivial,fun _=>(by omega),?_⟩;gi_at_call 74;refine(callsIn_wide.2 K2).mono ?_;rintro e w2 ⟨rfl,hcb2,hf2⟩)
 have K3:=compact_s w2 g cap _ hcb2 (by simpa using hbig);rw[sorted_s,List.length_mergeSort]at K3;clear K2
 gi_wp2_with (refine⟨trivial,fun _=>(by omega),?_⟩;gi_at_call 75;refine(callsIn_wide.2 K3).mono ?_;rintro e w3 ⟨rfl,hcb3,hf3⟩)
 have hb3:=below_fr (below_fr hb1 hf2 hg) hf3 hg;have HJ:=hid (hJ [] W w3 none h0 (grown_of hb3) (fun r e=>by cases e));have HC:Hid (CB encStr 9 w3 g cap (rsS ss)):=hid hcb3;have hlen:(rsS ss).length≤1000000:=by
  have:=Lib.compact_length_le (ss.mergeSort fun x y=>decide (x≤y));rw[sorted_s,List.length_mergeSort]at this;show(intoAll _ ss).length≤1000000;omega
 have hgn:n₀≤g:=by omega
 change Hid _ at HJ;clear K3 hcb hcb2 hcb3 hf2 hf3 hb1 hb3 h0 hJ hg;have hrs:intoAll (fun a b:List UInt8=>a<b) ss=rsS ss:=rfl;simp only[hrs]at *;clear hrs
 gi_loopw [13] (fun i wr=>∃k:Nat,k≤(rsS ss).length∧i=.int .i64 k∧Hid (J ((rsS ss).take k) wr)∧Hid (CB encStr 9 wr g cap (rsS ss))) (fun i _=>(rsS ss).length-(intOf i).toNat)
 case atStart=>exact⟨0,by omega,rfl,HJ,HC⟩
 case round=>
  obtain⟨k,hk,rfl,hj,hc⟩:=hrel;rename_i wr;by_cases hkl:k<(rsS ss).length
  ·have e1:decide ((k:Int)<((rsS ss).length:Int))=true:=decide_eq_true (by omega)
   have ck:=hc.out.cell encStr k hkl;obtain⟨fn,tmps,assign,body,hy,hR⟩:=hY ((rsS ss).take k) (rsS ss)[k] wr (hP _ (List.getElem_mem hkl)) hj.out (by rw[List.length_take];omega);rw[←List.take_succ_eq_append_getElem hkl]at hR;have hpre:Hid ((rsS ss).take (k+1) <+: (rsS ss)):=hid (take_prefix (rsS ss) (k+1));generalize (rsS ss)[k] = y at *
   gi_wp2
   refine⟨fun _=>(by omega),hR.mono ?_⟩;rintro e W3 (⟨rfl,hJ3,hk3⟩ | ⟨rfl,hJx3⟩)
   ·have HJ3:=hid hJ3
    have HC3:=hid (hc.out.kq hk3 hgn);clear hJ3 hk3
    gi_wp2
    go_roundw
    case rel=>exact⟨k+1,by omega,by go_num,HJ3,HC3⟩
    case measure=>simp[intOf];omega
   ·have HJx3:=hid hJx3
    clear hJx3
    gi_wp2
    refine bodyPost_ret (results_none rfl _ _ _) rfl ?_;exact⟨⟨_,rfl⟩,.inr ⟨_,hpre.out,HJx3.out⟩⟩
  ·obtain rfl:k=(rsS ss).length:=by omega
   have e1:decide (((rsS ss).length:Int)<((rsS ss).length:Int))=false:=decide_eq_false (by omega);have hj2:Hid (J (rsS ss) wr):=hid (by have:=hj.out;rwa[List.take_length]at this);clear hj
   gi_wp2
   go_end0;exact⟨⟨_,rfl⟩,.inl ⟨_,rfl,hj2.out⟩⟩
end inn
namespace inn
open RowKit Shelf mem
attribute [local go_sem] Oper.semAt_some
theorem clone0_s(w:World)(A:Option Addr)(c:Nat):Calls Tryz.prog 73 #[.slice A 0 c] w fun e w'=>∃B cap,e=.returned (.slice B 0 cap)∧Below w.heap.size w w':=by
 cases A with
 | none=>
  refine(Tryz.slices_Clone_string_nil 0 c w).mono ?_;rintro e w' ⟨rfl,rfl⟩;exact⟨none,0,rfl,Below.refl _ _⟩
 | some a=>
  refine(Tryz.slices_Clone_string_zero a c w).mono ?_;rintro e w' ⟨v,rfl,ho,hv,hb⟩;obtain⟨_,h | ⟨g,cap,cur,rfl,_⟩⟩:=ho
  ·exact absurd h.1 hv
  ·exact⟨some ⟨g,0,none⟩,cap,rfl,hb⟩
theorem rising0_s(n:Nat)(hn:2≤n)(l Bn:Nat)(A:Option Addr)(c:Nat)(J Jx:List (List UInt8)→World→Prop)
 (W:World) (hJ:AbidesFrom W.heap.size J)
 (hBn:W.cell? ⟨Bn,0,none⟩=some (.slice A 0 c)) (h0:J [] W) :
 CallsIn Fence.wide n Tryz.prog 72 #[.func (.yield l) #[] #[],.pointer (some ⟨Bn,0,none⟩)] W fun e W'=>(∃v,e=.returned v) ∧
  ((∃ys,ys=rsS []∧J ys W')∨(∃pre,pre <+: rsS []∧Jx pre W')):=by
 have K1:=clone0_s W A c;refine callsIn_of_wp Tryz.func72 rfl trivial ?_ rfl;simp only[Tryz.ntmps72,List.size_toArray,List.length_cons,List.length_nil,Nat.reduceAdd,Nat.reduceSub,Array.replicate_succ,Array.replicate_zero,List.push_toArray,List.append_toArray,List.nil_append,List.cons_append]
 gi_wp2_with (refine⟨trivial,fun _=>(by omega),?_⟩;gi_at_call 73;refine(callsIn_wide.2 K1).mono ?_;rintro e w1 ⟨B,cap,rfl,hb1⟩)
 have K2:=Tryz.slices_Sort_string_none B cap w1;clear K1 hBn
 gi_wp2_with (refine⟨trivial,fun _=>(by omega),?_⟩;gi_at_call 74;refine(callsIn_wide.2 K2).mono ?_;rintro e w2 ⟨rfl,hw2⟩)
 subst hw2;have K3:=Tryz.slices_Compact_string_empty B cap w2;clear K2
 gi_wp2_with (refine⟨trivial,fun _=>(by omega),?_⟩;gi_at_call 75;refine(callsIn_wide.2 K3).mono ?_;rintro e w3 ⟨rfl,hw3⟩)
 subst hw3;have HJ:=hid (hJ [] W w3 none h0 (grown_of hb1) (fun r e=>by cases e));clear K3 hJ h0 hb1
 gi_loopw [13] (fun i wr=>i=.int .i64 0∧w3=wr) (fun _ _=>0)
 case atStart=>exact⟨rfl,rfl⟩
 case round=>
  obtain⟨rfl,rfl⟩:=hrel
  gi_wp2
  go_end0;exact⟨⟨_,rfl⟩,.inl ⟨_,rfl,HJ.out⟩⟩
theorem rising_stops_s(n:Nat)(hn:2≤n)(Bn:Nat)(A:Option Addr)(c:Nat)(ss:List (List UInt8))(hbig:ss.length≤1000000)(w:World)(hBn:Bn<w.heap.size)(hc:w.cell? ⟨Bn,0,none⟩=some (.slice A ss.length c))(hA:Rd w A (ss.map encStr)) :
 SeqStopsK Fence.wide n Tryz.prog 72 #[.pointer (some ⟨Bn,0,none⟩)] (fun x:List UInt8=>#[encStr x]) (Kq w.heap.size) (fun ys=>ys=rsS ss) (fun pre=>pre <+: rsS ss) (rsS ss).length w:=fun l J Jx W hW hJ _ hY h0=>by
 have hcW:=(hW.cell (p:=⟨Bn,0,none⟩) hBn).trans hc;rcases Nat.eq_zero_or_pos ss.length with hz | hz
 ·obtain rfl:ss=[]:=List.eq_nil_of_length_eq_zero hz
  exact rising0_s n hn l Bn A c J Jx W hJ hcW h0
 ·exact rising1_s n hn l Bn w.heap.size A c ss hz hbig (fun _=>True) (fun _ _=>trivial) J Jx W hW.size hJ (fun pre x W _=>hY pre x W) hcW (hA.below hW) h0
theorem mem_rsS(ss:List (List UInt8))(x:List UInt8):x∈rsS ss↔x∈ss:=(intoAll_spec ordS ss).2 x
theorem rising_in_s(n:Nat)(A:Option Addr)(m c:Nat)(w:World) :
 CallsIn Fence.wide n Tryz.prog 42 #[.slice A m c] w fun e w'=>e=.returned (.func (.func 72) #[] #[.pointer (some ⟨w.heap.size,0,none⟩)])∧w'=w.alloc (.cells #[.slice A m c] 31):=by
 refine callsIn_of_wp Tryz.func42 rfl trivial ?_ rfl;simp only[Tryz.ntmps42,List.size_toArray,List.length_cons,List.length_nil,Nat.reduceAdd,Nat.reduceSub,Array.replicate_succ,Array.replicate_zero,List.push_toArray,List.append_toArray,List.nil_append,List.cons_append]
 gi_wp2
 go_ret;exact⟨rfl,rfl⟩
end inn
end Go.Proofs.YtlkboeajkgbnaaaGreatDoor
