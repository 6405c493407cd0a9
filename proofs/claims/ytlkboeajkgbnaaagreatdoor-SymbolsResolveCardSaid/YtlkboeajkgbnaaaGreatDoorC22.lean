import Derived.Deep.OwnRows
import Derived.Deep.RegionHeld3
import Derived.Test.YtlkboeajkgbnaaaGreatDoorC21
set_option linter.all false
set_option maxHeartbeats 4000000
namespace Go.Proofs.YtlkboeajkgbnaaaGreatDoor
namespace inn
open RowKit Shelf mem
attribute [local go_sem] Oper.semAt_some
theorem box_grown{W W':World}{row:Option Nat}{g:Nat}{t:TypeId}{cs:Array Value}(h:Box W g t cs)(hg:W.grownBy W' row)(hr:∀r,row=some r→∃o:Obj,W.heap[r]? = some o∧o.isCells=false):Box W' g t cs:=by
 refine(hg.block g h.lt (fun e=>?_)).trans h;obtain⟨o,ho,hc⟩:=hr g e.symm;unfold Box at h;rw[h]at ho;cases ho;cases hc
theorem CB.grown{α:Type}{enc:α→Value}{e:TypeId}{W W':World}{row:Option Nat}{g cap:Nat}{xs:List α}(h:CB enc e W g cap xs)(hg:W.grownBy W' row)(hr:∀r,row=some r→∃o:Obj,W.heap[r]? = some o∧o.isCells=false):CB enc e W' g cap xs:=by
 obtain⟨cur,h1,h2,h3⟩:=h.ex;refine h.kept _ (hg.block g (Array.getElem?_eq_some_iff.1 h1).1 (fun e=>?_));obtain⟨o,ho,hc⟩:=hr g e.symm;rw[h1]at ho;cases ho;cases hc
theorem keeps_fr{W W':World}{L:List Nat}(h:Fr L W W')(hc:∀g∈L,∃o:Obj,W.heap[g]? = some o∧o.isCells=true):KeepsOthers W W':=
 ⟨h.size,fun k o hk ho=>by
  have hlt:k<W.heap.size:=(Array.getElem?_eq_some_iff.1 hk).1;refine(h.block k hlt (fun hm=>?_)).trans hk;obtain⟨o',h1,h2⟩:=hc k hm;rw[hk]at h1;cases h1;rw[ho]at h2
  cases h2⟩
theorem kq_fr{n:Nat}{W W':World}{L:List Nat}(h:Fr L W W')(hL:∀g∈L,g<n):Kq n W W':=fun k hk cs t fr hh=>
 (h.block k (Array.getElem?_eq_some_iff.1 hh).1 (fun hm=>by have:=hL k hm;omega)).trans hh
theorem push_room{P:Program}{α:Type}{enc:α→Value}{w:World}{e t ty:TypeId}{g cap:Nat}{xs:List α}{x:α}{i:TypeInfo}(h:CB enc e w g cap xs)(hroom:xs.length+1≤cap)(ht:P.underlying t=some (.slice e))(hi:P.info? e=some i)(hs:i.size=1)
 {ad:Addr} (hu:w.cell? ad=some (enc x)) (h1:(enc x).oneCell'=true) :
 ∃w',(Builtin.append_ #[t,t] ty #[.slice (some ⟨g,0,none⟩) xs.length cap,.slice (some ad) 1 1]).run P w=.ok (.slice (some ⟨g,0,none⟩) (xs.length+1) cap) w'∧CB enc e w' g cap (xs++[x])∧Fr [g] w w':=by
 have hsrc:Src P i.size t (.slice (some ad) 1 1) 1 [enc x] w:=Src.ofSlice w ht ad 1 1 [enc x] (by rw[hs];rfl) (fun j v hv=>by
  cases j with
  | zero=>simp at hv;subst hv;simpa[Addr.add] using hu
  | succ j=>simp at hv) (fun v hv=>by rw[List.mem_singleton]at hv;subst hv;exact h1)
 obtain⟨cur,hc,hsz,htk⟩:=h.ex
 have hr:=run_append_room_src (P:=P) w t t ty e i ht hi g 0 xs.length cap _ 1 [enc x] hsrc hroom (fun j hj=>by
  have:j=0:=by simpa using hj
  subst this
  rw[hs,Nat.mul_one,Nat.add_zero,Nat.zero_add,cell_of_row w g _ cur e (0,0) hc,Array.getElem?_eq_getElem (by omega)];rfl) (fun j hj=>by simp[World.frozen?,hc])
 rw[hs,Nat.mul_one,Nat.zero_add]at hr;obtain⟨cur',k1,k2,k3,k4⟩:=setCells_row g e [enc x] xs.length w cur hc (by simp;omega);refine⟨_,hr,⟨⟨cur',k1,by rw[k2];exact hsz,?_⟩,by simp;exact hroom,h.max⟩,setCells_fr g [enc x] _ w⟩
 apply List.ext_getElem?
 intro j;rw[List.length_append,List.length_singleton];by_cases hj:j<xs.length+1
 ·rw[List.getElem?_take_of_lt hj,Array.getElem?_toList,List.map_append]
  rcases Nat.lt_or_ge j xs.length with hj2 | hj2
  ·rw[k4 j (Or.inl hj2),List.getElem?_append_left (by simpa using hj2),←htk,List.getElem?_take_of_lt hj2,Array.getElem?_toList]
  ·have:j=xs.length:=by omega
   subst this;rw[List.getElem?_append_right (by simp)];have:=k3 0 (enc x) (by simp)
   simpa using this
 ·rw[List.getElem?_take_eq_none (by omega),List.getElem?_eq_none (by simp;omega)]
theorem wpListIn_room{F:Fence}{n:Nat}{P:Program}{α:Type}{enc:α→Value}{w:World}{ops:Array Oper}{rest:List Oper}{o:Oper}{a:Act}{Q:Exit→Act→World→Prop}(hgd:o.guard=none)(s y:Operand)(t:TypeId)
 (ho:o.op=.call { callee:=.builtin .append,args:=#[s,y],argTypes:=#[t,t] }) {e:TypeId} {g cap m:Nat} {xs:List α} {x:α} {i:TypeInfo} (h:CB enc e w g cap xs) (hm:m=xs.length) (hroom:xs.length+1≤cap) (ht:P.underlying t=some (.slice e)) (hi:P.info? e=some i) (hs:i.size=1)
 {ad:Addr} (hes:a.eval s=.slice (some ⟨g,0,none⟩) m cap) (hex:a.eval y=.slice (some ad) 1 1) (hu:w.cell? ad=some (enc x)) (h1:(enc x).oneCell'=true)
 (hK:∀w',CB enc e w' g cap (xs++[x])→Fr [g] w w'→wpListIn F n P ops Q rest (a.put o.dst (.slice (some ⟨g,0,none⟩) (m+1) cap)) w'):wpListIn F n P ops Q (o :: rest) a w:=by
 subst hm;refine wpListIn_plain hgd fun K hK'=>?_
 obtain⟨w',hr,h2,h3⟩:=push_room (ty:=o.type) h hroom ht hi hs hu h1;unfold Oper.wpIn;refine⟨?_,?_⟩
 ·simp[Oper.about,ho,resolve,Target.leads,Sem.run_pure]
 ·rw[Oper.semAt_plain F _ _ (by rw[ho];intro c hc';cases hc')]
  simp[execOp,ho,resolve,invoke,builtin,hes,hex,hr,Result.andThen];exact hK' _ _ (hK w' h2 h3)
theorem info_str:(Tryz.prog.info? 9).map (fun i=>(i.zero,i.size,i.bytes))=some (some (.string ByteArray.empty),1,16):=by kernel_rfl
theorem make_s(W:World)(n:Nat)(hn:n≤1000000):(Instr.makeSlice 31 (.int .i64 0) (.int .i64 (n:Int))).run Tryz.prog W=.ok (.slice (some ⟨W.heap.size,0,none⟩) 0 n) (W.alloc (.cells (madeCells #[.string ByteArray.empty] n) 9)):=by
 obtain⟨i0,hi,hz,hs,hb⟩:=info_parts info_str;have:=run_make (P:=Tryz.prog) W 31 9 i0 (.string ByteArray.empty) Tryz.underlying31 hi hz .i64 .i64 0 n (by omega) (by omega) (by rw[hb];omega) (by omega);rw[hs,Nat.mul_one,Int.toNat_natCast]at this;exact this
structure SI(w W:World)(n k:Nat)(pre:List (List UInt8)):Prop where
 cb:CB encStr 9 W w.heap.size n pre
 bx:Box W (w.heap.size+1) 31 #[.slice (some ⟨w.heap.size,0,none⟩) k n]
 len:k=pre.length
 on:Below w.heap.size w W
theorem SI.grown{w W W':World}{n k:Nat}{pre:List (List UInt8)}{row:Option Nat}(h:SI w W n k pre)(hg:W.grownBy W' row)(hr:∀r,row=some r→w.heap.size≤r∧∃o:Obj,W.heap[r]? = some o∧o.isCells=false):SI w W' n k pre:=
 ⟨h.cb.grown hg (fun r e=>(hr r e).2),box_grown h.bx hg (fun r e=>(hr r e).2),h.len,h.on.grown hg h.on.size (fun k e=>(hr k e).1)⟩
end inn
open Lib(hid)
set_option maxRecDepth 100000
namespace inn
open RowKit Shelf mem
attribute [local go_sem] Oper.semAt_some
theorem rs_len(ss:List (List UInt8)):(rsS ss).length≤ss.length:=by
 have:=Lib.compact_length_le (ss.mergeSort fun x y=>decide (x≤y));rw[sorted_s,List.length_mergeSort]at this;exact this
def SPost(w:World)(ss:List (List UInt8))(e:Ending)(w':World):Prop:=∃A cap,e=.returned (.slice A (rsS ss).length cap)∧Below w.heap.size w w'∧Rd w' A ((rsS ss).map encStr)
theorem CB.rd{α:Type}[Inhabited α]{enc:α→Value}{e:TypeId}{w:World}{g cap:Nat}{xs:List α}(h:CB enc e w g cap xs):Rd w (some ⟨g,0,none⟩) (xs.map enc):=fun _=>by
 refine⟨g,0,rfl,h.lt,fun j hj=>?_⟩;rw[Nat.zero_add,h.cell enc j (by simpa using hj)];simp
theorem body_end{w W w4:World}{n n₀:Nat}{pre:List (List UInt8)}{x:List UInt8}(hi:SI w W n pre.length pre)(hF:Fr [w.heap.size] W w4)(hcb:CB encStr 9 w4 w.heap.size n (pre++[x]))(hbx:Box w4 (w.heap.size+1) 31 #[.slice (some ⟨w.heap.size,0,none⟩) pre.length n])(h0:w.heap.size+2≤n₀) :
 KeepsOthers W (w4.setCell ⟨w.heap.size+1,0,none⟩ (.slice (some ⟨w.heap.size,0,none⟩) (pre.length+1) n))∧Kq n₀ W (w4.setCell ⟨w.heap.size+1,0,none⟩ (.slice (some ⟨w.heap.size,0,none⟩) (pre.length+1) n))∧SI w (w4.setCell ⟨w.heap.size+1,0,none⟩ (.slice (some ⟨w.heap.size,0,none⟩) (pre.length+1) n)) n (pre++[x]).length (pre++[x]):=by
 have hset:Fr [w.heap.size+1] w4 (w4.setCell ⟨w.heap.size+1,0,none⟩ (.slice (some ⟨w.heap.size,0,none⟩) (pre.length+1) n)):=(Fr.refl _ w4).setCell (Or.inl (by simp)) _;have hall:Fr [w.heap.size,w.heap.size+1] W (w4.setCell ⟨w.heap.size+1,0,none⟩ (.slice (some ⟨w.heap.size,0,none⟩) (pre.length+1) n)):=hF.trans hset (by simp) (by simp);refine⟨(keeps_fr hF (fun g hg=>?_)).trans (KeepsOthers.setCell _ _ _),kq_fr hall (by simp;omega),?_,?_,rfl,?_⟩
 ·rw[List.mem_singleton]at hg
  subst hg;obtain⟨cur,h1,_⟩:=hi.cb.ex;exact⟨_,h1,rfl⟩
 ·exact hcb.kept _ (hset.block _ hcb.lt (by simp))
 ·have:=hbx.put 0 (.slice (some ⟨w.heap.size,0,none⟩) (pre.length+1) n)
  rw[List.length_append,List.length_singleton];exact this
 ·exact hi.on.trans (hall.below (by simp) hi.on.size)
theorem sorted_any(w:World)(A:Option Addr)(c:Nat)(ss:List (List UInt8))(hA:Rd w A (ss.map encStr))(hbig:ss.length≤1000000) :
 Calls Tryz.prog 45 #[.slice A ss.length c] w (SPost w ss):=by
 have hmk:=fun W=>make_s W ss.length hbig
 have hrs:=rs_len ss;refine(callsIn_wide (n:=8)).1 ?_;refine callsIn_of_wp_marks Tryz.func45 rfl trivial ?_ rfl;simp only[Tryz.ntmps45,List.size_toArray,List.length_cons,List.length_nil,Nat.reduceAdd,Nat.reduceSub,Array.replicate_succ,Array.replicate_zero,List.push_toArray,List.append_toArray,List.nil_append,List.cons_append]
 gi_wp2_with (refine⟨trivial,?_⟩;gi_at_call 42;refine(rising_in_s _ A ss.length c _).mono ?_;rintro e w' ⟨rfl,rfl⟩)
 obtain⟨W0,hW0⟩:∃W0,Hid (W0=((w.alloc (.cells (madeCells #[.string ByteArray.empty] ss.length) 9)).alloc (.cells #[.slice (some ⟨w.heap.size,0,none⟩) 0 ss.length] 31)).alloc (.cells #[.slice A ss.length c] 31)):=⟨_,hid rfl⟩;have hsz:W0.heap.size=w.heap.size+3:=by rw[hW0.out];simp
 have hSI:SI w W0 ss.length 0 []:=by
  rw[hW0.out];refine⟨⟨⟨madeCells #[.string ByteArray.empty] ss.length,?_,size_madeCells _ _,by simp⟩,by simp,by unfold maxLen;omega⟩,?_,rfl,(((Below.refl _ _).alloc (Nat.le_refl _) _).alloc (by simp) _).alloc (by simp;omega) _⟩
  ·rw[Below.heap_alloc _ _ _ (by simp;omega),Below.heap_alloc _ _ _ (by simp)]
   exact heap_alloc_new w _
  ·have:=Box.new (w.alloc (.cells (madeCells #[.string ByteArray.empty] ss.length) 9)) 31 #[.slice (some ⟨w.heap.size,0,none⟩) 0 ss.length]
   rw[World.size_alloc]at this;exact this.kept ((Fr.refl [] _).alloc _) (by simp)
 have hbx:W0.cell? ⟨w.heap.size+1+1,0,none⟩=some (.slice A ss.length c):=by
  rw[hW0.out];have:=new_cell ((w.alloc (.cells (madeCells #[.string ByteArray.empty] ss.length) 9)).alloc (.cells #[.slice (some ⟨w.heap.size,0,none⟩) 0 ss.length] 31)) (.slice A ss.length c) 31
  rwa[World.size_alloc,World.size_alloc]at this
 have hA0:Rd W0 A (ss.map encStr):=hA.below hSI.on;rw[←hW0.out];clear hmk hA hW0;refine wpIn_rangeFunc_ownF (F:=Fence.wide) rfl (by omega) (gf:=72) (lb:=#[.pointer (some ⟨w.heap.size+1+1,0,none⟩)]) rfl trivial (enters_of Tryz.func72 (by kernel_rfl) rfl)
  (rising_stops_s _ (by omega) (w.heap.size+1+1) A c ss hbig W0 (by omega) hbx hA0) (fun h k=>kq_t h k) (fun W l o o' _ h1 h2 _=>kq_b W l o o' h1 h2) (Below.refl _ _) (fun _=>rfl)
  (fun pre W=>SI w W ss.length pre.length pre)
  (fun _ _ _=>False)
  (fun s W W' row hs hg hr=>hs.grown hg (fun r e=>⟨by have:=(hr r e).1;omega,(hr r e).2⟩))
  (fun _ _ _ _ _ hs _ _=>hs)
  hSI
  (fun x=>{ tmps:=#[.slice A ss.length c,undef,.slice none 0 0,.pointer (some ⟨w.heap.size+1,0,none⟩),encStr x,.slice A ss.length c,.int .i64 ss.length,.slice (some ⟨w.heap.size,0,none⟩) 0 ss.length,.slice A ss.length c,.func (.func 72) #[] #[.pointer (some ⟨w.heap.size+1+1,0,none⟩)],encStr x,undef,undef,undef,undef,undef],defers:=[] }) ?assign ?body ?done ?stop
 case assign=>
  intro l x W K hK
  gi_wp2
  exact hK
 case body=>
  rintro l pre x W hi hlt;have hsw:=hi.on.size;have hrl:=hi.cb.lt;have hbl:=hi.bx.lt;have hcb:CB encStr 9 (W.alloc (.cells #[encStr x] 9)) w.heap.size ss.length pre:=hi.cb.kept _ (Below.heap_alloc _ _ _ hrl);have cb:W.cell? ⟨w.heap.size+1,0,none⟩=some (.slice (some ⟨w.heap.size,0,none⟩) pre.length ss.length):=hi.bx.cell 0;obtain⟨i0,hi0,hz0,hs0,hb0⟩:=info_parts info_str;have HI:=hid hi;clear hi hSI hbx hA0
  gi_wp2_with (gi_at_builtin
               refine wpListIn_room rfl (.tmp 11) (.tmp 13) _ rfl hcb rfl (by omega) Tryz.underlying31 hi0 hs0 rfl rfl (new_cell _ _ _) rfl ?_;intro w4 hcb4 hf4;have hF:Fr [w.heap.size] W w4:=((Fr.refl _ W).alloc _).trans hf4 (fun g hg=>Or.inl hg) (fun g hg=>Or.inl hg);have hbx4:=HI.out.bx.kept hF (by simp);have cb4:w4.cell? ⟨w.heap.size+1,0,none⟩=some (.slice (some ⟨w.heap.size,0,none⟩) pre.length ss.length):=hbx4.cell 0
               have fb4:=hbx4.free 0)
  exact body_end HI.out hF hcb4 hbx4 (by omega)
 case done=>
  rintro D ys W hD rfl hi hK;have cb:W.cell? ⟨w.heap.size+1,0,none⟩=some (.slice (some ⟨w.heap.size,0,none⟩) (rsS ss).length ss.length):=hi.bx.cell 0
  gi_wp2
  refine⟨by simp,.inl ⟨_,_,rfl,run_takeDeferred hK,?_⟩⟩;have hw:=hi.grown (grownBy_putObj' W D (.deferred none)) (fun r e=>by cases e;exact⟨by omega,_,hK,rfl⟩);exact⟨_,results_tmp rfl _ _ _,some ⟨w.heap.size,0,none⟩,ss.length,rfl,hw.on,hw.cb.rd⟩
 case stop=>
  rintro D c pre W hD _ h _;exact h.elim
end inn
namespace inn
open RowKit Shelf mem
theorem rd_str{w:World}{A:Option Addr}{l:List (List UInt8)}(h:Rd w A (l.map encStr))(hz:0<l.length):∃g o,A=some ⟨g,o,none⟩∧g<w.heap.size∧∀j (hj:j<l.length),w.cell? ⟨g,o+j,none⟩=some (encStr l[j]):=by
 obtain⟨g,o,rfl,hl,hc⟩:=h (by simpa using hz);exact⟨g,o,rfl,hl,fun j hj=>by rw[hc j (by simpa using hj)];simp⟩
theorem same_nil(w:World)(A B:Option Addr)(c d:Nat):Calls Tryz.prog 8 #[.slice A 0 c,.slice B 0 d] w fun e w'=>e=.returned (.bool true)∧Below w.heap.size w w':=by
 go_enter Tryz.func8,Tryz.ntmps8;go_wp2_with fail;go_loopw [5] (fun i wr=>i=.int .i64 0∧w=wr) (fun _ _=>0)
 case atStart=>exact⟨rfl,rfl⟩
 case round=>
  obtain⟨rfl,rfl⟩:=hrel;go_wp2_with fail;go_ret;exact⟨rfl,Below.refl _ _⟩
theorem same_any(w:World)(A B:Option Addr)(c d:Nat)(l:List (List UInt8))(hA:Rd w A (l.map encStr))(hB:Rd w B (l.map encStr))(hll:l.length≤100000) :
 Calls Tryz.prog 8 #[.slice A l.length c,.slice B l.length d] w fun e w'=>e=.returned (.bool true)∧Below w.heap.size w w':=by
 rcases Nat.eq_zero_or_pos l.length with hz | hz
 ·rw[hz];exact same_nil w A B c d
 obtain⟨g1,o1,rfl,hl1,h1⟩:=rd_str hA hz;obtain⟨g2,o2,rfl,hl2,h2⟩:=rd_str hB hz;have H1:=hid h1;have H2:=hid h2;have L1:=hid hl1;have L2:=hid hl2;clear h1 h2 hA hB hl1 hl2;have d0:(((l.length:Nat):Int) != (l.length:Int))=false:=by simp
 go_enter Tryz.func8,Tryz.ntmps8;go_wp2_with fail;go_loopw [5] (fun i wr=>∃k:Nat,k≤l.length∧i=.int .i64 k∧Hid (Below w.heap.size w wr)) (fun i _=>l.length-(intOf i).toNat)
 case atStart=>exact⟨0,by omega,rfl,hid (Below.refl _ _)⟩
 case round=>
  obtain⟨k,hk,rfl,hb⟩:=hrel;rename_i wr _;by_cases hkl:k<l.length
  ·have e1:decide ((k:Int)<(l.length:Int))=true:=decide_eq_true (by omega)
   have ck:wr.cell? ⟨g1,o1+k,none⟩=some (encStr l[k]):=(hb.out.cell (p:=⟨g1,o1+k,none⟩) L1.out).trans (H1.out k hkl);have cm:wr.cell? ⟨g2,o2+k,none⟩=some (encStr l[k]):=(hb.out.cell (p:=⟨g2,o2+k,none⟩) L2.out).trans (H2.out k hkl);unfold encStr at ck cm;generalize (ByteArray.mk l[k].toArray)=z at *;have e2:(z.data != z.data)=false:=by simp
   have hb2:=hid hb.out.drew;clear hb;go_wp2_with fail;go_region;go_wp2_with fail;go_roundw
   case rel=>exact⟨k+1,by omega,by go_num,hb2⟩
   case measure=>simp[intOf];omega
  ·obtain rfl:k=l.length:=by omega
   have e1:decide ((l.length:Int)<(l.length:Int))=false:=decide_eq_false (by omega);go_wp2_with fail;go_ret;exact⟨rfl,hb.out⟩
attribute [local go_sem] Oper.semAt_some
def SPostF(w:World)(ss:List (List UInt8))(e:Ending)(w':World):Prop:=∃A cap,e=.returned (.slice A (rsS ss).length cap)∧Below w.heap.size w w'∧Rd w' A ((rsS ss).map encStr)∧∀g∈blk A,w.heap.size≤g∧g<w'.heap.size
theorem sorted_fresh(w:World)(A:Option Addr)(c:Nat)(ss:List (List UInt8))(hA:Rd w A (ss.map encStr))(hbig:ss.length≤1000000) :
 Calls Tryz.prog 45 #[.slice A ss.length c] w (SPostF w ss):=by
 have hmk:=fun W=>make_s W ss.length hbig
 have hrs:=rs_len ss;refine(callsIn_wide (n:=8)).1 ?_;refine callsIn_of_wp_marks Tryz.func45 rfl trivial ?_ rfl;simp only[Tryz.ntmps45,List.size_toArray,List.length_cons,List.length_nil,Nat.reduceAdd,Nat.reduceSub,Array.replicate_succ,Array.replicate_zero,List.push_toArray,List.append_toArray,List.nil_append,List.cons_append]
 gi_wp2_with (refine⟨trivial,?_⟩;gi_at_call 42;refine(rising_in_s _ A ss.length c _).mono ?_;rintro e w' ⟨rfl,rfl⟩)
 obtain⟨W0,hW0⟩:∃W0,Hid (W0=((w.alloc (.cells (madeCells #[.string ByteArray.empty] ss.length) 9)).alloc (.cells #[.slice (some ⟨w.heap.size,0,none⟩) 0 ss.length] 31)).alloc (.cells #[.slice A ss.length c] 31)):=⟨_,hid rfl⟩;have hsz:W0.heap.size=w.heap.size+3:=by rw[hW0.out];simp
 have hSI:SI w W0 ss.length 0 []:=by
  rw[hW0.out];refine⟨⟨⟨madeCells #[.string ByteArray.empty] ss.length,?_,size_madeCells _ _,by simp⟩,by simp,by unfold maxLen;omega⟩,?_,rfl,(((Below.refl _ _).alloc (Nat.le_refl _) _).alloc (by simp) _).alloc (by simp;omega) _⟩
  ·rw[Below.heap_alloc _ _ _ (by simp;omega),Below.heap_alloc _ _ _ (by simp)]
   exact heap_alloc_new w _
  ·have:=Box.new (w.alloc (.cells (madeCells #[.string ByteArray.empty] ss.length) 9)) 31 #[.slice (some ⟨w.heap.size,0,none⟩) 0 ss.length]
   rw[World.size_alloc]at this;exact this.kept ((Fr.refl [] _).alloc _) (by simp)
 have hbx:W0.cell? ⟨w.heap.size+1+1,0,none⟩=some (.slice A ss.length c):=by
  rw[hW0.out];have:=new_cell ((w.alloc (.cells (madeCells #[.string ByteArray.empty] ss.length) 9)).alloc (.cells #[.slice (some ⟨w.heap.size,0,none⟩) 0 ss.length] 31)) (.slice A ss.length c) 31
  rwa[World.size_alloc,World.size_alloc]at this
 have hA0:Rd W0 A (ss.map encStr):=hA.below hSI.on;rw[←hW0.out];clear hmk hA hW0;refine wpIn_rangeFunc_ownF (F:=Fence.wide) rfl (by omega) (gf:=72) (lb:=#[.pointer (some ⟨w.heap.size+1+1,0,none⟩)]) rfl trivial (enters_of Tryz.func72 (by kernel_rfl) rfl)
  (rising_stops_s _ (by omega) (w.heap.size+1+1) A c ss hbig W0 (by omega) hbx hA0) (fun h k=>kq_t h k) (fun W l o o' _ h1 h2 _=>kq_b W l o o' h1 h2) (Below.refl _ _) (fun _=>rfl)
  (fun pre W=>SI w W ss.length pre.length pre)
  (fun _ _ _=>False)
  (fun s W W' row hs hg hr=>hs.grown hg (fun r e=>⟨by have:=(hr r e).1;omega,(hr r e).2⟩))
  (fun _ _ _ _ _ hs _ _=>hs)
  hSI
  (fun x=>{ tmps:=#[.slice A ss.length c,undef,.slice none 0 0,.pointer (some ⟨w.heap.size+1,0,none⟩),encStr x,.slice A ss.length c,.int .i64 ss.length,.slice (some ⟨w.heap.size,0,none⟩) 0 ss.length,.slice A ss.length c,.func (.func 72) #[] #[.pointer (some ⟨w.heap.size+1+1,0,none⟩)],encStr x,undef,undef,undef,undef,undef],defers:=[] }) ?assign ?body ?done ?stop
 case assign=>
  intro l x W K hK
  gi_wp2
  exact hK
 case body=>
  rintro l pre x W hi hlt;have hsw:=hi.on.size;have hrl:=hi.cb.lt;have hbl:=hi.bx.lt;have hcb:CB encStr 9 (W.alloc (.cells #[encStr x] 9)) w.heap.size ss.length pre:=hi.cb.kept _ (Below.heap_alloc _ _ _ hrl);have cb:W.cell? ⟨w.heap.size+1,0,none⟩=some (.slice (some ⟨w.heap.size,0,none⟩) pre.length ss.length):=hi.bx.cell 0;obtain⟨i0,hi0,hz0,hs0,hb0⟩:=info_parts info_str;have HI:=hid hi;clear hi hSI hbx hA0
  gi_wp2_with (gi_at_builtin
               refine wpListIn_room rfl (.tmp 11) (.tmp 13) _ rfl hcb rfl (by omega) Tryz.underlying31 hi0 hs0 rfl rfl (new_cell _ _ _) rfl ?_;intro w4 hcb4 hf4;have hF:Fr [w.heap.size] W w4:=((Fr.refl _ W).alloc _).trans hf4 (fun g hg=>Or.inl hg) (fun g hg=>Or.inl hg);have hbx4:=HI.out.bx.kept hF (by simp);have cb4:w4.cell? ⟨w.heap.size+1,0,none⟩=some (.slice (some ⟨w.heap.size,0,none⟩) pre.length ss.length):=hbx4.cell 0
               have fb4:=hbx4.free 0)
  exact body_end HI.out hF hcb4 hbx4 (by omega)
 case done=>
  rintro D ys W hD rfl hi hK;have cb:W.cell? ⟨w.heap.size+1,0,none⟩=some (.slice (some ⟨w.heap.size,0,none⟩) (rsS ss).length ss.length):=hi.bx.cell 0
  gi_wp2
  refine⟨by simp,.inl ⟨_,_,rfl,run_takeDeferred hK,?_⟩⟩;have hw:=hi.grown (grownBy_putObj' W D (.deferred none)) (fun r e=>by cases e;exact⟨by omega,_,hK,rfl⟩);exact⟨_,results_tmp rfl _ _ _,some ⟨w.heap.size,0,none⟩,ss.length,rfl,hw.on,hw.cb.rd,fun g hg=>by rw[blk_some,List.mem_singleton]at hg;subst hg;exact⟨Nat.le_refl _,hw.cb.lt⟩⟩
 case stop=>
  rintro D c pre W hD _ h _;exact h.elim
end inn
namespace inn
open RowKit Shelf Go.Sort mem
abbrev intoS(m:List (List UInt8))(x:List UInt8):List (List UInt8):=into (fun a b:List UInt8=>a<b) m x
abbrev upS(m:List (List UInt8))(x:List UInt8):Nat:=(m.takeWhile fun y=>decide (y<x)).length
theorem tw_stop{α:Type}(p:α→Bool):∀(m:List α) (a:α),m[(m.takeWhile p).length]? = some a→p a=false
 | [],a,h=>by simp at h
 | b :: m,a,h=>by
  rcases hp:p b with _ | _
  ·rw[List.takeWhile_cons,hp]at h
   simp at h;rw[←h];exact hp
  ·rw[List.takeWhile_cons,hp]at h
   simp at h;exact tw_stop p m a h
theorem tw_in{α:Type}(p:α→Bool):∀(m:List α) (k:Nat) (a:α),k<(m.takeWhile p).length→m[k]? = some a→p a=true
 | [],_,_,h,_=>by simp at h
 | b :: m,k,a,h,ha=>by
  rcases hp:p b with _ | _
  ·rw[List.takeWhile_cons,hp]at h
   simp at h
  ·rw[List.takeWhile_cons,hp]at h
   cases k with
   | zero=>simp at ha;rw[←ha];exact hp
   | succ k=>exact tw_in p m k a (by simpa using h) (by simpa using ha)
theorem tw_le{α:Type}(p:α→Bool)(m:List α):(m.takeWhile p).length≤m.length:=(List.takeWhile_prefix p).length_le
theorem up_in(m:List (List UInt8))(x:List UInt8)(k:Nat)(h:k<upS m x)(hk:k<m.length):Op.bytesLess m[k] x=true:=by
 rw[bytesLess_eq];exact tw_in _ m k m[k] h (List.getElem?_eq_getElem hk)
theorem up_stop(m:List (List UInt8))(x:List UInt8)(h:upS m x<m.length):Op.bytesLess m[upS m x] x=false:=by
 rw[bytesLess_eq];exact tw_stop (fun y=>decide (y<x)) m _ (List.getElem?_eq_getElem h)
def IPost(w:World)(R:List (List UInt8))(e:Ending)(w':World):Prop:=∃A' cap',e=.returned (.slice A' R.length cap')∧Seg w' 9 A' cap' (R.map encStr)∧Below w.heap.size w w'
theorem fresh_nil(w:World)(e:TypeId):Seg (w.alloc (.cells #[] e)) e (some ⟨w.heap.size,0,none⟩) 0 []:=
 ⟨Nat.le_refl _,Nat.zero_le _,fun h=>(by cases h),fun a ha=>by cases ha;exact⟨rfl,#[],heap_alloc_new w _,Nat.le_refl _,fun j u hu=>by simp at hu⟩⟩
theorem fresh_fr{w w1:World}{o:Obj}(f1:Fr (blk (some ⟨w.heap.size,0,none⟩)) (w.alloc o) w1):Fr [] w w1:=
 ((Fr.refl [w.heap.size] w).alloc o).trans f1 (fun g hg=>Or.inr (by rw[List.mem_singleton]at hg;omega)) (fun g hg=>Or.inr (by rw[blk_some,List.mem_singleton]at hg;omega))
theorem fresh_blk{w:World}{o:Obj}{A1:Option Addr}(hb1:blk A1=blk (some ⟨w.heap.size,0,none⟩)∨blk A1=[(w.alloc o).heap.size]):∀q∈blk A1,w.heap.size≤q:=by
 intro q hq;rcases hb1 with e | e <;> rw[e]at hq <;> simp[blk]at hq <;> omega
theorem next_fr0{w w1 w2:World}{A1:Option Addr}(a1:Fr [] w w1)(q1:∀q∈blk A1,w.heap.size≤q)(f2:Fr (blk A1) w1 w2):Fr [] w w2:=
 a1.trans f2 (fun g hg=>(by cases hg)) (fun g hg=>Or.inr (q1 g hg))
theorem next_fr{w w1 w2:World}{o:Obj}{A1:Option Addr}(a1:Fr [] w w1)(q1:∀q∈blk A1,w.heap.size≤q)(f2:Fr (blk A1) (w1.alloc o) w2):Fr [] w w2:=
 (a1.alloc o).trans f2 (fun g hg=>(by cases hg)) (fun g hg=>Or.inr (q1 g hg))
theorem next_blk{w w1:World}{o:Obj}{A1 A2:Option Addr}(a1:Fr [] w w1)(q1:∀q∈blk A1,w.heap.size≤q)(hb:blk A2=blk A1∨blk A2=[(w1.alloc o).heap.size]):∀q∈blk A2,w.heap.size≤q:=by
 intro q hq;rcases hb with e | e
 ·exact q1 q (e ▸ hq)
 ·rw[e,List.mem_singleton]at hq
  have:=a1.size;subst hq;simp;omega
theorem into_end{w w3:World}{A3:Option Addr}{cap3 n:Nat}{m R:List (List UInt8)}{x:List UInt8}{K:Nat}(hR:R=if m[K]? = some x then m else m.take K++[x]++m.drop K)(hne:¬m[K]? = some x)(hK:K≤m.length)
 (hs:Seg w3 9 A3 cap3 (((([]:List Value)++(m.map encStr).take K)++[encStr x])++(m.map encStr).drop K)) (a3:Fr [] w w3) (hn:n=K+1+(m.length-K)):IPost w R (.returned (.slice A3 n cap3)) w3:=by
 rw[if_neg hne]at hR;subst hR;refine⟨A3,cap3,?_,?_,a3.all⟩
 ·rw[hn]
  simp only[List.length_append,List.length_take,List.length_drop,List.length_singleton,Nat.min_eq_left hK]
 ·simpa[List.map_take,List.map_drop] using hs
theorem enc_one(m:List (List UInt8)):∀u∈m.map encStr,u.oneCell'=true:=by
 intro u hu;obtain⟨s,_,rfl⟩:=List.mem_map.1 hu;rfl
theorem into_any(w:World)(A:Option Addr)(cap:Nat)(m:List (List UInt8))(x:List UInt8)(h:Seg w 9 A cap (m.map encStr))(hm:m.length≤1000000) :
 Calls Tryz.prog 51 #[.slice A m.length cap,encStr x] w (IPost w (intoS m x)):=by
 have hR:Hid (intoS m x=if m[upS m x]? = some x then m else m.take (upS m x)++[x]++m.drop (upS m x)):=hid rfl;have b1:=hid (up_in m x);have b2:=hid (up_stop m x);have hKm:upS m x≤m.length:=tw_le _ m;generalize intoS m x=R at *;generalize upS m x=K at *;obtain⟨hu,Hu⟩:=Seg.upto h Tryz.underlying31 (fun w=>by kernel_rfl) K (by rw[List.length_map];exact hKm);obtain⟨A',hf,hA',Hf⟩:=Seg.from_ h Tryz.underlying31 (fun w=>by kernel_rfl) K (by rw[List.length_map];exact hKm);rw[List.length_map]at hu hf;obtain⟨i0,hi0,hz0,hz1,hz2⟩:=info_parts info_str;have Hh:=hid h;have HU:=hid (Hu w h);have HF:=hid (Hf w h);have Hi:=hid hi0;have Hz0:=hid hz0;have Hz1:=hid hz1;have Hz2:=hid hz2;have Hle:Hid (K=((m.map encStr).take K).length):=hid (by simp;omega);have Hlf:Hid (m.length-K=((m.map encStr).drop K).length):=hid (by simp);have Hn1:Hid (K=(([]:List Value)++(m.map encStr).take K).length):=hid (by simp;omega)
 have Hn2:Hid (K+1=((([]:List Value)++(m.map encStr).take K)++[encStr x]).length):=hid (by simp;omega);have H1:Hid (∀u∈(m.map encStr).take K,u.oneCell'=true):=hid (fun u hu=>enc_one m u (List.mem_of_mem_take hu));have H2:Hid (∀u∈(m.map encStr).drop K,u.oneCell'=true):=hid (fun u hu=>enc_one m u (List.mem_of_mem_drop hu));clear h Hu Hf hi0 hz0 hz1 hz2 hA';go_enter Tryz.func51,Tryz.ntmps51;go_wp2_with fail;go_loopw [5] (fun i wr=>∃(k:Nat),k≤K∧i=.int .i64 k∧w=wr) (fun i _=>m.length-(intOf i).toNat)
 case atStart=>exact⟨0,by omega,rfl,rfl⟩
 case round=>
  obtain⟨k,hk,rfl,rfl⟩:=hrel;by_cases hkK:k<K
  ·have hkl:k<m.length:=by omega
   have e1:decide ((k:Int)<(m.length:Int))=true:=decide_eq_true (by omega);obtain⟨b,off,rfl,hlt,hcell⟩:=rd_str Hh.out.rd (by omega);have c2:=hcell k hkl;have bl:=b1.out k hkK hkl;clear hcell;unfold encStr at c2 ⊢;go_wp2_with fail;go_roundw
   case rel=>exact⟨k+1,by omega,by go_num,trivial⟩
   case measure=>simp[intOf];omega
  obtain rfl:k=K:=by omega
  by_cases hkl:k<m.length
  ·have e1:decide ((k:Int)<(m.length:Int))=true:=decide_eq_true (by omega)
   obtain⟨b,off,rfl,hlt,hcell⟩:=rd_str Hh.out.rd (by omega);have c2:=hcell k hkl;have bl:=b2.out hkl;clear hcell;rcases heq:(m[k]==x)with _ | _
   ·unfold encStr at c2 ⊢
    go_wp2_with (first
     | (at_builtin
        refine wpList_app (n:=0) (m:=k) rfl (.tmp 34) (.tmp 37) _ rfl (fresh_nil w _) (HU.out.kept ((Fr.refl [] w).alloc _) (by simp)).rd rfl Hle.out Tryz.underlying31 Hi.out Hz0.out Hz1.out Hz2.out rfl rfl rfl H1.out (by omega) (by omega) ?_;intro A1 cap1 w1 hs1 f1 hb1;have a1:=hid (fresh_fr f1)
        have q1:=hid (fresh_blk hb1))
     | (at_builtin
        refine wpList_push rfl (.tmp 39) (.tmp 41) _ rfl (hs1.alloc _) Hn1.out Tryz.underlying31 Hi.out Hz0.out Hz1.out Hz2.out rfl rfl rfl (new_cell _ _ _) rfl (by omega) (by omega) ?_;intro A2 cap2 w2 hs2 f2 hb2;have a2:=hid (next_fr a1.out q1.out f2)
        have q2:=hid (next_blk a1.out q1.out hb2))
     | (at_builtin
        refine wpList_app (m:=m.length-k) rfl (.tmp 43) (.tmp 46) _ rfl hs2 (HF.out.kept a2.out (by simp)).rd Hn2.out Hlf.out Tryz.underlying31 Hi.out Hz0.out Hz1.out Hz2.out rfl rfl rfl H2.out (by omega) (by omega) ?_;intro A3 cap3 w3 hs3 f3 hb3
        have a3:=hid (next_fr0 a2.out q2.out f3)))
    go_ret;exact into_end hR.out (by rw[List.getElem?_eq_getElem hkl];intro e;injection e with e;rw[e]at heq;simp at heq) hKm hs3 a3.out (by omega)
   ·unfold encStr at c2 ⊢
    go_wp2_with fail;go_ret;have e2:m[k]? = some x:=by rw[List.getElem?_eq_getElem hkl,eq_of_beq heq]
    have e3:=hR.out;rw[if_pos e2]at e3;subst e3;exact⟨_,_,rfl,Hh.out,Below.refl _ _⟩
  ·obtain rfl:k=m.length:=by omega
   have e1:decide ((m.length:Int)<(m.length:Int))=false:=decide_eq_false (by omega);have Hl0:Hid (0=((m.map encStr).drop m.length).length):=hid (by simp);unfold encStr
   go_wp2_with (first
    | (at_builtin
       refine wpList_app (n:=0) (m:=m.length) rfl (.tmp 34) (.tmp 37) _ rfl (fresh_nil w _) (HU.out.kept ((Fr.refl [] w).alloc _) (by simp)).rd rfl Hle.out Tryz.underlying31 Hi.out Hz0.out Hz1.out Hz2.out rfl rfl rfl H1.out (by omega) (by omega) ?_;intro A1 cap1 w1 hs1 f1 hb1;have a1:=hid (fresh_fr f1)
       have q1:=hid (fresh_blk hb1))
    | (at_builtin
       refine wpList_push rfl (.tmp 39) (.tmp 41) _ rfl (hs1.alloc _) Hn1.out Tryz.underlying31 Hi.out Hz0.out Hz1.out Hz2.out rfl rfl rfl (new_cell _ _ _) rfl (by omega) (by omega) ?_;intro A2 cap2 w2 hs2 f2 hb2;have a2:=hid (next_fr a1.out q1.out f2)
       have q2:=hid (next_blk a1.out q1.out hb2))
    | (at_builtin
       refine wpList_app (m:=0) rfl (.tmp 43) (.tmp 46) _ rfl hs2 (HF.out.kept a2.out (by simp)).rd Hn2.out Hl0.out Tryz.underlying31 Hi.out Hz0.out Hz1.out Hz2.out rfl rfl rfl H2.out (by omega) (by omega) ?_;intro A3 cap3 w3 hs3 f3 hb3
       have a3:=hid (next_fr0 a2.out q2.out f3)))
   go_ret;exact into_end hR.out (by simp) hKm hs3 a3.out (by omega)
end inn
end Go.Proofs.YtlkboeajkgbnaaaGreatDoor
