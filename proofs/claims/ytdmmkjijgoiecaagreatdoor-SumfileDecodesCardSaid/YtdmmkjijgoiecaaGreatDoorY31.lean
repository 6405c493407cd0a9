import Derived.Deep.OwnRows
import Derived.Deep.RegionHeld3
import Derived.Test.YtdmmkjijgoiecaaGreatDoorY07
set_option linter.all false
set_option maxHeartbeats 4000000
namespace Go.Proofs.YtdmmkjijgoiecaaGreatDoor
open Lib(hid)
set_option maxRecDepth 100000
namespace inn
open RowKit Shelf mem
attribute [local go_sem] Oper.semAt_some
theorem lU{W Y:World}{row:Option Nat}{g:Nat}{t:TypeId}{cs:Array Value}(h:bV W g t cs)(hg:W.grownBy Y row)(hr:∀r,row=some r→∃o:Obj,W.heap[r]? = some o∧o.isCells=false):bV Y g t cs:=by
 refine(hg.block g h.lt (fun e=>?_)).trans h;obtain⟨o,J,hc⟩:=hr g e.symm;unfold bV at h;rw[h]at J;cases J;cases hc
theorem CB.grown{α:Type}{enc:α→Value}{e:TypeId}{W Y:World}{row:Option Nat}{g cap:Nat}{xs:List α}(h:CB enc e W g cap xs)(hg:W.grownBy Y row)(hr:∀r,row=some r→∃o:Obj,W.heap[r]? = some o∧o.isCells=false):CB enc e Y g cap xs:=by
 obtain⟨a0,h1,h2,h3⟩:=h.ex;refine h.kept _ (hg.block g (bB.1 h1).1 (fun e=>?_));obtain⟨o,J,hc⟩:=hr g e.symm;rw[h1]at J;cases J;cases hc
theorem uS{W W':World}{L:List Nat}(h:Fr L W W')(hc:∀g∈L,∃o:Obj,W.heap[g]? = some o∧o.isCells=true):KeepsOthers W W':=
 ⟨h.size,fun k o Y ho=>by
  have J:k<W.heap.size:=(bB.1 Y).1;refine(h.block k J (fun hm=>?_)).trans Y;obtain⟨o',h1,h2⟩:=hc k hm;rw[Y]at h1;cases h1;rw[ho]at h2
  cases h2⟩
theorem aMs{n:Nat}{W J:World}{L:List Nat}(h:Fr L W J)(hL:∀g∈L,g<n):Kq n W J:=fun k hk cs t fr Y=>
 (h.block k (bB.1 Y).1 (fun hm=>by have:=hL k hm;omega)).trans Y
theorem aGq{P:Program}{α:Type}{enc:α→Value}{w:World}{e t ty:TypeId}{g cap:Nat}{xs:List α}{x:α}{i:TypeInfo}(h:CB enc e w g cap xs)(J:xs.length+1≤cap)(ht:P.underlying t=some (.slice e))(hi:P.info? e=some i)(hs:i.size=1)
 {ad:Addr} (hu:w.cell? ad=some (enc x)) (h1:(enc x).oneCell'=true) :
 ∃w',(Builtin.append_ #[t,t] ty #[.slice (some ⟨g,0,none⟩) xs.length cap,.slice (some ad) 1 1]).run P w=.ok (.slice (some ⟨g,0,none⟩) (xs.length+1) cap) w'∧CB enc e w' g cap (xs++[x])∧Fr [g] w w':=by
 have a1:Src P i.size t (.slice (some ad) 1 1) 1 [enc x] w:=Src.ofSlice w ht ad 1 1 [enc x] (by rw[hs];rfl) (fun j v hv=>by
  cases j with
  | zero=>simp at hv;subst hv;simpa[Addr.add] using hu
  | succ j=>simp at hv) (fun v hv=>by rw[aD]at hv;subst hv;exact h1)
 obtain⟨a2,hc,a3,a4⟩:=h.ex
 have hr:=run_append_room_src (P:=P) w t t ty e i ht hi g 0 xs.length cap _ 1 [enc x] a1 J (fun j hj=>by
  have:j=0:=by simpa using hj
  subst this
  rw[hs,Nat.mul_one,Nat.add_zero,Nat.zero_add,cell_of_row w g _ a2 e (0,0) hc,Array.getElem?_eq_getElem (by omega)];rfl) (fun j hj=>by simp[World.frozen?,hc])
 rw[hs,Nat.mul_one,Nat.zero_add]at hr;obtain⟨a0,k1,k2,k3,k4⟩:=lC g e [enc x] xs.length w a2 hc (by simp;omega);refine⟨_,hr,⟨⟨a0,k1,by rw[k2];exact a3,?_⟩,by simp;exact J,h.max⟩,mK g [enc x] _ w⟩
 apply List.ext_getElem?
 intro j;rw[aF,List.length_singleton];by_cases hj:j<xs.length+1
 ·rw[List.getElem?_take_of_lt hj,Array.getElem?_toList,List.map_append]
  rcases Nat.lt_or_ge j xs.length with Y | Y
  ·rw[k4 j (Or.inl Y),List.getElem?_append_left (by simpa using Y),←a4,List.getElem?_take_of_lt Y,Array.getElem?_toList]
  ·have:j=xs.length:=by omega
   subst this;rw[List.getElem?_append_right (by simp)];have:=k3 0 (enc x) (by simp)
   simpa using this
 ·rw[List.getElem?_take_eq_none (by omega),List.getElem?_eq_none (by simp;omega)]
theorem aA4{F:Fence}{n:Nat}{P:Program}{α:Type}{enc:α→Value}{w:World}{ops:Array Oper}{rest:List Oper}{o:Oper}{a:Act}{Q:Exit→Act→World→Prop}(a1:o.guard=none)(s y:Operand)(t:TypeId)
 (Y:o.op=.call { callee:=.builtin .append,args:=#[s,y],argTypes:=#[t,t] }) {e:TypeId} {g cap m:Nat} {xs:List α} {x:α} {i:TypeInfo} (h:CB enc e w g cap xs) (hm:m=xs.length) (J:xs.length+1≤cap) (ht:P.underlying t=some (.slice e)) (hi:P.info? e=some i) (hs:i.size=1)
 {ad:Addr} (a0:a.eval s=.slice (some ⟨g,0,none⟩) m cap) (hex:a.eval y=.slice (some ad) 1 1) (hu:w.cell? ad=some (enc x)) (h1:(enc x).oneCell'=true)
 (hK:∀w',CB enc e w' g cap (xs++[x])→Fr [g] w w'→wpListIn F n P ops Q rest (a.put o.dst (.slice (some ⟨g,0,none⟩) (m+1) cap)) w'):wpListIn F n P ops Q (o :: rest) a w:=by
 subst hm;refine wpListIn_plain a1 fun K a2=>?_
 obtain⟨w',hr,h2,h3⟩:=aGq (ty:=o.type) h J ht hi hs hu h1;unfold Oper.wpIn;refine⟨?_,?_⟩
 ·simp[Oper.about,Y,resolve,Target.leads,Sem.run_pure]
 ·rw[Oper.semAt_plain F _ _ (by rw[Y];intro c a3;cases a3)]
  simp[execOp,Y,resolve,invoke,builtin,a0,hex,hr,Result.andThen];exact a2 _ _ (hK w' h2 h3)
theorem nX:(Tryz.prog.info? 9).map (fun i=>(i.zero,i.size,i.bytes))=some (some (.string ByteArray.empty),1,16):=by kernel_rfl
theorem aLr(W:World)(n:Nat)(Y:n≤1000000):(Instr.makeSlice 22 (.int .i64 0) (.int .i64 (n:Int))).run Tryz.prog W=.ok (.slice (some ⟨W.heap.size,0,none⟩) 0 n) (W.alloc (.cells (madeCells #[.string ByteArray.empty] n) 9)):=by
 obtain⟨i0,hi,J,hs,hb⟩:=info_parts nX;have:=run_make (P:=Tryz.prog) W 22 9 i0 (.string ByteArray.empty) Tryz.underlying22 hi J .i64 .i64 0 n (by omega) (by omega) (by rw[hb];omega) (by omega);rw[hs,Nat.mul_one,Int.toNat_natCast]at this;exact this
structure SI(w W:World)(n k:Nat)(pre:List (List UInt8)):Prop where
 cb:CB encStr 9 W w.heap.size n pre
 bx:bV W (w.heap.size+1) 22 #[.slice (some ⟨w.heap.size,0,none⟩) k n]
 len:k=pre.length
 on:Below w.heap.size w W
theorem SI.grown{w W Y:World}{n k:Nat}{pre:List (List UInt8)}{row:Option Nat}(h:SI w W n k pre)(J:W.grownBy Y row)(hr:∀r,row=some r→w.heap.size≤r∧∃o:Obj,W.heap[r]? = some o∧o.isCells=false):SI w Y n k pre:=
 ⟨h.cb.grown J (fun r e=>(hr r e).2),lU h.bx J (fun r e=>(hr r e).2),h.len,h.on.grown J h.on.size (fun k e=>(hr k e).1)⟩
attribute [local go_sem] Oper.semAt_some
theorem aBL(J:List (List UInt8)):(jG J).length≤J.length:=by
 have:=Lib.compact_length_le (J.mergeSort fun x y=>decide (x≤y));rw[aAz,List.length_mergeSort]at this;exact this
def gD(w:World)(J:List (List UInt8))(e:Ending)(w':World):Prop:=∃A cap,e=.returned (.slice A (jG J).length cap)∧Below w.heap.size w w'∧Rd w' A ((jG J).map encStr)
theorem CB.rd{α:Type}[Inhabited α]{enc:α→Value}{e:TypeId}{w:World}{g cap:Nat}{xs:List α}(h:CB enc e w g cap xs):Rd w (some ⟨g,0,none⟩) (xs.map enc):=fun _=>by
 refine⟨g,0,rfl,h.lt,fun j J=>?_⟩;rw[Nat.zero_add,h.cell enc j (by simpa using J)];simp
theorem aIV{w W J:World}{n Y:Nat}{pre:List (List UInt8)}{x:List UInt8}(hi:SI w W n pre.length pre)(hF:Fr [w.heap.size] W J)(a2:CB encStr 9 J w.heap.size n (pre++[x]))(a3:bV J (w.heap.size+1) 22 #[.slice (some ⟨w.heap.size,0,none⟩) pre.length n])(h0:w.heap.size+2≤Y) :
 KeepsOthers W (J.setCell ⟨w.heap.size+1,0,none⟩ (.slice (some ⟨w.heap.size,0,none⟩) (pre.length+1) n))∧Kq Y W (J.setCell ⟨w.heap.size+1,0,none⟩ (.slice (some ⟨w.heap.size,0,none⟩) (pre.length+1) n))∧SI w (J.setCell ⟨w.heap.size+1,0,none⟩ (.slice (some ⟨w.heap.size,0,none⟩) (pre.length+1) n)) n (pre++[x]).length (pre++[x]):=by
 have a1:Fr [w.heap.size+1] J (J.setCell ⟨w.heap.size+1,0,none⟩ (.slice (some ⟨w.heap.size,0,none⟩) (pre.length+1) n)):=(Fr.refl _ J).setCell (Or.inl (by simp)) _;have a0:Fr [w.heap.size,w.heap.size+1] W (J.setCell ⟨w.heap.size+1,0,none⟩ (.slice (some ⟨w.heap.size,0,none⟩) (pre.length+1) n)):=hF.trans a1 (by simp) (by simp);refine⟨(uS hF (fun g hg=>?_)).trans (KeepsOthers.setCell _ _ _),aMs a0 (by simp;omega),?_,?_,rfl,?_⟩
 ·rw[aD]at hg
  subst hg;obtain⟨a4,h1,_⟩:=hi.cb.ex;exact⟨_,h1,rfl⟩
 ·exact a2.kept _ (a1.block _ a2.lt (by simp))
 ·have:=a3.put 0 (.slice (some ⟨w.heap.size,0,none⟩) (pre.length+1) n)
  rw[aF,List.length_singleton];exact this
 ·exact hi.on.trans (a0.below (by simp) hi.on.size)
theorem vX(w:World)(A:Option Addr)(c:Nat)(J:List (List UInt8))(hA:Rd w A (J.map encStr))(a1:J.length≤1000000) :
 Calls Tryz.prog 63 #[.slice A J.length c] w (gD w J):=by
 have a8:=fun W=>aLr W J.length a1
 have aj:=aBL J;refine(callsIn_wide (n:=8)).1 ?_;refine callsIn_of_wp_marks Tryz.func63 rfl trivial ?_ rfl;simp only[Tryz.ntmps63,List.size_toArray,aG,aI,Nat.reduceAdd,Nat.reduceSub,Array.replicate_succ,Array.replicate_zero,List.push_toArray,List.append_toArray,aX,aW]
 gi_wp2_with (refine⟨trivial,?_⟩;gi_at_call 123;refine(aCm _ A J.length c _).mono ?_;rintro e w' ⟨rfl,rfl⟩)
 obtain⟨W0,a0⟩:∃W0,Hid (W0=((w.alloc (.cells (madeCells #[.string ByteArray.empty] J.length) 9)).alloc (.cells #[.slice (some ⟨w.heap.size,0,none⟩) 0 J.length] 22)).alloc (.cells #[.slice A J.length c] 22)):=⟨_,hid rfl⟩;have ak:W0.heap.size=w.heap.size+3:=by rw[a0.out];simp
 have a2:SI w W0 J.length 0 []:=by
  rw[a0.out];refine⟨⟨⟨madeCells #[.string ByteArray.empty] J.length,?_,size_madeCells _ _,by simp⟩,by simp,by unfold maxLen;omega⟩,?_,rfl,(((Below.refl _ _).alloc (aY _) _).alloc (by simp) _).alloc (by simp;omega) _⟩
  ·rw[Below.heap_alloc _ _ _ (by simp;omega),Below.heap_alloc _ _ _ (by simp)]
   exact heap_alloc_new w _
  ·have:=bV.new (w.alloc (.cells (madeCells #[.string ByteArray.empty] J.length) 9)) 22 #[.slice (some ⟨w.heap.size,0,none⟩) 0 J.length]
   rw[World.size_alloc]at this;exact this.kept ((Fr.refl [] _).alloc _) (by simp)
 have a5:W0.cell? ⟨w.heap.size+1+1,0,none⟩=some (.slice A J.length c):=by
  rw[a0.out];have:=dH ((w.alloc (.cells (madeCells #[.string ByteArray.empty] J.length) 9)).alloc (.cells #[.slice (some ⟨w.heap.size,0,none⟩) 0 J.length] 22)) (.slice A J.length c) 22
  rwa[World.size_alloc,World.size_alloc]at this
 have a3:Rd W0 A (J.map encStr):=hA.below a2.on;rw[←a0.out];clear a8 hA a0;refine wpIn_rangeFunc_ownF (F:=Fence.wide) rfl (by omega) (gf:=181) (lb:=#[.pointer (some ⟨w.heap.size+1+1,0,none⟩)]) rfl trivial (enters_of Tryz.func181 (by kernel_rfl) rfl)
  (aAq _ (by omega) (w.heap.size+1+1) A c J a1 W0 (by omega) a5 a3) (fun h k=>aM4 h k) (fun W l o o' _ h1 h2 _=>aMZ W l o o' h1 h2) (Below.refl _ _) (fun _=>rfl)
  (fun pre W=>SI w W J.length pre.length pre)
  (fun _ _ _=>False)
  (fun s W W' row hs hg hr=>hs.grown hg (fun r e=>⟨by have:=(hr r e).1;omega,(hr r e).2⟩))
  (fun _ _ _ _ _ hs _ _=>hs)
  a2
  (fun x=>{ tmps:=#[.slice A J.length c,undef,.slice none 0 0,.pointer (some ⟨w.heap.size+1,0,none⟩),encStr x,.slice A J.length c,.int .i64 J.length,.slice (some ⟨w.heap.size,0,none⟩) 0 J.length,.slice A J.length c,.func (.func 181) #[] #[.pointer (some ⟨w.heap.size+1+1,0,none⟩)],encStr x,undef,undef,undef,undef,undef],defers:=[] }) ?assign ?body ?done ?stop
 case assign=>
  intro l x W K hK
  gi_wp2
  exact hK
 case body=>
  rintro l pre x W hi af;have ah:=hi.on.size;have a9:=hi.cb.lt;have ae:=hi.bx.lt;have aa:CB encStr 9 (W.alloc (.cells #[encStr x] 9)) w.heap.size J.length pre:=hi.cb.kept _ (Below.heap_alloc _ _ _ a9);have cb:W.cell? ⟨w.heap.size+1,0,none⟩=some (.slice (some ⟨w.heap.size,0,none⟩) pre.length J.length):=hi.bx.cell 0;obtain⟨i0,a6,ao,ad,ag⟩:=info_parts nX;have HI:=hid hi;clear hi a2 a5 a3
  gi_wp2_with (gi_at_builtin
               refine aA4 rfl (.tmp 11) (.tmp 13) _ rfl aa rfl (by omega) Tryz.underlying22 a6 ad rfl rfl (dH _ _ _) rfl ?_;intro w4 a4 a7;have hF:Fr [w.heap.size] W w4:=((Fr.refl _ W).alloc _).trans a7 (fun g hg=>Or.inl hg) (fun g hg=>Or.inl hg);have Y:=HI.out.bx.kept hF (by simp);have ai:w4.cell? ⟨w.heap.size+1,0,none⟩=some (.slice (some ⟨w.heap.size,0,none⟩) pre.length J.length):=Y.cell 0
               have am:=Y.free 0)
  exact aIV HI.out hF a4 Y (by omega)
 case done=>
  rintro D ys W hD rfl hi hK;have cb:W.cell? ⟨w.heap.size+1,0,none⟩=some (.slice (some ⟨w.heap.size,0,none⟩) (jG J).length J.length):=hi.bx.cell 0
  gi_wp2
  refine⟨by simp,.inl ⟨_,_,rfl,run_takeDeferred hK,?_⟩⟩;have hw:=hi.grown (grownBy_putObj' W D (.deferred none)) (fun r e=>by cases e;exact⟨by omega,_,hK,rfl⟩);exact⟨_,results_tmp rfl _ _ _,some ⟨w.heap.size,0,none⟩,J.length,rfl,hw.on,hw.cb.rd⟩
 case stop=>
  rintro D c pre W hD _ h _;exact h.elim
open RowKit Shelf Go.Sort mem
attribute [local go_sem] Oper.semAt_some
theorem sM{w:World}{A:Option Addr}{l:List (List UInt8)}(h:Rd w A (l.map encStr))(Y:0<l.length):∃g o,A=some ⟨g,o,none⟩∧g<w.heap.size∧∀j (J:j<l.length),w.cell? ⟨g,o+j,none⟩=some (encStr l[j]):=by
 obtain⟨g,o,rfl,hl,hc⟩:=h (by simpa using Y);exact⟨g,o,rfl,hl,fun j J=>by rw[hc j (by simpa using J)];simp⟩
theorem aAe(w:World)(A B:Option Addr)(c d:Nat):Calls Tryz.prog 53 #[.slice A 0 c,.slice B 0 d] w fun e w'=>e=.returned (.bool true)∧Below w.heap.size w w':=by
 go_enter Tryz.func53,Tryz.ntmps53;go_wp2_with fail;go_loopw [5] (fun i wr=>i=.int .i64 0∧w=wr) (fun _ _=>0)
 case atStart=>exact⟨rfl,rfl⟩
 case round=>
  obtain⟨rfl,rfl⟩:=hrel;go_wp2_with fail;go_ret;exact⟨rfl,Below.refl _ _⟩
theorem aMN(w:World)(A B:Option Addr)(c d:Nat)(l:List (List UInt8))(hA:Rd w A (l.map encStr))(hB:Rd w B (l.map encStr))(a2:l.length≤100000) :
 Calls Tryz.prog 53 #[.slice A l.length c,.slice B l.length d] w fun e w'=>e=.returned (.bool true)∧Below w.heap.size w w':=by
 rcases Nat.eq_zero_or_pos l.length with hz | hz
 ·rw[hz];exact aAe w A B c d
 obtain⟨g1,o1,rfl,Y,h1⟩:=sM hA hz;obtain⟨g2,o2,rfl,a0,h2⟩:=sM hB hz;have H1:=hid h1;have H2:=hid h2;have L1:=hid Y;have L2:=hid a0;clear h1 h2 hA hB Y a0;have d0:(((l.length:Nat):Int) != (l.length:Int))=false:=by simp
 go_enter Tryz.func53,Tryz.ntmps53;go_wp2_with fail;go_loopw [5] (fun i wr=>∃k:Nat,k≤l.length∧i=.int .i64 k∧Hid (Below w.heap.size w wr)) (fun i _=>l.length-(intOf i).toNat)
 case atStart=>exact⟨0,by omega,rfl,hid (Below.refl _ _)⟩
 case round=>
  obtain⟨k,hk,rfl,hb⟩:=hrel;rename_i wr _;by_cases J:k<l.length
  ·have e1:decide ((k:Int)<(l.length:Int))=true:=aC (by omega)
   have ck:wr.cell? ⟨g1,o1+k,none⟩=some (encStr l[k]):=(hb.out.cell (p:=⟨g1,o1+k,none⟩) L1.out).trans (H1.out k J);have cm:wr.cell? ⟨g2,o2+k,none⟩=some (encStr l[k]):=(hb.out.cell (p:=⟨g2,o2+k,none⟩) L2.out).trans (H2.out k J);unfold encStr at ck cm;generalize (ByteArray.mk l[k].toArray)=z at *;have e2:(z.data != z.data)=false:=by simp
   have a1:=hid hb.out.drew;clear hb;go_wp2_with fail;go_region;go_wp2_with fail;go_roundw
   case rel=>exact⟨k+1,by omega,by go_num,a1⟩
   case measure=>simp[intOf];omega
  ·obtain rfl:k=l.length:=by omega
   have e1:decide ((l.length:Int)<(l.length:Int))=false:=aB (by omega);go_wp2_with fail;go_ret;exact⟨rfl,hb.out⟩
abbrev oF(m:List (List UInt8))(x:List UInt8):List (List UInt8):=aAE (fun a b:List UInt8=>a<b) m x
abbrev upS(m:List (List UInt8))(x:List UInt8):Nat:=(m.takeWhile fun y=>decide (y<x)).length
theorem aE7{α:Type}(p:α→Bool):∀(m:List α) (a:α),m[(m.takeWhile p).length]? = some a→p a=false
 | [],a,h=>by simp at h
 | b :: m,a,h=>by
  rcases J:p b with _ | _
  ·rw[List.takeWhile_cons,J]at h
   simp at h;rw[←h];exact J
  ·rw[List.takeWhile_cons,J]at h
   simp at h;exact aE7 p m a h
theorem aKT{α:Type}(p:α→Bool):∀(m:List α) (k:Nat) (a:α),k<(m.takeWhile p).length→m[k]? = some a→p a=true
 | [],_,_,h,_=>by simp at h
 | b :: m,k,a,h,ha=>by
  rcases J:p b with _ | _
  ·rw[List.takeWhile_cons,J]at h
   simp at h
  ·rw[List.takeWhile_cons,J]at h
   cases k with
   | zero=>simp at ha;rw[←ha];exact J
   | succ k=>exact aKT p m k a (by simpa using h) (by simpa using ha)
theorem aMw{α:Type}(p:α→Bool)(m:List α):(m.takeWhile p).length≤m.length:=(List.takeWhile_prefix p).length_le
theorem aMz(m:List (List UInt8))(x:List UInt8)(k:Nat)(h:k<upS m x)(J:k<m.length):Op.bytesLess m[k] x=true:=by
 rw[bytesLess_eq];exact aKT _ m k m[k] h (aN J)
theorem aJS(m:List (List UInt8))(x:List UInt8)(h:upS m x<m.length):Op.bytesLess m[upS m x] x=false:=by
 rw[bytesLess_eq];exact aE7 (fun y=>decide (y<x)) m _ (aN h)
def dG(w:World)(R:List (List UInt8))(e:Ending)(w':World):Prop:=∃Y J,e=.returned (.slice Y R.length J)∧Seg w' 9 Y J (R.map encStr)∧Below w.heap.size w w'
theorem aBg(w:World)(e:TypeId):Seg (w.alloc (.cells #[] e)) e (some ⟨w.heap.size,0,none⟩) 0 []:=
 ⟨aY _,bA _,fun h=>(by cases h),fun a ha=>by cases ha;exact⟨rfl,#[],heap_alloc_new w _,aY _,fun j u J=>by simp at J⟩⟩
theorem aDo{w Y:World}{o:Obj}(f1:Fr (blk (some ⟨w.heap.size,0,none⟩)) (w.alloc o) Y):Fr [] w Y:=
 ((Fr.refl [w.heap.size] w).alloc o).trans f1 (fun g J=>Or.inr (by rw[aD]at J;omega)) (fun g J=>Or.inr (by rw[aCB,aD]at J;omega))
theorem aBC{w:World}{o:Obj}{J:Option Addr}(Y:blk J=blk (some ⟨w.heap.size,0,none⟩)∨blk J=[(w.alloc o).heap.size]):∀q∈blk J,w.heap.size≤q:=by
 intro q hq;rcases Y with e | e <;> rw[e]at hq <;> simp[blk]at hq <;> omega
theorem aCD{w w1 Y:World}{A1:Option Addr}(a1:Fr [] w w1)(q1:∀q∈blk A1,w.heap.size≤q)(f2:Fr (blk A1) w1 Y):Fr [] w Y:=
 a1.trans f2 (fun g J=>(by cases J)) (fun g J=>Or.inr (q1 g J))
theorem aFo{w w1 Y:World}{o:Obj}{A1:Option Addr}(a1:Fr [] w w1)(q1:∀q∈blk A1,w.heap.size≤q)(f2:Fr (blk A1) (w1.alloc o) Y):Fr [] w Y:=
 (a1.alloc o).trans f2 (fun g J=>(by cases J)) (fun g J=>Or.inr (q1 g J))
theorem aCj{w w1:World}{o:Obj}{A1 J:Option Addr}(a1:Fr [] w w1)(q1:∀q∈blk A1,w.heap.size≤q)(hb:blk J=blk A1∨blk J=[(w1.alloc o).heap.size]):∀q∈blk J,w.heap.size≤q:=by
 intro q Y;rcases hb with e | e
 ·exact q1 q (e ▸ Y)
 ·rw[e,aD]at Y
  have:=a1.size;subst Y;simp;omega
theorem aDd{w w3:World}{A3:Option Addr}{J n:Nat}{m R:List (List UInt8)}{x:List UInt8}{K:Nat}(hR:R=if m[K]? = some x then m else m.take K++[x]++m.drop K)(Y:¬m[K]? = some x)(hK:K≤m.length)
 (hs:Seg w3 9 A3 J (((([]:List Value)++(m.map encStr).take K)++[encStr x])++(m.map encStr).drop K)) (a3:Fr [] w w3) (hn:n=K+1+(m.length-K)):dG w R (.returned (.slice A3 n J)) w3:=by
 rw[if_neg Y]at hR;subst hR;refine⟨A3,J,?_,?_,a3.all⟩
 ·rw[hn]
  simp only[aF,List.length_take,List.length_drop,List.length_singleton,Nat.min_eq_left hK]
 ·simpa[List.map_take,List.map_drop] using hs
theorem aE4(m:List (List UInt8)):∀u∈m.map encStr,u.oneCell'=true:=by
 intro u J;obtain⟨s,_,rfl⟩:=List.mem_map.1 J;rfl
theorem aIU(w:World)(A:Option Addr)(cap:Nat)(m:List (List UInt8))(x:List UInt8)(h:Seg w 9 A cap (m.map encStr))(hm:m.length≤1000000) :
 Calls Tryz.prog 68 #[.slice A m.length cap,encStr x] w (dG w (oF m x)):=by
 have hR:Hid (oF m x=if m[upS m x]? = some x then m else m.take (upS m x)++[x]++m.drop (upS m x)):=hid rfl;have b1:=hid (aMz m x);have b2:=hid (aJS m x);have a5:upS m x≤m.length:=aMw _ m;generalize oF m x=R at *;generalize upS m x=K at *;obtain⟨hu,Hu⟩:=Seg.upto h Tryz.underlying22 (fun w=>by kernel_rfl) K (by rw[aH];exact a5);obtain⟨A',hf,ax,Hf⟩:=Seg.from_ h Tryz.underlying22 (fun w=>by kernel_rfl) K (by rw[aH];exact a5);rw[aH]at hu hf;obtain⟨i0,ae,ak,am,aj⟩:=info_parts nX;have Hh:=hid h;have HU:=hid (Hu w h);have HF:=hid (Hf w h);have Hi:=hid ae;have Y:=hid ak;have a4:=hid am;have a0:=hid aj;have ai:Hid (K=((m.map encStr).take K).length):=hid (by simp;omega);have aw:Hid (m.length-K=((m.map encStr).drop K).length):=hid (by simp);have ao:Hid (K=(([]:List Value)++(m.map encStr).take K).length):=hid (by simp;omega)
 have af:Hid (K+1=((([]:List Value)++(m.map encStr).take K)++[encStr x]).length):=hid (by simp;omega);have H1:Hid (∀u∈(m.map encStr).take K,u.oneCell'=true):=hid (fun u hu=>aE4 m u (List.mem_of_mem_take hu));have H2:Hid (∀u∈(m.map encStr).drop K,u.oneCell'=true):=hid (fun u hu=>aE4 m u (List.mem_of_mem_drop hu));clear h Hu Hf ae ak am aj ax;go_enter Tryz.func68,Tryz.ntmps68;go_wp2_with fail;go_loopw [5] (fun i wr=>∃(k:Nat),k≤K∧i=.int .i64 k∧w=wr) (fun i _=>m.length-(intOf i).toNat)
 case atStart=>exact⟨0,by omega,rfl,rfl⟩
 case round=>
  obtain⟨k,hk,rfl,rfl⟩:=hrel;by_cases av:k<K
  ·have J:k<m.length:=by omega
   have e1:decide ((k:Int)<(m.length:Int))=true:=aC (by omega);obtain⟨b,off,rfl,au,hcell⟩:=sM Hh.out.rd (by omega);have c2:=hcell k J;have bl:=b1.out k av J;clear hcell;unfold encStr at c2 ⊢;go_wp2_with fail;go_roundw
   case rel=>exact⟨k+1,by omega,by go_num,trivial⟩
   case measure=>simp[intOf];omega
  obtain rfl:k=K:=by omega
  by_cases J:k<m.length
  ·have e1:decide ((k:Int)<(m.length:Int))=true:=aC (by omega)
   obtain⟨b,off,rfl,au,hcell⟩:=sM Hh.out.rd (by omega);have c2:=hcell k J;have bl:=b2.out J;clear hcell;rcases a6:(m[k]==x)with _ | _
   ·unfold encStr at c2 ⊢
    go_wp2_with (first
     | (at_builtin
        refine rG (n:=0) (m:=k) rfl (.tmp 34) (.tmp 37) _ rfl (aBg w _) (HU.out.kept ((Fr.refl [] w).alloc _) (by simp)).rd rfl ai.out Tryz.underlying22 Hi.out Y.out a4.out a0.out rfl rfl rfl H1.out (by omega) (by omega) ?_;intro A1 ap w1 a8 f1 ad;have a1:=hid (aDo f1)
        have q1:=hid (aBC ad))
     | (at_builtin
        refine dQ rfl (.tmp 39) (.tmp 41) _ rfl (a8.alloc _) ao.out Tryz.underlying22 Hi.out Y.out a4.out a0.out rfl rfl rfl (dH _ _ _) rfl (by omega) (by omega) ?_;intro A2 ah w2 aa f2 a7;have a2:=hid (aFo a1.out q1.out f2)
        have q2:=hid (aCj a1.out q1.out a7))
     | (at_builtin
        refine rG (m:=m.length-k) rfl (.tmp 43) (.tmp 46) _ rfl aa (HF.out.kept a2.out (by simp)).rd af.out aw.out Tryz.underlying22 Hi.out Y.out a4.out a0.out rfl rfl rfl H2.out (by omega) (by omega) ?_;intro A3 ag w3 a9 f3 ar
        have a3:=hid (aCD a2.out q2.out f3)))
    go_ret;exact aDd hR.out (by rw[aN J];intro e;injection e with e;rw[e]at a6;simp at a6) a5 a9 a3.out (by omega)
   ·unfold encStr at c2 ⊢
    go_wp2_with fail;go_ret;have e2:m[k]? = some x:=by rw[aN J,eq_of_beq a6]
    have e3:=hR.out;rw[if_pos e2]at e3;subst e3;exact⟨_,_,rfl,Hh.out,Below.refl _ _⟩
  ·obtain rfl:k=m.length:=by omega
   have e1:decide ((m.length:Int)<(m.length:Int))=false:=aB (by omega);have ay:Hid (0=((m.map encStr).drop m.length).length):=hid (by simp);unfold encStr
   go_wp2_with (first
    | (at_builtin
       refine rG (n:=0) (m:=m.length) rfl (.tmp 34) (.tmp 37) _ rfl (aBg w _) (HU.out.kept ((Fr.refl [] w).alloc _) (by simp)).rd rfl ai.out Tryz.underlying22 Hi.out Y.out a4.out a0.out rfl rfl rfl H1.out (by omega) (by omega) ?_;intro A1 ap w1 a8 f1 ad;have a1:=hid (aDo f1)
       have q1:=hid (aBC ad))
    | (at_builtin
       refine dQ rfl (.tmp 39) (.tmp 41) _ rfl (a8.alloc _) ao.out Tryz.underlying22 Hi.out Y.out a4.out a0.out rfl rfl rfl (dH _ _ _) rfl (by omega) (by omega) ?_;intro A2 ah w2 aa f2 a7;have a2:=hid (aFo a1.out q1.out f2)
       have q2:=hid (aCj a1.out q1.out a7))
    | (at_builtin
       refine rG (m:=0) rfl (.tmp 43) (.tmp 46) _ rfl aa (HF.out.kept a2.out (by simp)).rd af.out ay.out Tryz.underlying22 Hi.out Y.out a4.out a0.out rfl rfl rfl H2.out (by omega) (by omega) ?_;intro A3 ag w3 a9 f3 ar
       have a3:=hid (aCD a2.out q2.out f3)))
   go_ret;exact aDd hR.out (by simp) a5 a9 a3.out (by omega)
end inn
end Go.Proofs.YtdmmkjijgoiecaaGreatDoor
