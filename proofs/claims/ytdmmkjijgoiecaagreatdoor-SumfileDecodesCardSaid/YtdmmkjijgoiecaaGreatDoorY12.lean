import Derived.Lib.BufferRead
import Derived.Test.YtdmmkjijgoiecaaGreatDoorY11
set_option linter.all false
set_option maxHeartbeats 4000000
namespace Go.Proofs.YtdmmkjijgoiecaaGreatDoor
open Lib(hid)
namespace vx
open RowKit Shelf mem vr
attribute [local go_sem] Oper.semAt_some
def gQ(l:List UInt8):List Value:=l.map fun b=>Value.int .u8 (b.toNat:Int)
theorem iI(l:List UInt8):(gQ l).length=l.length:=by simp[gQ]
theorem vU(l:List UInt8)(b:UInt8):gQ l++[Value.int .u8 (b.toNat:Int)] = gQ (l++[b]):=by simp[gQ]
theorem zO:(Tryz.prog.info? 5).map (fun i=>(i.zero,i.size,i.bytes))=some (some (.int .u8 0),1,1):=by kernel_rfl
theorem ta0(a:Value)(l:List Value):(a :: l).toArray[0]? = some a:=by simp
theorem ta1(a b:Value)(l:List Value):(a :: b :: l).toArray[1]? = some b:=by simp
theorem tp0(a v:Value)(l:List Value):(a :: l).toArray.setIfInBounds 0 v=(v :: l).toArray:=by simp
theorem tp1(a b v:Value)(l:List Value):(a :: b :: l).toArray.setIfInBounds 1 v=(a :: v :: l).toArray:=by simp
structure WX(TX:TypeId)(XS:List Value)(w:World)(f:Nat)(A:Option Addr)(cap:Nat)(st:List UInt8×Int):Prop where
 box:bV w f TX (.slice A st.1.length cap :: .int .i64 st.2 :: XS).toArray
 seg:Seg w 5 A cap (gQ st.1)
 ne:5≠TX∧TX≠66
variable {TX:TypeId} {XS:List Value}
theorem WX.c0{w:World}{f:Nat}{A:Option Addr}{cap:Nat}{st:List UInt8×Int}(h:WX TX XS w f A cap st):w.cell? ⟨f,0,none⟩=some (.slice A st.1.length cap):=(h.box.cell 0).trans (ta0 _ _)
theorem WX.c1{w:World}{f:Nat}{A:Option Addr}{cap:Nat}{st:List UInt8×Int}(h:WX TX XS w f A cap st):w.cell? ⟨f,1,none⟩=some (.int .i64 st.2):=(h.box.cell 1).trans (ta1 _ _ _)
theorem WX.nf{w:World}{f:Nat}{A:Option Addr}{cap:Nat}{st:List UInt8×Int}(h:WX TX XS w f A cap st):f∉blk A:=h.seg.ne_box h.box h.ne.1
theorem WX.kept{F:List Nat}{w w':World}{f:Nat}{A:Option Addr}{cap:Nat}{st:List UInt8×Int}(h:WX TX XS w f A cap st)(hf:Fr F w w')(Y:f∉F)(J:∀g∈blk A,g∉F):WX TX XS w' f A cap st:=⟨h.box.kept hf Y,h.seg.kept hf J,h.ne⟩
theorem WX.setE{w:World}{f:Nat}{A:Option Addr}{cap:Nat}{st:List UInt8×Int}(h:WX TX XS w f A cap st)(e:Int):WX TX XS (w.setCell ⟨f,1,none⟩ (.int .i64 e)) f A cap (st.1,e):=
 ⟨by have:=h.box.put 1 (.int .i64 e);rwa[tp1]at this,h.seg.kept ((Fr.refl [f] w).setCell (p:=⟨f,1,none⟩) (Or.inl (by simp)) _) (fun g J e=>by rw[aD]at e;subst e;exact h.nf J),h.ne⟩
def vS(TX:TypeId)(XS:List Value)(w:World)(f:Nat)(A:Option Addr)(st:List UInt8×Int)(e:Ending)(w':World):Prop:=
 e=.returned (.tuple #[])∧∃Y J,WX TX XS w' f Y J st∧Fr (f :: blk A) w w'∧∀g∈blk Y,g∈blk A∨w.heap.size≤g
set_option maxRecDepth 100000 in
theorem aJa(w:World)(f:Nat)(A:Option Addr)(cap:Nat)(st:List UInt8×Int)(n:Int)(h:WX TX XS w f A cap st)(Y:st.2≠0∨n<0∨268435456<n) :
 Calls Tryz.prog 32 #[.pointer (some ⟨f,0,none⟩),.int .i64 n] w (vS TX XS w f A (iK st n)):=by
 have J:WX TX XS (w.alloc (.cells #[.pointer (some ⟨f,0,none⟩)] 66)) f A cap st:=h.kept ((Fr.refl [] w).alloc _) (by simp) (by simp);have c1:(w.alloc (.cells #[.pointer (some ⟨f,0,none⟩)] 66)).cell? ⟨f,1,none⟩=some (.int .i64 st.2):=J.c1;have cb:=dH w (.pointer (some ⟨f,0,none⟩)) 66;have fr:(w.alloc (.cells #[.pointer (some ⟨f,0,none⟩)] 66)).frozen? ⟨f,1,none⟩=false:=J.box.free 1;have H:=hid J;have HF:=hid ((Fr.refl (f :: blk A) w).alloc (.cells #[.pointer (some ⟨f,0,none⟩)] 66));clear h J;obtain⟨S,E⟩:=st;unfold iK;simp only at c1 Y ⊢;by_cases hE:E=0
 ·subst hE
  have hv:Hid ((if(0:Int)≠0 then(S,(0:Int)) else if n<0∨268435456<n then(S,2) else(S++nb n.toNat,0))=(S,2)):=hid (by rw[if_neg (by simp),if_pos (by omega)]);rw[hv.out];clear hv;have hs:=hid (H.out.setE 2);have hf:=hid (HF.out.setCell (p:=⟨f,1,none⟩) (Or.inl (by simp)) (.int .i64 2));have hb:Hid (∀g∈blk A,g∈blk A∨w.heap.size≤g):=hid (fun g hg=>Or.inl hg);by_cases h1:n<0
  ·have d1:decide (n<0)=true:=aC h1
   go_enter Tryz.func32,Tryz.ntmps32;go_wp2_with fail;refine bodyPost_ret (results_none rfl _ _ _) rfl ?_;exact⟨rfl,A,cap,hs.out,hf.out,hb.out⟩
  ·have d1:decide (n<0)=false:=aB h1
   have d2:decide (268435456<n)=true:=aC (by omega);go_enter Tryz.func32,Tryz.ntmps32;go_wp2_with fail;refine bodyPost_ret (results_none rfl _ _ _) rfl ?_;exact⟨rfl,A,cap,hs.out,hf.out,hb.out⟩
 ·have hv:Hid ((if E≠0 then(S,E) else if n<0∨268435456<n then(S,2) else(S++nb n.toNat,0))=(S,E)):=hid (by rw[if_pos hE])
  rw[hv.out];have d0:(E != 0)=true:=by simp;exact hE
  clear hv fr;go_enter Tryz.func32,Tryz.ntmps32;go_wp2_with fail;refine bodyPost_ret (results_none rfl _ _ _) rfl ?_;exact⟨rfl,A,cap,H.out,HF.out,fun g hg=>Or.inl hg⟩
theorem lU{W Y:World}{row:Option Nat}{g:Nat}{t:TypeId}{cs:Array Value}(h:bV W g t cs)(hg:W.grownBy Y row)(hr:∀r,row=some r→∃o:Obj,W.heap[r]? = some o∧o.isCells=false):bV Y g t cs:=by
 refine(hg.block g h.lt (fun e=>?_)).trans h;obtain⟨o,J,hc⟩:=hr g e.symm;unfold bV at h;rw[h]at J;cases J;cases hc
theorem xW{W W':World}{row:Option Nat}{e:TypeId}{A:Option Addr}{cap:Nat}{xs:List Value}(h:Seg W e A cap xs)(hg:W.grownBy W' row)(hr:∀r,row=some r→∃o:Obj,W.heap[r]? = some o∧o.isCells=false):Seg W' e A cap xs:=by
 refine⟨h.1,h.2.1,h.2.2.1,fun a ha=>?_⟩;obtain⟨hs,J,hc,r⟩:=h.2.2.2 a ha;refine⟨hs,J,(hg.block _ (bB.1 hc).1 (fun e=>?_)).trans hc,r⟩;obtain⟨o,Y,hn⟩:=hr _ e.symm;rw[hc]at Y;cases Y;cases hn
structure WI(TX:TypeId)(XS:List Value)(w W:World)(f:Nat)(A A1:Option Addr)(cap1:Nat)(S:List UInt8):Prop where
 wa:WX TX XS W f A1 cap1 (S,0)
 fr:Fr (f :: blk A) w W
 own:∀g∈blk A1,g∈blk A∨w.heap.size≤g
 bx:bV W w.heap.size 66 #[.pointer (some ⟨f,0,none⟩)]
theorem WI.grown{w W W':World}{f:Nat}{A A1:Option Addr}{J:Nat}{S:List UInt8}{row:Option Nat}(h:WI TX XS w W f A A1 J S)(hg:W.grownBy W' row)(hr:∀r,row=some r→w.heap.size≤r∧∃o:Obj,W.heap[r]? = some o∧o.isCells=false):WI TX XS w W' f A A1 J S:=by
 have Y:∀r,row=some r→∃o:Obj,W.heap[r]? = some o∧o.isCells=false:=fun r e=>(hr r e).2
 exact⟨⟨lU h.wa.box hg Y,xW h.wa.seg hg Y,h.wa.ne⟩,h.fr.grown hg (fun k e=>Or.inr (hr k e).1),h.own,lU h.bx hg Y⟩
theorem uS{W W':World}{L:List Nat}(h:Fr L W W')(hc:∀g∈L,∃o:Obj,W.heap[g]? = some o∧o.isCells=true):KeepsOthers W W':=
 ⟨h.size,fun k o Y ho=>by
  have J:k<W.heap.size:=(bB.1 Y).1;refine(h.block k J (fun hm=>?_)).trans Y;obtain⟨o',h1,h2⟩:=hc k hm;rw[Y]at h1;cases h1;rw[ho]at h2
  cases h2⟩
theorem yL{w:World}{e:TypeId}{A:Option Addr}{cap:Nat}{xs:List Value}(h:Seg w e A cap xs):∀g∈blk A,∃o:Obj,w.heap[g]? = some o∧o.isCells=true:=by
 intro g J;cases A with
 | none=>cases J
 | some a=>
  obtain⟨_,Y,hc,_⟩:=h.2.2.2 a rfl;simp only[blk,aD]at J;subst J;exact⟨_,hc,rfl⟩
structure Fin(TX:TypeId)(XS:List Value)(w W w3:World)(f:Nat)(A A3:Option Addr)(cap3 L:Nat)(T:List UInt8):Prop where
 c:∃v,w3.cell? ⟨f,0,none⟩=some v
 fr:w3.frozen? ⟨f,0,none⟩=false
 wi:WI TX XS w (w3.setCell ⟨f,0,none⟩ (.slice A3 (L+1) cap3)) f A A3 cap3 T
 ko:KeepsOthers W (w3.setCell ⟨f,0,none⟩ (.slice A3 (L+1) cap3))
 sx:w3.cell? ⟨w.heap.size,0,none⟩=some (.pointer (some ⟨f,0,none⟩))
theorem uD{w W W1 w3:World}{f:Nat}{A A1 A3:Option Addr}{a3 Y L:Nat}{S:List UInt8}{x:UInt8}(hi:WI TX XS w W f A A1 a3 S)(hL:S.length=L)(hW:Fr [] W W1)(a2:Seg w3 5 A3 Y (gQ S++[Value.int .u8 (x.toNat:Int)]))(f3:Fr (blk A1) W1 w3)(a4:blk A3=blk A1∨blk A3=[W1.heap.size]):Fin TX XS w W w3 f A A3 Y L (S++[x]):=by
 have nf:=hi.wa.nf;have hF:Fr (blk A1) W w3:=hW.trans f3 (by simp) (fun g J=>Or.inl J);have a1:=hi.wa.box.kept hF nf;have a7:f<W.heap.size:=hi.wa.box.lt;have a6:=hi.fr.size;have a5:f∉blk A3:=a2.ne_box a1 hi.wa.ne.1;have a0:Fr [f] w3 (w3.setCell ⟨f,0,none⟩ (.slice A3 (L+1) Y)):=(Fr.refl [f] w3).setCell (Or.inl (by simp)) _;refine⟨⟨_,(a1.cell 0).trans (ta0 _ _)⟩,a1.free 0,⟨⟨?_,?_,hi.wa.ne⟩,?_,?_,?_⟩,?_,?_⟩
 ·have:=a1.put 0 (.slice A3 (L+1) Y)
  rw[tp0]at this;have e:(S++[x],(0:Int)).1.length=L+1:=by simp[hL]
  rw[e];exact this
 ·have:=a2.kept a0 (fun g J e=>by rw[aD]at e;subst e;exact a5 J)
  rwa[vU]at this
 ·have h1:Fr (f :: blk A) w w3:=hi.fr.trans hF (fun g J=>Or.inl J) (fun g J=>(hi.own g J).imp (fun h=>bG _ h) id)
  exact h1.trans a0 (fun g J=>Or.inl J) (fun g J=>Or.inl (by rw[aD]at J;subst J;exact List.mem_cons_self))
 ·intro g J
  rcases a4 with e | e
  ·exact hi.own g (e ▸ J)
  ·rw[e,aD]at J
   have:=hW.size;subst J;exact Or.inr (by omega)
 ·have n1:w.heap.size∉blk A1:=hi.wa.seg.ne_box hi.bx (by decide)
  have n2:w.heap.size∉[f]:=by
   intro e;rw[aD]at e;have h1:=hi.bx;have h2:=hi.wa.box;unfold bV at h1 h2;rw[e,h2]at h1;have h3:=Option.some.inj h1;injection h3 with _ h5;exact hi.wa.ne.2 h5
  exact(hi.bx.kept hF n1).kept a0 n2
 ·exact(uS hF (yL hi.wa.seg)).trans (KeepsOthers.setCell _ _ _)
 ·exact(hi.bx.kept hF (hi.wa.seg.ne_box hi.bx (by decide))).cell 0
set_option maxRecDepth 100000 in
theorem aD0(w:World)(f:Nat)(A:Option Addr)(cap:Nat)(S:List UInt8)(k:Nat)(h:WX TX XS w f A cap (S,0))(hk:k≤268435456)(hl:S.length≤100000000) :
 Calls Tryz.prog 32 #[.pointer (some ⟨f,0,none⟩),.int .i64 k] w (vS TX XS w f A (S++nb k,0)):=by
 have a8:WX TX XS (w.alloc (.cells #[.pointer (some ⟨f,0,none⟩)] 66)) f A cap (S,0):=h.kept ((Fr.refl [] w).alloc _) (by simp) (by simp);have c1:(w.alloc (.cells #[.pointer (some ⟨f,0,none⟩)] 66)).cell? ⟨f,1,none⟩=some (.int .i64 0):=a8.c1;have cb:=dH w (.pointer (some ⟨f,0,none⟩)) 66;have d1:decide ((k:Int)<0)=false:=aB (by omega);have d2:decide (268435456<(k:Int))=false:=aB (by omega);refine(callsIn_wide (n:=6)).1 ?_;refine callsIn_of_wp_marks Tryz.func32 rfl trivial ?_ rfl;simp only[Tryz.ntmps32,List.size_toArray,aG,aI,Nat.reduceAdd,Nat.reduceSub,Array.replicate_succ,Array.replicate_zero,List.push_toArray,List.append_toArray,aX,aW]
 gi_wp2_with (refine⟨trivial,?_⟩;gi_at_call 85;refine(aBv Fence.wide _ trivial rfl k _).mono ?_;rintro e w' ⟨rfl,rfl⟩)
 have ag:WI TX XS w ((w.alloc (.cells #[.pointer (some ⟨f,0,none⟩)] 66)).alloc (.cells #[.int .i64 (k:Int)] 3)) f A A cap S:=by
  refine⟨a8.kept ((Fr.refl [] _).alloc _) (by simp) (by simp),((Fr.refl _ w).alloc _).alloc _,fun g hg=>Or.inl hg,(bV.new w _ _).kept ((Fr.refl [] _).alloc _) (by simp)⟩
 have aj:((w.alloc (.cells #[.pointer (some ⟨f,0,none⟩)] 66)).alloc (.cells #[.int .i64 (k:Int)] 3)).cell? ⟨w.heap.size+1,0,none⟩=some (.int .i64 (k:Int)):=by
  have:=dH (w.alloc (.cells #[.pointer (some ⟨f,0,none⟩)] 66)) (.int .i64 (k:Int)) 3
  rwa[World.size_alloc]at this
 have ao:=lI k hk;refine wpIn_rangeFunc_ownF (F:=Fence.wide) rfl (by omega) (gf:=146) (lb:=#[.pointer (some ⟨w.heap.size+1,0,none⟩)]) rfl trivial (enters_of Tryz.func146 (by kernel_rfl) rfl)
  (xJ Fence.wide _ trivial rfl (by omega) (w.heap.size+1) k hk _ (by simp) aj) (fun _ _=>trivial) (fun _ _ _ _ _ _ _ _=>trivial) (Below.refl _ _) (fun _=>rfl)
  (fun pre W=>∃A1 Y,WI TX XS w W f A A1 Y (S++pre))
  (fun _ _ _=>False)
  (fun s W W' row hs hg hr=>by
   obtain⟨A1,Y,h1⟩:=hs
   exact⟨A1,Y,h1.grown hg (fun r e=>⟨by have:=(hr r e).1;simp at this;omega,(hr r e).2⟩)⟩)
  (fun _ _ _ _ _ hs _ _=>hs)
  ⟨A,cap,by rw[List.append_nil];exact ag⟩
  (fun x=>{ tmps:=#[.pointer (some ⟨f,0,none⟩),.int .i64 k,.pointer (some ⟨w.heap.size,0,none⟩),undef,.int .u8 (x.toNat:Int),.pointer (some ⟨f,0,none⟩),.bool false,.bool false,.pointer (some ⟨f,0,none⟩),.pointer (some ⟨f,0,none⟩),.pointer (some ⟨f,1,none⟩),.int .i64 0,.bool false,.bool false,.int .i64 k,.bool false,.bool false,.int .i64 k,.bool false,.bool false,undef,undef,undef,.int .i64 k,.func (.func 146) #[] #[.pointer (some ⟨w.heap.size+1,0,none⟩)],.int .u8 (x.toNat:Int),undef,undef,undef,undef,undef,undef,undef,undef,undef,undef],defers:=[] }) ?assign ?body ?done ?stop
 case assign=>
  intro l x W K hK
  gi_wp2
  exact hK
 case body=>
  rintro l pre x W ⟨A1,Y,hi⟩ ap;obtain⟨L,hL⟩:∃L,Hid ((S++pre).length=L):=⟨_,hid rfl⟩;have ar:L≤100000005:=by have:=hL.out;rw[aF]at this;omega
  have HI:=hid hi;have c0:W.cell? ⟨f,0,none⟩=some (.slice A1 L Y):=by have:=hi.wa.c0;rw[show((S++pre,(0:Int)).1.length)=L from hL.out]at this;exact this
  have a2:W.drew.cell? ⟨w.heap.size,0,none⟩=some (.pointer (some ⟨f,0,none⟩)):=hi.bx.cell 0;have a6:Hid (Seg (W.drew.alloc (.cells #[.int .u8 (x.toNat:Int)] 5)) 5 A1 Y (gQ (S++pre))):=hid (hi.wa.seg.drew.alloc _);have a5:Hid (Fr [] W (W.drew.alloc (.cells #[.int .u8 (x.toNat:Int)] 5))):=hid ((Fr.refl [] W).drew.alloc _);have ad:Hid (W.drew.cell? ⟨f,0,none⟩=some (.slice A1 L Y)∧(W.drew.alloc (.cells #[.int .u8 (x.toNat:Int)] 5)).cell? ⟨f,0,none⟩=some (.slice A1 L Y)):=hid ⟨c0,(((hi.wa.box.kept a5.out (by simp)).cell 0).trans (by rw[←c0];exact(hi.wa.box.cell 0).symm))⟩;have hlen:Hid (L=(gQ (S++pre)).length):=hid (by rw[iI,hL.out]);have a7:Hid ((W.drew.alloc (.cells #[.int .u8 (x.toNat:Int)] 5)).cell? ⟨w.heap.size,0,none⟩=some (.pointer (some ⟨f,0,none⟩))):=hid ((hi.bx.kept a5.out (by simp)).cell 0);obtain⟨i0,a9,ah,ai,af⟩:=info_parts zO;have Hi:=hid a9
  have aa:=hid ah;have ak:=hid ai;have ae:=hid af;clear hi c0 a9 ah ai af h a8 c1 cb ag aj;refine wpIn_block ?_;refine xS (S:=fun W'=>W'.cell? ⟨w.heap.size,0,none⟩=some (.pointer (some ⟨f,0,none⟩))) (by kernel_rfl) (by intro i o ho c hc;rcases i with _ | _ | _ | _ | _ | _ | _ | _ | _ | _ | _ | i <;> simp at ho <;> subst ho <;> cases hc) ?_;refine wpAnyH_take (i:=0) (v:=(.pointer (some ⟨f,0,none⟩))) rfl (by kernel_rfl) (by kernel_rfl) (by kernel_rfl) (fun _ _ _ h=>absurd h.1 (by simp)) (Or.inl ⟨by rfl,?_⟩) a2 ?_
  ·intro W' a0
   go_simp
  try simp only[Act.put,aO,aP,aQ]
  refine wpAnyH_take (i:=1) (v:=(.pointer (some ⟨f,0,none⟩))) rfl (by kernel_rfl) (by kernel_rfl) (by kernel_rfl) (fun _ _ _ h=>absurd h.1 (by simp)) (Or.inl ⟨by rfl,?_⟩) a2 ?_
  ·intro W' a0
   go_simp
  try simp only[Act.put,aO,aP,aQ]
  refine wpAnyH_take (i:=2) (v:=(.pointer (some ⟨f,0,none⟩))) rfl (by kernel_rfl) (by kernel_rfl) (by kernel_rfl) (fun _ _ _ h=>absurd h.1 (by simp)) (Or.inl ⟨by rfl,?_⟩) a2 ?_
  ·intro W' a0
   go_simp
  try simp only[Act.put,aO,aP,aQ]
  refine wpAnyH_take (i:=3) (v:=(.pointer (some ⟨f,0,none⟩))) rfl (by kernel_rfl) (by kernel_rfl) (by kernel_rfl) (fun _ _ _ h=>absurd h.1 (by simp)) (Or.inl ⟨by rfl,?_⟩) a2 ?_
  ·intro W' a0
   go_simp
  try simp only[Act.put,aO,aP,aQ]
  refine wpAnyH_take (i:=5) (v:=(.int .u8 (x.toNat:Int))) rfl (by kernel_rfl) (by kernel_rfl) (by kernel_rfl) (fun _ _ _ h=>absurd h.1 (by simp)) (Or.inl ⟨by rfl,?_⟩) a2 ?_
  ·intro W' a0
   go_simp
  try simp only[Act.put,aO,aP,aQ]
  refine wpAnyH_ready (rs:=[4,6]) (by kernel_rfl) (by simp) ?_;refine AllReadyH.cons rfl (fun K hK=>?_) (AllReadyH.cons rfl (fun K hK=>?_) AllReadyH.nil)
  ·have c0:=ad.out.1
   go_simp;refine hK.out _ _ a2 (fun _=>?_);clear hK
   try simp only[Act.put,aO,aP,aQ]
   refine wpAnyH_ready (rs:=[6]) (by kernel_rfl) (by simp) ?_;refine AllReadyH.cons rfl (fun K hK=>?_) AllReadyH.nil;go_simp;refine hK.out _ _ a7.out (fun _=>?_);clear hK c0
   try simp only[Act.put,aO,aP,aQ]
   refine wpAnyH_ready (rs:=[7]) (by kernel_rfl) (by simp) ?_;refine AllReadyH.cons rfl (fun K hK=>?_) AllReadyH.nil;refine pW (by rfl) (.tmp 30) (.tmp 32) _ (by rfl) a6.out hlen.out Tryz.underlying44 Hi.out aa.out ak.out ae.out rfl (by rfl) (by rfl) (dH _ _ _) rfl (by omega) (by omega) ?_;intro A3 a3 w3 a4 f3 a1;have J:=hid (uD HI.out hL.out a5.out a4 f3 a1);clear a4 f3 a1;refine hK.out _ _ J.out.sx (fun _=>?_);clear hK
   try simp only[Act.put,aO,aP,aQ]
   refine wpAnyH_take (i:=8) (v:=(.pointer (some ⟨f,0,none⟩))) rfl (by kernel_rfl) (by kernel_rfl) (by kernel_rfl) (fun _ _ _ h=>absurd h.1 (by simp)) (Or.inl ⟨by rfl,?_⟩) J.out.sx ?_
   ·intro W' a0
    go_simp
   try simp only[Act.put,aO,aP,aQ]
   refine wpAnyH_take (i:=9) (v:=(.pointer (some ⟨f,0,none⟩))) rfl (by kernel_rfl) (by kernel_rfl) (by kernel_rfl) (fun _ _ _ h=>absurd h.1 (by simp)) (Or.inl ⟨by rfl,?_⟩) J.out.sx ?_
   ·intro W' a0
    go_simp
   try simp only[Act.put,aO,aP,aQ]
   obtain⟨v3,am⟩:=J.out.c;have a1:=J.out.fr;refine wpAnyH_ready (rs:=[10]) (by kernel_rfl) (by simp) ?_;refine AllReadyH.cons rfl (fun K hK=>?_) AllReadyH.nil;go_simp;refine hK.out _ _ (J.out.wi.bx.cell 0) (fun _=>?_);refine wpAnyH_done (by kernel_rfl) ?_ _;refine⟨rfl,?_⟩;exact⟨J.out.ko,trivial,A3,a3,by have:=J.out.wi;rwa[aS]at this⟩
  ·go_simp
   refine hK.out _ _ a7.out (fun _=>?_);clear hK
   try simp only[Act.put,aO,aP,aQ]
   have c0:(W.alloc (.cells #[.int .u8 (x.toNat:Int)] 5)).cell? ⟨f,0,none⟩=some (.slice A1 L Y):=ad.out.2;refine wpAnyH_ready (rs:=[4]) (by kernel_rfl) (by simp) ?_;refine AllReadyH.cons rfl (fun K hK=>?_) AllReadyH.nil;go_simp;refine hK.out _ _ a7.out (fun _=>?_);clear hK c0
   try simp only[Act.put,aO,aP,aQ]
   refine wpAnyH_ready (rs:=[7]) (by kernel_rfl) (by simp) ?_;refine AllReadyH.cons rfl (fun K hK=>?_) AllReadyH.nil;refine pW (by rfl) (.tmp 30) (.tmp 32) _ (by rfl) a6.out hlen.out Tryz.underlying44 Hi.out aa.out ak.out ae.out rfl (by rfl) (by rfl) (dH _ _ _) rfl (by omega) (by omega) ?_;intro A3 a3 w3 a4 f3 a1;have J:=hid (uD HI.out hL.out a5.out a4 f3 a1);clear a4 f3 a1;refine hK.out _ _ J.out.sx (fun _=>?_);clear hK
   try simp only[Act.put,aO,aP,aQ]
   refine wpAnyH_take (i:=8) (v:=(.pointer (some ⟨f,0,none⟩))) rfl (by kernel_rfl) (by kernel_rfl) (by kernel_rfl) (fun _ _ _ h=>absurd h.1 (by simp)) (Or.inl ⟨by rfl,?_⟩) J.out.sx ?_
   ·intro W' a0
    go_simp
   try simp only[Act.put,aO,aP,aQ]
   refine wpAnyH_take (i:=9) (v:=(.pointer (some ⟨f,0,none⟩))) rfl (by kernel_rfl) (by kernel_rfl) (by kernel_rfl) (fun _ _ _ h=>absurd h.1 (by simp)) (Or.inl ⟨by rfl,?_⟩) J.out.sx ?_
   ·intro W' a0
    go_simp
   try simp only[Act.put,aO,aP,aQ]
   obtain⟨v3,am⟩:=J.out.c;have a1:=J.out.fr;refine wpAnyH_ready (rs:=[10]) (by kernel_rfl) (by simp) ?_;refine AllReadyH.cons rfl (fun K hK=>?_) AllReadyH.nil;go_simp;refine hK.out _ _ (J.out.wi.bx.cell 0) (fun _=>?_);refine wpAnyH_done (by kernel_rfl) ?_ _;refine⟨rfl,?_⟩;exact⟨J.out.ko,trivial,A3,a3,by have:=J.out.wi;rwa[aS]at this⟩
 case done=>
  rintro D ys W hD rfl ⟨A1,Y,hi⟩ hK
  gi_wp2
  refine⟨by simp,.inl ⟨_,_,rfl,run_takeDeferred hK,?_⟩⟩;have hw:=hi.grown (grownBy_putObj' W D (.deferred none)) (fun r e=>by cases e;exact⟨by simp at hD;omega,_,hK,rfl⟩);exact⟨_,results_none rfl _ _ _,rfl,A1,Y,hw.wa,hw.fr,hw.own⟩
 case stop=>
  rintro D c pre W hD _ h _;exact h.elim
theorem aBS(w:World)(f:Nat)(A:Option Addr)(cap:Nat)(st:List UInt8×Int)(n:Int)(h:WX TX XS w f A cap st)(hl:st.1.length≤100000000) :
 Calls Tryz.prog 32 #[.pointer (some ⟨f,0,none⟩),.int .i64 n] w (vS TX XS w f A (iK st n)):=by
 by_cases J:st.2≠0∨n<0∨268435456<n
 ·exact aJa w f A cap st n h J
 ·obtain⟨S,E⟩:=st
  simp only[not_or,Decidable.not_not]at J;obtain⟨rfl,h1,Y⟩:=J;obtain⟨k,rfl⟩:=Int.eq_ofNat_of_zero_le (by omega:0≤n);have e:iK (S,0) (k:Int)=(S++nb k,0):=by unfold iK;rw[if_neg (by simp),if_neg (by omega)];rfl
  rw[e];exact aD0 w f A cap S k h (by omega) hl
theorem aAp(w:World)(A:Option Addr)(cap:Nat)(S:List UInt8)(h:Seg w 5 A cap (gQ S)):(convert 44 9 (.slice A S.length cap)).run Tryz.prog w=.ok (.string (bs S)) w:=by
 cases A with
 | none=>
  obtain⟨h1,rfl⟩:=h.empty;have J:S=[]:=by
   have:=congrArg List.length h1;rw[iI]at this;exact List.eq_nil_of_length_eq_zero this
  subst J;exact Lib.run_convert_nil_bytes w _ _ 5 0 Tryz.underlying44 Tryz.underlying5 Tryz.underlying9
 | some a=>
  refine run_convert_bytes_back (P:=Tryz.prog) w 44 9 5 a cap S Tryz.underlying44 Tryz.underlying5 Tryz.underlying9 (fun j Y=>?_);obtain⟨g,off,e,_,hc⟩:=h.at_ (by rw[iI];omega);cases e;have e1:(⟨g,off,none⟩:Addr).add j=⟨g,off+j,none⟩:=by unfold Addr.add;split <;> simp_all
  rw[e1,hc j (by rw[iI];exact Y)];simp[gQ]
set_option maxRecDepth 100000 in
theorem aBM(w:World)(f:Nat)(A:Option Addr)(cap:Nat)(st:List UInt8×Int)(h:WX TX XS w f A cap st) :
 Calls Tryz.prog 35 #[.pointer (some ⟨f,0,none⟩)] w fun e w'=>e=.returned (.tuple #[.string (bs (qJ st)),.int .i64 st.2])∧Below w.heap.size w w':=by
 have c0:w.cell? ⟨f,0,none⟩=some (.slice A st.1.length cap):=h.c0;have c1:w.cell? ⟨f,1,none⟩=some (.int .i64 st.2):=h.c1;have J:=aAp w A cap st.1 h.seg;clear h;obtain⟨S,E⟩:=st;unfold qJ;simp only at c0 c1 J ⊢;by_cases Y:E=0
 ·subst Y
  have hv:Hid ((if(0:Int)≠0 then([]:List UInt8) else S)=S):=hid (if_neg (by simp));rw[hv.out];clear hv;go_enter Tryz.func35,Tryz.ntmps35;go_wp2_with fail;go_ret2;exact⟨rfl,Below.refl _ _⟩
 ·have hv:Hid ((if E≠0 then([]:List UInt8) else S)=[]):=hid (if_pos Y)
  rw[hv.out];have d0:(E != 0)=true:=by simp;exact Y
  clear hv;go_enter Tryz.func35,Tryz.ntmps35;go_wp2_with fail;go_region;go_wp2_with fail;go_ret2;exact⟨rfl,(Below.refl _ _).drew⟩
end vx
namespace vr
open RowKit Shelf mem
theorem aKd{P:Program}{w:World}{e t tx ty:TypeId}{A:Option Addr}{cap bytes:Nat}{xs:List Value}{i:TypeInfo}{z:Value}(h:Seg w e A cap xs)(s:ByteArray)(hx:P.underlying tx=some .string)(ht:P.underlying t=some (.slice e))(hi:P.info? e=some i)(hz:i.zero=some z)(hs:i.size=1)(hb:i.bytes=bytes)(a9:z.cells.size=1)
 (af:xs.length+s.size≤9223372036854775807) (ae:(xs.length+s.size) * bytes≤140737488355328) :
 ∃A' a3 w',(Builtin.append_ #[t,tx] ty #[.slice A xs.length cap,.string s]).run P w=.ok (.slice A' (xs.length+s.size) a3) w'∧Seg w' e A' a3 (xs++byteCells s)∧Fr (blk A) w w'∧(blk A'=blk A∨blk A'=[w.heap.size]):=by
 have a1:Src P i.size tx (.string s) s.size (byteCells s) w:=by rw[hs];exact Src.ofString w hx s
 have a4:(byteCells s).length=s.size:=byteCells_length s;by_cases Y:xs.length+s.size≤cap
 ·rcases A with _ | a
  ·obtain⟨rfl,rfl⟩:=h.empty
   have a8:s.size=0:=by simpa using Y
   have a7:byteCells s=[]:=List.eq_nil_of_length_eq_zero (by omega);refine⟨none,0,w,?_,by rw[a7];exact Seg.nil w e,Fr.refl _ w,Or.inl rfl⟩;have a6:=a1.cells;rw[hs,a8,a7]at a6;simp[Builtin.append_,run_underlying ht,run_underlying hx,sizeOf,typeInfo,hi,Builtin.lenOf,a8,a6];simp[Builtin.firstCells]
  ·obtain⟨J,a0,hc,hl,a5⟩:=h.2.2.2 a rfl
   obtain⟨g,off,spot⟩:=a;have J:spot=none:=J;subst J;have hl:off+cap≤a0.size:=hl;have hc:w.heap[g]? = some (.cells a0 e (0,0)):=hc
   have hr:=run_append_room_src (P:=P) w t tx ty e i ht hi g off xs.length cap _ s.size (byteCells s) a1 Y (fun j hj=>by
    rw[hs,Nat.mul_one,cell_of_row w g _ a0 e (0,0) hc,Array.getElem?_eq_getElem (by omega)];rfl) (fun j hj=>by simp[World.frozen?,hc])
   rw[hs,Nat.mul_one]at hr;obtain⟨a2,k1,k2,k3,k4⟩:=lC g e (byteCells s) (off+xs.length) w a0 hc (by omega);refine⟨_,_,_,hr,⟨by rw[aF,a4];exact Y,h.2.1,fun hn=>(by cases hn),fun a ha=>?_⟩,mK g (byteCells s) _ w,Or.inl rfl⟩;cases ha;refine⟨rfl,a2,k1,by rw[k2];exact hl,fun j u hu=>?_⟩;rcases Nat.lt_or_ge j xs.length with hj | hj
   ·rw[List.getElem?_append_left hj]at hu
    show a2[off+j]? = _;rw[k4 _ (Or.inl (by omega))];exact a5 j u hu
   ·rw[List.getElem?_append_right hj]at hu
    show a2[off+j]? = _;have:=k3 _ u hu
    rwa[show off+xs.length+(j-xs.length)=off+j by omega]at this
 ·have hold:(Builtin.firstCells i.size xs.length (.slice A xs.length cap)).run P w.drew=.ok xs.toArray w.drew:=by
   rcases A with _ | a
   ·obtain⟨rfl,rfl⟩:=h.empty
    exact run_firstCells_none w.drew i.size 0 0 0
   ·obtain⟨J,a0,hc,hl,a5⟩:=h.2.2.2 a rfl
    obtain⟨g,off,spot⟩:=a;have J:spot=none:=J;subst J
    exact run_firstCells_some w.drew i.size xs.length ⟨g,off,none⟩ xs.length cap xs (by rw[hs,Nat.mul_one]) (fun j v hv=>by
     have e1:(⟨g,off,none⟩:Addr).add j=⟨g,off+j,none⟩:=by unfold Addr.add;split <;> simp_all
     rw[e1];show w.cell? _=_;rw[cell_of_row w g (off+j) a0 e (0,0) hc]
     exact a5 j v hv)
  have hlen:=h.1;have hr:=run_append_grow_src (P:=P) w t tx ty e i z ht hi hz A xs.length cap xs hold _ s.size (byteCells s) a1 (by omega) (by omega) (growslice_fits (by omega) (by rw[hb];exact ae));have aa:=grownCap_ge w (xs.length+s.size) cap e;have ad:grownCap w (xs.length+s.size) cap e≤maxLen:=grownCap_le_maxLen w (xs.length+s.size) cap e (by unfold maxLen;omega);refine⟨_,_,_,hr,?_,(Fr.refl _ w).drew.alloc _,Or.inr rfl⟩;refine⟨by rw[aF,a4];exact aa,ad,fun hn=>(by cases hn),fun a ha=>?_⟩;cases ha;refine⟨rfl,_,heap_alloc_new w.drew _,?_,fun j v hv=>?_⟩
  ·show 0+_≤_
   simp only[Array.size_append,List.size_toArray,aF,size_zeroCells,a9,a4];omega
  ·show(_:Array Value)[0+j]? = some v
   have hj:=(List.getElem?_eq_some_iff.1 hv).1;rw[Nat.zero_add,Array.getElem?_append_left (by simpa using hj)]
   simpa using hv
theorem aEl{P:Program}{w:World}{ops:Array Oper}{rest:List Oper}{o:Oper}{a:Act}{Q:Exit→Act→World→Prop}(a2:o.guard=none)(s x:Operand)(t tx:TypeId)
 (ho:o.op=.call { callee:=.builtin .append,args:=#[s,x],argTypes:=#[t,tx] }) {e:TypeId} {A:Option Addr} {cap n bytes:Nat} {xs:List Value} {b:ByteArray} {i:TypeInfo} {z:Value} (h:Seg w e A cap xs) (hn:n=xs.length) (hx:P.underlying tx=some .string) (ht:P.underlying t=some (.slice e)) (hi:P.info? e=some i) (hz:i.zero=some z) (hs:i.size=1) (hb:i.bytes=bytes) (a4:z.cells.size=1)
 (a0:a.eval s=.slice A n cap) (hex:a.eval x=.string b) (a5:n+b.size≤9223372036854775807) (a1:(n+b.size) * bytes≤140737488355328)
 (hK:∀Y J w',Seg w' e Y J (xs++byteCells b)→Fr (blk A) w w'→(blk Y=blk A∨blk Y=[w.heap.size])→wpList P ops Q rest (a.put o.dst (.slice Y (n+b.size) J)) w'):wpList P ops Q (o :: rest) a w:=by
 subst hn;refine wpList_plain a2 fun K a3=>?_
 obtain⟨Y,J,w',hr,h2,h3,h4⟩:=aKd (ty:=o.type) h b hx ht hi hz hs hb a4 a5 a1;unfold Oper.wp execOp;simp only[ho,resolve,invoke,builtin,Sem.run_bind,Sem.run_pure,Result.andThen_ok,List.map_toArray,aV,aU,a0,hex,hr];exact a3 _ _ (hK Y J w' h2 h3 h4)
open RowKit mem
theorem aGK(l:List UInt8)(s:ByteArray):gQ l++byteCells s=gQ (l++s.data.toList):=by simp[gQ,byteCells]
theorem aBS(w:World)(f:Nat)(A:Option Addr)(cap:Nat)(st:List UInt8×Int)(n:Int)(h:WA w f A cap st)(hl:st.1.length≤100000000) :
 Calls Tryz.prog 32 #[.pointer (some ⟨f,0,none⟩),.int .i64 n] w (vS w f A (iK st n)):=by
 by_cases J:st.2≠0∨n<0∨268435456<n
 ·exact aJa w f A cap st n h J
 ·obtain⟨S,E⟩:=st
  simp only[not_or,Decidable.not_not]at J;obtain⟨rfl,h1,Y⟩:=J;obtain⟨k,rfl⟩:=Int.eq_ofNat_of_zero_le (by omega:0≤n);have e:iK (S,0) (k:Int)=(S++nb k,0):=by unfold iK;rw[if_neg (by simp),if_neg (by omega)];rfl
  rw[e];exact aD0 w f A cap S k h (by omega) hl
structure aM1(w w3:World)(f:Nat)(A A3:Option Addr)(cap3 L:Nat)(T:List UInt8):Prop where
 c:∃v,w3.cell? ⟨f,0,none⟩=some v
 fr:w3.frozen? ⟨f,0,none⟩=false
 wa:WA (w3.setCell ⟨f,0,none⟩ (.slice A3 L cap3)) f A3 cap3 (T,0)
 f:Fr (f :: blk A) w (w3.setCell ⟨f,0,none⟩ (.slice A3 L cap3))
 own:∀g∈blk A3,g∈blk A∨w.heap.size≤g
theorem aHL{w w2 w3:World}{f:Nat}{A A2 A3:Option Addr}{a3 Y:Nat}{T:List UInt8}{s:ByteArray}(h2:WA w2 f A2 a3 (T,0))(hf:Fr (f :: blk A) w w2)(ho:∀g∈blk A2,g∈blk A∨w.heap.size≤g)
 (a2:Seg w3 5 A3 Y (gQ T++byteCells s)) (f3:Fr (blk A2) w2 w3) (a5:blk A3=blk A2∨blk A3=[w2.heap.size]):aM1 w w3 f A A3 Y (T.length+s.size) (T++s.data.toList):=by
 have a0:=h2.box.kept f3 h2.nf;have a4:f∉blk A3:=a2.ne_box a0 (by decide);have a1:Fr [f] w3 (w3.setCell ⟨f,0,none⟩ (.slice A3 (T.length+s.size) Y)):=(Fr.refl [f] w3).setCell (Or.inl (by simp)) _;refine⟨⟨_,a0.cell 0⟩,a0.free 0,⟨?_,?_⟩,?_,?_⟩
 ·have:=a0.put 0 (.slice A3 (T.length+s.size) Y)
  have e:(T++s.data.toList,(0:Int)).1.length=T.length+s.size:=by
   show(T++s.data.toList).length=_;rw[aF,Array.length_toList];rfl
  rw[e];exact this
 ·have:=a2.kept a1 (fun g J e=>by rw[aD]at e;subst e;exact a4 J)
  rwa[aGK]at this
 ·have h1:Fr (f :: blk A) w w3:=hf.trans f3 (fun g J=>Or.inl J) (fun g J=>(ho g J).imp (fun h=>bG _ h) id)
  exact h1.trans a1 (fun g J=>Or.inl J) (fun g J=>Or.inl (by rw[aD]at J;subst J;exact List.mem_cons_self))
 ·intro g J
  rcases a5 with e | e
  ·exact ho g (e ▸ J)
  ·rw[e,aD]at J
   have:=hf.size;subst J;exact Or.inr this
set_option maxRecDepth 100000 in
theorem aHZ(w:World)(f:Nat)(A:Option Addr)(cap:Nat)(st:List UInt8×Int)(s:ByteArray)(h:WA w f A cap st)(hl:st.1.length≤100000000) :
 Calls Tryz.prog 34 #[.pointer (some ⟨f,0,none⟩),.string s] w (vS w f A (aG9 st s)):=by
 have c1:w.cell? ⟨f,1,none⟩=some (.int .i64 st.2):=h.box.cell 1;have fr:=h.box.free 1;have H:=hid h;have KN:=hid (aBS w f A cap st (s.size:Int) h hl);clear h;obtain⟨S,E⟩:=st;unfold aG9;simp only at c1 hl ⊢;by_cases hE:E=0
 ·subst hE
  by_cases h1:200000<(s.size:Int)
  ·have d1:decide (200000<(s.size:Int))=true:=aC h1
   have hv:Hid ((if(0:Int)≠0 then(S,(0:Int)) else if 200000<(s.size:Int) then(S,9) else(S++(nb s.size++s.data.toList),0))=(S,9)):=hid (by rw[if_neg (by simp),if_pos h1]);rw[hv.out];clear hv KN;have hs:=hid (H.out.setE 9);have hf:=hid ((Fr.refl (f :: blk A) w).setCell (p:=⟨f,1,none⟩) (Or.inl (by simp)) (.int .i64 9));go_enter Tryz.func34,Tryz.ntmps34;go_wp2_with fail;go_end0;exact⟨rfl,A,cap,hs.out,hf.out,fun g hg=>Or.inl hg⟩
  ·have d1:decide (200000<(s.size:Int))=false:=aB h1
   have hv:Hid ((if(0:Int)≠0 then(S,(0:Int)) else if 200000<(s.size:Int) then(S,9) else(S++(nb s.size++s.data.toList),0))=(S++nb s.size++s.data.toList,0)):=hid (by rw[if_neg (by simp),if_neg h1,aS]);rw[hv.out];have a8:iK (S,0) (s.size:Int)=(S++nb s.size,0):=by unfold iK;rw[if_neg (by simp),if_neg (by omega)];rfl
   rw[a8]at KN;have af:=lI s.size (by omega);have ao:(S++nb s.size).length≤100000005:=by rw[aF];omega
   have ak:s.size≤200000:=by omega
   clear hv a8 fr af;generalize S++nb s.size=T at *;obtain⟨i0,a0,aa,a7,a6⟩:=info_parts zO;have Hi:=hid a0;have ag:=hid aa;have aj:=hid a7;have ah:=hid a6;clear a0 aa a7 a6;have a9:Hid (Calls Tryz.prog 32 #[.pointer (some ⟨f,0,none⟩),.int .i64 (s.size:Int)] w fun e w'=>e=.returned (.tuple #[])∧∃A' a1,WA w' f A' a1 (T,0)∧Fr (f :: blk A) w w'∧∀g∈blk A',g∈blk A∨w.heap.size≤g):=KN;clear KN;go_enter Tryz.func34,Tryz.ntmps34;go_wp2_with fail;refine a9.out.mono ?_;rintro e w2 ⟨rfl,A2,a4,h2,a5,ad⟩;have H2:=hid h2;have ai:=hid a5;have ae:=hid ad;have c0:w2.cell? ⟨f,0,none⟩=some (.slice A2 T.length a4):=h2.box.cell 0;clear h2 a5 ad c1 a9
   go_wp2_with (at_builtin
                refine aEl (n:=T.length) rfl (.tmp 27) (.tmp 28) _ _ rfl H2.out.seg (iI T).symm Tryz.underlying9 Tryz.underlying44 Hi.out ag.out aj.out ah.out rfl rfl rfl (by omega) (by omega) ?_;intro A3 a2 w3 a3 f3 Y;have J:=hid (aHL H2.out ai.out ae.out a3 f3 Y);clear a3 f3 Y c0;obtain⟨v3,am⟩:=J.out.c
                have Y:=J.out.fr)
   go_end0;exact⟨rfl,A3,a2,J.out.wa,J.out.f,J.out.own⟩
 ·have hv:Hid ((if E≠0 then(S,E) else if 200000<(s.size:Int) then(S,9) else(S++(nb s.size++s.data.toList),0))=(S,E)):=hid (by rw[if_pos hE])
  rw[hv.out];have d0:(E != 0)=true:=by simp;exact hE
  clear hv fr KN;go_enter Tryz.func34,Tryz.ntmps34;go_wp2_with fail;go_end0;exact⟨rfl,A,cap,H.out,Fr.refl _ _,fun g hg=>Or.inl hg⟩
theorem aAp(w:World)(A:Option Addr)(cap:Nat)(S:List UInt8)(h:Seg w 5 A cap (gQ S)):(convert 44 9 (.slice A S.length cap)).run Tryz.prog w=.ok (.string (bs S)) w:=by
 cases A with
 | none=>
  obtain⟨h1,rfl⟩:=h.empty;have J:S=[]:=by
   have:=congrArg List.length h1;rw[iI]at this;exact List.eq_nil_of_length_eq_zero this
  subst J;exact Lib.run_convert_nil_bytes w _ _ 5 0 Tryz.underlying44 Tryz.underlying5 Tryz.underlying9
 | some a=>
  refine run_convert_bytes_back (P:=Tryz.prog) w 44 9 5 a cap S Tryz.underlying44 Tryz.underlying5 Tryz.underlying9 (fun j Y=>?_);obtain⟨g,off,e,_,hc⟩:=h.at_ (by rw[iI];omega);cases e;have e1:(⟨g,off,none⟩:Addr).add j=⟨g,off+j,none⟩:=by unfold Addr.add;split <;> simp_all
  rw[e1,hc j (by rw[iI];exact Y)];simp[gQ]
set_option maxRecDepth 100000 in
theorem aBM(w:World)(f:Nat)(A:Option Addr)(cap:Nat)(st:List UInt8×Int)(h:WA w f A cap st) :
 Calls Tryz.prog 35 #[.pointer (some ⟨f,0,none⟩)] w fun e w'=>e=.returned (.tuple #[.string (bs (qJ st)),.int .i64 st.2])∧Below w.heap.size w w':=by
 have c0:w.cell? ⟨f,0,none⟩=some (.slice A st.1.length cap):=h.box.cell 0;have c1:w.cell? ⟨f,1,none⟩=some (.int .i64 st.2):=h.box.cell 1;have J:=aAp w A cap st.1 h.seg;clear h;obtain⟨S,E⟩:=st;unfold qJ;simp only at c0 c1 J ⊢;by_cases Y:E=0
 ·subst Y
  have hv:Hid ((if(0:Int)≠0 then([]:List UInt8) else S)=S):=hid (if_neg (by simp));rw[hv.out];clear hv;go_enter Tryz.func35,Tryz.ntmps35;go_wp2_with fail;go_ret2;exact⟨rfl,Below.refl _ _⟩
 ·have hv:Hid ((if E≠0 then([]:List UInt8) else S)=[]):=hid (if_pos Y)
  rw[hv.out];have d0:(E != 0)=true:=by simp;exact Y
  clear hv;go_enter Tryz.func35,Tryz.ntmps35;go_wp2_with fail;go_region;go_wp2_with fail;go_ret2;exact⟨rfl,(Below.refl _ _).drew⟩
theorem aL8(i:Nat):2 ^ (7 * (i+1))=128 * 2 ^ (7 * i):=by
 rw[Nat.mul_add,Nat.pow_add,Nat.mul_comm]
theorem split_mul(k P:Nat):k * P=k % 128 * P+k / 128 * (128 * P):=by
 conv=>lhs;rw[←Nat.mod_add_div k 128]
 rw[Nat.add_mul,Nat.mul_comm 128 (k / 128),Nat.mul_assoc]
theorem aJJ:∀(f:Nat) (k i m:Nat) (r:List UInt8),k≤f→i≤4→(0<i→0<k)→m+k * 2 ^ (7 * i)≤268435456→cntF i m (nb k++r)=(m+k * 2 ^ (7 * i),i+(nb k).length,0):=by
 intro f
 induction f with
 | zero=>
  intro k i m r hk hi h0 hb;obtain rfl:k=0:=by omega
  have J:i=0:=by
   rcases Nat.eq_zero_or_pos i with h | h
   ·exact h
   ·have:=h0 h;omega
  subst J;rw[iF 0 (by omega)];show cntF 0 m (xQ 0 :: r)=_;unfold cntF;rw[sG 0 (by omega),if_neg (by omega),if_neg (by omega),if_pos (by omega)];simp
 | succ f ih=>
  intro k i m r hk hi h0 hb;by_cases Y:k<128
  ·rw[iF k Y]
   show cntF i m (xQ k :: r)=_;unfold cntF;have e:k % 128=k:=Nat.mod_eq_of_lt Y;rw[sG k (by omega),e,if_neg (by omega),if_neg,if_pos Y]
   ·simp
   ·rintro(⟨rfl,h2⟩ | h2)
    ·have:2 ^ (7 * 4)=268435456:=by decide
     rw[this]at hb;omega
    ·omega
  ·have a1:=split_mul k (2 ^ (7 * i))
   have a0:i<4:=by
    rcases Nat.lt_or_ge i 4 with h | h
    ·exact h
    ·obtain rfl:i=4:=by omega
     have:2 ^ (7 * 4)=268435456:=by decide
     rw[this]at hb;omega
   rw[nH k (by omega)];show cntF i m (xQ (k % 128+128) :: (nb (k / 128)++r))=_;have e:(k % 128+128) % 128=k % 128:=by omega
   have hx:cntF i m (xQ (k % 128+128) :: (nb (k / 128)++r))=cntF (i+1) (m+k % 128 * 2 ^ (7 * i)) (nb (k / 128)++r):=by
    conv=>lhs;unfold cntF
    rw[sG _ (by omega),e,if_neg (by omega),if_neg (by omega),if_neg (by omega),if_neg (by omega)]
   rw[hx,ih (k / 128) (i+1) _ r (by omega) (by omega) (by omega) (by rw[aL8];omega),aL8];simp only[aG,Prod.mk.injEq];refine⟨by omega,by omega,trivial⟩
theorem aAl(k:Nat)(r:List UInt8)(h:k≤268435456):cnt (nb k++r)=(k,(nb k).length,0):=by
 have:=aJJ k k 0 0 r (aY _) (by omega) (by omega) (by simpa using h);unfold cnt;rw[this];simp
theorem aAy:∀(l:List UInt8) (i m v sz:Nat),cntF i m l=(v,sz,0)→∃k r,l=nb k++r∧v=m+k * 2 ^ (7 * i)∧sz=i+(nb k).length∧(0<i→0<k)
 | [],i,m,v,sz,h=>by simp[cntF]at h
 | b :: r,i,m,v,sz,h=>by
  have hb:=b.toNat_lt;unfold cntF at h;split at h
  ·simp at h
  ·rename_i h0
   split at h
   ·simp at h
   ·split at h
    ·rename_i J
     simp only[Prod.mk.injEq]at h;obtain⟨rfl,rfl,_⟩:=h;have e:xQ b.toNat=b:=by unfold xQ;simp
     refine⟨b.toNat,r,?_,?_,?_,by omega⟩
     ·rw[iF _ J,e];rfl
     ·rw[Nat.mod_eq_of_lt J]
     ·rw[iF _ J];rfl
    ·rename_i J
     split at h
     ·simp at h
     ·obtain⟨k,r',rfl,rfl,rfl,h2⟩:=aAy r (i+1) _ v sz h
      have hk:=h2 (by omega);have hd:(b.toNat % 128+128 * k) % 128=b.toNat % 128:=by omega
      have Y:(b.toNat % 128+128 * k) / 128=k:=by omega
      have e:xQ (b.toNat % 128+128)=b:=by
       have e2:b.toNat % 128+128=b.toNat:=by omega
       rw[e2];unfold xQ;simp
      have hn:nb (b.toNat % 128+128 * k)=b :: nb k:=by rw[nH _ (by omega),hd,Y,e]
      refine⟨b.toNat % 128+128 * k,r',by rw[hn];rfl,?_,by rw[hn];simp;omega,by omega⟩;rw[split_mul (b.toNat % 128+128 * k) (2 ^ (7 * i)),hd,Y,aL8];omega
theorem aBD(l:List UInt8)(v sz:Nat)(h:cnt l=(v,sz,0)):∃r,l=nb v++r∧sz=(nb v).length:=by
 obtain⟨k,r,Y,J,h3,_⟩:=aAy l 0 0 v sz h;have:k=v:=by simpa using J.symm
 subst this;exact⟨r,Y,by omega⟩
end vr
end Go.Proofs.YtdmmkjijgoiecaaGreatDoor
