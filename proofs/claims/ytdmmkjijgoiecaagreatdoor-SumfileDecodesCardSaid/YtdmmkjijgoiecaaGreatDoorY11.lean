import Derived.Maps.AppendAt
import Derived.Test.YtdmmkjijgoiecaaGreatDoorY08
import Derived.Test.YtdmmkjijgoiecaaGreatDoorY09
import Derived.Test.YtdmmkjijgoiecaaGreatDoorY10
set_option linter.all false
set_option maxHeartbeats 4000000
namespace Go.Proofs.YtdmmkjijgoiecaaGreatDoor
open Lib(hid)
set_option maxRecDepth 100000
namespace vr
open RowKit Shelf mem
attribute [local go_sem] Oper.semAt_some
def gQ(l:List UInt8):List Value:=l.map fun b=>Value.int .u8 (b.toNat:Int)
theorem iI(l:List UInt8):(gQ l).length=l.length:=by simp[gQ]
theorem vU(l:List UInt8)(b:UInt8):gQ l++[Value.int .u8 (b.toNat:Int)] = gQ (l++[b]):=by simp[gQ]
theorem zO:(Tryz.prog.info? 5).map (fun i=>(i.zero,i.size,i.bytes))=some (some (.int .u8 0),1,1):=by kernel_rfl
structure WA(w:World)(f:Nat)(A:Option Addr)(cap:Nat)(st:List UInt8×Int):Prop where
 box:bV w f 63 #[.slice A st.1.length cap,.int .i64 st.2]
 seg:Seg w 5 A cap (gQ st.1)
theorem WA.nf{w:World}{f:Nat}{A:Option Addr}{cap:Nat}{st:List UInt8×Int}(h:WA w f A cap st):f∉blk A:=h.seg.ne_box h.box (by decide)
theorem WA.kept{F:List Nat}{w w':World}{f:Nat}{A:Option Addr}{cap:Nat}{st:List UInt8×Int}(h:WA w f A cap st)(hf:Fr F w w')(Y:f∉F)(J:∀g∈blk A,g∉F):WA w' f A cap st:=⟨h.box.kept hf Y,h.seg.kept hf J⟩
theorem WA.setE{w:World}{f:Nat}{A:Option Addr}{cap:Nat}{st:List UInt8×Int}(h:WA w f A cap st)(e:Int):WA (w.setCell ⟨f,1,none⟩ (.int .i64 e)) f A cap (st.1,e):=
 ⟨h.box.put 1 _,h.seg.kept ((Fr.refl [f] w).setCell (p:=⟨f,1,none⟩) (Or.inl (by simp)) _) (fun g J e=>by rw[aD]at e;subst e;exact h.nf J)⟩
def vS(w:World)(f:Nat)(A:Option Addr)(st:List UInt8×Int)(e:Ending)(w':World):Prop:=
 e=.returned (.tuple #[])∧∃Y J,WA w' f Y J st∧Fr (f :: blk A) w w'∧∀g∈blk Y,g∈blk A∨w.heap.size≤g
theorem aJa(w:World)(f:Nat)(A:Option Addr)(cap:Nat)(st:List UInt8×Int)(n:Int)(h:WA w f A cap st)(Y:st.2≠0∨n<0∨268435456<n) :
 Calls Tryz.prog 32 #[.pointer (some ⟨f,0,none⟩),.int .i64 n] w (vS w f A (iK st n)):=by
 have J:WA (w.alloc (.cells #[.pointer (some ⟨f,0,none⟩)] 66)) f A cap st:=h.kept ((Fr.refl [] w).alloc _) (by simp) (by simp);have c1:(w.alloc (.cells #[.pointer (some ⟨f,0,none⟩)] 66)).cell? ⟨f,1,none⟩=some (.int .i64 st.2):=J.box.cell 1;have cb:=dH w (.pointer (some ⟨f,0,none⟩)) 66;have fr:(w.alloc (.cells #[.pointer (some ⟨f,0,none⟩)] 66)).frozen? ⟨f,1,none⟩=false:=J.box.free 1;have H:=hid J;have HF:=hid ((Fr.refl (f :: blk A) w).alloc (.cells #[.pointer (some ⟨f,0,none⟩)] 66));clear h J;obtain⟨S,E⟩:=st;unfold iK;simp only at c1 Y ⊢;by_cases hE:E=0
 ·subst hE
  have hv:Hid ((if(0:Int)≠0 then(S,(0:Int)) else if n<0∨268435456<n then(S,2) else(S++nb n.toNat,0))=(S,2)):=hid (by rw[if_neg (by simp),if_pos (by omega)]);rw[hv.out];clear hv;have hs:=hid (H.out.setE 2);have hf:=hid (HF.out.setCell (p:=⟨f,1,none⟩) (Or.inl (by simp)) (.int .i64 2));have hb:Hid (∀g∈blk A,g∈blk A∨w.heap.size≤g):=hid (fun g hg=>Or.inl hg);by_cases h1:n<0
  ·have d1:decide (n<0)=true:=aC h1
   go_enter Tryz.func32,Tryz.ntmps32;go_wp2_with fail;refine bodyPost_ret (results_none rfl _ _ _) rfl ?_;exact⟨rfl,A,cap,hs.out,hf.out,hb.out⟩
  ·have d1:decide (n<0)=false:=aB h1
   have d2:decide (268435456<n)=true:=aC (by omega);go_enter Tryz.func32,Tryz.ntmps32;go_wp2_with fail;refine bodyPost_ret (results_none rfl _ _ _) rfl ?_;exact⟨rfl,A,cap,hs.out,hf.out,hb.out⟩
 ·have hv:Hid ((if E≠0 then(S,E) else if n<0∨268435456<n then(S,2) else(S++nb n.toNat,0))=(S,E)):=hid (by rw[if_pos hE])
  rw[hv.out];have d0:(E != 0)=true:=by simp;exact hE
  clear hv fr;go_enter Tryz.func32,Tryz.ntmps32;go_wp2_with fail;refine bodyPost_ret (results_none rfl _ _ _) rfl ?_;exact⟨rfl,A,cap,H.out,HF.out,fun g hg=>Or.inl hg⟩
theorem lU{W Y:World}{row:Option Nat}{g:Nat}{t:TypeId}{cs:Array Value}(h:bV W g t cs)(hg:W.grownBy Y row)(hr:∀r,row=some r→∃o:Obj,W.heap[r]? = some o∧o.isCells=false):bV Y g t cs:=by
 refine(hg.block g h.lt (fun e=>?_)).trans h;obtain⟨o,J,hc⟩:=hr g e.symm;unfold bV at h;rw[h]at J;cases J;cases hc
theorem xW{W W':World}{row:Option Nat}{e:TypeId}{A:Option Addr}{cap:Nat}{xs:List Value}(h:Seg W e A cap xs)(hg:W.grownBy W' row)(hr:∀r,row=some r→∃o:Obj,W.heap[r]? = some o∧o.isCells=false):Seg W' e A cap xs:=by
 refine⟨h.1,h.2.1,h.2.2.1,fun a ha=>?_⟩;obtain⟨hs,J,hc,r⟩:=h.2.2.2 a ha;refine⟨hs,J,(hg.block _ (bB.1 hc).1 (fun e=>?_)).trans hc,r⟩;obtain⟨o,Y,hn⟩:=hr _ e.symm;rw[hc]at Y;cases Y;cases hn
structure WI(w W:World)(f:Nat)(A A1:Option Addr)(cap1:Nat)(S:List UInt8):Prop where
 wa:WA W f A1 cap1 (S,0)
 fr:Fr (f :: blk A) w W
 own:∀g∈blk A1,g∈blk A∨w.heap.size≤g
 bx:bV W w.heap.size 66 #[.pointer (some ⟨f,0,none⟩)]
theorem WI.grown{w W W':World}{f:Nat}{A A1:Option Addr}{J:Nat}{S:List UInt8}{row:Option Nat}(h:WI w W f A A1 J S)(hg:W.grownBy W' row)(hr:∀r,row=some r→w.heap.size≤r∧∃o:Obj,W.heap[r]? = some o∧o.isCells=false):WI w W' f A A1 J S:=by
 have Y:∀r,row=some r→∃o:Obj,W.heap[r]? = some o∧o.isCells=false:=fun r e=>(hr r e).2
 exact⟨⟨lU h.wa.box hg Y,xW h.wa.seg hg Y⟩,h.fr.grown hg (fun k e=>Or.inr (hr k e).1),h.own,lU h.bx hg Y⟩
theorem uS{W W':World}{L:List Nat}(h:Fr L W W')(hc:∀g∈L,∃o:Obj,W.heap[g]? = some o∧o.isCells=true):KeepsOthers W W':=
 ⟨h.size,fun k o Y ho=>by
  have J:k<W.heap.size:=(bB.1 Y).1;refine(h.block k J (fun hm=>?_)).trans Y;obtain⟨o',h1,h2⟩:=hc k hm;rw[Y]at h1;cases h1;rw[ho]at h2
  cases h2⟩
theorem yL{w:World}{e:TypeId}{A:Option Addr}{cap:Nat}{xs:List Value}(h:Seg w e A cap xs):∀g∈blk A,∃o:Obj,w.heap[g]? = some o∧o.isCells=true:=by
 intro g J;cases A with
 | none=>cases J
 | some a=>
  obtain⟨_,Y,hc,_⟩:=h.2.2.2 a rfl;simp only[blk,aD]at J;subst J;exact⟨_,hc,rfl⟩
structure Fin(w W w3:World)(f:Nat)(A A3:Option Addr)(cap3 L:Nat)(T:List UInt8):Prop where
 c:∃v,w3.cell? ⟨f,0,none⟩=some v
 fr:w3.frozen? ⟨f,0,none⟩=false
 wi:WI w (w3.setCell ⟨f,0,none⟩ (.slice A3 (L+1) cap3)) f A A3 cap3 T
 ko:KeepsOthers W (w3.setCell ⟨f,0,none⟩ (.slice A3 (L+1) cap3))
 sx:w3.cell? ⟨w.heap.size,0,none⟩=some (.pointer (some ⟨f,0,none⟩))
theorem uD{w W W1 w3:World}{f:Nat}{A A1 A3:Option Addr}{a3 Y L:Nat}{S:List UInt8}{x:UInt8}(hi:WI w W f A A1 a3 S)(hL:S.length=L)(hW:Fr [] W W1)(a2:Seg w3 5 A3 Y (gQ S++[Value.int .u8 (x.toNat:Int)]))(f3:Fr (blk A1) W1 w3)(a4:blk A3=blk A1∨blk A3=[W1.heap.size]):Fin w W w3 f A A3 Y L (S++[x]):=by
 have nf:=hi.wa.nf;have hF:Fr (blk A1) W w3:=hW.trans f3 (by simp) (fun g J=>Or.inl J);have a1:=hi.wa.box.kept hF nf;have a7:f<W.heap.size:=hi.wa.box.lt;have a6:=hi.fr.size;have a5:f∉blk A3:=a2.ne_box a1 (by decide);have a0:Fr [f] w3 (w3.setCell ⟨f,0,none⟩ (.slice A3 (L+1) Y)):=(Fr.refl [f] w3).setCell (Or.inl (by simp)) _;refine⟨⟨_,a1.cell 0⟩,a1.free 0,⟨⟨?_,?_⟩,?_,?_,?_⟩,?_,?_⟩
 ·have:=a1.put 0 (.slice A3 (L+1) Y)
  have e:(S++[x],(0:Int)).1.length=L+1:=by simp[hL]
  rw[e];exact this
 ·have:=a2.kept a0 (fun g J e=>by rw[aD]at e;subst e;exact a5 J)
  rwa[vU]at this
 ·have h1:Fr (f :: blk A) w w3:=hi.fr.trans hF (fun g J=>Or.inl J) (fun g J=>(hi.own g J).imp (fun h=>bG _ h) id)
  exact h1.trans a0 (fun g J=>Or.inl J) (fun g J=>Or.inl (by rw[aD]at J;subst J;exact List.mem_cons_self))
 ·intro g J
  rcases a4 with e | e
  ·exact hi.own g (e ▸ J)
  ·rw[e,aD]at J
   have:=hW.size;subst J;exact Or.inr (by omega)
 ·have n1:w.heap.size∉blk A1:=hi.wa.seg.ne_box hi.bx (by decide)
  have n2:w.heap.size∉[f]:=by
   intro e;rw[aD]at e;have h1:=hi.bx;have h2:=hi.wa.box;unfold bV at h1 h2;rw[e,h2]at h1;simp at h1
  exact(hi.bx.kept hF n1).kept a0 n2
 ·exact(uS hF (yL hi.wa.seg)).trans (KeepsOthers.setCell _ _ _)
 ·exact(hi.bx.kept hF (hi.wa.seg.ne_box hi.bx (by decide))).cell 0
theorem aD0(w:World)(f:Nat)(A:Option Addr)(cap:Nat)(S:List UInt8)(k:Nat)(h:WA w f A cap (S,0))(hk:k≤268435456)(hl:S.length≤100000000) :
 Calls Tryz.prog 32 #[.pointer (some ⟨f,0,none⟩),.int .i64 k] w (vS w f A (S++nb k,0)):=by
 have a8:WA (w.alloc (.cells #[.pointer (some ⟨f,0,none⟩)] 66)) f A cap (S,0):=h.kept ((Fr.refl [] w).alloc _) (by simp) (by simp);have c1:(w.alloc (.cells #[.pointer (some ⟨f,0,none⟩)] 66)).cell? ⟨f,1,none⟩=some (.int .i64 0):=a8.box.cell 1;have cb:=dH w (.pointer (some ⟨f,0,none⟩)) 66;have d1:decide ((k:Int)<0)=false:=aB (by omega);have d2:decide (268435456<(k:Int))=false:=aB (by omega);refine(callsIn_wide (n:=6)).1 ?_;refine callsIn_of_wp_marks Tryz.func32 rfl trivial ?_ rfl;simp only[Tryz.ntmps32,List.size_toArray,aG,aI,Nat.reduceAdd,Nat.reduceSub,Array.replicate_succ,Array.replicate_zero,List.push_toArray,List.append_toArray,aX,aW]
 gi_wp2_with (refine⟨trivial,?_⟩;gi_at_call 85;refine(aBv Fence.wide _ trivial rfl k _).mono ?_;rintro e w' ⟨rfl,rfl⟩)
 have ag:WI w ((w.alloc (.cells #[.pointer (some ⟨f,0,none⟩)] 66)).alloc (.cells #[.int .i64 (k:Int)] 3)) f A A cap S:=by
  refine⟨a8.kept ((Fr.refl [] _).alloc _) (by simp) (by simp),((Fr.refl _ w).alloc _).alloc _,fun g hg=>Or.inl hg,(bV.new w _ _).kept ((Fr.refl [] _).alloc _) (by simp)⟩
 have aj:((w.alloc (.cells #[.pointer (some ⟨f,0,none⟩)] 66)).alloc (.cells #[.int .i64 (k:Int)] 3)).cell? ⟨w.heap.size+1,0,none⟩=some (.int .i64 (k:Int)):=by
  have:=dH (w.alloc (.cells #[.pointer (some ⟨f,0,none⟩)] 66)) (.int .i64 (k:Int)) 3
  rwa[World.size_alloc]at this
 have ao:=lI k hk;refine wpIn_rangeFunc_ownF (F:=Fence.wide) rfl (by omega) (gf:=146) (lb:=#[.pointer (some ⟨w.heap.size+1,0,none⟩)]) rfl trivial (enters_of Tryz.func146 (by kernel_rfl) rfl)
  (xJ Fence.wide _ trivial rfl (by omega) (w.heap.size+1) k hk _ (by simp) aj) (fun _ _=>trivial) (fun _ _ _ _ _ _ _ _=>trivial) (Below.refl _ _) (fun _=>rfl)
  (fun pre W=>∃A1 Y,WI w W f A A1 Y (S++pre))
  (fun _ _ _=>False)
  (fun s W W' row hs hg hr=>by
   obtain⟨A1,Y,h1⟩:=hs
   exact⟨A1,Y,h1.grown hg (fun r e=>⟨by have:=(hr r e).1;simp at this;omega,(hr r e).2⟩)⟩)
  (fun _ _ _ _ _ hs _ _=>hs)
  ⟨A,cap,by rw[List.append_nil];exact ag⟩
  (fun x=>{ tmps:=#[.pointer (some ⟨f,0,none⟩),.int .i64 k,.pointer (some ⟨w.heap.size,0,none⟩),undef,.int .u8 (x.toNat:Int),.pointer (some ⟨f,0,none⟩),.bool false,.bool false,.pointer (some ⟨f,0,none⟩),.pointer (some ⟨f,0,none⟩),.pointer (some ⟨f,1,none⟩),.int .i64 0,.bool false,.bool false,.int .i64 k,.bool false,.bool false,.int .i64 k,.bool false,.bool false,undef,undef,undef,.int .i64 k,.func (.func 146) #[] #[.pointer (some ⟨w.heap.size+1,0,none⟩)],.int .u8 (x.toNat:Int),undef,undef,undef,undef,undef,undef,undef,undef,undef,undef],defers:=[] }) ?assign ?body ?done ?stop
 case assign=>
  intro l x W K hK
  gi_wp2
  exact hK
 case body=>
  rintro l pre x W ⟨A1,Y,hi⟩ ap;obtain⟨L,hL⟩:∃L,Hid ((S++pre).length=L):=⟨_,hid rfl⟩;have ar:L≤100000005:=by have:=hL.out;rw[aF]at this;omega
  have HI:=hid hi;have c0:W.cell? ⟨f,0,none⟩=some (.slice A1 L Y):=by have:=hi.wa.box.cell 0;rw[show((S++pre,(0:Int)).1.length)=L from hL.out]at this;exact this
  have a2:W.drew.cell? ⟨w.heap.size,0,none⟩=some (.pointer (some ⟨f,0,none⟩)):=hi.bx.cell 0;have a6:Hid (Seg (W.drew.alloc (.cells #[.int .u8 (x.toNat:Int)] 5)) 5 A1 Y (gQ (S++pre))):=hid (hi.wa.seg.drew.alloc _);have a5:Hid (Fr [] W (W.drew.alloc (.cells #[.int .u8 (x.toNat:Int)] 5))):=hid ((Fr.refl [] W).drew.alloc _);have ad:Hid (W.drew.cell? ⟨f,0,none⟩=some (.slice A1 L Y)∧(W.drew.alloc (.cells #[.int .u8 (x.toNat:Int)] 5)).cell? ⟨f,0,none⟩=some (.slice A1 L Y)):=hid ⟨c0,(((hi.wa.box.kept a5.out (by simp)).cell 0).trans (by rw[←c0];exact(hi.wa.box.cell 0).symm))⟩;have hlen:Hid (L=(gQ (S++pre)).length):=hid (by rw[iI,hL.out]);have a7:Hid ((W.drew.alloc (.cells #[.int .u8 (x.toNat:Int)] 5)).cell? ⟨w.heap.size,0,none⟩=some (.pointer (some ⟨f,0,none⟩))):=hid ((hi.bx.kept a5.out (by simp)).cell 0);obtain⟨i0,a9,ah,ai,af⟩:=info_parts zO;have Hi:=hid a9
  have aa:=hid ah;have ak:=hid ai;have ae:=hid af;clear hi c0 a9 ah ai af h a8 c1 cb ag aj;refine wpIn_block ?_;refine xS (S:=fun W'=>W'.cell? ⟨w.heap.size,0,none⟩=some (.pointer (some ⟨f,0,none⟩))) (by kernel_rfl) (by intro i o ho c hc;rcases i with _ | _ | _ | _ | _ | _ | _ | _ | _ | _ | _ | i <;> simp at ho <;> subst ho <;> cases hc) ?_;refine wpAnyH_take (i:=0) (v:=(.pointer (some ⟨f,0,none⟩))) rfl (by kernel_rfl) (by kernel_rfl) (by kernel_rfl) (fun _ _ _ h=>absurd h.1 (by simp)) (Or.inl ⟨by rfl,?_⟩) a2 ?_
  ·intro W' a0
   go_simp
  try simp only[Act.put,aO,aP,aQ]
  refine wpAnyH_take (i:=1) (v:=(.pointer (some ⟨f,0,none⟩))) rfl (by kernel_rfl) (by kernel_rfl) (by kernel_rfl) (fun _ _ _ h=>absurd h.1 (by simp)) (Or.inl ⟨by rfl,?_⟩) a2 ?_
  ·intro W' a0
   go_simp
  try simp only[Act.put,aO,aP,aQ]
  refine wpAnyH_take (i:=2) (v:=(.pointer (some ⟨f,0,none⟩))) rfl (by kernel_rfl) (by kernel_rfl) (by kernel_rfl) (fun _ _ _ h=>absurd h.1 (by simp)) (Or.inl ⟨by rfl,?_⟩) a2 ?_
  ·intro W' a0
   go_simp
  try simp only[Act.put,aO,aP,aQ]
  refine wpAnyH_take (i:=3) (v:=(.pointer (some ⟨f,0,none⟩))) rfl (by kernel_rfl) (by kernel_rfl) (by kernel_rfl) (fun _ _ _ h=>absurd h.1 (by simp)) (Or.inl ⟨by rfl,?_⟩) a2 ?_
  ·intro W' a0
   go_simp
  try simp only[Act.put,aO,aP,aQ]
  refine wpAnyH_take (i:=5) (v:=(.int .u8 (x.toNat:Int))) rfl (by kernel_rfl) (by kernel_rfl) (by kernel_rfl) (fun _ _ _ h=>absurd h.1 (by simp)) (Or.inl ⟨by rfl,?_⟩) a2 ?_
  ·intro W' a0
   go_simp
  try simp only[Act.put,aO,aP,aQ]
  refine wpAnyH_ready (rs:=[4,6]) (by kernel_rfl) (by simp) ?_;refine AllReadyH.cons rfl (fun K hK=>?_) (AllReadyH.cons rfl (fun K hK=>?_) AllReadyH.nil)
  ·have c0:=ad.out.1
   go_simp;refine hK.out _ _ a2 (fun _=>?_);clear hK
   try simp only[Act.put,aO,aP,aQ]
   refine wpAnyH_ready (rs:=[6]) (by kernel_rfl) (by simp) ?_;refine AllReadyH.cons rfl (fun K hK=>?_) AllReadyH.nil;go_simp;refine hK.out _ _ a7.out (fun _=>?_);clear hK c0
   try simp only[Act.put,aO,aP,aQ]
   refine wpAnyH_ready (rs:=[7]) (by kernel_rfl) (by simp) ?_;refine AllReadyH.cons rfl (fun K hK=>?_) AllReadyH.nil;refine pW (by rfl) (.tmp 30) (.tmp 32) _ (by rfl) a6.out hlen.out Tryz.underlying44 Hi.out aa.out ak.out ae.out rfl (by rfl) (by rfl) (dH _ _ _) rfl (by omega) (by omega) ?_;intro A3 a3 w3 a4 f3 a1;have J:=hid (uD HI.out hL.out a5.out a4 f3 a1);clear a4 f3 a1;refine hK.out _ _ J.out.sx (fun _=>?_);clear hK
   try simp only[Act.put,aO,aP,aQ]
   refine wpAnyH_take (i:=8) (v:=(.pointer (some ⟨f,0,none⟩))) rfl (by kernel_rfl) (by kernel_rfl) (by kernel_rfl) (fun _ _ _ h=>absurd h.1 (by simp)) (Or.inl ⟨by rfl,?_⟩) J.out.sx ?_
   ·intro W' a0
    go_simp
   try simp only[Act.put,aO,aP,aQ]
   refine wpAnyH_take (i:=9) (v:=(.pointer (some ⟨f,0,none⟩))) rfl (by kernel_rfl) (by kernel_rfl) (by kernel_rfl) (fun _ _ _ h=>absurd h.1 (by simp)) (Or.inl ⟨by rfl,?_⟩) J.out.sx ?_
   ·intro W' a0
    go_simp
   try simp only[Act.put,aO,aP,aQ]
   obtain⟨v3,am⟩:=J.out.c;have a1:=J.out.fr;refine wpAnyH_ready (rs:=[10]) (by kernel_rfl) (by simp) ?_;refine AllReadyH.cons rfl (fun K hK=>?_) AllReadyH.nil;go_simp;refine hK.out _ _ (J.out.wi.bx.cell 0) (fun _=>?_);refine wpAnyH_done (by kernel_rfl) ?_ _;refine⟨rfl,?_⟩;exact⟨J.out.ko,trivial,A3,a3,by have:=J.out.wi;rwa[aS]at this⟩
  ·go_simp
   refine hK.out _ _ a7.out (fun _=>?_);clear hK
   try simp only[Act.put,aO,aP,aQ]
   have c0:(W.alloc (.cells #[.int .u8 (x.toNat:Int)] 5)).cell? ⟨f,0,none⟩=some (.slice A1 L Y):=ad.out.2;refine wpAnyH_ready (rs:=[4]) (by kernel_rfl) (by simp) ?_;refine AllReadyH.cons rfl (fun K hK=>?_) AllReadyH.nil;go_simp;refine hK.out _ _ a7.out (fun _=>?_);clear hK c0
   try simp only[Act.put,aO,aP,aQ]
   refine wpAnyH_ready (rs:=[7]) (by kernel_rfl) (by simp) ?_;refine AllReadyH.cons rfl (fun K hK=>?_) AllReadyH.nil;refine pW (by rfl) (.tmp 30) (.tmp 32) _ (by rfl) a6.out hlen.out Tryz.underlying44 Hi.out aa.out ak.out ae.out rfl (by rfl) (by rfl) (dH _ _ _) rfl (by omega) (by omega) ?_;intro A3 a3 w3 a4 f3 a1;have J:=hid (uD HI.out hL.out a5.out a4 f3 a1);clear a4 f3 a1;refine hK.out _ _ J.out.sx (fun _=>?_);clear hK
   try simp only[Act.put,aO,aP,aQ]
   refine wpAnyH_take (i:=8) (v:=(.pointer (some ⟨f,0,none⟩))) rfl (by kernel_rfl) (by kernel_rfl) (by kernel_rfl) (fun _ _ _ h=>absurd h.1 (by simp)) (Or.inl ⟨by rfl,?_⟩) J.out.sx ?_
   ·intro W' a0
    go_simp
   try simp only[Act.put,aO,aP,aQ]
   refine wpAnyH_take (i:=9) (v:=(.pointer (some ⟨f,0,none⟩))) rfl (by kernel_rfl) (by kernel_rfl) (by kernel_rfl) (fun _ _ _ h=>absurd h.1 (by simp)) (Or.inl ⟨by rfl,?_⟩) J.out.sx ?_
   ·intro W' a0
    go_simp
   try simp only[Act.put,aO,aP,aQ]
   obtain⟨v3,am⟩:=J.out.c;have a1:=J.out.fr;refine wpAnyH_ready (rs:=[10]) (by kernel_rfl) (by simp) ?_;refine AllReadyH.cons rfl (fun K hK=>?_) AllReadyH.nil;go_simp;refine hK.out _ _ (J.out.wi.bx.cell 0) (fun _=>?_);refine wpAnyH_done (by kernel_rfl) ?_ _;refine⟨rfl,?_⟩;exact⟨J.out.ko,trivial,A3,a3,by have:=J.out.wi;rwa[aS]at this⟩
 case done=>
  rintro D ys W hD rfl ⟨A1,Y,hi⟩ hK
  gi_wp2
  refine⟨by simp,.inl ⟨_,_,rfl,run_takeDeferred hK,?_⟩⟩;have hw:=hi.grown (grownBy_putObj' W D (.deferred none)) (fun r e=>by cases e;exact⟨by simp at hD;omega,_,hK,rfl⟩);exact⟨_,results_none rfl _ _ _,rfl,A1,Y,hw.wa,hw.fr,hw.own⟩
 case stop=>
  rintro D c pre W hD _ h _;exact h.elim
end vr
end Go.Proofs.YtdmmkjijgoiecaaGreatDoor
