import Derived.RangeFuncNested
import Derived.Test.YtlkboeajkgbnaaaGreatDoorC09
set_option linter.all false
set_option maxHeartbeats 4000000
namespace Go.Proofs.YtlkboeajkgbnaaaGreatDoor
namespace rng
open RowKit mem
structure KO(Own:World→Nat→Prop)(W W':World):Prop where
 size:W.heap.size≤W'.heap.size
 same:∀k,k<W.heap.size→¬Own W k→W'.heap[k]? = W.heap[k]?
 own:∀k,Own W' k→Own W k∨W.heap.size≤k
 lt:∀k,Own W' k→k<W'.heap.size
theorem KO.trans{Own:World→Nat→Prop}{A B C:World}(h:KO Own A B)(h2:KO Own B C):KO Own A C where
 size:=Nat.le_trans h.size h2.size
 same k hk hn:=(h2.same k (Nat.lt_of_lt_of_le hk h.size) fun hB=>by
  rcases h.own k hB with h3 | h3
  ·exact hn h3
  ·omega).trans (h.same k hk hn)
 own k hk:=by
  rcases h2.own k hk with h3 | h3
  ·exact h.own k h3
  ·exact Or.inr (Nat.le_trans h.size h3)
 lt:=h2.lt
theorem KO.not{Own:World→Nat→Prop}{W W':World}(h:KO Own W W'){k:Nat}(hk:k<W.heap.size)(hn:¬Own W k):¬Own W' k:=fun h2=>by
 rcases h.own k h2 with h3 | h3
 ·exact hn h3
 ·omega
def OwnS(B:Nat)(Own:World→Nat→Prop):Prop:=∀(k:Nat) (W W':World) (row:Option Nat),B≤W.heap.size→Own W' k→W.grownBy W' row→(∀r,row=some r→B≤r∧∃o:Obj,W.heap[r]? = some o∧o.isCells=false)→Own W k
theorem OwnS.mono{B B':Nat}{Own:World→Nat→Prop}(h:OwnS B Own)(hB:B≤B'):OwnS B' Own:=fun k W W' row hW hk hg hr=>h k W W' row (Nat.le_trans hB hW) hk hg fun r e=>⟨Nat.le_trans hB (hr r e).1,(hr r e).2⟩
def SeqO{α:Type}(n:Nat)(P:Program)(g:Nat)(lb:Array Value)(encs:α→Array Value)(S Sp:List α→Prop)(N:Nat)(Z:List Nat)(w:World):Prop:=
 ∀(l:Nat) (J Jx:List α→World→Prop) (Own:World→Nat→Prop) (W:World),Below w.heap.size w W→OwnFrom W.heap.size J→OwnFrom W.heap.size Jx→(∀k,Own W k→k<W.heap.size)→(∀k∈Z,¬Own W k)→OwnS W.heap.size Own →
  (∀pre x W1,J pre W1→pre.length<N→YieldAt Fence.wide (n-1) P l (encs x) W1 fun e W'=>(e=.returned (.bool true)∧J (pre++[x]) W'∧KO Own W1 W')∨(e=.returned (.bool false)∧Jx (pre++[x]) W'∧KO Own W1 W')) →
  J [] W→CallsIn Fence.wide n P g (#[.func (.yield l) #[] #[]]++lb) W fun e W'=>(∃v,e=.returned v)∧((∃xs,S xs∧J xs W')∨(∃pre,Sp pre∧Jx pre W'))
def bodyO{α:Type}(Own:World→Nat→Prop)(I:List α→World→Prop)(Ix:Code→List α→World→Prop)(xs:List α)(W:World):Exit→Act→World→Prop
 | .normal,_,W'=>KO Own W W'∧I xs W'
 | .ret,_,W'=>KO Own W W'∧Ix .ret xs W'
 | .exit id,_,W'=>KO Own W W'∧Ix (.exit id) xs W'
 | .goto t,_,W'=>KO Own W W'∧Ix (.goto t) xs W'
 | .panic _,_,_=>False
 | .outgrown,_,_=>False
section
variable {α:Type} {P:Program} {Own:World→Nat→Prop}
theorem ko_round{L D:Nat}{W W3:World}{r r1 r2:Loop}(hS:OwnS D Own)(hDL:D≤L)(hL:W.heap[L]? = some (.loop r))(hn:¬Own W L)(h:KO Own (W.putObj L (.loop r1)) W3) :
 KO (fun W k=>Own W k∨k=L) W (W3.putObj L (.loop r2))∧W3.heap[L]? = some (.loop r1):=by
 have hlt:L<W.heap.size:=(Array.getElem?_eq_some_iff.1 hL).1;have own1:∀k,Own (W.putObj L (.loop r1)) k→Own W k:=fun k hk=>hS k W _ (some L) (by omega) hk (grownBy_putObj' W L _) fun q e=>by cases e;exact⟨hDL,_,hL,rfl⟩
 have e3:W3.heap[L]? = some (.loop r1):=(h.same L (by simpa using hlt) fun h1=>hn (own1 L h1)).trans (World.putObj_heap_same hlt);have hsz:=h.size;rw[World.putObj_size]at hsz;have own3:∀k,Own (W3.putObj L (.loop r2)) k→Own W3 k:=fun k hk=>hS k W3 _ (some L) (by omega) hk (grownBy_putObj' W3 L _) fun q e=>by cases e;exact⟨hDL,_,e3,rfl⟩
 refine⟨⟨by simpa using hsz,fun k hk hno=>?_,fun k hk=>?_,fun k hk=>?_⟩,e3⟩
 ·have hkL:k≠L:=fun e=>hno (Or.inr e)
  rw[World.putObj_heap_other hkL,h.same k (by simpa using hk) fun h1=>hno (Or.inl (own1 k h1)),World.putObj_heap_other hkL]
 ·rcases hk with hk | hk
  ·rcases h.own k (own3 k hk)with h1 | h1
   ·exact Or.inl (Or.inl (own1 k h1))
   ·exact Or.inr (by simpa using h1)
  ·exact Or.inl (Or.inr hk)
 ·rcases hk with hk | hk
  ·rw[World.putObj_size];exact h.lt k (own3 k hk)
  ·rw[World.putObj_size];omega
theorem range_own{n:Nat}{g:Operand}{ps:Array Tmp}{assign body:Code}{Q:Exit→Act→World→Prop}{a:Act}{w:World}(h1:1≤n){gf:Nat}{lb:Array Value}(hg:a.eval g=.func (.func gf) #[] lb)(eg:∀args w,(callFunc gf args).run P w=.ok (.enter gf args) w)
 {encs:α→Array Value} {S Sp:List α→Prop} {N:Nat} {Z:List Nat} {w0:World} (hseq:SeqO (n-1) P gf lb encs S Sp N Z w0) (hb0:Below w0.heap.size w0 w) (hps:∀x,(encs x).size=ps.size)
 (hO:∀k,Own w k→k<w.heap.size) (hZ:∀k∈Z,¬Own w k∧k<w.heap.size) (hS:OwnS w.heap.size Own)
 (I:List α→World→Prop) (Ix:Code→List α→World→Prop) (hI:OwnFrom w.heap.size I) (hIx:∀c,OwnFrom w.heap.size (Ix c)) (h0:I [] w) (a₁:α→Act)
 (hassign:∀(l:Nat) (x:α) (W:World) (K:Act→World→Prop),K (a₁ x) W →
  assign.wpIn (Fence.wide.inRound l) (n-1-1) P (Exit.then K (fun _ _ _=>False)) { tmps:=(ps.zip (encs x)).foldl (fun t (p,v)=>t.setIfInBounds p v) a.tmps,defers:=[] } W)
 (hbody:∀(l:Nat) (pre:List α) (x:α) (W:World),I pre W→w.heap.size≤W.heap.size→(∀k,Own W k→k<W.heap.size)→pre.length<N→body.wpIn (Fence.wide.inRound l) (n-1-1) P (bodyO Own I Ix (pre++[x]) W) (a₁ x) W)
 (hdone:∀(D:Nat) (xs:List α) (W:World),w.heap.size≤D→S xs→I xs W→W.heap[D]? = some (.deferred (some []))→Q .normal { a with defers:={ target:=.collected D,args:=#[] } :: a.defers } W)
 (hstop:∀(D:Nat) (c:Code) (pre:List α) (W:World),w.heap.size≤D→Sp pre→Ix c pre W→W.heap[D]? = some (.deferred (some []))→c.wpIn Fence.wide n P Q { a with defers:={ target:=.collected D,args:=#[] } :: a.defers } W) :
 (Code.rangeFunc g ps assign body).wpIn Fence.wide n P Q a w:=by
 refine wpIn_rangeFunc fun fn hfn=>?_
 obtain⟨rc,hrc⟩:∃rc:LoopState→Option Code→Loop,rc=fun st pe=>{ state:=st,pending:=pe,fn,tmps:=a.tmps,params:=ps,assign,body,defers:=w.heap.size }:=⟨_,rfl⟩
 obtain⟨D,hD⟩:∃D,D=w.heap.size:=⟨_,rfl⟩;obtain⟨W1,hW1⟩:∃W1,W1=(w.alloc (.deferred (some []))).alloc (.loop (rc .ready none)):=⟨_,rfl⟩;have hfr:Fr [] w W1:=by rw[hW1];exact((Fr.refl [] w).alloc _).alloc _
 have hs1:W1.heap.size=D+2:=by rw[hW1,hD];simp
 have hL1:W1.heap[D+1]? = some (.loop (rc .ready none)):=by
  have:=World.alloc_heap_new (w.alloc (.deferred (some []))) (.loop (rc .ready none));rw[World.size_alloc]at this;rw[hW1,hD];exact this
 have hD1:W1.heap[D]? = some (.deferred (some [])):=by
  rw[hW1,hD];exact(Below.heap_alloc _ _ _ (by simp)).trans (World.alloc_heap_new w _)
 have own1:∀k,Own W1 k→Own w k:=fun k hk=>by
  rw[hW1]at hk;exact hS k w _ none (Nat.le_refl _) (hS k _ _ none (by simp) hk (World.grownBy_alloc _ _ none) fun r e=>by cases e) (World.grownBy_alloc w _ none) fun r e=>by cases e
 have hI1:I [] W1:=by rw[hW1];exact hI.alloc _ (hI.alloc _ h0)
 have hZ1:∀k,Own W1 k→k<W1.heap.size∧k≠D∧k≠D+1:=fun k hk=>by
  have:=hO k (own1 k hk);omega
 refine⟨D+1,[{ target:=.collected D,args:=#[] }],W1,{ target:=.fn (.func gf) lb,args:=#[.func (.yield (D+1)) #[] #[]] },W1,gf,#[.func (.yield (D+1)) #[] #[]]++lb,W1,?_,?_,fun _ _=>trivial,?_,fun _=>h1,?_⟩
 ·rw[hW1,hrc,hD];exact run_enterLoop_outer _ _ _ _ _
 ·simp only[resolve,hg]
  simp[go_sem]
 ·simp[invoke,go_sem,eg]
 refine(hseq (D+1) (fun pre W=>I pre W∧W.heap[D+1]? = some (.loop (rc .ready none))∧W.heap[D]? = some (.deferred (some []))∧∀k,Own W k→k<W.heap.size∧k≠D∧k≠D+1)
  (fun pre W=>∃c,Ix c pre W∧W.heap[D+1]? = some (.loop (rc .done (some c)))∧W.heap[D]? = some (.deferred (some [])))
  (fun W k=>Own W k∨k=D+1) W1 (hb0.trans (hfr.all.mono hb0.size)) ?_ ?_ ?_ ?_ ?_ ?_ ⟨hI1,hL1,hD1,hZ1⟩).mono ?_
 ·rintro s A B row ⟨i1,i2,i3,i4⟩ hg' hr
  refine⟨hI s A B row i1 hg' fun r e=>⟨by have:=(hr r e).1;omega,(hr r e).2⟩,?_,?_,fun k hk=>?_⟩
  ·exact(hg'.block _ (Array.getElem?_eq_some_iff.1 i2).1 fun e=>by have:=(hr _ e.symm).1;omega).trans i2
  ·exact(hg'.block _ (Array.getElem?_eq_some_iff.1 i3).1 fun e=>by have:=(hr _ e.symm).1;omega).trans i3
  ·have hAs:=(Array.getElem?_eq_some_iff.1 i2).1
   obtain⟨h2,h3⟩:=i4 k (hS k A B row (by omega) hk hg' fun r e=>⟨by have:=(hr r e).1;omega,(hr r e).2⟩);exact⟨Nat.lt_of_lt_of_le h2 hg'.size,h3⟩
 ·rintro s A B row ⟨c,i1,i2,i3⟩ hg' hr
  refine⟨c,hIx c s A B row i1 hg' fun r e=>⟨by have:=(hr r e).1;omega,(hr r e).2⟩,?_,?_⟩
  ·exact(hg'.block _ (Array.getElem?_eq_some_iff.1 i2).1 fun e=>by have:=(hr _ e.symm).1;omega).trans i2
  ·exact(hg'.block _ (Array.getElem?_eq_some_iff.1 i3).1 fun e=>by have:=(hr _ e.symm).1;omega).trans i3
 ·rintro k (hk | hk)
  ·exact(hZ1 k hk).1
  ·omega
 ·intro k hk h
  obtain⟨z1,z2⟩:=hZ k hk;rcases h with h | h
  ·exact z1 (own1 k h)
  ·omega
 ·rintro k A B row hAs (hk | hk) hg' hr
  ·exact Or.inl (hS k A B row (by omega) hk hg' fun r e=>⟨by have:=(hr r e).1;omega,(hr r e).2⟩)
  ·exact Or.inr hk
 ·rintro pre x W ⟨hi,hl,hd,hz⟩ hlen
  have hlt:D+1<W.heap.size:=(Array.getElem?_eq_some_iff.1 hl).1;have hy:=run_yield (P:=P) (args:=encs x) hl (by rw[hrc];exact hps x);rw[hrc]at hy;refine⟨fn,_,assign,body,hy,roundIn_of_wpIn hfn (hassign _ x W _ ?_)⟩;clear hy;refine⟨_,run_beginRound hl (by rw[hrc]),?_⟩;have hd2:(W.putObj (D+1) (.loop { rc .ready none with state:=.busy })).heap[D]? = some (.deferred (some [])):=(World.putObj_heap_other (by omega)).trans hd;have own2:∀k,Own (W.putObj (D+1) (.loop { rc .ready none with state:=.busy })) k→Own W k:=fun k hk=>hS k W _ (some (D+1)) (by omega) hk (grownBy_putObj' W _ _) fun q e=>by cases e;exact⟨by omega,_,hl,rfl⟩
  have hno:¬Own W (D+1):=fun h=>(hz _ h).2.2 rfl
  have leave:∀(jump:Option Code) (W3:World),KO Own (W.putObj (D+1) (.loop { rc .ready none with state:=.busy })) W3 →
   (Instr.endRound (D+1) jump).run P W3=.ok (.bool jump.isNone) (W3.putObj (D+1) (.loop (rc (if jump.isNone then .ready else .done) jump))) ∧
   W3.heap[D+1]? = some (.loop { rc .ready none with state:=.busy }) ∧
   (W3.putObj (D+1) (.loop (rc (if jump.isNone then .ready else .done) jump))).heap[D+1]? = some (.loop (rc (if jump.isNone then .ready else .done) jump)) ∧
   (W3.putObj (D+1) (.loop (rc (if jump.isNone then .ready else .done) jump))).heap[D]? = some (.deferred (some [])) ∧
   KO (fun W k=>Own W k∨k=D+1) W (W3.putObj (D+1) (.loop (rc (if jump.isNone then .ready else .done) jump))):=fun jump W3 hk=>by
   obtain⟨k1,k2⟩:=ko_round (r2:=rc (if jump.isNone then .ready else .done) jump) hS (by omega) hl hno hk;have h3:=run_endRound (P:=P) jump k2;have hd3:W3.heap[D]? = some (.deferred (some [])):=(hk.same D (by simpa using by omega) fun h=>(hz _ (own2 _ h)).2.1 rfl).trans hd2;refine⟨?_,k2,World.putObj_heap_same (Array.getElem?_eq_some_iff.1 k2).1,(World.putObj_heap_other (by omega)).trans hd3,k1⟩;rw[h3,hrc]
  refine wpIn_mono (hbody _ pre x _ (hI.putObj _ hi (by omega) hl rfl) (by simp;omega) (fun k hk=>by rw[World.putObj_size];exact(hz k (own2 k hk)).1) hlen) ?_;rintro e a3 W3 hp;cases e with
  | normal=>
   obtain⟨hk,hi3⟩:=hp;obtain⟨hr,hl3,hl4,hd4,hko⟩:=leave none W3 hk;refine⟨_,_,hr,.inl ⟨rfl,⟨hI.putObj _ hi3 (by omega) hl3 rfl,hl4,hd4,fun k hkk=>?_⟩,hko⟩⟩;have hs3:=hk.size;rw[World.putObj_size]at hs3;have h5:=hS k W3 _ (some (D+1)) (by omega) hkk (grownBy_putObj' W3 _ _) fun q e=>by cases e;exact⟨by omega,_,hl3,rfl⟩
   rw[World.putObj_size];refine⟨hk.lt k h5,?_⟩;rcases hk.own k h5 with h6 | h6
   ·exact(hz k (own2 k h6)).2
   ·rw[World.putObj_size]at h6
    omega
  | ret=>
   obtain⟨hk,hi3⟩:=hp;obtain⟨hr,hl3,hl4,hd4,hko⟩:=leave (some .ret) W3 hk;exact⟨_,_,hr,.inr ⟨rfl,⟨.ret,(hIx _).putObj _ hi3 (by omega) hl3 rfl,hl4,hd4⟩,hko⟩⟩
  | exit id=>
   obtain⟨hk,hi3⟩:=hp;obtain⟨hr,hl3,hl4,hd4,hko⟩:=leave (some (.exit id)) W3 hk;exact⟨_,_,hr,.inr ⟨rfl,⟨.exit id,(hIx _).putObj _ hi3 (by omega) hl3 rfl,hl4,hd4⟩,hko⟩⟩
  | goto t=>
   obtain⟨hk,hi3⟩:=hp;obtain⟨hr,hl3,hl4,hd4,hko⟩:=leave (some (.goto t)) W3 hk;exact⟨_,_,hr,.inr ⟨rfl,⟨.goto t,(hIx _).putObj _ hi3 (by omega) hl3 rfl,hl4,hd4⟩,hko⟩⟩
  | panic ch=>exact hp.elim
  | outgrown=>exact hp.elim
 ·rintro e W2 ⟨⟨v,rfl⟩,(⟨xs,hs,hi,hl,hd,_⟩ | ⟨pre,hs,c,hi,hl,hd⟩)⟩
  ·refine⟨none,_,by have:=run_endLoop (P:=P) hl (by rw[hrc];simp);rw[hrc]at this;exact this,?_⟩
   exact hdone D xs _ (by omega) hs (hI.putObj _ hi (by omega) hl rfl) ((World.putObj_heap_other (by omega)).trans hd)
  ·refine⟨some c,_,by have:=run_endLoop (P:=P) hl (by rw[hrc];simp);rw[hrc]at this;exact this,?_⟩
   exact hstop D c pre _ (by omega) hs ((hIx c).putObj _ hi (by omega) hl rfl) ((World.putObj_heap_other (by omega)).trans hd)
end
end rng
end Go.Proofs.YtlkboeajkgbnaaaGreatDoor
