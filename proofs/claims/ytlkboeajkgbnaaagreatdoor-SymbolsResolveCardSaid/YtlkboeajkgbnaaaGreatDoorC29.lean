import Derived.Test.YtlkboeajkgbnaaaGreatDoorC10
import Derived.Test.YtlkboeajkgbnaaaGreatDoorC08
import Derived.Test.YtlkboeajkgbnaaaGreatDoorC30
set_option linter.all false
set_option maxHeartbeats 4000000
namespace Go.Proofs.YtlkboeajkgbnaaaGreatDoor
namespace ym
open RowKit mem sy
open ins (foot WF Held vals)
theorem seg_putU{w:World}{e:TypeId}{g off cap:Nat}{xs:List Value}(h:Seg w e (some ⟨g,off,none⟩) cap xs){i:Nat}(hi:i<xs.length)(u:Value):Seg (w.setCell ⟨g,off+i,none⟩ u) e (some ⟨g,off,none⟩) cap (xs.set i u):=by
 obtain⟨_,cur,hc,hsz,hx⟩:=h.2.2.2 _ rfl;have hsz:off+cap≤cur.size:=hsz;have hl:=h.1;refine⟨by simpa using hl,h.2.1,fun hn=>(by cases hn),fun a ha=>?_⟩;cases ha;refine⟨rfl,cur.setIfInBounds (off+i) u,?_,by simpa using hsz,fun j v hv=>?_⟩
 ·show((w.setCell ⟨g,off+i,none⟩ u).heap[g]?)=_
  simp[World.setCell,Array.getElem?_modify,show w.heap[g]? = _ from hc]
 ·show(cur.setIfInBounds (off+i) u)[off+j]? = some v
  rw[Array.getElem?_setIfInBounds];rw[List.getElem?_set]at hv;by_cases e1:i=j
  ·subst e1
   rw[if_pos rfl,if_pos hi]at hv;rw[if_pos rfl,if_pos (by omega)];exact hv
  ·rw[if_neg e1]at hv
   rw[if_neg (by omega)];exact hx j v hv
theorem sg_ne_box{sz:Nat}{w:World}{e t:TypeId}{A:Option Addr}{cap n b:Nat}{cs:List Value}{bs:Array Value}(h:Sg sz w e A cap n cs)(hb:Box w b t bs)(hne:e≠t):b∉blk A:=by
 intro hm;cases A with
 | none=>cases hm
 | some a=>
  simp only[blk,List.mem_singleton]at hm;subst hm;obtain⟨_,cur,hc,_⟩:=h.ex a rfl;unfold Box at hb;rw[hc]at hb;injection hb with hb;injection hb with _ h2;exact hne h2
theorem sg_ne_seg{sz:Nat}{w:World}{e t:TypeId}{A B:Option Addr}{cap n c2:Nat}{cs xs:List Value}(h:Sg sz w e A cap n cs)(hb:Seg w t B c2 xs)(hne:e≠t):∀g∈blk A,g∉blk B:=by
 intro g hg hm;cases A with
 | none=>cases hg
 | some a=>
  cases B with
  | none=>cases hm
  | some b=>
   simp only[blk,List.mem_singleton]at hm hg;obtain⟨_,cur,hc,_⟩:=h.ex a rfl;obtain⟨_,cu2,hd,_⟩:=hb.2.2.2 b rfl;rw[←hg,hm,hd]at hc;injection hc with hc;injection hc with _ h2;exact hne h2.symm
theorem seg_ne_seg{w:World}{e t:TypeId}{A B:Option Addr}{cap c2:Nat}{cs xs:List Value}(h:Seg w e A cap cs)(hb:Seg w t B c2 xs)(hne:e≠t):∀g∈blk A,g∉blk B:=by
 intro g hg hm;cases A with
 | none=>cases hg
 | some a=>
  cases B with
  | none=>cases hm
  | some b=>
   simp only[blk,List.mem_singleton]at hm hg;obtain⟨_,cur,hc,_⟩:=h.2.2.2 a rfl;obtain⟨_,cu2,hd,_⟩:=hb.2.2.2 b rfl;rw[←hg,hm,hd]at hc;injection hc with hc;injection hc with _ h2;exact hne h2.symm
theorem held_ne_seg{w:World}{m:Option Nat}{N:Nat}{xs:List (List UInt8)}{e:TypeId}{A:Option Addr}{cap:Nat}{cs:List Value}(h:Held w m N xs)(hs:Seg w e A cap cs):∀g∈m.toList,g∉blk A:=by
 intro g hg;rcases h with⟨rfl,_⟩ | ⟨b,D,rfl,ho,_⟩
 ·simp at hg
 ·simp at hg;subst hg;exact ins.seg_ne_map hs ho
theorem held_ne_sg{w:World}{m:Option Nat}{N:Nat}{xs:List (List UInt8)}{sz:Nat}{e:TypeId}{A:Option Addr}{cap n:Nat}{cs:List Value}(h:Held w m N xs)(hs:Sg sz w e A cap n cs):∀g∈m.toList,g∉blk A:=by
 intro g hg hm;rcases h with⟨rfl,_⟩ | ⟨b,D,rfl,ho,_⟩
 ·simp at hg
 ·simp at hg;subst hg
  cases A with
  | none=>cases hm
  | some a=>
   simp only[blk,List.mem_singleton]at hm;obtain⟨_,cur,hc,_⟩:=hs.ex a rfl;obtain⟨es,clock,hb,_⟩:=ho;rw[hm,hc]at hb;cases hb
structure MUs where
 u:Use
 A:Option Addr
 c:Nat
def MUs.row(x:MUs):List Value:=[.string x.u.m,.bool x.u.g,.bool x.u.w,.string x.u.o.name,.string x.u.o.kinds,.slice x.A x.u.o.marks.length x.c,.string x.u.f.name,.string x.u.f.kinds,.string x.u.f.ret]
def MUs.val(x:MUs):Value:=.agg #[.string x.u.m,.bool x.u.g,.bool x.u.w,.string x.u.o.name,.string x.u.o.kinds,.slice x.A x.u.o.marks.length x.c,.string x.u.f.name,.string x.u.f.kinds,.string x.u.f.ret]
def UOk(w:World)(x:MUs):Prop:=MOk w ⟨x.u.o,x.A,x.c⟩
theorem UOk.below{w w':World}{x:MUs}(h:UOk w x)(hb:Below w.heap.size w w'):UOk w' x:=MOk.below h hb
structure RowU where
 A:Option Addr
 cap:Nat
 us:List MUs
def hdrU(r:RowU):Value:=.slice r.A r.us.length r.cap
def rowU0:RowU:=⟨none,0,[]⟩
def updU(f:Nat→RowU)(i:Nat)(r:RowU):Nat→RowU:=fun j=>if j=i then r else f j
theorem updU_same(f:Nat→RowU)(i:Nat)(r:RowU):updU f i r i=r:=if_pos rfl
theorem updU_ne(f:Nat→RowU){i j:Nat}(r:RowU)(h:j≠i):updU f i r j=f j:=if_neg h
def hdrs(f:Nat→RowU)(n:Nat):List Value:=(List.range n).map fun i=>hdrU (f i)
theorem hdrs_len(f:Nat→RowU)(n:Nat):(hdrs f n).length=n:=by simp[hdrs]
theorem hdrs_at(f:Nat→RowU){n i:Nat}(h:i<n):(hdrs f n)[i]'(by rw[hdrs_len];exact h)=hdrU (f i):=by simp[hdrs]
theorem hdrs_snoc(f:Nat→RowU)(n:Nat)(r:RowU):hdrs (updU f n r) (n+1)=hdrs f n++[hdrU r]:=by
 unfold hdrs;rw[List.range_succ,List.map_append];congr 1
 ·apply List.map_congr_left
  intro i hi;rw[updU_ne _ _ (by have:=List.mem_range.1 hi;omega)]
 ·simp[updU_same]
theorem hdrs_set(f:Nat→RowU)(n i:Nat)(r:RowU):(hdrs f n).set i (hdrU r)=hdrs (updU f i r) n:=by
 apply List.ext_getElem?
 intro j;rw[List.getElem?_set,hdrs_len];unfold hdrs;rw[List.getElem?_map,List.getElem?_map];by_cases hj:j<n
 ·rw[List.getElem?_range hj]
  by_cases e:i=j
  ·subst e;rw[if_pos rfl,if_pos hj];simp[updU_same]
  ·rw[if_neg e];simp[updU_ne _ _ (Ne.symm e)]
 ·rw[List.getElem?_eq_none (by simp;omega)]
  by_cases e:i=j
  ·subst e;rw[if_pos rfl,if_neg hj];rfl
  ·rw[if_neg e];rfl
def contU(f:Nat→RowU)(n:Nat):List (List MUs):=(List.range n).map fun i=>(f i).us
def putM(s:List (List UInt8)×List (List MUs))(p:List UInt8×MUs):List (List UInt8)×List (List MUs):=
 if p.1∈s.1 then(s.1,s.2.modify (s.1.idxOf p.1) (·++[p.2])) else(s.1++[p.1],s.2++[[p.2]])
theorem cont_snoc(f:Nat→RowU)(n:Nat)(r:RowU):contU (updU f n r) (n+1)=contU f n++[r.us]:=by
 unfold contU;rw[List.range_succ,List.map_append];congr 1
 ·apply List.map_congr_left
  intro i hi;rw[updU_ne _ _ (by have:=List.mem_range.1 hi;omega)]
 ·simp[updU_same]
theorem cont_set(f:Nat→RowU)(n i:Nat)(r:RowU)(u:MUs)(h:r.us=(f i).us++[u]):contU (updU f i r) n=(contU f n).modify i (·++[u]):=by
 apply List.ext_getElem?
 intro j;unfold contU;rw[List.getElem?_modify,List.getElem?_map,List.getElem?_map];by_cases hj:j<n
 ·rw[List.getElem?_range hj]
  by_cases e:i=j
  ·subst e;simp[updU_same,h]
  ·simp[updU_ne _ _ (Ne.symm e),e]
 ·rw[List.getElem?_eq_none (by simp;omega)];rfl
structure UW(w0:World)(b N:Nat)(xs:List (List UInt8))(f:Nat→RowU)(A:Option Addr)(cap:Nat)(m:Option Nat)(H:Option Addr)(hc:Nat)(w:World):Prop where
 tb:TbU (.slice H xs.length hc) w b A cap m N xs
 hs:Seg w 60 H hc (hdrs f xs.length)
 sg:∀i,i<xs.length→Sg 9 w 83 (f i).A (f i).cap (f i).us.length ((f i).us.flatMap MUs.row)
 dj:∀i j,i<xs.length→j<xs.length→i≠j→∀g∈blk (f i).A,g∉blk (f j).A
 tf:∀g∈foot b A m,w0.heap.size≤g
 hf:∀g∈blk H,w0.heap.size≤g
 rf:∀i,i<xs.length→∀g∈blk (f i).A,w0.heap.size≤g
 ln:∀i,i<xs.length→(f i).us.length≤N
 on:Below w0.heap.size w0 w
theorem UW.kept{F:List Nat}{w0:World}{b N:Nat}{xs:List (List UInt8)}{f:Nat→RowU}{A:Option Addr}{cap:Nat}{m:Option Nat}{H:Option Addr}{hc:Nat}{w w':World}(h:UW w0 b N xs f A cap m H hc w)(hF:Fr F w w')(hn:∀g∈F,w.heap.size≤g):UW w0 b N xs f A cap m H hc w':=
 have lt:∀{g},g<w.heap.size→g∉F:=fun hg hm=>by have:=hn _ hm;omega
 ⟨h.tb.kept hF (fun g hg=>lt (h.tb.lt g hg)),h.hs.kept hF (fun g hg=>lt (h.hs.lt g hg)),fun i hi=>(h.sg i hi).kept hF (fun g hg=>lt ((h.sg i hi).lt g hg)),h.dj,h.tf,h.hf,h.rf,h.ln,h.on.trans (hF.below (fun g hg=>Nat.le_trans h.on.size (hn g hg)) h.on.size)⟩
def footU(b:Nat)(f:Nat→RowU)(n:Nat)(A:Option Addr)(m:Option Nat)(H:Option Addr):List Nat:=foot b A m++(blk H++(List.range n).flatMap fun i=>blk (f i).A)
theorem mem_footU{b:Nat}{f:Nat→RowU}{n:Nat}{A:Option Addr}{m:Option Nat}{H:Option Addr}{g:Nat}:g∈footU b f n A m H↔g∈foot b A m∨g∈blk H∨∃i,i<n∧g∈blk (f i).A:=by
 unfold footU;rw[List.mem_append,List.mem_append,List.mem_flatMap];constructor
 ·rintro(h | h | ⟨i,hi,h⟩)
  ·exact Or.inl h
  ·exact Or.inr (Or.inl h)
  ·exact Or.inr (Or.inr ⟨i,List.mem_range.1 hi,h⟩)
 ·rintro(h | h | ⟨i,hi,h⟩)
  ·exact Or.inl h
  ·exact Or.inr (Or.inl h)
  ·exact Or.inr (Or.inr ⟨i,List.mem_range.2 hi,h⟩)
def UStep(F:List Nat)(w:World)(F':List Nat)(w':World):Prop:=Fr F w w'∧∀g∈F',g∈F∨w.heap.size≤g
theorem UStep.refl(F:List Nat)(w:World):UStep F w F w:=⟨Fr.refl _ _,fun g hg=>Or.inl hg⟩
theorem UStep.trans{F F1 F2:List Nat}{w w1 w2:World}(h:UStep F w F1 w1)(k:UStep F1 w1 F2 w2):UStep F w F2 w2:=
 ⟨h.1.trans k.1 (fun g hg=>Or.inl hg) (fun g hg=>h.2 g hg),fun g hg=>by
  rcases k.2 g hg with h1 | h1
  ·exact h.2 g h1
  ·exact Or.inr (Nat.le_trans h.1.size h1)⟩
theorem UStep.of_below{F:List Nat}{w w':World}(h:Below w.heap.size w w'):UStep F w F w':=⟨Fr.of_below h F,fun g hg=>Or.inl hg⟩
def UM(w0:World)(b N:Nat)(s:List (List UInt8)×List (List MUs))(F:List Nat)(w:World):Prop:=∃f A cap m H hc,UW w0 b N s.1 f A cap m H hc w∧s.2=contU f s.1.length∧F=footU b f s.1.length A m H
theorem UW.footge{w0:World}{b N:Nat}{xs:List (List UInt8)}{f:Nat→RowU}{A:Option Addr}{cap:Nat}{m:Option Nat}{H:Option Addr}{hc:Nat}{w:World}(h:UW w0 b N xs f A cap m H hc w):∀g∈footU b f xs.length A m H,w0.heap.size≤g∧g<w.heap.size:=fun g hg=>by
 rcases mem_footU.1 hg with h1 | h1 | ⟨i,hi,h1⟩
 ·exact⟨h.tf g h1,h.tb.lt g h1⟩
 ·exact⟨h.hf g h1,h.hs.lt g h1⟩
 ·exact⟨h.rf i hi g h1,(h.sg i hi).lt g h1⟩
theorem UM.foot{w0 w:World}{b N:Nat}{s:List (List UInt8)×List (List MUs)}{F:List Nat}(h:UM w0 b N s F w):∀g∈F,w0.heap.size≤g∧g<w.heap.size:=by
 obtain⟨f,A,cap,m,H,hc,h,e,rfl⟩:=h;exact h.footge
theorem UM.kept{G:List Nat}{w0 w w':World}{b N:Nat}{s:List (List UInt8)×List (List MUs)}{F:List Nat}(h:UM w0 b N s F w)(hF:Fr G w w')(hn:∀g∈F,g∉G)(h0:∀g∈G,w0.heap.size≤g):UM w0 b N s F w':=by
 obtain⟨f,A,cap,m,H,hc,h,e,rfl⟩:=h;exact⟨f,A,cap,m,H,hc,⟨h.tb.kept hF (fun g hg=>hn g (mem_footU.2 (Or.inl hg))),h.hs.kept hF (fun g hg=>hn g (mem_footU.2 (Or.inr (Or.inl hg)))),fun i hi=>(h.sg i hi).kept hF (fun g hg=>hn g (mem_footU.2 (Or.inr (Or.inr ⟨i,hi,hg⟩)))),h.dj,h.tf,h.hf,h.rf,h.ln,h.on.trans (hF.below h0 h.on.size)⟩,e,rfl⟩
theorem UM.below{w0 w w':World}{b N:Nat}{s:List (List UInt8)×List (List MUs)}{F:List Nat}(h:UM w0 b N s F w)(hb:Below w.heap.size w w'):UM w0 b N s F w':=h.kept (Fr.of_below hb []) (by simp) (by simp)
theorem UM.on{w0 w:World}{b N:Nat}{s:List (List UInt8)×List (List MUs)}{F:List Nat}(h:UM w0 b N s F w):Below w0.heap.size w0 w:=by
 obtain⟨f,A,cap,m,H,hc,h,e,rfl⟩:=h;exact h.on
theorem um_new(w0 w:World)(hb:Below w0.heap.size w0 w):UM w0 w.heap.size 0 ([],[]) [w.heap.size] (w.alloc (.cells #[.map none,.slice none 0 0,.slice none 0 0] 51)):=by
 have ht:TbU (.slice none ([]:List (List UInt8)).length 0) (w.alloc (.cells #[.map none,.slice none 0 0,.slice none 0 0] 51)) w.heap.size none 0 none 0 []:=⟨Box.new w _ _,Seg.nil _ _,Or.inl ⟨rfl,rfl⟩,List.nodup_nil,(fun x hx=>by cases hx),Nat.le_refl _⟩;refine⟨fun _=>rowU0,none,0,none,none,0,⟨ht,Seg.nil _ _,(fun i hi=>by cases hi),(fun i j hi=>by cases hi),(fun g hg=>?_),(fun g hg=>by cases hg),(fun i hi=>by cases hi),(fun i hi=>by cases hi),hb.alloc hb.size _⟩,rfl,by simp[footU,ins.foot,blk]⟩;have:g=w.heap.size:=by simpa[ins.foot,blk] using hg
 subst this;exact hb.size
theorem held_ne_box{w:World}{m:Option Nat}{N:Nat}{xs:List (List UInt8)}{b:Nat}{t:TypeId}{cs:Array Value}(h:Held w m N xs)(hb:Box w b t cs):∀g∈m.toList,g≠b:=by
 intro g hg;rcases h with⟨rfl,_⟩ | ⟨b2,D,rfl,ho,_⟩
 ·simp at hg
 ·simp at hg;subst hg;exact fun e=>ins.box_ne_map hb ho e.symm
section
variable {w0:World} {b N:Nat} {xs:List (List UInt8)} {f:Nat→RowU} {A:Option Addr} {cap:Nat} {m:Option Nat} {H:Option Addr} {hc:Nat} {w:World}
theorem UW.bH(h:UW w0 b N xs f A cap m H hc w):b∉blk H:=h.hs.ne_box h.tb.box (by decide)
theorem UW.bR(h:UW w0 b N xs f A cap m H hc w){i:Nat}(hi:i<xs.length):b∉blk (f i).A:=sg_ne_box (h.sg i hi) h.tb.box (by decide)
theorem UW.rH(h:UW w0 b N xs f A cap m H hc w){i:Nat}(hi:i<xs.length):∀g∈blk (f i).A,g∉blk H:=sg_ne_seg (h.sg i hi) h.hs (by decide)
theorem UW.footH(h:UW w0 b N xs f A cap m H hc w):∀g∈blk H,g∉foot b A m:=by
 intro g hg hm;simp only[foot,List.mem_cons,List.mem_append]at hm;rcases hm with rfl | hm | hm
 ·exact h.bH hg
 ·exact seg_ne_seg h.tb.seg h.hs (by decide) g hm hg
 ·exact held_ne_seg h.tb.set h.hs g hm hg
theorem UW.footR(h:UW w0 b N xs f A cap m H hc w){i:Nat}(hi:i<xs.length):∀g∈blk (f i).A,g∉foot b A m:=by
 intro g hg hm;simp only[foot,List.mem_cons,List.mem_append]at hm;rcases hm with rfl | hm | hm
 ·exact h.bR hi hg
 ·exact sg_ne_seg (h.sg i hi) h.tb.seg (by decide) g hg hm
 ·exact held_ne_sg h.tb.set (h.sg i hi) g hm hg
theorem UW.mono(h:UW w0 b N xs f A cap m H hc w){N2:Nat}(hN:N≤N2):UW w0 b N2 xs f A cap m H hc w:=
 ⟨⟨h.tb.box,h.tb.seg,h.tb.set.mono hN,h.tb.nod,h.tb.wf,Nat.le_trans h.tb.len hN⟩,h.hs,h.sg,h.dj,h.tf,h.hf,h.rf,fun i hi=>Nat.le_trans (h.ln i hi) hN,h.on⟩
theorem UW.fresh(h:UW w0 b N xs f A cap m H hc w){x:List UInt8}{A2 H3:Option Addr}{cap2 hc3:Nat}{m2:Option Nat}{w2 w3:World}{ob:Obj}(hF:Fr (foot b A m) w w2)(ht:TbU (.slice H xs.length hc) w2 b A2 cap2 m2 (N+1) (xs++[x]))
 (hfoot:∀g∈foot b A2 m2,g∈foot b A m∨w.heap.size≤g) (hs3:Seg w3 60 H3 hc3 (hdrs f xs.length++[.slice none 0 0])) (b3:Fr (blk H) (w2.alloc ob) w3) (hf3:blk H3=blk H∨blk H3=[(w2.alloc ob).heap.size]) :
 UW w0 b (N+1) (xs++[x]) (updU f xs.length rowU0) A2 cap2 m2 H3 hc3 (w3.setCell ⟨b,2,none⟩ (.slice H3 (xs.length+1) hc3)) ∧
 UStep (footU b f xs.length A m H) w (footU b (updU f xs.length rowU0) (xs.length+1) A2 m2 H3) (w3.setCell ⟨b,2,none⟩ (.slice H3 (xs.length+1) hc3)):=by
 have hw2:w.heap.size≤w2.heap.size:=hF.size;have fall:Fr (blk H) w2 w3:=((Fr.refl (blk H) w2).alloc ob).trans b3 (fun g hg=>Or.inl hg) (fun g hg=>Or.inl hg);have hset:Fr [b] w3 (w3.setCell ⟨b,2,none⟩ (.slice H3 (xs.length+1) hc3)):=(Fr.refl [b] w3).setCell (Or.inl (by simp)) _;have hH2:∀g∈foot b A2 m2,g∉blk H:=fun g hg hm=>by
  rcases hfoot g hg with h1 | h1
  ·exact h.footH g hm h1
  ·have:=h.hs.lt g hm;omega
 have hb2:Box w3 b 51 #[.map m2,.slice A2 (xs++[x]).length cap2,.slice H xs.length hc]:=ht.box.kept fall (hH2 b (by simp[foot]));have hs2:Seg w3 9 A2 cap2 (vals (xs++[x])):=ht.seg.kept fall (fun g hg=>hH2 g (by simp[foot,hg]));have hm2:Held w3 m2 (N+1) (xs++[x]):=ht.set.kept fall (fun g hg=>hH2 g (by simp only[foot,List.mem_cons,List.mem_append];exact Or.inr (Or.inr hg)));have hbH3:b∉blk H3:=hs3.ne_box hb2 (by decide);have hbA2:b∉blk A2:=hs2.ne_box hb2 (by decide);have hH3:∀g∈blk H3,g∈blk H∨w2.heap.size≤g:=fun g hg=>by
  rcases hf3 with e | e
  ·exact Or.inl (e ▸ hg)
  ·rw[e,List.mem_singleton]at hg
   subst hg;right;simp
 have hb0:w0.heap.size≤b:=h.tf b (by simp[foot]);have hlen:(xs++[x]).length=xs.length+1:=by simp
 have hbf:b∈footU b f xs.length A m H:=mem_footU.2 (Or.inl (by simp[foot]));have g1:Fr (footU b f xs.length A m H) w w2:=hF.mono (fun g hg=>Or.inl (mem_footU.2 (Or.inl hg)));have g2:Fr (footU b f xs.length A m H) w w3:=g1.trans fall (fun g hg=>Or.inl hg) (fun g hg=>Or.inl (mem_footU.2 (Or.inr (Or.inl hg))));refine⟨?_,g2.trans hset (fun g hg=>Or.inl hg) (fun g hg=>Or.inl (by rw[List.mem_singleton]at hg;subst hg;exact hbf)),fun g hg=>?_⟩;rotate_left
 ·rcases mem_footU.1 hg with h1 | h1 | ⟨i,hi,h1⟩
  ·rcases hfoot g h1 with h2 | h2
   ·exact Or.inl (mem_footU.2 (Or.inl h2))
   ·exact Or.inr h2
  ·rcases hH3 g h1 with h2 | h2
   ·exact Or.inl (mem_footU.2 (Or.inr (Or.inl h2)))
   ·exact Or.inr (Nat.le_trans hw2 h2)
  ·by_cases e:i=xs.length
   ·subst e;rw[updU_same]at h1;cases h1
   ·rw[updU_ne _ _ e]at h1
    exact Or.inl (mem_footU.2 (Or.inr (Or.inr ⟨i,by omega,h1⟩)))
 refine⟨⟨?_,?_,?_,ht.nod,ht.wf,ht.len⟩,?_,fun i hi=>?_,fun i j hi hj hij g hg1 hg2=>?_,fun g hg=>?_,fun g hg=>?_,fun i hi g hg=>?_,fun i hi=>?_,?_⟩
 ·have:=hb2.put 2 (.slice H3 (xs.length+1) hc3)
  rw[hlen]at this ⊢
  simpa using this
 ·exact hs2.kept hset (fun g hg e=>by rw[List.mem_singleton]at e;subst e;exact hbA2 hg)
 ·exact hm2.kept hset (fun g hg e=>by rw[List.mem_singleton]at e;exact held_ne_box hm2 hb2 g hg e)
 ·rw[hlen,hdrs_snoc]
  exact hs3.kept hset (fun g hg e=>by rw[List.mem_singleton]at e;subst e;exact hbH3 hg)
 ·rw[hlen]at hi
  by_cases e:i=xs.length
  ·subst e;rw[updU_same];exact Sg.new 9 _ _
  ·rw[updU_ne _ _ e]
   have hi2:i<xs.length:=by omega
   refine(((h.sg i hi2).kept hF (h.footR hi2)).kept fall (h.rH hi2)).kept hset (fun g hg e=>by rw[List.mem_singleton]at e;subst e;exact h.bR hi2 hg)
 ·rw[hlen]at hi hj
  by_cases e:i=xs.length
  ·subst e;rw[updU_same]at hg1;cases hg1
  ·rw[updU_ne _ _ e]at hg1
   by_cases e2:j=xs.length
   ·subst e2;rw[updU_same]at hg2;cases hg2
   ·rw[updU_ne _ _ e2]at hg2
    exact h.dj i j (by omega) (by omega) hij g hg1 hg2
 ·rcases hfoot g hg with h1 | h1
  ·exact h.tf g h1
  ·exact Nat.le_trans h.on.size h1
 ·rcases hH3 g hg with h1 | h1
  ·exact h.hf g h1
  ·exact Nat.le_trans h.on.size (Nat.le_trans hw2 h1)
 ·rw[hlen]at hi
  by_cases e:i=xs.length
  ·subst e;rw[updU_same]at hg;cases hg
  ·rw[updU_ne _ _ e]at hg
   exact h.rf i (by omega) g hg
 ·rw[hlen]at hi
  by_cases e:i=xs.length
  ·subst e;rw[updU_same];exact Nat.zero_le _
  ·rw[updU_ne _ _ e]
   have:=h.ln i (by omega);omega
 ·have o1:Below w0.heap.size w0 w2:=h.on.trans (hF.below h.tf h.on.size)
  have o2:Below w0.heap.size w0 w3:=o1.trans (fall.below h.hf o1.size);exact o2.trans (hset.below (by simpa using hb0) o2.size)
theorem UW.step(h:UW w0 b N xs f A cap m H hc w){i:Nat}(hi:i<xs.length)(hn:(f i).us.length+1≤N){u:MUs}{gH oH:Nat}(eH:H=some ⟨gH,oH,none⟩){A3:Option Addr}{cap3 k:Nat}(hk:k=(f i).us.length+1){w3:World}{ob:Obj}
 (hs3:Sg 9 w3 83 A3 cap3 k ((f i).us.flatMap MUs.row++u.row)) (f3:Fr (blk (f i).A) (w.alloc ob) w3) (hf3:blk A3=blk (f i).A∨blk A3=[(w.alloc ob).heap.size]) :
 UW w0 b N xs (updU f i ⟨A3,cap3,(f i).us++[u]⟩) A cap m H hc (w3.setCell ⟨gH,oH+i,none⟩ (.slice A3 k cap3)) ∧
 UStep (footU b f xs.length A m H) w (footU b (updU f i ⟨A3,cap3,(f i).us++[u]⟩) xs.length A m H) (w3.setCell ⟨gH,oH+i,none⟩ (.slice A3 k cap3)):=by
 subst hk;have fall:Fr (blk (f i).A) w w3:=((Fr.refl (blk (f i).A) w).alloc ob).trans f3 (fun g hg=>Or.inl hg) (fun g hg=>Or.inl hg);have hset:Fr [gH] w3 (w3.setCell ⟨gH,oH+i,none⟩ (.slice A3 ((f i).us.length+1) cap3)):=(Fr.refl [gH] w3).setCell (Or.inl (by simp)) _;have hA3:∀g∈blk A3,g∈blk (f i).A∨w.heap.size≤g:=fun g hg=>by
  rcases hf3 with e | e
  ·exact Or.inl (e ▸ hg)
  ·rw[e,List.mem_singleton]at hg
   subst hg;right;simp
 have hgH:gH∈blk H:=by rw[eH];simp[blk]
 have hH3:Seg w3 60 H hc (hdrs f xs.length):=h.hs.kept fall (fun g hg hm=>h.rH hi g hm hg);have nH:∀g,g∈([gH]:List Nat)→g∈blk H:=fun g hg=>by rw[List.mem_singleton]at hg;subst hg;exact hgH
 have g2:Fr (footU b f xs.length A m H) w w3:=fall.mono (fun g hg=>Or.inl (mem_footU.2 (Or.inr (Or.inr ⟨i,hi,hg⟩))));refine⟨?_,g2.trans hset (fun g hg=>Or.inl hg) (fun g hg=>Or.inl (mem_footU.2 (Or.inr (Or.inl (nH g hg))))),fun g hg=>?_⟩;rotate_left
 ·rcases mem_footU.1 hg with h1 | h1 | ⟨j,hj,h1⟩
  ·exact Or.inl (mem_footU.2 (Or.inl h1))
  ·exact Or.inl (mem_footU.2 (Or.inr (Or.inl h1)))
  ·by_cases e:j=i
   ·subst e
    rw[updU_same]at h1;rcases hA3 g h1 with h2 | h2
    ·exact Or.inl (mem_footU.2 (Or.inr (Or.inr ⟨j,hj,h2⟩)))
    ·exact Or.inr h2
   ·rw[updU_ne _ _ e]at h1
    exact Or.inl (mem_footU.2 (Or.inr (Or.inr ⟨j,hj,h1⟩)))
 refine⟨(h.tb.kept fall (fun g hg hm=>h.footR hi g hm hg)).kept hset (fun g hg hm=>h.footH g (nH g hm) hg),?_,fun j hj=>?_,fun j l hj hl hjl g hg1 hg2=>?_,h.tf,h.hf,fun j hj g hg=>?_,fun j hj=>?_,?_⟩
 ·have hl:i<(hdrs f xs.length).length:=by rw[hdrs_len];exact hi
  subst eH;have:=seg_putU hH3 hl (.slice A3 ((f i).us.length+1) cap3);have e:Value.slice A3 ((f i).us.length+1) cap3=hdrU ⟨A3,cap3,(f i).us++[u]⟩:=by unfold hdrU;simp
  rw[e,hdrs_set]at this;rw[e];exact this
 ·by_cases e:j=i
  ·subst e
   rw[updU_same];dsimp only;rw[List.length_append,List.flatMap_append];have e2:([u]:List MUs).flatMap MUs.row=u.row:=by simp
   rw[e2]
   exact hs3.kept hset (fun g hg hm=>by
    rcases hA3 g hg with h1 | h1
    ·exact h.rH hi g h1 (nH g hm)
    ·have:=h.hs.lt g (nH g hm);omega)
  ·rw[updU_ne _ _ e]
   exact((h.sg j hj).kept fall (h.dj j i hj hi e)).kept hset (fun g hg hm=>h.rH hj g hg (nH g hm))
 ·by_cases e:j=i
  ·subst e
   rw[updU_same]at hg1;rw[updU_ne _ _ (Ne.symm hjl)]at hg2;rcases hA3 g hg1 with h1 | h1
   ·exact h.dj j l hj hl hjl g h1 hg2
   ·have:=(h.sg l hl).lt g hg2;omega
  ·rw[updU_ne _ _ e]at hg1
   by_cases e2:l=i
   ·subst e2
    rw[updU_same]at hg2;rcases hA3 g hg2 with h1 | h1
    ·exact h.dj j l hj hl hjl g hg1 h1
    ·have:=(h.sg j hj).lt g hg1;omega
   ·rw[updU_ne _ _ e2]at hg2
    exact h.dj j l hj hl hjl g hg1 hg2
 ·by_cases e:j=i
  ·subst e
   rw[updU_same]at hg;rcases hA3 g hg with h1 | h1
   ·exact h.rf j hj g h1
   ·exact Nat.le_trans h.on.size h1
  ·rw[updU_ne _ _ e]at hg
   exact h.rf j hj g hg
 ·by_cases e:j=i
  ·subst e;rw[updU_same];simpa using hn
  ·rw[updU_ne _ _ e];exact h.ln j hj
 ·have o2:Below w0.heap.size w0 w3:=h.on.trans (fall.below (h.rf i hi) h.on.size)
  exact o2.trans (hset.below (fun g hg=>h.hf g (nH g hg)) o2.size)
end
end ym
open Lib(hid)
set_option maxRecDepth 100000
set_option maxHeartbeats 8000000
namespace ym
open RowKit mem sy
open ins (foot WF Held vals noOf)
theorem info_use:(Tryz.prog.info? 83).map (fun i=>(i.zero,i.size,i.bytes))=some (some (.agg #[.string ByteArray.empty,.bool false,.bool false,.string ByteArray.empty,.string ByteArray.empty,.slice none 0 0,.string ByteArray.empty,.string ByteArray.empty,.string ByteArray.empty]),9,128):=by kernel_rfl
theorem info_uses:(Tryz.prog.info? 60).map (fun i=>(i.zero,i.size,i.bytes))=some (some (.slice none 0 0),1,24):=by kernel_rfl
theorem nine_cells(w:World)(t:TypeId)(vs:List Value):∀(j:Nat) (v:Value),vs[j]? = some v→(w.alloc (.cells vs.toArray t)).cell? ((⟨w.heap.size,0,none⟩:Addr).add j)=some v:=by
 intro j v h;have e1:(⟨w.heap.size,0,none⟩:Addr).add j=⟨w.heap.size,j,none⟩:=by unfold Addr.add;split <;> simp_all
 rw[e1,(Box.new w t vs.toArray).cell j]
 simpa using h
def PuPost(w0:World)(b N:Nat)(xs:List (List UInt8))(f:Nat→RowU)(x:List UInt8)(u:MUs)(F:List Nat)(w:World)(e:Ending)(w':World):Prop:=
 e=.returned (.tuple #[])∧∃F',UM w0 b (N+1) (putM (xs,contU f xs.length) (x,u)) F' w'∧UStep F w F' w'
theorem pu_new{w0 w wS:World}{F:List Nat}{b N:Nat}{xs:List (List UInt8)}{f:Nat→RowU}{x:List UInt8}{u:MUs}{A:Option Addr}{cap:Nat}{m:Option Nat}{H:Option Addr}{hc:Nat}{A3:Option Addr}{cap3:Nat}(hin:x∉xs)(h:UW w0 b (N+1) (xs++[x]) (updU (updU f xs.length rowU0) xs.length ⟨A3,cap3,(updU f xs.length rowU0 xs.length).us++[u]⟩) A cap m H hc w)(hst:UStep F wS (footU b (updU (updU f xs.length rowU0) xs.length ⟨A3,cap3,(updU f xs.length rowU0 xs.length).us++[u]⟩) (xs++[x]).length A m H) w):PuPost w0 b N xs f x u F wS (.returned (.tuple #[])) w:=by
 have e1:putM (xs,contU f xs.length) (x,u)=(xs++[x],contU (updU (updU f xs.length rowU0) xs.length ⟨A3,cap3,(updU f xs.length rowU0 xs.length).us++[u]⟩) (xs++[x]).length):=by
  unfold putM;rw[if_neg hin];dsimp only;have e:∀r:RowU,updU (updU f xs.length rowU0) xs.length r=updU f xs.length r:=fun r=>by
   funext j
   by_cases hj:j=xs.length
   ·subst hj;rw[updU_same,updU_same]
   ·rw[updU_ne _ _ hj,updU_ne _ _ hj,updU_ne _ _ hj]
  rw[e,List.length_append,List.length_singleton,cont_snoc,updU_same];rfl
 unfold PuPost;rw[e1];exact⟨rfl,_,⟨_,_,_,_,_,_,h,rfl,rfl⟩,hst⟩
theorem pu_old{w0 w wS:World}{F:List Nat}{b N:Nat}{xs:List (List UInt8)}{f:Nat→RowU}{x:List UInt8}{u:MUs}{A:Option Addr}{cap:Nat}{m:Option Nat}{H:Option Addr}{hc:Nat}{A3:Option Addr}{cap3:Nat}(hin:x∈xs)(h:UW w0 b (N+1) xs (updU f (noOf xs x) ⟨A3,cap3,(f (noOf xs x)).us++[u]⟩) A cap m H hc w)(hst:UStep F wS (footU b (updU f (noOf xs x) ⟨A3,cap3,(f (noOf xs x)).us++[u]⟩) xs.length A m H) w):PuPost w0 b N xs f x u F wS (.returned (.tuple #[])) w:=by
 have e1:putM (xs,contU f xs.length) (x,u)=(xs,contU (updU f (noOf xs x) ⟨A3,cap3,(f (noOf xs x)).us++[u]⟩) xs.length):=by
  unfold putM;rw[if_pos hin];dsimp only;rw[cont_set f xs.length (noOf xs x) ⟨A3,cap3,(f (noOf xs x)).us++[u]⟩ u rfl];unfold noOf;rw[if_pos hin]
 unfold PuPost;rw[e1];exact⟨rfl,_,⟨_,_,_,_,_,_,h,rfl,rfl⟩,hst⟩
theorem uput_new(w0 w:World)(b N:Nat)(xs:List (List UInt8))(f:Nat→RowU)(A:Option Addr)(cap:Nat)(m:Option Nat)(H:Option Addr)(hc:Nat)(x:List UInt8)(u:MUs)(h:UW w0 b N xs f A cap m H hc w)(hx:WF x)(hin:x∉xs)(hN:N<900000) :
 Calls Tryz.prog 40 #[.pointer (some ⟨b,0,none⟩),encStr x,u.val] w (PuPost w0 b N xs f x u (footU b f xs.length A m H) w):=by
 obtain⟨W1,hW1⟩:∃W1,Hid (W1=w.alloc (.cells u.row.toArray 83)):=⟨_,hid rfl⟩;have f1:Fr [] w W1:=by rw[hW1.out];exact(Fr.refl [] w).alloc _
 have B1:Box W1 w.heap.size 83 u.row.toArray:=by rw[hW1.out];exact Box.new w _ _
 have h1:UW w0 b N xs f A cap m H hc W1:=h.kept f1 (by simp);have hbl:b<w.heap.size:=h.tb.box.lt;have hlen:=h.tb.len;have HB:Hid (∀w2 F,Fr F W1 w2→w.heap.size∉F→Box w2 w.heap.size 83 u.row.toArray):=hid (fun w2 F hF hn=>B1.kept hF hn);have hwh:∀{g},g∈foot b A m→g<w.heap.size:=fun {g} hg=>h.tb.lt g hg
 obtain⟨i0,hi0,hz0,hz1,hz2⟩:=info_parts info_use;have Hi:=hid hi0;have Hz0:=hid hz0;have Hz1:=hid hz1;have Hz2:=hid hz2;obtain⟨j0,hj0,hy0,hy1,hy2⟩:=info_parts info_uses;have Hj:=hid hj0;have Hy0:=hid hy0;have Hy1:=hid hy1;have Hy2:=hid hy2;clear hi0 hz0 hz1 hz2 hj0 hy0 hy1 hy2;have KP:=hid (put_anyU (o:=.slice H xs.length hc) W1 b A cap m N xs x h1.tb hx hin (by omega))
 have HN:Hid (∀A2 cap2 m2 w2,Fr (foot b A m) W1 w2→TbU (.slice H xs.length hc) w2 b A2 cap2 m2 (N+1) (xs++[x])→(∀g∈foot b A2 m2,g∈foot b A m∨W1.heap.size≤g) →
  w2.cell? ⟨b,2,none⟩=some (.slice H xs.length hc)∧Seg w2 60 H hc (hdrs f xs.length)∧∀H3 hc3 w3 ob,Seg w3 60 H3 hc3 (hdrs f xs.length++[.slice none 0 0])→Fr (blk H) (w2.alloc ob) w3→(blk H3=blk H∨blk H3=[(w2.alloc ob).heap.size]) →
   (w3.cell? ⟨b,2,none⟩=some (.slice H xs.length hc)∧w3.frozen? ⟨b,2,none⟩=false∧b<w3.heap.size)∧UW w0 b (N+1) (xs++[x]) (updU f xs.length rowU0) A2 cap2 m2 H3 hc3 (w3.setCell ⟨b,2,none⟩ (.slice H3 (xs.length+1) hc3))∧UStep (footU b f xs.length A m H) w (footU b (updU f xs.length rowU0) (xs.length+1) A2 m2 H3) (w3.setCell ⟨b,2,none⟩ (.slice H3 (xs.length+1) hc3))∧Box (w3.setCell ⟨b,2,none⟩ (.slice H3 (xs.length+1) hc3)) w.heap.size 83 u.row.toArray):=hid (fun A2 cap2 m2 w2 hF ht hfoot=>by
  refine⟨ht.box.cell 2,h1.hs.kept hF h1.footH,fun H3 hc3 w3 ob hs3 b3 hf3=>?_⟩;have fall:Fr (blk H) w2 w3:=((Fr.refl (blk H) w2).alloc ob).trans b3 (fun g hg=>Or.inl hg) (fun g hg=>Or.inl hg);have hb3:=ht.box.kept fall h1.bH;have hbw:w.heap.size∉foot b A m:=fun hm=>Nat.lt_irrefl _ (hwh hm)
  have hbw2:w.heap.size∉blk H:=fun hm=>Nat.lt_irrefl _ (h.hs.lt _ hm)
  refine⟨⟨hb3.cell 2,hb3.free 2,hb3.lt⟩,(h1.fresh hF ht hfoot hs3 b3 hf3).1,(UStep.of_below f1.all).trans (h1.fresh hF ht hfoot hs3 b3 hf3).2,?_⟩;have B2:=HB.out w2 _ hF hbw
  exact(B2.kept fall hbw2).kept ((Fr.refl [b] w3).setCell (Or.inl (by simp)) _) (by simp;omega))
 have HE:Hid (∀A3 cap3 A2 cap2 m2 H3 hc3 w',UW w0 b (N+1) (xs++[x]) (updU (updU f xs.length rowU0) xs.length ⟨A3,cap3,(updU f xs.length rowU0 xs.length).us++[u]⟩) A2 cap2 m2 H3 hc3 w'→UStep (footU b f xs.length A m H) w (footU b (updU (updU f xs.length rowU0) xs.length ⟨A3,cap3,(updU f xs.length rowU0 xs.length).us++[u]⟩) (xs++[x]).length A2 m2 H3) w'→PuPost w0 b N xs f x u (footU b f xs.length A m H) w (.returned (.tuple #[])) w'):=hid (fun A3 cap3 A2 cap2 m2 H3 hc3 w' hq hst=>pu_new hin hq hst);unfold PutPostU at KP;have HR:Hid (∀i,i<xs.length→∀g∈blk (f i).A,g<w.heap.size):=hid (fun i hi g hg=>(h.sg i hi).lt g hg);clear h B1 hwh hx hin;obtain⟨⟨um,ug,uw,⟨on,okd,oms⟩,⟨fnm,fk,fr⟩⟩,uA,uc⟩:=u;unfold MUs.val;unfold MUs.row at hW1 HB;unfold MUs.row at HN;dsimp only at *;generalize hml:oms.length=ml at *;replace hml:=hid hml;unfold encStr at KP ⊢;generalize hPost:PuPost w0 b N xs f x _ _ _=Q at *
 clear hPost;go_enter Tryz.func40,Tryz.ntmps40;go_upto_region 1 with fail;rw[←hW1.out];clear hW1;go_wp2_with fail;refine KP.out.mono ?_;rintro e w2 ⟨rfl,hF,A2,cap2,m2,ht2,hfoot⟩;obtain⟨c2,hsH,hN3⟩:=HN.out A2 cap2 m2 w2 hF ht2 hfoot;have HsH:=hid hsH;have HN3:=hid hN3;clear hF ht2 hfoot hsH hN3 KP HN;generalize hxl:xs.length=n at *;replace hxl:=hid hxl
 go_wp2_with (at_builtin
              refine wpList_push (n:=n) rfl _ _ _ rfl (HsH.out.alloc _) (by rw[hdrs_len]) Tryz.underlying49 Hj.out Hy0.out Hy1.out Hy2.out rfl rfl rfl (new_cell _ _ _) rfl (by omega) (by omega) ?_;intro H3 hc4 w3 hs3 b3 hf3;obtain⟨⟨c3,z3,l3⟩,h4,hst4,B4⟩:=HN3.out H3 hc4 w3 _ hs3 b3 hf3
              clear hs3 b3 hf3)
 generalize hW4:w3.setCell ⟨b,2,none⟩ (.slice H3 (n+1) hc4)=W4 at *;clear hW4 c2 c3 z3 l3 HN3 HsH;have hyl:(xs++[x]).length=n+1:=by rw[List.length_append,hxl.out];rfl
 have B5:Hid (Box W4.drew w.heap.size 83 #[.string um,.bool ug,.bool uw,.string on,.string okd,.slice uA ml uc,.string fnm,.string fk,.string fr]):=hid B4;have H5:Hid (UW w0 b (N+1) (xs++[x]) (updU f n rowU0) A2 cap2 m2 H3 hc4 W4.drew):=hid (h4.kept ((Fr.refl [] W4).drew) (by simp));have T5:Hid (UStep (footU b f n A m H) w (footU b (updU f n rowU0) (n+1) A2 m2 H3) W4.drew):=hid (hst4.trans (UStep.of_below ((Fr.refl [] W4).drew.all)));obtain⟨gH,oH,rfl,hgl,hat⟩:=H5.out.hs.at_ (by rw[hdrs_len];omega);have hci:W4.drew.cell? ⟨gH,oH+n,none⟩=some (.slice ((updU f n rowU0) n).A ((updU f n rowU0) n).us.length ((updU f n rowU0) n).cap):=by
  have:=hat n (by rw[hdrs_len];omega)
  rwa[hdrs_at _ (by omega)]at this
 obtain⟨S,hSd⟩:∃S:World→Prop,Hid (∀W',S W'↔(W'.cell? ⟨b,2,none⟩=some (.slice (some ⟨gH,oH,none⟩) (n+1) hc4)∧Box W' w.heap.size 83 #[.string um,.bool ug,.bool uw,.string on,.string okd,.slice uA ml uc,.string fnm,.string fk,.string fr])):=⟨_,hid fun _=>Iff.rfl⟩;have hrl:((updU f n rowU0) n).us.length≤N:=by rw[updU_same];exact Nat.zero_le _
 have HSg:Hid (Sg 9 W4.drew 83 ((updU f n rowU0) n).A ((updU f n rowU0) n).cap ((updU f n rowU0) n).us.length (((updU f n rowU0) n).us.flatMap MUs.row)):=hid (H5.out.sg n (by omega));have keepS:Hid (∀W F,Fr F W4.drew W→b∉F→w.heap.size∉F→S W):=hid (fun W F hF h1 h2=>(hSd.out _).2 ⟨(by have:=(H5.out.tb.box.kept hF h1).cell 2;simpa[hyl] using this),B5.out.kept hF h2⟩);have hS1:S W4.drew:=keepS.out _ [] (Fr.refl [] _) (by simp) (by simp)
 have HH:Hid (∀W,(W=W4.drew∨∃q,W=W4.drew.alloc q)→W.cell? ⟨gH,oH+n,none⟩=some (.slice ((updU f n rowU0) n).A ((updU f n rowU0) n).us.length ((updU f n rowU0) n).cap)):=hid (fun W hW=>by
  rcases hW with rfl | ⟨q,rfl⟩
  ·exact hci
  ·exact(World.cell?_of_block (w:=W4.drew) (a:=⟨gH,oH+n,none⟩) (Below.heap_alloc _ q gH hgl)).trans hci)
 have HU:Hid (∀A3 cap3 w3 q,Sg 9 w3 83 A3 cap3 (((updU f n rowU0) n).us.length+1) (((updU f n rowU0) n).us.flatMap MUs.row++[.string um,.bool ug,.bool uw,.string on,.string okd,.slice uA ml uc,.string fnm,.string fk,.string fr])→Fr (blk ((updU f n rowU0) n).A) (W4.drew.alloc q) w3→(blk A3=blk ((updU f n rowU0) n).A∨blk A3=[(W4.drew.alloc q).heap.size]) →
  S w3∧w3.cell? ⟨gH,oH+n,none⟩=some (.slice ((updU f n rowU0) n).A ((updU f n rowU0) n).us.length ((updU f n rowU0) n).cap)∧w3.frozen? ⟨gH,oH+n,none⟩=false∧gH<w3.heap.size∧S (w3.setCell ⟨gH,oH+n,none⟩ (.slice A3 (((updU f n rowU0) n).us.length+1) cap3)) ∧
  UW w0 b (N+1) (xs++[x]) (updU (updU f n rowU0) n ⟨A3,cap3,((updU f n rowU0) n).us++[⟨⟨um,ug,uw,⟨on,okd,oms⟩,⟨fnm,fk,fr⟩⟩,uA,uc⟩]⟩) A2 cap2 m2 (some ⟨gH,oH,none⟩) hc4 (w3.setCell ⟨gH,oH+n,none⟩ (.slice A3 (((updU f n rowU0) n).us.length+1) cap3)) ∧
  UStep (footU b f n A m H) w (footU b (updU (updU f n rowU0) n ⟨A3,cap3,((updU f n rowU0) n).us++[⟨⟨um,ug,uw,⟨on,okd,oms⟩,⟨fnm,fk,fr⟩⟩,uA,uc⟩]⟩) (xs++[x]).length A2 m2 (some ⟨gH,oH,none⟩)) (w3.setCell ⟨gH,oH+n,none⟩ (.slice A3 (((updU f n rowU0) n).us.length+1) cap3))):=hid (fun A3 cap3 w3 q hs3 f3 hf3=>by
  have hiy:n<(xs++[x]).length:=by omega
  have fall:Fr (blk ((updU f n rowU0) n).A) W4.drew w3:=((Fr.refl (blk ((updU f n rowU0) n).A) W4.drew).alloc q).trans f3 (fun g hg=>Or.inl hg) (fun g hg=>Or.inl hg);have hgR:gH∉blk ((updU f n rowU0) n).A:=fun hm=>H5.out.rH hiy gH hm (by simp[blk])
  have hbR:=H5.out.bR hiy;have hbH:=H5.out.bH;have hwR:w.heap.size∉blk ((updU f n rowU0) n).A:=by rw[updU_same];simp[rowU0,blk]
  have hwH:w.heap.size∉blk (some (⟨gH,oH,none⟩:Addr)):=H5.out.hs.ne_box B5.out (by decide);have fset:Fr [gH] w3 (w3.setCell ⟨gH,oH+n,none⟩ (.slice A3 (((updU f n rowU0) n).us.length+1) cap3)):=(Fr.refl [gH] w3).setCell (Or.inl (by simp)) _;have fboth:Fr (gH :: blk ((updU f n rowU0) n).A) W4.drew (w3.setCell ⟨gH,oH+n,none⟩ (.slice A3 (((updU f n rowU0) n).us.length+1) cap3)):=fall.trans fset (fun g hg=>Or.inl (List.mem_cons_of_mem _ hg)) (fun g hg=>Or.inl (by rw[List.mem_singleton]at hg;subst hg;simp));have hs4:=H5.out.hs.kept fall (fun g hg hm=>H5.out.rH hiy g hm hg);refine⟨keepS.out _ _ fall hbR hwR,(World.cell?_of_block (w:=W4.drew) (a:=⟨gH,oH+n,none⟩) (fall.block gH hgl hgR)).trans hci,hs4.free _,Nat.lt_of_lt_of_le hgl fall.size,keepS.out _ _ fboth (fun hm=>?_) (fun hm=>?_),?_⟩
  ·rcases List.mem_cons.1 hm with e | e
   ·exact hbH (by rw[e];simp[blk])
   ·exact hbR e
  ·rcases List.mem_cons.1 hm with e | e
   ·exact hwH (by rw[e];simp[blk])
   ·exact hwR e
  ·have hs5:Sg 9 w3 83 A3 cap3 (((updU f n rowU0) n).us.length+1) (((updU f n rowU0) n).us.flatMap MUs.row++MUs.row ⟨⟨um,ug,uw,⟨on,okd,oms⟩,⟨fnm,fk,fr⟩⟩,uA,uc⟩):=by
    unfold MUs.row;dsimp only;rw[hml.out];exact hs3
   obtain⟨p1,p2⟩:=H5.out.step hiy (by omega) rfl rfl hs5 f3 hf3;have T6:=T5.out;rw[←hyl]at T6
   exact⟨p1,by have t:=T6.trans p2;rw[hyl]at t ⊢;exact t⟩)
 generalize hrw:(updU f n rowU0) n=r at *;replace hrw:=hid hrw;obtain⟨rA,rc,rus⟩:=r;dsimp only at *;generalize hru:rus.length=rn at *;replace hru:=hid hru;clear hat hci h4 B4 H5 B5;refine rng.wp_normal ?_;refine wp_region_held_drew (S:=S) (by kernel_rfl) hS1 (fun _=>?_);generalize hwz:W4.drew=wz at *;clear hwz;refine wpAnyH_take (i:=0) (v:=.pointer (some ⟨b,0,none⟩)) rfl (by kernel_rfl) (by kernel_rfl) (by kernel_rfl) (fun _ _ _ h=>absurd h.1 (by simp)) (Or.inl ⟨by kernel_rfl,?_⟩) hS1 ?_
 ·intro W' hSw
  obtain⟨s0,s2⟩:=(hSd.out _).1 hSw;go_simp
 try change wpAnyH _ _ _ _ _ _ _ (Act.put _ (some 26) _) _
 try simp only[Act.put,List.setIfInBounds_toArray,List.set_cons_zero,List.set_cons_succ]
 refine wpAnyH_take (i:=1) (v:=.pointer (some ⟨b,0,none⟩)) rfl (by kernel_rfl) (by kernel_rfl) (by kernel_rfl) (fun _ _ _ h=>absurd h.1 (by simp)) (Or.inl ⟨by kernel_rfl,?_⟩) hS1 ?_
 ·intro W' hSw
  obtain⟨s0,s2⟩:=(hSd.out _).1 hSw;go_simp
 try change wpAnyH _ _ _ _ _ _ _ (Act.put _ (some 27) _) _
 try simp only[Act.put,List.setIfInBounds_toArray,List.set_cons_zero,List.set_cons_succ]
 refine wpAnyH_take (i:=2) (v:=.pointer (some ⟨b,2,none⟩)) rfl (by kernel_rfl) (by kernel_rfl) (by kernel_rfl) (fun _ _ _ h=>absurd h.1 (by simp)) (Or.inl ⟨by kernel_rfl,?_⟩) hS1 ?_
 ·intro W' hSw
  obtain⟨s0,s2⟩:=(hSd.out _).1 hSw;go_simp
 try change wpAnyH _ _ _ _ _ _ _ (Act.put _ (some 28) _) _
 try simp only[Act.put,List.setIfInBounds_toArray,List.set_cons_zero,List.set_cons_succ]
 refine wpAnyH_take (i:=3) (v:=.slice (some ⟨gH,oH,none⟩) (n+1) hc4) rfl (by kernel_rfl) (by kernel_rfl) (by kernel_rfl) (fun _ _ _ h=>absurd h.1 (by simp)) (Or.inl ⟨by kernel_rfl,?_⟩) hS1 ?_
 ·intro W' hSw
  obtain⟨s0,s2⟩:=(hSd.out _).1 hSw;go_simp
 try change wpAnyH _ _ _ _ _ _ _ (Act.put _ (some 29) _) _
 try simp only[Act.put,List.setIfInBounds_toArray,List.set_cons_zero,List.set_cons_succ]
 refine wpAnyH_take (i:=4) (v:=.int .i64 n) rfl (by kernel_rfl) (by kernel_rfl) (by kernel_rfl) (fun _ _ _ h=>absurd h.1 (by simp)) (Or.inl ⟨by kernel_rfl,?_⟩) hS1 ?_
 ·intro W' hSw
  obtain⟨s0,s2⟩:=(hSd.out _).1 hSw;go_simp
 try change wpAnyH _ _ _ _ _ _ _ (Act.put _ (some 30) _) _
 try simp only[Act.put,List.setIfInBounds_toArray,List.set_cons_zero,List.set_cons_succ]
 refine wpAnyH_take (i:=5) (v:=.pointer (some ⟨b,0,none⟩)) rfl (by kernel_rfl) (by kernel_rfl) (by kernel_rfl) (fun _ _ _ h=>absurd h.1 (by simp)) (Or.inl ⟨by kernel_rfl,?_⟩) hS1 ?_
 ·intro W' hSw
  obtain⟨s0,s2⟩:=(hSd.out _).1 hSw;go_simp
 try change wpAnyH _ _ _ _ _ _ _ (Act.put _ (some 31) _) _
 try simp only[Act.put,List.setIfInBounds_toArray,List.set_cons_zero,List.set_cons_succ]
 refine wpAnyH_take (i:=6) (v:=.pointer (some ⟨b,0,none⟩)) rfl (by kernel_rfl) (by kernel_rfl) (by kernel_rfl) (fun _ _ _ h=>absurd h.1 (by simp)) (Or.inl ⟨by kernel_rfl,?_⟩) hS1 ?_
 ·intro W' hSw
  obtain⟨s0,s2⟩:=(hSd.out _).1 hSw;go_simp
 try change wpAnyH _ _ _ _ _ _ _ (Act.put _ (some 32) _) _
 try simp only[Act.put,List.setIfInBounds_toArray,List.set_cons_zero,List.set_cons_succ]
 refine wpAnyH_take (i:=7) (v:=.pointer (some ⟨b,2,none⟩)) rfl (by kernel_rfl) (by kernel_rfl) (by kernel_rfl) (fun _ _ _ h=>absurd h.1 (by simp)) (Or.inl ⟨by kernel_rfl,?_⟩) hS1 ?_
 ·intro W' hSw
  obtain⟨s0,s2⟩:=(hSd.out _).1 hSw;go_simp
 try change wpAnyH _ _ _ _ _ _ _ (Act.put _ (some 33) _) _
 try simp only[Act.put,List.setIfInBounds_toArray,List.set_cons_zero,List.set_cons_succ]
 refine wpAnyH_take (i:=8) (v:=.slice (some ⟨gH,oH,none⟩) (n+1) hc4) rfl (by kernel_rfl) (by kernel_rfl) (by kernel_rfl) (fun _ _ _ h=>absurd h.1 (by simp)) (Or.inl ⟨by kernel_rfl,?_⟩) hS1 ?_
 ·intro W' hSw
  obtain⟨s0,s2⟩:=(hSd.out _).1 hSw;go_simp
 try change wpAnyH _ _ _ _ _ _ _ (Act.put _ (some 34) _) _
 try simp only[Act.put,List.setIfInBounds_toArray,List.set_cons_zero,List.set_cons_succ]
 refine wpAnyH_take (i:=9) (v:=.int .i64 n) rfl (by kernel_rfl) (by kernel_rfl) (by kernel_rfl) (fun _ _ _ h=>absurd h.1 (by simp)) (Or.inl ⟨by kernel_rfl,?_⟩) hS1 ?_
 ·intro W' hSw
  obtain⟨s0,s2⟩:=(hSd.out _).1 hSw;go_simp
 try change wpAnyH _ _ _ _ _ _ _ (Act.put _ (some 35) _) _
 try simp only[Act.put,List.setIfInBounds_toArray,List.set_cons_zero,List.set_cons_succ]
 refine wpAnyH_take (i:=10) (v:=.pointer (some ⟨gH,oH+n,none⟩)) rfl (by kernel_rfl) (by kernel_rfl) (by kernel_rfl) (fun _ _ _ h=>absurd h.1 (by simp)) (Or.inl ⟨by kernel_rfl,?_⟩) hS1 ?_
 ·intro W' hSw
  obtain⟨s0,s2⟩:=(hSd.out _).1 hSw;go_simp
  try (intro hh;omega)
 try change wpAnyH _ _ _ _ _ _ _ (Act.put _ (some 36) _) _
 try simp only[Act.put,List.setIfInBounds_toArray,List.set_cons_zero,List.set_cons_succ]
 refine wpAnyH_take (i:=12) (v:=.agg #[.string um,.bool ug,.bool uw,.string on,.string okd,.slice uA ml uc,.string fnm,.string fk,.string fr]) rfl (by kernel_rfl) (by kernel_rfl) (by kernel_rfl) (fun _ _ _ h=>absurd h.1 (by simp)) (Or.inl ⟨by kernel_rfl,?_⟩) hS1 ?_
 ·intro W' hSw
  obtain⟨s0,s2⟩:=(hSd.out _).1 hSw;have q0:=s2.cell 0;have q1:=s2.cell 1;have q2:=s2.cell 2;have q3:=s2.cell 3;have q4:=s2.cell 4;have q5:=s2.cell 5;have q6:=s2.cell 6;have q7:=s2.cell 7;have q8:=s2.cell 8;simp only[List.getElem?_toArray,List.getElem?_cons_zero,List.getElem?_cons_succ]at q0 q1 q2 q3 q4 q5 q6 q7 q8;go_simp
 try change wpAnyH _ _ _ _ _ _ _ (Act.put _ (some 38) _) _
 try simp only[Act.put,List.setIfInBounds_toArray,List.set_cons_zero,List.set_cons_succ]
 refine wpAnyH_ready (rs:=[11,13]) (by kernel_rfl) (by simp) ?_;refine AllReadyH.cons rfl (fun K hK=>?_) (AllReadyH.cons rfl (fun K hK=>?_) AllReadyH.nil)
 ·have ch:=HH.out wz (Or.inl rfl)
  go_simp;refine hK.out _ _ hS1 (fun _=>?_);clear hK ch
  try simp only[Act.put,List.setIfInBounds_toArray,List.set_cons_zero,List.set_cons_succ]
  refine wpAnyH_ready (rs:=[13]) (by kernel_rfl) (by simp) ?_;refine AllReadyH.cons rfl (fun K hK=>?_) AllReadyH.nil;go_simp;have hS2:=keepS.out (wz.alloc (.cells #[.string um,.bool ug,.bool uw,.string on,.string okd,.slice uA ml uc,.string fnm,.string fk,.string fr] 83)) [] ((Fr.refl [] wz).alloc _) (by simp) (by simp);refine hK.out _ _ hS2 (fun _=>?_);clear hK
  try simp only[Act.put,List.setIfInBounds_toArray,List.set_cons_zero,List.set_cons_succ]
  refine wpAnyH_ready (rs:=[14]) (by kernel_rfl) (by simp) ?_;refine AllReadyH.cons rfl (fun K hK=>?_) AllReadyH.nil;refine step_row (us:=[.string um,.bool ug,.bool uw,.string on,.string okd,.slice uA ml uc,.string fnm,.string fk,.string fr]) (by rfl) (.tmp 37) (.tmp 39) _ (by rfl) ((HSg.out).alloc _) Tryz.underlying60 Hi.out Hz0.out Hz1.out Hz2.out rfl (by rfl) (by rfl) rfl (nine_cells _ _ _) (by intro v hv;simp only[List.mem_cons,List.not_mem_nil,or_false]at hv;rcases hv with rfl | rfl | rfl | rfl | rfl | rfl | rfl | rfl | rfl <;> rfl) (by omega) (by omega) ?_;intro A3 cap3 w3 hs3 f3 hf3;have hend:=HU.out A3 cap3 w3 _ hs3 f3 hf3;have hS3:=hend.1;refine hK.out _ _ hS3 (fun _=>?_);clear hK
  try simp only[Act.put,List.setIfInBounds_toArray,List.set_cons_zero,List.set_cons_succ]
  refine wpAnyH_take (i:=15) (v:=.pointer (some ⟨gH,oH+n,none⟩)) rfl (by kernel_rfl) (by kernel_rfl) (by kernel_rfl) (fun _ _ _ h=>absurd h.1 (by simp)) (Or.inl ⟨by kernel_rfl,?_⟩) hS3 ?_
  ·intro W' hSw
   obtain⟨s0,s2⟩:=(hSd.out _).1 hSw;go_simp
   try (intro hh;omega)
  try change wpAnyH _ _ _ _ _ _ _ (Act.put _ (some 41) _) _
  try simp only[Act.put,List.setIfInBounds_toArray,List.set_cons_zero,List.set_cons_succ]
  refine wpAnyH_ready (rs:=[16]) (by kernel_rfl) (by simp) ?_;refine AllReadyH.cons rfl (fun K hK=>?_) AllReadyH.nil;have k3:=hend.2.1;have z3:=hend.2.2.1;have l3:=hend.2.2.2.1;go_simp;refine hK.out _ _ hend.2.2.2.2.1 (fun _=>?_);have hfin:=hid hend.2.2.2.2.2;clear hK hend hs3 f3 hf3 hS3 hS1 hS2 k3 z3 l3
  try simp only[Act.put,List.setIfInBounds_toArray,List.set_cons_zero,List.set_cons_succ]
  refine wpAnyH_done (by kernel_rfl) ?_ _;refine⟨rfl,?_⟩;go_wp2_with fail
  (try simp only[Exit.inBlock,Exit.then])
  refine bodyPost_ret (results_none rfl _ _ _) rfl ?_;exact HE.out _ _ _ _ _ _ _ _ hfin.out.1 hfin.out.2
 ·go_simp
  have hS2:=keepS.out (wz.alloc (.cells #[.string um,.bool ug,.bool uw,.string on,.string okd,.slice uA ml uc,.string fnm,.string fk,.string fr] 83)) [] ((Fr.refl [] wz).alloc _) (by simp) (by simp);refine hK.out _ _ hS2 (fun _=>?_);clear hK
  try simp only[Act.put,List.setIfInBounds_toArray,List.set_cons_zero,List.set_cons_succ]
  refine wpAnyH_ready (rs:=[11]) (by kernel_rfl) (by simp) ?_;refine AllReadyH.cons rfl (fun K hK=>?_) AllReadyH.nil;have ch:=HH.out (wz.alloc (.cells #[.string um,.bool ug,.bool uw,.string on,.string okd,.slice uA ml uc,.string fnm,.string fk,.string fr] 83)) (Or.inr ⟨_,rfl⟩);go_simp;refine hK.out _ _ hS2 (fun _=>?_);clear hK ch
  try simp only[Act.put,List.setIfInBounds_toArray,List.set_cons_zero,List.set_cons_succ]
  refine wpAnyH_ready (rs:=[14]) (by kernel_rfl) (by simp) ?_;refine AllReadyH.cons rfl (fun K hK=>?_) AllReadyH.nil;refine step_row (us:=[.string um,.bool ug,.bool uw,.string on,.string okd,.slice uA ml uc,.string fnm,.string fk,.string fr]) (by rfl) (.tmp 37) (.tmp 39) _ (by rfl) ((HSg.out).alloc _) Tryz.underlying60 Hi.out Hz0.out Hz1.out Hz2.out rfl (by rfl) (by rfl) rfl (nine_cells _ _ _) (by intro v hv;simp only[List.mem_cons,List.not_mem_nil,or_false]at hv;rcases hv with rfl | rfl | rfl | rfl | rfl | rfl | rfl | rfl | rfl <;> rfl) (by omega) (by omega) ?_;intro A3 cap3 w3 hs3 f3 hf3;have hend:=HU.out A3 cap3 w3 _ hs3 f3 hf3;have hS3:=hend.1;refine hK.out _ _ hS3 (fun _=>?_);clear hK
  try simp only[Act.put,List.setIfInBounds_toArray,List.set_cons_zero,List.set_cons_succ]
  refine wpAnyH_take (i:=15) (v:=.pointer (some ⟨gH,oH+n,none⟩)) rfl (by kernel_rfl) (by kernel_rfl) (by kernel_rfl) (fun _ _ _ h=>absurd h.1 (by simp)) (Or.inl ⟨by kernel_rfl,?_⟩) hS3 ?_
  ·intro W' hSw
   obtain⟨s0,s2⟩:=(hSd.out _).1 hSw;go_simp
   try (intro hh;omega)
  try change wpAnyH _ _ _ _ _ _ _ (Act.put _ (some 41) _) _
  try simp only[Act.put,List.setIfInBounds_toArray,List.set_cons_zero,List.set_cons_succ]
  refine wpAnyH_ready (rs:=[16]) (by kernel_rfl) (by simp) ?_;refine AllReadyH.cons rfl (fun K hK=>?_) AllReadyH.nil;have k3:=hend.2.1;have z3:=hend.2.2.1;have l3:=hend.2.2.2.1;go_simp;refine hK.out _ _ hend.2.2.2.2.1 (fun _=>?_);have hfin:=hid hend.2.2.2.2.2;clear hK hend hs3 f3 hf3 hS3 hS1 hS2 k3 z3 l3
  try simp only[Act.put,List.setIfInBounds_toArray,List.set_cons_zero,List.set_cons_succ]
  refine wpAnyH_done (by kernel_rfl) ?_ _;refine⟨rfl,?_⟩;go_wp2_with fail
  (try simp only[Exit.inBlock,Exit.then])
  refine bodyPost_ret (results_none rfl _ _ _) rfl ?_;exact HE.out _ _ _ _ _ _ _ _ hfin.out.1 hfin.out.2
theorem uput_old(w0 w:World)(b N:Nat)(xs:List (List UInt8))(f:Nat→RowU)(A:Option Addr)(cap:Nat)(m:Option Nat)(H:Option Addr)(hc:Nat)(x:List UInt8)(u:MUs)(h:UW w0 b N xs f A cap m H hc w)(hx:WF x)(hin:x∈xs)(hN:N<900000) :
 Calls Tryz.prog 40 #[.pointer (some ⟨b,0,none⟩),encStr x,u.val] w (PuPost w0 b N xs f x u (footU b f xs.length A m H) w):=by
 obtain⟨W1,hW1⟩:∃W1,Hid (W1=w.alloc (.cells u.row.toArray 83)):=⟨_,hid rfl⟩;have f1:Fr [] w W1:=by rw[hW1.out];exact(Fr.refl [] w).alloc _
 have B1:Box W1 w.heap.size 83 u.row.toArray:=by rw[hW1.out];exact Box.new w _ _
 have h1:UW w0 b N xs f A cap m H hc W1:=h.kept f1 (by simp);have hbl:b<w.heap.size:=h.tb.box.lt;have hlen:=h.tb.len;have HB:Hid (∀w2 F,Fr F W1 w2→w.heap.size∉F→Box w2 w.heap.size 83 u.row.toArray):=hid (fun w2 F hF hn=>B1.kept hF hn);have hwh:∀{g},g∈foot b A m→g<w.heap.size:=fun {g} hg=>h.tb.lt g hg
 obtain⟨i0,hi0,hz0,hz1,hz2⟩:=info_parts info_use;have Hi:=hid hi0;have Hz0:=hid hz0;have Hz1:=hid hz1;have Hz2:=hid hz2;obtain⟨j0,hj0,hy0,hy1,hy2⟩:=info_parts info_uses;have Hj:=hid hj0;have Hy0:=hid hy0;have Hy1:=hid hy1;have Hy2:=hid hy2;clear hi0 hz0 hz1 hz2 hj0 hy0 hy1 hy2;have KP:=hid (put_oldU (o:=.slice H xs.length hc) W1 b A cap m N xs x h1.tb hx hin);have hno:noOf xs x<xs.length:=by unfold noOf;rw[if_pos hin];exact List.idxOf_lt_length_of_mem hin
 have HE:Hid (∀A3 cap3 A2 cap2 m2 H3 hc3 w',UW w0 b (N+1) xs (updU f (noOf xs x) ⟨A3,cap3,(f (noOf xs x)).us++[u]⟩) A2 cap2 m2 H3 hc3 w'→UStep (footU b f xs.length A m H) w (footU b (updU f (noOf xs x) ⟨A3,cap3,(f (noOf xs x)).us++[u]⟩) xs.length A2 m2 H3) w'→PuPost w0 b N xs f x u (footU b f xs.length A m H) w (.returned (.tuple #[])) w'):=hid (fun A3 cap3 A2 cap2 m2 H3 hc3 w' hq hst=>pu_old hin hq hst);have HR:Hid (∀i,i<xs.length→∀g∈blk (f i).A,g<w.heap.size):=hid (fun i hi g hg=>(h.sg i hi).lt g hg);clear h B1 hwh hx hin;obtain⟨⟨um,ug,uw,⟨on,okd,oms⟩,⟨fnm,fk,fr⟩⟩,uA,uc⟩:=u;unfold MUs.val;unfold MUs.row at hW1 HB
 skip
 dsimp only at *;generalize hml:oms.length=ml at *;replace hml:=hid hml;unfold encStr at KP ⊢;generalize hPost:PuPost w0 b N xs f x _ _ _=Q at *;clear hPost;go_enter Tryz.func40,Tryz.ntmps40;go_upto_region 1 with fail;rw[←hW1.out];clear hW1;go_wp2_with fail;refine KP.out.mono ?_;rintro e W4 ⟨rfl,hb⟩;have h4:UW w0 b (N+1) xs f A cap m H hc W4:=(h1.kept (Fr.of_below hb []) (by simp)).mono (Nat.le_succ _);have B4:=HB.out W4 [] (Fr.of_below hb []) (by simp);have hst4:UStep (footU b f xs.length A m H) w (footU b f xs.length A m H) W4:=(UStep.of_below f1.all).trans (UStep.of_below hb);have HL:Hid (∀i,i<xs.length→(f i).us.length≤N):=hid (fun i hi=>h1.ln i hi);clear hb KP h1 HB;generalize hix:noOf xs x=i at *;replace hix:=hid hix;generalize hxl:xs.length=n at *;replace hxl:=hid hxl;go_wp2_with fail;have hyl:xs.length=n:=hxl.out;have B5:Hid (Box W4.drew w.heap.size 83 #[.string um,.bool ug,.bool uw,.string on,.string okd,.slice uA ml uc,.string fnm,.string fk,.string fr]):=hid B4
 have H5:Hid (UW w0 b (N+1) xs f A cap m H hc W4.drew):=hid (h4.kept ((Fr.refl [] W4).drew) (by simp));have T5:Hid (UStep (footU b f n A m H) w (footU b f n A m H) W4.drew):=hid (hst4.trans (UStep.of_below ((Fr.refl [] W4).drew.all)));obtain⟨gH,oH,rfl,hgl,hat⟩:=H5.out.hs.at_ (by rw[hdrs_len];omega);have hci:W4.drew.cell? ⟨gH,oH+i,none⟩=some (.slice (f i).A (f i).us.length (f i).cap):=by
  have:=hat i (by rw[hdrs_len];omega)
  rwa[hdrs_at _ (by omega)]at this
 obtain⟨S,hSd⟩:∃S:World→Prop,Hid (∀W',S W'↔(W'.cell? ⟨b,2,none⟩=some (.slice (some ⟨gH,oH,none⟩) n hc)∧Box W' w.heap.size 83 #[.string um,.bool ug,.bool uw,.string on,.string okd,.slice uA ml uc,.string fnm,.string fk,.string fr])):=⟨_,hid fun _=>Iff.rfl⟩;have hrl:(f i).us.length≤N:=HL.out i (by omega);have HSg:Hid (Sg 9 W4.drew 83 (f i).A (f i).cap (f i).us.length ((f i).us.flatMap MUs.row)):=hid (H5.out.sg i (by omega));have keepS:Hid (∀W F,Fr F W4.drew W→b∉F→w.heap.size∉F→S W):=hid (fun W F hF h1 h2=>(hSd.out _).2 ⟨(by have:=(H5.out.tb.box.kept hF h1).cell 2;simpa[hyl] using this),B5.out.kept hF h2⟩);have hS1:S W4.drew:=keepS.out _ [] (Fr.refl [] _) (by simp) (by simp)
 have HH:Hid (∀W,(W=W4.drew∨∃q,W=W4.drew.alloc q)→W.cell? ⟨gH,oH+i,none⟩=some (.slice (f i).A (f i).us.length (f i).cap)):=hid (fun W hW=>by
  rcases hW with rfl | ⟨q,rfl⟩
  ·exact hci
  ·exact(World.cell?_of_block (w:=W4.drew) (a:=⟨gH,oH+i,none⟩) (Below.heap_alloc _ q gH hgl)).trans hci)
 have HU:Hid (∀A3 cap3 w3 q,Sg 9 w3 83 A3 cap3 ((f i).us.length+1) ((f i).us.flatMap MUs.row++[.string um,.bool ug,.bool uw,.string on,.string okd,.slice uA ml uc,.string fnm,.string fk,.string fr])→Fr (blk (f i).A) (W4.drew.alloc q) w3→(blk A3=blk (f i).A∨blk A3=[(W4.drew.alloc q).heap.size]) →
  S w3∧w3.cell? ⟨gH,oH+i,none⟩=some (.slice (f i).A (f i).us.length (f i).cap)∧w3.frozen? ⟨gH,oH+i,none⟩=false∧gH<w3.heap.size∧S (w3.setCell ⟨gH,oH+i,none⟩ (.slice A3 ((f i).us.length+1) cap3)) ∧
  UW w0 b (N+1) xs (updU f i ⟨A3,cap3,(f i).us++[⟨⟨um,ug,uw,⟨on,okd,oms⟩,⟨fnm,fk,fr⟩⟩,uA,uc⟩]⟩) A cap m (some ⟨gH,oH,none⟩) hc (w3.setCell ⟨gH,oH+i,none⟩ (.slice A3 ((f i).us.length+1) cap3)) ∧
  UStep (footU b f n A m (some ⟨gH,oH,none⟩)) w (footU b (updU f i ⟨A3,cap3,(f i).us++[⟨⟨um,ug,uw,⟨on,okd,oms⟩,⟨fnm,fk,fr⟩⟩,uA,uc⟩]⟩) xs.length A m (some ⟨gH,oH,none⟩)) (w3.setCell ⟨gH,oH+i,none⟩ (.slice A3 ((f i).us.length+1) cap3))):=hid (fun A3 cap3 w3 q hs3 f3 hf3=>by
  have hiy:i<xs.length:=by omega
  have fall:Fr (blk (f i).A) W4.drew w3:=((Fr.refl (blk (f i).A) W4.drew).alloc q).trans f3 (fun g hg=>Or.inl hg) (fun g hg=>Or.inl hg);have hgR:gH∉blk (f i).A:=fun hm=>H5.out.rH hiy gH hm (by simp[blk])
  have hbR:=H5.out.bR hiy;have hbH:=H5.out.bH;have hwR:w.heap.size∉blk (f i).A:=fun hm=>Nat.lt_irrefl _ (HR.out i (by omega) _ hm)
  have hwH:w.heap.size∉blk (some (⟨gH,oH,none⟩:Addr)):=H5.out.hs.ne_box B5.out (by decide);have fset:Fr [gH] w3 (w3.setCell ⟨gH,oH+i,none⟩ (.slice A3 ((f i).us.length+1) cap3)):=(Fr.refl [gH] w3).setCell (Or.inl (by simp)) _;have fboth:Fr (gH :: blk (f i).A) W4.drew (w3.setCell ⟨gH,oH+i,none⟩ (.slice A3 ((f i).us.length+1) cap3)):=fall.trans fset (fun g hg=>Or.inl (List.mem_cons_of_mem _ hg)) (fun g hg=>Or.inl (by rw[List.mem_singleton]at hg;subst hg;simp));have hs4:=H5.out.hs.kept fall (fun g hg hm=>H5.out.rH hiy g hm hg);refine⟨keepS.out _ _ fall hbR hwR,(World.cell?_of_block (w:=W4.drew) (a:=⟨gH,oH+i,none⟩) (fall.block gH hgl hgR)).trans hci,hs4.free _,Nat.lt_of_lt_of_le hgl fall.size,keepS.out _ _ fboth (fun hm=>?_) (fun hm=>?_),?_⟩
  ·rcases List.mem_cons.1 hm with e | e
   ·exact hbH (by rw[e];simp[blk])
   ·exact hbR e
  ·rcases List.mem_cons.1 hm with e | e
   ·exact hwH (by rw[e];simp[blk])
   ·exact hwR e
  ·have hs5:Sg 9 w3 83 A3 cap3 ((f i).us.length+1) ((f i).us.flatMap MUs.row++MUs.row ⟨⟨um,ug,uw,⟨on,okd,oms⟩,⟨fnm,fk,fr⟩⟩,uA,uc⟩):=by
    unfold MUs.row;dsimp only;rw[hml.out];exact hs3
   obtain⟨p1,p2⟩:=H5.out.step hiy (by omega) rfl rfl hs5 f3 hf3;have T6:=T5.out;rw[←hyl]at T6
   exact⟨p1,by have t:=T6.trans p2;rw[hyl]at t ⊢;exact t⟩)
 generalize hrw:f i=r at *;replace hrw:=hid hrw;obtain⟨rA,rc,rus⟩:=r;dsimp only at *;generalize hru:rus.length=rn at *;replace hru:=hid hru;clear hat hci h4 B4 H5 B5;refine rng.wp_normal ?_;refine wp_region_held_drew (S:=S) (by kernel_rfl) hS1 (fun _=>?_);generalize hwz:W4.drew=wz at *;clear hwz;refine wpAnyH_take (i:=0) (v:=.pointer (some ⟨b,0,none⟩)) rfl (by kernel_rfl) (by kernel_rfl) (by kernel_rfl) (fun _ _ _ h=>absurd h.1 (by simp)) (Or.inl ⟨by kernel_rfl,?_⟩) hS1 ?_
 ·intro W' hSw
  obtain⟨s0,s2⟩:=(hSd.out _).1 hSw;go_simp
 try change wpAnyH _ _ _ _ _ _ _ (Act.put _ (some 26) _) _
 try simp only[Act.put,List.setIfInBounds_toArray,List.set_cons_zero,List.set_cons_succ]
 refine wpAnyH_take (i:=1) (v:=.pointer (some ⟨b,0,none⟩)) rfl (by kernel_rfl) (by kernel_rfl) (by kernel_rfl) (fun _ _ _ h=>absurd h.1 (by simp)) (Or.inl ⟨by kernel_rfl,?_⟩) hS1 ?_
 ·intro W' hSw
  obtain⟨s0,s2⟩:=(hSd.out _).1 hSw;go_simp
 try change wpAnyH _ _ _ _ _ _ _ (Act.put _ (some 27) _) _
 try simp only[Act.put,List.setIfInBounds_toArray,List.set_cons_zero,List.set_cons_succ]
 refine wpAnyH_take (i:=2) (v:=.pointer (some ⟨b,2,none⟩)) rfl (by kernel_rfl) (by kernel_rfl) (by kernel_rfl) (fun _ _ _ h=>absurd h.1 (by simp)) (Or.inl ⟨by kernel_rfl,?_⟩) hS1 ?_
 ·intro W' hSw
  obtain⟨s0,s2⟩:=(hSd.out _).1 hSw;go_simp
 try change wpAnyH _ _ _ _ _ _ _ (Act.put _ (some 28) _) _
 try simp only[Act.put,List.setIfInBounds_toArray,List.set_cons_zero,List.set_cons_succ]
 refine wpAnyH_take (i:=3) (v:=.slice (some ⟨gH,oH,none⟩) n hc) rfl (by kernel_rfl) (by kernel_rfl) (by kernel_rfl) (fun _ _ _ h=>absurd h.1 (by simp)) (Or.inl ⟨by kernel_rfl,?_⟩) hS1 ?_
 ·intro W' hSw
  obtain⟨s0,s2⟩:=(hSd.out _).1 hSw;go_simp
 try change wpAnyH _ _ _ _ _ _ _ (Act.put _ (some 29) _) _
 try simp only[Act.put,List.setIfInBounds_toArray,List.set_cons_zero,List.set_cons_succ]
 refine wpAnyH_take (i:=4) (v:=.int .i64 i) rfl (by kernel_rfl) (by kernel_rfl) (by kernel_rfl) (fun _ _ _ h=>absurd h.1 (by simp)) (Or.inl ⟨by kernel_rfl,?_⟩) hS1 ?_
 ·intro W' hSw
  obtain⟨s0,s2⟩:=(hSd.out _).1 hSw;go_simp
 try change wpAnyH _ _ _ _ _ _ _ (Act.put _ (some 30) _) _
 try simp only[Act.put,List.setIfInBounds_toArray,List.set_cons_zero,List.set_cons_succ]
 refine wpAnyH_take (i:=5) (v:=.pointer (some ⟨b,0,none⟩)) rfl (by kernel_rfl) (by kernel_rfl) (by kernel_rfl) (fun _ _ _ h=>absurd h.1 (by simp)) (Or.inl ⟨by kernel_rfl,?_⟩) hS1 ?_
 ·intro W' hSw
  obtain⟨s0,s2⟩:=(hSd.out _).1 hSw;go_simp
 try change wpAnyH _ _ _ _ _ _ _ (Act.put _ (some 31) _) _
 try simp only[Act.put,List.setIfInBounds_toArray,List.set_cons_zero,List.set_cons_succ]
 refine wpAnyH_take (i:=6) (v:=.pointer (some ⟨b,0,none⟩)) rfl (by kernel_rfl) (by kernel_rfl) (by kernel_rfl) (fun _ _ _ h=>absurd h.1 (by simp)) (Or.inl ⟨by kernel_rfl,?_⟩) hS1 ?_
 ·intro W' hSw
  obtain⟨s0,s2⟩:=(hSd.out _).1 hSw;go_simp
 try change wpAnyH _ _ _ _ _ _ _ (Act.put _ (some 32) _) _
 try simp only[Act.put,List.setIfInBounds_toArray,List.set_cons_zero,List.set_cons_succ]
 refine wpAnyH_take (i:=7) (v:=.pointer (some ⟨b,2,none⟩)) rfl (by kernel_rfl) (by kernel_rfl) (by kernel_rfl) (fun _ _ _ h=>absurd h.1 (by simp)) (Or.inl ⟨by kernel_rfl,?_⟩) hS1 ?_
 ·intro W' hSw
  obtain⟨s0,s2⟩:=(hSd.out _).1 hSw;go_simp
 try change wpAnyH _ _ _ _ _ _ _ (Act.put _ (some 33) _) _
 try simp only[Act.put,List.setIfInBounds_toArray,List.set_cons_zero,List.set_cons_succ]
 refine wpAnyH_take (i:=8) (v:=.slice (some ⟨gH,oH,none⟩) n hc) rfl (by kernel_rfl) (by kernel_rfl) (by kernel_rfl) (fun _ _ _ h=>absurd h.1 (by simp)) (Or.inl ⟨by kernel_rfl,?_⟩) hS1 ?_
 ·intro W' hSw
  obtain⟨s0,s2⟩:=(hSd.out _).1 hSw;go_simp
 try change wpAnyH _ _ _ _ _ _ _ (Act.put _ (some 34) _) _
 try simp only[Act.put,List.setIfInBounds_toArray,List.set_cons_zero,List.set_cons_succ]
 refine wpAnyH_take (i:=9) (v:=.int .i64 i) rfl (by kernel_rfl) (by kernel_rfl) (by kernel_rfl) (fun _ _ _ h=>absurd h.1 (by simp)) (Or.inl ⟨by kernel_rfl,?_⟩) hS1 ?_
 ·intro W' hSw
  obtain⟨s0,s2⟩:=(hSd.out _).1 hSw;go_simp
 try change wpAnyH _ _ _ _ _ _ _ (Act.put _ (some 35) _) _
 try simp only[Act.put,List.setIfInBounds_toArray,List.set_cons_zero,List.set_cons_succ]
 refine wpAnyH_take (i:=10) (v:=.pointer (some ⟨gH,oH+i,none⟩)) rfl (by kernel_rfl) (by kernel_rfl) (by kernel_rfl) (fun _ _ _ h=>absurd h.1 (by simp)) (Or.inl ⟨by kernel_rfl,?_⟩) hS1 ?_
 ·intro W' hSw
  obtain⟨s0,s2⟩:=(hSd.out _).1 hSw;go_simp
  try (intro hh;omega)
 try change wpAnyH _ _ _ _ _ _ _ (Act.put _ (some 36) _) _
 try simp only[Act.put,List.setIfInBounds_toArray,List.set_cons_zero,List.set_cons_succ]
 refine wpAnyH_take (i:=12) (v:=.agg #[.string um,.bool ug,.bool uw,.string on,.string okd,.slice uA ml uc,.string fnm,.string fk,.string fr]) rfl (by kernel_rfl) (by kernel_rfl) (by kernel_rfl) (fun _ _ _ h=>absurd h.1 (by simp)) (Or.inl ⟨by kernel_rfl,?_⟩) hS1 ?_
 ·intro W' hSw
  obtain⟨s0,s2⟩:=(hSd.out _).1 hSw;have q0:=s2.cell 0;have q1:=s2.cell 1;have q2:=s2.cell 2;have q3:=s2.cell 3;have q4:=s2.cell 4;have q5:=s2.cell 5;have q6:=s2.cell 6;have q7:=s2.cell 7;have q8:=s2.cell 8;simp only[List.getElem?_toArray,List.getElem?_cons_zero,List.getElem?_cons_succ]at q0 q1 q2 q3 q4 q5 q6 q7 q8;go_simp
 try change wpAnyH _ _ _ _ _ _ _ (Act.put _ (some 38) _) _
 try simp only[Act.put,List.setIfInBounds_toArray,List.set_cons_zero,List.set_cons_succ]
 refine wpAnyH_ready (rs:=[11,13]) (by kernel_rfl) (by simp) ?_;refine AllReadyH.cons rfl (fun K hK=>?_) (AllReadyH.cons rfl (fun K hK=>?_) AllReadyH.nil)
 ·have ch:=HH.out wz (Or.inl rfl)
  go_simp;refine hK.out _ _ hS1 (fun _=>?_);clear hK ch
  try simp only[Act.put,List.setIfInBounds_toArray,List.set_cons_zero,List.set_cons_succ]
  refine wpAnyH_ready (rs:=[13]) (by kernel_rfl) (by simp) ?_;refine AllReadyH.cons rfl (fun K hK=>?_) AllReadyH.nil;go_simp;have hS2:=keepS.out (wz.alloc (.cells #[.string um,.bool ug,.bool uw,.string on,.string okd,.slice uA ml uc,.string fnm,.string fk,.string fr] 83)) [] ((Fr.refl [] wz).alloc _) (by simp) (by simp);refine hK.out _ _ hS2 (fun _=>?_);clear hK
  try simp only[Act.put,List.setIfInBounds_toArray,List.set_cons_zero,List.set_cons_succ]
  refine wpAnyH_ready (rs:=[14]) (by kernel_rfl) (by simp) ?_;refine AllReadyH.cons rfl (fun K hK=>?_) AllReadyH.nil;refine step_row (us:=[.string um,.bool ug,.bool uw,.string on,.string okd,.slice uA ml uc,.string fnm,.string fk,.string fr]) (by rfl) (.tmp 37) (.tmp 39) _ (by rfl) ((HSg.out).alloc _) Tryz.underlying60 Hi.out Hz0.out Hz1.out Hz2.out rfl (by rfl) (by rfl) rfl (nine_cells _ _ _) (by intro v hv;simp only[List.mem_cons,List.not_mem_nil,or_false]at hv;rcases hv with rfl | rfl | rfl | rfl | rfl | rfl | rfl | rfl | rfl <;> rfl) (by omega) (by omega) ?_;intro A3 cap3 w3 hs3 f3 hf3;have hend:=HU.out A3 cap3 w3 _ hs3 f3 hf3;have hS3:=hend.1;refine hK.out _ _ hS3 (fun _=>?_);clear hK
  try simp only[Act.put,List.setIfInBounds_toArray,List.set_cons_zero,List.set_cons_succ]
  refine wpAnyH_take (i:=15) (v:=.pointer (some ⟨gH,oH+i,none⟩)) rfl (by kernel_rfl) (by kernel_rfl) (by kernel_rfl) (fun _ _ _ h=>absurd h.1 (by simp)) (Or.inl ⟨by kernel_rfl,?_⟩) hS3 ?_
  ·intro W' hSw
   obtain⟨s0,s2⟩:=(hSd.out _).1 hSw;go_simp
   try (intro hh;omega)
  try change wpAnyH _ _ _ _ _ _ _ (Act.put _ (some 41) _) _
  try simp only[Act.put,List.setIfInBounds_toArray,List.set_cons_zero,List.set_cons_succ]
  refine wpAnyH_ready (rs:=[16]) (by kernel_rfl) (by simp) ?_;refine AllReadyH.cons rfl (fun K hK=>?_) AllReadyH.nil;have k3:=hend.2.1;have z3:=hend.2.2.1;have l3:=hend.2.2.2.1;go_simp;refine hK.out _ _ hend.2.2.2.2.1 (fun _=>?_);have hfin:=hid hend.2.2.2.2.2;clear hK hend hs3 f3 hf3 hS3 hS1 hS2 k3 z3 l3
  try simp only[Act.put,List.setIfInBounds_toArray,List.set_cons_zero,List.set_cons_succ]
  refine wpAnyH_done (by kernel_rfl) ?_ _;refine⟨rfl,?_⟩;go_wp2_with fail
  (try simp only[Exit.inBlock,Exit.then])
  refine bodyPost_ret (results_none rfl _ _ _) rfl ?_;exact HE.out _ _ _ _ _ _ _ _ hfin.out.1 (by have t:=hfin.out.2;rwa[hyl]at t)
 ·go_simp
  have hS2:=keepS.out (wz.alloc (.cells #[.string um,.bool ug,.bool uw,.string on,.string okd,.slice uA ml uc,.string fnm,.string fk,.string fr] 83)) [] ((Fr.refl [] wz).alloc _) (by simp) (by simp);refine hK.out _ _ hS2 (fun _=>?_);clear hK
  try simp only[Act.put,List.setIfInBounds_toArray,List.set_cons_zero,List.set_cons_succ]
  refine wpAnyH_ready (rs:=[11]) (by kernel_rfl) (by simp) ?_;refine AllReadyH.cons rfl (fun K hK=>?_) AllReadyH.nil;have ch:=HH.out (wz.alloc (.cells #[.string um,.bool ug,.bool uw,.string on,.string okd,.slice uA ml uc,.string fnm,.string fk,.string fr] 83)) (Or.inr ⟨_,rfl⟩);go_simp;refine hK.out _ _ hS2 (fun _=>?_);clear hK ch
  try simp only[Act.put,List.setIfInBounds_toArray,List.set_cons_zero,List.set_cons_succ]
  refine wpAnyH_ready (rs:=[14]) (by kernel_rfl) (by simp) ?_;refine AllReadyH.cons rfl (fun K hK=>?_) AllReadyH.nil;refine step_row (us:=[.string um,.bool ug,.bool uw,.string on,.string okd,.slice uA ml uc,.string fnm,.string fk,.string fr]) (by rfl) (.tmp 37) (.tmp 39) _ (by rfl) ((HSg.out).alloc _) Tryz.underlying60 Hi.out Hz0.out Hz1.out Hz2.out rfl (by rfl) (by rfl) rfl (nine_cells _ _ _) (by intro v hv;simp only[List.mem_cons,List.not_mem_nil,or_false]at hv;rcases hv with rfl | rfl | rfl | rfl | rfl | rfl | rfl | rfl | rfl <;> rfl) (by omega) (by omega) ?_;intro A3 cap3 w3 hs3 f3 hf3;have hend:=HU.out A3 cap3 w3 _ hs3 f3 hf3;have hS3:=hend.1;refine hK.out _ _ hS3 (fun _=>?_);clear hK
  try simp only[Act.put,List.setIfInBounds_toArray,List.set_cons_zero,List.set_cons_succ]
  refine wpAnyH_take (i:=15) (v:=.pointer (some ⟨gH,oH+i,none⟩)) rfl (by kernel_rfl) (by kernel_rfl) (by kernel_rfl) (fun _ _ _ h=>absurd h.1 (by simp)) (Or.inl ⟨by kernel_rfl,?_⟩) hS3 ?_
  ·intro W' hSw
   obtain⟨s0,s2⟩:=(hSd.out _).1 hSw;go_simp
   try (intro hh;omega)
  try change wpAnyH _ _ _ _ _ _ _ (Act.put _ (some 41) _) _
  try simp only[Act.put,List.setIfInBounds_toArray,List.set_cons_zero,List.set_cons_succ]
  refine wpAnyH_ready (rs:=[16]) (by kernel_rfl) (by simp) ?_;refine AllReadyH.cons rfl (fun K hK=>?_) AllReadyH.nil;have k3:=hend.2.1;have z3:=hend.2.2.1;have l3:=hend.2.2.2.1;go_simp;refine hK.out _ _ hend.2.2.2.2.1 (fun _=>?_);have hfin:=hid hend.2.2.2.2.2;clear hK hend hs3 f3 hf3 hS3 hS1 hS2 k3 z3 l3
  try simp only[Act.put,List.setIfInBounds_toArray,List.set_cons_zero,List.set_cons_succ]
  refine wpAnyH_done (by kernel_rfl) ?_ _;refine⟨rfl,?_⟩;go_wp2_with fail
  (try simp only[Exit.inBlock,Exit.then])
  refine bodyPost_ret (results_none rfl _ _ _) rfl ?_;exact HE.out _ _ _ _ _ _ _ _ hfin.out.1 (by have t:=hfin.out.2;rwa[hyl]at t)
theorem uput_any(w0 w:World)(b N:Nat)(s:List (List UInt8)×List (List MUs))(F:List Nat)(x:List UInt8)(u:MUs)(h:UM w0 b N s F w)(hx:WF x)(hN:N<900000) :
 Calls Tryz.prog 40 #[.pointer (some ⟨b,0,none⟩),encStr x,u.val] w (fun e w'=>e=.returned (.tuple #[])∧∃F',UM w0 b (N+1) (putM s (x,u)) F' w'∧UStep F w F' w'):=by
 obtain⟨f,A,cap,m,H,hc,h,e,eF⟩:=h;obtain⟨xs,rs⟩:=s;dsimp only at e h eF;subst e;subst eF;by_cases hin:x∈xs
 ·exact uput_old w0 w b N xs f A cap m H hc x u h hx hin hN
 ·exact uput_new w0 w b N xs f A cap m H hc x u h hx hin hN
end ym
end Go.Proofs.YtlkboeajkgbnaaaGreatDoor
