import Derived.Test.YtlkboeajkgbnaaaGreatDoorC33
set_option linter.all false
set_option maxHeartbeats 4000000
namespace Go.Proofs.YtlkboeajkgbnaaaGreatDoor
namespace ym
open RowKit Go.Sort Shelf mem sy rng
open re (tx SU MU SumM)
open inn (rsS)
open ins (noOf WF)
theorem wpListIn_row{F:Fence}{nF:Nat}{P:Program}{sz:Nat}{w:World}{ops:Array Oper}{rest:List Oper}{o:Oper}{a:Act}{Q:Exit→Act→World→Prop}(hgd:o.guard=none)(s x:Operand)(t:TypeId)
 (ho:o.op=.call { callee:=.builtin .append,args:=#[s,x],argTypes:=#[t,t] }) {e:TypeId} {A:Option Addr} {cap n bytes:Nat} {cs us:List Value} {i:TypeInfo} {z:Value} (h:Sg sz w e A cap n cs) (ht:P.underlying t=some (.slice e)) (hi:P.info? e=some i) (hz:i.zero=some z) (hs:i.size=sz) (hb:i.bytes=bytes) (hzs:z.cells.size=sz)
 {ad:Addr} (hes:a.eval s=.slice A n cap) (hex:a.eval x=.slice (some ad) 1 1) (hl:us.length=sz) (hu:∀j v,us[j]? = some v→w.cell? (ad.add j)=some v) (h1:∀u∈us,u.oneCell'=true) (h63:n+1≤9223372036854775807) (hby:(n+1) * bytes≤140737488355328)
 (hK:∀A' cap' w',Sg sz w' e A' cap' (n+1) (cs++us)→Fr (blk A) w w'→(blk A'=blk A∨blk A'=[w.heap.size])→wpListIn F nF P ops Q rest (a.put o.dst (.slice A' (n+1) cap')) w'):wpListIn F nF P ops Q (o :: rest) a w:=by
 refine wpListIn_plain hgd fun K hK'=>?_
 obtain⟨A',cap',w',hr,h2,h3,h4⟩:=h.push (ty:=o.type) ht hi hz hs hb hzs hl hu h1 h63 hby;unfold Oper.wpIn;refine⟨by simp[Oper.about,ho,resolve,Target.leads,Sem.run_pure],?_⟩;rw[Oper.semAt_plain F _ _ (by rw[ho];intro c hc';cases hc')];simp[execOp,ho,resolve,invoke,builtin,hes,hex,hr,Result.andThen];exact hK' _ _ (hK A' cap' w' h2 h3 h4)
theorem range_put2{α:Type}{P:Program}{Own:World→Nat→Prop}{n:Nat}{g:Operand}{ps:Array Tmp}{assign body:Code}{Q:Exit→Act→World→Prop}{a:Act}{w:World}(h1:1≤n){gf:Nat}{lb:Array Value}(hg:a.eval g=.func (.func gf) #[] lb)(eg:∀args w,(callFunc gf args).run P w=.ok (.enter gf args) w)
 {encs:α→Array Value} {S Sp:List α→Prop} {N:Nat} {Z:List Nat} {w0:World} (hseq:SeqO (n-1) P gf lb encs S Sp N Z w0) (hb0:Below w0.heap.size w0 w) (hps:∀x,(encs x).size=ps.size)
 (hO:∀k,Own w k→k<w.heap.size) (hZ:∀k∈Z,¬Own w k∧k<w.heap.size) (hS:OwnS w.heap.size Own)
 (I:List α→World→Prop) (Ix:Code→List α→World→Prop) (hI:OwnFrom w.heap.size I) (hIx:∀c,OwnFrom w.heap.size (Ix c)) (h0:I [] w) (sl s2:Tmp) (f f2:α→Value)
 (hassign:∀(l:Nat) (x:α) (W:World) (K:Act→World→Prop),K (Act.put (Act.put { tmps:=(ps.zip (encs x)).foldl (fun t (p,v)=>t.setIfInBounds p v) a.tmps,defers:=[] } (some sl) (f x)) (some s2) (f2 x)) W →
  assign.wpIn (Fence.wide.inRound l) (n-1-1) P (Exit.then K (fun _ _ _=>False)) { tmps:=(ps.zip (encs x)).foldl (fun t (p,v)=>t.setIfInBounds p v) a.tmps,defers:=[] } W)
 (hbody:∀(l:Nat) (pre:List α) (x:α) (W:World),I pre W→w.heap.size≤W.heap.size→(∀k,Own W k→k<W.heap.size)→pre.length<N→body.wpIn (Fence.wide.inRound l) (n-1-1) P (bodyO Own I Ix (pre++[x]) W) (Act.put (Act.put { tmps:=(ps.zip (encs x)).foldl (fun t (p,v)=>t.setIfInBounds p v) a.tmps,defers:=[] } (some sl) (f x)) (some s2) (f2 x)) W)
 (hdone:∀(D:Nat) (xs:List α) (W:World),w.heap.size≤D→S xs→I xs W→W.heap[D]? = some (.deferred (some []))→Q .normal { a with defers:={ target:=.collected D,args:=#[] } :: a.defers } W)
 (hstop:∀(D:Nat) (c:Code) (pre:List α) (W:World),w.heap.size≤D→Sp pre→Ix c pre W→W.heap[D]? = some (.deferred (some []))→c.wpIn Fence.wide n P Q { a with defers:={ target:=.collected D,args:=#[] } :: a.defers } W) :
 (Code.rangeFunc g ps assign body).wpIn Fence.wide n P Q a w:=
 range_own h1 hg eg hseq hb0 hps hO hZ hS I Ix hI hIx h0 (fun x=>Act.put (Act.put { tmps:=(ps.zip (encs x)).foldl (fun t (p,v)=>t.setIfInBounds p v) a.tmps,defers:=[] } (some sl) (f x)) (some s2) (f2 x)) hassign hbody hdone hstop
def OwnL(G:List Nat)(ob:Nat)(W:World)(k:Nat):Prop:=k∈G∨k=ob∨∃A n c,W.cell? ⟨ob,0,none⟩=some (.slice A n c)∧k∈blk A
theorem ownL_iff{G:List Nat}{ob:Nat}{W:World}{t:TypeId}{A:Option Addr}{n c:Nat}(h:Box W ob t #[.slice A n c])(k:Nat):OwnL G ob W k↔k∈G∨k=ob∨k∈blk A:=by
 have q:=h.cell 0;simp only[List.getElem?_toArray,List.getElem?_cons_zero]at q;constructor
 ·rintro(h | h | ⟨A',n',c',h,hk⟩)
  ·exact Or.inl h
  ·exact Or.inr (Or.inl h)
  ·rw[q]at h
   injection h with h;injection h with h1 h2 h3;subst h1;exact Or.inr (Or.inr hk)
 ·rintro(h | h | h)
  ·exact Or.inl h
  ·exact Or.inr (Or.inl h)
  ·exact Or.inr (Or.inr ⟨A,_,_,q,h⟩)
theorem ownL_s{B:Nat}{G:List Nat}{ob:Nat}(h:ob<B):OwnS B (OwnL G ob):=by
 rintro k W W' row hW (hk | hk | ⟨A,n,c,hc,hk⟩) hg hr
 ·exact Or.inl hk
 ·exact Or.inr (Or.inl hk)
 ·have:W'.heap[ob]? = W.heap[ob]?:=hg.block ob (by omega) (fun e=>by have:=(hr ob e.symm).1;omega)
  exact Or.inr (Or.inr ⟨A,n,c,(World.cell?_of_block (w:=W) (w':=W') (a:=⟨ob,0,none⟩) this).symm.trans hc,hk⟩)
theorem ko_of{G F:List Nat}{ob:Nat}{W W':World}{t:TypeId}{A A':Option Addr}{n n' c c':Nat}(h:Box W ob t #[.slice A n c])(h':Box W' ob t #[.slice A' n' c'])(hF:Fr F W W')(hs:∀g∈F,g∈G∨g=ob∨g∈blk A∨W.heap.size≤g)(ho:∀g∈blk A',g∈blk A∨W.heap.size≤g)(hG:∀g∈G,g<W'.heap.size)(hl:∀g∈blk A',g<W'.heap.size):KO (OwnL G ob) W W' where
 size:=hF.size
 same k hk hn:=hF.block k hk fun hm=>by
  rcases hs k hm with h1 | h1 | h1 | h1
  ·exact hn (Or.inl h1)
  ·exact hn (Or.inr (Or.inl h1))
  ·exact hn ((ownL_iff h k).2 (Or.inr (Or.inr h1)))
  ·omega
 own k hk:=by
  rcases(ownL_iff h' k).1 hk with h1 | h1 | h1
  ·exact Or.inl (Or.inl h1)
  ·exact Or.inl (Or.inr (Or.inl h1))
  ·rcases ho k h1 with h2 | h2
   ·exact Or.inl ((ownL_iff h k).2 (Or.inr (Or.inr h2)))
   ·exact Or.inr h2
 lt k hk:=by
  rcases(ownL_iff h' k).1 hk with h1 | h1 | h1
  ·exact hG k h1
  ·subst h1;exact h'.lt
  ·exact hl k h1
structure IR(w Ws:World)(ob:Nat)(s:List (List UInt8)×List (List MUs))(pre:List (List UInt8))(W:World):Prop where
 z:∀y∈pre,codeF s y=0
 sl:∃A cap rows,Box W ob 24 #[.slice A (List.length rows) cap]∧SLv 33 Ws rows A cap W∧rows.map SyR.sym=accF s pre
 r3:R3 w (.slice none 0 0) ⟨#[]⟩ 0 W
 fr:Fr [w.heap.size,w.heap.size+1,w.heap.size+2,ob] Ws W
structure IX(w Ws:World)(ob:Nat)(s:List (List UInt8)×List (List MUs))(pre:List (List UInt8))(W:World):Prop where
 ex:∃p x,pre=p++[x]∧(∀y∈p,codeF s y=0)∧codeF s x≠0∧R3 w (.slice none 0 0) ⟨x.toArray⟩ (codeF s x) W
 fr:Fr [w.heap.size,w.heap.size+1,w.heap.size+2,ob] Ws W
theorem r3_grown{w W W':World}{v:Value}{s:ByteArray}{e:Int}{row:Option Nat}(h:R3 w v s e W)(hg:W.grownBy W' row)(hr:∀r,row=some r→∃o:Obj,W.heap[r]? = some o∧o.isCells=false):R3 w v s e W':=⟨boxg h.b0 hg hr,boxg h.b1 hg hr,boxg h.b2 hg hr⟩
theorem IR.grown{w Ws W W':World}{ob:Nat}{s:List (List UInt8)×List (List MUs)}{pre:List (List UInt8)}{row:Option Nat}(h:IR w Ws ob s pre W)(hg:W.grownBy W' row)(hr:∀r,row=some r→Ws.heap.size≤r∧∃o:Obj,W.heap[r]? = some o∧o.isCells=false):IR w Ws ob s pre W':=by
 obtain⟨A,cap,rows,h1,h2,h3⟩:=h.sl;have hr2:=fun r e=>(hr r e).2
 exact⟨h.z,⟨A,cap,rows,boxg h1 hg hr2,h2.grown hg hr2,h3⟩,r3_grown h.r3 hg hr2,h.fr.grown hg (fun k e=>Or.inr (hr k e).1)⟩
theorem IX.grown{w Ws W W':World}{ob:Nat}{s:List (List UInt8)×List (List MUs)}{pre:List (List UInt8)}{row:Option Nat}(h:IX w Ws ob s pre W)(hg:W.grownBy W' row)(hr:∀r,row=some r→Ws.heap.size≤r∧∃o:Obj,W.heap[r]? = some o∧o.isCells=false):IX w Ws ob s pre W':=by
 obtain⟨p,x,h1,h2,h3,h4⟩:=h.ex;exact⟨⟨p,x,h1,h2,h3,r3_grown h4 hg (fun r e=>(hr r e).2)⟩,h.fr.grown hg (fun k e=>Or.inr (hr k e).1)⟩
theorem IR.start{w Ws:World}{ob:Nat}{s:List (List UInt8)×List (List MUs)}(hb:Box Ws ob 24 #[.slice none 0 0])(h3:R3 w (.slice none 0 0) ⟨#[]⟩ 0 Ws):IR w Ws ob s [] Ws:=
 ⟨(fun y hy=>by cases hy),⟨none,0,[],hb,SLv.new _ _ _,rfl⟩,h3,Fr.refl _ _⟩
theorem three_cells(w:World)(t:TypeId)(x y z:Value):∀(j:Nat) (v:Value),[x,y,z][j]? = some v→(w.alloc (.cells #[x,y,z] t)).cell? ((⟨w.heap.size,0,none⟩:Addr).add j)=some v:=by
 intro j v hv;have h:=(Box.new w t #[x,y,z]).cell j;have e:(⟨w.heap.size,0,none⟩:Addr).add j=⟨w.heap.size,j,none⟩:=by cases j <;> simp[Addr.add]
 rw[e,h]
 simpa using hv
theorem three_cells2(w:World)(ob:Obj)(t:TypeId)(x y z:Value):∀(j:Nat) (v:Value),[x,y,z][j]? = some v→((w.alloc ob).alloc (.cells #[x,y,z] t)).cell? ((⟨w.heap.size+1,0,none⟩:Addr).add j)=some v:=by
 have:=three_cells (w.alloc ob) t x y z
 rwa[World.size_alloc]at this
theorem sy_add{w Ws W W3 w4:World}{ob2:Obj}{ob n cap1 cap3:Nat}{s:List (List UInt8)×List (List MUs)}{pre:List (List UInt8)}{x:List UInt8}{rows:List SyR}{A1 A3:Option Addr}{r:SyR}(hi:IR w Ws ob s pre W)(hsl:SLv 33 Ws rows A1 cap1 W)(hbx:Box W ob 24 #[.slice A1 (List.length rows) cap1])(hacc:rows.map SyR.sym=accF s pre)(b3:Below W.heap.size W W3)(hsW:Ws.heap.size≤W.heap.size)(hw:w.heap.size+2<ob)(hob:ob<Ws.heap.size)(hn:n=rows.length)
 (hrd:Rd W3 r.A (r.wanted.map encStr)) (hrg:∀g∈blk r.A,W.heap.size≤g∧g<W3.heap.size) (hs3:Sg 3 w4 33 A3 cap3 (n+1) (rows.flatMap SyR.row++r.row)) (f3:Fr (blk A1) (W3.alloc ob2) w4) (hf3:blk A3=blk A1∨blk A3=[(W3.alloc ob2).heap.size]) (hz:∀y∈pre++[x],codeF s y=0) (hsn:accF s (pre++[x])=accF s pre++[r.sym]) :
 Box w4 ob 24 #[.slice A1 n cap1]∧KO (OwnL [w.heap.size,w.heap.size+1,w.heap.size+2] ob) W (w4.setCell ⟨ob,0,none⟩ (.slice A3 (n+1) cap3))∧IR w Ws ob s (pre++[x]) (w4.setCell ⟨ob,0,none⟩ (.slice A3 (n+1) cap3)):=by
 have hge:=hsl.ge;have hlt:=hsl.sg.lt;have hnb:∀q,q<Ws.heap.size→q∉blk A1:=fun q hq hm=>by have:=hge q hm;omega
 have hsl3:=hsl.below b3;obtain⟨h1,h2,h3⟩:=hsl3.push (by have:=b3.size;omega) hn hs3 f3 hf3 hrd (fun g hg=>⟨Nat.le_trans hsW (hrg g hg).1,(hrg g hg).2,fun hm=>by have:=hlt g hm;have:=(hrg g hg).1;omega⟩);have F4:Fr (blk A1) W w4:=(Fr.of_below b3 (blk A1)).trans h2 (fun g hg=>Or.inl hg) (fun g hg=>Or.inl hg);have hb4:Box w4 ob 24 #[.slice A1 n cap1]:=by
  have:=hbx.kept F4 (hnb ob hob)
  rwa[←hn]at this
 have f5:Fr [ob] w4 (w4.setCell ⟨ob,0,none⟩ (.slice A3 (n+1) cap3)):=(Fr.refl _ w4).setCell (Or.inl (by simp)) _;have hb5:Box (w4.setCell ⟨ob,0,none⟩ (.slice A3 (n+1) cap3)) ob 24 #[.slice A3 (n+1) cap3]:=by
  have:=hb4.put 0 (.slice A3 (n+1) cap3)
  simpa using this
 have F5:Fr (ob :: blk A1) W (w4.setCell ⟨ob,0,none⟩ (.slice A3 (n+1) cap3)):=F4.trans f5 (fun g hg=>Or.inl (List.mem_cons_of_mem _ hg)) (fun g hg=>Or.inl (by rw[List.mem_singleton]at hg;subst hg;exact List.mem_cons_self))
 have hs5:SLv 33 Ws (rows++[r]) A3 cap3 (w4.setCell ⟨ob,0,none⟩ (.slice A3 (n+1) cap3)):=h1.kept f5 (fun g hg hm=>by
  rw[List.mem_singleton]at hm;subst hm;have:=h1.ge g hg;omega) (fun r2 hr2 g hg hm=>by
  rw[List.mem_singleton]at hm;subst hm
  have:=(h1.rg r2 hr2 g hg).1;omega)
 refine⟨hb4,ko_of hbx hb5 F5 (fun g hg=>?_) (fun g hg=>?_) (fun g hg=>?_) (fun g hg=>hs5.sg.lt g hg),⟨hz,⟨A3,cap3,rows++[r],by rw[List.length_append,List.length_singleton,←hn];exact hb5,hs5,by rw[List.map_append,hacc,hsn];rfl⟩,hi.r3.kept F5 ?_ ?_ ?_,hi.fr.trans F5 (fun g hg=>Or.inl hg) (fun g hg=>?_)⟩⟩
 ·rcases List.mem_cons.1 hg with h | h
  ·exact Or.inr (Or.inl h)
  ·exact Or.inr (Or.inr (Or.inl h))
 ·rcases h3 g hg with h | h
  ·exact Or.inl h
  ·exact Or.inr (Nat.le_trans b3.size h)
 ·have:=F5.size
  simp only[List.mem_cons,List.not_mem_nil,or_false]at hg;omega
 ·rw[List.mem_cons,not_or];exact⟨by omega,hnb _ (by omega)⟩
 ·rw[List.mem_cons,not_or];exact⟨by omega,hnb _ (by omega)⟩
 ·rw[List.mem_cons,not_or];exact⟨by omega,hnb _ (by omega)⟩
 ·rcases List.mem_cons.1 hg with h | h
  ·left;simp[h]
  ·exact Or.inr (hge g h)
end ym
open Lib(hid)
set_option maxRecDepth 100000
set_option maxHeartbeats 16000000
namespace ym
open RowKit Go.Sort Shelf mem sy rng
open re (tx SU MU SumM)
open sf (map_tx enc_tx SumK putL esC fst0 scheck_any wf_tx)
open inn (rsS mem_rsS)
open ins (noOf WF rising_new)
open nm (Tab tab_below)
attribute [local go_sem] Oper.semAt_some
theorem R3.setA{w W:World}{v:Value}{s:ByteArray}{e:Int}(h:R3 w v s e W∧Below w.heap.size w W)(v2:Value):R3 w v2 s e (W.setCell ⟨w.heap.size,0,none⟩ v2)∧Below w.heap.size w (W.setCell ⟨w.heap.size,0,none⟩ v2):=by
 have f:Fr [w.heap.size] W (W.setCell ⟨w.heap.size,0,none⟩ v2):=(Fr.refl _ W).setCell (Or.inl (by simp)) _;exact⟨⟨by have:=h.1.b0.put 0 v2;simpa using this,h.1.b1.kept f (by simp),h.1.b2.kept f (by simp)⟩,h.2.trans (f.below (by simp) h.2.size)⟩
theorem R3.setB{w W:World}{v:Value}{s:ByteArray}{e:Int}(h:R3 w v s e W∧Below w.heap.size w W)(s2:ByteArray):R3 w v s2 e (W.setCell ⟨w.heap.size+1,0,none⟩ (.string s2))∧Below w.heap.size w (W.setCell ⟨w.heap.size+1,0,none⟩ (.string s2)):=by
 have f:Fr [w.heap.size+1] W (W.setCell ⟨w.heap.size+1,0,none⟩ (.string s2)):=(Fr.refl _ W).setCell (Or.inl (by simp)) _;exact⟨⟨h.1.b0.kept f (by simp),by have:=h.1.b1.put 0 (.string s2);simpa using this,h.1.b2.kept f (by simp)⟩,h.2.trans (f.below (by simp) h.2.size)⟩
theorem R3.setC{w W:World}{v:Value}{s:ByteArray}{e:Int}(h:R3 w v s e W∧Below w.heap.size w W)(e2:Int):R3 w v s e2 (W.setCell ⟨w.heap.size+2,0,none⟩ (.int .i64 e2))∧Below w.heap.size w (W.setCell ⟨w.heap.size+2,0,none⟩ (.int .i64 e2)):=by
 have f:Fr [w.heap.size+2] W (W.setCell ⟨w.heap.size+2,0,none⟩ (.int .i64 e2)):=(Fr.refl _ W).setCell (Or.inl (by simp)) _;exact⟨⟨h.1.b0.kept f (by simp),h.1.b1.kept f (by simp),by have:=h.1.b2.put 0 (.int .i64 e2);simpa using this⟩,h.2.trans (f.below (by simp) h.2.size)⟩
theorem cell_set{W:World}{a b:Nat}{v x:Value}(h:W.cell? ⟨b,0,none⟩=some x)(hne:b≠a):(W.setCell ⟨a,0,none⟩ v).cell? ⟨b,0,none⟩=some x:=
 (World.cell?_of_block (w:=W) (a:=⟨b,0,none⟩) (Below.heap_setCell W ⟨a,0,none⟩ v b hne)).trans h
structure LP(w:World)(L:List SU)(l:List MU)(k N2:Nat)(ms:List (List UInt8))(wr:World):Prop where
 rs:RS w [w.heap.size,w.heap.size+1,w.heap.size+2] k ms N2 ((l.take k).flatMap usesM |>.foldl putM ([],[])) wr
 r3:R3 w (.slice none 0 0) ⟨#[]⟩ 0 wr
 ch:chkFrom [] L=chkFrom ms (L.drop k)
theorem SLv.base{te:TypeId}{w w2:World}{rows:List SyR}{A:Option Addr}{cap:Nat}{W:World}(h:SLv te w rows A cap W)(hw:w2.heap.size≤w.heap.size):SLv te w2 rows A cap W:=
 ⟨h.sg,fun q hq=>Nat.le_trans hw (h.ge q hq),h.rd,fun r hr g hg=>⟨Nat.le_trans hw (h.rg r hr g hg).1,(h.rg r hr g hg).2⟩⟩
theorem info_sy:(Tryz.prog.info? 33).map (fun i=>(i.zero,i.size,i.bytes))=some (some (.agg #[.string ByteArray.empty,.string ByteArray.empty,.slice none 0 0]),3,56):=by kernel_rfl
def valT(pre:List {x:List UInt8 // WF x}):List (List UInt8):=pre.map Subtype.val
theorem valT_snoc(pre:List {x:List UInt8 // WF x})(x:{x:List UInt8 // WF x}):valT (pre++[x])=valT pre++[x.1]:=by unfold valT;rw[List.map_append];rfl
theorem valT_len(pre:List {x:List UInt8 // WF x}):(valT pre).length=pre.length:=List.length_map ..
theorem flat_take(l:List MU){k:Nat}(hk:k<l.length):((l.take (k+1)).flatMap usesM).foldl putM ([],[])=(usesM l[k]).foldl putM (((l.take k).flatMap usesM).foldl putM ([],[])):=by
 rw[List.take_succ_eq_append_getElem hk,List.flatMap_append,List.foldl_append];simp
theorem resolve_some(hf:HeldF)(hm:HeldM)(w:World)(A:Option Addr)(c:Nat)(l:List MU)(h:SusM w A l)(htab:Tab w)(h8:l.length≤8) :
 Calls Tryz.prog 6 #[.slice A l.length c] w (ResP 33 w (resP (l.map MU.su))):=by
 obtain⟨L,hL⟩:∃L,Hid (L=l.map MU.su):=⟨_,hid rfl⟩;rw[←hL.out];have hLl:Hid (L.length=l.length):=hid (by rw[hL.out,List.length_map])
 have hLk:Hid (∀k (h1:k<l.length) (h2:k<L.length),L[k] = l[k].su):=hid (fun k h1 h2=>by
  have:=List.getElem_of_eq hL.out h2
  rw[this,List.getElem_map])
 obtain⟨Q,hQ⟩:∃Q:Ending→World→Prop,Hid (Q=ResP 33 w (resP L)):=⟨_,hid rfl⟩;rw[←hQ.out];have HS:=hid (fun(w2:World) (b:Below w.heap.size w w2)=>h.below b);have HT:Hid (∀w2,Below w.heap.size w w2→Tab w2):=hid (fun w2 b=>tab_below htab b);have HF:=hid hf;have HM:=hid hm;obtain⟨n,hN⟩:∃n,Hid (n=l.length):=⟨_,hid rfl⟩;rw[←hN.out]at h8 ⊢;obtain⟨W5,hW5⟩:∃W5,Hid (W5=((((w.alloc (.cells #[.slice none 0 0] 24)).alloc (.cells #[.string ⟨#[]⟩] 9)).alloc (.cells #[.int .i64 0] 25)).alloc (.cells #[.map none,.slice none 0 0] 48)).alloc (.cells #[.map none,.slice none 0 0,.slice none 0 0] 51)):=⟨_,hid rfl⟩;have hz1:(w.alloc (.cells #[.slice none 0 0] 24)).heap.size=w.heap.size+1:=Array.size_push _;have hz2:((w.alloc (.cells #[.slice none 0 0] 24)).alloc (.cells #[.string ⟨#[]⟩] 9)).heap.size=w.heap.size+2:=by rw[World.size_alloc,hz1]
 have hz3:(((w.alloc (.cells #[.slice none 0 0] 24)).alloc (.cells #[.string ⟨#[]⟩] 9)).alloc (.cells #[.int .i64 0] 25)).heap.size=w.heap.size+3:=by rw[World.size_alloc,hz2]
 have hz4:((((w.alloc (.cells #[.slice none 0 0] 24)).alloc (.cells #[.string ⟨#[]⟩] 9)).alloc (.cells #[.int .i64 0] 25)).alloc (.cells #[.map none,.slice none 0 0] 48)).heap.size=w.heap.size+4:=by rw[World.size_alloc,hz3]
 obtain⟨rs0,p0,p1,p2⟩:=rs_new w W5 hW5.out;have LP0:Hid (LP w L l 0 0 [] W5):=hid ⟨rs0,⟨p0,p1,p2⟩,rfl⟩;have d1:decide ((8:Int)<(n:Int))=false:=decide_eq_false (by omega);clear rs0 p0 p1 p2 h htab hf hm;refine(callsIn_wide (n:=8)).1 ?_;refine callsIn_of_wp_marks Tryz.func6 rfl trivial ?_ rfl;simp only[Tryz.ntmps6,List.size_toArray,List.length_cons,List.length_nil,Nat.reduceAdd,Nat.reduceSub,Array.replicate_succ,Array.replicate_zero,List.push_toArray,List.append_toArray,List.nil_append,List.cons_append];refine wpIn_wide.2 ?_;go_upto_region 5 with fail;rw[←hW5.out]
 try rw[hz4]
 try rw[hz3]
 try rw[hz2]
 try rw[hz1]
 try simp only[show w.heap.size+1+1=w.heap.size+2 from rfl,show w.heap.size+2+1=w.heap.size+3 from rfl,show w.heap.size+3+1=w.heap.size+4 from rfl]
 clear hW5 hz1 hz2 hz3 hz4;go_wp2_with fail;go_loopw [8,9,10,11,22] (fun _ _ _ _ i wr=>∃(k N2:Nat) (ms:List (List UInt8)),k≤n∧N2≤1000 * k∧i=.int .i64 k∧Hid (LP w L l k N2 ms wr)) (fun _ _ _ _ i _=>n-(intOf i).toNat)
 case atStart=>exact⟨0,0,[],by omega,by omega,rfl,LP0⟩
 case round=>
  obtain⟨k,N2,ms,hk,hN2,rfl,HP⟩:=hrel
  rename World=>wr
  clear LP0;by_cases hkl:k<n
  ·have d2:decide ((k:Int)<(n:Int))=true:=decide_eq_true (by omega)
   have hkx:k<l.length:=by rw[←hN.out];exact hkl
   have hkL:k<L.length:=by rw[hLl.out];exact hkx
   have hS:=HS.out wr HP.out.rs.on;obtain⟨g,off,rfl,hg,hc⟩:=hS.at_ hkx;have hcs:=chk_step L hkL ms;rw[←HP.out.ch,hLk.out k hkx hkL]at hcs;replace hcs:=hid hcs;have hft:=hid (flat_take l hkx);have hn1:l[k].s.os.length+l[k].s.fs.length≤1000:=hS.n _ (List.getElem_mem hkx);have HK:Hid (∀w2,Below w.heap.size w w2→SumK w2 l[k]):=hid (fun w2 b=>(HS.out w2 b).k _ (List.getElem_mem hkx));have hR3:=hid HP.out.r3;have hRS:=hid HP.out.rs;have hx:WF (tx l[k].name):=wf_tx (HK.out wr HP.out.rs.on).n;clear hS HP;generalize l[k] = u at *;have KC:Hid (∀w2,Below w.heap.size w w2→Calls Tryz.prog 12 #[u.val] w2 (IPost (fst0 (esC u.su)) w2)):=hid (fun w2 b=>scheck_any w2 u (HK.out w2 b) (HT.out w2 b))
   have KA:Hid (∀w2 X,RS w X (k+1) (putL ms (tx u.name)) N2 (((l.take k).flatMap usesM).foldl putM ([],[])) w2→fst0 (esC u.su)=0→Calls Tryz.prog 14 #[.pointer (some ⟨w.heap.size+4,0,none⟩),u.val] w2 (fun e w'=>e=.returned (.tuple #[])∧RS w X (k+1) (putL ms (tx u.name)) (N2+u.s.os.length+u.s.fs.length) (((l.take (k+1)).flatMap usesM).foldl putM ([],[])) w'∧∀q∈X,w'.heap[q]? = w2.heap[q]?)):=hid (fun w2 X hr h0=>by
    rw[hft.out]
    exact rs_all hr u (sumR_of (HK.out w (Below.refl _ _)) h0) (by omega))
   unfold IPost at KC
   have hEn:Hid (∀w' e2,fst0 (esC u.su)≠0→e2=fst0 (esC u.su)→Below w.heap.size w w'→Q (.returned (.tuple #[.slice none 0 0,.string u.name,.int .i64 e2])) w'):=hid (fun w' e2 h0 he hb=>by
    subst he;have hcc:=hcs.out;rw[if_neg h0]at hcc;rw[hQ.out,res_chk (by rw[hLl.out,←hN.out];exact h8) hcc,←enc_tx]
    exact resP_nil rfl hb)
   have hEt:Hid (∀w',fst0 (esC u.su)=0→tx u.name∈ms→Below w.heap.size w w'→Q (.returned (.tuple #[.slice none 0 0,.string u.name,.int .i64 8])) w'):=hid (fun w' h0 hi hb=>by
    have hcc:=hcs.out;rw[if_pos h0,if_pos (show tx u.su.name∈ms from hi)]at hcc;rw[hQ.out,res_chk (by rw[hLl.out,←hN.out];exact h8) hcc,←enc_tx]
    exact resP_nil rfl hb)
   have hOk:Hid (fst0 (esC u.su)=0→tx u.name∉ms→chkFrom [] L=chkFrom (putL ms (tx u.name)) (L.drop (k+1))):=hid (fun h0 hi=>by
    have hcc:=hcs.out;rw[if_pos h0,if_neg (show ¬tx u.su.name∈ms from hi)]at hcc;unfold putL;rw[if_neg hi,hcc]
    rfl)
   clear hcs hft HK hkx hkL;generalize fst0 (esC u.su)=E at *;obtain⟨nm,gA,gc,gs,wA,wc,ws,kA,kc,ks,⟨oA,oc,os,fA,fc,fs,cA,cc,cs⟩⟩:=u;unfold MU.val at KC KA;unfold MU.row at KC KA;unfold rowS at hc;dsimp only at *;generalize hgl:gs.length=gl at *;generalize hwl:ws.length=wl at *;generalize hkl2:ks.length=kl at *;generalize hol:os.length=ol at *;generalize hfl:fs.length=fl at *;generalize hcl:cs.length=cl at *;clear hgl hwl hkl2 hol hfl hcl;have c0:wr.cell? ⟨g,off+k * 7,none⟩=some (.string nm):=hc 0 _ rfl;have c1:wr.cell? ⟨g,off+k * 7+1,none⟩=some (.slice gA gl gc):=hc 1 _ rfl;have c2:wr.cell? ⟨g,off+k * 7+2,none⟩=some (.slice wA wl wc):=hc 2 _ rfl;have c3:wr.cell? ⟨g,off+k * 7+3,none⟩=some (.slice kA kl kc):=hc 3 _ rfl;have c4:wr.cell? ⟨g,off+k * 7+4,none⟩=some (.slice oA ol oc):=hc 4 _ rfl;have c5:wr.cell? ⟨g,off+k * 7+5,none⟩=some (.slice fA fl fc):=hc 5 _ rfl;have c6:wr.cell? ⟨g,off+k * 7+6,none⟩=some (.slice cA cl cc):=hc 6 _ rfl
   clear hc hg;have hr1:=hRS.out.add (.cells #[.string nm,.slice gA gl gc,.slice wA wl wc,.slice kA kl kc,.slice oA ol oc,.slice fA fl fc,.slice cA cl cc] 43);obtain⟨w1,hw1⟩:∃w1,Hid (w1=wr.alloc (.cells #[.string nm,.slice gA gl gc,.slice wA wl wc,.slice kA kl kc,.slice oA ol oc,.slice fA fl fc,.slice cA cl cc] 43)):=⟨_,hid rfl⟩;have BS:Box w1 wr.heap.size 43 #[.string nm,.slice gA gl gc,.slice wA wl wc,.slice kA kl kc,.slice oA ol oc,.slice fA fl fc,.slice cA cl cc]:=by rw[hw1.out];exact Box.new wr _ _
   rw[←hw1.out]at hr1;have hR1:=hid hr1;have hR31:Hid (R3 w (.slice none 0 0) ⟨#[]⟩ 0 w1):=hid (by rw[hw1.out];exact hR3.out.kept ((Fr.refl [] wr).alloc _) (by simp) (by simp) (by simp));have hsb:w.heap.size+2<wr.heap.size:=hR3.out.b2.lt;clear hr1 hRS hR3;go_upto_region 8 with fail;rw[←hw1.out];clear hw1 c0 c1 c2 c3 c4 c5 c6;have HBS:=hid BS;generalize wr.heap.size=sb at *;have K1:=hid (KC.out w1 hR1.out.on);have y0:w1.cell? ⟨sb,0,none⟩=some (.string nm):=BS.cell 0;have y1:w1.cell? ⟨sb,1,none⟩=some (.slice gA gl gc):=BS.cell 1;have y2:w1.cell? ⟨sb,2,none⟩=some (.slice wA wl wc):=BS.cell 2;have y3:w1.cell? ⟨sb,3,none⟩=some (.slice kA kl kc):=BS.cell 3;have y4:w1.cell? ⟨sb,4,none⟩=some (.slice oA ol oc):=BS.cell 4;have y5:w1.cell? ⟨sb,5,none⟩=some (.slice fA fl fc):=BS.cell 5;have y6:w1.cell? ⟨sb,6,none⟩=some (.slice cA cl cc):=BS.cell 6;clear BS KC;go_wp2_with fail;refine K1.out.mono ?_;rintro e w2 ⟨rfl,b2⟩
   have hR2:=hid (hR1.out.below b2);have hR32:=hid (hR31.out.kept (Fr.of_below b2 []) (by simp) (by simp) (by simp));have HB2:=hid (HBS.out.kept (Fr.of_below b2 []) (by simp));clear b2 K1 y0 y1 y2 y3 y4 y5 y6 hR1 hR31 HBS;have K2:=hid (rs_put hR2.out (tx nm) hx (by omega));rw[enc_tx]at K2;have y0:w2.cell? ⟨sb,0,none⟩=some (.string nm):=HB2.out.cell 0;go_wp2_with fail;refine K2.out.mono ?_;rintro e w3 ⟨⟨i,rfl⟩,r3,hq⟩;have hR4:=hid r3;have hR33:=hid (hR32.out.same (fun q hm=>hq q (List.mem_cons_of_mem _ hm)));have HB3:=hid (box_same HB2.out (hq sb List.mem_cons_self));clear r3 hq K2 y0 hR2 hR32 HB2;have y0:w3.cell? ⟨sb,0,none⟩=some (.string nm):=HB3.out.cell 0;by_cases hE:E=0;rotate_left
   ·have e1:(E==0)=false:=by simpa using hE
    have e2:(E != 0)=true:=by simpa using hE
    have hq:=hid (fun w' hb=>hEn.out w' E hE rfl hb);clear hEn hEt hOk KA;go_wp2_with fail;have hX0:Hid (R3 w (.slice none 0 0) ⟨#[]⟩ 0 w3.drew∧Below w.heap.size w w3.drew):=hid ⟨hR33.out.kept ((Fr.refl [] w3).drew) (by simp) (by simp) (by simp),hR4.out.on.trans (((Fr.refl [] w3).drew).all.mono hR4.out.on.size)⟩;obtain⟨S,hSd⟩:∃S:World→Prop,Hid (∀W',S W'↔((∃v s e,R3 w v s e W')∧W'.cell? ⟨sb,0,none⟩=some (.string nm))):=⟨_,hid fun _=>Iff.rfl⟩;have hy0:Hid (w3.drew.cell? ⟨sb,0,none⟩=some (.string nm)):=hid y0;have hS0:S w3.drew:=(hSd.out _).2 ⟨⟨_,_,_,hX0.out.1⟩,hy0.out⟩;clear hR4 hR33 HB3 y0;refine rng.wp_normal ?_;refine wp_region_held_drew (S:=S) (by kernel_rfl) hS0 (fun _=>?_);generalize hwz:w3.drew=wz at *;clear hwz;refine wpAnyH_take (i:=0) (v:=.pointer (some ⟨sb,0,none⟩)) rfl (by kernel_rfl) (by kernel_rfl) (by kernel_rfl) (fun _ _ _ h=>absurd h.1 (by simp)) (Or.inl ⟨by kernel_rfl,?_⟩) hS0 ?_
    ·intro W' hSw
     obtain⟨_,s0⟩:=(hSd.out _).1 hSw;go_simp
    try change wpAnyH _ _ _ _ _ _ _ (Act.put _ (some 42) _) _
    try simp only[Act.put,List.setIfInBounds_toArray,List.set_cons_zero,List.set_cons_succ]
    refine wpAnyH_take (i:=1) (v:=.string nm) rfl (by kernel_rfl) (by kernel_rfl) (by kernel_rfl) (fun _ _ _ h=>absurd h.1 (by simp)) (Or.inl ⟨by kernel_rfl,?_⟩) hS0 ?_
    ·intro W' hSw
     obtain⟨_,s0⟩:=(hSd.out _).1 hSw;go_simp
    try change wpAnyH _ _ _ _ _ _ _ (Act.put _ (some 43) _) _
    try simp only[Act.put,List.setIfInBounds_toArray,List.set_cons_zero,List.set_cons_succ]
    refine wpAnyH_take (i:=2) (v:=.int .i64 E) rfl (by kernel_rfl) (by kernel_rfl) (by kernel_rfl) (fun _ _ _ h=>absurd h.1 (by simp)) (Or.inl ⟨by kernel_rfl,?_⟩) hS0 ?_
    ·intro W' hSw
     obtain⟨_,s0⟩:=(hSd.out _).1 hSw;go_simp
    try change wpAnyH _ _ _ _ _ _ _ (Act.put _ (some 44) _) _
    try simp only[Act.put,List.setIfInBounds_toArray,List.set_cons_zero,List.set_cons_succ]
    refine wpAnyH_ready (rs:=[3]) (by kernel_rfl) (by simp) ?_;refine AllReadyH.cons rfl (fun K hK=>?_) AllReadyH.nil;have zc:=hX0.out.1.b0.cell 0;have zv:=hX0.out.1.b0.free 0;have zl:=hX0.out.1.b0.lt;have hX1:=hid (R3.setA hX0.out (.slice none 0 0));have hy1:=hid (cell_set (v:=.slice none 0 0) (a:=w.heap.size) hy0.out (by omega));have hS1:=(hSd.out _).2 ⟨⟨_,_,_,hX1.out.1⟩,hy1.out⟩;go_simp;refine hK.out _ _ hS1 (fun _=>?_);clear hK zc zv zl
    try simp only[Act.put,List.setIfInBounds_toArray,List.set_cons_zero,List.set_cons_succ]
    refine wpAnyH_ready (rs:=[4]) (by kernel_rfl) (by simp) ?_;refine AllReadyH.cons rfl (fun K hK=>?_) AllReadyH.nil;have zc:=hX1.out.1.b1.cell 0;have zv:=hX1.out.1.b1.free 0;have zl:=hX1.out.1.b1.lt;have hX2:=hid (R3.setB hX1.out nm);have hy2:=hid (cell_set (v:=.string nm) (a:=w.heap.size+1) hy1.out (by omega));have hS2:=(hSd.out _).2 ⟨⟨_,_,_,hX2.out.1⟩,hy2.out⟩;go_simp;refine hK.out _ _ hS2 (fun _=>?_);clear hK zc zv zl
    try simp only[Act.put,List.setIfInBounds_toArray,List.set_cons_zero,List.set_cons_succ]
    refine wpAnyH_ready (rs:=[5]) (by kernel_rfl) (by simp) ?_;refine AllReadyH.cons rfl (fun K hK=>?_) AllReadyH.nil;have zc:=hX2.out.1.b2.cell 0;have zv:=hX2.out.1.b2.free 0;have zl:=hX2.out.1.b2.lt;have hX3:=hid (R3.setC hX2.out E);have hy3:=hid (cell_set (v:=.int .i64 E) (a:=w.heap.size+2) hy2.out (by omega));have hS3:=(hSd.out _).2 ⟨⟨_,_,_,hX3.out.1⟩,hy3.out⟩;go_simp;refine hK.out _ _ hS3 (fun _=>?_);clear hK zc zv zl
    try simp only[Act.put,List.setIfInBounds_toArray,List.set_cons_zero,List.set_cons_succ]
    refine wpAnyH_done (by kernel_rfl) ?_ _;refine⟨rfl,?_⟩;clear hSd hS0 hS1 hS2 hS3;go_wp2_with fail
    (try simp only[Exit.inBlock,Exit.then])
    refine⟨_,results_cells3 rfl _ _ _ _ _ _ _ _ rfl rfl rfl agg24 agg9 agg25 (hX3.out.1.b0.cell 0) (hX3.out.1.b1.cell 0) (hX3.out.1.b2.cell 0),?_⟩;exact hq.out _ hX3.out.2
   ·subst hE
    by_cases hin:tx nm∈ms
    ·have g1:decide (tx nm∈ms)=true:=decide_eq_true hin
     have hq:=hid (fun w' hb=>hEt.out w' rfl hin hb);rw[g1];clear hEn hEt hOk KA;go_wp2_with fail;have hX0:Hid (R3 w (.slice none 0 0) ⟨#[]⟩ 0 w3.drew∧Below w.heap.size w w3.drew):=hid ⟨hR33.out.kept ((Fr.refl [] w3).drew) (by simp) (by simp) (by simp),hR4.out.on.trans (((Fr.refl [] w3).drew).all.mono hR4.out.on.size)⟩;obtain⟨S,hSd⟩:∃S:World→Prop,Hid (∀W',S W'↔((∃v s e,R3 w v s e W')∧W'.cell? ⟨sb,0,none⟩=some (.string nm))):=⟨_,hid fun _=>Iff.rfl⟩;have hy0:Hid (w3.drew.cell? ⟨sb,0,none⟩=some (.string nm)):=hid y0;have hS0:S w3.drew:=(hSd.out _).2 ⟨⟨_,_,_,hX0.out.1⟩,hy0.out⟩;clear hR4 hR33 HB3 y0;refine rng.wp_normal ?_;refine wp_region_held_drew (S:=S) (by kernel_rfl) hS0 (fun _=>?_);generalize hwz:w3.drew=wz at *;clear hwz;refine wpAnyH_take (i:=0) (v:=.pointer (some ⟨sb,0,none⟩)) rfl (by kernel_rfl) (by kernel_rfl) (by kernel_rfl) (fun _ _ _ h=>absurd h.1 (by simp)) (Or.inl ⟨by kernel_rfl,?_⟩) hS0 ?_
     ·intro W' hSw
      obtain⟨_,s0⟩:=(hSd.out _).1 hSw;go_simp
     try change wpAnyH _ _ _ _ _ _ _ (Act.put _ (some 42) _) _
     try simp only[Act.put,List.setIfInBounds_toArray,List.set_cons_zero,List.set_cons_succ]
     refine wpAnyH_take (i:=1) (v:=.string nm) rfl (by kernel_rfl) (by kernel_rfl) (by kernel_rfl) (fun _ _ _ h=>absurd h.1 (by simp)) (Or.inl ⟨by kernel_rfl,?_⟩) hS0 ?_
     ·intro W' hSw
      obtain⟨_,s0⟩:=(hSd.out _).1 hSw;go_simp
     try change wpAnyH _ _ _ _ _ _ _ (Act.put _ (some 43) _) _
     try simp only[Act.put,List.setIfInBounds_toArray,List.set_cons_zero,List.set_cons_succ]
     refine wpAnyH_take (i:=2) (v:=.int .i64 8) rfl (by kernel_rfl) (by kernel_rfl) (by kernel_rfl) (fun _ _ _ h=>absurd h.1 (by simp)) (Or.inl ⟨by kernel_rfl,?_⟩) hS0 ?_
     ·intro W' hSw
      obtain⟨_,s0⟩:=(hSd.out _).1 hSw;go_simp
     try change wpAnyH _ _ _ _ _ _ _ (Act.put _ (some 44) _) _
     try simp only[Act.put,List.setIfInBounds_toArray,List.set_cons_zero,List.set_cons_succ]
     refine wpAnyH_ready (rs:=[3]) (by kernel_rfl) (by simp) ?_;refine AllReadyH.cons rfl (fun K hK=>?_) AllReadyH.nil;have zc:=hX0.out.1.b0.cell 0;have zv:=hX0.out.1.b0.free 0;have zl:=hX0.out.1.b0.lt;have hX1:=hid (R3.setA hX0.out (.slice none 0 0));have hy1:=hid (cell_set (v:=.slice none 0 0) (a:=w.heap.size) hy0.out (by omega));have hS1:=(hSd.out _).2 ⟨⟨_,_,_,hX1.out.1⟩,hy1.out⟩;go_simp;refine hK.out _ _ hS1 (fun _=>?_);clear hK zc zv zl
     try simp only[Act.put,List.setIfInBounds_toArray,List.set_cons_zero,List.set_cons_succ]
     refine wpAnyH_ready (rs:=[4]) (by kernel_rfl) (by simp) ?_;refine AllReadyH.cons rfl (fun K hK=>?_) AllReadyH.nil;have zc:=hX1.out.1.b1.cell 0;have zv:=hX1.out.1.b1.free 0;have zl:=hX1.out.1.b1.lt;have hX2:=hid (R3.setB hX1.out nm);have hy2:=hid (cell_set (v:=.string nm) (a:=w.heap.size+1) hy1.out (by omega));have hS2:=(hSd.out _).2 ⟨⟨_,_,_,hX2.out.1⟩,hy2.out⟩;go_simp;refine hK.out _ _ hS2 (fun _=>?_);clear hK zc zv zl
     try simp only[Act.put,List.setIfInBounds_toArray,List.set_cons_zero,List.set_cons_succ]
     refine wpAnyH_ready (rs:=[5]) (by kernel_rfl) (by simp) ?_;refine AllReadyH.cons rfl (fun K hK=>?_) AllReadyH.nil;have zc:=hX2.out.1.b2.cell 0;have zv:=hX2.out.1.b2.free 0;have zl:=hX2.out.1.b2.lt;have hX3:=hid (R3.setC hX2.out 8);have hy3:=hid (cell_set (v:=.int .i64 8) (a:=w.heap.size+2) hy2.out (by omega));have hS3:=(hSd.out _).2 ⟨⟨_,_,_,hX3.out.1⟩,hy3.out⟩;go_simp;refine hK.out _ _ hS3 (fun _=>?_);clear hK zc zv zl
     try simp only[Act.put,List.setIfInBounds_toArray,List.set_cons_zero,List.set_cons_succ]
     refine wpAnyH_done (by kernel_rfl) ?_ _;refine⟨rfl,?_⟩;clear hSd hS0 hS1 hS2 hS3;go_wp2_with fail
     (try simp only[Exit.inBlock,Exit.then])
     refine⟨_,results_cells3 rfl _ _ _ _ _ _ _ _ rfl rfl rfl agg24 agg9 agg25 (hX3.out.1.b0.cell 0) (hX3.out.1.b1.cell 0) (hX3.out.1.b2.cell 0),?_⟩;exact hq.out _ hX3.out.2
    ·have g1:decide (tx nm∈ms)=false:=decide_eq_false hin
     have hch:=hid (hOk.out rfl hin);have K3:=hid (KA.out w3 _ hR4.out rfl);rw[g1];clear hEn hEt hOk KA;have y1:w3.cell? ⟨sb,1,none⟩=some (.slice gA gl gc):=HB3.out.cell 1;have y2:w3.cell? ⟨sb,2,none⟩=some (.slice wA wl wc):=HB3.out.cell 2;have y3:w3.cell? ⟨sb,3,none⟩=some (.slice kA kl kc):=HB3.out.cell 3;have y4:w3.cell? ⟨sb,4,none⟩=some (.slice oA ol oc):=HB3.out.cell 4;have y5:w3.cell? ⟨sb,5,none⟩=some (.slice fA fl fc):=HB3.out.cell 5;have y6:w3.cell? ⟨sb,6,none⟩=some (.slice cA cl cc):=HB3.out.cell 6;go_wp2_with fail;refine K3.out.mono ?_;rintro e w4 ⟨rfl,r4,hq⟩;have hP4:Hid (LP w L l (k+1) (N2+ol+fl) (putL ms (tx nm)) w4):=hid ⟨r4.less,hR33.out.same (fun q hm=>hq q (List.mem_cons_of_mem _ hm)),hch.out⟩;clear r4 hq K3 y0 y1 y2 y3 y4 y5 y6 hR4 hR33 HB3 hch;go_wp2_with fail;go_roundw
     case rel=>exact⟨k+1,_,_,by omega,by omega,by go_num,hP4⟩
     case measure=>simp[intOf];omega
  ·obtain rfl:k=n:=by omega
   have d2:decide ((k:Int)<(k:Int))=false:=decide_eq_false (by omega);have hchk:Hid (chkFrom [] L=none):=hid (by rw[HP.out.ch,List.drop_of_length_le (by rw[hLl.out,←hN.out];exact Nat.le_refl _)];rfl);obtain⟨s,hs⟩:∃s,Hid (s=((l.take k).flatMap usesM).foldl putM ([],[])):=⟨_,hid rfl⟩
   have hTD:Hid (TabD w L s):=hid (by
    rw[hs.out,List.take_of_length_le (by rw[←hN.out];exact Nat.le_refl _),hL.out]
    exact tabD_of (HS.out w (Below.refl _ _)).k)
   have hRS:=HP.out.rs;rw[←hs.out]at hRS;have hR3:=HP.out.r3;have hbx:w.heap.size+2<wr.heap.size:=hR3.b2.lt;have h8L:Hid (L.length≤8):=hid (by rw[hLl.out,←hN.out];exact h8);clear hs HP hL hLl hLk HS HT;go_wp2_with fail;refine(rising_new _ (w.heap.size+4)).mono ?_;rintro e w5 ⟨rfl,rfl⟩;go_wp2_with fail;obtain⟨Ws,hWs⟩:∃Ws,Hid (Ws=(wr.alloc (.cells #[.slice none 0 0] 24)).alloc (.cells #[.pointer (some ⟨w.heap.size+4,0,none⟩)] 80)):=⟨_,hid rfl⟩;have hsz:Ws.heap.size=wr.heap.size+2:=by rw[hWs.out];simp
   have hfr:Fr [] wr Ws:=by rw[hWs.out];exact((Fr.refl [] wr).alloc _).alloc _
   have hob:Box Ws wr.heap.size 24 #[.slice none 0 0]:=by rw[hWs.out];exact(Box.new wr _ _).kept ((Fr.refl [] _).alloc _) (by simp)
   have htb:Box Ws (wr.heap.size+1) 80 #[.pointer (some ⟨w.heap.size+4,0,none⟩)]:=by
    rw[hWs.out];have:=Box.new (wr.alloc (.cells #[.slice none 0 0] 24)) 80 #[.pointer (some ⟨w.heap.size+4,0,none⟩)]
    rwa[World.size_alloc]at this
   have hR3s:R3 w (.slice none 0 0) ⟨#[]⟩ 0 Ws:=hR3.kept hfr (by simp) (by simp) (by simp);obtain⟨A3,cap3,m3,F,ht3,hUMr,hdis,hXr⟩:=hRS.ex;have hUM:UM w (w.heap.size+4) N2 s F Ws:=hUMr.below hfr.all;have hFlt:∀g∈F,g<wr.heap.size:=fun g hg=>(hUMr.foot g hg).2
   have hFG:∀g∈F,g∉[w.heap.size,w.heap.size+1,w.heap.size+2,wr.heap.size]:=fun g hg hm=>by
    simp only[List.mem_cons,List.not_mem_nil,or_false]at hm;rcases hm with e | e | e | e
    ·subst e;exact(hXr w.heap.size (by simp)).2.2 hg
    ·subst e;exact(hXr (w.heap.size+1) (by simp)).2.2 hg
    ·subst e;exact(hXr (w.heap.size+2) (by simp)).2.2 hg
    ·have:=hFlt g hg;omega
   have honS:Below w.heap.size w Ws:=hRS.on.trans (hfr.all.mono hRS.on.size);have hUM2:=hUM;obtain⟨f,Au,capu,mu,Hu,hcu,hUW,es,eF⟩:=hUM2;have hmu:∀g∈mu.toList,g∈F:=fun g hg=>by rw[eF];exact mem_footU.2 (Or.inl (by simp only[ins.foot,List.mem_cons,List.mem_append];exact Or.inr (Or.inr hg)))
   have hb4F:w.heap.size+4∈F:=by rw[eF];exact mem_footU.2 (Or.inl (by simp[ins.foot]))
   have hlenN:s.1.length≤N2:=hUW.tb.len;have HBelow:Hid (∀W,Fr [w.heap.size,w.heap.size+1,w.heap.size+2,wr.heap.size] Ws W→Below w.heap.size w W):=hid (fun W hF=>honS.trans (hF.below (by simp;omega) honS.size))
   have HROW:Hid (0<s.1.length→∀x,∃(gH oH hc:Nat) (rA:Option Addr) (rc:Nat),noOf s.1 x<s.1.length∧0<(rowF s x).length∧(rowF s x).length≤900000∧∀W,Fr [w.heap.size,w.heap.size+1,w.heap.size+2,wr.heap.size] Ws W→(W.cell? ⟨w.heap.size+4,2,none⟩=some (.slice (some ⟨gH,oH,none⟩) s.1.length hc)∧W.cell? ⟨gH,oH+noOf s.1 x,none⟩=some (.slice rA (rowF s x).length rc)∧UsL W rA (rowF s x))):=hid (fun hz x=>by
    obtain⟨gH,oH,hc,rA,rc,e1,e2,e3,e4,e5,e6,e7,e8⟩:=um_row hUM hz x;have h2:noOf s.1 x<s.2.length:=by rw[hTD.out.len];exact e2
    have er:rowF s x=s.2[noOf s.1 x]:=by unfold rowF;rw[List.getElem?_eq_getElem h2];rfl
    refine⟨gH,oH,hc,rA,rc,e2,by rw[er];exact row_pos hTD.out e2 h2,by omega,fun W hF=>?_⟩;have hblt:∀g∈F,g<Ws.heap.size:=fun g hg=>by have:=hFlt g hg;omega
    have hkc:∀(g i:Nat),g∈F→W.cell? ⟨g,i,none⟩=Ws.cell? ⟨g,i,none⟩:=fun g i hg=>World.cell?_of_block (w:=Ws) (a:=⟨g,i,none⟩) (hF.block g (hblt g hg) (hFG g hg))
    refine⟨(hkc _ _ e6).trans e1,(hkc _ _ e7).trans e3,⟨fun hz2=>?_,fun y hy=>?_⟩⟩
    ·obtain⟨b,off,e,hl,hcc⟩:=e4 hz2
     exact⟨b,off,e,Nat.lt_of_lt_of_le hl hF.size,fun j hj i v hv=>(hkc b _ (e8 b (by rw[e];simp[blk]))).trans (hcc j hj i v hv)⟩
    ·have hm:=hTD.out.ok _ (List.getElem_mem h2) y (by rw[←er];exact hy)
     exact hm.below (HBelow.out W hF))
   obtain⟨i0,hi0,hy0,hy1,hy2⟩:=info_parts info_sy;have Hi:=hid hi0;have Hz0:=hid hy0;have Hz1:=hid hy1;have Hz2:=hid hy2;clear hi0 hy0 hy1 hy2;rw[←hWs.out];refine(wpIn_wide (n:=8)).1 ?_;refine range_put2 (Own:=OwnL [w.heap.size,w.heap.size+1,w.heap.size+2] wr.heap.size) (by omega) (gf:=41) (lb:=#[.pointer (some ⟨wr.heap.size+1,0,none⟩)]) rfl (enters_of Tryz.func41 (by kernel_rfl) rfl)
    (rise_ownU _ (by omega) (wr.heap.size+1) (w.heap.size+4) Au capu mu N2 s.1 Ws hUW.tb htb (by omega)) (Below.refl _ _) (fun _=>rfl) ?own1 ?z (ownL_s (by omega))
    (fun(pre:List {x:List UInt8 // WF x}) W=>IR w Ws wr.heap.size s (valT pre) W)
    (fun cd (pre:List {x:List UInt8 // WF x}) W=>cd=.ret∧IX w Ws wr.heap.size s (valT pre) W)
    (fun(pre:List {x:List UInt8 // WF x}) W W' row (hs:IR w Ws wr.heap.size s (valT pre) W) hg hr=>IR.grown hs hg hr)
    (fun cd (pre:List {x:List UInt8 // WF x}) W W' row (hs:cd=.ret∧IX w Ws wr.heap.size s (valT pre) W) hg hr=>⟨hs.1,IX.grown hs.2 hg hr⟩)
    (IR.start hob hR3s) 13 14 (fun x=>encStr x.1) (fun x=>.int .i64 (noOf s.1 x.1:Nat)) ?assign ?body ?done ?stop
   case own1=>
    intro q hq;rw[ownL_iff hob]at hq;simp only[List.mem_cons,List.not_mem_nil,or_false,blk]at hq;omega
   case z=>
    intro q hq;rw[ownL_iff hob];simp only[List.mem_cons]at hq;rcases hq with rfl | rfl | hq
    ·exact⟨by simp[blk];omega,by omega⟩
    ·have:=hFlt _ hb4F
     exact⟨by simp[blk];omega,by omega⟩
    ·have h1:=hFG q (hmu q hq)
     have h2:=hFlt q (hmu q hq);simp only[List.mem_cons,List.not_mem_nil,or_false,not_or]at h1;exact⟨by simp[blk];omega,by omega⟩
   case assign=>
    intro l2 x W K hK;simp[Act.put]at hK
    gi_wp2
    exact hK
   case body=>
    rintro l2 pre ⟨x,hx⟩ W hi hsW hOl hlt;have hz:0<s.1.length:=by
     have:=inn.rs_len s.1;omega
    obtain⟨gH,oH,hcH,rA,rc,hni,hr0,hr9,hrow⟩:=HROW.out hz x;obtain⟨q1,q2,q3⟩:=hrow W hi.fr;have hi64:((noOf s.1 x:Nat):Int)<(s.1.length:Nat):=by omega
    have KS:=symbol_any HF.out HM.out W ⟨x.toArray⟩ rA rc (rowF s x) q3 hr9 hr0;have hvp:valT (pre++[⟨x,hx⟩])=valT pre++[x]:=valT_snoc pre ⟨x,hx⟩;have hplen:(valT pre).length≤8000:=by
     rw[valT_len];have:=inn.rs_len s.1;omega
    obtain⟨A1,cap1,rows,hbx1,hsl,hacc⟩:=hi.sl;have hrl:rows.length≤8000:=by
     have h1:=congrArg List.length hacc;rw[List.length_map]at h1;have h2:(accF s (valT pre)).length≤(valT pre).length:=by unfold accF;rw[List.length_map];exact List.length_filter_le _ _
     omega
    have HI:=hid hi;have HSL:=hid hsl;have HBX:=hid hbx1;have HACC:=hid hacc;have HP:=hid hvp;have hobx:wr.heap.size<W.heap.size:=hbx1.lt;clear hsl hacc hvp hi HROW hchk HBelow hUM hUMr hFlt hFG hmu hb4F hUW es eF hdis hXr ht3 hRS hR3 honS hTD hR3s q3 hrow;unfold SymQ at KS;rw[show psT (rowF s x) (rowF s x).length=stF s x from rfl,show symC (stF s x)=codeF s x from rfl]at KS;by_cases hcode:codeF s x=0;rotate_left
    ·have K1:Hid (Calls Tryz.prog 16 #[.string ⟨x.toArray⟩,.slice rA (rowF s x).length rc] W (fun e w'=>e=.returned (.tuple #[.agg #[.string ⟨#[]⟩,.string ⟨#[]⟩,.slice none 0 0],.int .i64 (codeF s x)])∧Below W.heap.size W w')):=hid (KS.mono (fun e w' hk=>by
      rcases hk.2 with⟨h0,_⟩ | ⟨_,h0⟩
      ·exact absurd h0 hcode
      ·exact⟨h0,hk.1⟩))
     have HC:=hid hcode;have hcb:(codeF s x != 0)=true:=by simpa using hcode
     clear KS hcode;generalize hcd:codeF s x=cd at *;replace hcd:=hid hcd;generalize (rowF s x).length=rl at *;generalize noOf s.1 x=ni at *;unfold encStr
     gi_wp2_with (refine⟨trivial,?_⟩
                  gi_at_call 16
                  refine(CallsIn.inRound l2 (callsIn_wide.2 K1.out)).mono ?_;rintro e W2 ⟨rfl,b2⟩;have b3:Below W.heap.size W (W2.alloc (.cells #[.string ⟨#[]⟩,.string ⟨#[]⟩,.slice none 0 0] 33)):=b2.alloc b2.size _;have r3:=HI.out.r3.kept (Fr.of_below b3 []) (by simp) (by simp) (by simp);have z0:=r3.b0.cell 0;have z1:=r3.b1.cell 0;have z2:=r3.b2.cell 0;have v0:=r3.b0.free 0;have v1:=r3.b1.free 0;have v2:=r3.b2.free 0;have hset:=hid (r3.set (.slice none 0 0) ⟨x.toArray⟩ cd);have hbb:=hid (HBX.out.kept (Fr.of_below b3 []) (by simp));have hB3:=hid b3;clear b2 b3 r3
                  simp only[List.getElem?_toArray,List.getElem?_cons_zero]at z0 z1 z2)
     have hF:Fr [w.heap.size,w.heap.size+1,w.heap.size+2] W ((((W2.alloc (.cells #[.string ⟨#[]⟩,.string ⟨#[]⟩,.slice none 0 0] 33)).setCell ⟨w.heap.size,0,none⟩ (.slice none 0 0)).setCell ⟨w.heap.size+1,0,none⟩ (.string ⟨x.toArray⟩)).setCell ⟨w.heap.size+2,0,none⟩ (.int .i64 cd)):=(Fr.of_below hB3.out [w.heap.size,w.heap.size+1,w.heap.size+2]).trans hset.out.2 (fun g hg=>Or.inl hg) (fun g hg=>Or.inl hg);refine⟨ko_of HBX.out (hbb.out.kept hset.out.2 (by simp;omega)) hF (fun g hg=>Or.inl hg) (fun g hg=>Or.inl hg) (fun g hg=>?_) (fun g hg=>Nat.lt_of_lt_of_le (HSL.out.sg.lt g hg) hF.size),rfl,⟨valT pre,x,HP.out,HI.out.z,by rw[hcd.out];exact HC.out,by rw[hcd.out];exact hset.out.1⟩,HI.out.fr.trans hF (fun g hg=>Or.inl hg) (fun g hg=>Or.inl ?_)⟩
     ·have:=hF.size
      simp only[List.mem_cons,List.not_mem_nil,or_false]at hg;omega
     ·simp only[List.mem_cons,List.not_mem_nil,or_false]at hg ⊢
      omega
    ·have K0:Hid (Calls Tryz.prog 16 #[.string ⟨x.toArray⟩,.slice rA (rowF s x).length rc] W (fun e w'=>∃B cap,e=.returned (.tuple #[.agg #[.string ⟨x.toArray⟩,.string (stF s x).giver,.slice B (rsS ((stF s x).wanted.map tx)).length cap],.int .i64 0])∧Rd w' B ((rsS ((stF s x).wanted.map tx)).map encStr)∧(∀g∈blk B,W.heap.size≤g∧g<w'.heap.size)∧Below W.heap.size W w')):=hid (KS.mono (fun e w' hk=>by
      rcases hk.2 with⟨_,B,cap,h1,h2,h3⟩ | ⟨h0,_⟩
      ·exact⟨B,cap,h1,h2,h3,hk.1⟩
      ·exact absurd hcode h0))
     have HZ:Hid (∀y∈valT pre++[x],codeF s y=0):=hid (fun y hy=>by
      rcases List.mem_append.1 hy with h | h
      ·exact HI.out.z y h
      ·rw[List.mem_singleton]at h;subst h;exact hcode)
     have hsn:=accF_snoc s (valT pre) x;have hsy:symF s x=⟨x,(stF s x).giver,rsS ((stF s x).wanted.map tx)⟩:=rfl;clear KS hcode;generalize rsS ((stF s x).wanted.map tx)=wl at *;generalize (stF s x).giver=giver at *;generalize (rowF s x).length=rl at *;generalize noOf s.1 x=ni at *;by_cases hg0:giver.size=0
     ·rw[if_pos hg0,List.append_nil]at hsn
      have HSN:=hid hsn;have dE:giver.toList.isEmpty=true:=by rw[emp_isE];exact decide_eq_true hg0
      clear hsn hsy hg0;unfold encStr
      gi_wp2_with (refine⟨trivial,?_⟩
                   gi_at_call 16
                   refine(CallsIn.inRound l2 (callsIn_wide.2 K0.out)).mono ?_;rintro e W2 ⟨B,cap2,rfl,hrd,hfr2,b2⟩;have b3:Below W.heap.size W (W2.alloc (.cells #[.string ⟨x.toArray⟩,.string giver,.slice B wl.length cap2] 33)):=b2.alloc b2.size _;have z1:(W2.alloc (.cells #[.string ⟨x.toArray⟩,.string giver,.slice B wl.length cap2] 33)).cell? ⟨W2.heap.size,1,none⟩=some (.string giver):=(Box.new W2 _ _).cell 1;have hB3:=hid b3
                   clear b2 b3 hrd hfr2)
      have hF:Fr [] W (W2.alloc (.cells #[.string ⟨x.toArray⟩,.string giver,.slice B wl.length cap2] 33)):=Fr.of_below hB3.out [];refine⟨ko_of HBX.out (HBX.out.kept hF (by simp)) hF (by simp) (fun g hg=>Or.inl hg) (fun g hg=>?_) (fun g hg=>Nat.lt_of_lt_of_le (HSL.out.sg.lt g hg) hF.size),?_⟩
      ·have:=hF.size
       simp only[List.mem_cons,List.not_mem_nil,or_false]at hg;omega
      ·show IR w Ws wr.heap.size s (valT (pre++[⟨x,hx⟩])) _
       rw[HP.out];exact⟨HZ.out,⟨A1,cap1,rows,HBX.out.kept hF (by simp),HSL.out.below hB3.out,by rw[HSN.out];exact HACC.out⟩,HI.out.r3.kept hF (by simp) (by simp) (by simp),HI.out.fr.trans hF (fun g hg=>Or.inl hg) (by simp)⟩
     ·rw[if_neg hg0]at hsn
      have HSN:=hid hsn;have dE:giver.toList.isEmpty=false:=by rw[emp_isE];exact decide_eq_false hg0
      have HSY:=hid hsy;clear hsn hsy hg0;obtain⟨rn,hrn⟩:∃rn,Hid (rn=rows.length):=⟨_,hid rfl⟩;rw[←hrn.out]at hrl;unfold encStr
      gi_wp2_with (first
       | (refine⟨trivial,?_⟩
          gi_at_call 16
          refine(CallsIn.inRound l2 (callsIn_wide.2 K0.out)).mono ?_;rintro e W2 ⟨B,cap2,rfl,hrd,hfr2,b2⟩;have b3:Below W.heap.size W (W2.alloc (.cells #[.string ⟨x.toArray⟩,.string giver,.slice B wl.length cap2] 33)):=b2.alloc b2.size _;have BN:=Box.new W2 33 #[.string ⟨x.toArray⟩,.string giver,.slice B wl.length cap2];have s0:=BN.cell 0;have s1:=BN.cell 1;have s2:=BN.cell 2;have cob:=(HBX.out.kept (Fr.of_below b3 []) (by simp)).cell 0;rw[←hrn.out]at cob;have hB3:=hid b3;have HRD:=hid (hrd.alloc (.cells #[.string ⟨x.toArray⟩,.string giver,.slice B wl.length cap2] 33));have HFB:Hid (∀g∈blk B,W.heap.size≤g∧g<(W2.alloc (.cells #[.string ⟨x.toArray⟩,.string giver,.slice B wl.length cap2] 33)).heap.size):=hid (fun g hg=>⟨(hfr2 g hg).1,Nat.lt_of_lt_of_le (hfr2 g hg).2 (by simp)⟩);have HSG:=hid ((HSL.out.below hB3.out).sg.alloc (.cells #[.string ⟨x.toArray⟩,.string giver,.slice B wl.length cap2] 33))
          rw[←hrn.out]at HSG;clear b2 b3 hrd hfr2 BN
          simp only[List.getElem?_toArray,List.getElem?_cons_zero,List.getElem?_cons_succ]at s0 s1 s2 cob)
       | (gi_at_builtin
          refine wpListIn_row (n:=rn) (us:=[.string ⟨x.toArray⟩,.string giver,.slice B wl.length cap2]) rfl (.tmp 69) (.tmp 71) _ rfl HSG.out Tryz.underlying24 Hi.out Hz0.out Hz1.out Hz2.out rfl rfl rfl rfl (three_cells2 _ _ _ _ _ _) (syrow_one ⟨⟨x.toArray⟩,giver,B,cap2,wl⟩) (by omega) (by omega) ?_;intro A3 cap3 w4 hs3 f3 hf3;have had:=hid (sy_add (r:=⟨⟨x.toArray⟩,giver,B,cap2,wl⟩) HI.out HSL.out HBX.out HACC.out hB3.out hsW (by omega) (by omega) hrn.out HRD.out HFB.out hs3 f3 hf3 HZ.out (by rw[HSN.out,HSY.out];rfl));have cob4:=had.out.1.cell 0;have fob4:=had.out.1.free 0;have lob4:=had.out.1.lt;simp only[List.getElem?_toArray,List.getElem?_cons_zero]at cob4
          clear hs3 f3 hf3))
      refine⟨had.out.2.1,?_⟩;show IR w Ws wr.heap.size s (valT (pre++[⟨x,hx⟩])) _;rw[HP.out];exact had.out.2.2
   case done=>
    rintro D xs W hD hSx hi hK;obtain⟨A1,cap1,rows,hbx1,hsl,hacc⟩:=hi.sl;have hvx:valT xs=rsS s.1:=hSx;have cb:W.cell? ⟨wr.heap.size,0,none⟩=some (.slice A1 rows.length cap1):=hbx1.cell 0;have z0:W.cell? ⟨w.heap.size,0,none⟩=some (.slice none 0 0):=hi.r3.b0.cell 0;have z1:W.cell? ⟨w.heap.size+1,0,none⟩=some (.string ⟨#[]⟩):=hi.r3.b1.cell 0;have z2:W.cell? ⟨w.heap.size+2,0,none⟩=some (.int .i64 0):=hi.r3.b2.cell 0;have v0:=hi.r3.b0.free 0;have v1:=hi.r3.b1.free 0;have v2:=hi.r3.b2.free 0;have hlD:D<W.heap.size:=(Array.getElem?_eq_some_iff.1 hK).1;obtain⟨p1,p2⟩:=hi.r3.set (.slice A1 rows.length cap1) ⟨#[]⟩ 0;have hK2:=(p2.block D hlD (by simp;omega)).trans hK;have hbel:Below w.heap.size w W:=HBelow.out W hi.fr
    have hQf:Hid (∀W',SLv 33 Ws rows A1 cap1 W'→Below w.heap.size w W'→Q (.returned (.tuple #[.slice A1 rows.length cap1,.string ⟨#[]⟩,.int .i64 0])) W'):=hid (fun W' hsv hbv=>by
     have e:=acc_done hTD.out hchk.out h8L.out (by rw[←hvx];exact hi.z);rw[hQ.out,e]
     exact resP_of (R:=(accF s (rsS s.1),[],0)) (hsv.base (by have:=honS.size;omega)) (by rw[hacc,hvx]) hbv)
    have hsl2:=hsl.kept p2 (fun g hg hm=>by have:=hsl.ge g hg;simp only[List.mem_cons,List.not_mem_nil,or_false]at hm;omega) (fun r hr g hg hm=>by have:=(hsl.rg r hr g hg).1;simp only[List.mem_cons,List.not_mem_nil,or_false]at hm;omega);have hbel2:=hbel.trans (p2.below (by simp) hbel.size);have HP1:=hid p1;have HS2:=hid hsl2;have HB2:=hid hbel2;have HK2:=hid hK2;clear hi hbx1 hsl hacc hvx p1 p2 hsl2 hbel hbel2 hK2 HROW hUW hSx;go_wp2_with fail;refine⟨by simp,.inl ⟨_,_,rfl,run_takeDeferred HK2.out,?_⟩⟩;have hg:=grownBy_putObj' (((W.setCell ⟨w.heap.size,0,none⟩ (.slice A1 rows.length cap1)).setCell ⟨w.heap.size+1,0,none⟩ (.string ⟨#[]⟩)).setCell ⟨w.heap.size+2,0,none⟩ (.int .i64 0)) D (.deferred none);have hrr:∀r,some D=some r→∃o:Obj,(((W.setCell ⟨w.heap.size,0,none⟩ (.slice A1 rows.length cap1)).setCell ⟨w.heap.size+1,0,none⟩ (.string ⟨#[]⟩)).setCell ⟨w.heap.size+2,0,none⟩ (.int .i64 0)).heap[r]? = some o∧o.isCells=false:=fun r e=>by cases e;exact⟨_,HK2.out,rfl⟩
    have r4:=r3_grown HP1.out hg hrr;refine⟨_,results_cells3 rfl _ _ _ _ _ _ _ _ rfl rfl rfl agg24 agg9 agg25 (r4.b0.cell 0) (r4.b1.cell 0) (r4.b2.cell 0),?_⟩;exact hQf.out _ (HS2.out.grown hg hrr) (HB2.out.grown hg HB2.out.size (fun q e=>by cases e;omega))
   case stop=>
    rintro D cd pre W hD hpre ⟨rfl,hi⟩ hK;obtain⟨p,x,e1,e2,e3,r3⟩:=hi.ex;have hbel:Below w.heap.size w W:=HBelow.out W hi.fr
    have hQf:Hid (∀W',Below w.heap.size w W'→Q (.returned (.tuple #[.slice none 0 0,.string ⟨x.toArray⟩,.int .i64 (codeF s x)])) W'):=hid (fun W' hbv=>by
     have hp2:valT pre <+: rsS s.1:=hpre;rw[e1]at hp2;have e:=acc_stop hTD.out hchk.out h8L.out hp2 e2 e3;rw[hQ.out,e]
     exact resP_nil (R:=(([]:List Sym),x,codeF s x)) rfl hbv)
    have HR:=hid r3;have HB:=hid hbel;clear hi hpre e1 e2 e3 r3 hbel HROW hUW
    gi_wp2
    refine⟨by simp,.inl ⟨_,_,rfl,run_takeDeferred hK,?_⟩⟩;have hg:=grownBy_putObj' W D (.deferred none);have r4:=r3_grown HR.out hg (fun r e=>by cases e;exact⟨_,hK,rfl⟩);refine⟨_,results_cells3 rfl _ _ _ _ _ _ _ _ rfl rfl rfl agg24 agg9 agg25 (r4.b0.cell 0) (r4.b1.cell 0) (r4.b2.cell 0),?_⟩;exact hQf.out _ (HB.out.grown hg HB.out.size (fun q e=>by cases e;omega))
end ym
namespace ym
open RowKit Go.Sort Shelf mem sy rng
open re (tx SU MU SumM)
open nm (Tab tab_below)
theorem resolve_any(hf:HeldF)(hm:HeldM)(w:World)(A:Option Addr)(c:Nat)(l:List MU)(h:SusM w A l)(htab:Tab w)(hbig:l.length≤1000000) :
 Calls Tryz.prog 6 #[.slice A l.length c] w (ResP 33 w (resP (l.map MU.su))):=by
 by_cases h8:l.length≤8
 ·exact resolve_some hf hm w A c l h htab h8
 ·exact resolve_full w A c l (by omega) (by unfold maxLen;omega)
end ym
namespace ym
open RowKit Go.Sort Shelf mem sy rng
open re (tx SU MU SumM)
open sf (SumK enc_tx)
open nm (Tab tab_below)
attribute [local go_sem] Oper.semAt_some
def mN(h g:Nat):MU:=⟨⟨#[110]⟩,none,0,[],some ⟨h,0,none⟩,1,[wNm],none,0,[],⟨none,0,[],some ⟨g,0,none⟩,1,[wFn],none,0,[]⟩⟩
def mM(h g:Nat):MU:=⟨⟨#[109]⟩,some ⟨h,0,none⟩,1,[wNm],none,0,[],none,0,[],⟨none,0,[],some ⟨g,0,none⟩,1,[wFn],none,0,[]⟩⟩
theorem tbl_none{w:World}{A:Option Addr}{sz:Nat}:Tbl w A sz []:=fun h=>absurd h (Nat.not_lt_zero _)
theorem rd_none{w:World}{A:Option Addr}:Rd w A []:=fun h=>absurd h (Nat.not_lt_zero _)
theorem tbl_one{w:World}{g sz:Nat}{t:TypeId}{row:List Value}(h:Box w g t row.toArray):Tbl w (some ⟨g,0,none⟩) sz [row]:=fun _=>by
 refine⟨g,0,rfl,h.lt,fun j hj i v hv=>?_⟩;obtain rfl:j=0:=by simpa using hj
 have:=h.cell i;rw[List.getElem?_toArray]at this;rw[show 0+0 * sz+i=i by omega,this];exact hv
theorem rd_one{w:World}{g:Nat}{t:TypeId}{x:Value}(h:Box w g t #[x]):Rd w (some ⟨g,0,none⟩) [x]:=fun _=>by
 refine⟨g,0,rfl,h.lt,fun j hj=>?_⟩;obtain rfl:j=0:=by simpa using hj
 exact h.cell 0
theorem tbl_two{w:World}{g sz:Nat}{t:TypeId}{r1 r2:List Value}(h1:r1.length=sz)(h:Box w g t (r1++r2).toArray):Tbl w (some ⟨g,0,none⟩) sz [r1,r2]:=fun _=>by
 refine⟨g,0,rfl,h.lt,fun j hj i v hv=>?_⟩;have hj2:j<2:=by simpa using hj
 rcases j with _ | _ | j
 ·have:=h.cell i
  rw[List.getElem?_toArray]at this;have hi:i<r1.length:=(List.getElem?_eq_some_iff.1 hv).1;rw[show 0+0 * sz+i=i by omega,this,List.getElem?_append_left hi];exact hv
 ·have:=h.cell (sz+i)
  rw[List.getElem?_toArray]at this;rw[show 0+(0+1) * sz+i=sz+i by omega,this,List.getElem?_append_right (by omega),show sz+i-r1.length=i by omega];exact hv
 ·omega
structure W2(W:World)(h g:Nat):Prop where
 b0:Box W h 9 #[.string wNm]
 b1:Box W g 72 #[.string wNm,.string ⟨#[112]⟩,.string ⟨#[118]⟩]
theorem W2.on{W W':World}{h g:Nat}(x:W2 W h g)(hb:Below W.heap.size W W'):W2 W' h g:=⟨x.b0.kept (Fr.of_below hb []) (by simp),x.b1.kept (Fr.of_below hb []) (by simp)⟩
theorem wsys{W:World}{g:Nat}(h:Box W g 72 #[.string wNm,.string ⟨#[112]⟩,.string ⟨#[118]⟩]):SysM W ⟨none,0,[],some ⟨g,0,none⟩,1,[wFn],none,0,[]⟩ where
 o:=tbl_none
 f:=tbl_one h
 c:=tbl_none
 ok x hx:=absurd hx (by simp)
 fk x hx:=by
  obtain rfl:x=wFn:=by simpa using hx
  exact⟨by decide,by decide,by decide⟩
 ck x hx:=absurd hx (by simp)
 ol:=show 0≤maxLen by decide
 fl:=show 1≤maxLen by decide
 cl:=show 0≤maxLen by decide
theorem mN_ok{W:World}{h g:Nat}(x:W2 W h g):SumK W (mN h g):=
 ⟨⟨rd_none,rd_one x.b0,rd_none,wsys x.b1⟩,by show 1≤maxLen;decide,by show 0≤1000000;decide,by show 1≤900000;decide,by show 0≤1000000;decide,by show 0+1≤900000;decide,(fun s hs=>by cases hs),(fun s hs=>by rw[show s=wNm by simpa[mN] using hs];decide),(fun s hs=>by cases hs)⟩
theorem mM_ok{W:World}{h g:Nat}(x:W2 W h g):SumK W (mM h g):=
 ⟨⟨rd_one x.b0,rd_none,rd_none,wsys x.b1⟩,by show 1≤maxLen;decide,by show 1≤1000000;decide,by show 0≤900000;decide,by show 0≤1000000;decide,by show 0+1≤900000;decide,(fun s hs=>by rw[show s=wNm by simpa[mM] using hs];decide),(fun s hs=>by cases hs),(fun s hs=>by cases hs)⟩
def WP2(W:World)(e:Ending)(w':World):Prop:=∃(g off cap:Nat) (B:Option Addr) (c2:Nat),e=.returned (.tuple #[.slice (some ⟨g,off,none⟩) 1 cap,.string ⟨#[]⟩,.int .i64 0])∧(w'.cell? ⟨g,off,none⟩=some (.string ⟨#[102,40,41]⟩)∧w'.cell? ⟨g,off+1,none⟩=some (.string ⟨#[109]⟩)∧w'.cell? ⟨g,off+2,none⟩=some (.slice B 1 c2))∧g<w'.heap.size∧Rd w' B ([[110]].map encStr)∧Below W.heap.size W w'
theorem w_call2(hf:HeldF)(hm:HeldM){W:World}{a1 g1 a2 g2 b:Nat}(x:W2 W a1 g1)(y:W2 W a2 g2)(htab:Tab W)(hb:Box W b 43 #[.string ⟨#[110]⟩,.slice none 0 0,.slice (some ⟨a1,0,none⟩) 1 1,.slice none 0 0,.slice none 0 0,.slice (some ⟨g1,0,none⟩) 1 1,.slice none 0 0,.string ⟨#[109]⟩,.slice (some ⟨a2,0,none⟩) 1 1,.slice none 0 0,.slice none 0 0,.slice none 0 0,.slice (some ⟨g2,0,none⟩) 1 1,.slice none 0 0]) :
 Calls Tryz.prog 6 #[.slice (some ⟨b,0,none⟩) 2 2] W (WP2 W):=by
 have hs:SusM W (some ⟨b,0,none⟩) [mN a1 g1,mM a2 g2]:=⟨tbl_two (r1:=rowS (mN a1 g1)) (r2:=rowS (mM a2 g2)) rfl hb,fun u hu=>by
  simp only[List.mem_cons,List.not_mem_nil,or_false]at hu;rcases hu with rfl | rfl
  ·exact mN_ok x
  ·exact mM_ok y,fun u hu=>by
  simp only[List.mem_cons,List.not_mem_nil,or_false]at hu;rcases hu with rfl | rfl
  ·show 0+1≤1000;decide
  ·show 0+1≤1000;decide⟩
 refine(resolve_any hf hm W _ 2 _ hs htab (by show 2≤1000000;decide)).mono ?_;rintro e w' ⟨A,cap,rows,rfl,hr,ht,hw,hbl⟩;rw[show resP ([mN a1 g1,mM a2 g2].map MU.su)=resP [uN,uM] from rfl,w_res2]at *;dsimp only at hr;obtain⟨r,rfl⟩:∃r,rows=[r]:=by
  have h1:=congrArg List.length hr;rw[List.length_map]at h1
  match rows,h1 with
  | [r],_=>exact⟨r,rfl⟩
 obtain⟨nm,gv,B,c2,wl⟩:=r;injection hr with h1 _;injection h1 with h1 h2 h3;dsimp only at h1 h2 h3;subst h2 h3;obtain⟨g,off,rfl,hl,hc⟩:=ht (by simp);have hn:Value.string nm=.string ⟨#[102,40,41]⟩:=by
  have e1:=enc_tx nm;have h1b:tx nm=[102,40,41]:=h1;rw[h1b]at e1;exact e1.symm
 have c0:=hc 0 (by simp) 0 (.string nm) rfl;have c1:=hc 0 (by simp) 1 _ rfl;have c3:=hc 0 (by simp) 2 _ rfl;rw[show off+0 * 3+0=off by omega,hn]at c0;rw[show off+0 * 3+1=off+1 by omega]at c1;rw[show off+0 * 3+2=off+2 by omega]at c3;exact⟨g,off,cap,B,c2,rfl,⟨c0,c1,c3⟩,hl,hw ⟨nm,⟨#[109]⟩,B,c2,[[110]]⟩ (by simp),hbl⟩
def WP1(W:World)(e:Ending)(w':World):Prop:=∃A cap,e=.returned (.tuple #[.slice A 0 cap,.string ⟨#[102,40,41]⟩,.int .i64 7])∧Below W.heap.size W w'
theorem w_call1(hf:HeldF)(hm:HeldM){W:World}{a1 g1 b:Nat}(x:W2 W a1 g1)(htab:Tab W)(hb:Box W b 43 #[.string ⟨#[110]⟩,.slice none 0 0,.slice (some ⟨a1,0,none⟩) 1 1,.slice none 0 0,.slice none 0 0,.slice (some ⟨g1,0,none⟩) 1 1,.slice none 0 0]) :
 Calls Tryz.prog 6 #[.slice (some ⟨b,0,none⟩) 1 1] W (WP1 W):=by
 have hs:SusM W (some ⟨b,0,none⟩) [mN a1 g1]:=⟨tbl_one hb,fun u hu=>by
  simp only[List.mem_cons,List.not_mem_nil,or_false]at hu;subst hu;exact mN_ok x,fun u hu=>by
  simp only[List.mem_cons,List.not_mem_nil,or_false]at hu;subst hu
  show 0+1≤1000;decide⟩
 refine(resolve_any hf hm W _ 1 _ hs htab (by show 1≤1000000;decide)).mono ?_;rintro e w' ⟨A,cap,rows,rfl,hr,ht,hw,hbl⟩;rw[show resP ([mN a1 g1].map MU.su)=resP [uN] from rfl,w_res1]at *;dsimp only at hr;obtain rfl:rows=[]:=List.map_eq_nil_iff.1 hr;exact⟨A,cap,rfl,hbl⟩
end ym
set_option maxHeartbeats 8000000
namespace ym
open RowKit Go.Sort Shelf mem sy rng
open nm (Tab tab_below)
attribute [local go_sem] Oper.semAt_some
def WKP(w:World)(e:Ending)(w':World):Prop:=e=.returned (.bool true)∧Below w.heap.size w w'
theorem cell_keep{F:List Nat}{w w':World}{g i:Nat}{v:Value}(h:w.cell? ⟨g,i,none⟩=some v)(f:Fr F w w')(hl:g<w.heap.size)(hn:g∉F):w'.cell? ⟨g,i,none⟩=some v:=
 (World.cell?_of_block (w:=w) (a:=⟨g,i,none⟩) (f.block g hl hn)).trans h
theorem worksY_any(hf:HeldF)(hm:HeldM)(w:World)(htab:Tab w):Calls Tryz.prog 9 #[] w (WKP w):=by
 have HF:=hid hf;have HM:=hid hm;have HT:Hid (∀w2,Below w.heap.size w w2→Tab w2):=hid (fun w2 b=>tab_below htab b);have X0:=hid (Box.new w 9 #[.string ⟨#[102,40,41]⟩]);have B0:=hid (((Fr.refl [] w).alloc (.cells #[.string ⟨#[102,40,41]⟩] 9)).all);clear htab hf hm;unfold WKP;go_enter Tryz.func9,Tryz.ntmps9;go_wp2_with fail;generalize hw1:w.alloc (.cells #[.string ⟨#[102,40,41]⟩] 9)=w1 at *;clear hw1;refine(sys_any w1 ⟨#[102,40,41]⟩).mono ?_;rintro e w2 ⟨g1,rfl,hb1,b2⟩;have Y2:Hid (W2 w2 w.heap.size g1):=hid ⟨X0.out.kept (Fr.of_below b2 []) (by simp),hb1⟩;have B2:=hid (B0.out.trans (b2.mono B0.out.size));clear hb1 b2 X0 B0;have X3:=hid (Box.new w2 9 #[.string ⟨#[102,40,41]⟩]);have B3:=hid (((Fr.refl [] w2).alloc (.cells #[.string ⟨#[102,40,41]⟩] 9)).all);go_wp2_with fail;generalize hw3:w2.alloc (.cells #[.string ⟨#[102,40,41]⟩] 9)=w3 at *;clear hw3;refine(sys_any w3 ⟨#[102,40,41]⟩).mono ?_
 rintro e w4 ⟨g2,rfl,hb1,b4⟩;have B34:=hid (B3.out.trans (b4.mono B3.out.size));have Y4:Hid (W2 w4 w2.heap.size g2):=hid ⟨X3.out.kept (Fr.of_below b4 []) (by simp),hb1⟩;have Z4:=hid (Y2.out.on B34.out);have B4:=hid (B2.out.trans (B34.out.mono B2.out.size));clear hb1 b4 X3 B3 B34 Y2 B2;obtain⟨w5,hw5⟩:∃w5,Hid (w5=w4.alloc (.cells #[.string ⟨#[110]⟩,.slice none 0 0,.slice (some ⟨w.heap.size,0,none⟩) 1 1,.slice none 0 0,.slice none 0 0,.slice (some ⟨g1,0,none⟩) 1 1,.slice none 0 0,.string ⟨#[109]⟩,.slice (some ⟨w2.heap.size,0,none⟩) 1 1,.slice none 0 0,.slice none 0 0,.slice none 0 0,.slice (some ⟨g2,0,none⟩) 1 1,.slice none 0 0] 43)):=⟨_,hid rfl⟩;have b45:Below w4.heap.size w4 w5:=by rw[hw5.out];exact((Fr.refl [] w4).alloc _).all
 have K2:Hid (Calls Tryz.prog 6 #[.slice (some ⟨w4.heap.size,0,none⟩) 2 2] w5 (WP2 w5)):=hid (w_call2 HF.out HM.out (Z4.out.on b45) (Y4.out.on b45) (HT.out _ (B4.out.trans (b45.mono B4.out.size))) (by rw[hw5.out];exact Box.new w4 _ _));have B5:=hid (B4.out.trans (b45.mono B4.out.size));clear b45 Z4 Y4 B4;unfold WP2 at K2;go_wp2_with fail;rw[←hw5.out];clear hw5;refine K2.out.mono ?_;rintro e w6 ⟨g,off,cap,B,c2,rfl,⟨c0,c1,c3⟩,hg,hrd,b6⟩;have C6:=hid c0;have C7:=hid c1;have C8:=hid c3;have R6:=hid hrd;have G6:=hid hg;have B6:=hid (B5.out.trans (b6.mono B5.out.size));clear c0 c1 c3 hrd b6 K2 B5 hg;have X7:=hid (Box.new w6 9 #[.string ⟨#[102,40,41]⟩]);have B7:=hid (((Fr.refl [] w6).alloc (.cells #[.string ⟨#[102,40,41]⟩] 9)).all);go_wp2_with fail;generalize hw7:w6.alloc (.cells #[.string ⟨#[102,40,41]⟩] 9)=w7 at *;clear hw7;refine(sys_any w7 ⟨#[102,40,41]⟩).mono ?_;rintro e w8 ⟨g3,rfl,hb1,b8⟩
 have B68:=hid (B7.out.trans (b8.mono B7.out.size));have Y8:Hid (W2 w8 w6.heap.size g3):=hid ⟨X7.out.kept (Fr.of_below b8 []) (by simp),hb1⟩;clear hb1 b8 X7 B7;obtain⟨w9,hw9⟩:∃w9,Hid (w9=w8.alloc (.cells #[.string ⟨#[110]⟩,.slice none 0 0,.slice (some ⟨w6.heap.size,0,none⟩) 1 1,.slice none 0 0,.slice none 0 0,.slice (some ⟨g3,0,none⟩) 1 1,.slice none 0 0] 43)):=⟨_,hid rfl⟩;have b89:Below w8.heap.size w8 w9:=by rw[hw9.out];exact((Fr.refl [] w8).alloc _).all
 have B69:=hid (B68.out.trans (b89.mono B68.out.size));have K1:Hid (Calls Tryz.prog 6 #[.slice (some ⟨w8.heap.size,0,none⟩) 1 1] w9 (WP1 w9)):=hid (w_call1 HF.out HM.out (Y8.out.on b89) (HT.out _ (B6.out.trans (B69.out.mono B6.out.size))) (by rw[hw9.out];exact Box.new w8 _ _));clear b89 Y8 B68;unfold WP1 at K1;go_wp2_with fail;rw[←hw9.out];clear hw9;refine K1.out.mono ?_;rintro e w10 ⟨A,cap2,rfl,b10⟩;have Bx:=hid (B69.out.trans (b10.mono B69.out.size));have F10:=Fr.of_below Bx.out [];have c0:w10.cell? ⟨g,off,none⟩=some (.string ⟨#[102,40,41]⟩):=cell_keep C6.out F10 G6.out (by simp);have c1:w10.cell? ⟨g,off+1,none⟩=some (.string ⟨#[109]⟩):=cell_keep C7.out F10 G6.out (by simp);have c3:w10.cell? ⟨g,off+2,none⟩=some (.slice B 1 c2):=cell_keep C8.out F10 G6.out (by simp);have r10:=hid (R6.out.below Bx.out);have B10:=hid (B6.out.trans (Bx.out.mono B6.out.size));clear F10 b10 Bx B69 K1 C6 C7 C8 R6 G6 B6 HF HM HT
 obtain⟨w11,hw11⟩:∃w11,Hid (w11=w10.alloc (.cells #[.string ⟨#[110]⟩] 9)):=⟨_,hid rfl⟩;have bb:Below w10.heap.size w10 w11:=by rw[hw11.out];exact((Fr.refl [] w10).alloc _).all
 have R2:Rd w11 (some ⟨w10.heap.size,0,none⟩) ([[110]].map encStr):=by rw[hw11.out];exact rd_one (Box.new w10 9 #[.string ⟨#[110]⟩])
 have KS:=hid (inn.same_any w11 B (some ⟨w10.heap.size,0,none⟩) c2 1 [[110]] (r10.out.below bb) R2 (by decide));have B11:=hid (B10.out.trans (bb.mono B10.out.size));clear r10 bb R2 B10;go_wp2_with fail;rw[←hw11.out];clear hw11 c0 c1 c3;refine KS.out.mono ?_;rintro e w12 ⟨rfl,b12⟩;have B12:=hid (B11.out.trans (b12.mono B11.out.size));clear b12 KS B11;go_wp2_with fail;go_ret;exact⟨rfl,B12.out⟩
end ym
namespace sf
open RowKit Go.Sort mem sy inn
theorem ris_bad{T:List (List UInt8)}{j:Nat}(hj:j+1<T.length)(h:¬T[j]<T[j+1]):risB T=false:=by
 rcases hr:risB T with _ | _
 ·rfl
 ·exact absurd ((ris_at T).2 hr j hj) h
theorem rises_any(w:World)(A:Option Addr)(c:Nat)(T:List (List UInt8))(h:Rd w A (T.map encStr))(hm:T.length≤maxLen) :
 Calls Tryz.prog 48 #[.slice A T.length c] w (BPost (risB T) w):=by
 have HR:Hid (∀w2,Below w.heap.size w w2→Rd w2 A (T.map encStr)):=hid (fun w2 b=>h.below b);unfold maxLen at hm;clear h;obtain⟨n,hN⟩:∃n,Hid (n=T.length):=⟨_,hid rfl⟩;obtain⟨V,hV⟩:∃V,Hid (V=risB T):=⟨_,hid rfl⟩;rw[←hN.out]at hm ⊢;rw[←hV.out];unfold BPost;go_enter Tryz.func48,Tryz.ntmps48;go_wp2_with fail;go_loopw [3] (fun i wr=>∃k:Nat,i=.int .i64 (k+1:Nat)∧(k+1≤n∨k=0)∧Hid (∀j (h:j+1<T.length),j<k→T[j]<T[j+1])∧Hid (Below w.heap.size w wr)) (fun i _=>n+1-(intOf i).toNat)
 case atStart=>exact⟨0,rfl,by omega,hid (fun j hj hk=>by omega),hid (Below.refl _ _)⟩
 case round=>
  obtain⟨k,rfl,hk1,hG,hb⟩:=hrel
  rename World=>wr
  by_cases hk0:k+1<n
  ·have e1:decide (((k+1:Nat):Int)<(n:Int))=true:=decide_eq_true (by omega)
   have hjx:k+1<T.length:=by rw[←hN.out];exact hk0
   obtain⟨g,off,rfl,hgl,hc⟩:=HR.out wr hb.out (by rw[List.length_map];omega);have c1:=hc (k+1) (by rw[List.length_map];exact hjx);have c2:=hc k (by rw[List.length_map];omega);rw[List.getElem_map]at c1 c2
   have hGj:Hid (T[k]<T[k+1]→∀j (h:j+1<T.length),j<k+1→T[j]<T[j+1]):=hid (fun hn i hi hk=>by
    by_cases e:i=k
    ·subst e;exact hn
    ·exact hG.out i hi (by omega))
   have hBad:Hid (¬T[k]<T[k+1]→V=false):=hid (fun h=>by rw[hV.out];exact ris_bad hjx h);have hw1:wrap64 (((k+1:Nat):Int)-1)=(k:Int):=by unfold wrap64;omega
   have hdec:=hid (po.bytesLess_dec T[k+1] T[k])
   have hcase:Hid ((T[k]<T[k+1]∧¬T[k+1]<T[k]∧¬T[k+1] = T[k])∨(¬T[k]<T[k+1]∧T[k+1]<T[k])∨(¬T[k]<T[k+1]∧¬T[k+1]<T[k]∧T[k+1] = T[k])):=hid (by
    rcases ordS.tot T[k] T[k+1] with h | h | h
    ·exact Or.inl ⟨h,fun h2=>ordS.irr _ (ordS.tr _ _ _ h h2),fun h2=>ordS.irr T[k] (by rw[h2]at h;exact h)⟩
    ·exact Or.inr (Or.inr ⟨by rw[h];exact ordS.irr _,by rw[h];exact ordS.irr _,h.symm⟩)
    ·exact Or.inr (Or.inl ⟨fun h2=>ordS.irr _ (ordS.tr _ _ _ h h2),h⟩))
   clear hc hgl hG;unfold encStr at c1 c2;rcases hcase.out with⟨h1,h2,h3⟩ | ⟨h1,h2⟩ | ⟨h1,h2,h3⟩
   ·have hv:=hid (hGj.out h1)
    have a1:Op.bytesLess T[k+1] T[k] = false:=hdec.out.trans (decide_eq_false h2);have a2:(T[k+1]==T[k])=false:=by simpa using h3
    clear hGj hBad hdec hcase h1 h2 h3;generalize T[k+1] = y1 at c1 a1 a2;generalize T[k] = y2 at c2 a1 a2;go_wp2_with fail;go_quiet (fail);have hb2:=hid (below_drewQ hb.out hb.out.size nq);go_wp2_with fail;go_roundw
    case rel=>exact⟨k+1,by first | rfl | go_num,by omega,hv,hb2⟩
    case measure=>simp[intOf];omega
   ·have hv:=hid (hBad.out h1)
    have a1:Op.bytesLess T[k+1] T[k] = true:=hdec.out.trans (decide_eq_true h2);clear hGj hBad hdec hcase h1 h2;generalize T[k+1] = y1 at *;generalize T[k] = y2 at *;go_wp2_with fail;go_quiet (fail);have hb2:=hid (below_drewQ hb.out hb.out.size nq);go_wp2_with fail;go_ret;exact⟨by rw[hv.out];rfl,hb2.out⟩
   ·have hv:=hid (hBad.out h1)
    have a1:Op.bytesLess T[k+1] T[k] = false:=hdec.out.trans (decide_eq_false h2);have a2:(T[k+1]==T[k])=true:=by simpa using h3
    clear hGj hBad hdec hcase h1 h2 h3;generalize T[k+1] = y1 at *;generalize T[k] = y2 at *;go_wp2_with fail;go_quiet (fail);have hb2:=hid (below_drewQ hb.out hb.out.size nq);go_wp2_with fail;go_ret;exact⟨by rw[hv.out];rfl,hb2.out⟩
  ·have e1:decide (((k+1:Nat):Int)<(n:Int))=false:=decide_eq_false (by omega)
   have hS:Hid (V=true):=hid (by
    rw[hV.out,←ris_at];intro j hj;refine hG.out j hj ?_;have:=hN.out
    omega)
   go_wp2_with fail;go_ret;exact⟨by rw[hS.out];rfl,hb.out⟩
end sf
namespace ym
open RowKit Go.Sort Shelf mem
attribute [local go_sem] Oper.semAt_some
theorem box_cells(w:World)(t:TypeId)(xs:List Value):∀(j:Nat) (v:Value),xs[j]? = some v→(w.alloc (.cells xs.toArray t)).cell? ((⟨w.heap.size,0,none⟩:Addr).add j)=some v:=by
 intro j v h;have e1:(⟨w.heap.size,0,none⟩:Addr).add j=⟨w.heap.size,j,none⟩:=by unfold Addr.add;split <;> simp_all
 rw[e1,(Box.new w t xs.toArray).cell j]
 simpa using h
end ym
end Go.Proofs.YtlkboeajkgbnaaaGreatDoor
