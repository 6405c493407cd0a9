import Derived.WalkSpells
import Derived.Test.YtdmmkjijgoiecaaGreatDoorY31
set_option linter.all false
set_option maxHeartbeats 4000000
namespace Go.Proofs.YtdmmkjijgoiecaaGreatDoor
open Lib(hid)
set_option maxRecDepth 100000
namespace inn
open RowKit mem
def WF(x:Int):Prop:=(Lit.int .i64 x).wf=true
theorem nW{w:World}{e:TypeId}{A:Option Addr}{cap mb n:Nat}{xs:List Value}{k:TypeId}{D:DataW Unit}{P:Program}{R:Value→Option (DataW Unit×List MemPlace)}(h:Seg w e A cap xs)(Y:w.ownsMap P k R mb n D):mb∉blk A:=by
 intro J;obtain⟨es,clock,hb,_⟩:=Y;cases A with
 | none=>cases J
 | some a=>
  simp only[blk,aD]at J;subst J;obtain⟨_,a0,hc,_⟩:=h.2.2.2 a rfl;rw[hc]at hb;cases hb
theorem aDF{n:Nat}(h:n≤1000000):WF (n:Nat):=by
 unfold WF Lit.wf;simp[IntKind.min,IntKind.max,IntKind.signed,IntKind.bits];omega
open RowKit Shelf Go.Sort mem
end inn
namespace ins
open RowKit Shelf mem inn
def WF(x:List UInt8):Prop:=x.length≤maxLen
theorem aE9{x:List UInt8}(J:WF x):keyOf Tryz.prog 9 (encStr x)=some (.string x):=WideMaps.keyOf_string_mk (s:=⟨x.toArray⟩) Tryz.underlying9 (by simpa[WF,ByteArray.size] using J)
def kL(xs:List (List UInt8)):List Value:=xs.map (encStr)
theorem aHS(xs:List (List UInt8)):(kL xs).length=xs.length:=by simp[kL]
def vO(xs:List (List UInt8))(x:List UInt8):Nat:=if x∈xs then xs.idxOf x else 0
def Reads(D:DataW Unit)(xs:List (List UInt8)):Prop:=∀x,WF x→Maps.has D (.string x)=decide (x∈xs)∧D.atKey (.string x) (.lit (.int .i64 0))=.lit (.int .i64 (vO xs x:Nat))
def gK(w:World)(m:Option Nat)(N:Nat)(xs:List (List UInt8)):Prop:=
 (m=none∧xs=[])∨∃b D,m=some b∧w.ownsMap (H:=Unit) Tryz.prog 9 (plainElem Tryz.prog 3) b N D∧Reads D xs
structure Tb(w:World)(b:Nat)(A:Option Addr)(cap:Nat)(m:Option Nat)(N:Nat)(xs:List (List UInt8)):Prop where
 box:bV w b 112 #[.map m,.slice A xs.length cap]
 seg:Seg w 9 A cap (kL xs)
 set:gK w m N xs
 nod:xs.Nodup
 wf:∀x∈xs,WF x
 len:xs.length≤N
def kV(b:Nat)(A:Option Addr)(m:Option Nat):List Nat:=b :: (blk A++m.toList)
theorem gK.lt{w:World}{m:Option Nat}{N:Nat}{xs:List (List UInt8)}(h:gK w m N xs):∀g∈m.toList,g<w.heap.size:=by
 intro g J;rcases h with⟨rfl,_⟩ | ⟨b,D,rfl,Y,_⟩
 ·simp at J
 ·simp at J;subst J;exact Y.lt
theorem gK.kept{F:List Nat}{w w':World}{m:Option Nat}{N:Nat}{xs:List (List UInt8)}(h:gK w m N xs)(hf:Fr F w w')(hd:∀g∈m.toList,g∉F):gK w' m N xs:=by
 rcases h with⟨rfl,h⟩ | ⟨b,D,rfl,J,h⟩
 ·exact Or.inl ⟨rfl,h⟩
 ·right
  obtain⟨es,clock,hb,r⟩:=J;exact⟨b,D,rfl,⟨es,clock,(hf.block b (bB.1 hb).1 (hd b (by simp))).trans hb,r⟩,h⟩
theorem Tb.lt{w:World}{b:Nat}{A:Option Addr}{cap:Nat}{m:Option Nat}{N:Nat}{xs:List (List UInt8)}(h:Tb w b A cap m N xs):∀g∈kV b A m,g<w.heap.size:=by
 intro g J;simp only[kV,aM,List.mem_append]at J;rcases J with rfl | J | J
 ·exact h.box.lt
 ·exact h.seg.lt g J
 ·exact h.set.lt g J
theorem Tb.kept{F:List Nat}{w w':World}{b:Nat}{A:Option Addr}{cap:Nat}{m:Option Nat}{N:Nat}{xs:List (List UInt8)}(h:Tb w b A cap m N xs)(hf:Fr F w w')(hd:∀g∈kV b A m,g∉F):Tb w' b A cap m N xs:=
 ⟨h.box.kept hf (hd b (by simp[kV])),h.seg.kept hf (fun g J=>hd g (by simp[kV,J])),h.set.kept hf (fun g J=>hd g (by simp only[kV,aM,List.mem_append];exact Or.inr (Or.inr J))),h.nod,h.wf,h.len⟩
theorem aEv{w:World}{b mb n:Nat}{t k:TypeId}{cs:Array Value}{D:DataW Unit}{P:Program}{R:Value→Option (DataW Unit×List MemPlace)}(h:bV w b t cs)(J:w.ownsMap P k R mb n D):b≠mb:=by
 rintro rfl;obtain⟨es,clock,hb,_⟩:=J;unfold bV at h;rw[h]at hb;cases hb
theorem nW{w:World}{e:TypeId}{A:Option Addr}{cap mb n:Nat}{xs:List Value}{k:TypeId}{D:DataW Unit}{P:Program}{R:Value→Option (DataW Unit×List MemPlace)}(h:Seg w e A cap xs)(Y:w.ownsMap P k R mb n D):mb∉blk A:=by
 intro J;obtain⟨es,clock,hb,_⟩:=Y;cases A with
 | none=>cases J
 | some a=>
  simp only[blk,aD]at J;subst J;obtain⟨_,a0,hc,_⟩:=h.2.2.2 a rfl;rw[hc]at hb;cases hb
theorem gK.look{w:World}{m:Option Nat}{N:Nat}{xs:List (List UInt8)}(h:gK w m N xs)(x:List UInt8)(Y:WF x) :
 (Instr.lookup 110 (.map m) (encStr x) true).run Tryz.prog w=.ok (.tuple #[.int .i64 (vO xs x:Nat),.bool (decide (x∈xs))]) w:=by
 have hz:(zeroValue 3).run Tryz.prog w=.ok (.int .i64 0) w:=by kernel_rfl
 rcases h with⟨rfl,rfl⟩ | ⟨b,D,rfl,ho,hh⟩
 ·exact Maps.look_nil (w:=w) true (Maps.string_keyed Tryz.underlying9) Tryz.underlying110 hz (aE9 Y)
 ·obtain⟨v,ps,J,hv⟩:=ho.look_ok (Maps.string_keyed Tryz.underlying9) Tryz.underlying110 hz (zd:=.lit (.int .i64 0)) (zp:=[]) (plainElem_int Tryz.underlying3 rfl) (aE9 Y)
  obtain⟨c,rfl,hc,_⟩:=plainElem_int_inv Tryz.underlying3 hv;obtain⟨h1,h2⟩:=hh x Y;rw[h2]at hc;injection hc with hc _;injection hc with hc;injection hc with _ hc;rw[J,h1,hc]
theorem aAX{xs:List (List UInt8)}{x y:List UInt8}(h:y≠x):vO (xs++[x]) y=vO xs y:=by
 unfold vO;by_cases hy:y∈xs
 ·rw[if_pos hy,if_pos (by simp[hy]),List.idxOf_append,if_pos hy]
 ·rw[if_neg hy,if_neg (by simp[hy,h])]
theorem aA3{xs:List (List UInt8)}{x:List UInt8}(h:x∉xs):vO (xs++[x]) x=xs.length:=by
 unfold vO;rw[if_pos (by simp),List.idxOf_append,if_neg h];simp
theorem aFK{D:DataW Unit}(hD:Maps.IsMap D){xs:List (List UInt8)}{x:List UInt8}(Y:x∉xs)(h:Reads D xs):Reads (D.put (.string x) (.lit (.int .i64 (xs.length:Nat)))) (xs++[x]):=by
 intro y hy;obtain⟨h1,h2⟩:=h y hy;by_cases e:y=x
 ·subst e
  rw[Maps.has_put_same hD (show WideAt.IsKeyLit (.string y) from trivial),Maps.atKey_put_same hD (show WideAt.IsKeyLit (.string y) from trivial),aA3 Y];simp
 ·have J:(Lit.string y)≠.string x:=fun h=>e (by injection h)
  rw[Maps.has_put_other J,Maps.atKey_put_other J,h1,h2,aAX e];simp[e]
theorem aF5(xs:List (List UInt8))(x:List UInt8):kL xs++[encStr x] = kL (xs++[x]):=by simp[kL]
theorem aDF{n:Nat}(h:n≤1000000):(Lit.int .i64 (n:Nat)).wf=true:=by
 unfold Lit.wf;simp[IntKind.min,IntKind.max,IntKind.signed,IntKind.bits];omega
theorem aJl(w:World)(b:Nat)(A:Option Addr)(cap:Nat)(m:Option Nat)(N:Nat)(xs:List (List UInt8))(x:List UInt8)(h:Tb w b A cap m N xs)(Y:WF x)(J:x∈xs) :
 Calls Tryz.prog 70 #[.pointer (some ⟨b,0,none⟩),encStr x] w fun e w'=>e=.returned (.tuple #[.int .i64 (vO xs x:Nat),.bool false])∧Below w.heap.size w w':=by
 have hl:=h.set.look x Y;rw[aC J]at hl;have c0:w.cell? ⟨b,0,none⟩=some (.map m):=h.box.cell 0;generalize vO xs x=r at *;clear h Y J;go_enter Tryz.func70,Tryz.ntmps70;go_wp2_with fail;go_ret2;exact⟨rfl,(Below.refl _ _)⟩
def zX(w:World)(b:Nat)(A:Option Addr)(m:Option Nat)(N:Nat)(xs:List (List UInt8))(x:List UInt8)(e:Ending)(w':World):Prop:=
 e=.returned (.tuple #[.int .i64 (xs.length:Nat),.bool true])∧Fr (kV b A m) w w'∧∃A' J Y,Tb w' b A' J Y (N+1) (xs++[x])∧∀g∈kV b A' Y,g∈kV b A m∨w.heap.size≤g
theorem aFg{w w2 w3:World}{b:Nat}{A A':Option Addr}{cap Y mb N:Nat}{m:Option Nat}{xs:List (List UInt8)}{x:List UInt8}{D:DataW Unit}{o:Obj}(ah:∀y∈xs,WF y)(hx:WF x)(a5:x∉xs)(a3:xs.Nodup)(hlen:xs.length≤N)(a6:b∈kV b A m)
 (f2:Fr (kV b A m) w w2) (a1:bV w2 b 112 #[.map (some mb),.slice A xs.length cap]) (aj:w2.ownsMap (H:=Unit) Tryz.prog 9 (plainElem Tryz.prog 3) mb (N+1) (D.put (.string x) (.lit (.int .i64 (xs.length:Nat))))) (hD:Maps.IsMap D) (hh:Reads D xs) (ai:mb∈kV b A m∨w.heap.size≤mb)
 (a4:b∉blk A) (a9:mb∉blk A) (ae:Seg w3 9 A' Y (kL xs++[encStr x])) (f3:Fr (blk A) (w2.alloc o) w3) (af:blk A'=blk A∨blk A'=[(w2.alloc o).heap.size]) :
 zX w b A m N xs x (.returned (.tuple #[.int .i64 (xs.length:Nat),.bool true])) (w3.setCell ⟨b,1,none⟩ (.slice A' (xs.length+1) Y)):=by
 have aa:bV w3 b 112 #[.map (some mb),.slice A xs.length cap]:=(a1.kept ((Fr.refl [] w2).alloc o) (by simp)).kept f3 a4;have a2:Fr (blk A) w2 w3:=((Fr.refl (blk A) w2).alloc o).trans f3 (fun g J=>Or.inl J) (fun g J=>Or.inl J);obtain⟨es,clock,a0,hr⟩:=aj;have a7:w3.heap[mb]? = some (.map es clock):=(a2.block mb (bB.1 a0).1 a9).trans a0;have ak:mb<w2.heap.size:=(bB.1 a0).1;have ad:mb≠b:=fun e=>by
  subst e;unfold bV at a1;rw[a1]at a0;cases a0
 have fw:Fr (kV b A m) w w3:=f2.trans a2 (fun g J=>Or.inl J) (fun g J=>Or.inl (by simp only[kV,aM,List.mem_append];exact Or.inr (Or.inl J)));have a8:∀g∈blk A',g∈blk A∨w2.heap.size≤g:=by
  intro g J;rcases af with e | e
  ·exact Or.inl (e ▸ J)
  ·right
   rw[e,aD]at J;subst J;simp
 have ag:b∉blk A':=by
  intro hm;rcases a8 b hm with h | h
  ·exact a4 h
  ·have:=a1.lt;omega
 refine⟨rfl,fw.setCell (Or.inl a6) _,A',Y,some mb,⟨?_,?_,?_,?_,?_,by simpa using hlen⟩,?_⟩
 ·have:=aa.put 1 (.slice A' (xs.length+1) Y)
  simpa using this
 ·rw[←aF5]
  exact ae.kept ((Fr.refl [b] w3).setCell (Or.inl (by simp)) _) (fun g J he=>by rw[aD]at he;subst he;exact ag J)
 ·refine Or.inr ⟨mb,_,rfl,⟨es,clock,?_,hr⟩,aFK hD a5 hh⟩
  exact(Below.heap_setCell w3 _ _ mb ad).trans a7
 ·rw[List.nodup_append]
  refine⟨a3,by simp,?_⟩;intro a ha c hc;rw[aD]at hc;subst hc;exact fun e=>a5 (e ▸ ha)
 ·intro y hy
  rcases List.mem_append.1 hy with h | h
  ·exact ah y h
  ·rw[aD]at h;subst h;exact hx
 ·intro g J
  simp only[kV,aM,List.mem_append,Option.toList_some,aT,or_false]at J;rcases J with rfl | J | rfl
  ·exact Or.inl a6
  ·rcases a8 g J with h | h
   ·left;simp only[kV,aM,List.mem_append];exact Or.inr (Or.inl h)
   ·right;exact aZ f2.size h
  ·exact ai
theorem aKG(w:World)(b:Nat)(A:Option Addr)(cap:Nat)(mb N:Nat)(xs:List (List UInt8))(x:List UInt8)(h:Tb w b A cap (some mb) N xs)(hx:WF x)(a0:x∉xs)(hN:N<1000000) :
 Calls Tryz.prog 70 #[.pointer (some ⟨b,0,none⟩),encStr x] w (zX w b A (some mb) N xs x):=by
 have hl:=h.set.look x hx;rw[aB a0]at hl;have Hh:=hid h;have Hx:=hid hx;have a9:=hid a0;have hlen:=h.len;have ah:=hid (aDF (n:=xs.length) (by omega));obtain⟨i0,a1,a7,a6,a4⟩:=info_parts nX;have Hi:=hid a1;have aa:=hid a7;have ai:=hid a6;have af:=hid a4;have ak:∀(w:World),(binOp .eql 110 (.map (some mb)) (.map none)).run Tryz.prog w=.ok (.bool false) w:=fun w=>by rw[run_eql_map_nil w _ _ _ _ Tryz.underlying110];rfl
 have c0:w.cell? ⟨b,0,none⟩=some (.map (some mb)):=h.box.cell 0;have c1:w.cell? ⟨b,1,none⟩=some (.slice A xs.length cap):=h.box.cell 1;have a3:=h.set;rcases a3 with⟨h0,_⟩ | ⟨am,D,h0,ho,hD⟩
 ·cases h0
 injection h0 with h0;subst h0;have HD:=hid hD;have ad:=aEv h.box ho;generalize vO xs x=r at *;clear h hx a0 a1 a7 a6 a4 hD;go_enter Tryz.func70,Tryz.ntmps70
 go_wp2_with (first
  | (at_mapUpdate
     refine wpList_mapUpdate_own _ rfl _ _ _ 110 rfl 9 3 (Maps.string_keyed Tryz.underlying9) Tryz.underlying110 (plainElem Tryz.prog 3) mb N D rfl ho (by unfold maxLen;omega) _ _ (.string x) rfl rfl (aE9 Hx.out) (.lit (.int .i64 (xs.length:Nat))) [] (plainElem_int Tryz.underlying3 ah.out) ?_;intro w2 a8 a5;have b2:Fr [mb] w w2:=(Fr.refl _ w).grown a5 (fun k hk=>(by cases hk;exact Or.inl (by simp)));have J:Hid (bV w2 b 112 #[.map (some mb),.slice A xs.length cap]):=hid ((a5.block b Hh.out.box.lt (fun e=>ad (by injection e))).trans Hh.out.box);have Y:Hid (Seg w2 9 A cap (kL xs)):=hid (Hh.out.seg.kept b2 (by intro g hg he;rw[aD]at he;subst he;exact nW Hh.out.seg ho hg));have c2:w2.cell? ⟨b,1,none⟩=some (.slice A xs.length cap):=J.out.cell 1;have f2:w2.frozen? ⟨b,1,none⟩=false:=J.out.free 1
     have l2:=J.out.lt)
  | (at_builtin
     refine dQ rfl _ _ _ rfl (Y.out.alloc _) (aHS xs).symm Tryz.underlying22 Hi.out aa.out ai.out af.out rfl rfl rfl (dH _ _ _) rfl (by omega) (by omega) ?_;intro A' aj w3 ae b3 ag;have a2:Hid (bV w3 b 112 #[.map (some mb),.slice A xs.length cap]):=hid ((J.out.kept ((Fr.refl [] w2).alloc _) (by simp)).kept b3 (Y.out.ne_box J.out (by decide)));have c3:w3.cell? ⟨b,1,none⟩=some (.slice A xs.length cap):=a2.out.cell 1
     have f3:w3.frozen? ⟨b,1,none⟩=false:=a2.out.free 1))
 go_ret2;exact aFg Hh.out.wf Hx.out a9.out Hh.out.nod hlen (by simp[kV]) ((Fr.refl _ _).trans b2 (fun g hg=>Or.inl hg) (fun g hg=>Or.inl (by rw[aD]at hg;subst hg;simp[kV]))) J.out a8 ho.isMap HD.out (Or.inl (by simp[kV])) (Y.out.ne_box J.out (by decide)) (nW Y.out a8) ae b3 ag
theorem aJG(w:World)(b:Nat)(A:Option Addr)(cap N:Nat)(x:List UInt8)(h:Tb w b A cap none N [])(hx:WF x) :
 Calls Tryz.prog 70 #[.pointer (some ⟨b,0,none⟩),encStr x] w (zX w b A none N [] x):=by
 have hl:=h.set.look x hx;rw[aB (by simp)]at hl;have Hh:=hid h;have Hx:=hid hx;have af:=hid (aDF (n:=0) (by omega));obtain⟨i0,a1,a6,a5,a4⟩:=info_parts nX;have Hi:=hid a1;have a8:=hid a6;have ag:=hid a5;have aa:=hid a4;have aj:∀(w:World),(binOp .eql 110 (.map none) (.map none)).run Tryz.prog w=.ok (.bool true) w:=fun w=>by rw[run_eql_map_nil w _ _ _ _ Tryz.underlying110];rfl
 have ak:=@run_makeMap Tryz.prog;have c0:w.cell? ⟨b,0,none⟩=some (.map none):=h.box.cell 0;have c1:w.cell? ⟨b,1,none⟩=some (.slice A 0 cap):=h.box.cell 1;have f1:w.frozen? ⟨b,0,none⟩=false:=h.box.free 0;have l1:=h.box.lt;have a0:Hid (bV ((w.setCell ⟨b,0,none⟩ (.map (some w.heap.size))).alloc (.map #[] 0)) b 112 #[.map (some w.heap.size),.slice A 0 cap]):=hid ((h.box.put 0 _).kept ((Fr.refl [] _).alloc _) (by simp));have Ho:Hid (World.ownsMap (H:=Unit) ((w.setCell ⟨b,0,none⟩ (.map (some w.heap.size))).alloc (.map #[] 0)) Tryz.prog 9 (plainElem Tryz.prog 3) w.heap.size 0 (.map [])):=hid (by have h:=World.ownsMap_made (H:=Unit) (w.setCell ⟨b,0,none⟩ (.map (some w.heap.size))) Tryz.prog 9 (plainElem Tryz.prog 3);rw[show(w.setCell ⟨b,0,none⟩ (.map (some w.heap.size))).heap.size=w.heap.size by simp[World.setCell]]at h;exact h);have a3:Hid (Seg ((w.setCell ⟨b,0,none⟩ (.map (some w.heap.size))).alloc (.map #[] 0)) 9 A cap (kL [])):=hid ((h.seg.kept ((Fr.refl [b] _).setCell (Or.inl (by simp)) _) (fun g hg he=>by rw[aD]at he;subst he;exact h.seg.ne_box h.box (by decide) hg)).alloc _)
 have Fm:Hid (Fr (kV b A none) w ((w.setCell ⟨b,0,none⟩ (.map (some w.heap.size))).alloc (.map #[] 0))):=hid (((Fr.refl _ _).setCell (Or.inl (by simp[kV])) _).alloc _);have cm:((w.setCell ⟨b,0,none⟩ (.map (some w.heap.size))).alloc (.map #[] 0)).cell? ⟨b,1,none⟩=some (.slice A 0 cap):=a0.out.cell 1;have ai:((w.setCell ⟨b,0,none⟩ (.map (some w.heap.size))).alloc (.map #[] 0)).cell? ⟨b,0,none⟩=some (.map (some w.heap.size)):=a0.out.cell 0;clear h hx a1 a6 a5 a4;have e0:vO [] x=0:=rfl;rw[e0]at hl;go_enter Tryz.func70,Tryz.ntmps70
 go_wp2_with (first
  | (at_mapUpdate
     refine wpList_mapUpdate_own _ rfl _ _ _ 110 rfl 9 3 (Maps.string_keyed Tryz.underlying9) Tryz.underlying110 (plainElem Tryz.prog 3) w.heap.size 0 (.map []) rfl Ho.out (by unfold maxLen;omega) _ _ (.string x) rfl rfl (aE9 Hx.out) (.lit (.int .i64 (0:Nat))) [] (plainElem_int Tryz.underlying3 af.out) ?_;intro w2 a7 ae;have b2:Fr [w.heap.size] ((w.setCell ⟨b,0,none⟩ (.map (some w.heap.size))).alloc (.map #[] 0)) w2:=(Fr.refl _ _).grown ae (fun k hk=>(by cases hk;exact Or.inl (by simp)));have J:Hid (bV w2 b 112 #[.map (some w.heap.size),.slice A 0 cap]):=hid (a0.out.kept b2 (by simp;omega));have Y:Hid (Seg w2 9 A cap (kL [])):=hid (a3.out.kept b2 (by intro g hg he;rw[aD]at he;subst he;exact nW a3.out Ho.out hg));have c2:w2.cell? ⟨b,1,none⟩=some (.slice A 0 cap):=J.out.cell 1;have f2:w2.frozen? ⟨b,1,none⟩=false:=J.out.free 1
     have l2:=J.out.lt)
  | (at_builtin
     refine dQ (n:=0) rfl _ _ _ rfl (Y.out.alloc _) rfl Tryz.underlying22 Hi.out a8.out ag.out aa.out rfl rfl rfl (dH _ _ _) rfl (by omega) (by omega) ?_;intro A' ah w3 a9 b3 ad;have a2:Hid (bV w3 b 112 #[.map (some w.heap.size),.slice A 0 cap]):=hid ((J.out.kept ((Fr.refl [] w2).alloc _) (by simp)).kept b3 (Y.out.ne_box J.out (by decide)));have c3:w3.cell? ⟨b,1,none⟩=some (.slice A 0 cap):=a2.out.cell 1
     have f3:w3.frozen? ⟨b,1,none⟩=false:=a2.out.free 1))
 go_ret2;exact aFg (mb:=w.heap.size) (xs:=[]) (by simp) Hx.out (by simp) (by simp) (by simp) (by simp[kV]) (Fm.out.trans b2 (fun g hg=>Or.inl hg) (fun g hg=>Or.inr (by rw[aD]at hg;subst hg;exact aY _))) J.out (a7.mono (by omega)) ⟨[],rfl⟩ (by intro y _;exact⟨rfl,rfl⟩) (Or.inr (aY _)) (Y.out.ne_box J.out (by decide)) (nW Y.out a7) a9 b3 ad
theorem zY(w:World)(b:Nat)(A:Option Addr)(cap:Nat)(m:Option Nat)(N:Nat)(xs:List (List UInt8))(x:List UInt8)(h:Tb w b A cap m N xs)(Y:WF x)(J:x∉xs)(hN:N<1000000) :
 Calls Tryz.prog 70 #[.pointer (some ⟨b,0,none⟩),encStr x] w (zX w b A m N xs x):=by
 cases m with
 | some mb=>exact aKG w b A cap mb N xs x h Y J hN
 | none=>
  rcases h.set with⟨_,rfl⟩ | ⟨_,_,h0,_⟩
  ·exact aJG w b A cap N x h Y
  ·cases h0
theorem aIx(w:World)(b:Nat)(m:Option Nat)(N:Nat)(xs:List (List UInt8))(x:List UInt8)(v:Value)(hb:bV w b 112 #[.map m,v])(hs:gK w m N xs)(J:WF x) :
 Calls Tryz.prog 72 #[.pointer (some ⟨b,0,none⟩),encStr x] w fun e w'=>e=.returned (.tuple #[.int .i64 (vO xs x:Nat),.bool (decide (x∈xs))])∧w=w':=by
 have hl:=hs.look x J;have c0:w.cell? ⟨b,0,none⟩=some (.map m):=hb.cell 0;generalize vO xs x=r at *;generalize decide (x∈xs)=q at *;clear hb hs J;go_enter Tryz.func72,Tryz.ntmps72;go_wp2_with fail;go_ret2;exact⟨rfl,rfl⟩
def tV(xs:List (List UInt8))(x:List UInt8):Int:=if x∈xs then(vO xs x:Nat) else -1
theorem aGZ{xs:List (List UInt8)}{x:List UInt8}{k:Nat}(Y:k<xs.length)(J:xs[k] = x)(hn:x∉xs.take k):tV xs x=(k:Nat):=by
 have hm:x∈xs:=J ▸ aR Y;unfold tV vO;rw[if_pos hm,if_pos hm];have e:xs=xs.take k++x :: xs.drop (k+1):=by
  rw[←J,←bD Y,List.take_append_drop]
 have:xs.idxOf x=k:=by
  rw[e,List.idxOf_append,if_neg hn];simp;omega
 rw[this]
theorem aBo{xs:List (List UInt8)}{x:List UInt8}(J:x∉xs):tV xs x=-1:=by unfold tV;rw[if_neg J]
theorem wH(w:World)(A:Option Addr)(cap:Nat)(xs:List (List UInt8))(x:List UInt8)(h:Rd w A (xs.map encStr))(hm:xs.length≤1000000) :
 Calls Tryz.prog 60 #[.slice A xs.length cap,encStr x] w fun e w'=>e=.returned (.int .i64 (tV xs x))∧w=w':=by
 have Hh:=hid h;have Hv:Hid (∀(k:Nat) (hk:k<xs.length),xs[k] = x→x∉xs.take k→tV xs x=(k:Nat)):=hid (fun k hk h1 h2=>aGZ hk h1 h2);have Hn:Hid (x∉xs→tV xs x=-1):=hid aBo;clear h;generalize tV xs x=r at *;go_enter Tryz.func60,Tryz.ntmps60;go_wp2_with fail;go_loopw [5] (fun i wr=>∃k:Nat,k≤xs.length∧i=.int .i64 k∧Hid (x∉xs.take k)∧w=wr) (fun i _=>xs.length-(intOf i).toNat)
 case atStart=>exact⟨0,by omega,rfl,hid (by simp),rfl⟩
 case round=>
  obtain⟨k,hk,rfl,J,rfl⟩:=hrel;by_cases Y:k<xs.length
  ·have e1:decide ((k:Int)<(xs.length:Int))=true:=aC (by omega)
   obtain⟨g,off,rfl,a1,hc⟩:=sM Hh.out (by omega);have c2:=hc k Y;clear hc;rcases a0:(xs[k]==x)with _ | _
   ·unfold encStr at c2 ⊢
    go_wp2_with fail;go_roundw
    case rel=>
     refine⟨k+1,by omega,by go_num,hid ?_,trivial⟩;rw[bC Y,List.mem_append,aD];rintro(h | h)
     ·exact J.out h
     ·rw[←h]at a0;simp at a0
    case measure=>simp[intOf];omega
   ·have hr:=Hv.out k Y (eq_of_beq a0) J.out
    unfold encStr at c2 ⊢;go_wp2_with fail;go_ret;exact⟨by rw[hr];rfl,rfl⟩
  ·obtain rfl:k=xs.length:=by omega
   have e1:decide ((xs.length:Int)<(xs.length:Int))=false:=aB (by omega);have hr:=Hn.out (by have:=J.out;rwa[bF]at this);unfold encStr;go_wp2_with fail;go_ret;exact⟨by rw[hr];rfl,rfl⟩
end ins
namespace inn
open RowKit Shelf Go.Sort mem
end inn
namespace ins
open RowKit Shelf mem inn
theorem aIP(w:World):Tb (w.alloc (.cells #[.map none,.slice none 0 0] 112)) w.heap.size none 0 none 0 []:=
 ⟨bV.new w _ _,Seg.nil _ _,Or.inl ⟨rfl,rfl⟩,by simp,by simp,aY _⟩
end ins
end Go.Proofs.YtdmmkjijgoiecaaGreatDoor
