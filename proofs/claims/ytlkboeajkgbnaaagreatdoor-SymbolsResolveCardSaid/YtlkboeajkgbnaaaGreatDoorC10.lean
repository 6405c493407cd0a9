import Derived.WalkSpells
import Derived.Test.YtlkboeajkgbnaaaGreatDoorC22
import Derived.Test.YtlkboeajkgbnaaaGreatDoorC35
import Derived.Test.YtlkboeajkgbnaaaGreatDoorC34
set_option linter.all false
set_option maxHeartbeats 4000000
namespace Go.Proofs.YtlkboeajkgbnaaaGreatDoor
namespace inn
open RowKit
def WF(x:Int):Prop:=(Lit.int .i64 x).wf=true
end inn
set_option maxRecDepth 100000
namespace ins
open RowKit Shelf mem inn
def WF(x:List UInt8):Prop:=x.length≤maxLen
theorem key_s{x:List UInt8}(hx:WF x):keyOf Tryz.prog 9 (encStr x)=some (.string x):=WideMaps.keyOf_string_mk (s:=⟨x.toArray⟩) Tryz.underlying9 (by simpa[WF,ByteArray.size] using hx)
def vals(xs:List (List UInt8)):List Value:=xs.map (encStr)
theorem vals_len(xs:List (List UInt8)):(vals xs).length=xs.length:=by simp[vals]
def noOf(xs:List (List UInt8))(x:List UInt8):Nat:=if x∈xs then xs.idxOf x else 0
def Reads(D:DataW Unit)(xs:List (List UInt8)):Prop:=∀x,WF x→Maps.has D (.string x)=decide (x∈xs)∧D.atKey (.string x) (.lit (.int .i64 0))=.lit (.int .i64 (noOf xs x:Nat))
def Held(w:World)(m:Option Nat)(N:Nat)(xs:List (List UInt8)):Prop:=
 (m=none∧xs=[])∨∃b D,m=some b∧w.ownsMap (H:=Unit) Tryz.prog 9 (plainElem Tryz.prog 3) b N D∧Reads D xs
structure Tb(w:World)(b:Nat)(A:Option Addr)(cap:Nat)(m:Option Nat)(N:Nat)(xs:List (List UInt8)):Prop where
 box:Box w b 48 #[.map m,.slice A xs.length cap]
 seg:Seg w 9 A cap (vals xs)
 set:Held w m N xs
 nod:xs.Nodup
 wf:∀x∈xs,WF x
 len:xs.length≤N
def foot(b:Nat)(A:Option Addr)(m:Option Nat):List Nat:=b :: (blk A++m.toList)
theorem Held.lt{w:World}{m:Option Nat}{N:Nat}{xs:List (List UInt8)}(h:Held w m N xs):∀g∈m.toList,g<w.heap.size:=by
 intro g hg;rcases h with⟨rfl,_⟩ | ⟨b,D,rfl,ho,_⟩
 ·simp at hg
 ·simp at hg;subst hg;exact ho.lt
theorem Held.kept{F:List Nat}{w w':World}{m:Option Nat}{N:Nat}{xs:List (List UInt8)}(h:Held w m N xs)(hf:Fr F w w')(hd:∀g∈m.toList,g∉F):Held w' m N xs:=by
 rcases h with⟨rfl,h⟩ | ⟨b,D,rfl,ho,h⟩
 ·exact Or.inl ⟨rfl,h⟩
 ·right
  obtain⟨es,clock,hb,r⟩:=ho;exact⟨b,D,rfl,⟨es,clock,(hf.block b (Array.getElem?_eq_some_iff.1 hb).1 (hd b (by simp))).trans hb,r⟩,h⟩
theorem Held.mono{w:World}{m:Option Nat}{N N':Nat}{xs:List (List UInt8)}(h:Held w m N xs)(hN:N≤N'):Held w m N' xs:=by
 rcases h with h | ⟨b,D,rfl,ho,h⟩
 ·exact Or.inl h
 ·exact Or.inr ⟨b,D,rfl,ho.mono hN,h⟩
theorem Tb.lt{w:World}{b:Nat}{A:Option Addr}{cap:Nat}{m:Option Nat}{N:Nat}{xs:List (List UInt8)}(h:Tb w b A cap m N xs):∀g∈foot b A m,g<w.heap.size:=by
 intro g hg;simp only[foot,List.mem_cons,List.mem_append]at hg;rcases hg with rfl | hg | hg
 ·exact h.box.lt
 ·exact h.seg.lt g hg
 ·exact h.set.lt g hg
theorem Tb.kept{F:List Nat}{w w':World}{b:Nat}{A:Option Addr}{cap:Nat}{m:Option Nat}{N:Nat}{xs:List (List UInt8)}(h:Tb w b A cap m N xs)(hf:Fr F w w')(hd:∀g∈foot b A m,g∉F):Tb w' b A cap m N xs:=
 ⟨h.box.kept hf (hd b (by simp[foot])),h.seg.kept hf (fun g hg=>hd g (by simp[foot,hg])),h.set.kept hf (fun g hg=>hd g (by simp only[foot,List.mem_cons,List.mem_append];exact Or.inr (Or.inr hg))),h.nod,h.wf,h.len⟩
theorem box_ne_map{w:World}{b mb n:Nat}{t k:TypeId}{cs:Array Value}{D:DataW Unit}{P:Program}{R:Value→Option (DataW Unit×List MemPlace)}(h:Box w b t cs)(ho:w.ownsMap P k R mb n D):b≠mb:=by
 rintro rfl;obtain⟨es,clock,hb,_⟩:=ho;unfold Box at h;rw[h]at hb;cases hb
theorem seg_ne_map{w:World}{e:TypeId}{A:Option Addr}{cap mb n:Nat}{xs:List Value}{k:TypeId}{D:DataW Unit}{P:Program}{R:Value→Option (DataW Unit×List MemPlace)}(h:Seg w e A cap xs)(ho:w.ownsMap P k R mb n D):mb∉blk A:=by
 intro hm;obtain⟨es,clock,hb,_⟩:=ho;cases A with
 | none=>cases hm
 | some a=>
  simp only[blk,List.mem_singleton]at hm;subst hm;obtain⟨_,cur,hc,_⟩:=h.2.2.2 a rfl;rw[hc]at hb;cases hb
theorem Held.look{w:World}{m:Option Nat}{N:Nat}{xs:List (List UInt8)}(h:Held w m N xs)(x:List UInt8)(hx:WF x) :
 (Instr.lookup 46 (.map m) (encStr x) true).run Tryz.prog w=.ok (.tuple #[.int .i64 (noOf xs x:Nat),.bool (decide (x∈xs))]) w:=by
 have hz:(zeroValue 3).run Tryz.prog w=.ok (.int .i64 0) w:=by kernel_rfl
 rcases h with⟨rfl,rfl⟩ | ⟨b,D,rfl,ho,hh⟩
 ·exact Maps.look_nil (w:=w) true (Maps.string_keyed Tryz.underlying9) Tryz.underlying46 hz (key_s hx)
 ·obtain⟨v,ps,hrun,hv⟩:=ho.look_ok (Maps.string_keyed Tryz.underlying9) Tryz.underlying46 hz (zd:=.lit (.int .i64 0)) (zp:=[]) (plainElem_int Tryz.underlying3 rfl) (key_s hx)
  obtain⟨c,rfl,hc,_⟩:=plainElem_int_inv Tryz.underlying3 hv;obtain⟨h1,h2⟩:=hh x hx;rw[h2]at hc;injection hc with hc _;injection hc with hc;injection hc with _ hc;rw[hrun,h1,hc]
theorem noOf_snoc_old{xs:List (List UInt8)}{x y:List UInt8}(h:y≠x):noOf (xs++[x]) y=noOf xs y:=by
 unfold noOf;by_cases hy:y∈xs
 ·rw[if_pos hy,if_pos (by simp[hy]),List.idxOf_append,if_pos hy]
 ·rw[if_neg hy,if_neg (by simp[hy,h])]
theorem noOf_snoc_new{xs:List (List UInt8)}{x:List UInt8}(h:x∉xs):noOf (xs++[x]) x=xs.length:=by
 unfold noOf;rw[if_pos (by simp),List.idxOf_append,if_neg h];simp
theorem reads_put{D:DataW Unit}(hD:Maps.IsMap D){xs:List (List UInt8)}{x:List UInt8}(hin:x∉xs)(h:Reads D xs):Reads (D.put (.string x) (.lit (.int .i64 (xs.length:Nat)))) (xs++[x]):=by
 intro y hy;obtain⟨h1,h2⟩:=h y hy;by_cases e:y=x
 ·subst e
  rw[Maps.has_put_same hD (show WideAt.IsKeyLit (.string y) from trivial),Maps.atKey_put_same hD (show WideAt.IsKeyLit (.string y) from trivial),noOf_snoc_new hin];simp
 ·have hne:(Lit.string y)≠.string x:=fun h=>e (by injection h)
  rw[Maps.has_put_other hne,Maps.atKey_put_other hne,h1,h2,noOf_snoc_old e];simp[e]
theorem vals_snoc(xs:List (List UInt8))(x:List UInt8):vals xs++[encStr x] = vals (xs++[x]):=by simp[vals]
theorem wf_len{n:Nat}(h:n≤1000000):(Lit.int .i64 (n:Nat)).wf=true:=by
 unfold Lit.wf;simp[IntKind.min,IntKind.max,IntKind.signed,IntKind.bits];omega
theorem put_old(w:World)(b:Nat)(A:Option Addr)(cap:Nat)(m:Option Nat)(N:Nat)(xs:List (List UInt8))(x:List UInt8)(h:Tb w b A cap m N xs)(hx:WF x)(hin:x∈xs) :
 Calls Tryz.prog 13 #[.pointer (some ⟨b,0,none⟩),encStr x] w fun e w'=>e=.returned (.tuple #[.int .i64 (noOf xs x:Nat),.bool false])∧Below w.heap.size w w':=by
 have hl:=h.set.look x hx;rw[decide_eq_true hin]at hl;have c0:w.cell? ⟨b,0,none⟩=some (.map m):=h.box.cell 0;generalize noOf xs x=r at *;clear h hx hin;go_enter Tryz.func13,Tryz.ntmps13;go_wp2_with fail;go_ret2;exact⟨rfl,(Below.refl _ _)⟩
theorem ts_new(w:World):Tb (w.alloc (.cells #[.map none,.slice none 0 0] 48)) w.heap.size none 0 none 0 []:=
 ⟨Box.new w _ _,Seg.nil _ _,Or.inl ⟨rfl,rfl⟩,by simp,by simp,Nat.le_refl _⟩
end ins
open Lib(hid)
namespace ins
open RowKit Shelf mem inn
def PutPost(w:World)(b:Nat)(A:Option Addr)(m:Option Nat)(N:Nat)(xs:List (List UInt8))(x:List UInt8)(e:Ending)(w':World):Prop:=
 e=.returned (.tuple #[.int .i64 (xs.length:Nat),.bool true])∧Fr (foot b A m) w w'∧∃A' cap' m',Tb w' b A' cap' m' (N+1) (xs++[x])∧∀g∈foot b A' m',g∈foot b A m∨w.heap.size≤g
theorem put_end{w w2 w3:World}{b:Nat}{A A':Option Addr}{cap cap' mb N:Nat}{m:Option Nat}{xs:List (List UInt8)}{x:List UInt8}{D:DataW Unit}{o:Obj}(hwf:∀y∈xs,WF y)(hx:WF x)(hin:x∉xs)(hnod:xs.Nodup)(hlen:xs.length≤N)(hbA:b∈foot b A m)
 (f2:Fr (foot b A m) w w2) (hb2:Box w2 b 48 #[.map (some mb),.slice A xs.length cap]) (ho2:w2.ownsMap (H:=Unit) Tryz.prog 9 (plainElem Tryz.prog 3) mb (N+1) (D.put (.string x) (.lit (.int .i64 (xs.length:Nat))))) (hD:Maps.IsMap D) (hh:Reads D xs) (hmb:mb∈foot b A m∨w.heap.size≤mb)
 (hbl:b∉blk A) (hml:mb∉blk A) (hs3:Seg w3 9 A' cap' (vals xs++[encStr x])) (f3:Fr (blk A) (w2.alloc o) w3) (hf3:blk A'=blk A∨blk A'=[(w2.alloc o).heap.size]) :
 PutPost w b A m N xs x (.returned (.tuple #[.int .i64 (xs.length:Nat),.bool true])) (w3.setCell ⟨b,1,none⟩ (.slice A' (xs.length+1) cap')):=by
 have hb3:Box w3 b 48 #[.map (some mb),.slice A xs.length cap]:=(hb2.kept ((Fr.refl [] w2).alloc o) (by simp)).kept f3 hbl;have fall:Fr (blk A) w2 w3:=((Fr.refl (blk A) w2).alloc o).trans f3 (fun g hg=>Or.inl hg) (fun g hg=>Or.inl hg);obtain⟨es,clock,hmh,hr⟩:=ho2;have hmh3:w3.heap[mb]? = some (.map es clock):=(fall.block mb (Array.getElem?_eq_some_iff.1 hmh).1 hml).trans hmh;have hmlt:mb<w2.heap.size:=(Array.getElem?_eq_some_iff.1 hmh).1;have hne:mb≠b:=fun e=>by
  subst e;unfold Box at hb2;rw[hb2]at hmh;cases hmh
 have fw:Fr (foot b A m) w w3:=f2.trans fall (fun g hg=>Or.inl hg) (fun g hg=>Or.inl (by simp only[foot,List.mem_cons,List.mem_append];exact Or.inr (Or.inl hg)));have hfb:∀g∈blk A',g∈blk A∨w2.heap.size≤g:=by
  intro g hg;rcases hf3 with e | e
  ·exact Or.inl (e ▸ hg)
  ·right
   rw[e,List.mem_singleton]at hg;subst hg;simp
 have hb4:b∉blk A':=by
  intro hm;rcases hfb b hm with h | h
  ·exact hbl h
  ·have:=hb2.lt;omega
 refine⟨rfl,fw.setCell (Or.inl hbA) _,A',cap',some mb,⟨?_,?_,?_,?_,?_,by simpa using hlen⟩,?_⟩
 ·have:=hb3.put 1 (.slice A' (xs.length+1) cap')
  simpa using this
 ·rw[←vals_snoc]
  exact hs3.kept ((Fr.refl [b] w3).setCell (Or.inl (by simp)) _) (fun g hg he=>by rw[List.mem_singleton]at he;subst he;exact hb4 hg)
 ·refine Or.inr ⟨mb,_,rfl,⟨es,clock,?_,hr⟩,reads_put hD hin hh⟩
  exact(Below.heap_setCell w3 _ _ mb hne).trans hmh3
 ·rw[List.nodup_append]
  refine⟨hnod,by simp,?_⟩;intro a ha c hc;rw[List.mem_singleton]at hc;subst hc;exact fun e=>hin (e ▸ ha)
 ·intro y hy
  rcases List.mem_append.1 hy with h | h
  ·exact hwf y h
  ·rw[List.mem_singleton]at h;subst h;exact hx
 ·intro g hg
  simp only[foot,List.mem_cons,List.mem_append,Option.toList_some,List.not_mem_nil,or_false]at hg;rcases hg with rfl | hg | rfl
  ·exact Or.inl hbA
  ·rcases hfb g hg with h | h
   ·left;simp only[foot,List.mem_cons,List.mem_append];exact Or.inr (Or.inl h)
   ·right;exact Nat.le_trans f2.size h
  ·exact hmb
theorem put_yes(w:World)(b:Nat)(A:Option Addr)(cap:Nat)(mb N:Nat)(xs:List (List UInt8))(x:List UInt8)(h:Tb w b A cap (some mb) N xs)(hx:WF x)(hin:x∉xs)(hN:N<1000000) :
 Calls Tryz.prog 13 #[.pointer (some ⟨b,0,none⟩),encStr x] w (PutPost w b A (some mb) N xs x):=by
 have hl:=h.set.look x hx;rw[decide_eq_false hin]at hl;have Hh:=hid h;have Hx:=hid hx;have Hin:=hid hin;have hlen:=h.len;have Hln:=hid (wf_len (n:=xs.length) (by omega));obtain⟨i0,hi0,hz0,hz1,hz2⟩:=info_parts info_str;have Hi:=hid hi0;have Hz0:=hid hz0;have Hz1:=hid hz1;have Hz2:=hid hz2;have hmn:∀(w:World),(binOp .eql 46 (.map (some mb)) (.map none)).run Tryz.prog w=.ok (.bool false) w:=fun w=>by rw[run_eql_map_nil w _ _ _ _ Tryz.underlying46];rfl
 have c0:w.cell? ⟨b,0,none⟩=some (.map (some mb)):=h.box.cell 0;have c1:w.cell? ⟨b,1,none⟩=some (.slice A xs.length cap):=h.box.cell 1;have hset:=h.set;rcases hset with⟨h0,_⟩ | ⟨mb',D,h0,ho,hD⟩
 ·cases h0
 injection h0 with h0;subst h0;have HD:=hid hD;have hne:=box_ne_map h.box ho;generalize noOf xs x=r at *;clear h hx hin hi0 hz0 hz1 hz2 hD;go_enter Tryz.func13,Tryz.ntmps13
 go_wp2_with (first
  | (at_mapUpdate
     refine wpList_mapUpdate_own _ rfl _ _ _ 46 rfl 9 3 (Maps.string_keyed Tryz.underlying9) Tryz.underlying46 (plainElem Tryz.prog 3) mb N D rfl ho (by unfold maxLen;omega) _ _ (.string x) rfl rfl (key_s Hx.out) (.lit (.int .i64 (xs.length:Nat))) [] (plainElem_int Tryz.underlying3 Hln.out) ?_;intro w2 ho2 hg2;have b2:Fr [mb] w w2:=(Fr.refl _ w).grown hg2 (fun k hk=>(by cases hk;exact Or.inl (by simp)));have Hb2:Hid (Box w2 b 48 #[.map (some mb),.slice A xs.length cap]):=hid ((hg2.block b Hh.out.box.lt (fun e=>hne (by injection e))).trans Hh.out.box);have Hs2:Hid (Seg w2 9 A cap (vals xs)):=hid (Hh.out.seg.kept b2 (by intro g hg he;rw[List.mem_singleton]at he;subst he;exact seg_ne_map Hh.out.seg ho hg));have c2:w2.cell? ⟨b,1,none⟩=some (.slice A xs.length cap):=Hb2.out.cell 1;have f2:w2.frozen? ⟨b,1,none⟩=false:=Hb2.out.free 1
     have l2:=Hb2.out.lt)
  | (at_builtin
     refine wpList_push rfl _ _ _ rfl (Hs2.out.alloc _) (vals_len xs).symm Tryz.underlying31 Hi.out Hz0.out Hz1.out Hz2.out rfl rfl rfl (new_cell _ _ _) rfl (by omega) (by omega) ?_;intro A' cap' w3 hs3 b3 hf3;have Hb3:Hid (Box w3 b 48 #[.map (some mb),.slice A xs.length cap]):=hid ((Hb2.out.kept ((Fr.refl [] w2).alloc _) (by simp)).kept b3 (Hs2.out.ne_box Hb2.out (by decide)));have c3:w3.cell? ⟨b,1,none⟩=some (.slice A xs.length cap):=Hb3.out.cell 1
     have f3:w3.frozen? ⟨b,1,none⟩=false:=Hb3.out.free 1))
 go_ret2;exact put_end Hh.out.wf Hx.out Hin.out Hh.out.nod hlen (by simp[foot]) ((Fr.refl _ _).trans b2 (fun g hg=>Or.inl hg) (fun g hg=>Or.inl (by rw[List.mem_singleton]at hg;subst hg;simp[foot]))) Hb2.out ho2 ho.isMap HD.out (Or.inl (by simp[foot])) (Hs2.out.ne_box Hb2.out (by decide)) (seg_ne_map Hs2.out ho2) hs3 b3 hf3
theorem put_new(w:World)(b:Nat)(A:Option Addr)(cap N:Nat)(x:List UInt8)(h:Tb w b A cap none N [])(hx:WF x) :
 Calls Tryz.prog 13 #[.pointer (some ⟨b,0,none⟩),encStr x] w (PutPost w b A none N [] x):=by
 have hl:=h.set.look x hx;rw[decide_eq_false (by simp)]at hl;have Hh:=hid h;have Hx:=hid hx;have Hln:=hid (wf_len (n:=0) (by omega));obtain⟨i0,hi0,hz0,hz1,hz2⟩:=info_parts info_str;have Hi:=hid hi0;have Hz0:=hid hz0;have Hz1:=hid hz1;have Hz2:=hid hz2;have hmn:∀(w:World),(binOp .eql 46 (.map none) (.map none)).run Tryz.prog w=.ok (.bool true) w:=fun w=>by rw[run_eql_map_nil w _ _ _ _ Tryz.underlying46];rfl
 have hmm:=@run_makeMap Tryz.prog;have c0:w.cell? ⟨b,0,none⟩=some (.map none):=h.box.cell 0;have c1:w.cell? ⟨b,1,none⟩=some (.slice A 0 cap):=h.box.cell 1;have f1:w.frozen? ⟨b,0,none⟩=false:=h.box.free 0;have l1:=h.box.lt;have Hbm:Hid (Box ((w.setCell ⟨b,0,none⟩ (.map (some w.heap.size))).alloc (.map #[] 0)) b 48 #[.map (some w.heap.size),.slice A 0 cap]):=hid ((h.box.put 0 _).kept ((Fr.refl [] _).alloc _) (by simp));have Ho:Hid (World.ownsMap (H:=Unit) ((w.setCell ⟨b,0,none⟩ (.map (some w.heap.size))).alloc (.map #[] 0)) Tryz.prog 9 (plainElem Tryz.prog 3) w.heap.size 0 (.map [])):=hid (by have h:=World.ownsMap_made (H:=Unit) (w.setCell ⟨b,0,none⟩ (.map (some w.heap.size))) Tryz.prog 9 (plainElem Tryz.prog 3);rw[show(w.setCell ⟨b,0,none⟩ (.map (some w.heap.size))).heap.size=w.heap.size by simp[World.setCell]]at h;exact h);have Hsm:Hid (Seg ((w.setCell ⟨b,0,none⟩ (.map (some w.heap.size))).alloc (.map #[] 0)) 9 A cap (vals [])):=hid ((h.seg.kept ((Fr.refl [b] _).setCell (Or.inl (by simp)) _) (fun g hg he=>by rw[List.mem_singleton]at he;subst he;exact h.seg.ne_box h.box (by decide) hg)).alloc _)
 have Fm:Hid (Fr (foot b A none) w ((w.setCell ⟨b,0,none⟩ (.map (some w.heap.size))).alloc (.map #[] 0))):=hid (((Fr.refl _ _).setCell (Or.inl (by simp[foot])) _).alloc _);have cm:((w.setCell ⟨b,0,none⟩ (.map (some w.heap.size))).alloc (.map #[] 0)).cell? ⟨b,1,none⟩=some (.slice A 0 cap):=Hbm.out.cell 1;have cm0:((w.setCell ⟨b,0,none⟩ (.map (some w.heap.size))).alloc (.map #[] 0)).cell? ⟨b,0,none⟩=some (.map (some w.heap.size)):=Hbm.out.cell 0;clear h hx hi0 hz0 hz1 hz2;have e0:noOf [] x=0:=rfl;rw[e0]at hl;go_enter Tryz.func13,Tryz.ntmps13
 go_wp2_with (first
  | (at_mapUpdate
     refine wpList_mapUpdate_own _ rfl _ _ _ 46 rfl 9 3 (Maps.string_keyed Tryz.underlying9) Tryz.underlying46 (plainElem Tryz.prog 3) w.heap.size 0 (.map []) rfl Ho.out (by unfold maxLen;omega) _ _ (.string x) rfl rfl (key_s Hx.out) (.lit (.int .i64 (0:Nat))) [] (plainElem_int Tryz.underlying3 Hln.out) ?_;intro w2 ho2 hg2;have b2:Fr [w.heap.size] ((w.setCell ⟨b,0,none⟩ (.map (some w.heap.size))).alloc (.map #[] 0)) w2:=(Fr.refl _ _).grown hg2 (fun k hk=>(by cases hk;exact Or.inl (by simp)));have Hb2:Hid (Box w2 b 48 #[.map (some w.heap.size),.slice A 0 cap]):=hid (Hbm.out.kept b2 (by simp;omega));have Hs2:Hid (Seg w2 9 A cap (vals [])):=hid (Hsm.out.kept b2 (by intro g hg he;rw[List.mem_singleton]at he;subst he;exact seg_ne_map Hsm.out Ho.out hg));have c2:w2.cell? ⟨b,1,none⟩=some (.slice A 0 cap):=Hb2.out.cell 1;have f2:w2.frozen? ⟨b,1,none⟩=false:=Hb2.out.free 1
     have l2:=Hb2.out.lt)
  | (at_builtin
     refine wpList_push (n:=0) rfl _ _ _ rfl (Hs2.out.alloc _) rfl Tryz.underlying31 Hi.out Hz0.out Hz1.out Hz2.out rfl rfl rfl (new_cell _ _ _) rfl (by omega) (by omega) ?_;intro A' cap' w3 hs3 b3 hf3;have Hb3:Hid (Box w3 b 48 #[.map (some w.heap.size),.slice A 0 cap]):=hid ((Hb2.out.kept ((Fr.refl [] w2).alloc _) (by simp)).kept b3 (Hs2.out.ne_box Hb2.out (by decide)));have c3:w3.cell? ⟨b,1,none⟩=some (.slice A 0 cap):=Hb3.out.cell 1
     have f3:w3.frozen? ⟨b,1,none⟩=false:=Hb3.out.free 1))
 go_ret2;exact put_end (mb:=w.heap.size) (xs:=[]) (by simp) Hx.out (by simp) (by simp) (by simp) (by simp[foot]) (Fm.out.trans b2 (fun g hg=>Or.inl hg) (fun g hg=>Or.inr (by rw[List.mem_singleton]at hg;subst hg;exact Nat.le_refl _))) Hb2.out (ho2.mono (by omega)) ⟨[],rfl⟩ (by intro y _;exact⟨rfl,rfl⟩) (Or.inr (Nat.le_refl _)) (Hs2.out.ne_box Hb2.out (by decide)) (seg_ne_map Hs2.out ho2) hs3 b3 hf3
theorem put_any(w:World)(b:Nat)(A:Option Addr)(cap:Nat)(m:Option Nat)(N:Nat)(xs:List (List UInt8))(x:List UInt8)(h:Tb w b A cap m N xs)(hx:WF x)(hin:x∉xs)(hN:N<1000000) :
 Calls Tryz.prog 13 #[.pointer (some ⟨b,0,none⟩),encStr x] w (PutPost w b A m N xs x):=by
 cases m with
 | some mb=>exact put_yes w b A cap mb N xs x h hx hin hN
 | none=>
  rcases h.set with⟨_,rfl⟩ | ⟨_,_,h0,_⟩
  ·exact put_new w b A cap N x h hx
  ·cases h0
theorem find_any(w:World)(b:Nat)(m:Option Nat)(N:Nat)(xs:List (List UInt8))(x:List UInt8)(v:Value)(hb:Box w b 48 #[.map m,v])(hs:Held w m N xs)(hx:WF x) :
 Calls Tryz.prog 26 #[.pointer (some ⟨b,0,none⟩),encStr x] w fun e w'=>e=.returned (.tuple #[.int .i64 (noOf xs x:Nat),.bool (decide (x∈xs))])∧w=w':=by
 have hl:=hs.look x hx;have c0:w.cell? ⟨b,0,none⟩=some (.map m):=hb.cell 0;generalize noOf xs x=r at *;generalize decide (x∈xs)=q at *;clear hb hs hx;go_enter Tryz.func26,Tryz.ntmps26;go_wp2_with fail;go_ret2;exact⟨rfl,rfl⟩
end ins
namespace ym
open RowKit Shelf mem
open ins
structure TbU(o:Value)(w:World)(b:Nat)(A:Option Addr)(cap:Nat)(m:Option Nat)(N:Nat)(xs:List (List UInt8)):Prop where
 box:Box w b 51 #[.map m,.slice A xs.length cap,o]
 seg:Seg w 9 A cap (vals xs)
 set:Held w m N xs
 nod:xs.Nodup
 wf:∀x∈xs,WF x
 len:xs.length≤N
section
variable {o:Value}
theorem TbU.lt{w:World}{b:Nat}{A:Option Addr}{cap:Nat}{m:Option Nat}{N:Nat}{xs:List (List UInt8)}(h:TbU o w b A cap m N xs):∀g∈foot b A m,g<w.heap.size:=by
 intro g hg;simp only[foot,List.mem_cons,List.mem_append]at hg;rcases hg with rfl | hg | hg
 ·exact h.box.lt
 ·exact h.seg.lt g hg
 ·exact h.set.lt g hg
theorem TbU.kept{F:List Nat}{w w':World}{b:Nat}{A:Option Addr}{cap:Nat}{m:Option Nat}{N:Nat}{xs:List (List UInt8)}(h:TbU o w b A cap m N xs)(hf:Fr F w w')(hd:∀g∈foot b A m,g∉F):TbU o w' b A cap m N xs:=
 ⟨h.box.kept hf (hd b (by simp[foot])),h.seg.kept hf (fun g hg=>hd g (by simp[foot,hg])),h.set.kept hf (fun g hg=>hd g (by simp only[foot,List.mem_cons,List.mem_append];exact Or.inr (Or.inr hg))),h.nod,h.wf,h.len⟩
theorem put_oldU(w:World)(b:Nat)(A:Option Addr)(cap:Nat)(m:Option Nat)(N:Nat)(xs:List (List UInt8))(x:List UInt8)(h:TbU o w b A cap m N xs)(hx:WF x)(hin:x∈xs) :
 Calls Tryz.prog 13 #[.pointer (some ⟨b,0,none⟩),encStr x] w fun e w'=>e=.returned (.tuple #[.int .i64 (noOf xs x:Nat),.bool false])∧Below w.heap.size w w':=by
 have hl:=h.set.look x hx;rw[decide_eq_true hin]at hl;have c0:w.cell? ⟨b,0,none⟩=some (.map m):=h.box.cell 0;generalize noOf xs x=r at *;clear h hx hin;go_enter Tryz.func13,Tryz.ntmps13;go_wp2_with fail;go_ret2;exact⟨rfl,(Below.refl _ _)⟩
end
end ym
namespace ym
open RowKit Shelf mem
open ins
open inn (info_str)
def PutPostU(o:Value)(w:World)(b:Nat)(A:Option Addr)(m:Option Nat)(N:Nat)(xs:List (List UInt8))(x:List UInt8)(e:Ending)(w':World):Prop:=
 e=.returned (.tuple #[.int .i64 (xs.length:Nat),.bool true])∧Fr (foot b A m) w w'∧∃A' cap' m',TbU o w' b A' cap' m' (N+1) (xs++[x])∧∀g∈foot b A' m',g∈foot b A m∨w.heap.size≤g
section
variable {o:Value}
theorem put_endU{w w2 w3:World}{b:Nat}{A A':Option Addr}{cap cap' mb N:Nat}{m:Option Nat}{xs:List (List UInt8)}{x:List UInt8}{D:DataW Unit}{ob:Obj}(hwf:∀y∈xs,WF y)(hx:WF x)(hin:x∉xs)(hnod:xs.Nodup)(hlen:xs.length≤N)(hbA:b∈foot b A m)
 (f2:Fr (foot b A m) w w2) (hb2:Box w2 b 51 #[.map (some mb),.slice A xs.length cap,o]) (ho2:w2.ownsMap (H:=Unit) Tryz.prog 9 (plainElem Tryz.prog 3) mb (N+1) (D.put (.string x) (.lit (.int .i64 (xs.length:Nat))))) (hD:Maps.IsMap D) (hh:Reads D xs) (hmb:mb∈foot b A m∨w.heap.size≤mb)
 (hbl:b∉blk A) (hml:mb∉blk A) (hs3:Seg w3 9 A' cap' (vals xs++[encStr x])) (f3:Fr (blk A) (w2.alloc ob) w3) (hf3:blk A'=blk A∨blk A'=[(w2.alloc ob).heap.size]) :
 PutPostU o w b A m N xs x (.returned (.tuple #[.int .i64 (xs.length:Nat),.bool true])) (w3.setCell ⟨b,1,none⟩ (.slice A' (xs.length+1) cap')):=by
 have hb3:Box w3 b 51 #[.map (some mb),.slice A xs.length cap,o]:=(hb2.kept ((Fr.refl [] w2).alloc ob) (by simp)).kept f3 hbl;have fall:Fr (blk A) w2 w3:=((Fr.refl (blk A) w2).alloc ob).trans f3 (fun g hg=>Or.inl hg) (fun g hg=>Or.inl hg);obtain⟨es,clock,hmh,hr⟩:=ho2;have hmh3:w3.heap[mb]? = some (.map es clock):=(fall.block mb (Array.getElem?_eq_some_iff.1 hmh).1 hml).trans hmh;have hmlt:mb<w2.heap.size:=(Array.getElem?_eq_some_iff.1 hmh).1;have hne:mb≠b:=fun e=>by
  subst e;unfold Box at hb2;rw[hb2]at hmh;cases hmh
 have fw:Fr (foot b A m) w w3:=f2.trans fall (fun g hg=>Or.inl hg) (fun g hg=>Or.inl (by simp only[foot,List.mem_cons,List.mem_append];exact Or.inr (Or.inl hg)));have hfb:∀g∈blk A',g∈blk A∨w2.heap.size≤g:=by
  intro g hg;rcases hf3 with e | e
  ·exact Or.inl (e ▸ hg)
  ·right
   rw[e,List.mem_singleton]at hg;subst hg;simp
 have hb4:b∉blk A':=by
  intro hm;rcases hfb b hm with h | h
  ·exact hbl h
  ·have:=hb2.lt;omega
 refine⟨rfl,fw.setCell (Or.inl hbA) _,A',cap',some mb,⟨?_,?_,?_,?_,?_,by simpa using hlen⟩,?_⟩
 ·have:=hb3.put 1 (.slice A' (xs.length+1) cap')
  simpa using this
 ·rw[←vals_snoc]
  exact hs3.kept ((Fr.refl [b] w3).setCell (Or.inl (by simp)) _) (fun g hg he=>by rw[List.mem_singleton]at he;subst he;exact hb4 hg)
 ·refine Or.inr ⟨mb,_,rfl,⟨es,clock,?_,hr⟩,reads_put hD hin hh⟩
  exact(Below.heap_setCell w3 _ _ mb hne).trans hmh3
 ·rw[List.nodup_append]
  refine⟨hnod,by simp,?_⟩;intro a ha c hc;rw[List.mem_singleton]at hc;subst hc;exact fun e=>hin (e ▸ ha)
 ·intro y hy
  rcases List.mem_append.1 hy with h | h
  ·exact hwf y h
  ·rw[List.mem_singleton]at h;subst h;exact hx
 ·intro g hg
  simp only[foot,List.mem_cons,List.mem_append,Option.toList_some,List.not_mem_nil,or_false]at hg;rcases hg with rfl | hg | rfl
  ·exact Or.inl hbA
  ·rcases hfb g hg with h | h
   ·left;simp only[foot,List.mem_cons,List.mem_append];exact Or.inr (Or.inl h)
   ·right;exact Nat.le_trans f2.size h
  ·exact hmb
theorem put_yesU(w:World)(b:Nat)(A:Option Addr)(cap:Nat)(mb N:Nat)(xs:List (List UInt8))(x:List UInt8)(h:TbU o w b A cap (some mb) N xs)(hx:WF x)(hin:x∉xs)(hN:N<1000000) :
 Calls Tryz.prog 13 #[.pointer (some ⟨b,0,none⟩),encStr x] w (PutPostU o w b A (some mb) N xs x):=by
 have hl:=h.set.look x hx;rw[decide_eq_false hin]at hl;have Hh:=hid h;have Hx:=hid hx;have Hin:=hid hin;have hlen:=h.len;have Hln:=hid (wf_len (n:=xs.length) (by omega));obtain⟨i0,hi0,hz0,hz1,hz2⟩:=info_parts info_str;have Hi:=hid hi0;have Hz0:=hid hz0;have Hz1:=hid hz1;have Hz2:=hid hz2;have hmn:∀(w:World),(binOp .eql 46 (.map (some mb)) (.map none)).run Tryz.prog w=.ok (.bool false) w:=fun w=>by rw[run_eql_map_nil w _ _ _ _ Tryz.underlying46];rfl
 have c0:w.cell? ⟨b,0,none⟩=some (.map (some mb)):=h.box.cell 0;have c1:w.cell? ⟨b,1,none⟩=some (.slice A xs.length cap):=h.box.cell 1;have hset:=h.set;rcases hset with⟨h0,_⟩ | ⟨mb',D,h0,ho,hD⟩
 ·cases h0
 injection h0 with h0;subst h0;have HD:=hid hD;have hne:=box_ne_map h.box ho;generalize noOf xs x=r at *;clear h hx hin hi0 hz0 hz1 hz2 hD;go_enter Tryz.func13,Tryz.ntmps13
 go_wp2_with (first
  | (at_mapUpdate
     refine wpList_mapUpdate_own _ rfl _ _ _ 46 rfl 9 3 (Maps.string_keyed Tryz.underlying9) Tryz.underlying46 (plainElem Tryz.prog 3) mb N D rfl ho (by unfold maxLen;omega) _ _ (.string x) rfl rfl (key_s Hx.out) (.lit (.int .i64 (xs.length:Nat))) [] (plainElem_int Tryz.underlying3 Hln.out) ?_;intro w2 ho2 hg2;have b2:Fr [mb] w w2:=(Fr.refl _ w).grown hg2 (fun k hk=>(by cases hk;exact Or.inl (by simp)));have Hb2:Hid (Box w2 b 51 #[.map (some mb),.slice A xs.length cap,o]):=hid ((hg2.block b Hh.out.box.lt (fun e=>hne (by injection e))).trans Hh.out.box);have Hs2:Hid (Seg w2 9 A cap (vals xs)):=hid (Hh.out.seg.kept b2 (by intro g hg he;rw[List.mem_singleton]at he;subst he;exact seg_ne_map Hh.out.seg ho hg));have c2:w2.cell? ⟨b,1,none⟩=some (.slice A xs.length cap):=Hb2.out.cell 1;have f2:w2.frozen? ⟨b,1,none⟩=false:=Hb2.out.free 1
     have l2:=Hb2.out.lt)
  | (at_builtin
     refine wpList_push rfl _ _ _ rfl (Hs2.out.alloc _) (vals_len xs).symm Tryz.underlying31 Hi.out Hz0.out Hz1.out Hz2.out rfl rfl rfl (new_cell _ _ _) rfl (by omega) (by omega) ?_;intro A' cap' w3 hs3 b3 hf3;have Hb3:Hid (Box w3 b 51 #[.map (some mb),.slice A xs.length cap,o]):=hid ((Hb2.out.kept ((Fr.refl [] w2).alloc _) (by simp)).kept b3 (Hs2.out.ne_box Hb2.out (by decide)));have c3:w3.cell? ⟨b,1,none⟩=some (.slice A xs.length cap):=Hb3.out.cell 1
     have f3:w3.frozen? ⟨b,1,none⟩=false:=Hb3.out.free 1))
 go_ret2;exact put_endU Hh.out.wf Hx.out Hin.out Hh.out.nod hlen (by simp[foot]) ((Fr.refl _ _).trans b2 (fun g hg=>Or.inl hg) (fun g hg=>Or.inl (by rw[List.mem_singleton]at hg;subst hg;simp[foot]))) Hb2.out ho2 ho.isMap HD.out (Or.inl (by simp[foot])) (Hs2.out.ne_box Hb2.out (by decide)) (seg_ne_map Hs2.out ho2) hs3 b3 hf3
theorem put_newU(w:World)(b:Nat)(A:Option Addr)(cap N:Nat)(x:List UInt8)(h:TbU o w b A cap none N [])(hx:WF x) :
 Calls Tryz.prog 13 #[.pointer (some ⟨b,0,none⟩),encStr x] w (PutPostU o w b A none N [] x):=by
 have hl:=h.set.look x hx;rw[decide_eq_false (by simp)]at hl;have Hh:=hid h;have Hx:=hid hx;have Hln:=hid (wf_len (n:=0) (by omega));obtain⟨i0,hi0,hz0,hz1,hz2⟩:=info_parts info_str;have Hi:=hid hi0;have Hz0:=hid hz0;have Hz1:=hid hz1;have Hz2:=hid hz2;have hmn:∀(w:World),(binOp .eql 46 (.map none) (.map none)).run Tryz.prog w=.ok (.bool true) w:=fun w=>by rw[run_eql_map_nil w _ _ _ _ Tryz.underlying46];rfl
 have hmm:=@run_makeMap Tryz.prog;have c0:w.cell? ⟨b,0,none⟩=some (.map none):=h.box.cell 0;have c1:w.cell? ⟨b,1,none⟩=some (.slice A 0 cap):=h.box.cell 1;have f1:w.frozen? ⟨b,0,none⟩=false:=h.box.free 0;have l1:=h.box.lt;have Hbm:Hid (Box ((w.setCell ⟨b,0,none⟩ (.map (some w.heap.size))).alloc (.map #[] 0)) b 51 #[.map (some w.heap.size),.slice A 0 cap,o]):=hid ((h.box.put 0 _).kept ((Fr.refl [] _).alloc _) (by simp));have Ho:Hid (World.ownsMap (H:=Unit) ((w.setCell ⟨b,0,none⟩ (.map (some w.heap.size))).alloc (.map #[] 0)) Tryz.prog 9 (plainElem Tryz.prog 3) w.heap.size 0 (.map [])):=hid (by have h:=World.ownsMap_made (H:=Unit) (w.setCell ⟨b,0,none⟩ (.map (some w.heap.size))) Tryz.prog 9 (plainElem Tryz.prog 3);rw[show(w.setCell ⟨b,0,none⟩ (.map (some w.heap.size))).heap.size=w.heap.size by simp[World.setCell]]at h;exact h);have Hsm:Hid (Seg ((w.setCell ⟨b,0,none⟩ (.map (some w.heap.size))).alloc (.map #[] 0)) 9 A cap (vals [])):=hid ((h.seg.kept ((Fr.refl [b] _).setCell (Or.inl (by simp)) _) (fun g hg he=>by rw[List.mem_singleton]at he;subst he;exact h.seg.ne_box h.box (by decide) hg)).alloc _)
 have Fm:Hid (Fr (foot b A none) w ((w.setCell ⟨b,0,none⟩ (.map (some w.heap.size))).alloc (.map #[] 0))):=hid (((Fr.refl _ _).setCell (Or.inl (by simp[foot])) _).alloc _);have cm:((w.setCell ⟨b,0,none⟩ (.map (some w.heap.size))).alloc (.map #[] 0)).cell? ⟨b,1,none⟩=some (.slice A 0 cap):=Hbm.out.cell 1;have cm0:((w.setCell ⟨b,0,none⟩ (.map (some w.heap.size))).alloc (.map #[] 0)).cell? ⟨b,0,none⟩=some (.map (some w.heap.size)):=Hbm.out.cell 0;clear h hx hi0 hz0 hz1 hz2;have e0:noOf [] x=0:=rfl;rw[e0]at hl;go_enter Tryz.func13,Tryz.ntmps13
 go_wp2_with (first
  | (at_mapUpdate
     refine wpList_mapUpdate_own _ rfl _ _ _ 46 rfl 9 3 (Maps.string_keyed Tryz.underlying9) Tryz.underlying46 (plainElem Tryz.prog 3) w.heap.size 0 (.map []) rfl Ho.out (by unfold maxLen;omega) _ _ (.string x) rfl rfl (key_s Hx.out) (.lit (.int .i64 (0:Nat))) [] (plainElem_int Tryz.underlying3 Hln.out) ?_;intro w2 ho2 hg2;have b2:Fr [w.heap.size] ((w.setCell ⟨b,0,none⟩ (.map (some w.heap.size))).alloc (.map #[] 0)) w2:=(Fr.refl _ _).grown hg2 (fun k hk=>(by cases hk;exact Or.inl (by simp)));have Hb2:Hid (Box w2 b 51 #[.map (some w.heap.size),.slice A 0 cap,o]):=hid (Hbm.out.kept b2 (by simp;omega));have Hs2:Hid (Seg w2 9 A cap (vals [])):=hid (Hsm.out.kept b2 (by intro g hg he;rw[List.mem_singleton]at he;subst he;exact seg_ne_map Hsm.out Ho.out hg));have c2:w2.cell? ⟨b,1,none⟩=some (.slice A 0 cap):=Hb2.out.cell 1;have f2:w2.frozen? ⟨b,1,none⟩=false:=Hb2.out.free 1
     have l2:=Hb2.out.lt)
  | (at_builtin
     refine wpList_push (n:=0) rfl _ _ _ rfl (Hs2.out.alloc _) rfl Tryz.underlying31 Hi.out Hz0.out Hz1.out Hz2.out rfl rfl rfl (new_cell _ _ _) rfl (by omega) (by omega) ?_;intro A' cap' w3 hs3 b3 hf3;have Hb3:Hid (Box w3 b 51 #[.map (some w.heap.size),.slice A 0 cap,o]):=hid ((Hb2.out.kept ((Fr.refl [] w2).alloc _) (by simp)).kept b3 (Hs2.out.ne_box Hb2.out (by decide)));have c3:w3.cell? ⟨b,1,none⟩=some (.slice A 0 cap):=Hb3.out.cell 1
     have f3:w3.frozen? ⟨b,1,none⟩=false:=Hb3.out.free 1))
 go_ret2;exact put_endU (mb:=w.heap.size) (xs:=[]) (by simp) Hx.out (by simp) (by simp) (by simp) (by simp[foot]) (Fm.out.trans b2 (fun g hg=>Or.inl hg) (fun g hg=>Or.inr (by rw[List.mem_singleton]at hg;subst hg;exact Nat.le_refl _))) Hb2.out (ho2.mono (by omega)) ⟨[],rfl⟩ (by intro y _;exact⟨rfl,rfl⟩) (Or.inr (Nat.le_refl _)) (Hs2.out.ne_box Hb2.out (by decide)) (seg_ne_map Hs2.out ho2) hs3 b3 hf3
theorem put_anyU(w:World)(b:Nat)(A:Option Addr)(cap:Nat)(m:Option Nat)(N:Nat)(xs:List (List UInt8))(x:List UInt8)(h:TbU o w b A cap m N xs)(hx:WF x)(hin:x∉xs)(hN:N<1000000) :
 Calls Tryz.prog 13 #[.pointer (some ⟨b,0,none⟩),encStr x] w (PutPostU o w b A m N xs x):=by
 cases m with
 | some mb=>exact put_yesU w b A cap mb N xs x h hx hin hN
 | none=>
  rcases h.set with⟨_,rfl⟩ | ⟨_,_,h0,_⟩
  ·exact put_newU w b A cap N x h hx
  ·cases h0
end
end ym
namespace ins
open RowKit Shelf mem inn
attribute [local go_sem] Oper.semAt_some
theorem rising_new(w:World)(b:Nat):Calls Tryz.prog 15 #[.pointer (some ⟨b,0,none⟩)] w fun e w'=>e=.returned (.func (.func 41) #[] #[.pointer (some ⟨w.heap.size,0,none⟩)])∧w'=w.alloc (.cells #[.pointer (some ⟨b,0,none⟩)] 80):=by
 go_enter Tryz.func15,Tryz.ntmps15;go_wp2_with fail;go_ret;exact⟨rfl,rfl⟩
theorem Held.look1{w:World}{m:Option Nat}{N:Nat}{xs:List (List UInt8)}(h:Held w m N xs)(x:List UInt8)(hx:WF x) :
 (Instr.lookup 46 (.map m) (encStr x) false).run Tryz.prog w=.ok (.int .i64 (noOf xs x:Nat)) w:=by
 have hz:(zeroValue 3).run Tryz.prog w=.ok (.int .i64 0) w:=by kernel_rfl
 rcases h with⟨rfl,rfl⟩ | ⟨b,D,rfl,ho,hh⟩
 ·exact Maps.look_nil (w:=w) false (Maps.string_keyed Tryz.underlying9) Tryz.underlying46 hz (key_s hx)
 ·obtain⟨_,h2⟩:=hh x hx
  obtain⟨es,clock,hb,F,_,rfl⟩:=ho;rcases Maps.fit_look false (Maps.string_keyed Tryz.underlying9) Tryz.underlying46 hz hb F (key_s hx)with⟨hrun,_,hat⟩ | ⟨e0,y,_,_,hrun,hRv,hat,_⟩
  ·rw[hat]at h2
   injection h2 with h2;injection h2 with _ h2;rw[←h2];exact hrun
  ·obtain⟨c,hv,hc,_⟩:=plainElem_int_inv Tryz.underlying3 hRv
   rw[hat,hc]at h2;injection h2 with h2;injection h2 with _ h2;rw[←h2,←hv];exact hrun
end ins
namespace rng
open RowKit Go.Sort Shelf mem
open inn (rsS mem_rsS clone_s sort_s compact_s clone0_s CB rs_len grown_of below_fr sorted_s intoAll rising_in_s)
attribute [local go_sem] Oper.semAt_some
theorem ownF_b{β:Type}{B:Nat}{I:β→World→Prop}(h:OwnFrom B I){s:β}{W W':World}(hs:I s W)(hb:Below W.heap.size W W'):I s W':=
 h s W W' none hs (grown_of hb) fun r e=>by cases e
theorem OwnS.below{B:Nat}{Own:World→Nat→Prop}(h:OwnS B Own){k:Nat}{W W':World}(hB:B≤W.heap.size)(hk:Own W' k)(hb:Below W.heap.size W W'):Own W k:=
 h k W W' none hB hk (grown_of hb) fun r e=>by cases e
theorem cb_ko{α:Type}{enc:α→Value}{e:TypeId}{Own:World→Nat→Prop}{w w':World}{g cap:Nat}{xs:List α}(h:CB enc e w g cap xs)(hk:KO Own w w')(hg:¬Own w g):CB enc e w' g cap xs:=
 h.kept _ (hk.same g h.lt hg)
theorem ris1(n:Nat)(hn:2≤n)(l Bn:Nat)(A:Option Addr)(c:Nat)(ss:List (List UInt8))(hz:0<ss.length)(hbig:ss.length≤1000000)(Pw:List UInt8→Prop)(zs:List {x:List UInt8 // Pw x})(hzs:zs.map (·.1)=rsS ss)(J Jx:List {x:List UInt8 // Pw x}→World→Prop)(Own:World→Nat→Prop)
 (W:World) (hJ:OwnFrom W.heap.size J) (hO:∀k,Own W k→k<W.heap.size) (hS:OwnS W.heap.size Own)
 (hY:∀pre x W1,J pre W1→pre.length<(rsS ss).length→YieldAt Fence.wide (n-1) Tryz.prog l #[encStr x.1] W1 fun e W'=>
  (e=.returned (.bool true)∧J (pre++[x]) W'∧KO Own W1 W')∨(e=.returned (.bool false)∧Jx (pre++[x]) W'∧KO Own W1 W'))
 (hBn:W.cell? ⟨Bn,0,none⟩=some (.slice A ss.length c)) (hA:Rd W A (ss.map encStr)) (h0:J [] W) :
 CallsIn Fence.wide n Tryz.prog 72 #[.func (.yield l) #[] #[],.pointer (some ⟨Bn,0,none⟩)] W fun e W'=>(∃v,e=.returned v) ∧
  ((∃ys:List {x:List UInt8 // Pw x},ys.map (·.1)=rsS ss∧J ys W')∨(∃pre:List {x:List UInt8 // Pw x},pre.map (·.1) <+: rsS ss∧Jx pre W')):=by
 have K1:=clone_s W A c ss hA hz hbig;refine callsIn_of_wp Tryz.func72 rfl trivial ?_ rfl;simp only[Tryz.ntmps72,List.size_toArray,List.length_cons,List.length_nil,Nat.reduceAdd,Nat.reduceSub,Array.replicate_succ,Array.replicate_zero,List.push_toArray,List.append_toArray,List.nil_append,List.cons_append]
 gi_wp2_with (refine⟨trivial,fun _=>(by omega),?_⟩;gi_at_call 73;refine(callsIn_wide.2 K1).mono ?_;rintro e w1 ⟨g,cap,rfl,hg,hcb,hb1⟩)
 have K2:=sort_s w1 g cap ss hcb hbig;clear K1 hA hBn
 gi_wp2_with (refine⟨trivial,fun _=>(by omega),?_⟩;gi_at_call 74;refine(callsIn_wide.2 K2).mono ?_;rintro e w2 ⟨rfl,hcb2,hf2⟩)
 have K3:=compact_s w2 g cap _ hcb2 (by simpa using hbig);rw[sorted_s,List.length_mergeSort]at K3;clear K2
 gi_wp2_with (refine⟨trivial,fun _=>(by omega),?_⟩;gi_at_call 75;refine(callsIn_wide.2 K3).mono ?_;rintro e w3 ⟨rfl,hcb3,hf3⟩)
 have hb3:=below_fr (below_fr hb1 hf2 hg) hf3 hg;have HJ:=hid (ownF_b hJ h0 hb3);have HC:Hid (CB encStr 9 w3 g cap (rsS ss)):=hid hcb3;have HN:Hid (¬Own w3 g):=hid (fun h=>by have:=hO g (hS.below (Nat.le_refl _) h hb3);omega);have hlen:(rsS ss).length≤1000000:=by have:=rs_len ss;omega
 have hzl:zs.length=(rsS ss).length:=by rw[←hzs,List.length_map]
 have HZ:Hid (zs.map (·.1)=rsS ss):=hid hzs;change Hid _ at HJ;clear K3 hcb hcb2 hcb3 hf2 hf3 hb1 hb3 h0 hJ hg hO hS hzs;have hrs:intoAll (fun a b:List UInt8=>a<b) ss=rsS ss:=rfl;simp only[hrs]at *;clear hrs
 gi_loopw [13] (fun i wr=>∃k:Nat,k≤(rsS ss).length∧i=.int .i64 k∧Hid (J (zs.take k) wr)∧Hid (CB encStr 9 wr g cap (rsS ss))∧Hid (¬Own wr g)) (fun i _=>(rsS ss).length-(intOf i).toNat)
 case atStart=>exact⟨0,by omega,rfl,HJ,HC,HN⟩
 case round=>
  obtain⟨k,hk,rfl,hj,hc,hno⟩:=hrel;rename_i wr;by_cases hkl:k<(rsS ss).length
  ·have e1:decide ((k:Int)<((rsS ss).length:Int))=true:=decide_eq_true (by omega)
   have ck:=hc.out.cell encStr k hkl;have hkz:k<zs.length:=by rw[hzl];exact hkl
   have hzk:(zs[k]'hkz).1=(rsS ss)[k]'hkl:=by
    have h1:(zs.map (·.1))[k]? = (rsS ss)[k]?:=by rw[HZ.out]
    rw[List.getElem?_map,List.getElem?_eq_getElem hkz,List.getElem?_eq_getElem hkl]at h1;exact Option.some.inj h1
   obtain⟨fn,tmps,assign,body,hy,hR⟩:=hY (zs.take k) (zs[k]'hkz) wr hj.out (by rw[List.length_take];omega);rw[←List.take_succ_eq_append_getElem hkz]at hR;rw[hzk]at hy;have hpre:Hid ((zs.take (k+1)).map (·.1) <+: (rsS ss)):=hid (by rw[←HZ.out];exact(List.take_prefix _ _).map _);clear hzk;generalize (rsS ss)[k] = y at *
   gi_wp2
   refine⟨fun _=>(by omega),hR.mono ?_⟩;rintro e W3 (⟨rfl,hJ3,hk3⟩ | ⟨rfl,hJx3,_⟩)
   ·have HJ3:=hid hJ3
    have HC3:=hid (cb_ko hc.out hk3 hno.out);have HN3:=hid (hk3.not hc.out.lt hno.out);clear hJ3 hk3
    gi_wp2
    go_roundw
    case rel=>exact⟨k+1,by omega,by go_num,HJ3,HC3,HN3⟩
    case measure=>simp[intOf];omega
   ·have HJx3:=hid hJx3
    clear hJx3
    gi_wp2
    refine bodyPost_ret (results_none rfl _ _ _) rfl ?_;exact⟨⟨_,rfl⟩,.inr ⟨_,hpre.out,HJx3.out⟩⟩
  ·obtain rfl:k=(rsS ss).length:=by omega
   have e1:decide (((rsS ss).length:Int)<((rsS ss).length:Int))=false:=decide_eq_false (by omega);have hj2:Hid (J zs wr):=hid (by have:=hj.out;rwa[List.take_of_length_le (by omega)]at this);clear hj
   gi_wp2
   go_end0;exact⟨⟨_,rfl⟩,.inl ⟨_,HZ.out,hj2.out⟩⟩
theorem ris0{α:Type}(n:Nat)(hn:2≤n)(l Bn:Nat)(A:Option Addr)(c:Nat)(J:List α→World→Prop)
 (W:World) (hJ:OwnFrom W.heap.size J)
 (hBn:W.cell? ⟨Bn,0,none⟩=some (.slice A 0 c)) (h0:J [] W) :
 CallsIn Fence.wide n Tryz.prog 72 #[.func (.yield l) #[] #[],.pointer (some ⟨Bn,0,none⟩)] W fun e W'=>(∃v,e=.returned v)∧J [] W':=by
 have K1:=clone0_s W A c;refine callsIn_of_wp Tryz.func72 rfl trivial ?_ rfl;simp only[Tryz.ntmps72,List.size_toArray,List.length_cons,List.length_nil,Nat.reduceAdd,Nat.reduceSub,Array.replicate_succ,Array.replicate_zero,List.push_toArray,List.append_toArray,List.nil_append,List.cons_append]
 gi_wp2_with (refine⟨trivial,fun _=>(by omega),?_⟩;gi_at_call 73;refine(callsIn_wide.2 K1).mono ?_;rintro e w1 ⟨B,cap,rfl,hb1⟩)
 have K2:=Tryz.slices_Sort_string_none B cap w1;clear K1 hBn
 gi_wp2_with (refine⟨trivial,fun _=>(by omega),?_⟩;gi_at_call 74;refine(callsIn_wide.2 K2).mono ?_;rintro e w2 ⟨rfl,hw2⟩)
 subst hw2;have K3:=Tryz.slices_Compact_string_empty B cap w2;clear K2
 gi_wp2_with (refine⟨trivial,fun _=>(by omega),?_⟩;gi_at_call 75;refine(callsIn_wide.2 K3).mono ?_;rintro e w3 ⟨rfl,hw3⟩)
 subst hw3;have HJ:=hid (ownF_b hJ h0 hb1);clear K3 hJ h0 hb1
 gi_loopw [13] (fun i wr=>i=.int .i64 0∧w3=wr) (fun _ _=>0)
 case atStart=>exact⟨rfl,rfl⟩
 case round=>
  obtain⟨rfl,rfl⟩:=hrel
  gi_wp2
  go_end0;exact⟨⟨_,rfl⟩,HJ.out⟩
theorem ris_own(Pw:List UInt8→Prop)(n:Nat)(hn:2≤n)(Bn:Nat)(A:Option Addr)(c:Nat)(ss:List (List UInt8))(hP:∀x∈ss,Pw x)(hbig:ss.length≤1000000)(w:World)(hBn:Bn<w.heap.size)(hc:w.cell? ⟨Bn,0,none⟩=some (.slice A ss.length c))(hA:Rd w A (ss.map encStr)) :
 SeqO n Tryz.prog 72 #[.pointer (some ⟨Bn,0,none⟩)] (fun x:{x:List UInt8 // Pw x}=>#[encStr x.1]) (fun ys=>ys.map (·.1)=rsS ss) (fun pre=>pre.map (·.1) <+: rsS ss) (rsS ss).length [] w:=fun l J Jx Own W hW hJ hJx hO _ hS hY h0=>by
 have hcW:=(hW.cell (p:=⟨Bn,0,none⟩) hBn).trans hc;rcases Nat.eq_zero_or_pos ss.length with hz | hz
 ·obtain rfl:ss=[]:=List.eq_nil_of_length_eq_zero hz
  refine(ris0 n hn l Bn A c J W hJ hcW h0).mono ?_;rintro e W' ⟨hv,hj⟩;exact⟨hv,.inl ⟨[],rfl,hj⟩⟩
 ·have hP2:∀x∈rsS ss,Pw x:=fun x hx=>hP x ((mem_rsS ss x).1 hx)
  exact ris1 n hn l Bn A c ss hz hbig Pw ((rsS ss).pmap (fun a h=>⟨a,h⟩) hP2) (by rw[List.map_pmap];simp) J Jx Own W hJ hO hS hY hcW (hA.below hW) h0
end rng
namespace rng
open RowKit Go.Sort Shelf mem
open ins (Tb WF Held noOf)
attribute [local go_sem] Oper.semAt_some
theorem round_any{P:Program}{l l' m m':Nat}{f:FuncId}{tmps:Array Value}{asg bd:Code}{w:World}{R:Ending→World→Prop}(h:RoundIn Fence.wide m P l f tmps asg bd w R):RoundIn (Fence.wide.inRound l') m' P l f tmps asg bd w R:=
 ⟨h.1,fun c cs _=>h.2 c cs (room_wide _)⟩
theorem yield_step{P:Program}{l l' m n:Nat}{o:Oper}{a:Act}{w:World}{K:Act→World→Prop}{Q:Exit→Act→World→Prop}(x:Operand)(xs:Array Operand)(ts:Array TypeId)(ho:o.op=.call { callee:=.value x,args:=xs,argTypes:=ts })
 (hx:a.eval x=.func (.yield l) #[] #[]) {vs:Array Value} (hv:xs.map a.eval=vs) (h:YieldAt Fence.wide m P l vs w fun e w'=>∃v,e=.returned v∧K (a.put o.dst v) w'):o.wpIn (Fence.wide.inRound l') n P a w K Q:=by
 obtain⟨fn,tmps,asg,bd,hy,hR⟩:=h;refine⟨fun _ _=>trivial,?_⟩;rw[Oper.semAt_plain _ _ _ (fun c hc=>by rw[ho]at hc;cases hc)];have hrun:(execOp a.eval o).run P w=.ok (.round l fn tmps asg bd) w:=by
  subst hv;unfold execOp;simp only[ho,resolve,hx,Deferred.ofValue,Sem.run_bind,Sem.run_pure,Result.andThen_ok,invoke,Array.empty_append,hy]
 rw[hrun];refine⟨fun hh=>(by simp[Fence.wide]at hh),(round_any hR).mono ?_⟩;rintro e w' ⟨v,rfl,hk⟩;exact hk
theorem opsIn_cons{F:Fence}{n i:Nat}{P:Program}{ops:Array Oper}{Q:Exit→Act→World→Prop}{rest:List Nat}{a:Act}{w:World}{o:Oper}(ho:ops[i]? = some o)(hg:o.guard=none)(h:o.wpIn F n P a w (wpOpsIn F n P ops Q rest) Q):wpOpsIn F n P ops Q (i :: rest) a w:=by
 unfold wpOpsIn;rw[ho];simp only[Region.wanted,hg,if_true];exact h
end rng
namespace ym
open RowKit Shelf mem
open ins
open Go.Sort rng
open inn (rsS mem_rsS rising_in_s box_grown)
attribute [local go_sem] Oper.semAt_some
structure RIU(o:Value)(W:World)(tb yb b:Nat)(m:Option Nat)(N:Nat)(xs:List (List UInt8))(fv v:Value):Prop where
 tb:Box W tb 80 #[.pointer (some ⟨b,0,none⟩)]
 yb:Box W yb 87 #[fv]
 bx:Box W b 51 #[.map m,v,o]
 set:Held W m N xs
section
variable {o:Value}
theorem RIU.grown{W W':World}{tb yb b:Nat}{m:Option Nat}{N B:Nat}{xs:List (List UInt8)}{fv v:Value}{row:Option Nat}(h:RIU o W tb yb b m N xs fv v)(hm:∀g∈m.toList,g<B)(hg:W.grownBy W' row)(hr:∀r,row=some r→B≤r∧∃q:Obj,W.heap[r]? = some q∧q.isCells=false):RIU o W' tb yb b m N xs fv v:=by
 have hr2:∀r,row=some r→∃q:Obj,W.heap[r]? = some q∧q.isCells=false:=fun r e=>(hr r e).2
 refine⟨box_grown h.tb hg hr2,box_grown h.yb hg hr2,box_grown h.bx hg hr2,?_⟩;rcases h.set with⟨rfl,h0⟩ | ⟨mb,D,rfl,ho,hh⟩
 ·exact Or.inl ⟨rfl,h0⟩
 ·right
  obtain⟨es,clock,hb,r⟩:=ho;refine⟨mb,D,rfl,⟨es,clock,(hg.block mb (Array.getElem?_eq_some_iff.1 hb).1 (fun e=>?_)).trans hb,r⟩,hh⟩;have h1:=(hr mb e.symm).1;have h2:=hm mb (by simp);omega
theorem ri_koU{Own:World→Nat→Prop}{W W':World}{tb yb b:Nat}{m:Option Nat}{N:Nat}{xs:List (List UInt8)}{fv v:Value}(h:RIU o W tb yb b m N xs fv v)(hk:KO Own W W')(hn:∀k∈yb :: tb :: b :: m.toList,¬Own W k):RIU o W' tb yb b m N xs fv v∧∀k∈yb :: tb :: b :: m.toList,¬Own W' k:=by
 have hlt:∀k∈yb :: tb :: b :: m.toList,k<W.heap.size:=fun k hk=>by
  simp only[List.mem_cons]at hk;rcases hk with rfl | rfl | rfl | hk
  ·exact h.yb.lt
  ·exact h.tb.lt
  ·exact h.bx.lt
  ·exact h.set.lt k hk
 refine⟨⟨(hk.same tb h.tb.lt (hn tb (by simp))).trans h.tb,(hk.same yb h.yb.lt (hn yb (by simp))).trans h.yb,(hk.same b h.bx.lt (hn b (by simp))).trans h.bx,?_⟩,fun k hk2=>hk.not (hlt k hk2) (hn k hk2)⟩;rcases h.set with⟨rfl,h0⟩ | ⟨mb,D,rfl,ho,hh⟩
 ·exact Or.inl ⟨rfl,h0⟩
 ·right
  obtain⟨es,clock,hb,r⟩:=ho;exact⟨mb,D,rfl,⟨es,clock,(hk.same mb (Array.getElem?_eq_some_iff.1 hb).1 (hn mb (by simp))).trans hb,r⟩,hh⟩
theorem rise1U(n:Nat)(hn:4≤n)(l tb b:Nat)(A:Option Addr)(cap:Nat)(m:Option Nat)(N:Nat)(xs:List (List UInt8))(W:World)(hT:TbU o W b A cap m N xs)(htb:Box W tb 80 #[.pointer (some ⟨b,0,none⟩)])(hlen:xs.length≤1000000)
 (J Jx:List {x:List UInt8 // WF x}→World→Prop) (Own:World→Nat→Prop) (hJ:OwnFrom W.heap.size J) (hJx:OwnFrom W.heap.size Jx) (hO:∀k,Own W k→k<W.heap.size) (hZ:∀k∈tb :: b :: m.toList,¬Own W k) (hS:OwnS W.heap.size Own)
 (hY:∀pre x W1,J pre W1→pre.length<(rsS xs).length→YieldAt Fence.wide (n-1) Tryz.prog l #[encStr x.1,.int .i64 (noOf xs x.1:Nat)] W1 fun e W'=>
  (e=.returned (.bool true)∧J (pre++[x]) W'∧KO Own W1 W')∨(e=.returned (.bool false)∧Jx (pre++[x]) W'∧KO Own W1 W'))
 (h0:J [] W) :
 CallsIn Fence.wide n Tryz.prog 41 #[.func (.yield l) #[] #[],.pointer (some ⟨tb,0,none⟩)] W fun e W'=>(∃v,e=.returned v) ∧
  ((∃ys:List {x:List UInt8 // WF x},ys.map (·.1)=rsS xs∧J ys W')∨(∃pre:List {x:List UInt8 // WF x},pre.map (·.1) <+: rsS xs∧Jx pre W')):=by
 have fr1:Fr [] W (W.alloc (.cells #[.func (.yield l) #[] #[]] 87)):=(Fr.refl [] W).alloc _;have hT1:=hT.kept fr1 (by simp);have htb1:=htb.kept fr1 (by simp);have c0:(W.alloc (.cells #[.func (.yield l) #[] #[]] 87)).cell? ⟨tb,0,none⟩=some (.pointer (some ⟨b,0,none⟩)):=htb1.cell 0;have c1:(W.alloc (.cells #[.func (.yield l) #[] #[]] 87)).cell? ⟨b,1,none⟩=some (.slice A xs.length cap):=hT1.box.cell 1;have Hall:=hid (And.intro hT (And.intro htb (And.intro hJ (And.intro hJx (And.intro h0 (And.intro hO (And.intro hZ (And.intro hS hY))))))));clear hT htb hJ hJx h0 hO hZ hS hY hT1 htb1;refine callsIn_of_wp_marks Tryz.func41 rfl trivial ?_ rfl;simp only[Tryz.ntmps41,List.size_toArray,List.length_cons,List.length_nil,Nat.reduceAdd,Nat.reduceSub,Array.replicate_succ,Array.replicate_zero,List.push_toArray,List.append_toArray,List.nil_append,List.cons_append]
 gi_wp2_with (refine⟨trivial,fun _=>(by omega),?_⟩;gi_at_call 42;refine(rising_in_s _ A xs.length cap _).mono ?_;rintro e w' ⟨rfl,rfl⟩)
 obtain⟨W0,hW0⟩:∃W0,Hid (W0=(W.alloc (.cells #[.func (.yield l) #[] #[]] 87)).alloc (.cells #[.slice A xs.length cap] 31)):=⟨_,hid rfl⟩;obtain⟨hT,htb,hJ,hJx,h0,hO,hZ,hS,hY⟩:=Hall.out;have hsz:W0.heap.size=W.heap.size+2:=by rw[hW0.out];simp
 have hfr:Fr [] W W0:=by rw[hW0.out];exact((Fr.refl [] W).alloc _).alloc _
 have hyb:Box W0 W.heap.size 87 #[.func (.yield l) #[] #[]]:=by rw[hW0.out];exact(Box.new W _ _).kept ((Fr.refl [] _).alloc _) (by simp)
 have hRI:RIU o W0 tb W.heap.size b m N xs (.func (.yield l) #[] #[]) (.slice A xs.length cap):=⟨htb.kept hfr (by simp),hyb,hT.box.kept hfr (by simp),hT.set.kept hfr (by simp)⟩;have hJ0:J [] W0:=ownF_b hJ h0 hfr.all;have hO0:∀k,Own W0 k→k<W.heap.size:=fun k hk=>hO k (hS.below (Nat.le_refl _) hk hfr.all)
 have hno:∀k∈W.heap.size :: tb :: b :: m.toList,¬Own W0 k:=fun k hk h=>by
  rcases List.mem_cons.1 hk with rfl | hk
  ·have:=hO0 _ h;omega
  ·exact hZ k hk (hS.below (Nat.le_refl _) h hfr.all)
 have hbx:W0.cell? ⟨W.heap.size+1,0,none⟩=some (.slice A xs.length cap):=by
  rw[hW0.out];have:=new_cell (W.alloc (.cells #[.func (.yield l) #[] #[]] 87)) (.slice A xs.length cap) 31
  rwa[World.size_alloc]at this
 have hA0:Rd W0 A (xs.map encStr):=(hT.seg.kept hfr (by simp)).rd;have hml:∀g∈m.toList,g<W.heap.size:=hT.set.lt;have hwf:=hT.wf;rw[←hW0.out];clear Hall c0 c1 fr1 hW0 htb h0 hyb hO hZ hT;refine range_own (Own:=Own) (by omega) (gf:=72) (lb:=#[.pointer (some ⟨W.heap.size+1,0,none⟩)]) rfl (enters_of Tryz.func72 (by kernel_rfl) rfl)
  (ris_own WF _ (by omega) (W.heap.size+1) A cap xs hwf hlen W0 (by omega) hbx hA0) (Below.refl _ _) (fun _=>rfl) (fun k hk=>by have:=hO0 k hk;omega) (by simp) (hS.mono (by omega))
  (fun(pre:List {x:List UInt8 // WF x}) W1=>J pre W1∧RIU o W1 tb W.heap.size b m N xs (.func (.yield l) #[] #[]) (.slice A xs.length cap)∧∀k∈W.heap.size :: tb :: b :: m.toList,¬Own W1 k)
  (fun c (pre:List {x:List UInt8 // WF x}) W1=>c=.ret∧Jx pre W1)
  (fun(s:List {x:List UInt8 // WF x}) W1 W2 row hs hg hr=>⟨hJ s W1 W2 row hs.1 hg (fun r e=>⟨by have:=(hr r e).1;omega,(hr r e).2⟩),hs.2.1.grown (B:=W.heap.size) hml hg (fun r e=>⟨by have:=(hr r e).1;omega,(hr r e).2⟩),fun k hk h=>hs.2.2 k hk (hS k W1 W2 row (Nat.le_of_lt hs.2.1.yb.lt) h hg (fun r e=>⟨by have:=(hr r e).1;omega,(hr r e).2⟩))⟩)
  (fun c (s:List {x:List UInt8 // WF x}) W1 W2 row hs hg hr=>⟨hs.1,hJx s W1 W2 row hs.2 hg (fun r e=>⟨by have:=(hr r e).1;omega,(hr r e).2⟩)⟩)
  ⟨hJ0,hRI,hno⟩
  (fun x=>{ tmps:=#[.func (.yield l) #[] #[],.pointer (some ⟨tb,0,none⟩),.pointer (some ⟨W.heap.size,0,none⟩),encStr x.1,.pointer (some ⟨b,0,none⟩),.bool false,.pointer (some ⟨b,0,none⟩),.pointer (some ⟨b,0,none⟩),.pointer (some ⟨b,1,none⟩),.slice A xs.length cap,.func (.func 72) #[] #[.pointer (some ⟨W.heap.size+1,0,none⟩)],encStr x.1,undef,undef,undef,undef,undef,undef,undef,undef,undef,undef],defers:=[] }) ?assign ?body ?done ?stop
 case assign=>
  intro l2 x W1 K hK
  gi_wp2
  exact hK
 case body=>
  rintro l2 pre x W1 ⟨hj,hr,hn1⟩ hsz1 hO1 hlt;have hjd:J pre W1.drew:=hJ _ _ _ none hj ⟨rfl,rfl,rfl,Nat.le_refl _,fun _ _ _=>rfl⟩ (fun r e=>by cases e);have HC:=hid (hY pre x W1.drew hjd hlt);have HR:=hid hr;have HN:=hid hn1;have HS:=hid hS;obtain⟨S,hSd⟩:∃S:World→Prop,Hid (∀W',S W'↔(W'.cell? ⟨W.heap.size,0,none⟩=some (.func (.yield l) #[] #[])∧W'.cell? ⟨tb,0,none⟩=some (.pointer (some ⟨b,0,none⟩))∧W'.cell? ⟨b,0,none⟩=some (.map m)∧Held W' m N xs)):=⟨_,hid fun _=>Iff.rfl⟩;have hS1:S W1.drew:=(hSd.out _).2 ⟨hr.yb.cell 0,hr.tb.cell 0,hr.bx.cell 0,hr.set⟩;clear hJ hJx hY hRI hJ0 hbx hA0 hml hwf hj hjd hfr hr hn1 hno hO0 hO1 hS;obtain⟨x,hx⟩:=x;dsimp only at HC ⊢;refine wpIn_block ?_;refine wpIn_seq_k (fun K hK=>?_);refine region_tail_round 8 (S:=S) (by kernel_rfl) (by kernel_rfl) (by intro i o ho;rcases i with _ | _ | _ | _ | _ | _ | _ | _ | _ | _ | i <;> simp at ho <;> subst ho <;> exact⟨(fun c hc=>by cases hc),rfl⟩) (fun a w h=>h) ?_
  simp only[List.take_succ_cons,List.take_zero];refine wpAnyH_take (i:=0) (v:=(.func (.yield l) #[] #[])) rfl (by kernel_rfl) (by kernel_rfl) (by kernel_rfl) (fun _ _ _ h=>absurd h.1 (by simp)) (Or.inl ⟨by rfl,?_⟩) hS1 ?_
  ·intro W' hSw
   obtain⟨s1,s2,s3,s4⟩:=(hSd.out _).1 hSw;go_simp
  change wpAnyH _ _ _ _ _ _ _ (Act.put _ (some 12) _) _;simp only[Act.put,List.setIfInBounds_toArray,List.set_cons_zero,List.set_cons_succ];refine wpAnyH_take (i:=1) (v:=encStr x) rfl (by kernel_rfl) (by kernel_rfl) (by kernel_rfl) (fun _ _ _ h=>absurd h.1 (by simp)) (Or.inl ⟨by rfl,?_⟩) hS1 ?_
  ·intro W' hSw
   go_simp
  change wpAnyH _ _ _ _ _ _ _ (Act.put _ (some 13) _) _;simp only[Act.put,List.setIfInBounds_toArray,List.set_cons_zero,List.set_cons_succ];refine wpAnyH_take (i:=2) (v:=.pointer (some ⟨b,0,none⟩)) rfl (by kernel_rfl) (by kernel_rfl) (by kernel_rfl) (fun _ _ _ h=>absurd h.1 (by simp)) (Or.inl ⟨by rfl,?_⟩) hS1 ?_
  ·intro W' hSw
   obtain⟨s1,s2,s3,s4⟩:=(hSd.out _).1 hSw;go_simp
  change wpAnyH _ _ _ _ _ _ _ (Act.put _ (some 14) _) _;simp only[Act.put,List.setIfInBounds_toArray,List.set_cons_zero,List.set_cons_succ];refine wpAnyH_take (i:=3) (v:=.pointer (some ⟨b,0,none⟩)) rfl (by kernel_rfl) (by kernel_rfl) (by kernel_rfl) (fun _ _ _ h=>absurd h.1 (by simp)) (Or.inl ⟨by rfl,?_⟩) hS1 ?_
  ·intro W' hSw
   go_simp
  change wpAnyH _ _ _ _ _ _ _ (Act.put _ (some 15) _) _;simp only[Act.put,List.setIfInBounds_toArray,List.set_cons_zero,List.set_cons_succ];refine wpAnyH_take (i:=4) (v:=.pointer (some ⟨b,0,none⟩)) rfl (by kernel_rfl) (by kernel_rfl) (by kernel_rfl) (fun _ _ _ h=>absurd h.1 (by simp)) (Or.inl ⟨by rfl,?_⟩) hS1 ?_
  ·intro W' hSw
   go_simp
  change wpAnyH _ _ _ _ _ _ _ (Act.put _ (some 16) _) _;simp only[Act.put,List.setIfInBounds_toArray,List.set_cons_zero,List.set_cons_succ];refine wpAnyH_take (i:=5) (v:=.map m) rfl (by kernel_rfl) (by kernel_rfl) (by kernel_rfl) (fun _ _ _ h=>absurd h.1 (by simp)) (Or.inl ⟨by rfl,?_⟩) hS1 ?_
  ·intro W' hSw
   obtain⟨s1,s2,s3,s4⟩:=(hSd.out _).1 hSw;go_simp
  change wpAnyH _ _ _ _ _ _ _ (Act.put _ (some 17) _) _;simp only[Act.put,List.setIfInBounds_toArray,List.set_cons_zero,List.set_cons_succ];refine wpAnyH_take (i:=6) (v:=encStr x) rfl (by kernel_rfl) (by kernel_rfl) (by kernel_rfl) (fun _ _ _ h=>absurd h.1 (by simp)) (Or.inl ⟨by rfl,?_⟩) hS1 ?_
  ·intro W' hSw
   go_simp
  change wpAnyH _ _ _ _ _ _ _ (Act.put _ (some 18) _) _;simp only[Act.put,List.setIfInBounds_toArray,List.set_cons_zero,List.set_cons_succ];refine wpAnyH_take (i:=7) (v:=.int .i64 (noOf xs x:Nat)) rfl (by kernel_rfl) (by kernel_rfl) (by kernel_rfl) (fun _ _ _ h=>absurd h.1 (by simp)) (Or.inl ⟨by rfl,?_⟩) hS1 ?_
  ·intro W' hSw
   obtain⟨s1,s2,s3,s4⟩:=(hSd.out _).1 hSw;have hl:=s4.look1 x hx;go_simp
  change wpAnyH _ _ _ _ _ _ _ (Act.put _ (some 19) _) _;simp only[Act.put,List.setIfInBounds_toArray,List.set_cons_zero,List.set_cons_succ];refine wpAnyH_done (by kernel_rfl) ⟨rfl,?_⟩ _;refine opsIn_cons rfl rfl (yield_step (.tmp 12) #[.tmp 13,.tmp 19] _ rfl rfl (vs:=#[encStr x,.int .i64 (noOf xs x:Nat)]) (by simp only[List.map_toArray,List.map_cons,List.map_nil];rfl) (HC.out.mono ?_));rintro e W' hres;rcases hres with⟨rfl,hj2,hk2⟩ | ⟨rfl,hj2,hk2⟩
  ·refine⟨_,rfl,?_⟩
   have hk1:KO Own W1 W':=⟨hk2.size,fun k hk hn=>hk2.same k hk (fun h=>hn (HS.out.below (by omega) h ((Fr.refl [] W1).drew.all))),fun k hk=>(hk2.own k hk).imp (fun h=>HS.out.below (by omega) h ((Fr.refl [] W1).drew.all)) id,hk2.lt⟩;obtain⟨hR2,hN2⟩:=ri_koU HR.out hk1 HN.out;clear HC HR HN HS hk2 hSd hS1;refine opsIn_cons rfl rfl ⟨fun _ _=>trivial,?_⟩;rw[Oper.semAt_plain _ _ _ (fun c hc=>by cases hc)];go_simp;refine hK _ _ ?_;refine wpIn_cond_false rfl ?_
   gi_wp2
   exact⟨hk1,hj2,hR2,hN2⟩
  ·refine⟨_,rfl,?_⟩
   have hko:KO Own W1 W':=⟨hk2.size,fun k hk hn=>hk2.same k hk (fun h=>hn (HS.out.below (by omega) h ((Fr.refl [] W1).drew.all))),fun k hk=>(hk2.own k hk).imp (fun h=>HS.out.below (by omega) h ((Fr.refl [] W1).drew.all)) id,hk2.lt⟩;clear HC HR HN HS hSd hS1;refine opsIn_cons rfl rfl ⟨fun _ _=>trivial,?_⟩;rw[Oper.semAt_plain _ _ _ (fun c hc=>by cases hc)];go_simp;refine hK _ _ ?_;refine wpIn_cond_true rfl ?_
   gi_wp2
   exact⟨hko,rfl,hj2⟩
 case done=>
  rintro D ys W2 hD hys ⟨hj,hr,_⟩ hK
  gi_wp2
  refine⟨by simp,.inl ⟨_,_,rfl,run_takeDeferred hK,?_⟩⟩;have hw:=hJ.putObj (.deferred none) hj (by omega) hK rfl;exact⟨_,results_none rfl _ _ _,⟨_,rfl⟩,Or.inl ⟨ys,hys,hw⟩⟩
 case stop=>
  rintro D c pre W2 hD hpre ⟨rfl,hj⟩ hK
  gi_wp2
  refine⟨by simp,.inl ⟨_,_,rfl,run_takeDeferred hK,?_⟩⟩;have hw:=hJx.putObj (.deferred none) hj (by omega) hK rfl;exact⟨_,results_none rfl _ _ _,⟨_,rfl⟩,Or.inr ⟨_,hpre,hw⟩⟩
theorem rise_ownU(n:Nat)(hn:4≤n)(tb b:Nat)(A:Option Addr)(cap:Nat)(m:Option Nat)(N:Nat)(xs:List (List UInt8))(w:World)(hT:TbU o w b A cap m N xs)(htb:Box w tb 80 #[.pointer (some ⟨b,0,none⟩)])(hlen:xs.length≤1000000) :
 SeqO n Tryz.prog 41 #[.pointer (some ⟨tb,0,none⟩)] (fun x:{x:List UInt8 // WF x}=>#[encStr x.1,.int .i64 (noOf xs x.1:Nat)]) (fun ys=>ys.map (·.1)=rsS xs) (fun pre=>pre.map (·.1) <+: rsS xs) (rsS xs).length (tb :: b :: m.toList) w:=fun l J Jx Own W hW hJ hJx hO hZ hS hY h0=>
 rise1U n hn l tb b A cap m N xs W (hT.kept (Fr.of_below hW []) (by simp)) (htb.kept (Fr.of_below hW []) (by simp)) hlen J Jx Own hJ hJx hO hZ hS hY h0
end
end ym
namespace ins
open RowKit Shelf mem inn
def numV(xs:List (List UInt8))(x:List UInt8):Int:=if x∈xs then(noOf xs x:Nat) else -1
theorem numV_here{xs:List (List UInt8)}{x:List UInt8}{k:Nat}(hk:k<xs.length)(hx:xs[k] = x)(hn:x∉xs.take k):numV xs x=(k:Nat):=by
 have hm:x∈xs:=hx ▸ List.getElem_mem hk;unfold numV noOf;rw[if_pos hm,if_pos hm];have e:xs=xs.take k++x :: xs.drop (k+1):=by
  rw[←hx,←List.drop_eq_getElem_cons hk,List.take_append_drop]
 have:xs.idxOf x=k:=by
  rw[e,List.idxOf_append,if_neg hn];simp;omega
 rw[this]
theorem numV_none{xs:List (List UInt8)}{x:List UInt8}(hn:x∉xs):numV xs x=-1:=by unfold numV;rw[if_neg hn]
theorem number_any(w:World)(A:Option Addr)(cap:Nat)(xs:List (List UInt8))(x:List UInt8)(h:Rd w A (xs.map encStr))(hm:xs.length≤1000000) :
 Calls Tryz.prog 18 #[.slice A xs.length cap,encStr x] w fun e w'=>e=.returned (.int .i64 (numV xs x))∧w=w':=by
 have Hh:=hid h;have Hv:Hid (∀(k:Nat) (hk:k<xs.length),xs[k] = x→x∉xs.take k→numV xs x=(k:Nat)):=hid (fun k hk h1 h2=>numV_here hk h1 h2);have Hn:Hid (x∉xs→numV xs x=-1):=hid numV_none;clear h;generalize numV xs x=r at *;go_enter Tryz.func18,Tryz.ntmps18;go_wp2_with fail;go_loopw [5] (fun i wr=>∃k:Nat,k≤xs.length∧i=.int .i64 k∧Hid (x∉xs.take k)∧w=wr) (fun i _=>xs.length-(intOf i).toNat)
 case atStart=>exact⟨0,by omega,rfl,hid (by simp),rfl⟩
 case round=>
  obtain⟨k,hk,rfl,hnot,rfl⟩:=hrel;by_cases hkl:k<xs.length
  ·have e1:decide ((k:Int)<(xs.length:Int))=true:=decide_eq_true (by omega)
   obtain⟨g,off,rfl,hlt,hc⟩:=rd_str Hh.out (by omega);have c2:=hc k hkl;clear hc;rcases heq:(xs[k]==x)with _ | _
   ·unfold encStr at c2 ⊢
    go_wp2_with fail;go_roundw
    case rel=>
     refine⟨k+1,by omega,by go_num,hid ?_,trivial⟩;rw[List.take_succ_eq_append_getElem hkl,List.mem_append,List.mem_singleton];rintro(h | h)
     ·exact hnot.out h
     ·rw[←h]at heq;simp at heq
    case measure=>simp[intOf];omega
   ·have hr:=Hv.out k hkl (eq_of_beq heq) hnot.out
    unfold encStr at c2 ⊢;go_wp2_with fail;go_ret;exact⟨by rw[hr];rfl,rfl⟩
  ·obtain rfl:k=xs.length:=by omega
   have e1:decide ((xs.length:Int)<(xs.length:Int))=false:=decide_eq_false (by omega);have hr:=Hn.out (by have:=hnot.out;rwa[List.take_length]at this);unfold encStr;go_wp2_with fail;go_ret;exact⟨by rw[hr];rfl,rfl⟩
end ins
end Go.Proofs.YtlkboeajkgbnaaaGreatDoor
