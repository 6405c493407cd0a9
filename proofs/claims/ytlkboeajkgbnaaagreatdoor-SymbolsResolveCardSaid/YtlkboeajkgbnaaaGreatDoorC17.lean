import Derived.Handy
import Derived.Test.YtlkboeajkgbnaaaGreatDoorC24
import Derived.Test.YtlkboeajkgbnaaaGreatDoorC10
import Derived.Test.YtlkboeajkgbnaaaGreatDoorC27
set_option linter.all false
set_option maxHeartbeats 4000000
namespace Go.Proofs.YtlkboeajkgbnaaaGreatDoor
open Lib(hid)
set_option maxRecDepth 100000
namespace sf
open RowKit mem sy
def En(f:FuncId):Prop:=∀(args:Array Value) (w:World),(callFunc f args).run Tryz.prog w=.ok (.enter f args) w
def F0(w:World)(v r:Value):Prop:=∃f cap,v=.func (.func f) #[] cap∧En f∧∀w',Below w.heap.size w w'→Calls Tryz.prog f cap w' (fun e w''=>e=.returned r∧Below w'.heap.size w' w'')
def F1(w:World)(v:Value)(l:List ByteArray)(g:ByteArray→Bool):Prop:=∃f cap,v=.func (.func f) #[] cap∧En f∧∀w',Below w.heap.size w w'→∀s∈l,Calls Tryz.prog f (#[.string s]++cap) w' (fun e w''=>e=.returned (.bool (g s))∧Below w'.heap.size w' w'')
theorem F0.below{w w2:World}{v r:Value}(h:F0 w v r)(b:Below w.heap.size w w2):F0 w2 v r:=by
 obtain⟨f,cap,e,he,k⟩:=h;exact⟨f,cap,e,he,fun w' b'=>k w' (b.trans (b'.mono b.size))⟩
theorem F1.below{w w2:World}{v:Value}{l:List ByteArray}{g:ByteArray→Bool}(h:F1 w v l g)(b:Below w.heap.size w w2):F1 w2 v l g:=by
 obtain⟨f,cap,e,he,k⟩:=h;exact⟨f,cap,e,he,fun w' b'=>k w' (b.trans (b'.mono b.size))⟩
theorem need1_any(W:World)(b1 b2:Nat)(so:Value)(b:Bool)(c:Int)(h1:W.cell? ⟨b1,0,none⟩=some so)(h2:W.cell? ⟨b2,0,none⟩=some (.int .i64 c))(h:F0 W so (.bool b)):F0 W (.func (.func 54) #[] #[.pointer (some ⟨b1,0,none⟩),.pointer (some ⟨b2,0,none⟩)]) (.int .i64 (if b then 0 else c)):=by
 obtain⟨f,cap,rfl,hen,k⟩:=h;have HE:=hid hen;clear hen;refine⟨_,_,rfl,(fun args w=>by go_simp),fun w hw=>?_⟩;have l1:=block_lt_of_cell h1;have l2:=block_lt_of_cell h2;have c1:w.cell? ⟨b1,0,none⟩=some (.func (.func f) #[] cap):=(hw.cell l1).trans h1;have K:=hid (k w hw);have HC:Hid (∀w2,Below w.heap.size w w2→w2.cell? ⟨b2,0,none⟩=some (.int .i64 c)):=hid (fun w2 b=>(b.cell (Nat.lt_of_lt_of_le l2 hw.size)).trans ((hw.cell l2).trans h2));clear k l1 l2 h1 h2 hw;rcases b with _ | _
 ·go_enter Tryz.func54,Tryz.ntmps54
  go_wp2_with fail;rw[HE.out];refine K.out.mono ?_;rintro e w2 ⟨rfl,b2'⟩;have c2:=HC.out w2 b2';have B2:=hid b2';clear b2' K HC;go_wp2_with fail;go_ret;exact⟨rfl,B2.out⟩
 ·go_enter Tryz.func54,Tryz.ntmps54
  go_wp2_with fail;rw[HE.out];refine K.out.mono ?_;rintro e w2 ⟨rfl,b2'⟩;have B2:=hid b2';clear b2' K HC;go_wp2_with fail;go_ret;exact⟨rfl,B2.out⟩
def NP(w:World)(r:Value)(e:Ending)(w':World):Prop:=∃v,e=.returned v∧F0 w' v r∧Below w.heap.size w w'
theorem need_any(w:World)(so:Value)(b:Bool)(c:Int)(h:F0 w so (.bool b)):Calls Tryz.prog 29 #[so,.int .i64 c] w (NP w (.int .i64 (if b then 0 else c))):=by
 obtain⟨W,hWe⟩:∃W,Hid (W=(w.alloc (.cells #[so] 36)).alloc (.cells #[.int .i64 c] 25)):=⟨_,hid rfl⟩;have hz:(w.alloc (.cells #[so] 36)).heap.size=w.heap.size+1:=Array.size_push _;have b1:Below w.heap.size w (w.alloc (.cells #[so] 36)):=(Below.refl _ _).alloc (Nat.le_refl _) _;have b0:Below w.heap.size w W:=by rw[hWe.out];exact b1.alloc b1.size _
 have B1:Box W w.heap.size 36 #[so]:=by rw[hWe.out];exact(Box.new w _ _).kept ((Fr.refl [] _).alloc _) (by simp)
 have B2:Box W (w.heap.size+1) 25 #[.int .i64 c]:=by rw[hWe.out,←hz];exact Box.new _ _ _
 have hE:Hid (NP w (.int .i64 (if b then 0 else c)) (.returned (.func (.func 54) #[] #[.pointer (some ⟨w.heap.size,0,none⟩),.pointer (some ⟨w.heap.size+1,0,none⟩)])) W):=hid ⟨_,rfl,need1_any W _ _ so b c (B1.cell 0) (B2.cell 0) (h.below b0),b0⟩;obtain⟨r,hr⟩:∃r,Hid (r=Value.int .i64 (if b then 0 else c)):=⟨_,hid rfl⟩;rw[←hr.out]at hE ⊢;clear hr;obtain⟨f,cap,rfl,_⟩:=h;clear b1 b0 B1 B2 hz;go_enter Tryz.func29,Tryz.ntmps29;go_wp2_with fail;go_ret;have h:=hE.out;rw[hWe.out]at h;exact h
theorem index_any(w:World)(A:Option Addr)(c:Nat)(l:List ByteArray)(v:Value)(g:ByteArray→Bool)(hA:Rd w A (l.map Value.string))(hv:F1 w v l g)(hl:l.length≤maxLen) :
 Calls Tryz.prog 96 #[.slice A l.length c,v] w (fun e w'=>∃i:Int,e=.returned (.int .i64 i)∧decide (0≤i)=l.any g∧Below w.heap.size w w'):=by
 obtain⟨f,cap,rfl,hen,k⟩:=hv;have HE:=hid hen;clear hen;have K:=hid k;have HR:Hid (∀w2,Below w.heap.size w w2→Rd w2 A (l.map Value.string)):=hid (fun w2 b=>hA.below b);unfold maxLen at hl;clear k hA;obtain⟨n,hN⟩:∃n,Hid (n=l.length):=⟨_,hid rfl⟩;rw[←hN.out]at hl ⊢;go_enter Tryz.func96,Tryz.ntmps96;go_wp2_with fail;go_loopw [8] (fun i wr=>∃k:Nat,k≤n∧i=.int .i64 k∧Hid ((l.take k).any g=false)∧Hid (Below w.heap.size w wr)) (fun i _=>n-(intOf i).toNat)
 case atStart=>exact⟨0,by omega,rfl,hid (by simp),hid (Below.refl _ _)⟩
 case round=>
  obtain⟨k,hk,rfl,hG,hb⟩:=hrel
  rename World=>wr
  by_cases hkl:k<n
  ·have e1:decide ((k:Int)<(n:Int))=true:=decide_eq_true (by omega)
   have hkx:k<l.length:=by rw[←hN.out];exact hkl
   obtain⟨gg,off,rfl,hgl,hc⟩:=HR.out wr hb.out (by rw[List.length_map];omega);have c3:=hc k (by rw[List.length_map];exact hkx);rw[List.getElem_map]at c3;have KK:=hid (K.out wr hb.out l[k] (List.getElem_mem hkx))
   have hT:Hid ((l.take (k+1)).any g=g l[k]):=hid (by
    rw[List.take_succ_eq_append_getElem hkx,List.any_append,hG.out]
    simp)
   have hAny:Hid (g l[k] = true→l.any g=true):=hid (fun h=>List.any_eq_true.2 ⟨l[k],List.getElem_mem hkx,h⟩);clear hc hgl;rcases hb1:g l[k] with _ | _
   ·rw[hb1]at KK hT
    clear hAny hb1;generalize l[k] = y at *;go_wp2_with fail;rw[HE.out];refine KK.out.mono ?_;rintro e w2 ⟨rfl,b2⟩;have B2:=hid (hb.out.trans (b2.mono hb.out.size));clear b2 KK c3;go_wp2_with fail;go_roundw
    case rel=>exact⟨k+1,by omega,by go_num,hT,B2⟩
    case measure=>simp[intOf];omega
   ·rw[hb1]at KK
    have hA2:=hid (hAny.out hb1);clear hAny hb1 hT;generalize l[k] = y at *;go_wp2_with fail;rw[HE.out];refine KK.out.mono ?_;rintro e w2 ⟨rfl,b2⟩;have B2:=hid (hb.out.trans (b2.mono hb.out.size));clear b2 KK c3;go_wp2_with fail;go_ret;exact⟨_,rfl,by rw[hA2.out];exact decide_eq_true (by omega),B2.out⟩
  ·obtain rfl:k=n:=by omega
   have e1:decide ((k:Int)<(k:Int))=false:=decide_eq_false (by omega)
   have hA2:Hid (l.any g=false):=hid (by
    have:=hG.out
    rwa[List.take_of_length_le (by rw[hN.out];exact Nat.le_refl _)]at this)
   go_wp2_with fail;go_ret;exact⟨_,rfl,by rw[hA2.out];rfl,hb.out⟩
theorem contains_any(w:World)(A:Option Addr)(c:Nat)(l:List ByteArray)(v:Value)(g:ByteArray→Bool)(hA:Rd w A (l.map Value.string))(hv:F1 w v l g)(hl:l.length≤maxLen) :
 Calls Tryz.prog 66 #[.slice A l.length c,v] w (BPost (l.any g) w):=by
 have K:=hid (index_any w A c l v g hA hv hl);obtain⟨f,cap,rfl,_⟩:=hv;clear hA;unfold BPost;go_enter Tryz.func66,Tryz.ntmps66;go_wp2_with fail;refine K.out.mono ?_;rintro e w2 ⟨i,rfl,hi,b2⟩;have B2:=hid b2;have hi:=hid hi;clear b2 K;go_wp2_with fail;go_ret;exact⟨by rw[←hi.out];rfl,B2.out⟩
theorem all11_any(W:World)(b2:Nat)(so:Value)(l:List ByteArray)(g:ByteArray→Bool)(h2:W.cell? ⟨b2,0,none⟩=some so)(h:F1 W so l g):F1 W (.func (.func 67) #[] #[.pointer (some ⟨b2,0,none⟩)]) l (fun s=>!g s):=by
 obtain⟨f,cap,rfl,hen,k⟩:=h;have HE:=hid hen;clear hen;refine⟨_,_,rfl,(fun args w=>by go_simp),fun w hw s hs=>?_⟩;have l2:=block_lt_of_cell h2;have c1:w.cell? ⟨b2,0,none⟩=some (.func (.func f) #[] cap):=(hw.cell l2).trans h2;have K:=hid (k w hw s hs);clear k l2 h2 hw hs;show Calls Tryz.prog 67 #[.string s,.pointer (some ⟨b2,0,none⟩)] w (fun e w''=>e=.returned (.bool (!g s))∧Below w.heap.size w w'');generalize g s=b at *;go_enter Tryz.func67,Tryz.ntmps67;go_wp2_with fail;rw[HE.out];refine K.out.mono ?_;rintro e w2 ⟨rfl,b2'⟩;have B2:=hid b2';clear b2' K;go_wp2_with fail;go_ret;exact⟨rfl,B2.out⟩
theorem all_not(l:List ByteArray)(g:ByteArray→Bool):(!l.any fun s=>!g s)=l.all g:=by
 induction l with
 | nil=>rfl
 | cons a l ih=>rw[List.any_cons,List.all_cons,←ih];cases g a <;> simp
theorem all1_any(W:World)(b1 b2:Nat)(A:Option Addr)(c:Nat)(so:Value)(l:List ByteArray)(g:ByteArray→Bool)(h1:W.cell? ⟨b1,0,none⟩=some (.slice A l.length c))(h2:W.cell? ⟨b2,0,none⟩=some so)(h:F1 W so l g)(hA:Rd W A (l.map Value.string))(hl:l.length≤maxLen):F0 W (.func (.func 65) #[] #[.pointer (some ⟨b1,0,none⟩),.pointer (some ⟨b2,0,none⟩)]) (.bool (l.all g)):=by
 refine⟨_,_,rfl,(fun args w=>by go_simp),fun w hw=>?_⟩;have l1:=block_lt_of_cell h1;have c1:w.cell? ⟨b1,0,none⟩=some (.slice A l.length c):=(hw.cell l1).trans h1;have K:=hid (contains_any w A c l _ _ (hA.below hw) ((all11_any W b2 so l g h2 h).below hw) hl);clear l1 h1 h2 hw h hA hl;unfold BPost at K;rw[←all_not];generalize (l.any fun s=>!g s)=b at *;generalize l.length=n at *;go_enter Tryz.func65,Tryz.ntmps65;go_wp2_with fail;refine K.out.mono ?_;rintro e w2 ⟨rfl,b2'⟩;have B2:=hid b2';clear b2' K;go_wp2_with fail;go_ret;exact⟨rfl,B2.out⟩
theorem all_any(w:World)(A:Option Addr)(c:Nat)(so:Value)(l:List ByteArray)(g:ByteArray→Bool)(h:F1 w so l g)(hA:Rd w A (l.map Value.string))(hl:l.length≤maxLen):Calls Tryz.prog 35 #[.slice A l.length c,so] w (NP w (.bool (l.all g))):=by
 obtain⟨W,hWe⟩:∃W,Hid (W=(w.alloc (.cells #[.slice A l.length c] 31)).alloc (.cells #[so] 73)):=⟨_,hid rfl⟩;have hz:(w.alloc (.cells #[.slice A l.length c] 31)).heap.size=w.heap.size+1:=Array.size_push _;have b1:Below w.heap.size w (w.alloc (.cells #[.slice A l.length c] 31)):=(Below.refl _ _).alloc (Nat.le_refl _) _;have b0:Below w.heap.size w W:=by rw[hWe.out];exact b1.alloc b1.size _
 have B1:Box W w.heap.size 31 #[.slice A l.length c]:=by rw[hWe.out];exact(Box.new w _ _).kept ((Fr.refl [] _).alloc _) (by simp)
 have B2:Box W (w.heap.size+1) 73 #[so]:=by rw[hWe.out,←hz];exact Box.new _ _ _
 have hE:Hid (NP w (.bool (l.all g)) (.returned (.func (.func 65) #[] #[.pointer (some ⟨w.heap.size,0,none⟩),.pointer (some ⟨w.heap.size+1,0,none⟩)])) W):=hid ⟨_,rfl,all1_any W _ _ A c so l g (B1.cell 0) (B2.cell 0) (h.below b0) (hA.below b0) hl,b0⟩;obtain⟨r,hr⟩:∃r,Hid (r=Value.bool (l.all g)):=⟨_,hid rfl⟩;rw[←hr.out]at hE ⊢;clear hr;obtain⟨f,cap,rfl,_⟩:=h;clear b1 b0 B1 B2 hz hA hl;generalize l.length=n at *;go_enter Tryz.func35,Tryz.ntmps35;go_wp2_with fail;go_ret;have h:=hE.out;rw[hWe.out]at h;exact h
def fst0:List Int→Int
 | []=>0
 | x :: r=>if x=0 then fst0 r else x
theorem steps_any(w:World)(b off:Nat)(c:Nat)(vs:List Value)(es:List Int)(hn:es.length=vs.length)(hc:∀k (hk:k<vs.length),w.cell? ⟨b,off+k,none⟩=some vs[k])(hv:∀k (hk:k<vs.length),F0 w vs[k] (.int .i64 es[k]))(hl:vs.length≤1000) :
 Calls Tryz.prog 28 #[.slice (some ⟨b,off,none⟩) vs.length c] w (IPost (fst0 es) w):=by
 have HC:Hid (∀k (hk:k<vs.length) w2,Below w.heap.size w w2→w2.cell? ⟨b,off+k,none⟩=some vs[k]):=hid (fun k hk w2 b=>(b.cell (block_lt_of_cell (hc k hk))).trans (hc k hk));have HV:Hid (∀k (hk:k<vs.length),F0 w vs[k] (.int .i64 es[k])):=hid hv;obtain⟨n,hN⟩:∃n,Hid (n=vs.length):=⟨_,hid rfl⟩;have hNe:Hid (es.length=n):=hid (by rw[hn,hN.out]);clear hc hv;rw[←hN.out]at hl ⊢;obtain⟨R,hR⟩:∃R,Hid (R=fst0 es):=⟨_,hid rfl⟩;rw[←hR.out];have hR0:Hid (R=fst0 (es.drop 0)):=hid hR.out;unfold IPost;go_enter Tryz.func28,Tryz.ntmps28;go_wp2_with fail;go_loopw [8] (fun i wr=>∃k:Nat,k≤n∧i=.int .i64 k∧Hid (R=fst0 (es.drop k))∧Hid (Below w.heap.size w wr)) (fun i _=>n-(intOf i).toNat)
 case atStart=>exact⟨0,by omega,rfl,hR0,hid (Below.refl _ _)⟩
 case round=>
  obtain⟨k,hk,rfl,hG,hb⟩:=hrel
  rename World=>wr
  by_cases hkl:k<n
  ·have e1:decide ((k:Int)<(n:Int))=true:=decide_eq_true (by omega)
   have hkx:k<vs.length:=by rw[←hN.out];exact hkl
   have c3:=HC.out k hkx wr hb.out;obtain⟨f,cap,hf,hen,kk⟩:=HV.out k hkx;have HE:=hid hen;clear hen;rw[hf]at c3;have hke:k<es.length:=by rw[hNe.out];exact hkl
   have KK:=hid (kk wr hb.out)
   have hD:Hid (R=if es[k] = 0 then fst0 (es.drop (k+1)) else es[k]):=hid (by
    rw[hG.out,List.drop_eq_getElem_cons hke]
    rfl)
   clear kk hf hG;generalize es[k] = x at *;by_cases hx:x=0
   ·have q0:(x != 0)=false:=by simpa using hx
    rw[if_pos hx]at hD;clear hx;go_wp2_with fail;rw[HE.out];refine KK.out.mono ?_;rintro e w2 ⟨rfl,b2⟩;have B2:=hid (hb.out.trans (b2.mono hb.out.size));clear b2 KK c3;go_wp2_with fail;go_roundw
    case rel=>exact⟨k+1,by omega,by go_num,hD,B2⟩
    case measure=>simp[intOf];omega
   ·have q0:(x != 0)=true:=by simpa using hx
    rw[if_neg hx]at hD;clear hx;go_wp2_with fail;rw[HE.out];refine KK.out.mono ?_;rintro e w2 ⟨rfl,b2⟩;have B2:=hid (hb.out.trans (b2.mono hb.out.size));clear b2 KK c3;go_wp2_with fail;go_ret;exact⟨by rw[hD.out];rfl,B2.out⟩
  ·obtain rfl:k=n:=by omega
   have e1:decide ((k:Int)<(k:Int))=false:=decide_eq_false (by omega)
   have hD:Hid (R=0):=hid (by
    rw[hG.out,List.drop_of_length_le (by rw[hNe.out];exact Nat.le_refl _)]
    rfl)
   go_wp2_with fail;go_ret;exact⟨by rw[hD.out];rfl,hb.out⟩
end sf
namespace sf
open RowKit Go.Sort mem inn
def risB:List (List UInt8)→Bool
 | []=>true
 | [_]=>true
 | x :: y :: r=>decide (x<y)&&risB (y :: r)
theorem ris_pw:∀T:List (List UInt8),risB T=true↔T.Pairwise (fun a b=>a<b)
 | []=>by simp[risB]
 | [x]=>by simp[risB]
 | x :: y :: r=>by
  have ih:=ris_pw (y :: r);unfold risB;rw[Bool.and_eq_true,decide_eq_true_eq,ih,List.pairwise_cons (l:=y :: r)];refine⟨fun h=>⟨fun z hz=>?_,h.2⟩,fun h=>⟨h.1 y (List.mem_cons_self ..),h.2⟩⟩;rcases List.mem_cons.1 hz with rfl | hz
  ·exact h.1
  ·exact ordS.tr _ _ _ h.1 ((List.pairwise_cons.1 h.2).1 z hz)
theorem ris_at:∀T:List (List UInt8),(∀j (h:j+1<T.length),T[j]<T[j+1])↔risB T=true
 | []=>by simp[risB]
 | [x]=>by simp[risB]
 | x :: y :: r=>by
  have ih:=ris_at (y :: r);unfold risB;rw[Bool.and_eq_true,decide_eq_true_eq,←ih];refine⟨fun h=>⟨h 0 (by simp),fun j hj=>h (j+1) (by simp at hj ⊢;omega)⟩,fun h j hj=>?_⟩;cases j with
  | zero=>exact h.1
  | succ j=>exact h.2 j (by simp at hj ⊢;omega)
theorem rs_self{T:List (List UInt8)}(h:T.Pairwise (fun a b=>a<b)):rsS T=T:=
 rises_ext ordS (intoAll_spec ordS T).1 h (fun x=>mem_rsS T x)
theorem dup_len{T:List (List UInt8)}{j:Nat}(hj:j+1<T.length)(h:T[j] = T[j+1]):(rsS T).length<T.length:=by
 have e1:T=T.take (j+1)++(T[j+1] :: T.drop (j+2)):=by
  conv=>lhs;rw[←List.take_append_drop (j+1) T,List.drop_eq_getElem_cons hj]
 have hin:T[j+1]∈T.take (j+1):=by
  rw[←h];exact List.mem_take_iff_getElem.2 ⟨j,by omega,rfl⟩
 have e2:rsS T=rsS (T.take (j+1)++T.drop (j+2)):=rises_ext ordS (intoAll_spec ordS T).1 (intoAll_spec ordS _).1 (fun x=>by
  rw[mem_rsS,mem_rsS];constructor
  ·intro hx
   rw[e1]at hx;rcases List.mem_append.1 hx with hx | hx
   ·exact List.mem_append.2 (Or.inl hx)
   ·rcases List.mem_cons.1 hx with rfl | hx
    ·exact List.mem_append.2 (Or.inl hin)
    ·exact List.mem_append.2 (Or.inr hx)
  ·intro hx
   rw[e1];rcases List.mem_append.1 hx with hx | hx
   ·exact List.mem_append.2 (Or.inl hx)
   ·exact List.mem_append.2 (Or.inr (List.mem_cons_of_mem _ hx)))
 rw[e2];have:=rs_len (T.take (j+1)++T.drop (j+2));rw[List.length_append,List.length_take,List.length_drop]at this;omega
def Srt(T:List (List UInt8)):Prop:=∀j (h:j+1<T.length),¬T[j+1]<T[j]
theorem ris_both(T:List (List UInt8)):((rsS T).length=T.length∧Srt T)↔risB T=true:=by
 constructor
 ·intro h
  rw[←ris_at];intro j hj;rcases ordS.tot T[j] T[j+1] with h1 | h1 | h1
  ·exact h1
  ·have:=dup_len hj h1
   omega
  ·exact absurd h1 (h.2 j hj)
 ·intro h
  have hp:=(ris_pw T).1 h;refine⟨by rw[rs_self hp],fun j hj h1=>?_⟩;have h2:=(ris_at T).2 h j hj;exact ordS.irr _ (ordS.tr _ _ _ h1 h2)
theorem below_drewQ{N:Nat}{W w:World}(h:Below N W w)(hN:N≤w.heap.size)(n:Nat):Below N W (w.drewN n):=h.trans (((Fr.refl [] w).drewN n).below (by simp) hN)
def SoPost(T:List (List UInt8))(w:World)(e:Ending)(w':World):Prop:=∃r,e=.returned (.bool r)∧(r=true↔Srt T)∧Below w.heap.size w w'
theorem issorted_any(w:World)(A:Option Addr)(c:Nat)(T:List (List UInt8))(h:Rd w A (T.map encStr))(hm:T.length≤maxLen) :
 Calls Tryz.prog 64 #[.slice A T.length c] w (SoPost T w):=by
 have HR:Hid (∀w2,Below w.heap.size w w2→Rd w2 A (T.map encStr)):=hid (fun w2 b=>h.below b);unfold maxLen at hm;clear h;obtain⟨n,hN⟩:∃n,Hid (n=T.length):=⟨_,hid rfl⟩;rw[←hN.out]at hm ⊢;go_enter Tryz.func64,Tryz.ntmps64;have hw0:wrap64 ((n:Int)-1)=(n:Int)-1:=by unfold wrap64;omega
 go_wp2_with fail;go_loopw [3] (fun i wr=>∃k:Int,i=.int .i64 k∧-1≤k∧k<n∧Hid (∀j (h:j+1<T.length),k<(j+1:Nat)→¬T[j+1]<T[j])∧Hid (Below w.heap.size w wr)) (fun i _=>(intOf i).toNat)
 case atStart=>exact⟨(n:Int)-1,by first | rfl | go_num,by omega,by omega,hid (fun j hj hk=>by have:=hN.out;omega),hid (Below.refl _ _)⟩
 case round=>
  obtain⟨k,rfl,hk1,hk2,hG,hb⟩:=hrel
  rename World=>wr
  by_cases hk0:0<k
  ·have e1:decide (0<k)=true:=decide_eq_true hk0
   obtain⟨j,hj⟩:∃j:Nat,k=((j+1:Nat):Int):=⟨(k-1).toNat,by omega⟩;subst hj;have hjx:j+1<T.length:=by rw[←hN.out];omega
   obtain⟨g,off,rfl,hgl,hc⟩:=HR.out wr hb.out (by rw[List.length_map];omega);have c1:=hc (j+1) (by rw[List.length_map];exact hjx);have c2:=hc j (by rw[List.length_map];omega);rw[List.getElem_map]at c1 c2;have HL:=hid (fun w=>po.less_any T[j+1] T[j] w)
   have hGj:Hid (¬T[j+1]<T[j]→∀i (hi:i+1<T.length),(j:Int)<(i+1:Nat)→¬T[i+1]<T[i]):=hid (fun hn i hi hk=>by
    by_cases e:i=j
    ·subst e;exact hn
    ·exact hG.out i hi (by omega))
   have hBad:Hid (T[j+1]<T[j]→¬Srt T):=hid (fun h s=>s j hjx h);clear hc hgl hG;unfold encStr at c1 c2 HL;rcases hd:decide (T[j+1]<T[j])with _ | _
   ·have hnl:=hid (hGj.out (of_decide_eq_false hd))
    rw[hd]at HL;clear hd hGj hBad;generalize (ByteArray.mk T[j+1].toArray)=y1 at *;generalize (ByteArray.mk T[j].toArray)=y2 at *;have hw1:wrap64 (((j+1:Nat):Int)-1)=(j:Int):=by unfold wrap64;omega
    go_wp2_with fail;go_quiet ((go_at_call 70;exact Calls.quiet_of_same (HL.out _)));have hb2:=hid (below_drewQ hb.out hb.out.size nq);go_wp2_with fail;go_roundw
    case rel=>exact⟨(j:Int),by first | rfl | go_num,by omega,by omega,hnl,hb2⟩
    case measure=>first | (simp[intOf];done) | (simp[intOf];omega)
   ·have hns:=hid (hBad.out (of_decide_eq_true hd))
    rw[hd]at HL;clear hd hGj hBad;generalize (ByteArray.mk T[j+1].toArray)=y1 at *;generalize (ByteArray.mk T[j].toArray)=y2 at *;have hw1:wrap64 (((j+1:Nat):Int)-1)=(j:Int):=by unfold wrap64;omega
    go_wp2_with fail;go_quiet ((go_at_call 70;exact Calls.quiet_of_same (HL.out _)));have hb2:=hid (below_drewQ hb.out hb.out.size nq);go_wp2_with fail;go_ret;exact⟨false,rfl,⟨(fun h=>by cases h),fun h=>absurd h hns.out⟩,hb2.out⟩
  ·have e1:decide (0<k)=false:=decide_eq_false hk0
   have hS:Hid (Srt T):=hid (fun j hj=>hG.out j hj (by omega));go_wp2_with fail;go_ret;exact⟨true,rfl,⟨fun _=>hS.out,fun _=>rfl⟩,hb.out⟩
end sf
namespace re
open RowKit
abbrev tx(s:ByteArray):List UInt8:=s.data.toList
end re
namespace sf
open RowKit Go.Sort mem sy inn
open re (tx)
theorem map_tx(l:List ByteArray):(l.map tx).map encStr=l.map Value.string:=by
 rw[List.map_map];rfl
theorem bool_by{r V:Bool}{z n:Nat}{S:Prop}(hz:z=n)(hB:(z=n∧S)↔V=true)(hr:r=true↔S):r=V:=by
 rcases r with _ | _
 ·rcases V with _ | _
  ·rfl
  ·exact absurd (hr.2 (hB.2 rfl).2) (by simp)
 ·exact(hB.1 ⟨hz,hr.1 rfl⟩).symm
theorem bool_no{V:Bool}{z n:Nat}{S:Prop}(hz:¬z=n)(hB:(z=n∧S)↔V=true):V=false:=by
 rcases V with _ | _
 ·rfl
 ·exact absurd (hB.2 rfl).1 hz
theorem rising1_any(W:World)(b1:Nat)(A:Option Addr)(c:Nat)(l:List ByteArray)(h1:W.cell? ⟨b1,0,none⟩=some (.slice A l.length c))(hA:Rd W A (l.map Value.string))(hl:l.length≤1000000):F0 W (.func (.func 63) #[] #[.pointer (some ⟨b1,0,none⟩)]) (.bool (risB (l.map tx))):=by
 refine⟨_,_,rfl,(fun args w=>by go_simp),fun w hw=>?_⟩;have l1:=block_lt_of_cell h1;have HC:Hid (∀w2,Below w.heap.size w w2→w2.cell? ⟨b1,0,none⟩=some (.slice A l.length c)):=hid (fun w2 b=>(b.cell (Nat.lt_of_lt_of_le l1 hw.size)).trans ((hw.cell l1).trans h1))
 have HK:Hid (∀w2,Below w.heap.size w w2→Calls Tryz.prog 45 #[.slice A l.length c] w2 (fun e w'=>∃B c2,e=.returned (.slice B (rsS (l.map tx)).length c2)∧Below w2.heap.size w2 w')):=hid (fun w2 b=>by
  have k:=inn.sorted_any w2 A c (l.map tx) (by rw[map_tx];exact(hA.below hw).below b) (by rw[List.length_map];exact hl);rw[List.length_map]at k;refine k.mono ?_;rintro e w' ⟨B,c2,rfl,b1,_⟩
  exact⟨B,c2,rfl,b1⟩)
 have HI:Hid (∀w2,Below w.heap.size w w2→Calls Tryz.prog 64 #[.slice A l.length c] w2 (SoPost (l.map tx) w2)):=hid (fun w2 b=>by
  have k:=issorted_any w2 A c (l.map tx) (by rw[map_tx];exact(hA.below hw).below b) (by rw[List.length_map];unfold maxLen;omega);rw[List.length_map]at k
  exact k)
 have hB:=hid (ris_both (l.map tx));have hnn:Hid ((l.map tx).length=l.length):=hid (List.length_map _);have R0:=hid (Below.refl w.heap.size w);have R1:Hid (Below w.heap.size w w.drew):=hid (Below.refl w.heap.size w).drew;unfold SoPost at HI;clear h1 hA hw l1;obtain⟨V,hV⟩:∃V,Hid (V=risB (l.map tx)):=⟨_,hid rfl⟩;rw[←hV.out]at hB ⊢;rw[hnn.out]at hB;generalize (rsS (l.map tx)).length=z at *;generalize hSr:Srt (l.map tx)=Sr at *;clear hSr hV hnn;generalize l.length=n at *;have c0:=HC.out _ R0.out;have c1:=HC.out _ R1.out;by_cases hz:z=n
 ·have e1:((z:Int)==(n:Int))=true:=by rw[hz];simp
  have Hz:=hid hz;clear hz;go_enter Tryz.func63,Tryz.ntmps63;go_wp2_with fail
  go_region_with (first
   | (go_at_call 45;refine(HK.out _ R1.out).mono ?_;rintro e w2 ⟨B,c2,rfl,b2⟩;have R2:=hid (R1.out.trans (b2.mono R1.out.size));clear b2;have y2:=HC.out _ R2.out)
   | (go_at_call 64;refine(HI.out _ R2.out).mono ?_;rintro e w3 ⟨r,rfl,hr,b3⟩;have R3:=hid (R2.out.trans (b3.mono R2.out.size));have hr:=hid hr;clear b3))
  all_goals (go_wp2_with fail;go_ret;exact⟨by rw[bool_by Hz.out hB.out hr.out];rfl,R3.out⟩)
 ·have hzi:¬(z:Int)=(n:Int):=by omega
  have e1:((z:Int)==(n:Int))=false:=by simpa using hzi
  clear hzi;have Hz:=hid (bool_no hz hB.out);clear hz;go_enter Tryz.func63,Tryz.ntmps63;go_wp2_with fail
  go_region_with (go_at_call 45;refine(HK.out _ R1.out).mono ?_;rintro e w2 ⟨B,c2,rfl,b2⟩;have R2:=hid (R1.out.trans (b2.mono R1.out.size));clear b2;have y2:=HC.out _ R2.out)
  all_goals (go_wp2_with fail;go_ret;exact⟨by rw[Hz.out];rfl,R2.out⟩)
theorem rising_any(w:World)(A:Option Addr)(c:Nat)(l:List ByteArray)(hA:Rd w A (l.map Value.string))(hl:l.length≤1000000):Calls Tryz.prog 34 #[.slice A l.length c] w (NP w (.int .i64 (if risB (l.map tx) then 0 else 13))):=by
 obtain⟨W,hWe⟩:∃W,Hid (W=w.alloc (.cells #[.slice A l.length c] 31)):=⟨_,hid rfl⟩;have b0:Below w.heap.size w W:=by rw[hWe.out];exact(Below.refl _ _).alloc (Nat.le_refl _) _
 have B1:Box W w.heap.size 31 #[.slice A l.length c]:=by rw[hWe.out];exact Box.new w _ _
 have K:=hid (need_any W _ _ 13 (rising1_any W w.heap.size A c l (B1.cell 0) (hA.below b0) hl));have HB:=hid b0;obtain⟨r,hr⟩:∃r,Hid (r=Value.int .i64 (if risB (l.map tx) then 0 else 13)):=⟨_,hid rfl⟩;rw[←hr.out]at K ⊢;clear hr B1 b0 hA hl;generalize l.length=n at *;rw[hWe.out]at K HB;clear hWe;go_enter Tryz.func34,Tryz.ntmps34;go_wp2_with fail;refine K.out.mono ?_;rintro e w2 ⟨v,rfl,hv,b2⟩;have hE:Hid (NP w r (.returned v) w2):=hid ⟨v,rfl,hv,HB.out.trans (b2.mono HB.out.size)⟩;clear b2 hv K HB;go_wp2_with fail;go_ret;exact hE.out
end sf
namespace re
open RowKit Shelf mem sy
structure SU where
 name:ByteArray
 gives:List ByteArray
 wants:List ByteArray
 keeps:List ByteArray
 sys:SS
structure MU where
 name:ByteArray
 gA:Option Addr
 gc:Nat
 gives:List ByteArray
 wA:Option Addr
 wc:Nat
 wants:List ByteArray
 kA:Option Addr
 kc:Nat
 keeps:List ByteArray
 s:MS
def MU.su(u:MU):SU:=⟨u.name,u.gives,u.wants,u.keeps,u.s.sys⟩
def MU.row(u:MU):Array Value:=#[.string u.name,.slice u.gA u.gives.length u.gc,.slice u.wA u.wants.length u.wc,.slice u.kA u.keeps.length u.kc,.slice u.s.oA u.s.os.length u.s.oc,.slice u.s.fA u.s.fs.length u.s.fc,.slice u.s.cA u.s.cs.length u.s.cc]
def MU.val(u:MU):Value:=.agg u.row
structure SumM(w:World)(u:MU):Prop where
 gr:Rd w u.gA (u.gives.map Value.string)
 wr:Rd w u.wA (u.wants.map Value.string)
 kr:Rd w u.kA (u.keeps.map Value.string)
 sr:SysM w u.s
theorem SumM.below{w w':World}{u:MU}(h:SumM w u)(hb:Below w.heap.size w w'):SumM w' u:=⟨h.gr.below hb,h.wr.below hb,h.kr.below hb,h.sr.below hb⟩
end re
namespace sf
open RowKit Go.Sort mem inn ins
def putL(d:List (List UInt8))(x:List UInt8):List (List UInt8):=if x∈d then d else d++[x]
theorem mem_putL(d:List (List UInt8))(x y:List UInt8):y∈putL d x↔y∈d∨y=x:=by
 unfold putL;split
 ·rename_i h
  exact⟨Or.inl,fun h1=>by rcases h1 with h1 | rfl;exact h1;exact h⟩
 ·simp
theorem mem_puts(y:List UInt8):∀(l:List (List UInt8)) (d:List (List UInt8)),y∈l.foldl putL d↔y∈d∨y∈l
 | [],d=>by simp
 | x :: l,d=>by
  rw[List.foldl_cons,mem_puts y l,mem_putL,List.mem_cons,or_assoc]
theorem held_mono{w:World}{m:Option Nat}{N:Nat}{xs:List (List UInt8)}(h:Held w m N xs):Held w m (N+1) xs:=by
 rcases h with h | ⟨b,D,e,ho,h⟩
 ·exact Or.inl h
 ·exact Or.inr ⟨b,D,e,ho.mono (Nat.le_succ _),h⟩
def T2(W:World)(b1 b2 n1 n2:Nat)(d e:List (List UInt8))(w:World):Prop:=∃A1 c1 m1 A2 c2 m2,Tb w b1 A1 c1 m1 n1 d∧Tb w b2 A2 c2 m2 n2 e∧(∀g∈ins.foot b1 A1 m1,W.heap.size≤g∧g<w.heap.size∧g∉ins.foot b2 A2 m2)∧(∀g∈ins.foot b2 A2 m2,W.heap.size≤g∧g<w.heap.size)∧Below W.heap.size W w
theorem T2.swap{W w:World}{b1 b2 n1 n2:Nat}{d e:List (List UInt8)}(h:T2 W b1 b2 n1 n2 d e w):T2 W b2 b1 n2 n1 e d w:=by
 obtain⟨A1,c1,m1,A2,c2,m2,t1,t2,f1,f2,b⟩:=h;exact⟨A2,c2,m2,A1,c1,m1,t2,t1,fun g hg=>⟨(f2 g hg).1,(f2 g hg).2,fun h1=>(f1 g h1).2.2 hg⟩,fun g hg=>⟨(f1 g hg).1,(f1 g hg).2.1⟩,b⟩
theorem T2.below{W w w':World}{b1 b2 n1 n2:Nat}{d e:List (List UInt8)}(h:T2 W b1 b2 n1 n2 d e w)(hb:Below w.heap.size w w'):T2 W b1 b2 n1 n2 d e w':=by
 obtain⟨A1,c1,m1,A2,c2,m2,t1,t2,f1,f2,b⟩:=h;exact⟨A1,c1,m1,A2,c2,m2,t1.kept (Fr.of_below hb []) (by simp),t2.kept (Fr.of_below hb []) (by simp),fun g hg=>⟨(f1 g hg).1,Nat.lt_of_lt_of_le (f1 g hg).2.1 hb.size,(f1 g hg).2.2⟩,fun g hg=>⟨(f2 g hg).1,Nat.lt_of_lt_of_le (f2 g hg).2 hb.size⟩,b.trans (hb.mono b.size)⟩
theorem t2_put{W w:World}{b1 b2 n1 n2:Nat}{d e:List (List UInt8)}(h:T2 W b1 b2 n1 n2 d e w)(x:List UInt8)(hx:WF x)(hn:n1<1000000) :
 Calls Tryz.prog 13 #[.pointer (some ⟨b1,0,none⟩),encStr x] w (fun r w'=>(∃v,r=.returned v)∧T2 W b1 b2 (n1+1) n2 (putL d x) e w'):=by
 obtain⟨A1,c1,m1,A2,c2,m2,t1,t2,f1,f2,b⟩:=h;unfold putL;by_cases hin:x∈d
 ·rw[if_pos hin]
  refine(put_old w b1 A1 c1 m1 n1 d x t1 hx hin).mono ?_;rintro r w' ⟨rfl,hb⟩;have t1':Tb w b1 A1 c1 m1 (n1+1) d:=⟨t1.box,t1.seg,held_mono t1.set,t1.nod,t1.wf,Nat.le_succ_of_le t1.len⟩;exact⟨⟨_,rfl⟩,T2.below ⟨A1,c1,m1,A2,c2,m2,t1',t2,f1,f2,b⟩ hb⟩
 ·rw[if_neg hin]
  refine(put_any w b1 A1 c1 m1 n1 d x t1 hx hin hn).mono ?_;rintro r w' ⟨rfl,f,A',cap',m',t',hf'⟩;have k2:Tb w' b2 A2 c2 m2 n2 e:=t2.kept f (fun g hg h1=>(f1 g h1).2.2 hg);have hlt:∀g∈ins.foot b1 A' m',g<w'.heap.size:=t'.lt;refine⟨⟨_,rfl⟩,A',cap',m',A2,c2,m2,t',k2,fun g hg=>⟨?_,hlt g hg,fun h2=>?_⟩,fun g hg=>⟨(f2 g hg).1,Nat.lt_of_lt_of_le (f2 g hg).2 f.size⟩,b.trans (f.below (fun g hg=>(f1 g hg).1) b.size)⟩
  ·rcases hf' g hg with h3 | h3
   ·exact(f1 g h3).1
   ·exact Nat.le_trans b.size h3
  ·rcases hf' g hg with h3 | h3
   ·exact(f1 g h3).2.2 h2
   ·have:=(f2 g h2).2
    omega
theorem t2_find{W w:World}{b1 b2 n1 n2:Nat}{d e:List (List UInt8)}(h:T2 W b1 b2 n1 n2 d e w)(x:List UInt8)(hx:WF x) :
 Calls Tryz.prog 26 #[.pointer (some ⟨b1,0,none⟩),encStr x] w (fun r w'=>∃i:Int,r=.returned (.tuple #[.int .i64 i,.bool (decide (x∈d))])∧w=w'):=by
 obtain⟨A1,c1,m1,A2,c2,m2,t1,t2,f1,f2,b⟩:=h;refine(find_any w b1 m1 n1 d x _ t1.box t1.set hx).mono ?_;rintro r w' ⟨rfl,rfl⟩;exact⟨_,rfl,rfl⟩
end sf
namespace sf
open RowKit Go.Sort mem sy inn ins dg
open re (tx SumM MU)
open nm (Tab tab_below)
theorem enc_tx(s:ByteArray):encStr (tx s)=.string s:=rfl
theorem check1_any(W0 W:World)(b1 b2 n1 n2:Nat)(d e:List (List UInt8))(hT:T2 W0 b1 b2 n1 n2 d e W)(l:List ByteArray)(hl:∀s∈l,WF (tx s)):F1 W (.func (.func 25) #[] #[.pointer (some ⟨b1,0,none⟩)]) l (fun s=>decide (tx s∈d)):=by
 refine⟨_,_,rfl,(fun args w=>by go_simp),fun w hw s hs=>?_⟩;have K:=hid (fun w2 (b:Below w.heap.size w w2)=>t2_find ((hT.below hw).below b) (tx s) (hl s hs));have hB:=hid (Below.refl w.heap.size w);rw[enc_tx]at K;show Calls Tryz.prog 25 #[.string s,.pointer (some ⟨b1,0,none⟩)] w (fun e w''=>e=.returned (.bool (decide (tx s∈d)))∧Below w.heap.size w w'');generalize decide (tx s∈d)=q at *;clear hT hl hw hs;go_enter Tryz.func25,Tryz.ntmps25;go_wp2_with fail;refine(K.out _ hB.out).mono ?_;rintro r w' ⟨i,rfl,rfl⟩;clear K;go_wp2_with fail;go_ret;exact⟨rfl,hB.out⟩
theorem check2_any(W0 W:World)(b1 b2 n1 n2:Nat)(d e:List (List UInt8))(hT:T2 W0 b1 b2 n1 n2 d e W)(l:List ByteArray)(hl:∀s∈l,WF (tx s)):F1 W (.func (.func 27) #[] #[.pointer (some ⟨b1,0,none⟩)]) l (fun s=>!decide (tx s∈d)):=by
 refine⟨_,_,rfl,(fun args w=>by go_simp),fun w hw s hs=>?_⟩;have K:=hid (fun w2 (b:Below w.heap.size w w2)=>t2_find ((hT.below hw).below b) (tx s) (hl s hs));have hB:=hid (Below.refl w.heap.size w);rw[enc_tx]at K;show Calls Tryz.prog 27 #[.string s,.pointer (some ⟨b1,0,none⟩)] w (fun e w''=>e=.returned (.bool (!decide (tx s∈d)))∧Below w.heap.size w w'');generalize decide (tx s∈d)=q at *;clear hT hl hw hs;go_enter Tryz.func27,Tryz.ntmps27;go_wp2_with fail;refine(K.out _ hB.out).mono ?_;rintro r w' ⟨i,rfl,rfl⟩;clear K;go_wp2_with fail;go_ret;exact⟨rfl,hB.out⟩
theorem check3_any(W:World)(b:Nat)(u:MU)(hb:Box W b 43 u.row)(hn:u.name.size≤maxLen):F0 W (.func (.func 30) #[] #[.pointer (some ⟨b,0,none⟩)]) (.bool (nameB u.name)):=by
 refine⟨_,_,rfl,(fun args w=>by go_simp),fun w hw=>?_⟩;have hB:=hb.kept (Fr.of_below hw []) (by simp);have y0:w.cell? ⟨b,0,none⟩=some (.string u.name):=hB.cell 0;have K:=hid (fun w2=>dg.name_any u.name w2 hn);have hR:=hid (Below.refl w.heap.size w);clear hw hb hB hn;generalize nameB u.name=q at *;generalize u.name=nm at *;go_enter Tryz.func30,Tryz.ntmps30;go_wp2_with fail;refine(K.out _).mono ?_;rintro r w' ⟨rfl,rfl⟩;clear K;go_wp2_with fail;go_ret;exact⟨rfl,hR.out⟩
theorem check4_any(W:World)(b:Nat)(u:MU)(hb:Box W b 43 u.row)(hs:SysM W u.s)(htab:Tab W):F0 W (.func (.func 32) #[] #[.pointer (some ⟨b,0,none⟩)]) (.int .i64 (checkE u.s.sys)):=by
 refine⟨_,_,rfl,(fun args w=>by go_simp),fun w hw=>?_⟩;have hB:=hb.kept (Fr.of_below hw []) (by simp);have y4:w.cell? ⟨b,4,none⟩=some (.slice u.s.oA u.s.os.length u.s.oc):=hB.cell 4;have y5:w.cell? ⟨b,5,none⟩=some (.slice u.s.fA u.s.fs.length u.s.fc):=hB.cell 5;have y6:w.cell? ⟨b,6,none⟩=some (.slice u.s.cA u.s.cs.length u.s.cc):=hB.cell 6;have K:=hid (sy.check_any u.s w (hs.below hw) (tab_below htab hw));clear hw hb hB hs htab;generalize checkE u.s.sys=q at *;unfold MS.val sy.IPost at K;generalize u.s.os.length=no at *;generalize u.s.fs.length=nf at *;generalize u.s.cs.length=nc at *;go_enter Tryz.func32,Tryz.ntmps32;go_wp2_with fail;refine K.out.mono ?_;rintro r w' ⟨rfl,b'⟩;have hR:=hid b';clear K b';go_wp2_with fail;go_ret;exact⟨rfl,hR.out⟩
theorem check5_any(W:World)(b:Nat)(u:MU)(hb:Box W b 43 u.row):F0 W (.func (.func 36) #[] #[.pointer (some ⟨b,0,none⟩)]) (.bool (decide (u.keeps.length≤6000))):=by
 refine⟨_,_,rfl,(fun args w=>by go_simp),fun w hw=>?_⟩;have hB:=hb.kept (Fr.of_below hw []) (by simp);have y3:w.cell? ⟨b,3,none⟩=some (.slice u.kA u.keeps.length u.kc):=hB.cell 3;have hR:=hid (Below.refl w.heap.size w);have e1:decide ((u.keeps.length:Int)≤6000)=decide (u.keeps.length≤6000):=by
  by_cases h:u.keeps.length≤6000
  ·rw[decide_eq_true h,decide_eq_true (by omega)]
  ·rw[decide_eq_false h,decide_eq_false (by omega)]
 rw[←e1];clear hw hb hB e1;generalize u.keeps.length=n at *;go_enter Tryz.func36,Tryz.ntmps36;go_wp2_with fail;go_ret;exact⟨rfl,hR.out⟩
theorem node_f1(W:World)(htab:Tab W)(l:List ByteArray)(hl:∀s∈l,s.size≤maxLen):F1 W (.func (.func 37) #[] #[]) l nodeB:=
 ⟨_,_,rfl,(fun args w=>by go_simp),fun w hw s hs=>(node_any s w (hl s hs) (tab_below htab hw)).mono (fun _ _ h=>h)⟩
end sf
namespace sf
open RowKit
def cntU(l:Array Bool):Nat→Nat
 | 0=>0
 | n+1=>cntU l n+(if l.getD n true then 0 else 1)
theorem getD_set(l:Array Bool)(i j:Nat)(b:Bool)(h:i<l.size):(l.setIfInBounds i true).getD j b=if j=i then true else l.getD j b:=by
 simp only[Array.getD_eq_getD_getElem?,Array.getElem?_setIfInBounds];by_cases e:j=i
 ·subst e
  simp[h]
 ·have e2:¬i=j:=fun x=>e x.symm
  rw[if_neg e2,if_neg e]
theorem cnt_set(l:Array Bool)(i:Nat)(h:i<l.size):∀n,cntU (l.setIfInBounds i true) n+(if i<n∧l.getD i true=false then 1 else 0)≤cntU l n
 | 0=>by simp[cntU]
 | n+1=>by
  have ih:=cnt_set l i h n;unfold cntU;rw[getD_set l i n true h];by_cases e:n=i
  ·subst e
   have h0:cntU (l.setIfInBounds n true) n≤cntU l n:=by omega
   rcases hb:l.getD n true with _ | _
   ·simp
    omega
   ·simp
    omega
  ·rw[if_neg e]
   have e':(if i<n+1∧l.getD i true=false then 1 else 0)=(if i<n∧l.getD i true=false then 1 else 0):=by
    by_cases hlt:i<n
    ·have h2:i<n+1:=by omega
     simp only[hlt,h2]
    ·have h2:¬i<n+1:=by omega
     simp only[hlt,h2]
   rw[e'];omega
theorem cnt_zero(l:Array Bool):∀n,cntU l n=0→∀j,j<n→l.getD j true=true
 | 0,_,j,hj=>by omega
 | n+1,h,j,hj=>by
  unfold cntU at h;by_cases e:j=n
  ·subst e
   by_cases hb:l.getD j true=true
   ·exact hb
   ·rw[if_neg hb]at h;omega
  ·exact cnt_zero l n (by omega) j (by omega)
theorem cnt_le(l:Array Bool):∀n,cntU l n≤n
 | 0=>Nat.le_refl _
 | n+1=>by
  have:=cnt_le l n;unfold cntU;split <;> omega
theorem ready_spec{md:Region.Mode}{ops:Array Oper}{l:Array Bool}{i:Nat}(h:i∈Region.ready md ops l):i<ops.size∧l.getD i true=false∧∀o,ops[i]? = some o→(o.after.all fun e=>!Region.binds md e||l.getD e.on false)=true:=by
 unfold Region.ready at h;rw[List.mem_filter,List.mem_range]at h;obtain⟨h1,h2⟩:=h;rw[Bool.and_eq_true]at h2;refine⟨h1,by simpa using h2.1,fun o ho=>?_⟩;have h3:=h2.2;rw[ho]at h3
 simpa using h3
theorem wpAny_inv{P:Program}{md:Region.Mode}{ops:Array Oper}{Q:Exit→Act→World→Prop}(Inv:Array Bool→Act→World→Prop)
 (hstep:∀(l:Array Bool) (a:Act) (w:World) (i:Nat),Inv l a w→l.size=ops.size→i∈Region.ready md ops l→wpOp P ops Q i (fun a' w'=>Inv (l.setIfInBounds i true) a' w') a w)
 (hend:∀(l:Array Bool) (a:Act) (w:World),Inv l a w→l.size=ops.size→Region.ready md ops l=[]→Q .normal a w) :
 ∀(fuel:Nat) (l:Array Bool) (a:Act) (w:World),l.size=ops.size→cntU l ops.size≤fuel→Inv l a w→wpAny P md ops Q fuel l a w
 | 0,l,a,w,hs,hc,hI=>by
  have hz:=cnt_zero l ops.size (by omega);have hr:Region.ready md ops l=[]:=by
   rw[List.eq_nil_iff_forall_not_mem];intro i hi;obtain⟨h1,h2,_⟩:=ready_spec hi;rw[hz i h1]at h2;cases h2
  exact⟨hr,hend l a w hI hs hr⟩
 | fuel+1,l,a,w,hs,hc,hI=>by
  refine⟨fun hr=>hend l a w hI hs hr,fun i hi=>wpOp_mono (fun a' w' h=>?_) (hstep l a w i hI hs hi)⟩;obtain⟨h1,h2,_⟩:=ready_spec hi;have hcs:=cnt_set l i (by omega) ops.size;rw[if_pos ⟨h1,h2⟩]at hcs;exact wpAny_inv Inv hstep hend fuel _ a' w' (by rw[Array.size_setIfInBounds];exact hs) (by omega) h
theorem wp_region_inv{P:Program}{ops:Array Oper}{Q:Exit→Act→World→Prop}{id:Nat}{a:Act}{w:World}(Inv:Array Bool→Act→World→Prop)(hm:P.follows .mixedOrders=true)
 (h0:Inv (Array.replicate ops.size false) a w.drew)
 (hstep:∀(l:Array Bool) (a:Act) (w:World) (i:Nat),Inv l a w→l.size=ops.size→i∈Region.ready .any ops l→wpOp P ops Q i (fun a' w'=>Inv (l.setIfInBounds i true) a' w') a w)
 (hend:∀(l:Array Bool) (a:Act) (w:World),Inv l a w→l.size=ops.size→Region.ready .any ops l=[]→Q .normal a w):(Code.region id ops true).wp P Q a w:=
 wp_region_any hm (wpAny_inv Inv hstep hend ops.size _ a _ (by simp) (cnt_le _ _) h0)
def waits(ops:Array Oper)(i k:Nat):Bool:=((ops[i]?).map fun o=>o.after.any fun e=>Region.binds .any e&&(e.on==k)).getD false
def down(ops:Array Oper):Bool:=(List.range ops.size).all fun i=>((ops[i]?).map fun o=>o.after.all fun e=>!Region.binds .any e||decide (e.on<i)).getD false
theorem all_listed{ops:Array Oper}(hd:down ops=true){l:Array Bool}(hs:l.size=ops.size)(hr:Region.ready .any ops l=[]):∀n i,i<n→i<ops.size→l.getD i false=true:=by
 intro n
 induction n with
 | zero=>intro i h;omega
 | succ n ih=>
  intro i hi hlt;by_cases h:l.getD i false=true
  ·exact h
  exfalso
  have hf:l.getD i true=false:=by
   rw[Array.getD_eq_getD_getElem?,Array.getElem?_eq_getElem (by omega)]at h ⊢
   simpa using h
  have:i∈Region.ready .any ops l:=by
   unfold Region.ready;rw[List.mem_filter,List.mem_range];refine⟨hlt,?_⟩;rw[hf,Array.getElem?_eq_getElem hlt];simp only[Bool.not_false,Option.map_some,Option.getD_some,Bool.true_and];have h1:=List.all_eq_true.1 hd i (List.mem_range.2 hlt);rw[Array.getElem?_eq_getElem hlt]at h1;simp only[Option.map_some,Option.getD_some]at h1;rw[Array.all_eq_true]at h1 ⊢;intro k hk;have h2:=h1 k hk;rw[Bool.or_eq_true]at h2 ⊢;rcases h2 with h2 | h2
   ·exact Or.inl h2
   ·have h3:=of_decide_eq_true h2
    exact Or.inr (ih _ (by omega) (by omega))
  rw[hr]at this;cases this
def slotOf(ops:Array Oper)(i:Nat):Nat:=((ops[i]?).bind (·.dst)).getD 0
def own(ops:Array Oper)(n:Nat):Bool:=(List.range ops.size).all fun i=>((ops[i]?).map fun o=>(o.dst==some (slotOf ops i))&&decide (slotOf ops i<n)&&o.guard.isNone).getD false&&(List.range i).all fun j=>slotOf ops j != slotOf ops i
def isSlot(ops:Array Oper)(s:Nat):Bool:=(List.range ops.size).any fun i=>slotOf ops i==s
def waitsS(ops:Array Oper)(i s:Nat):Bool:=(List.range ops.size).any fun k=>waits ops i k&&(slotOf ops k==s)
structure Like(ops:Array Oper)(a0 a:Act):Prop where
 d:a.defers=a0.defers
 n:a.tmps.size=a0.tmps.size
 e:∀s,isSlot ops s=false→a.eval (.tmp s)=a0.eval (.tmp s)
theorem own_spec{ops:Array Oper}{n:Nat}(h:own ops n=true){i:Nat}(hi:i<ops.size):(∀o,ops[i]? = some o→o.dst=some (slotOf ops i)∧o.guard=none)∧slotOf ops i<n∧∀j,j<i→slotOf ops j≠slotOf ops i:=by
 have h1:=List.all_eq_true.1 h i (List.mem_range.2 hi);rw[Bool.and_eq_true]at h1;rw[Array.getElem?_eq_getElem hi]at h1;simp only[Option.map_some,Option.getD_some,Bool.and_eq_true]at h1;obtain⟨⟨⟨h2,h3⟩,h4⟩,h5⟩:=h1;refine⟨fun o ho=>?_,of_decide_eq_true h3,fun j hj=>?_⟩
 ·rw[Array.getElem?_eq_getElem hi]at ho
  cases ho;exact⟨by simpa using h2,by simpa using h4⟩
 ·have:=List.all_eq_true.1 h5 j (List.mem_range.2 hj)
  simpa using this
theorem own_ne{ops:Array Oper}{n:Nat}(h:own ops n=true){i j:Nat}(hi:i<ops.size)(hj:j<ops.size)(hne:j≠i):slotOf ops j≠slotOf ops i:=by
 rcases Nat.lt_or_gt_of_ne hne with h1 | h1
 ·exact(own_spec h hi).2.2 j h1
 ·exact fun e=>(own_spec h hj).2.2 i h1 e.symm
theorem eval_put(a:Act)(d s:Nat)(v:Value)(hd:d<a.tmps.size):(a.put (some d) v).eval (.tmp s)=if s=d then v else a.eval (.tmp s):=by
 show(a.tmps.setIfInBounds d v).getD s undef=if s=d then v else a.tmps.getD s undef
 simp only[Array.getD_eq_getD_getElem?,Array.getElem?_setIfInBounds];by_cases e:s=d
 ·subst e
  simp[hd]
 ·rw[if_neg e,if_neg (fun x=>e x.symm)]
theorem region_at{P:Program}{ops:Array Oper}{Q:Exit→Act→World→Prop}{id:Nat}{a0:Act}{W:World}(R:Nat→Value→World→Prop)(hm:P.follows .mixedOrders=true)(hd:down ops=true)(ho:own ops a0.tmps.size=true)
 (hR:∀s v w w',R s v w→Below w.heap.size w w'→R s v w')
 (hop:∀i,i<ops.size→∀a w,Like ops a0 a→Below W.heap.size W w→(∀s,waitsS ops i s=true→R s (a.eval (.tmp s)) w)→wpOp P ops Q i (fun a' w'=>∃v,a'=a.put (some (slotOf ops i)) v∧R (slotOf ops i) v w'∧Below w.heap.size w w') a w)
 (hend:∀a w,Like ops a0 a→Below W.heap.size W w→(∀s,isSlot ops s=true→R s (a.eval (.tmp s)) w)→Q .normal a w):(Code.region id ops true).wp P Q a0 W:=by
 refine wp_region_inv (fun l a w=>Like ops a0 a∧Below W.heap.size W w∧∀j,j<ops.size→l.getD j false=true→R (slotOf ops j) (a.eval (.tmp (slotOf ops j))) w) hm ⟨⟨rfl,rfl,fun _ _=>rfl⟩,(Below.refl _ _).drew,fun j _ h=>?_⟩ ?_ ?_
 ·rw[Array.getD_eq_getD_getElem?,Array.getElem?_replicate]at h
  split at h <;> simp at h
 ·rintro l a w i ⟨hL,b,hI⟩ hs hi
  obtain⟨h1,h2,h3⟩:=ready_spec hi;have hsi:=own_spec ho h1;refine wpOp_mono ?_ (hop i h1 a w hL b ?_)
  ·rintro a' w' ⟨v,rfl,hv,b'⟩
   have hdz:slotOf ops i<a.tmps.size:=by rw[hL.n];exact hsi.2.1
   refine⟨⟨hL.d,?_,fun s h=>?_⟩,b.trans (b'.mono b.size),fun j hj hl=>?_⟩
   ·rw[←hL.n]
    exact Array.size_setIfInBounds ..
   ·rw[eval_put _ _ _ _ hdz,if_neg,hL.e s h]
    rintro rfl;have:isSlot ops (slotOf ops i)=true:=List.any_eq_true.2 ⟨i,List.mem_range.2 h1,by simp⟩;rw[h]at this;cases this
   ·rw[eval_put _ _ _ _ hdz]
    by_cases e:j=i
    ·subst e
     rw[if_pos rfl];exact hv
    ·rw[if_neg (own_ne ho h1 hj e)]
     rw[getD_set l i j false (by omega),if_neg e]at hl;exact hR _ _ _ _ (hI j hj hl) b'
  ·intro s hk
   unfold waitsS at hk;rw[List.any_eq_true]at hk;obtain⟨k,hk1,hk2⟩:=hk;rw[Bool.and_eq_true,beq_iff_eq]at hk2;obtain⟨hk2,rfl⟩:=hk2;unfold waits at hk2;rw[Array.getElem?_eq_getElem h1]at hk2;simp only[Option.map_some,Option.getD_some]at hk2;rw[Array.any_eq_true]at hk2;obtain⟨n,hn,hk2⟩:=hk2;rw[Bool.and_eq_true,beq_iff_eq]at hk2;have h4:=h3 _ (Array.getElem?_eq_getElem h1);rw[Array.all_eq_true]at h4;have h5:=h4 n hn;rw[hk2.1,hk2.2]at h5;exact hI k (List.mem_range.1 hk1) (by simpa using h5)
 ·rintro l a w ⟨hL,b,hI⟩ hs hr
  refine hend a w hL b (fun s h=>?_);obtain⟨j,hj,h⟩:=List.any_eq_true.1 h;obtain rfl:=beq_iff_eq.1 h;exact hI j (List.mem_range.1 hj) (all_listed hd hs hr _ j (Nat.lt_succ_self _) (List.mem_range.1 hj))
theorem wpOp_val{P:Program}{ops:Array Oper}{Q:Exit→Act→World→Prop}{i:Nat}{K:Act→World→Prop}{a:Act}{w w':World}{o:Oper}{d:Nat}(v:Value)(ho:ops[i]? = some o)(hg:o.guard=none)(hd:o.dst=some d)(hx:(execOp a.eval o).run P w=.ok (.value v) w')(hK:K (a.put (some d) v) w'):wpOp P ops Q i K a w:=by
 unfold wpOp;rw[ho];have hw:Region.wanted o (yielded ops a.tmps)=true:=by simp[Region.wanted,hg]
 simp only[hw,if_true];refine Or.inl ?_;unfold Oper.wp;rw[hx,Oper.upon_value,hd];exact hK
theorem wpOp_call{P:Program}{ops:Array Oper}{Q:Exit→Act→World→Prop}{i:Nat}{K:Act→World→Prop}{a:Act}{w:World}{o:Oper}{d:Nat}{x:Operand}{xs:Array Operand}{ts:Array TypeId}{f:FuncId}{cap vs:Array Value}(ho:ops[i]? = some o)(hg:o.guard=none)(hd:o.dst=some d)(hc:o.op=.call { callee:=.value x,args:=xs,argTypes:=ts })(hx:a.eval x=.func (.func f) #[] cap)(hen:∀args w,(callFunc f args).run P w=.ok (.enter f args) w)(hv:xs.map a.eval=vs)
 (h:Calls P f (vs++cap) w (fun e w'=>∃v,e=.returned v∧K (a.put (some d) v) w')):wpOp P ops Q i K a w:=by
 unfold wpOp;rw[ho];have hw:Region.wanted o (yielded ops a.tmps)=true:=by simp[Region.wanted,hg]
 simp only[hw,if_true];refine Or.inl ?_;subst hv;unfold Oper.wp execOp;simp only[hc,resolve,hx,Deferred.ofValue,Sem.run_bind,Sem.run_pure,Result.andThen_ok,invoke,hen,Array.empty_append];refine Calls.mono h ?_;rintro e w' ⟨v,rfl,hk⟩;rw[hd];exact hk
end sf
namespace sf
open RowKit mem sy
def Stab(p:Value→World→Prop):Prop:=∀v w w',p v w→Below w.heap.size w w'→p v w'
def sEq(x:Value):Value→World→Prop:=fun v _=>v=x
def sF(r:Value):Value→World→Prop:=fun v w=>F0 w v r
def sL(es:List Int):Value→World→Prop:=fun v w=>∃B c,∃vs:List Value,v=.slice (some ⟨B,0,none⟩) vs.length c∧es.length=vs.length∧vs.length≤1000∧(∀k (hk:k<vs.length),w.cell? ⟨B,0+k,none⟩=some vs[k])∧∀k (hk:k<vs.length) (he:k<es.length),F0 w vs[k] (.int .i64 es[k])
theorem sEq_stab(x:Value):Stab (sEq x):=fun v w w' h _=>h
theorem sF_stab(r:Value):Stab (sF r):=fun v w w' h b=>F0.below h b
theorem sL_stab(es:List Int):Stab (sL es):=by
 rintro v w w' ⟨B,c,vs,e,hn,hl,hc,hf⟩ b;exact⟨B,c,vs,e,hn,hl,fun k hk=>(b.cell (block_lt_of_cell (hc k hk))).trans (hc k hk),fun k hk he=>(hf k hk he).below b⟩
def RC(tb:List (Nat×(Value→World→Prop)))(s:Nat)(v:Value)(w:World):Prop:=((tb.lookup s).getD (fun _ _=>True)) v w
theorem rc_at{tb:List (Nat×(Value→World→Prop))}{s:Nat}{p:Value→World→Prop}(h:tb.lookup s=some p)(v:Value)(w:World):RC tb s v w=p v w:=by
 unfold RC;rw[h];rfl
theorem rc_stab{tb:List (Nat×(Value→World→Prop))}(h:∀x∈tb,Stab x.2)(s:Nat)(v:Value)(w w':World)(hr:RC tb s v w)(b:Below w.heap.size w w'):RC tb s v w':=by
 induction tb with
 | nil=>trivial
 | cons x tb ih=>
  obtain⟨k,p⟩:=x;unfold RC at hr ⊢;rw[List.lookup_cons]at hr ⊢;cases hk:(s==k)with
  | true=>
   rw[hk]at hr;exact h _ (List.mem_cons_self ..) v w w' hr b
  | false=>
   rw[hk]at hr;exact ih (fun x hx=>h x (List.mem_cons_of_mem _ hx)) hr
def Kont(tb:List (Nat×(Value→World→Prop)))(s:Nat)(a:Act)(w:World)(a':Act)(w':World):Prop:=∃v,a'=a.put (some s) v∧RC tb s v w'∧Below w.heap.size w w'
section
variable {ops:Array Oper} {Q:Exit→Act→World→Prop} {i:Nat} {a:Act} {w:World} {o:Oper} {s:Nat} {tb:List (Nat×(Value→World→Prop))}
theorem op_eq(v:Value)(ho:ops[i]? = some o)(hg:o.guard=none)(hd:o.dst=some s)(ht:tb.lookup s=some (sEq v))(hx:(execOp a.eval o).run Tryz.prog w=.ok (.value v) w):wpOp Tryz.prog ops Q i (Kont tb s a w) a w:=
 wpOp_val v ho hg hd hx ⟨v,rfl,by rw[rc_at ht];exact rfl,Below.refl _ _⟩
theorem op_fn(v r:Value)(ho:ops[i]? = some o)(hg:o.guard=none)(hd:o.dst=some s)(ht:tb.lookup s=some (sF r))(hx:(execOp a.eval o).run Tryz.prog w=.ok (.value v) w)(hF:F0 w v r):wpOp Tryz.prog ops Q i (Kont tb s a w) a w:=
 wpOp_val v ho hg hd hx ⟨v,rfl,by rw[rc_at ht];exact hF,Below.refl _ _⟩
theorem op_np{x:Operand}{xs:Array Operand}{ts:Array TypeId}{f:FuncId}{vs:Array Value}{r:Value}(ho:ops[i]? = some o)(hg:o.guard=none)(hd:o.dst=some s)(hc:o.op=.call { callee:=.value x,args:=xs,argTypes:=ts })(hx:a.eval x=.func (.func f) #[] #[])(hen:En f)(hv:xs.map a.eval=vs)(ht:tb.lookup s=some (sF r))(h:Calls Tryz.prog f vs w (NP w r)):wpOp Tryz.prog ops Q i (Kont tb s a w) a w:=
 wpOp_call ho hg hd hc hx hen hv (by
  rw[Array.append_empty];refine h.mono ?_;rintro e w' ⟨v,rfl,hv,b⟩
  exact⟨v,rfl,v,rfl,by rw[rc_at ht];exact hv,b⟩)
theorem op_ip{x:Operand}{xs:Array Operand}{ts:Array TypeId}{f:FuncId}{vs:Array Value}{n:Int}(ho:ops[i]? = some o)(hg:o.guard=none)(hd:o.dst=some s)(hc:o.op=.call { callee:=.value x,args:=xs,argTypes:=ts })(hx:a.eval x=.func (.func f) #[] #[])(hen:En f)(hv:xs.map a.eval=vs)(ht:tb.lookup s=some (sEq (.int .i64 n)))(h:Calls Tryz.prog f vs w (IPost n w)):wpOp Tryz.prog ops Q i (Kont tb s a w) a w:=
 wpOp_call ho hg hd hc hx hen hv (by
  rw[Array.append_empty];refine h.mono ?_;rintro e w' ⟨rfl,b⟩
  exact⟨_,rfl,_,rfl,by rw[rc_at ht];exact rfl,b⟩)
end
section
variable {P:Program} {ρ:Operand→Value} {o:Oper} {w:World} {x:Operand} {v p:Value} {t:TypeId}
theorem x_fn{f:FuncId}(h:o.op=.makeFunc (.func f) #[] #[x])(hx:ρ x=v):(execOp ρ o).run P w=.ok (.value (.func (.func f) #[] #[v])) w:=by
 subst hx;unfold execOp;simp only[h,Instr.makeFunc,Sem.run_bind,Sem.run_pure,Result.andThen_ok,List.map_toArray,List.map_cons,List.map_nil]
theorem x_mv(h:o.op=.move x)(hx:ρ x=v):(execOp ρ o).run P w=.ok (.value v) w:=by
 subst hx;unfold execOp;rw[h];rfl
theorem x_as(h:o.op=.assign x)(hx:ρ x=v):(execOp ρ o).run P w=.ok (.value v) w:=by
 subst hx;unfold execOp;rw[h];rfl
theorem x_fld{k:Nat}(h:o.op=.fieldAddr t x k)(hx:ρ x=p)(hr:(Instr.fieldAt t p k).run P w=.ok v w):(execOp ρ o).run P w=.ok (.value v) w:=by
 subst hx;unfold execOp;simp only[h,Sem.run_bind,hr,Result.andThen_ok,Sem.run_pure]
theorem x_ld(h:o.op=.load t x)(hx:ρ x=p)(hr:(Instr.loadAt t p).run P w=.ok v w):(execOp ρ o).run P w=.ok (.value v) w:=by
 subst hx;unfold execOp;simp only[h,Sem.run_bind,hr,Result.andThen_ok,Sem.run_pure]
theorem x_bs{n:Nat}{parts:Array (Nat×Operand)}{ps:Array (Nat×Value)}{w':World}(h:o.op=.buildSlice t n parts)(hx:(parts.map fun(i,x)=>(i,ρ x))=ps)(hr:(Instr.buildSlice t n ps).run P w=.ok v w'):(execOp ρ o).run P w=.ok (.value v) w':=by
 subst hx;unfold execOp;simp only[h,Sem.run_bind,hr,Result.andThen_ok,Sem.run_pure]
end
def AllTo(p:Nat→Prop):List Nat→Prop
 | []=>True
 | i :: r=>p i∧AllTo p r
theorem allTo_mem{p:Nat→Prop}:∀{l:List Nat},AllTo p l→∀i∈l,p i
 | [],_,i,h=>by cases h
 | j :: r,h,i,hi=>by
  rcases List.mem_cons.1 hi with rfl | hi
  ·exact h.1
  ·exact allTo_mem h.2 i hi
theorem region_tb{ops:Array Oper}{Q:Exit→Act→World→Prop}{id:Nat}{a0:Act}{W:World}(tb:List (Nat×(Value→World→Prop)))(l:List Nat)(hl:List.range ops.size=l)(hst:∀x∈tb,Stab x.2)(hm:Tryz.prog.follows .mixedOrders=true)(hd:down ops=true)(ho:own ops a0.tmps.size=true)
 (hop:AllTo (fun i=>∀a w,Like ops a0 a→Below W.heap.size W w→(∀s,waitsS ops i s=true→RC tb s (a.eval (.tmp s)) w)→wpOp Tryz.prog ops Q i (Kont tb (slotOf ops i) a w) a w) l)
 (hend:∀a w,Like ops a0 a→Below W.heap.size W w→(∀s,isSlot ops s=true→RC tb s (a.eval (.tmp s)) w)→Q .normal a w):(Code.region id ops true).wp Tryz.prog Q a0 W:=
 region_at (RC tb) hm hd ho (fun s v w w'=>rc_stab hst s v w w') (fun i hi a w hL b hw=>allTo_mem hop i (by rw[←hl];exact List.mem_range.2 hi) a w hL b hw) hend
end sf
namespace ym
open RowKit Go.Sort sy
theorem gCount_snoc(l:List Use)(u:Use):gCount (l++[u])=gCount l+if u.g then 1 else 0:=by
 unfold gCount;rw[List.filter_append,List.length_append];cases hg:u.g <;> simp[hg]
theorem giver_snoc(a:ByteArray)(l:List Use)(u:Use):giverFrom a (l++[u])=if u.g then u.m else giverFrom a l:=by
 unfold giverFrom;rw[List.foldl_append];rfl
theorem wantL_snoc(l:List Use)(u:Use):wantL (l++[u])=wantL l++if u.w then [u.m] else []:=by
 unfold wantL;rw[List.filter_append,List.map_append];cases hw:u.w <;> simp[hw]
theorem alone_snoc(l:List Use)(u:Use):(l++[u]).any Use.alone=(l.any Use.alone||u.alone):=by simp
theorem same_snoc:∀(l:List Use) (p:Option Use) (u:Use),sameFrom p (l++[u])=(sameFrom p l&&match (l.getLast?.or p)with | none=>true | some a=>like u a):=by
 intro l
 induction l with
 | nil=>intro p u;cases p <;> simp[sameFrom]
 | cons x t ih=>
  intro p u;have hl:∀q:Option Use,((x :: t).getLast?.or q)=(t.getLast?.or (some x)):=by
   intro q;rw[List.getLast?_cons];cases t.getLast? <;> rfl
  rw[hl];cases p with
  | none=>show sameFrom (some x) (t++[u])=(sameFrom (some x) t&&_);rw[ih]
  | some a=>show(like x a&&sameFrom (some x) (t++[u]))=((like x a&&sameFrom (some x) t)&&_);rw[ih,Bool.and_assoc]
noncomputable def symE(ty:Int)(l:List Use):Int:=
 if 2≤gCount l∨(1<l.length∧l.any Use.alone=true) then 8 else if sameFrom none l=false then ty else if gCount l=0∧wantL l≠[] then 7 else 0
theorem symE_prog(ty:Int)(f:Use)(l:List Use)(h:∀u∈f :: l,u.m.size≠0) :
 (if(psAll (f :: l).length f (f :: l)).e0 then 8 else if(psAll (f :: l).length f (f :: l)).e1 then ty else if decide ((psAll (f :: l).length f (f :: l)).giver.size=0)&&decide ((psAll (f :: l).length f (f :: l)).wanted≠[]) then 7 else 0)=symE ty (f :: l):=by
 rw[ps_all _ _ _ h];unfold symE;dsimp only;rw[same_all];have e1:(decide (2≤gCount (f :: l))||(decide (1<(f :: l).length)&&(f :: l).any Use.alone))=true↔(2≤gCount (f :: l)∨(1<(f :: l).length∧(f :: l).any Use.alone=true)):=by
  rw[Bool.or_eq_true,Bool.and_eq_true,decide_eq_true_eq,decide_eq_true_eq]
 have e2:(!(f :: l).any (fun u=>!like f u))=false↔(f :: l).any (fun u=>!like f u)=true:=by
  cases(f :: l).any (fun u=>!like f u) <;> simp
 have e3:(decide ((giverFrom ⟨#[]⟩ (f :: l)).size=0)&&decide (wantL (f :: l)≠[]))=true↔(gCount (f :: l)=0∧wantL (f :: l)≠[]):=by
  rw[Bool.and_eq_true,decide_eq_true_eq,decide_eq_true_eq,giver_empty _ h]
 simp only[e1,e2,e3]
end ym
namespace re
open RowKit Go.Sort Shelf mem
theorem map_tx(l:List ByteArray):(l.map tx).map encStr=l.map Value.string:=by
 rw[List.map_map];rfl
def GTPost(w:World)(l:List (List UInt8))(N:Nat)(e:Ending)(w':World):Prop:=∃r,e=.returned (.bool r)∧w=w'∧(r=false→l.length≤N∧∀s∈l,s.length≤100)
theorem len_take{l:List (List UInt8)}{k:Nat}(hk:k<l.length)(h:∀s∈l.take k,s.length≤100)(h2:l[k].length≤100):∀s∈l.take (k+1),s.length≤100:=fun s hs=>by
 rw[List.take_succ_eq_append_getElem hk,List.mem_append,List.mem_singleton]at hs;rcases hs with hs | rfl
 ·exact h s hs
 ·exact h2
theorem rd_at{w:World}{A:Option Addr}{l:List (List UInt8)}(h:Rd w A (l.map encStr)){k:Nat}(hk:k<l.length):∃g o,A=some ⟨g,o,none⟩∧g<w.heap.size∧w.cell? ⟨g,o+k,none⟩=some (encStr l[k]):=by
 obtain⟨g,o,e,hl,hc⟩:=h (by rw[List.length_map];omega);refine⟨g,o,e,hl,?_⟩;rw[hc k (by rw[List.length_map];exact hk),List.getElem_map]
theorem greatT_any(w:World)(A:Option Addr)(cap:Nat)(l:List (List UInt8))(h:Rd w A (l.map encStr))(hm:l.length≤maxLen) :
 Calls Tryz.prog 23 #[.slice A l.length cap] w (GTPost w l 60):=by
 have Hh:=hid h;unfold maxLen at hm;clear h;unfold GTPost;obtain⟨n,hN⟩:∃n,Hid (n=l.length):=⟨_,hid rfl⟩;rw[←hN.out]at hm ⊢;go_enter Tryz.func23,Tryz.ntmps23;go_wp2_with fail;go_loopw [3] (fun i wr=>∃k:Nat,k≤n∧k≤60∧i=.int .i64 k∧Hid (∀s∈l.take k,s.length≤100)∧w=wr) (fun i _=>n-(intOf i).toNat)
 case atStart=>exact⟨0,by omega,by omega,rfl,hid (fun s hs=>by simp at hs),rfl⟩
 case round=>
  obtain⟨k,hk,hk6,rfl,hG,rfl⟩:=hrel;by_cases hkl:k<n
  ·have e1:decide ((k:Int)<(n:Int))=true:=decide_eq_true (by omega)
   have hkx:k<l.length:=by rw[←hN.out];exact hkl
   by_cases h6:60≤k
   ·have e2:decide ((60:Int)≤(k:Int))=true:=decide_eq_true (by omega)
    go_wp2_with fail;go_ret;exact⟨true,rfl,rfl,fun h=>by cases h⟩
   ·have e2:decide ((60:Int)≤(k:Int))=false:=decide_eq_false (by omega)
    obtain⟨g,o,rfl,hg,c3⟩:=rd_at Hh.out hkx;have hG2:=hid (len_take hkx hG.out);clear hG;unfold encStr at c3;generalize l[k] = tx at *;by_cases h100:100<tx.length
    ·have e3:decide ((100:Int)<(tx.length:Int))=true:=decide_eq_true (by omega)
     go_wp2_with fail;go_ret;exact⟨true,rfl,rfl,fun h=>by cases h⟩
    ·have e3:decide ((100:Int)<(tx.length:Int))=false:=decide_eq_false (by omega)
     have hG3:=hid (hG2.out (by omega));clear hG2;go_wp2_with fail;go_roundw
     case rel=>exact⟨k+1,by omega,by omega,by go_num,hG3,trivial⟩
     case measure=>simp[intOf];omega
  ·obtain rfl:k=n:=by omega
   have e1:decide ((k:Int)<(k:Int))=false:=decide_eq_false (by omega)
   have hall:Hid (∀s∈l,s.length≤100):=hid (by
    have:=hG.out
    rwa[List.take_of_length_le (by rw[hN.out];exact Nat.le_refl _)]at this)
   go_wp2_with fail;go_ret;exact⟨false,rfl,rfl,fun _=>⟨hk6,hall.out⟩⟩
theorem greatK_any(w:World)(A:Option Addr)(cap:Nat)(l:List (List UInt8))(h:Rd w A (l.map encStr))(hm:l.length≤maxLen)(h2:l.length≤200) :
 Calls Tryz.prog 24 #[.slice A l.length cap] w (GTPost w l 200):=by
 have Hh:=hid h;unfold maxLen at hm;clear h;unfold GTPost;obtain⟨n,hN⟩:∃n,Hid (n=l.length):=⟨_,hid rfl⟩;rw[←hN.out]at hm h2 ⊢;go_enter Tryz.func24,Tryz.ntmps24;go_wp2_with fail;go_loopw [3] (fun i wr=>∃k:Nat,k≤n∧i=.int .i64 k∧Hid (∀s∈l.take k,s.length≤100)∧w=wr) (fun i _=>n-(intOf i).toNat)
 case atStart=>exact⟨0,by omega,rfl,hid (fun s hs=>by simp at hs),rfl⟩
 case round=>
  obtain⟨k,hk,rfl,hG,rfl⟩:=hrel;by_cases hkl:k<n
  ·have e1:decide ((k:Int)<(n:Int))=true:=decide_eq_true (by omega)
   have hkx:k<l.length:=by rw[←hN.out];exact hkl
   obtain⟨g,o,rfl,hg,c3⟩:=rd_at Hh.out hkx;have hG2:=hid (len_take hkx hG.out);clear hG;unfold encStr at c3;generalize l[k] = tx at *;by_cases h100:100<tx.length
   ·have e3:decide ((100:Int)<(tx.length:Int))=true:=decide_eq_true (by omega)
    go_wp2_with fail;go_ret;exact⟨true,rfl,rfl,fun h=>by cases h⟩
   ·have e3:decide ((100:Int)<(tx.length:Int))=false:=decide_eq_false (by omega)
    have hG3:=hid (hG2.out (by omega));clear hG2;go_wp2_with fail;go_roundw
    case rel=>exact⟨k+1,by omega,by go_num,hG3,trivial⟩
    case measure=>simp[intOf];omega
  ·obtain rfl:k=n:=by omega
   have e1:decide ((k:Int)<(k:Int))=false:=decide_eq_false (by omega)
   have hall:Hid (∀s∈l,s.length≤100):=hid (by
    have:=hG.out
    rwa[List.take_of_length_le (by rw[hN.out];exact Nat.le_refl _)]at this)
   go_wp2_with fail;go_ret;exact⟨false,rfl,rfl,fun _=>⟨h2,hall.out⟩⟩
end re
namespace re
open RowKit ChangeShapes WideShapes mem sy
theorem cSu:Tryz.prog.cellsOf 43=7:=by kernel_rfl
theorem uSu:Tryz.prog.underlying 43=some (.struct (Tryz.prog.fieldsOf 43)):=by kernel_rfl
theorem fSu:(Tryz.prog.fieldsOf 43).toList.map (fun f=>(f.type,f.offset))=[(9,0),(31,1),(31,2),(31,3),(41,4)]:=by kernel_rfl
structure MB(B:Nat)(x:Mk):Prop where
 t:x.tag.size≤B
structure OB(B:Nat)(x:SO):Prop where
 n:x.name.size≤B
 k:x.kinds.size≤B
 l:x.marks.length * 24≤B
 m:∀y∈x.marks,y.tag.size≤B
structure FB(B:Nat)(x:SF):Prop where
 n:x.name.size≤B
 k:x.kinds.size≤B
 r:x.ret.size≤B
structure CB(B:Nat)(x:SC):Prop where
 a:x.a.size≤B
 b:x.b.size≤B
 t:x.tag.size≤B
 l:x.args.length * 16≤B
 g:∀y∈x.args,y.size≤B
structure SumB(B:Nat)(u:MU):Prop where
 n:u.name.size≤B
 g:u.gives.length≤maxLen∧(∀s∈u.gives,s.size≤B)∧u.gives.length * 16≤B
 w:u.wants.length≤maxLen∧(∀s∈u.wants,s.size≤B)∧u.wants.length * 16≤B
 k:u.keeps.length≤maxLen∧(∀s∈u.keeps,s.size≤B)∧u.keeps.length * 16≤B
 os:∀x∈u.s.os,OB B x.o
 fs:∀x∈u.s.fs,FB B x
 cs:∀x∈u.s.cs,CB B x.c
section
variable {H:Type} {enc:TypeId×Value→H} {W:World} {B:Nat}
theorem bMk:Tryz.prog.bytesOf 101=24:=by kernel_rfl
theorem str_elB{n:Nat}{u:Value}{y:DataW H×List MemPlace}(h:DataW.trod enc Tryz.prog W 0 (fun _=>true) true n 9 [u] = some y)(hw:∀m∈y.1.weights Tryz.prog 9,m≤B):∃a:ByteArray,u=.string a∧a.size≤maxLen∧a.size≤B:=by
 obtain⟨a,e,hd,hs⟩:=DataW.trod_string Tryz.underlying9 h;simp only[List.cons.injEq,and_true]at e;refine⟨a,e,hs,?_⟩;rw[hd]at hw;have:=hw a.data.toList.length (by simp[DataW.weights]);rw[Array.length_toList]at this;exact this
theorem mk_elB(n:Nat)(cs:List Value)(y:DataW H×List MemPlace)(h:DataW.trod enc Tryz.prog W 0 (fun _=>true) true n 101 cs=some y)(hl:cs.length=2)(hw:∀m∈y.1.weights Tryz.prog 101,m≤B) :
 ∃x:Mk,cs=mkRow x∧(x.tag.size≤maxLen∧(Lit.int .i64 x.at_).wf=true)∧MB B x:=by
 match cs,hl with
 | [c0,c1],_=>
  obtain⟨ys,m,_,hx,_,hl2,hf⟩:=DataW.trod_struct sy.uMk h;rw[hx]at hw;obtain⟨y0,h0,w0⟩:=fld fMk hl2 hf sy.uMk hw 0 3 0 rfl;obtain⟨y1,h1,w1⟩:=fld fMk hl2 hf sy.uMk hw 1 9 1 rfl;rw[cInt]at h0;rw[cStr]at h1;obtain⟨a0,rfl,s0⟩:=int_el (u:=c0) h0;obtain⟨a1,rfl,s1,b1⟩:=str_elB (u:=c1) h1 w1;exact⟨⟨a0,a1⟩,rfl,⟨s1,s0⟩,⟨b1⟩⟩
theorem obj_elB(n:Nat)(cs:List Value)(y:DataW H×List MemPlace)(h:DataW.trod enc Tryz.prog W 0 (fun _=>true) true n 70 cs=some y)(hl:cs.length=3)(hw:∀m∈y.1.weights Tryz.prog 70,m≤B) :
 ∃x:MO,cs=x.row∧MOk W x∧OB B x.o:=by
 match cs,hl with
 | [c0,c1,c2],_=>
  obtain⟨ys,m,_,hx,_,hl2,hf⟩:=DataW.trod_struct uOb h;rw[hx]at hw;obtain⟨y0,h0,w0⟩:=fld fOb hl2 hf uOb hw 0 9 0 rfl;obtain⟨y1,h1,w1⟩:=fld fOb hl2 hf uOb hw 1 9 1 rfl;obtain⟨y2,h2,w2⟩:=fld fOb hl2 hf uOb hw 2 68 2 rfl;rw[cStr]at h0 h1;rw[cMs]at h2;obtain⟨a0,rfl,s0,b0⟩:=str_elB (u:=c0) h0 w0;obtain⟨a1,rfl,s1,b1⟩:=str_elB (u:=c1) h1 w1;have:Inhabited Mk:=⟨⟨0,⟨#[]⟩⟩⟩;obtain⟨A,cap,ms,rfl,ht,hq,hle,hmax,hby⟩:=wide_of (u:=c2) (B:=B) mkRow _ Tryz.underlying68 cMk (by decide) (fun _=>rfl) (fun n cs y=>mk_elB n cs y) h2 w2;rw[bMk]at hby;exact⟨⟨⟨a0,a1,ms⟩,A,cap⟩,rfl,⟨s0,s1,ht,Nat.le_trans hle hmax,fun x hx=>(hq x hx).1.1,fun x hx=>(hq x hx).1.2,hle⟩,⟨b0,b1,hby,fun x hx=>(hq x hx).2.t⟩⟩
theorem fn_elB(n:Nat)(cs:List Value)(y:DataW H×List MemPlace)(h:DataW.trod enc Tryz.prog W 0 (fun _=>true) true n 72 cs=some y)(hl:cs.length=3)(hw:∀m∈y.1.weights Tryz.prog 72,m≤B) :
 ∃x:SF,cs=fnRow x∧FOk x∧FB B x:=by
 match cs,hl with
 | [c0,c1,c2],_=>
  obtain⟨ys,m,_,hx,_,hl2,hf⟩:=DataW.trod_struct uFn h;rw[hx]at hw;obtain⟨y0,h0,w0⟩:=fld fFn hl2 hf uFn hw 0 9 0 rfl;obtain⟨y1,h1,w1⟩:=fld fFn hl2 hf uFn hw 1 9 1 rfl;obtain⟨y2,h2,w2⟩:=fld fFn hl2 hf uFn hw 2 9 2 rfl;rw[cStr]at h0 h1 h2;obtain⟨a0,rfl,s0,b0⟩:=str_elB (u:=c0) h0 w0;obtain⟨a1,rfl,s1,b1⟩:=str_elB (u:=c1) h1 w1;obtain⟨a2,rfl,s2,b2⟩:=str_elB (u:=c2) h2 w2;exact⟨⟨a0,a1,a2⟩,rfl,⟨s0,s1,s2⟩,⟨b0,b1,b2⟩⟩
theorem txt_elB(n:Nat)(cs:List Value)(y:DataW H×List MemPlace)(h:DataW.trod enc Tryz.prog W 0 (fun _=>true) true n 9 cs=some y)(hl:cs.length=1)(hw:∀m∈y.1.weights Tryz.prog 9,m≤B) :
 ∃x:ByteArray,cs=[.string x]∧x.size≤maxLen∧x.size≤B:=by
 match cs,hl with
 | [c0],_=>
  obtain⟨a0,rfl,s0,b0⟩:=str_elB (u:=c0) h hw;exact⟨a0,rfl,s0,b0⟩
theorem txts_el{n:Nat}{c:Value}{y:DataW H×List MemPlace}(h:DataW.trod enc Tryz.prog W 0 (fun _=>true) true n 31 [c] = some y)(hw:∀m∈y.1.weights Tryz.prog 31,m≤B) :
 ∃(A:Option Addr) (cap:Nat) (l:List ByteArray),c=.slice A l.length cap∧Rd W A (l.map Value.string)∧l.length≤maxLen∧l.length≤cap∧(∀s∈l,s.size≤maxLen∧s.size≤B)∧l.length * 16≤B:=by
 have:Inhabited ByteArray:=⟨⟨#[]⟩⟩;obtain⟨A,cap,l,rfl,ht,hq,hle,hmax,hby⟩:=wide_of (u:=c) (B:=B) (fun s:ByteArray=>[Value.string s]) _ Tryz.underlying31 cStr (by decide) (fun _=>rfl) (fun n cs y=>txt_elB n cs y) h hw;rw[bStr]at hby;exact⟨A,cap,l,rfl,tbl_rd ht,Nat.le_trans hle hmax,hle,hq,hby⟩
theorem con_elB(n:Nat)(cs:List Value)(y:DataW H×List MemPlace)(h:DataW.trod enc Tryz.prog W 0 (fun _=>true) true n 103 cs=some y)(hl:cs.length=6)(hw:∀m∈y.1.weights Tryz.prog 103,m≤B) :
 ∃x:MC,cs=x.row∧COk W x∧CB B x.c:=by
 match cs,hl with
 | [c0,c1,c2,c3,c4,c5],_=>
  obtain⟨ys,m,_,hx,_,hl2,hf⟩:=DataW.trod_struct uCo h;rw[hx]at hw;obtain⟨y0,h0,w0⟩:=fld fCo hl2 hf uCo hw 0 3 0 rfl;obtain⟨y1,h1,w1⟩:=fld fCo hl2 hf uCo hw 1 9 1 rfl;obtain⟨y2,h2,w2⟩:=fld fCo hl2 hf uCo hw 2 9 2 rfl;obtain⟨y3,h3,w3⟩:=fld fCo hl2 hf uCo hw 3 3 3 rfl;obtain⟨y4,h4,w4⟩:=fld fCo hl2 hf uCo hw 4 9 4 rfl;obtain⟨y5,h5,w5⟩:=fld fCo hl2 hf uCo hw 5 31 5 rfl;rw[cStr]at h1 h2 h4;rw[cInt]at h0 h3;rw[cSs]at h5;obtain⟨a0,rfl,s0⟩:=int_el (u:=c0) h0;obtain⟨a1,rfl,s1,b1⟩:=str_elB (u:=c1) h1 w1;obtain⟨a2,rfl,s2,b2⟩:=str_elB (u:=c2) h2 w2;obtain⟨a3,rfl,s3⟩:=int_el (u:=c3) h3;obtain⟨a4,rfl,s4,b4⟩:=str_elB (u:=c4) h4 w4;obtain⟨A,cap,l,rfl,hr,hl,hlc,hq,hby⟩:=txts_el (c:=c5) h5 w5;exact⟨⟨⟨a0,a1,a2,a3,a4,l⟩,A,cap⟩,rfl,⟨s1,s2,s4,hr,hl,hlc,fun s hs=>(hq s hs).1⟩,⟨b1,b2,b4,hby,fun s hs=>(hq s hs).2⟩⟩
theorem sys_el{n:Nat}{c0 c1 c2:Value}{y:DataW H×List MemPlace}(h:DataW.trod enc Tryz.prog W 0 (fun _=>true) true n 41 [c0,c1,c2] = some y)(hw:∀m∈y.1.weights Tryz.prog 41,m≤B) :
 ∃s:MS,[c0,c1,c2] = [.slice s.oA s.os.length s.oc,.slice s.fA s.fs.length s.fc,.slice s.cA s.cs.length s.cc]∧SysM W s∧(∀x∈s.os,OB B x.o)∧(∀x∈s.fs,FB B x)∧∀x∈s.cs,CB B x.c:=by
 obtain⟨ys,m,_,hx,_,hl2,hf⟩:=DataW.trod_struct uSy h;rw[hx]at hw;obtain⟨y0,h0,w0⟩:=fld fSy hl2 hf uSy hw 0 37 0 rfl;obtain⟨y1,h1,w1⟩:=fld fSy hl2 hf uSy hw 1 38 1 rfl;obtain⟨y2,h2,w2⟩:=fld fSy hl2 hf uSy hw 2 39 2 rfl;rw[cOs]at h0;rw[cFs]at h1;rw[cCs]at h2;have i0:Inhabited MO:=⟨⟨⟨⟨#[]⟩,⟨#[]⟩,[]⟩,none,0⟩⟩;have i1:Inhabited SF:=⟨⟨⟨#[]⟩,⟨#[]⟩,⟨#[]⟩⟩⟩;have i2:Inhabited MC:=⟨⟨⟨0,⟨#[]⟩,⟨#[]⟩,0,⟨#[]⟩,[]⟩,none,0⟩⟩;obtain⟨A0,cap0,l0,rfl,t0,q0,le0,m0,_⟩:=wide_of (u:=c0) (B:=B) MO.row _ Tryz.underlying37 cOb (by decide) (fun _=>rfl) (fun n cs y=>obj_elB n cs y) h0 w0;obtain⟨A1,cap1,l1,rfl,t1,q1,le1,m1,_⟩:=wide_of (u:=c1) (B:=B) fnRow _ Tryz.underlying38 cFn (by decide) (fun _=>rfl) (fun n cs y=>fn_elB n cs y) h1 w1;obtain⟨A2,cap2,l2,rfl,t2,q2,le2,m2,_⟩:=wide_of (u:=c2) (B:=B) MC.row _ Tryz.underlying39 cCo (by decide) (fun _=>rfl) (fun n cs y=>con_elB n cs y) h2 w2;exact⟨⟨A0,cap0,l0,A1,cap1,l1,A2,cap2,l2⟩,rfl,⟨t0,t1,t2,fun x hx=>(q0 x hx).1,fun x hx=>(q1 x hx).1,fun x hx=>(q2 x hx).1,Nat.le_trans le0 m0,Nat.le_trans le1 m1,Nat.le_trans le2 m2⟩,fun x hx=>(q0 x hx).2,fun x hx=>(q1 x hx).2,fun x hx=>(q2 x hx).2⟩
end
end re
end Go.Proofs.YtlkboeajkgbnaaaGreatDoor
