import Derived.Test.YtdmmkjijgoiecaaGreatDoorY26
import Derived.Test.YtdmmkjijgoiecaaGreatDoorY41
import Derived.Test.YtdmmkjijgoiecaaGreatDoorY40
set_option linter.all false
set_option maxHeartbeats 4000000
namespace Go.Proofs.YtdmmkjijgoiecaaGreatDoor
open Lib(hid)
set_option maxRecDepth 100000
namespace sf
open RowKit mem sy
def En(f:FuncId):Prop:=∀(args:Array Value) (w:World),(callFunc f args).run Tryz.prog w=.ok (.enter f args) w
def F0(w:World)(v r:Value):Prop:=∃f cap,v=.func (.func f) #[] cap∧En f∧∀w',Below w.heap.size w w'→Calls Tryz.prog f cap w' (fun e J=>e=.returned r∧Below w'.heap.size w' J)
def F1(w:World)(v:Value)(l:List ByteArray)(g:ByteArray→Bool):Prop:=∃f cap,v=.func (.func f) #[] cap∧En f∧∀w',Below w.heap.size w w'→∀s∈l,Calls Tryz.prog f (#[.string s]++cap) w' (fun e J=>e=.returned (.bool (g s))∧Below w'.heap.size w' J)
theorem F0.below{w J:World}{v r:Value}(h:F0 w v r)(b:Below w.heap.size w J):F0 J v r:=by
 obtain⟨f,cap,e,Y,k⟩:=h;exact⟨f,cap,e,Y,fun w' b'=>k w' (b.trans (b'.mono b.size))⟩
theorem F1.below{w J:World}{v:Value}{l:List ByteArray}{g:ByteArray→Bool}(h:F1 w v l g)(b:Below w.heap.size w J):F1 J v l g:=by
 obtain⟨f,cap,e,Y,k⟩:=h;exact⟨f,cap,e,Y,fun w' b'=>k w' (b.trans (b'.mono b.size))⟩
theorem aFU(W:World)(b1 b2:Nat)(so:Value)(b:Bool)(c:Int)(h1:W.cell? ⟨b1,0,none⟩=some so)(h2:W.cell? ⟨b2,0,none⟩=some (.int .i64 c))(h:F0 W so (.bool b)):F0 W (.func (.func 127) #[] #[.pointer (some ⟨b1,0,none⟩),.pointer (some ⟨b2,0,none⟩)]) (.int .i64 (if b then 0 else c)):=by
 obtain⟨f,cap,rfl,a0,k⟩:=h;have HE:=hid a0;clear a0;refine⟨_,_,rfl,(fun args w=>by go_simp),fun w hw=>?_⟩;have l1:=block_lt_of_cell h1;have l2:=block_lt_of_cell h2;have c1:w.cell? ⟨b1,0,none⟩=some (.func (.func f) #[] cap):=(hw.cell l1).trans h1;have K:=hid (k w hw);have HC:Hid (∀Y,Below w.heap.size w Y→Y.cell? ⟨b2,0,none⟩=some (.int .i64 c)):=hid (fun Y b=>(b.cell (Nat.lt_of_lt_of_le l2 hw.size)).trans ((hw.cell l2).trans h2));clear k l1 l2 h1 h2 hw;rcases b with _ | _
 ·go_enter Tryz.func127,Tryz.ntmps127
  go_wp2_with fail;rw[HE.out];refine K.out.mono ?_;rintro e Y ⟨rfl,J⟩;have c2:=HC.out Y J;have B2:=hid J;clear J K HC;go_wp2_with fail;go_ret;exact⟨rfl,B2.out⟩
 ·go_enter Tryz.func127,Tryz.ntmps127
  go_wp2_with fail;rw[HE.out];refine K.out.mono ?_;rintro e Y ⟨rfl,J⟩;have B2:=hid J;clear J K HC;go_wp2_with fail;go_ret;exact⟨rfl,B2.out⟩
def NP(w:World)(r:Value)(e:Ending)(w':World):Prop:=∃v,e=.returned v∧F0 w' v r∧Below w.heap.size w w'
theorem oH(w:World)(so:Value)(b:Bool)(c:Int)(h:F0 w so (.bool b)):Calls Tryz.prog 75 #[so,.int .i64 c] w (NP w (.int .i64 (if b then 0 else c))):=by
 obtain⟨W,J⟩:∃W,Hid (W=(w.alloc (.cells #[so] 34)).alloc (.cells #[.int .i64 c] 31)):=⟨_,hid rfl⟩;have hz:(w.alloc (.cells #[so] 34)).heap.size=w.heap.size+1:=bH _;have Y:Below w.heap.size w (w.alloc (.cells #[so] 34)):=(Below.refl _ _).alloc (aY _) _;have b0:Below w.heap.size w W:=by rw[J.out];exact Y.alloc Y.size _
 have B1:bV W w.heap.size 34 #[so]:=by rw[J.out];exact(bV.new w _ _).kept ((Fr.refl [] _).alloc _) (by simp)
 have B2:bV W (w.heap.size+1) 31 #[.int .i64 c]:=by rw[J.out,←hz];exact bV.new _ _ _
 have hE:Hid (NP w (.int .i64 (if b then 0 else c)) (.returned (.func (.func 127) #[] #[.pointer (some ⟨w.heap.size,0,none⟩),.pointer (some ⟨w.heap.size+1,0,none⟩)])) W):=hid ⟨_,rfl,aFU W _ _ so b c (B1.cell 0) (B2.cell 0) (h.below b0),b0⟩;obtain⟨r,hr⟩:∃r,Hid (r=Value.int .i64 (if b then 0 else c)):=⟨_,hid rfl⟩;rw[←hr.out]at hE ⊢;clear hr;obtain⟨f,cap,rfl,_⟩:=h;clear Y b0 B1 B2 hz;go_enter Tryz.func75,Tryz.ntmps75;go_wp2_with fail;go_ret;have h:=hE.out;rw[J.out]at h;exact h
theorem aF2(w:World)(A:Option Addr)(c:Nat)(l:List ByteArray)(v:Value)(g:ByteArray→Bool)(hA:Rd w A (l.map Value.string))(hv:F1 w v l g)(hl:l.length≤maxLen) :
 Calls Tryz.prog 84 #[.slice A l.length c,v] w (fun e w'=>∃i:Int,e=.returned (.int .i64 i)∧decide (0≤i)=l.any g∧Below w.heap.size w w'):=by
 obtain⟨f,cap,rfl,a2,k⟩:=hv;have HE:=hid a2;clear a2;have K:=hid k;have HR:Hid (∀w2,Below w.heap.size w w2→Rd w2 A (l.map Value.string)):=hid (fun w2 b=>hA.below b);unfold maxLen at hl;clear k hA;obtain⟨n,hN⟩:∃n,Hid (n=l.length):=⟨_,hid rfl⟩;rw[←hN.out]at hl ⊢;go_enter Tryz.func84,Tryz.ntmps84;go_wp2_with fail;go_loopw [8] (fun i wr=>∃k:Nat,k≤n∧i=.int .i64 k∧Hid ((l.take k).any g=false)∧Hid (Below w.heap.size w wr)) (fun i _=>n-(intOf i).toNat)
 case atStart=>exact⟨0,by omega,rfl,hid (by simp),hid (Below.refl _ _)⟩
 case round=>
  obtain⟨k,hk,rfl,hG,hb⟩:=hrel
  rename World=>wr
  by_cases a3:k<n
  ·have e1:decide ((k:Int)<(n:Int))=true:=aC (by omega)
   have a0:k<l.length:=by rw[←hN.out];exact a3
   obtain⟨gg,off,rfl,a4,hc⟩:=HR.out wr hb.out (by rw[aH];omega);have c3:=hc k (by rw[aH];exact a0);rw[List.getElem_map]at c3;have KK:=hid (K.out wr hb.out l[k] (aR a0))
   have hT:Hid ((l.take (k+1)).any g=g l[k]):=hid (by
    rw[bC a0,List.any_append,hG.out]
    simp)
   have J:Hid (g l[k] = true→l.any g=true):=hid (fun h=>List.any_eq_true.2 ⟨l[k],aR a0,h⟩);clear hc a4;rcases Y:g l[k] with _ | _
   ·rw[Y]at KK hT
    clear J Y;generalize l[k] = y at *;go_wp2_with fail;rw[HE.out];refine KK.out.mono ?_;rintro e w2 ⟨rfl,b2⟩;have B2:=hid (hb.out.trans (b2.mono hb.out.size));clear b2 KK c3;go_wp2_with fail;go_roundw
    case rel=>exact⟨k+1,by omega,by go_num,hT,B2⟩
    case measure=>simp[intOf];omega
   ·rw[Y]at KK
    have a1:=hid (J.out Y);clear J Y hT;generalize l[k] = y at *;go_wp2_with fail;rw[HE.out];refine KK.out.mono ?_;rintro e w2 ⟨rfl,b2⟩;have B2:=hid (hb.out.trans (b2.mono hb.out.size));clear b2 KK c3;go_wp2_with fail;go_ret;exact⟨_,rfl,by rw[a1.out];exact aC (by omega),B2.out⟩
  ·obtain rfl:k=n:=by omega
   have e1:decide ((k:Int)<(k:Int))=false:=aB (by omega)
   have a1:Hid (l.any g=false):=hid (by
    have:=hG.out
    rwa[bE (by rw[hN.out];exact aY _)]at this)
   go_wp2_with fail;go_ret;exact⟨_,rfl,by rw[a1.out];rfl,hb.out⟩
theorem wW(w:World)(A:Option Addr)(c:Nat)(l:List ByteArray)(v:Value)(g:ByteArray→Bool)(hA:Rd w A (l.map Value.string))(hv:F1 w v l g)(hl:l.length≤maxLen) :
 Calls Tryz.prog 28 #[.slice A l.length c,v] w (dA (l.any g) w):=by
 have K:=hid (aF2 w A c l v g hA hv hl);obtain⟨f,cap,rfl,_⟩:=hv;clear hA;unfold dA;go_enter Tryz.func28,Tryz.ntmps28;go_wp2_with fail;refine K.out.mono ?_;rintro e Y ⟨i,rfl,hi,J⟩;have B2:=hid J;have hi:=hid hi;clear J K;go_wp2_with fail;go_ret;exact⟨by rw[←hi.out];rfl,B2.out⟩
theorem aFP(W:World)(b2:Nat)(so:Value)(l:List ByteArray)(g:ByteArray→Bool)(h2:W.cell? ⟨b2,0,none⟩=some so)(h:F1 W so l g):F1 W (.func (.func 134) #[] #[.pointer (some ⟨b2,0,none⟩)]) l (fun s=>!g s):=by
 obtain⟨f,cap,rfl,J,k⟩:=h;have HE:=hid J;clear J;refine⟨_,_,rfl,(fun args w=>by go_simp),fun w hw s hs=>?_⟩;have l2:=block_lt_of_cell h2;have c1:w.cell? ⟨b2,0,none⟩=some (.func (.func f) #[] cap):=(hw.cell l2).trans h2;have K:=hid (k w hw s hs);clear k l2 h2 hw hs;show Calls Tryz.prog 134 #[.string s,.pointer (some ⟨b2,0,none⟩)] w (fun e a0=>e=.returned (.bool (!g s))∧Below w.heap.size w a0);generalize g s=b at *;go_enter Tryz.func134,Tryz.ntmps134;go_wp2_with fail;rw[HE.out];refine K.out.mono ?_;rintro e w2 ⟨rfl,Y⟩;have B2:=hid Y;clear Y K;go_wp2_with fail;go_ret;exact⟨rfl,B2.out⟩
theorem aKh(l:List ByteArray)(g:ByteArray→Bool):(!l.any fun s=>!g s)=l.all g:=by
 induction l with
 | nil=>rfl
 | cons a l ih=>rw[List.any_cons,List.all_cons,←ih];cases g a <;> simp
theorem aIy(W:World)(b1 b2:Nat)(A:Option Addr)(c:Nat)(so:Value)(l:List ByteArray)(g:ByteArray→Bool)(h1:W.cell? ⟨b1,0,none⟩=some (.slice A l.length c))(h2:W.cell? ⟨b2,0,none⟩=some so)(h:F1 W so l g)(hA:Rd W A (l.map Value.string))(hl:l.length≤maxLen):F0 W (.func (.func 133) #[] #[.pointer (some ⟨b1,0,none⟩),.pointer (some ⟨b2,0,none⟩)]) (.bool (l.all g)):=by
 refine⟨_,_,rfl,(fun args w=>by go_simp),fun w Y=>?_⟩;have l1:=block_lt_of_cell h1;have c1:w.cell? ⟨b1,0,none⟩=some (.slice A l.length c):=(Y.cell l1).trans h1;have K:=hid (wW w A c l _ _ (hA.below Y) ((aFP W b2 so l g h2 h).below Y) hl);clear l1 h1 h2 Y h hA hl;unfold dA at K;rw[←aKh];generalize (l.any fun s=>!g s)=b at *;generalize l.length=n at *;go_enter Tryz.func133,Tryz.ntmps133;go_wp2_with fail;refine K.out.mono ?_;rintro e w2 ⟨rfl,J⟩;have B2:=hid J;clear J K;go_wp2_with fail;go_ret;exact⟨rfl,B2.out⟩
theorem zS(w:World)(A:Option Addr)(c:Nat)(so:Value)(l:List ByteArray)(g:ByteArray→Bool)(h:F1 w so l g)(hA:Rd w A (l.map Value.string))(hl:l.length≤maxLen):Calls Tryz.prog 80 #[.slice A l.length c,so] w (NP w (.bool (l.all g))):=by
 obtain⟨W,J⟩:∃W,Hid (W=(w.alloc (.cells #[.slice A l.length c] 22)).alloc (.cells #[so] 40)):=⟨_,hid rfl⟩;have hz:(w.alloc (.cells #[.slice A l.length c] 22)).heap.size=w.heap.size+1:=bH _;have Y:Below w.heap.size w (w.alloc (.cells #[.slice A l.length c] 22)):=(Below.refl _ _).alloc (aY _) _;have b0:Below w.heap.size w W:=by rw[J.out];exact Y.alloc Y.size _
 have B1:bV W w.heap.size 22 #[.slice A l.length c]:=by rw[J.out];exact(bV.new w _ _).kept ((Fr.refl [] _).alloc _) (by simp)
 have B2:bV W (w.heap.size+1) 40 #[so]:=by rw[J.out,←hz];exact bV.new _ _ _
 have hE:Hid (NP w (.bool (l.all g)) (.returned (.func (.func 133) #[] #[.pointer (some ⟨w.heap.size,0,none⟩),.pointer (some ⟨w.heap.size+1,0,none⟩)])) W):=hid ⟨_,rfl,aIy W _ _ A c so l g (B1.cell 0) (B2.cell 0) (h.below b0) (hA.below b0) hl,b0⟩;obtain⟨r,hr⟩:∃r,Hid (r=Value.bool (l.all g)):=⟨_,hid rfl⟩;rw[←hr.out]at hE ⊢;clear hr;obtain⟨f,cap,rfl,_⟩:=h;clear Y b0 B1 B2 hz hA hl;generalize l.length=n at *;go_enter Tryz.func80,Tryz.ntmps80;go_wp2_with fail;go_ret;have h:=hE.out;rw[J.out]at h;exact h
def fH:List Int→Int
 | []=>0
 | x :: r=>if x=0 then fH r else x
theorem aF3(w:World)(b off:Nat)(c:Nat)(vs:List Value)(es:List Int)(hn:es.length=vs.length)(hc:∀k (J:k<vs.length),w.cell? ⟨b,off+k,none⟩=some vs[k])(hv:∀k (J:k<vs.length),F0 w vs[k] (.int .i64 es[k]))(hl:vs.length≤1000) :
 Calls Tryz.prog 74 #[.slice (some ⟨b,off,none⟩) vs.length c] w (dG (fH es) w):=by
 have HC:Hid (∀k (J:k<vs.length) w2,Below w.heap.size w w2→w2.cell? ⟨b,off+k,none⟩=some vs[k]):=hid (fun k J w2 b=>(b.cell (block_lt_of_cell (hc k J))).trans (hc k J));have HV:Hid (∀k (J:k<vs.length),F0 w vs[k] (.int .i64 es[k])):=hid hv;obtain⟨n,hN⟩:∃n,Hid (n=vs.length):=⟨_,hid rfl⟩;have a2:Hid (es.length=n):=hid (by rw[hn,hN.out]);clear hc hv;rw[←hN.out]at hl ⊢;obtain⟨R,hR⟩:∃R,Hid (R=fH es):=⟨_,hid rfl⟩;rw[←hR.out];have a5:Hid (R=fH (es.drop 0)):=hid hR.out;unfold dG;go_enter Tryz.func74,Tryz.ntmps74;go_wp2_with fail;go_loopw [8] (fun i wr=>∃k:Nat,k≤n∧i=.int .i64 k∧Hid (R=fH (es.drop k))∧Hid (Below w.heap.size w wr)) (fun i _=>n-(intOf i).toNat)
 case atStart=>exact⟨0,by omega,rfl,a5,hid (Below.refl _ _)⟩
 case round=>
  obtain⟨k,J,rfl,hG,hb⟩:=hrel
  rename World=>wr
  by_cases a3:k<n
  ·have e1:decide ((k:Int)<(n:Int))=true:=aC (by omega)
   have a1:k<vs.length:=by rw[←hN.out];exact a3
   have c3:=HC.out k a1 wr hb.out;obtain⟨f,cap,hf,a0,kk⟩:=HV.out k a1;have HE:=hid a0;clear a0;rw[hf]at c3;have a4:k<es.length:=by rw[a2.out];exact a3
   have KK:=hid (kk wr hb.out)
   have Y:Hid (R=if es[k] = 0 then fH (es.drop (k+1)) else es[k]):=hid (by
    rw[hG.out,bD a4]
    rfl)
   clear kk hf hG;generalize es[k] = x at *;by_cases hx:x=0
   ·have q0:(x != 0)=false:=by simpa using hx
    rw[if_pos hx]at Y;clear hx;go_wp2_with fail;rw[HE.out];refine KK.out.mono ?_;rintro e w2 ⟨rfl,b2⟩;have B2:=hid (hb.out.trans (b2.mono hb.out.size));clear b2 KK c3;go_wp2_with fail;go_roundw
    case rel=>exact⟨k+1,by omega,by go_num,Y,B2⟩
    case measure=>simp[intOf];omega
   ·have q0:(x != 0)=true:=by simpa using hx
    rw[if_neg hx]at Y;clear hx;go_wp2_with fail;rw[HE.out];refine KK.out.mono ?_;rintro e w2 ⟨rfl,b2⟩;have B2:=hid (hb.out.trans (b2.mono hb.out.size));clear b2 KK c3;go_wp2_with fail;go_ret;exact⟨by rw[Y.out];rfl,B2.out⟩
  ·obtain rfl:k=n:=by omega
   have e1:decide ((k:Int)<(k:Int))=false:=aB (by omega)
   have Y:Hid (R=0):=hid (by
    rw[hG.out,List.drop_of_length_le (by rw[a2.out];exact aY _)]
    rfl)
   go_wp2_with fail;go_ret;exact⟨by rw[Y.out];rfl,hb.out⟩
end sf
namespace sf
open RowKit Go.Sort mem inn
def fV:List (List UInt8)→Bool
 | []=>true
 | [_]=>true
 | x :: y :: r=>decide (x<y)&&fV (y :: r)
theorem aI4:∀T:List (List UInt8),fV T=true↔T.Pairwise (fun a b=>a<b)
 | []=>by simp[fV]
 | [x]=>by simp[fV]
 | x :: y :: r=>by
  have Y:=aI4 (y :: r);unfold fV;rw[Bool.and_eq_true,bJ,Y,List.pairwise_cons (l:=y :: r)];refine⟨fun h=>⟨fun z J=>?_,h.2⟩,fun h=>⟨h.1 y (List.mem_cons_self ..),h.2⟩⟩;rcases aM.1 J with rfl | J
  ·exact h.1
  ·exact mP.tr _ _ _ h.1 ((List.pairwise_cons.1 h.2).1 z J)
theorem aAv:∀T:List (List UInt8),(∀j (h:j+1<T.length),T[j]<T[j+1])↔fV T=true
 | []=>by simp[fV]
 | [x]=>by simp[fV]
 | x :: y :: r=>by
  have Y:=aAv (y :: r);unfold fV;rw[Bool.and_eq_true,bJ,←Y];refine⟨fun h=>⟨h 0 (by simp),fun j J=>h (j+1) (by simp at J ⊢;omega)⟩,fun h j J=>?_⟩;cases j with
  | zero=>exact h.1
  | succ j=>exact h.2 j (by simp at J ⊢;omega)
theorem aKe{T:List (List UInt8)}(h:T.Pairwise (fun a b=>a<b)):jG T=T:=
 vF mP (gG mP T).1 h (fun x=>vK T x)
theorem aKF{T:List (List UInt8)}{j:Nat}(hj:j+1<T.length)(h:T[j] = T[j+1]):(jG T).length<T.length:=by
 have e1:T=T.take (j+1)++(T[j+1] :: T.drop (j+2)):=by
  conv=>lhs;rw[←List.take_append_drop (j+1) T,bD hj]
 have Y:T[j+1]∈T.take (j+1):=by
  rw[←h];exact List.mem_take_iff_getElem.2 ⟨j,by omega,rfl⟩
 have e2:jG T=jG (T.take (j+1)++T.drop (j+2)):=vF mP (gG mP T).1 (gG mP _).1 (fun x=>by
  rw[vK,vK];constructor
  ·intro J
   rw[e1]at J;rcases List.mem_append.1 J with J | J
   ·exact List.mem_append.2 (Or.inl J)
   ·rcases aM.1 J with rfl | J
    ·exact List.mem_append.2 (Or.inl Y)
    ·exact List.mem_append.2 (Or.inr J)
  ·intro J
   rw[e1];rcases List.mem_append.1 J with J | J
   ·exact List.mem_append.2 (Or.inl J)
   ·exact List.mem_append.2 (Or.inr (bG _ J)))
 rw[e2];have:=aBL (T.take (j+1)++T.drop (j+2));rw[aF,List.length_take,List.length_drop]at this;omega
def Srt(T:List (List UInt8)):Prop:=∀j (h:j+1<T.length),¬T[j+1]<T[j]
theorem aHy(T:List (List UInt8)):((jG T).length=T.length∧Srt T)↔fV T=true:=by
 constructor
 ·intro h
  rw[←aAv];intro j Y;rcases mP.tot T[j] T[j+1] with J | J | J
  ·exact J
  ·have:=aKF Y J
   omega
  ·exact absurd J (h.2 j Y)
 ·intro h
  have hp:=(aI4 T).1 h;refine⟨by rw[aKe hp],fun j Y J=>?_⟩;have h2:=(aAv T).2 h j Y;exact mP.irr _ (mP.tr _ _ _ J h2)
theorem eZ{N:Nat}{W w:World}(h:Below N W w)(J:N≤w.heap.size)(n:Nat):Below N W (w.drewN n):=h.trans (((Fr.refl [] w).drewN n).below (by simp) J)
def aEp(T:List (List UInt8))(w:World)(e:Ending)(w':World):Prop:=∃r,e=.returned (.bool r)∧(r=true↔Srt T)∧Below w.heap.size w w'
theorem aCi(w:World)(A:Option Addr)(c:Nat)(T:List (List UInt8))(h:Rd w A (T.map encStr))(hm:T.length≤maxLen) :
 Calls Tryz.prog 132 #[.slice A T.length c] w (aEp T w):=by
 have HR:Hid (∀w2,Below w.heap.size w w2→Rd w2 A (T.map encStr)):=hid (fun w2 b=>h.below b);unfold maxLen at hm;clear h;obtain⟨n,hN⟩:∃n,Hid (n=T.length):=⟨_,hid rfl⟩;rw[←hN.out]at hm ⊢;go_enter Tryz.func132,Tryz.ntmps132;have a7:wrap64 ((n:Int)-1)=(n:Int)-1:=by unfold wrap64;omega
 go_wp2_with fail;go_loopw [3] (fun i wr=>∃k:Int,i=.int .i64 k∧-1≤k∧k<n∧Hid (∀j (h:j+1<T.length),k<(j+1:Nat)→¬T[j+1]<T[j])∧Hid (Below w.heap.size w wr)) (fun i _=>(intOf i).toNat)
 case atStart=>exact⟨(n:Int)-1,by first | rfl | go_num,by omega,by omega,hid (fun j hj hk=>by have:=hN.out;omega),hid (Below.refl _ _)⟩
 case round=>
  obtain⟨k,rfl,a8,a9,hG,hb⟩:=hrel
  rename World=>wr
  by_cases a1:0<k
  ·have e1:decide (0<k)=true:=aC a1
   obtain⟨j,hj⟩:∃j:Nat,k=((j+1:Nat):Int):=⟨(k-1).toNat,by omega⟩;subst hj;have a2:j+1<T.length:=by rw[←hN.out];omega
   obtain⟨g,off,rfl,a6,hc⟩:=HR.out wr hb.out (by rw[aH];omega);have c1:=hc (j+1) (by rw[aH];exact a2);have c2:=hc j (by rw[aH];omega);rw[List.getElem_map]at c1 c2;have HL:=hid (fun w=>po.aCC T[j+1] T[j] w)
   have a0:Hid (¬T[j+1]<T[j]→∀i (hi:i+1<T.length),(j:Int)<(i+1:Nat)→¬T[i+1]<T[i]):=hid (fun hn i hi hk=>by
    by_cases e:i=j
    ·subst e;exact hn
    ·exact hG.out i hi (by omega))
   have J:Hid (T[j+1]<T[j]→¬Srt T):=hid (fun h s=>s j a2 h);clear hc a6 hG;unfold encStr at c1 c2 HL;rcases hd:decide (T[j+1]<T[j])with _ | _
   ·have a3:=hid (a0.out (of_decide_eq_false hd))
    rw[hd]at HL;clear hd a0 J;generalize (ByteArray.mk T[j+1].toArray)=y1 at *;generalize (ByteArray.mk T[j].toArray)=y2 at *;have a5:wrap64 (((j+1:Nat):Int)-1)=(j:Int):=by unfold wrap64;omega
    go_wp2_with fail;go_quiet ((go_at_call 189;exact Calls.quiet_of_same (HL.out _)));have Y:=hid (eZ hb.out hb.out.size nq);go_wp2_with fail;go_roundw
    case rel=>exact⟨(j:Int),by first | rfl | go_num,by omega,by omega,a3,Y⟩
    case measure=>first | (simp[intOf];done) | (simp[intOf];omega)
   ·have a4:=hid (J.out (of_decide_eq_true hd))
    rw[hd]at HL;clear hd a0 J;generalize (ByteArray.mk T[j+1].toArray)=y1 at *;generalize (ByteArray.mk T[j].toArray)=y2 at *;have a5:wrap64 (((j+1:Nat):Int)-1)=(j:Int):=by unfold wrap64;omega
    go_wp2_with fail;go_quiet ((go_at_call 189;exact Calls.quiet_of_same (HL.out _)));have Y:=hid (eZ hb.out hb.out.size nq);go_wp2_with fail;go_ret;exact⟨false,rfl,⟨(fun h=>by cases h),fun h=>absurd h a4.out⟩,Y.out⟩
  ·have e1:decide (0<k)=false:=aB a1
   have hS:Hid (Srt T):=hid (fun j hj=>hG.out j hj (by omega));go_wp2_with fail;go_ret;exact⟨true,rfl,⟨fun _=>hS.out,fun _=>rfl⟩,hb.out⟩
end sf
namespace sf
open RowKit Go.Sort mem sy inn
open re (tx)
theorem uU(l:List ByteArray):(l.map tx).map encStr=l.map Value.string:=by
 rw[List.map_map];rfl
theorem aKq{r V:Bool}{z n:Nat}{S:Prop}(Y:z=n)(J:(z=n∧S)↔V=true)(hr:r=true↔S):r=V:=by
 rcases r with _ | _
 ·rcases V with _ | _
  ·rfl
  ·exact absurd (hr.2 (J.2 rfl).2) (by simp)
 ·exact(J.1 ⟨Y,hr.1 rfl⟩).symm
theorem aJn{V:Bool}{z n:Nat}{S:Prop}(J:¬z=n)(Y:(z=n∧S)↔V=true):V=false:=by
 rcases V with _ | _
 ·rfl
 ·exact absurd (Y.2 rfl).1 J
theorem aCM(W:World)(b1:Nat)(A:Option Addr)(c:Nat)(l:List ByteArray)(h1:W.cell? ⟨b1,0,none⟩=some (.slice A l.length c))(hA:Rd W A (l.map Value.string))(hl:l.length≤1000000):F0 W (.func (.func 131) #[] #[.pointer (some ⟨b1,0,none⟩)]) (.bool (fV (l.map tx))):=by
 refine⟨_,_,rfl,(fun args w=>by go_simp),fun w hw=>?_⟩;have l1:=block_lt_of_cell h1;have HC:Hid (∀J,Below w.heap.size w J→J.cell? ⟨b1,0,none⟩=some (.slice A l.length c)):=hid (fun J b=>(b.cell (Nat.lt_of_lt_of_le l1 hw.size)).trans ((hw.cell l1).trans h1))
 have HK:Hid (∀J,Below w.heap.size w J→Calls Tryz.prog 63 #[.slice A l.length c] J (fun e w'=>∃B c2,e=.returned (.slice B (jG (l.map tx)).length c2)∧Below J.heap.size J w')):=hid (fun J b=>by
  have k:=inn.vX J A c (l.map tx) (by rw[uU];exact(hA.below hw).below b) (by rw[aH];exact hl);rw[aH]at k;refine k.mono ?_;rintro e w' ⟨B,c2,rfl,b1,_⟩
  exact⟨B,c2,rfl,b1⟩)
 have HI:Hid (∀J,Below w.heap.size w J→Calls Tryz.prog 132 #[.slice A l.length c] J (aEp (l.map tx) J)):=hid (fun J b=>by
  have k:=aCi J A c (l.map tx) (by rw[uU];exact(hA.below hw).below b) (by rw[aH];unfold maxLen;omega);rw[aH]at k
  exact k)
 have hB:=hid (aHy (l.map tx));have a0:Hid ((l.map tx).length=l.length):=hid (aH _);have R0:=hid (Below.refl w.heap.size w);have R1:Hid (Below w.heap.size w w.drew):=hid (Below.refl w.heap.size w).drew;unfold aEp at HI;clear h1 hA hw l1;obtain⟨V,hV⟩:∃V,Hid (V=fV (l.map tx)):=⟨_,hid rfl⟩;rw[←hV.out]at hB ⊢;rw[a0.out]at hB;generalize (jG (l.map tx)).length=z at *;generalize a2:Srt (l.map tx)=Sr at *;clear a2 hV a0;generalize l.length=n at *;have c0:=HC.out _ R0.out;have c1:=HC.out _ R1.out;by_cases hz:z=n
 ·have e1:((z:Int)==(n:Int))=true:=by rw[hz];simp
  have Hz:=hid hz;clear hz;go_enter Tryz.func131,Tryz.ntmps131;go_wp2_with fail
  go_region_with (first
   | (go_at_call 63;refine(HK.out _ R1.out).mono ?_;rintro e J ⟨B,c2,rfl,b2⟩;have Y:=hid (R1.out.trans (b2.mono R1.out.size));clear b2;have y2:=HC.out _ Y.out)
   | (go_at_call 132;refine(HI.out _ Y.out).mono ?_;rintro e w3 ⟨r,rfl,hr,b3⟩;have R3:=hid (Y.out.trans (b3.mono Y.out.size));have hr:=hid hr;clear b3))
  all_goals (go_wp2_with fail;go_ret;exact⟨by rw[aKq Hz.out hB.out hr.out];rfl,R3.out⟩)
 ·have a1:¬(z:Int)=(n:Int):=by omega
  have e1:((z:Int)==(n:Int))=false:=by simpa using a1
  clear a1;have Hz:=hid (aJn hz hB.out);clear hz;go_enter Tryz.func131,Tryz.ntmps131;go_wp2_with fail
  go_region_with (go_at_call 63;refine(HK.out _ R1.out).mono ?_;rintro e J ⟨B,c2,rfl,b2⟩;have Y:=hid (R1.out.trans (b2.mono R1.out.size));clear b2;have y2:=HC.out _ Y.out)
  all_goals (go_wp2_with fail;go_ret;exact⟨by rw[Hz.out];rfl,Y.out⟩)
theorem wJ(w:World)(A:Option Addr)(c:Nat)(l:List ByteArray)(hA:Rd w A (l.map Value.string))(hl:l.length≤1000000):Calls Tryz.prog 79 #[.slice A l.length c] w (NP w (.int .i64 (if fV (l.map tx) then 0 else 13))):=by
 obtain⟨W,J⟩:∃W,Hid (W=w.alloc (.cells #[.slice A l.length c] 22)):=⟨_,hid rfl⟩;have b0:Below w.heap.size w W:=by rw[J.out];exact(Below.refl _ _).alloc (aY _) _
 have B1:bV W w.heap.size 22 #[.slice A l.length c]:=by rw[J.out];exact bV.new w _ _
 have K:=hid (oH W _ _ 13 (aCM W w.heap.size A c l (B1.cell 0) (hA.below b0) hl));have Y:=hid b0;obtain⟨r,hr⟩:∃r,Hid (r=Value.int .i64 (if fV (l.map tx) then 0 else 13)):=⟨_,hid rfl⟩;rw[←hr.out]at K ⊢;clear hr B1 b0 hA hl;generalize l.length=n at *;rw[J.out]at K Y;clear J;go_enter Tryz.func79,Tryz.ntmps79;go_wp2_with fail;refine K.out.mono ?_;rintro e w2 ⟨v,rfl,hv,b2⟩;have hE:Hid (NP w r (.returned v) w2):=hid ⟨v,rfl,hv,Y.out.trans (b2.mono Y.out.size)⟩;clear b2 hv K Y;go_wp2_with fail;go_ret;exact hE.out
end sf
namespace sf
open RowKit Go.Sort mem inn ins
def qM(d:List (List UInt8))(x:List UInt8):List (List UInt8):=if x∈d then d else d++[x]
theorem aHx(d:List (List UInt8))(x y:List UInt8):y∈qM d x↔y∈d∨y=x:=by
 unfold qM;split
 ·rename_i h
  exact⟨Or.inl,fun J=>by rcases J with J | rfl;exact J;exact h⟩
 ·simp
theorem aAm(y:List UInt8):∀(l:List (List UInt8)) (d:List (List UInt8)),y∈l.foldl qM d↔y∈d∨y∈l
 | [],d=>by simp
 | x :: l,d=>by
  rw[List.foldl_cons,aAm y l,aHx,aM,or_assoc]
theorem aFT{w:World}{m:Option Nat}{N:Nat}{xs:List (List UInt8)}(h:gK w m N xs):gK w m (N+1) xs:=by
 rcases h with h | ⟨b,D,e,J,h⟩
 ·exact Or.inl h
 ·exact Or.inr ⟨b,D,e,J.mono (Nat.le_succ _),h⟩
def T2(W:World)(b1 J n1 n2:Nat)(d e:List (List UInt8))(w:World):Prop:=∃A1 c1 m1 A2 c2 Y,Tb w b1 A1 c1 m1 n1 d∧Tb w J A2 c2 Y n2 e∧(∀g∈ins.kV b1 A1 m1,W.heap.size≤g∧g<w.heap.size∧g∉ins.kV J A2 Y)∧(∀g∈ins.kV J A2 Y,W.heap.size≤g∧g<w.heap.size)∧Below W.heap.size W w
theorem T2.swap{W w:World}{b1 Y n1 n2:Nat}{d e:List (List UInt8)}(h:T2 W b1 Y n1 n2 d e w):T2 W Y b1 n2 n1 e d w:=by
 obtain⟨A1,c1,m1,A2,c2,m2,t1,t2,f1,f2,b⟩:=h;exact⟨A2,c2,m2,A1,c1,m1,t2,t1,fun g J=>⟨(f2 g J).1,(f2 g J).2,fun h1=>(f1 g h1).2.2 J⟩,fun g J=>⟨(f1 g J).1,(f1 g J).2.1⟩,b⟩
theorem T2.below{W w w':World}{b1 Y n1 n2:Nat}{d e:List (List UInt8)}(h:T2 W b1 Y n1 n2 d e w)(hb:Below w.heap.size w w'):T2 W b1 Y n1 n2 d e w':=by
 obtain⟨A1,c1,m1,A2,c2,m2,t1,t2,f1,f2,b⟩:=h;exact⟨A1,c1,m1,A2,c2,m2,t1.kept (Fr.of_below hb []) (by simp),t2.kept (Fr.of_below hb []) (by simp),fun g J=>⟨(f1 g J).1,Nat.lt_of_lt_of_le (f1 g J).2.1 hb.size,(f1 g J).2.2⟩,fun g J=>⟨(f2 g J).1,Nat.lt_of_lt_of_le (f2 g J).2 hb.size⟩,b.trans (hb.mono b.size)⟩
theorem aD3{W w:World}{b1 b2 n1 n2:Nat}{d e:List (List UInt8)}(h:T2 W b1 b2 n1 n2 d e w)(x:List UInt8)(hx:WF x)(hn:n1<1000000) :
 Calls Tryz.prog 70 #[.pointer (some ⟨b1,0,none⟩),encStr x] w (fun r w'=>(∃v,r=.returned v)∧T2 W b1 b2 (n1+1) n2 (qM d x) e w'):=by
 obtain⟨A1,c1,m1,A2,c2,m2,t1,t2,f1,f2,b⟩:=h;unfold qM;by_cases Y:x∈d
 ·rw[if_pos Y]
  refine(aJl w b1 A1 c1 m1 n1 d x t1 hx Y).mono ?_;rintro r w' ⟨rfl,hb⟩;have a3:Tb w b1 A1 c1 m1 (n1+1) d:=⟨t1.box,t1.seg,aFT t1.set,t1.nod,t1.wf,Nat.le_succ_of_le t1.len⟩;exact⟨⟨_,rfl⟩,T2.below ⟨A1,c1,m1,A2,c2,m2,a3,t2,f1,f2,b⟩ hb⟩
 ·rw[if_neg Y]
  refine(zY w b1 A1 c1 m1 n1 d x t1 hx Y hn).mono ?_;rintro r w' ⟨rfl,f,A',a1,m',t',a0⟩;have k2:Tb w' b2 A2 c2 m2 n2 e:=t2.kept f (fun g J h1=>(f1 g h1).2.2 J);have a2:∀g∈ins.kV b1 A' m',g<w'.heap.size:=t'.lt;refine⟨⟨_,rfl⟩,A',a1,m',A2,c2,m2,t',k2,fun g J=>⟨?_,a2 g J,fun h2=>?_⟩,fun g J=>⟨(f2 g J).1,Nat.lt_of_lt_of_le (f2 g J).2 f.size⟩,b.trans (f.below (fun g J=>(f1 g J).1) b.size)⟩
  ·rcases a0 g J with h3 | h3
   ·exact(f1 g h3).1
   ·exact aZ b.size h3
  ·rcases a0 g J with h3 | h3
   ·exact(f1 g h3).2.2 h2
   ·have:=(f2 g h2).2
    omega
theorem aFi{W w:World}{J b2 Y n2:Nat}{d e:List (List UInt8)}(h:T2 W J b2 Y n2 d e w)(x:List UInt8)(hx:WF x) :
 Calls Tryz.prog 72 #[.pointer (some ⟨J,0,none⟩),encStr x] w (fun r w'=>∃i:Int,r=.returned (.tuple #[.int .i64 i,.bool (decide (x∈d))])∧w=w'):=by
 obtain⟨A1,c1,m1,A2,c2,m2,t1,t2,f1,f2,b⟩:=h;refine(aIx w J m1 Y d x _ t1.box t1.set hx).mono ?_;rintro r w' ⟨rfl,rfl⟩;exact⟨_,rfl,rfl⟩
end sf
namespace sf
open RowKit Go.Sort mem sy inn ins dg
open re (tx gH MU)
open nm (jI bR)
theorem aAk(s:ByteArray):encStr (tx s)=.string s:=rfl
theorem aAA(W0 W:World)(Y b2 n1 n2:Nat)(d e:List (List UInt8))(hT:T2 W0 Y b2 n1 n2 d e W)(l:List ByteArray)(hl:∀s∈l,WF (tx s)):F1 W (.func (.func 71) #[] #[.pointer (some ⟨Y,0,none⟩)]) l (fun s=>decide (tx s∈d)):=by
 refine⟨_,_,rfl,(fun args w=>by go_simp),fun w hw s hs=>?_⟩;have K:=hid (fun w2 (b:Below w.heap.size w w2)=>aFi ((hT.below hw).below b) (tx s) (hl s hs));have hB:=hid (Below.refl w.heap.size w);rw[aAk]at K;show Calls Tryz.prog 71 #[.string s,.pointer (some ⟨Y,0,none⟩)] w (fun e J=>e=.returned (.bool (decide (tx s∈d)))∧Below w.heap.size w J);generalize decide (tx s∈d)=q at *;clear hT hl hw hs;go_enter Tryz.func71,Tryz.ntmps71;go_wp2_with fail;refine(K.out _ hB.out).mono ?_;rintro r w' ⟨i,rfl,rfl⟩;clear K;go_wp2_with fail;go_ret;exact⟨rfl,hB.out⟩
theorem aEh(W0 W:World)(Y b2 n1 n2:Nat)(d e:List (List UInt8))(hT:T2 W0 Y b2 n1 n2 d e W)(l:List ByteArray)(hl:∀s∈l,WF (tx s)):F1 W (.func (.func 73) #[] #[.pointer (some ⟨Y,0,none⟩)]) l (fun s=>!decide (tx s∈d)):=by
 refine⟨_,_,rfl,(fun args w=>by go_simp),fun w hw s hs=>?_⟩;have K:=hid (fun w2 (b:Below w.heap.size w w2)=>aFi ((hT.below hw).below b) (tx s) (hl s hs));have hB:=hid (Below.refl w.heap.size w);rw[aAk]at K;show Calls Tryz.prog 73 #[.string s,.pointer (some ⟨Y,0,none⟩)] w (fun e J=>e=.returned (.bool (!decide (tx s∈d)))∧Below w.heap.size w J);generalize decide (tx s∈d)=q at *;clear hT hl hw hs;go_enter Tryz.func73,Tryz.ntmps73;go_wp2_with fail;refine(K.out _ hB.out).mono ?_;rintro r w' ⟨i,rfl,rfl⟩;clear K;go_wp2_with fail;go_ret;exact⟨rfl,hB.out⟩
theorem aEy(W:World)(b:Nat)(u:MU)(hb:bV W b 29 u.row)(hn:u.name.size≤maxLen):F0 W (.func (.func 76) #[] #[.pointer (some ⟨b,0,none⟩)]) (.bool (bZ u.name)):=by
 refine⟨_,_,rfl,(fun args w=>by go_simp),fun w J=>?_⟩;have Y:=hb.kept (Fr.of_below J []) (by simp);have y0:w.cell? ⟨b,0,none⟩=some (.string u.name):=Y.cell 0;have K:=hid (fun w2=>dg.kQ u.name w2 hn);have hR:=hid (Below.refl w.heap.size w);clear J hb Y hn;generalize bZ u.name=q at *;generalize u.name=nm at *;go_enter Tryz.func76,Tryz.ntmps76;go_wp2_with fail;refine(K.out _).mono ?_;rintro r w' ⟨rfl,rfl⟩;clear K;go_wp2_with fail;go_ret;exact⟨rfl,hR.out⟩
theorem aDQ(W:World)(b:Nat)(u:MU)(hb:bV W b 29 u.row)(hs:zD W u.s)(J:jI W):F0 W (.func (.func 78) #[] #[.pointer (some ⟨b,0,none⟩)]) (.int .i64 (iJ u.s.sys)):=by
 refine⟨_,_,rfl,(fun args w=>by go_simp),fun w Y=>?_⟩;have hB:=hb.kept (Fr.of_below Y []) (by simp);have y4:w.cell? ⟨b,4,none⟩=some (.slice u.s.oA u.s.os.length u.s.oc):=hB.cell 4;have y5:w.cell? ⟨b,5,none⟩=some (.slice u.s.fA u.s.fs.length u.s.fc):=hB.cell 5;have y6:w.cell? ⟨b,6,none⟩=some (.slice u.s.cA u.s.cs.length u.s.cc):=hB.cell 6;have K:=hid (sy.aGp u.s w (hs.below Y) (bR J Y));clear Y hb hB hs J;generalize iJ u.s.sys=q at *;unfold MS.val sy.dG at K;generalize u.s.os.length=no at *;generalize u.s.fs.length=nf at *;generalize u.s.cs.length=nc at *;go_enter Tryz.func78,Tryz.ntmps78;go_wp2_with fail;refine K.out.mono ?_;rintro r w' ⟨rfl,b'⟩;have hR:=hid b';clear K b';go_wp2_with fail;go_ret;exact⟨rfl,hR.out⟩
theorem aD1(W:World)(b:Nat)(u:MU)(hb:bV W b 29 u.row):F0 W (.func (.func 81) #[] #[.pointer (some ⟨b,0,none⟩)]) (.bool (decide (u.keeps.length≤6000))):=by
 refine⟨_,_,rfl,(fun args w=>by go_simp),fun w Y=>?_⟩;have hB:=hb.kept (Fr.of_below Y []) (by simp);have y3:w.cell? ⟨b,3,none⟩=some (.slice u.kA u.keeps.length u.kc):=hB.cell 3;have hR:=hid (Below.refl w.heap.size w);have J:decide ((u.keeps.length:Int)≤6000)=decide (u.keeps.length≤6000):=by
  by_cases h:u.keeps.length≤6000
  ·rw[aC h,aC (by omega)]
  ·rw[aB h,aB (by omega)]
 rw[←J];clear Y hb hB J;generalize u.keeps.length=n at *;go_enter Tryz.func81,Tryz.ntmps81;go_wp2_with fail;go_ret;exact⟨rfl,hR.out⟩
theorem aJ0(W:World)(J:jI W)(l:List ByteArray)(hl:∀s∈l,s.size≤maxLen):F1 W (.func (.func 82) #[] #[]) l dO:=
 ⟨_,_,rfl,(fun args w=>by go_simp),fun w Y s hs=>(mI s w (hl s hs) (bR J Y)).mono (fun _ _ h=>h)⟩
end sf
namespace sf
open RowKit
def zF(l:Array Bool):Nat→Nat
 | 0=>0
 | n+1=>zF l n+(if l.getD n true then 0 else 1)
theorem aC7(l:Array Bool)(i j:Nat)(b:Bool)(h:i<l.size):(l.setIfInBounds i true).getD j b=if j=i then true else l.getD j b:=by
 simp only[Array.getD_eq_getD_getElem?,Array.getElem?_setIfInBounds];by_cases e:j=i
 ·subst e
  simp[h]
 ·have J:¬i=j:=fun x=>e x.symm
  rw[if_neg J,if_neg e]
theorem aFr(l:Array Bool)(i:Nat)(h:i<l.size):∀n,zF (l.setIfInBounds i true) n+(if i<n∧l.getD i true=false then 1 else 0)≤zF l n
 | 0=>by simp[zF]
 | n+1=>by
  have ih:=aFr l i h n;unfold zF;rw[aC7 l i n true h];by_cases e:n=i
  ·subst e
   have h0:zF (l.setIfInBounds n true) n≤zF l n:=by omega
   rcases hb:l.getD n true with _ | _
   ·simp
    omega
   ·simp
    omega
  ·rw[if_neg e]
   have e':(if i<n+1∧l.getD i true=false then 1 else 0)=(if i<n∧l.getD i true=false then 1 else 0):=by
    by_cases J:i<n
    ·have Y:i<n+1:=by omega
     simp only[J,Y]
    ·have Y:¬i<n+1:=by omega
     simp only[J,Y]
   rw[e'];omega
theorem gN(l:Array Bool):∀n,zF l n=0→∀j,j<n→l.getD j true=true
 | 0,_,j,hj=>by omega
 | n+1,h,j,hj=>by
  unfold zF at h;by_cases e:j=n
  ·subst e
   by_cases hb:l.getD j true=true
   ·exact hb
   ·rw[if_neg hb]at h;omega
  ·exact gN l n (by omega) j (by omega)
theorem aHK(l:Array Bool):∀n,zF l n≤n
 | 0=>aY _
 | n+1=>by
  have:=aHK l n;unfold zF;split <;> omega
theorem wD{Y:Region.Mode}{ops:Array Oper}{l:Array Bool}{i:Nat}(h:i∈Region.ready Y ops l):i<ops.size∧l.getD i true=false∧∀o,ops[i]? = some o→(o.after.all fun e=>!Region.binds Y e||l.getD e.on false)=true:=by
 unfold Region.ready at h;rw[List.mem_filter,List.mem_range]at h;obtain⟨h1,J⟩:=h;rw[Bool.and_eq_true]at J;refine⟨h1,by simpa using J.1,fun o ho=>?_⟩;have h3:=J.2;rw[ho]at h3
 simpa using h3
theorem aBl{P:Program}{md:Region.Mode}{ops:Array Oper}{Q:Exit→Act→World→Prop}(Inv:Array Bool→Act→World→Prop)
 (Y:∀(l:Array Bool) (a:Act) (w:World) (i:Nat),Inv l a w→l.size=ops.size→i∈Region.ready md ops l→wpOp P ops Q i (fun a' w'=>Inv (l.setIfInBounds i true) a' w') a w)
 (J:∀(l:Array Bool) (a:Act) (w:World),Inv l a w→l.size=ops.size→Region.ready md ops l=[]→Q .normal a w) :
 ∀(fuel:Nat) (l:Array Bool) (a:Act) (w:World),l.size=ops.size→zF l ops.size≤fuel→Inv l a w→wpAny P md ops Q fuel l a w
 | 0,l,a,w,hs,hc,hI=>by
  have hz:=gN l ops.size (by omega);have hr:Region.ready md ops l=[]:=by
   rw[List.eq_nil_iff_forall_not_mem];intro i hi;obtain⟨h1,h2,_⟩:=wD hi;rw[hz i h1]at h2;cases h2
  exact⟨hr,J l a w hI hs hr⟩
 | fuel+1,l,a,w,hs,hc,hI=>by
  refine⟨fun hr=>J l a w hI hs hr,fun i hi=>wpOp_mono (fun a' w' h=>?_) (Y l a w i hI hs hi)⟩;obtain⟨h1,h2,_⟩:=wD hi;have hcs:=aFr l i (by omega) ops.size;rw[if_pos ⟨h1,h2⟩]at hcs;exact aBl Inv Y J fuel _ a' w' (by rw[Array.size_setIfInBounds];exact hs) (by omega) h
theorem aAT{P:Program}{ops:Array Oper}{Q:Exit→Act→World→Prop}{id:Nat}{a:Act}{w:World}(Inv:Array Bool→Act→World→Prop)(hm:P.follows .mixedOrders=true)
 (h0:Inv (Array.replicate ops.size false) a w.drew)
 (J:∀(l:Array Bool) (a:Act) (w:World) (i:Nat),Inv l a w→l.size=ops.size→i∈Region.ready .any ops l→wpOp P ops Q i (fun a' w'=>Inv (l.setIfInBounds i true) a' w') a w)
 (Y:∀(l:Array Bool) (a:Act) (w:World),Inv l a w→l.size=ops.size→Region.ready .any ops l=[]→Q .normal a w):(Code.region id ops true).wp P Q a w:=
 wp_region_any hm (aBl Inv J Y ops.size _ a _ (by simp) (aHK _ _) h0)
def waits(ops:Array Oper)(i k:Nat):Bool:=((ops[i]?).map fun o=>o.after.any fun e=>Region.binds .any e&&(e.on==k)).getD false
def down(ops:Array Oper):Bool:=(List.range ops.size).all fun i=>((ops[i]?).map fun o=>o.after.all fun e=>!Region.binds .any e||decide (e.on<i)).getD false
theorem aDC{ops:Array Oper}(hd:down ops=true){l:Array Bool}(hs:l.size=ops.size)(hr:Region.ready .any ops l=[]):∀n i,i<n→i<ops.size→l.getD i false=true:=by
 intro n
 induction n with
 | zero=>intro i h;omega
 | succ n ih=>
  intro i hi J;by_cases h:l.getD i false=true
  ·exact h
  exfalso
  have hf:l.getD i true=false:=by
   rw[Array.getD_eq_getD_getElem?,Array.getElem?_eq_getElem (by omega)]at h ⊢
   simpa using h
  have:i∈Region.ready .any ops l:=by
   unfold Region.ready;rw[List.mem_filter,List.mem_range];refine⟨J,?_⟩;rw[hf,Array.getElem?_eq_getElem J];simp only[Bool.not_false,Option.map_some,Option.getD_some,Bool.true_and];have h1:=List.all_eq_true.1 hd i (List.mem_range.2 J);rw[Array.getElem?_eq_getElem J]at h1;simp only[Option.map_some,Option.getD_some]at h1;rw[Array.all_eq_true]at h1 ⊢;intro k hk;have Y:=h1 k hk;rw[Bool.or_eq_true]at Y ⊢;rcases Y with Y | Y
   ·exact Or.inl Y
   ·have h3:=of_decide_eq_true Y
    exact Or.inr (ih _ (by omega) (by omega))
  rw[hr]at this;cases this
def iC(ops:Array Oper)(i:Nat):Nat:=((ops[i]?).bind (·.dst)).getD 0
def own(ops:Array Oper)(n:Nat):Bool:=(List.range ops.size).all fun i=>((ops[i]?).map fun o=>(o.dst==some (iC ops i))&&decide (iC ops i<n)&&o.guard.isNone).getD false&&(List.range i).all fun j=>iC ops j != iC ops i
def aBN(ops:Array Oper)(s:Nat):Bool:=(List.range ops.size).any fun i=>iC ops i==s
def aDO(ops:Array Oper)(i s:Nat):Bool:=(List.range ops.size).any fun k=>waits ops i k&&(iC ops k==s)
structure aHP(ops:Array Oper)(a0 a:Act):Prop where
 d:a.defers=a0.defers
 n:a.tmps.size=a0.tmps.size
 e:∀s,aBN ops s=false→a.eval (.tmp s)=a0.eval (.tmp s)
theorem aAB{ops:Array Oper}{n:Nat}(h:own ops n=true){i:Nat}(hi:i<ops.size):(∀o,ops[i]? = some o→o.dst=some (iC ops i)∧o.guard=none)∧iC ops i<n∧∀j,j<i→iC ops j≠iC ops i:=by
 have J:=List.all_eq_true.1 h i (List.mem_range.2 hi);rw[Bool.and_eq_true]at J;rw[Array.getElem?_eq_getElem hi]at J;simp only[Option.map_some,Option.getD_some,Bool.and_eq_true]at J;obtain⟨⟨⟨h2,h3⟩,h4⟩,h5⟩:=J;refine⟨fun o Y=>?_,of_decide_eq_true h3,fun j hj=>?_⟩
 ·rw[Array.getElem?_eq_getElem hi]at Y
  cases Y;exact⟨by simpa using h2,by simpa using h4⟩
 ·have:=List.all_eq_true.1 h5 j (List.mem_range.2 hj)
  simpa using this
theorem aLe{ops:Array Oper}{n:Nat}(h:own ops n=true){i j:Nat}(hi:i<ops.size)(hj:j<ops.size)(J:j≠i):iC ops j≠iC ops i:=by
 rcases Nat.lt_or_gt_of_ne J with Y | Y
 ·exact(aAB h hi).2.2 j Y
 ·exact fun e=>(aAB h hj).2.2 i Y e.symm
theorem eval_put(a:Act)(d s:Nat)(v:Value)(hd:d<a.tmps.size):(a.put (some d) v).eval (.tmp s)=if s=d then v else a.eval (.tmp s):=by
 show(a.tmps.setIfInBounds d v).getD s undef=if s=d then v else a.tmps.getD s undef
 simp only[Array.getD_eq_getD_getElem?,Array.getElem?_setIfInBounds];by_cases e:s=d
 ·subst e
  simp[hd]
 ·rw[if_neg e,if_neg (fun x=>e x.symm)]
theorem aGR{P:Program}{ops:Array Oper}{Q:Exit→Act→World→Prop}{id:Nat}{a0:Act}{W:World}(R:Nat→Value→World→Prop)(hm:P.follows .mixedOrders=true)(hd:down ops=true)(ho:own ops a0.tmps.size=true)
 (hR:∀s v w w',R s v w→Below w.heap.size w w'→R s v w')
 (a3:∀i,i<ops.size→∀a w,aHP ops a0 a→Below W.heap.size W w→(∀s,aDO ops i s=true→R s (a.eval (.tmp s)) w)→wpOp P ops Q i (fun a' w'=>∃v,a'=a.put (some (iC ops i)) v∧R (iC ops i) v w'∧Below w.heap.size w w') a w)
 (a2:∀a w,aHP ops a0 a→Below W.heap.size W w→(∀s,aBN ops s=true→R s (a.eval (.tmp s)) w)→Q .normal a w):(Code.region id ops true).wp P Q a0 W:=by
 refine aAT (fun l a w=>aHP ops a0 a∧Below W.heap.size W w∧∀j,j<ops.size→l.getD j false=true→R (iC ops j) (a.eval (.tmp (iC ops j))) w) hm ⟨⟨rfl,rfl,fun _ _=>rfl⟩,(Below.refl _ _).drew,fun j _ h=>?_⟩ ?_ ?_
 ·rw[Array.getD_eq_getD_getElem?,Array.getElem?_replicate]at h
  split at h <;> simp at h
 ·rintro l a w i ⟨Y,b,hI⟩ hs hi
  obtain⟨h1,h2,h3⟩:=wD hi;have a4:=aAB ho h1;refine wpOp_mono ?_ (a3 i h1 a w Y b ?_)
  ·rintro a' w' ⟨v,rfl,hv,b'⟩
   have a1:iC ops i<a.tmps.size:=by rw[Y.n];exact a4.2.1
   refine⟨⟨Y.d,?_,fun s h=>?_⟩,b.trans (b'.mono b.size),fun j hj hl=>?_⟩
   ·rw[←Y.n]
    exact Array.size_setIfInBounds ..
   ·rw[eval_put _ _ _ _ a1,if_neg,Y.e s h]
    rintro rfl;have:aBN ops (iC ops i)=true:=List.any_eq_true.2 ⟨i,List.mem_range.2 h1,by simp⟩;rw[h]at this;cases this
   ·rw[eval_put _ _ _ _ a1]
    by_cases e:j=i
    ·subst e
     rw[if_pos rfl];exact hv
    ·rw[if_neg (aLe ho h1 hj e)]
     rw[aC7 l i j false (by omega),if_neg e]at hl;exact hR _ _ _ _ (hI j hj hl) b'
  ·intro s hk
   unfold aDO at hk;rw[List.any_eq_true]at hk;obtain⟨k,a5,J⟩:=hk;rw[Bool.and_eq_true,beq_iff_eq]at J;obtain⟨J,rfl⟩:=J;unfold waits at J;rw[Array.getElem?_eq_getElem h1]at J;simp only[Option.map_some,Option.getD_some]at J;rw[Array.any_eq_true]at J;obtain⟨n,hn,J⟩:=J;rw[Bool.and_eq_true,beq_iff_eq]at J;have h4:=h3 _ (Array.getElem?_eq_getElem h1);rw[Array.all_eq_true]at h4;have h5:=h4 n hn;rw[J.1,J.2]at h5;exact hI k (List.mem_range.1 a5) (by simpa using h5)
 ·rintro l a w ⟨Y,b,hI⟩ hs hr
  refine a2 a w Y b (fun s h=>?_);obtain⟨j,hj,h⟩:=List.any_eq_true.1 h;obtain rfl:=beq_iff_eq.1 h;exact hI j (List.mem_range.1 hj) (aDC hd hs hr _ j (Nat.lt_succ_self _) (List.mem_range.1 hj))
theorem aAs{P:Program}{ops:Array Oper}{Q:Exit→Act→World→Prop}{i:Nat}{K:Act→World→Prop}{a:Act}{w w':World}{o:Oper}{d:Nat}(v:Value)(J:ops[i]? = some o)(hg:o.guard=none)(hd:o.dst=some d)(Y:(execOp a.eval o).run P w=.ok (.value v) w')(hK:K (a.put (some d) v) w'):wpOp P ops Q i K a w:=by
 unfold wpOp;rw[J];have hw:Region.wanted o (yielded ops a.tmps)=true:=by simp[Region.wanted,hg]
 simp only[hw,if_true];refine Or.inl ?_;unfold Oper.wp;rw[Y,Oper.upon_value,hd];exact hK
theorem aA7{P:Program}{ops:Array Oper}{Q:Exit→Act→World→Prop}{i:Nat}{K:Act→World→Prop}{a:Act}{w:World}{o:Oper}{d:Nat}{x:Operand}{xs:Array Operand}{ts:Array TypeId}{f:FuncId}{cap vs:Array Value}(Y:ops[i]? = some o)(hg:o.guard=none)(hd:o.dst=some d)(hc:o.op=.call { callee:=.value x,args:=xs,argTypes:=ts })(hx:a.eval x=.func (.func f) #[] cap)(J:∀args w,(callFunc f args).run P w=.ok (.enter f args) w)(hv:xs.map a.eval=vs)
 (h:Calls P f (vs++cap) w (fun e w'=>∃v,e=.returned v∧K (a.put (some d) v) w')):wpOp P ops Q i K a w:=by
 unfold wpOp;rw[Y];have hw:Region.wanted o (yielded ops a.tmps)=true:=by simp[Region.wanted,hg]
 simp only[hw,if_true];refine Or.inl ?_;subst hv;unfold Oper.wp execOp;simp only[hc,resolve,hx,Deferred.ofValue,Sem.run_bind,Sem.run_pure,Result.andThen_ok,invoke,J,Array.empty_append];refine Calls.mono h ?_;rintro e w' ⟨v,rfl,hk⟩;rw[hd];exact hk
end sf
namespace sf
open RowKit mem sy
def aIo(p:Value→World→Prop):Prop:=∀v w w',p v w→Below w.heap.size w w'→p v w'
def sEq(x:Value):Value→World→Prop:=fun v _=>v=x
def sF(r:Value):Value→World→Prop:=fun v w=>F0 w v r
def sL(es:List Int):Value→World→Prop:=fun v w=>∃B c,∃vs:List Value,v=.slice (some ⟨B,0,none⟩) vs.length c∧es.length=vs.length∧vs.length≤1000∧(∀k (J:k<vs.length),w.cell? ⟨B,0+k,none⟩=some vs[k])∧∀k (J:k<vs.length) (Y:k<es.length),F0 w vs[k] (.int .i64 es[k])
theorem aIn(x:Value):aIo (sEq x):=fun v w w' h _=>h
theorem aJQ(r:Value):aIo (sF r):=fun v w w' h b=>F0.below h b
theorem aJr(es:List Int):aIo (sL es):=by
 rintro v w w' ⟨B,c,vs,e,hn,hl,hc,hf⟩ b;exact⟨B,c,vs,e,hn,hl,fun k J=>(b.cell (block_lt_of_cell (hc k J))).trans (hc k J),fun k J Y=>(hf k J Y).below b⟩
def RC(J:List (Nat×(Value→World→Prop)))(s:Nat)(v:Value)(w:World):Prop:=((J.lookup s).getD (fun _ _=>True)) v w
theorem aEK{J:List (Nat×(Value→World→Prop))}{s:Nat}{p:Value→World→Prop}(h:J.lookup s=some p)(v:Value)(w:World):RC J s v w=p v w:=by
 unfold RC;rw[h];rfl
theorem aKg{J:List (Nat×(Value→World→Prop))}(h:∀x∈J,aIo x.2)(s:Nat)(v:Value)(w w':World)(hr:RC J s v w)(b:Below w.heap.size w w'):RC J s v w':=by
 induction J with
 | nil=>trivial
 | cons x J ih=>
  obtain⟨k,p⟩:=x;unfold RC at hr ⊢;rw[List.lookup_cons]at hr ⊢;cases Y:(s==k)with
  | true=>
   rw[Y]at hr;exact h _ (List.mem_cons_self ..) v w w' hr b
  | false=>
   rw[Y]at hr;exact ih (fun x hx=>h x (bG _ hx)) hr
def aHf(Y:List (Nat×(Value→World→Prop)))(s:Nat)(a:Act)(w:World)(J:Act)(w':World):Prop:=∃v,J=a.put (some s) v∧RC Y s v w'∧Below w.heap.size w w'
section
variable {ops:Array Oper} {Q:Exit→Act→World→Prop} {i:Nat} {a:Act} {w:World} {o:Oper} {s:Nat} {tb:List (Nat×(Value→World→Prop))}
theorem lG(v:Value)(J:ops[i]? = some o)(hg:o.guard=none)(hd:o.dst=some s)(ht:tb.lookup s=some (sEq v))(Y:(execOp a.eval o).run Tryz.prog w=.ok (.value v) w):wpOp Tryz.prog ops Q i (aHf tb s a w) a w:=
 aAs v J hg hd Y ⟨v,rfl,by rw[aEK ht];exact rfl,Below.refl _ _⟩
theorem aHY(v r:Value)(J:ops[i]? = some o)(hg:o.guard=none)(hd:o.dst=some s)(ht:tb.lookup s=some (sF r))(Y:(execOp a.eval o).run Tryz.prog w=.ok (.value v) w)(hF:F0 w v r):wpOp Tryz.prog ops Q i (aHf tb s a w) a w:=
 aAs v J hg hd Y ⟨v,rfl,by rw[aEK ht];exact hF,Below.refl _ _⟩
theorem qN{x:Operand}{xs:Array Operand}{ts:Array TypeId}{f:FuncId}{vs:Array Value}{r:Value}(Y:ops[i]? = some o)(hg:o.guard=none)(hd:o.dst=some s)(hc:o.op=.call { callee:=.value x,args:=xs,argTypes:=ts })(hx:a.eval x=.func (.func f) #[] #[])(J:En f)(hv:xs.map a.eval=vs)(ht:tb.lookup s=some (sF r))(h:Calls Tryz.prog f vs w (NP w r)):wpOp Tryz.prog ops Q i (aHf tb s a w) a w:=
 aA7 Y hg hd hc hx J hv (by
  rw[Array.append_empty];refine h.mono ?_;rintro e w' ⟨v,rfl,hv,b⟩
  exact⟨v,rfl,v,rfl,by rw[aEK ht];exact hv,b⟩)
theorem aMA{x:Operand}{xs:Array Operand}{ts:Array TypeId}{f:FuncId}{vs:Array Value}{n:Int}(Y:ops[i]? = some o)(hg:o.guard=none)(hd:o.dst=some s)(hc:o.op=.call { callee:=.value x,args:=xs,argTypes:=ts })(hx:a.eval x=.func (.func f) #[] #[])(J:En f)(hv:xs.map a.eval=vs)(ht:tb.lookup s=some (sEq (.int .i64 n)))(h:Calls Tryz.prog f vs w (dG n w)):wpOp Tryz.prog ops Q i (aHf tb s a w) a w:=
 aA7 Y hg hd hc hx J hv (by
  rw[Array.append_empty];refine h.mono ?_;rintro e w' ⟨rfl,b⟩
  exact⟨_,rfl,_,rfl,by rw[aEK ht];exact rfl,b⟩)
end
section
variable {P:Program} {ρ:Operand→Value} {o:Oper} {w:World} {x:Operand} {v p:Value} {t:TypeId}
theorem aLp{f:FuncId}(h:o.op=.makeFunc (.func f) #[] #[x])(J:ρ x=v):(execOp ρ o).run P w=.ok (.value (.func (.func f) #[] #[v])) w:=by
 subst J;unfold execOp;simp only[h,Instr.makeFunc,Sem.run_bind,Sem.run_pure,Result.andThen_ok,List.map_toArray,aV,aU]
theorem aLQ(h:o.op=.move x)(J:ρ x=v):(execOp ρ o).run P w=.ok (.value v) w:=by
 subst J;unfold execOp;rw[h];rfl
theorem aMY(h:o.op=.assign x)(J:ρ x=v):(execOp ρ o).run P w=.ok (.value v) w:=by
 subst J;unfold execOp;rw[h];rfl
theorem aAJ{k:Nat}(h:o.op=.fieldAddr t x k)(J:ρ x=p)(hr:(Instr.fieldAt t p k).run P w=.ok v w):(execOp ρ o).run P w=.ok (.value v) w:=by
 subst J;unfold execOp;simp only[h,Sem.run_bind,hr,Result.andThen_ok,Sem.run_pure]
theorem aEb(h:o.op=.load t x)(J:ρ x=p)(hr:(Instr.loadAt t p).run P w=.ok v w):(execOp ρ o).run P w=.ok (.value v) w:=by
 subst J;unfold execOp;simp only[h,Sem.run_bind,hr,Result.andThen_ok,Sem.run_pure]
theorem aM6{n:Nat}{parts:Array (Nat×Operand)}{ps:Array (Nat×Value)}{w':World}(h:o.op=.buildSlice t n parts)(J:(parts.map fun(i,x)=>(i,ρ x))=ps)(hr:(Instr.buildSlice t n ps).run P w=.ok v w'):(execOp ρ o).run P w=.ok (.value v) w':=by
 subst J;unfold execOp;simp only[h,Sem.run_bind,hr,Result.andThen_ok,Sem.run_pure]
end
def aIt(p:Nat→Prop):List Nat→Prop
 | []=>True
 | i :: r=>p i∧aIt p r
theorem aBa{p:Nat→Prop}:∀{l:List Nat},aIt p l→∀i∈l,p i
 | [],_,i,h=>by cases h
 | j :: r,h,i,hi=>by
  rcases aM.1 hi with rfl | hi
  ·exact h.1
  ·exact aBa h.2 i hi
theorem aGS{ops:Array Oper}{Q:Exit→Act→World→Prop}{id:Nat}{a0:Act}{W:World}(Y:List (Nat×(Value→World→Prop)))(l:List Nat)(hl:List.range ops.size=l)(a2:∀x∈Y,aIo x.2)(hm:Tryz.prog.follows .mixedOrders=true)(hd:down ops=true)(ho:own ops a0.tmps.size=true)
 (a1:aIt (fun i=>∀a w,aHP ops a0 a→Below W.heap.size W w→(∀s,aDO ops i s=true→RC Y s (a.eval (.tmp s)) w)→wpOp Tryz.prog ops Q i (aHf Y (iC ops i) a w) a w) l)
 (J:∀a w,aHP ops a0 a→Below W.heap.size W w→(∀s,aBN ops s=true→RC Y s (a.eval (.tmp s)) w)→Q .normal a w):(Code.region id ops true).wp Tryz.prog Q a0 W:=
 aGR (RC Y) hm hd ho (fun s v w w'=>aKg a2 s v w w') (fun i hi a w hL b hw=>aBa a1 i (by rw[←hl];exact List.mem_range.2 hi) a w hL b hw) J
end sf
namespace sf
open RowKit Go.Sort mem sy inn
theorem aKt{T:List (List UInt8)}{j:Nat}(J:j+1<T.length)(h:¬T[j]<T[j+1]):fV T=false:=by
 rcases hr:fV T with _ | _
 ·rfl
 ·exact absurd ((aAv T).2 hr j J) h
theorem aF9(w:World)(A:Option Addr)(c:Nat)(T:List (List UInt8))(h:Rd w A (T.map encStr))(hm:T.length≤maxLen) :
 Calls Tryz.prog 58 #[.slice A T.length c] w (dA (fV T) w):=by
 have HR:Hid (∀w2,Below w.heap.size w w2→Rd w2 A (T.map encStr)):=hid (fun w2 b=>h.below b);unfold maxLen at hm;clear h;obtain⟨n,hN⟩:∃n,Hid (n=T.length):=⟨_,hid rfl⟩;obtain⟨V,hV⟩:∃V,Hid (V=fV T):=⟨_,hid rfl⟩;rw[←hN.out]at hm ⊢;rw[←hV.out];unfold dA;go_enter Tryz.func58,Tryz.ntmps58;go_wp2_with fail;go_loopw [3] (fun i wr=>∃k:Nat,i=.int .i64 (k+1:Nat)∧(k+1≤n∨k=0)∧Hid (∀j (h:j+1<T.length),j<k→T[j]<T[j+1])∧Hid (Below w.heap.size w wr)) (fun i _=>n+1-(intOf i).toNat)
 case atStart=>exact⟨0,rfl,by omega,hid (fun j hj hk=>by omega),hid (Below.refl _ _)⟩
 case round=>
  obtain⟨k,rfl,a8,hG,hb⟩:=hrel
  rename World=>wr
  by_cases a6:k+1<n
  ·have e1:decide (((k+1:Nat):Int)<(n:Int))=true:=aC (by omega)
   have a5:k+1<T.length:=by rw[←hN.out];exact a6
   obtain⟨g,off,rfl,a7,hc⟩:=HR.out wr hb.out (by rw[aH];omega);have c1:=hc (k+1) (by rw[aH];exact a5);have c2:=hc k (by rw[aH];omega);rw[List.getElem_map]at c1 c2
   have a4:Hid (T[k]<T[k+1]→∀j (h:j+1<T.length),j<k+1→T[j]<T[j+1]):=hid (fun hn i hi hk=>by
    by_cases e:i=k
    ·subst e;exact hn
    ·exact hG.out i hi (by omega))
   have a0:Hid (¬T[k]<T[k+1]→V=false):=hid (fun h=>by rw[hV.out];exact aKt a5 h);have a9:wrap64 (((k+1:Nat):Int)-1)=(k:Int):=by unfold wrap64;omega
   have J:=hid (po.mD T[k+1] T[k])
   have Y:Hid ((T[k]<T[k+1]∧¬T[k+1]<T[k]∧¬T[k+1] = T[k])∨(¬T[k]<T[k+1]∧T[k+1]<T[k])∨(¬T[k]<T[k+1]∧¬T[k+1]<T[k]∧T[k+1] = T[k])):=hid (by
    rcases mP.tot T[k] T[k+1] with h | h | h
    ·exact Or.inl ⟨h,fun h2=>mP.irr _ (mP.tr _ _ _ h h2),fun h2=>mP.irr T[k] (by rw[h2]at h;exact h)⟩
    ·exact Or.inr (Or.inr ⟨by rw[h];exact mP.irr _,by rw[h];exact mP.irr _,h.symm⟩)
    ·exact Or.inr (Or.inl ⟨fun h2=>mP.irr _ (mP.tr _ _ _ h h2),h⟩))
   clear hc a7 hG;unfold encStr at c1 c2;rcases Y.out with⟨h1,h2,h3⟩ | ⟨h1,h2⟩ | ⟨h1,h2,h3⟩
   ·have hv:=hid (a4.out h1)
    have a1:Op.bytesLess T[k+1] T[k] = false:=J.out.trans (aB h2);have a2:(T[k+1]==T[k])=false:=by simpa using h3
    clear a4 a0 J Y h1 h2 h3;generalize T[k+1] = y1 at c1 a1 a2;generalize T[k] = y2 at c2 a1 a2;go_wp2_with fail;go_quiet (fail);have a3:=hid (eZ hb.out hb.out.size nq);go_wp2_with fail;go_roundw
    case rel=>exact⟨k+1,by first | rfl | go_num,by omega,hv,a3⟩
    case measure=>simp[intOf];omega
   ·have hv:=hid (a0.out h1)
    have a1:Op.bytesLess T[k+1] T[k] = true:=J.out.trans (aC h2);clear a4 a0 J Y h1 h2;generalize T[k+1] = y1 at *;generalize T[k] = y2 at *;go_wp2_with fail;go_quiet (fail);have a3:=hid (eZ hb.out hb.out.size nq);go_wp2_with fail;go_ret;exact⟨by rw[hv.out];rfl,a3.out⟩
   ·have hv:=hid (a0.out h1)
    have a1:Op.bytesLess T[k+1] T[k] = false:=J.out.trans (aB h2);have a2:(T[k+1]==T[k])=true:=by simpa using h3
    clear a4 a0 J Y h1 h2 h3;generalize T[k+1] = y1 at *;generalize T[k] = y2 at *;go_wp2_with fail;go_quiet (fail);have a3:=hid (eZ hb.out hb.out.size nq);go_wp2_with fail;go_ret;exact⟨by rw[hv.out];rfl,a3.out⟩
  ·have e1:decide (((k+1:Nat):Int)<(n:Int))=false:=aB (by omega)
   have hS:Hid (V=true):=hid (by
    rw[hV.out,←aAv];intro j hj;refine hG.out j hj ?_;have:=hN.out
    omega)
   go_wp2_with fail;go_ret;exact⟨by rw[hS.out];rfl,hb.out⟩
end sf
end Go.Proofs.YtdmmkjijgoiecaaGreatDoor
