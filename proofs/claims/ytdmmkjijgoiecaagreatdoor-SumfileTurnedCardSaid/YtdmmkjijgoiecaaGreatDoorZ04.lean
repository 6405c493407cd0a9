import Derived.Test.YtdmmkjijgoiecaaGreatDoorZ01
import Derived.Test.YtdmmkjijgoiecaaGreatDoorB10
import Derived.Test.YtdmmkjijgoiecaaGreatDoorB26
set_option linter.all false
set_option maxHeartbeats 4000000
namespace Go.Proofs.YtdmmkjijgoiecaaGreatDoor
open Lib(hid)
set_option maxRecDepth 100000
namespace sf
open RowKit mem sy
def En(f:FuncId):Prop:=∀(args:Array Value) (w:World),(callFunc f args).run Tryz.prog w=.ok (.enter f args) w
def F0(w:World)(v r:Value):Prop:=∃f cap,v=.func (.func f) #[] cap∧En f∧∀w',Below w.heap.size w w'→Calls Tryz.prog f cap w' (fun e J=>e=.returned r∧Below w'.heap.size w' J)
def F1(w:World)(v:Value)(l:List ByteArray)(g:ByteArray→Bool):Prop:=∃f cap,v=.func (.func f) #[] cap∧En f∧∀w',Below w.heap.size w w'→∀s∈l,Calls Tryz.prog f (#[.string s]++cap) w' (fun e J=>e=.returned (.bool (g s))∧Below w'.heap.size w' J)
theorem F0.below{w J:World}{v r:Value}(h:F0 w v r)(b:Below w.heap.size w J):F0 J v r:=by
 obtain⟨f,cap,e,he,k⟩:=h;exact⟨f,cap,e,he,fun w' Y=>k w' (b.trans (Y.mono b.size))⟩
theorem F1.below{w J:World}{v:Value}{l:List ByteArray}{g:ByteArray→Bool}(h:F1 w v l g)(b:Below w.heap.size w J):F1 J v l g:=by
 obtain⟨f,cap,e,he,k⟩:=h;exact⟨f,cap,e,he,fun w' Y=>k w' (b.trans (Y.mono b.size))⟩
theorem aIq(W:World)(b1 b2:Nat)(so:Value)(b:Bool)(c:Int)(h1:W.cell? ⟨b1,0,none⟩=some so)(h2:W.cell? ⟨b2,0,none⟩=some (.int .i64 c))(h:F0 W so (.bool b)):F0 W (.func (.func 127) #[] #[.pointer (some ⟨b1,0,none⟩),.pointer (some ⟨b2,0,none⟩)]) (.int .i64 (if b then 0 else c)):=by
 obtain⟨f,cap,rfl,a0,k⟩:=h;have HE:=hid a0;clear a0;refine⟨_,_,rfl,(fun args w=>by go_simp),fun w hw=>?_⟩
 have l1:=block_lt_of_cell h1;have l2:=block_lt_of_cell h2;have c1:w.cell? ⟨b1,0,none⟩=some (.func (.func f) #[] cap):=(hw.cell l1).trans h1;have K:=hid (k w hw);have HC:Hid (∀Y,Below w.heap.size w Y→Y.cell? ⟨b2,0,none⟩=some (.int .i64 c)):=hid (fun Y b=>(b.cell (Nat.lt_of_lt_of_le l2 hw.size)).trans ((hw.cell l2).trans h2))
 clear k l1 l2 h1 h2 hw
 rcases b with _ | _
 ·go_enter Tryz.func127,Tryz.ntmps127
  go_wp2_with fail;rw[HE.out];refine K.out.mono ?_;rintro e Y ⟨rfl,J⟩;have c2:=HC.out Y J;have B2:=hid J;clear J K HC;go_wp2_with fail;go_ret;exact⟨rfl,B2.out⟩
 ·go_enter Tryz.func127,Tryz.ntmps127
  go_wp2_with fail;rw[HE.out];refine K.out.mono ?_;rintro e Y ⟨rfl,J⟩;have B2:=hid J;clear J K HC;go_wp2_with fail;go_ret;exact⟨rfl,B2.out⟩
def NP(w:World)(r:Value)(e:Ending)(w':World):Prop:=∃v,e=.returned v∧F0 w' v r∧Below w.heap.size w w'
theorem qK(w:World)(so:Value)(b:Bool)(c:Int)(h:F0 w so (.bool b)):Calls Tryz.prog 75 #[so,.int .i64 c] w (NP w (.int .i64 (if b then 0 else c))):=by
 obtain⟨W,J⟩:∃W,Hid (W=(w.alloc (.cells #[so] 34)).alloc (.cells #[.int .i64 c] 31)):=⟨_,hid rfl⟩;have hz:(w.alloc (.cells #[so] 34)).heap.size=w.heap.size+1:=bH _;have Y:Below w.heap.size w (w.alloc (.cells #[so] 34)):=(Below.refl _ _).alloc (aY _) _;have b0:Below w.heap.size w W:=by rw[J.out];exact Y.alloc Y.size _
 have B1:bT W w.heap.size 34 #[so]:=by rw[J.out];exact(bT.new w _ _).kept ((Fr.refl [] _).alloc _) (by simp)
 have B2:bT W (w.heap.size+1) 31 #[.int .i64 c]:=by rw[J.out,←hz];exact bT.new _ _ _
 have hE:Hid (NP w (.int .i64 (if b then 0 else c)) (.returned (.func (.func 127) #[] #[.pointer (some ⟨w.heap.size,0,none⟩),.pointer (some ⟨w.heap.size+1,0,none⟩)])) W):=hid ⟨_,rfl,aIq W _ _ so b c (B1.cell 0) (B2.cell 0) (h.below b0),b0⟩
 obtain⟨r,hr⟩:∃r,Hid (r=Value.int .i64 (if b then 0 else c)):=⟨_,hid rfl⟩
 rw[←hr.out]at hE ⊢;clear hr;obtain⟨f,cap,rfl,_⟩:=h;clear Y b0 B1 B2 hz;go_enter Tryz.func75,Tryz.ntmps75;go_wp2_with fail;go_ret;have h:=hE.out;rw[J.out]at h;exact h
theorem aIk(w:World)(A:Option Addr)(c:Nat)(l:List ByteArray)(v:Value)(g:ByteArray→Bool)(hA:Rd w A (l.map Value.string))(hv:F1 w v l g)(hl:l.length≤maxLen) :
 Calls Tryz.prog 84 #[.slice A l.length c,v] w (fun e w'=>∃i:Int,e=.returned (.int .i64 i)∧decide (0≤i)=l.any g∧Below w.heap.size w w'):=by
 obtain⟨f,cap,rfl,a2,k⟩:=hv;have HE:=hid a2;clear a2;have K:=hid k;have HR:Hid (∀w2,Below w.heap.size w w2→Rd w2 A (l.map Value.string)):=hid (fun w2 b=>hA.below b)
 unfold maxLen at hl;clear k hA;obtain⟨n,hN⟩:∃n,Hid (n=l.length):=⟨_,hid rfl⟩;rw[←hN.out]at hl ⊢;go_enter Tryz.func84,Tryz.ntmps84;go_wp2_with fail
 go_loopw [8] (fun i wr=>∃k:Nat,k≤n∧i=.int .i64 k∧Hid ((l.take k).any g=false)∧Hid (Below w.heap.size w wr)) (fun i _=>n-(intOf i).toNat)
 case atStart=>exact⟨0,by omega,rfl,hid (by simp),hid (Below.refl _ _)⟩
 case round=>
  obtain⟨k,hk,rfl,hG,hb⟩:=hrel
  rename World=>wr
  by_cases a3:k<n
  ·have e1:decide ((k:Int)<(n:Int))=true:=aC (by omega)
   have a0:k<l.length:=by rw[←hN.out];exact a3
   obtain⟨gg,off,rfl,a4,hc⟩:=HR.out wr hb.out (by rw[aH];omega)
   have c3:=hc k (by rw[aH];exact a0)
   rw[List.getElem_map]at c3;have KK:=hid (K.out wr hb.out l[k] (aR a0))
   have hT:Hid ((l.take (k+1)).any g=g l[k]):=hid (by
    rw[bC a0,List.any_append,hG.out]
    simp)
   have Y:Hid (g l[k] = true→l.any g=true):=hid (fun h=>List.any_eq_true.2 ⟨l[k],aR a0,h⟩)
   clear hc a4
   rcases J:g l[k] with _ | _
   ·rw[J]at KK hT
    clear Y J;generalize l[k] = y at *;go_wp2_with fail;rw[HE.out];refine KK.out.mono ?_;rintro e w2 ⟨rfl,b2⟩;have B2:=hid (hb.out.trans (b2.mono hb.out.size));clear b2 KK c3;go_wp2_with fail
    go_roundw
    case rel=>exact⟨k+1,by omega,by go_num,hT,B2⟩
    case measure=>simp[intOf];omega
   ·rw[J]at KK
    have a1:=hid (Y.out J);clear Y J hT;generalize l[k] = y at *;go_wp2_with fail;rw[HE.out];refine KK.out.mono ?_;rintro e w2 ⟨rfl,b2⟩;have B2:=hid (hb.out.trans (b2.mono hb.out.size));clear b2 KK c3;go_wp2_with fail;go_ret;exact⟨_,rfl,by rw[a1.out];exact aC (by omega),B2.out⟩
  ·obtain rfl:k=n:=by omega
   have e1:decide ((k:Int)<(k:Int))=false:=aB (by omega)
   have a1:Hid (l.any g=false):=hid (by
    have:=hG.out
    rwa[bE (by rw[hN.out];exact aY _)]at this)
   go_wp2_with fail;go_ret;exact⟨_,rfl,by rw[a1.out];rfl,hb.out⟩
theorem zB(w:World)(A:Option Addr)(c:Nat)(l:List ByteArray)(v:Value)(g:ByteArray→Bool)(hA:Rd w A (l.map Value.string))(hv:F1 w v l g)(hl:l.length≤maxLen) :
 Calls Tryz.prog 28 #[.slice A l.length c,v] w (cZ (l.any g) w):=by
 have K:=hid (aIk w A c l v g hA hv hl);obtain⟨f,cap,rfl,_⟩:=hv;clear hA;unfold cZ;go_enter Tryz.func28,Tryz.ntmps28;go_wp2_with fail;refine K.out.mono ?_;rintro e Y ⟨i,rfl,hi,J⟩;have B2:=hid J;have hi:=hid hi;clear J K;go_wp2_with fail;go_ret;exact⟨by rw[←hi.out];rfl,B2.out⟩
theorem aHo(W:World)(b2:Nat)(so:Value)(l:List ByteArray)(g:ByteArray→Bool)(h2:W.cell? ⟨b2,0,none⟩=some so)(h:F1 W so l g):F1 W (.func (.func 134) #[] #[.pointer (some ⟨b2,0,none⟩)]) l (fun s=>!g s):=by
 obtain⟨f,cap,rfl,Y,k⟩:=h;have HE:=hid Y;clear Y;refine⟨_,_,rfl,(fun args w=>by go_simp),fun w hw s hs=>?_⟩
 have l2:=block_lt_of_cell h2;have c1:w.cell? ⟨b2,0,none⟩=some (.func (.func f) #[] cap):=(hw.cell l2).trans h2;have K:=hid (k w hw s hs);clear k l2 h2 hw hs
 show Calls Tryz.prog 134 #[.string s,.pointer (some ⟨b2,0,none⟩)] w (fun e a0=>e=.returned (.bool (!g s))∧Below w.heap.size w a0)
 generalize g s=b at *;go_enter Tryz.func134,Tryz.ntmps134;go_wp2_with fail;rw[HE.out];refine K.out.mono ?_;rintro e w2 ⟨rfl,J⟩;have B2:=hid J;clear J K;go_wp2_with fail;go_ret;exact⟨rfl,B2.out⟩
theorem aLw(l:List ByteArray)(g:ByteArray→Bool):(!l.any fun s=>!g s)=l.all g:=by
 induction l with
 | nil=>rfl
 | cons a l ih=>rw[List.any_cons,List.all_cons,←ih];cases g a <;> simp
theorem aKH(W:World)(b1 b2:Nat)(A:Option Addr)(c:Nat)(so:Value)(l:List ByteArray)(g:ByteArray→Bool)(h1:W.cell? ⟨b1,0,none⟩=some (.slice A l.length c))(h2:W.cell? ⟨b2,0,none⟩=some so)(h:F1 W so l g)(hA:Rd W A (l.map Value.string))(hl:l.length≤maxLen):F0 W (.func (.func 133) #[] #[.pointer (some ⟨b1,0,none⟩),.pointer (some ⟨b2,0,none⟩)]) (.bool (l.all g)):=by
 refine⟨_,_,rfl,(fun args w=>by go_simp),fun w Y=>?_⟩
 have l1:=block_lt_of_cell h1;have c1:w.cell? ⟨b1,0,none⟩=some (.slice A l.length c):=(Y.cell l1).trans h1;have K:=hid (zB w A c l _ _ (hA.below Y) ((aHo W b2 so l g h2 h).below Y) hl);clear l1 h1 h2 Y h hA hl;unfold cZ at K;rw[←aLw];generalize (l.any fun s=>!g s)=b at *
 generalize l.length=n at *;go_enter Tryz.func133,Tryz.ntmps133;go_wp2_with fail;refine K.out.mono ?_;rintro e w2 ⟨rfl,J⟩;have B2:=hid J;clear J K;go_wp2_with fail;go_ret;exact⟨rfl,B2.out⟩
theorem aAQ(w:World)(A:Option Addr)(c:Nat)(so:Value)(l:List ByteArray)(g:ByteArray→Bool)(h:F1 w so l g)(hA:Rd w A (l.map Value.string))(hl:l.length≤maxLen):Calls Tryz.prog 80 #[.slice A l.length c,so] w (NP w (.bool (l.all g))):=by
 obtain⟨W,J⟩:∃W,Hid (W=(w.alloc (.cells #[.slice A l.length c] 22)).alloc (.cells #[so] 40)):=⟨_,hid rfl⟩;have hz:(w.alloc (.cells #[.slice A l.length c] 22)).heap.size=w.heap.size+1:=bH _;have Y:Below w.heap.size w (w.alloc (.cells #[.slice A l.length c] 22)):=(Below.refl _ _).alloc (aY _) _;have b0:Below w.heap.size w W:=by rw[J.out];exact Y.alloc Y.size _
 have B1:bT W w.heap.size 22 #[.slice A l.length c]:=by rw[J.out];exact(bT.new w _ _).kept ((Fr.refl [] _).alloc _) (by simp)
 have B2:bT W (w.heap.size+1) 40 #[so]:=by rw[J.out,←hz];exact bT.new _ _ _
 have hE:Hid (NP w (.bool (l.all g)) (.returned (.func (.func 133) #[] #[.pointer (some ⟨w.heap.size,0,none⟩),.pointer (some ⟨w.heap.size+1,0,none⟩)])) W):=hid ⟨_,rfl,aKH W _ _ A c so l g (B1.cell 0) (B2.cell 0) (h.below b0) (hA.below b0) hl,b0⟩;obtain⟨r,hr⟩:∃r,Hid (r=Value.bool (l.all g)):=⟨_,hid rfl⟩;rw[←hr.out]at hE ⊢;clear hr;obtain⟨f,cap,rfl,_⟩:=h;clear Y b0 B1 B2 hz hA hl;generalize l.length=n at *;go_enter Tryz.func80,Tryz.ntmps80;go_wp2_with fail;go_ret;have h:=hE.out;rw[J.out]at h;exact h
def eQ:List Int→Int
 | []=>0
 | x :: r=>if x=0 then eQ r else x
theorem aIb(w:World)(b off:Nat)(c:Nat)(vs:List Value)(es:List Int)(hn:es.length=vs.length)(hc:∀k (J:k<vs.length),w.cell? ⟨b,off+k,none⟩=some vs[k])(hv:∀k (J:k<vs.length),F0 w vs[k] (.int .i64 es[k]))(hl:vs.length≤1000) :
 Calls Tryz.prog 74 #[.slice (some ⟨b,off,none⟩) vs.length c] w (dD (eQ es) w):=by
 have HC:Hid (∀k (J:k<vs.length) w2,Below w.heap.size w w2→w2.cell? ⟨b,off+k,none⟩=some vs[k]):=hid (fun k J w2 b=>(b.cell (block_lt_of_cell (hc k J))).trans (hc k J))
 have HV:Hid (∀k (J:k<vs.length),F0 w vs[k] (.int .i64 es[k])):=hid hv;obtain⟨n,hN⟩:∃n,Hid (n=vs.length):=⟨_,hid rfl⟩;have a0:Hid (es.length=n):=hid (by rw[hn,hN.out])
 clear hc hv;rw[←hN.out]at hl ⊢;obtain⟨R,hR⟩:∃R,Hid (R=eQ es):=⟨_,hid rfl⟩;rw[←hR.out];have a4:Hid (R=eQ (es.drop 0)):=hid hR.out;unfold dD;go_enter Tryz.func74,Tryz.ntmps74;go_wp2_with fail
 go_loopw [8] (fun i wr=>∃k:Nat,k≤n∧i=.int .i64 k∧Hid (R=eQ (es.drop k))∧Hid (Below w.heap.size w wr)) (fun i _=>n-(intOf i).toNat)
 case atStart=>exact⟨0,by omega,rfl,a4,hid (Below.refl _ _)⟩
 case round=>
  obtain⟨k,J,rfl,hG,hb⟩:=hrel
  rename World=>wr
  by_cases a1:k<n
  ·have e1:decide ((k:Int)<(n:Int))=true:=aC (by omega)
   have a2:k<vs.length:=by rw[←hN.out];exact a1
   have c3:=HC.out k a2 wr hb.out;obtain⟨f,cap,hf,a3,kk⟩:=HV.out k a2;have HE:=hid a3;clear a3;rw[hf]at c3;have a5:k<es.length:=by rw[a0.out];exact a1
   have KK:=hid (kk wr hb.out)
   have hD:Hid (R=if es[k] = 0 then eQ (es.drop (k+1)) else es[k]):=hid (by
    rw[hG.out,bD a5]
    rfl)
   clear kk hf hG;generalize es[k] = x at *
   by_cases Y:x=0
   ·have q0:(x != 0)=false:=by simpa using Y
    rw[if_pos Y]at hD;clear Y;go_wp2_with fail;rw[HE.out];refine KK.out.mono ?_;rintro e w2 ⟨rfl,b2⟩;have B2:=hid (hb.out.trans (b2.mono hb.out.size));clear b2 KK c3;go_wp2_with fail
    go_roundw
    case rel=>exact⟨k+1,by omega,by go_num,hD,B2⟩
    case measure=>simp[intOf];omega
   ·have q0:(x != 0)=true:=by simpa using Y
    rw[if_neg Y]at hD;clear Y;go_wp2_with fail;rw[HE.out];refine KK.out.mono ?_;rintro e w2 ⟨rfl,b2⟩;have B2:=hid (hb.out.trans (b2.mono hb.out.size));clear b2 KK c3;go_wp2_with fail;go_ret;exact⟨by rw[hD.out];rfl,B2.out⟩
  ·obtain rfl:k=n:=by omega
   have e1:decide ((k:Int)<(k:Int))=false:=aB (by omega)
   have hD:Hid (R=0):=hid (by
    rw[hG.out,List.drop_of_length_le (by rw[a0.out];exact aY _)]
    rfl)
   go_wp2_with fail;go_ret;exact⟨by rw[hD.out];rfl,hb.out⟩
end sf
set_option maxRecDepth 100000
namespace sf
open RowKit Go.Sort mem inn
def gJ:List (List UInt8)→Bool
 | []=>true
 | [_]=>true
 | x :: y :: r=>decide (x<y)&&gJ (y :: r)
theorem aJi:∀T:List (List UInt8),gJ T=true↔T.Pairwise (fun a b=>a<b)
 | []=>by simp[gJ]
 | [x]=>by simp[gJ]
 | x :: y :: r=>by
  have Y:=aJi (y :: r);unfold gJ;rw[Bool.and_eq_true,bJ,Y,List.pairwise_cons (l:=y :: r)];refine⟨fun h=>⟨fun z J=>?_,h.2⟩,fun h=>⟨h.1 y (List.mem_cons_self ..),h.2⟩⟩
  rcases aM.1 J with rfl | J
  ·exact h.1
  ·exact nS.tr _ _ _ h.1 ((List.pairwise_cons.1 h.2).1 z J)
theorem aBc:∀T:List (List UInt8),(∀j (h:j+1<T.length),T[j]<T[j+1])↔gJ T=true
 | []=>by simp[gJ]
 | [x]=>by simp[gJ]
 | x :: y :: r=>by
  have Y:=aBc (y :: r);unfold gJ;rw[Bool.and_eq_true,bJ,←Y];refine⟨fun h=>⟨h 0 (by simp),fun j J=>h (j+1) (by simp at J ⊢;omega)⟩,fun h j J=>?_⟩
  cases j with
  | zero=>exact h.1
  | succ j=>exact h.2 j (by simp at J ⊢;omega)
theorem aMu{T:List (List UInt8)}(h:T.Pairwise (fun a b=>a<b)):jP T=T:=
 wW nS (gQ nS T).1 h (fun x=>wS T x)
theorem aME{T:List (List UInt8)}{j:Nat}(hj:j+1<T.length)(h:T[j] = T[j+1]):(jP T).length<T.length:=by
 have e1:T=T.take (j+1)++(T[j+1] :: T.drop (j+2)):=by
  conv=>lhs;rw[←List.take_append_drop (j+1) T,bD hj]
 have Y:T[j+1]∈T.take (j+1):=by
  rw[←h];exact List.mem_take_iff_getElem.2 ⟨j,by omega,rfl⟩
 have e2:jP T=jP (T.take (j+1)++T.drop (j+2)):=wW nS (gQ nS T).1 (gQ nS _).1 (fun x=>by
  rw[wS,wS];constructor
  ·intro J
   rw[e1]at J
   rcases List.mem_append.1 J with J | J
   ·exact List.mem_append.2 (Or.inl J)
   ·rcases aM.1 J with rfl | J
    ·exact List.mem_append.2 (Or.inl Y)
    ·exact List.mem_append.2 (Or.inr J)
  ·intro J
   rw[e1]
   rcases List.mem_append.1 J with J | J
   ·exact List.mem_append.2 (Or.inl J)
   ·exact List.mem_append.2 (Or.inr (bG _ J)))
 rw[e2];have:=aC7 (T.take (j+1)++T.drop (j+2));rw[aF,List.length_take,List.length_drop]at this;omega
def Srt(T:List (List UInt8)):Prop:=∀j (h:j+1<T.length),¬T[j+1]<T[j]
theorem aKE(T:List (List UInt8)):((jP T).length=T.length∧Srt T)↔gJ T=true:=by
 constructor
 ·intro h
  rw[←aBc];intro j Y
  rcases nS.tot T[j] T[j+1] with J | J | J
  ·exact J
  ·have:=aME Y J
   omega
  ·exact absurd J (h.2 j Y)
 ·intro h
  have hp:=(aJi T).1 h;refine⟨by rw[aMu hp],fun j Y J=>?_⟩
  have h2:=(aBc T).2 h j Y;exact nS.irr _ (nS.tr _ _ _ J h2)
theorem fC{N:Nat}{W w:World}(h:Below N W w)(J:N≤w.heap.size)(n:Nat):Below N W (w.drewN n):=h.trans (((Fr.refl [] w).drewN n).below (by simp) J)
def aFs(T:List (List UInt8))(w:World)(e:Ending)(w':World):Prop:=∃r,e=.returned (.bool r)∧(r=true↔Srt T)∧Below w.heap.size w w'
theorem aDs(w:World)(A:Option Addr)(c:Nat)(T:List (List UInt8))(h:Rd w A (T.map encStr))(hm:T.length≤maxLen) :
 Calls Tryz.prog 132 #[.slice A T.length c] w (aFs T w):=by
 have HR:Hid (∀w2,Below w.heap.size w w2→Rd w2 A (T.map encStr)):=hid (fun w2 b=>h.below b)
 unfold maxLen at hm;clear h;obtain⟨n,hN⟩:∃n,Hid (n=T.length):=⟨_,hid rfl⟩;rw[←hN.out]at hm ⊢;go_enter Tryz.func132,Tryz.ntmps132;have a7:wrap64 ((n:Int)-1)=(n:Int)-1:=by unfold wrap64;omega
 go_wp2_with fail
 go_loopw [3] (fun i wr=>∃k:Int,i=.int .i64 k∧-1≤k∧k<n∧Hid (∀j (h:j+1<T.length),k<(j+1:Nat)→¬T[j+1]<T[j])∧Hid (Below w.heap.size w wr)) (fun i _=>(intOf i).toNat)
 case atStart=>exact⟨(n:Int)-1,by first | rfl | go_num,by omega,by omega,hid (fun j hj hk=>by have:=hN.out;omega),hid (Below.refl _ _)⟩
 case round=>
  obtain⟨k,rfl,a9,a8,hG,hb⟩:=hrel
  rename World=>wr
  by_cases a1:0<k
  ·have e1:decide (0<k)=true:=aC a1
   obtain⟨j,hj⟩:∃j:Nat,k=((j+1:Nat):Int):=⟨(k-1).toNat,by omega⟩
   subst hj;have a2:j+1<T.length:=by rw[←hN.out];omega
   obtain⟨g,off,rfl,a5,hc⟩:=HR.out wr hb.out (by rw[aH];omega)
   have c1:=hc (j+1) (by rw[aH];exact a2)
   have c2:=hc j (by rw[aH];omega)
   rw[List.getElem_map]at c1 c2;have HL:=hid (fun w=>po.aDN T[j+1] T[j] w)
   have Y:Hid (¬T[j+1]<T[j]→∀i (hi:i+1<T.length),(j:Int)<(i+1:Nat)→¬T[i+1]<T[i]):=hid (fun hn i hi hk=>by
    by_cases e:i=j
    ·subst e;exact hn
    ·exact hG.out i hi (by omega))
   have J:Hid (T[j+1]<T[j]→¬Srt T):=hid (fun h s=>s j a2 h)
   clear hc a5 hG;unfold encStr at c1 c2 HL
   rcases hd:decide (T[j+1]<T[j])with _ | _
   ·have a3:=hid (Y.out (of_decide_eq_false hd))
    rw[hd]at HL;clear hd Y J;generalize (ByteArray.mk T[j+1].toArray)=y1 at *;generalize (ByteArray.mk T[j].toArray)=y2 at *;have a4:wrap64 (((j+1:Nat):Int)-1)=(j:Int):=by unfold wrap64;omega
    go_wp2_with fail
    go_quiet ((go_at_call 189;exact Calls.quiet_of_same (HL.out _)))
    have a0:=hid (fC hb.out hb.out.size nq);go_wp2_with fail
    go_roundw
    case rel=>exact⟨(j:Int),by first | rfl | go_num,by omega,by omega,a3,a0⟩
    case measure=>first | (simp[intOf];done) | (simp[intOf];omega)
   ·have a6:=hid (J.out (of_decide_eq_true hd))
    rw[hd]at HL;clear hd Y J;generalize (ByteArray.mk T[j+1].toArray)=y1 at *;generalize (ByteArray.mk T[j].toArray)=y2 at *;have a4:wrap64 (((j+1:Nat):Int)-1)=(j:Int):=by unfold wrap64;omega
    go_wp2_with fail
    go_quiet ((go_at_call 189;exact Calls.quiet_of_same (HL.out _)))
    have a0:=hid (fC hb.out hb.out.size nq);go_wp2_with fail;go_ret;exact⟨false,rfl,⟨(fun h=>by cases h),fun h=>absurd h a6.out⟩,a0.out⟩
  ·have e1:decide (0<k)=false:=aB a1
   have hS:Hid (Srt T):=hid (fun j hj=>hG.out j hj (by omega))
   go_wp2_with fail;go_ret;exact⟨true,rfl,⟨fun _=>hS.out,fun _=>rfl⟩,hb.out⟩
end sf
set_option maxRecDepth 100000
namespace sf
open RowKit Go.Sort mem sy inn
open re (tx)
theorem nY(l:List ByteArray):(l.map tx).map encStr=l.map Value.string:=by
 rw[List.map_map];rfl
theorem aMs{r V:Bool}{z n:Nat}{S:Prop}(Y:z=n)(J:(z=n∧S)↔V=true)(hr:r=true↔S):r=V:=by
 rcases r with _ | _
 ·rcases V with _ | _
  ·rfl
  ·exact absurd (hr.2 (J.2 rfl).2) (by simp)
 ·exact(J.1 ⟨Y,hr.1 rfl⟩).symm
theorem aLO{V:Bool}{z n:Nat}{S:Prop}(J:¬z=n)(Y:(z=n∧S)↔V=true):V=false:=by
 rcases V with _ | _
 ·rfl
 ·exact absurd (Y.2 rfl).1 J
theorem aE8(W:World)(b1:Nat)(A:Option Addr)(c:Nat)(l:List ByteArray)(h1:W.cell? ⟨b1,0,none⟩=some (.slice A l.length c))(hA:Rd W A (l.map Value.string))(hl:l.length≤1000000):F0 W (.func (.func 131) #[] #[.pointer (some ⟨b1,0,none⟩)]) (.bool (gJ (l.map tx))):=by
 refine⟨_,_,rfl,(fun args w=>by go_simp),fun w hw=>?_⟩
 have l1:=block_lt_of_cell h1;have HC:Hid (∀J,Below w.heap.size w J→J.cell? ⟨b1,0,none⟩=some (.slice A l.length c)):=hid (fun J b=>(b.cell (Nat.lt_of_lt_of_le l1 hw.size)).trans ((hw.cell l1).trans h1))
 have HK:Hid (∀J,Below w.heap.size w J→Calls Tryz.prog 63 #[.slice A l.length c] J (fun e w'=>∃B c2,e=.returned (.slice B (jP (l.map tx)).length c2)∧Below J.heap.size J w')):=hid (fun J b=>by
  have k:=inn.xW J A c (l.map tx) (by rw[nY];exact(hA.below hw).below b) (by rw[aH];exact hl)
  rw[aH]at k;refine k.mono ?_;rintro e w' ⟨B,c2,rfl,b1,_⟩
  exact⟨B,c2,rfl,b1⟩)
 have HI:Hid (∀J,Below w.heap.size w J→Calls Tryz.prog 132 #[.slice A l.length c] J (aFs (l.map tx) J)):=hid (fun J b=>by
  have k:=aDs J A c (l.map tx) (by rw[nY];exact(hA.below hw).below b) (by rw[aH];unfold maxLen;omega)
  rw[aH]at k
  exact k)
 have hB:=hid (aKE (l.map tx));have a0:Hid ((l.map tx).length=l.length):=hid (aH _);have R0:=hid (Below.refl w.heap.size w);have R1:Hid (Below w.heap.size w w.drew):=hid (Below.refl w.heap.size w).drew;unfold aFs at HI;clear h1 hA hw l1;obtain⟨V,hV⟩:∃V,Hid (V=gJ (l.map tx)):=⟨_,hid rfl⟩;rw[←hV.out]at hB ⊢;rw[a0.out]at hB;generalize (jP (l.map tx)).length=z at *;generalize a2:Srt (l.map tx)=Sr at *;clear a2 hV a0;generalize l.length=n at *;have c0:=HC.out _ R0.out;have c1:=HC.out _ R1.out
 by_cases hz:z=n
 ·have e1:((z:Int)==(n:Int))=true:=by rw[hz];simp
  have Hz:=hid hz;clear hz;go_enter Tryz.func131,Tryz.ntmps131;go_wp2_with fail
  go_region_with (first
   | (go_at_call 63;refine(HK.out _ R1.out).mono ?_;rintro e J ⟨B,c2,rfl,b2⟩;have Y:=hid (R1.out.trans (b2.mono R1.out.size));clear b2;have y2:=HC.out _ Y.out)
   | (go_at_call 132;refine(HI.out _ Y.out).mono ?_;rintro e w3 ⟨r,rfl,hr,b3⟩;have R3:=hid (Y.out.trans (b3.mono Y.out.size));have hr:=hid hr;clear b3))
  all_goals (go_wp2_with fail;go_ret;exact⟨by rw[aMs Hz.out hB.out hr.out];rfl,R3.out⟩)
 ·have a1:¬(z:Int)=(n:Int):=by omega
  have e1:((z:Int)==(n:Int))=false:=by simpa using a1
  clear a1;have Hz:=hid (aLO hz hB.out);clear hz;go_enter Tryz.func131,Tryz.ntmps131;go_wp2_with fail
  go_region_with (go_at_call 63;refine(HK.out _ R1.out).mono ?_;rintro e J ⟨B,c2,rfl,b2⟩;have Y:=hid (R1.out.trans (b2.mono R1.out.size));clear b2;have y2:=HC.out _ Y.out)
  all_goals (go_wp2_with fail;go_ret;exact⟨by rw[Hz.out];rfl,Y.out⟩)
theorem xY(w:World)(A:Option Addr)(c:Nat)(l:List ByteArray)(hA:Rd w A (l.map Value.string))(hl:l.length≤1000000):Calls Tryz.prog 79 #[.slice A l.length c] w (NP w (.int .i64 (if gJ (l.map tx) then 0 else 13))):=by
 obtain⟨W,J⟩:∃W,Hid (W=w.alloc (.cells #[.slice A l.length c] 22)):=⟨_,hid rfl⟩;have b0:Below w.heap.size w W:=by rw[J.out];exact(Below.refl _ _).alloc (aY _) _
 have B1:bT W w.heap.size 22 #[.slice A l.length c]:=by rw[J.out];exact bT.new w _ _
 have K:=hid (qK W _ _ 13 (aE8 W w.heap.size A c l (B1.cell 0) (hA.below b0) hl));have Y:=hid b0;obtain⟨r,hr⟩:∃r,Hid (r=Value.int .i64 (if gJ (l.map tx) then 0 else 13)):=⟨_,hid rfl⟩
 rw[←hr.out]at K ⊢;clear hr B1 b0 hA hl;generalize l.length=n at *;rw[J.out]at K Y;clear J;go_enter Tryz.func79,Tryz.ntmps79;go_wp2_with fail;refine K.out.mono ?_;rintro e w2 ⟨v,rfl,hv,b2⟩;have hE:Hid (NP w r (.returned v) w2):=hid ⟨v,rfl,hv,Y.out.trans (b2.mono Y.out.size)⟩;clear b2 hv K Y;go_wp2_with fail;go_ret;exact hE.out
end sf
namespace sf
open RowKit Go.Sort mem inn ins
def tO(d:List (List UInt8))(x:List UInt8):List (List UInt8):=if x∈d then d else d++[x]
theorem aIP(d:List (List UInt8))(x y:List UInt8):y∈tO d x↔y∈d∨y=x:=by
 unfold tO;split
 ·rename_i h
  exact⟨Or.inl,fun J=>by rcases J with J | rfl;exact J;exact h⟩
 ·simp
theorem aBi(y:List UInt8):∀(l:List (List UInt8)) (d:List (List UInt8)),y∈l.foldl tO d↔y∈d∨y∈l
 | [],d=>by simp
 | x :: l,d=>by
  rw[List.foldl_cons,aBi y l,aIP,aM,or_assoc]
theorem aHG{w:World}{m:Option Nat}{N:Nat}{xs:List (List UInt8)}(h:fP w m N xs):fP w m (N+1) xs:=by
 rcases h with h | ⟨b,D,e,J,h⟩
 ·exact Or.inl h
 ·exact Or.inr ⟨b,D,e,J.mono (Nat.le_succ _),h⟩
def T2(W:World)(b1 Y n1 n2:Nat)(d e:List (List UInt8))(w:World):Prop:=∃A1 c1 m1 J c2 m2,Tb w b1 A1 c1 m1 n1 d∧Tb w Y J c2 m2 n2 e∧(∀g∈ins.lD b1 A1 m1,W.heap.size≤g∧g<w.heap.size∧g∉ins.lD Y J m2)∧(∀g∈ins.lD Y J m2,W.heap.size≤g∧g<w.heap.size)∧Below W.heap.size W w
theorem T2.swap{W w:World}{b1 b2 n1 Y:Nat}{d e:List (List UInt8)}(h:T2 W b1 b2 n1 Y d e w):T2 W b2 b1 Y n1 e d w:=by
 obtain⟨A1,c1,m1,A2,c2,m2,t1,t2,f1,f2,b⟩:=h;exact⟨A2,c2,m2,A1,c1,m1,t2,t1,fun g J=>⟨(f2 g J).1,(f2 g J).2,fun h1=>(f1 g h1).2.2 J⟩,fun g J=>⟨(f1 g J).1,(f1 g J).2.1⟩,b⟩
theorem T2.below{W w w':World}{b1 b2 n1 Y:Nat}{d e:List (List UInt8)}(h:T2 W b1 b2 n1 Y d e w)(hb:Below w.heap.size w w'):T2 W b1 b2 n1 Y d e w':=by
 obtain⟨A1,c1,m1,A2,c2,m2,t1,t2,f1,f2,b⟩:=h;exact⟨A1,c1,m1,A2,c2,m2,t1.kept (Fr.of_below hb []) (by simp),t2.kept (Fr.of_below hb []) (by simp),fun g J=>⟨(f1 g J).1,Nat.lt_of_lt_of_le (f1 g J).2.1 hb.size,(f1 g J).2.2⟩,fun g J=>⟨(f2 g J).1,Nat.lt_of_lt_of_le (f2 g J).2 hb.size⟩,b.trans (hb.mono b.size)⟩
theorem aGp{W w:World}{b1 b2 n1 n2:Nat}{d e:List (List UInt8)}(h:T2 W b1 b2 n1 n2 d e w)(x:List UInt8)(hx:WF x)(hn:n1<1000000) :
 Calls Tryz.prog 70 #[.pointer (some ⟨b1,0,none⟩),encStr x] w (fun r w'=>(∃v,r=.returned v)∧T2 W b1 b2 (n1+1) n2 (tO d x) e w'):=by
 obtain⟨A1,c1,m1,A2,c2,m2,t1,t2,f1,f2,b⟩:=h;unfold tO
 by_cases Y:x∈d
 ·rw[if_pos Y]
  refine(aK8 w b1 A1 c1 m1 n1 d x t1 hx Y).mono ?_;rintro r w' ⟨rfl,hb⟩;have a2:Tb w b1 A1 c1 m1 (n1+1) d:=⟨t1.box,t1.seg,aHG t1.set,t1.nod,t1.wf,Nat.le_succ_of_le t1.len⟩;exact⟨⟨_,rfl⟩,T2.below ⟨A1,c1,m1,A2,c2,m2,a2,t2,f1,f2,b⟩ hb⟩
 ·rw[if_neg Y]
  refine(aAP w b1 A1 c1 m1 n1 d x t1 hx Y hn).mono ?_;rintro r w' ⟨rfl,f,A',a1,m',t',a0⟩;have k2:Tb w' b2 A2 c2 m2 n2 e:=t2.kept f (fun g J h1=>(f1 g h1).2.2 J)
  have a3:∀g∈ins.lD b1 A' m',g<w'.heap.size:=t'.lt;refine⟨⟨_,rfl⟩,A',a1,m',A2,c2,m2,t',k2,fun g J=>⟨?_,a3 g J,fun h2=>?_⟩,fun g J=>⟨(f2 g J).1,Nat.lt_of_lt_of_le (f2 g J).2 f.size⟩,b.trans (f.below (fun g J=>(f1 g J).1) b.size)⟩
  ·rcases a0 g J with h3 | h3
   ·exact(f1 g h3).1
   ·exact aZ b.size h3
  ·rcases a0 g J with h3 | h3
   ·exact(f1 g h3).2.2 h2
   ·have:=(f2 g h2).2
    omega
theorem aG2{W w:World}{J b2 Y n2:Nat}{d e:List (List UInt8)}(h:T2 W J b2 Y n2 d e w)(x:List UInt8)(hx:WF x) :
 Calls Tryz.prog 72 #[.pointer (some ⟨J,0,none⟩),encStr x] w (fun r w'=>∃i:Int,r=.returned (.tuple #[.int .i64 i,.bool (decide (x∈d))])∧w=w'):=by
 obtain⟨A1,c1,m1,A2,c2,m2,t1,t2,f1,f2,b⟩:=h;refine(aKI w J m1 Y d x _ t1.box t1.set hx).mono ?_;rintro r w' ⟨rfl,rfl⟩;exact⟨_,rfl,rfl⟩
end sf
set_option maxRecDepth 100000
namespace sf
open RowKit Go.Sort mem sy inn ins dg
open re (tx eY MU)
open nm (iE bQ)
theorem aBD(s:ByteArray):encStr (tx s)=.string s:=rfl
theorem aBm(W0 W:World)(Y b2 n1 n2:Nat)(d e:List (List UInt8))(hT:T2 W0 Y b2 n1 n2 d e W)(l:List ByteArray)(hl:∀s∈l,WF (tx s)):F1 W (.func (.func 71) #[] #[.pointer (some ⟨Y,0,none⟩)]) l (fun s=>decide (tx s∈d)):=by
 refine⟨_,_,rfl,(fun args w=>by go_simp),fun w hw s hs=>?_⟩
 have K:=hid (fun w2 (b:Below w.heap.size w w2)=>aG2 ((hT.below hw).below b) (tx s) (hl s hs))
 have hB:=hid (Below.refl w.heap.size w);rw[aBD]at K
 show Calls Tryz.prog 71 #[.string s,.pointer (some ⟨Y,0,none⟩)] w (fun e J=>e=.returned (.bool (decide (tx s∈d)))∧Below w.heap.size w J)
 generalize decide (tx s∈d)=q at *;clear hT hl hw hs;go_enter Tryz.func71,Tryz.ntmps71;go_wp2_with fail;refine(K.out _ hB.out).mono ?_;rintro r w' ⟨i,rfl,rfl⟩;clear K;go_wp2_with fail;go_ret;exact⟨rfl,hB.out⟩
theorem aFW(W0 W:World)(Y b2 n1 n2:Nat)(d e:List (List UInt8))(hT:T2 W0 Y b2 n1 n2 d e W)(l:List ByteArray)(hl:∀s∈l,WF (tx s)):F1 W (.func (.func 73) #[] #[.pointer (some ⟨Y,0,none⟩)]) l (fun s=>!decide (tx s∈d)):=by
 refine⟨_,_,rfl,(fun args w=>by go_simp),fun w hw s hs=>?_⟩
 have K:=hid (fun w2 (b:Below w.heap.size w w2)=>aG2 ((hT.below hw).below b) (tx s) (hl s hs))
 have hB:=hid (Below.refl w.heap.size w);rw[aBD]at K
 show Calls Tryz.prog 73 #[.string s,.pointer (some ⟨Y,0,none⟩)] w (fun e J=>e=.returned (.bool (!decide (tx s∈d)))∧Below w.heap.size w J)
 generalize decide (tx s∈d)=q at *;clear hT hl hw hs;go_enter Tryz.func73,Tryz.ntmps73;go_wp2_with fail;refine(K.out _ hB.out).mono ?_;rintro r w' ⟨i,rfl,rfl⟩;clear K;go_wp2_with fail;go_ret;exact⟨rfl,hB.out⟩
theorem aFK(W:World)(b:Nat)(u:MU)(hb:bT W b 29 u.row)(Y:u.name.size≤maxLen):F0 W (.func (.func 76) #[] #[.pointer (some ⟨b,0,none⟩)]) (.bool (bZ u.name)):=by
 refine⟨_,_,rfl,(fun args w=>by go_simp),fun w hw=>?_⟩
 have J:=hb.kept (Fr.of_below hw []) (by simp)
 have y0:w.cell? ⟨b,0,none⟩=some (.string u.name):=J.cell 0;have K:=hid (fun w2=>dg.lX u.name w2 Y)
 have hR:=hid (Below.refl w.heap.size w);clear hw hb J Y;generalize bZ u.name=q at *;generalize u.name=nm at *;go_enter Tryz.func76,Tryz.ntmps76;go_wp2_with fail;refine(K.out _).mono ?_;rintro r w' ⟨rfl,rfl⟩;clear K;go_wp2_with fail;go_ret;exact⟨rfl,hR.out⟩
theorem aF3(W:World)(b:Nat)(u:MU)(hb:bT W b 29 u.row)(hs:vO W u.s)(J:iE W):F0 W (.func (.func 78) #[] #[.pointer (some ⟨b,0,none⟩)]) (.int .i64 (iW u.s.sys)):=by
 refine⟨_,_,rfl,(fun args w=>by go_simp),fun w hw=>?_⟩
 have Y:=hb.kept (Fr.of_below hw []) (by simp)
 have y4:w.cell? ⟨b,4,none⟩=some (.slice u.s.oA u.s.os.length u.s.oc):=Y.cell 4;have y5:w.cell? ⟨b,5,none⟩=some (.slice u.s.fA u.s.fs.length u.s.fc):=Y.cell 5;have y6:w.cell? ⟨b,6,none⟩=some (.slice u.s.cA u.s.cs.length u.s.cc):=Y.cell 6;have K:=hid (sy.aId u.s w (hs.below hw) (bQ J hw));clear hw hb Y hs J;generalize iW u.s.sys=q at *;unfold MS.val sy.dD at K;generalize u.s.os.length=no at *;generalize u.s.fs.length=nf at *;generalize u.s.cs.length=nc at *;go_enter Tryz.func78,Tryz.ntmps78;go_wp2_with fail;refine K.out.mono ?_;rintro r w' ⟨rfl,b'⟩;have hR:=hid b';clear K b';go_wp2_with fail;go_ret;exact⟨rfl,hR.out⟩
theorem aF8(W:World)(b:Nat)(u:MU)(hb:bT W b 29 u.row):F0 W (.func (.func 81) #[] #[.pointer (some ⟨b,0,none⟩)]) (.bool (decide (u.keeps.length≤6000))):=by
 refine⟨_,_,rfl,(fun args w=>by go_simp),fun w hw=>?_⟩
 have J:=hb.kept (Fr.of_below hw []) (by simp)
 have y3:w.cell? ⟨b,3,none⟩=some (.slice u.kA u.keeps.length u.kc):=J.cell 3;have hR:=hid (Below.refl w.heap.size w);have Y:decide ((u.keeps.length:Int)≤6000)=decide (u.keeps.length≤6000):=by
  by_cases h:u.keeps.length≤6000
  ·rw[aC h,aC (by omega)]
  ·rw[aB h,aB (by omega)]
 rw[←Y];clear hw hb J Y;generalize u.keeps.length=n at *;go_enter Tryz.func81,Tryz.ntmps81;go_wp2_with fail;go_ret;exact⟨rfl,hR.out⟩
theorem aLx(W:World)(J:iE W)(l:List ByteArray)(hl:∀s∈l,s.size≤maxLen):F1 W (.func (.func 82) #[] #[]) l dP:=
 ⟨_,_,rfl,(fun args w=>by go_simp),fun w Y s hs=>(nJ s w (hl s hs) (bQ J Y)).mono (fun _ _ h=>h)⟩
end sf
namespace sf
open RowKit
def aAF(l:Array Bool):Nat→Nat
 | 0=>0
 | n+1=>aAF l n+(if l.getD n true then 0 else 1)
theorem aEZ(l:Array Bool)(i j:Nat)(b:Bool)(h:i<l.size):(l.setIfInBounds i true).getD j b=if j=i then true else l.getD j b:=by
 simp only[Array.getD_eq_getD_getElem?,Array.getElem?_setIfInBounds]
 by_cases e:j=i
 ·subst e
  simp[h]
 ·have J:¬i=j:=fun x=>e x.symm
  rw[if_neg J,if_neg e]
theorem aG9(l:Array Bool)(i:Nat)(h:i<l.size):∀n,aAF (l.setIfInBounds i true) n+(if i<n∧l.getD i true=false then 1 else 0)≤aAF l n
 | 0=>by simp[aAF]
 | n+1=>by
  have ih:=aG9 l i h n;unfold aAF;rw[aEZ l i n true h]
  by_cases e:n=i
  ·subst e
   have h0:aAF (l.setIfInBounds n true) n≤aAF l n:=by omega
   rcases hb:l.getD n true with _ | _
   ·simp
    omega
   ·simp
    omega
  ·rw[if_neg e]
   have e':(if i<n+1∧l.getD i true=false then 1 else 0)=(if i<n∧l.getD i true=false then 1 else 0):=by
    by_cases J:i<n
    ·have Y:i<n+1:=by omega
     simp only[J,Y]
    ·have Y:¬i<n+1:=by omega
     simp only[J,Y]
   rw[e'];omega
theorem iC(l:Array Bool):∀n,aAF l n=0→∀j,j<n→l.getD j true=true
 | 0,_,j,hj=>by omega
 | n+1,h,j,hj=>by
  unfold aAF at h
  by_cases e:j=n
  ·subst e
   by_cases hb:l.getD j true=true
   ·exact hb
   ·rw[if_neg hb]at h;omega
  ·exact iC l n (by omega) j (by omega)
theorem aKl(l:Array Bool):∀n,aAF l n≤n
 | 0=>aY _
 | n+1=>by
  have:=aKl l n;unfold aAF;split <;> omega
theorem yJ{Y:Region.Mode}{ops:Array Oper}{l:Array Bool}{i:Nat}(h:i∈Region.ready Y ops l):i<ops.size∧l.getD i true=false∧∀o,ops[i]? = some o→(o.after.all fun e=>!Region.binds Y e||l.getD e.on false)=true:=by
 unfold Region.ready at h;rw[List.mem_filter,List.mem_range]at h;obtain⟨h1,J⟩:=h;rw[Bool.and_eq_true]at J;refine⟨h1,by simpa using J.1,fun o ho=>?_⟩
 have h3:=J.2;rw[ho]at h3
 simpa using h3
theorem aCa{P:Program}{md:Region.Mode}{ops:Array Oper}{Q:Exit→Act→World→Prop}(Inv:Array Bool→Act→World→Prop)
 (Y:∀(l:Array Bool) (a:Act) (w:World) (i:Nat),Inv l a w→l.size=ops.size→i∈Region.ready md ops l→wpOp P ops Q i (fun a' w'=>Inv (l.setIfInBounds i true) a' w') a w)
 (J:∀(l:Array Bool) (a:Act) (w:World),Inv l a w→l.size=ops.size→Region.ready md ops l=[]→Q .normal a w) :
 ∀(fuel:Nat) (l:Array Bool) (a:Act) (w:World),l.size=ops.size→aAF l ops.size≤fuel→Inv l a w→wpAny P md ops Q fuel l a w
 | 0,l,a,w,hs,hc,hI=>by
  have hz:=iC l ops.size (by omega)
  have hr:Region.ready md ops l=[]:=by
   rw[List.eq_nil_iff_forall_not_mem];intro i hi;obtain⟨h1,h2,_⟩:=yJ hi;rw[hz i h1]at h2;cases h2
  exact⟨hr,J l a w hI hs hr⟩
 | fuel+1,l,a,w,hs,hc,hI=>by
  refine⟨fun hr=>J l a w hI hs hr,fun i hi=>wpOp_mono (fun a' w' h=>?_) (Y l a w i hI hs hi)⟩
  obtain⟨h1,h2,_⟩:=yJ hi;have hcs:=aG9 l i (by omega) ops.size
  rw[if_pos ⟨h1,h2⟩]at hcs;exact aCa Inv Y J fuel _ a' w' (by rw[Array.size_setIfInBounds];exact hs) (by omega) h
theorem aB0{P:Program}{ops:Array Oper}{Q:Exit→Act→World→Prop}{id:Nat}{a:Act}{w:World}(Inv:Array Bool→Act→World→Prop)(hm:P.follows .mixedOrders=true)
 (h0:Inv (Array.replicate ops.size false) a w.drew)
 (J:∀(l:Array Bool) (a:Act) (w:World) (i:Nat),Inv l a w→l.size=ops.size→i∈Region.ready .any ops l→wpOp P ops Q i (fun a' w'=>Inv (l.setIfInBounds i true) a' w') a w)
 (Y:∀(l:Array Bool) (a:Act) (w:World),Inv l a w→l.size=ops.size→Region.ready .any ops l=[]→Q .normal a w):(Code.region id ops true).wp P Q a w:=
 wp_region_any hm (aCa Inv J Y ops.size _ a _ (by simp) (aKl _ _) h0)
end sf
namespace sf
open RowKit
def waits(ops:Array Oper)(i k:Nat):Bool:=((ops[i]?).map fun o=>o.after.any fun e=>Region.binds .any e&&(e.on==k)).getD false
def down(ops:Array Oper):Bool:=(List.range ops.size).all fun i=>((ops[i]?).map fun o=>o.after.all fun e=>!Region.binds .any e||decide (e.on<i)).getD false
theorem aFx{ops:Array Oper}(hd:down ops=true){l:Array Bool}(hs:l.size=ops.size)(hr:Region.ready .any ops l=[]):∀n i,i<n→i<ops.size→l.getD i false=true:=by
 intro n
 induction n with
 | zero=>intro i h;omega
 | succ n ih=>
  intro i hi J
  by_cases h:l.getD i false=true
  ·exact h
  exfalso
  have hf:l.getD i true=false:=by
   rw[Array.getD_eq_getD_getElem?,Array.getElem?_eq_getElem (by omega)]at h ⊢
   simpa using h
  have:i∈Region.ready .any ops l:=by
   unfold Region.ready;rw[List.mem_filter,List.mem_range];refine⟨J,?_⟩;rw[hf,Array.getElem?_eq_getElem J];simp only[Bool.not_false,Option.map_some,Option.getD_some,Bool.true_and];have h1:=List.all_eq_true.1 hd i (List.mem_range.2 J);rw[Array.getElem?_eq_getElem J]at h1;simp only[Option.map_some,Option.getD_some]at h1;rw[Array.all_eq_true]at h1 ⊢;intro k hk;have Y:=h1 k hk;rw[Bool.or_eq_true]at Y ⊢
   rcases Y with Y | Y
   ·exact Or.inl Y
   ·have h3:=of_decide_eq_true Y
    exact Or.inr (ih _ (by omega) (by omega))
  rw[hr]at this;cases this
def iJ(ops:Array Oper)(i:Nat):Nat:=((ops[i]?).bind (·.dst)).getD 0
def own(ops:Array Oper)(n:Nat):Bool:=(List.range ops.size).all fun i=>((ops[i]?).map fun o=>(o.dst==some (iJ ops i))&&decide (iJ ops i<n)&&o.guard.isNone).getD false&&(List.range i).all fun j=>iJ ops j != iJ ops i
def aDq(ops:Array Oper)(s:Nat):Bool:=(List.range ops.size).any fun i=>iJ ops i==s
def aFO(ops:Array Oper)(i s:Nat):Bool:=(List.range ops.size).any fun k=>waits ops i k&&(iJ ops k==s)
structure aKo(ops:Array Oper)(a0 a:Act):Prop where
 d:a.defers=a0.defers
 n:a.tmps.size=a0.tmps.size
 e:∀s,aDq ops s=false→a.eval (.tmp s)=a0.eval (.tmp s)
theorem aBG{ops:Array Oper}{n:Nat}(h:own ops n=true){i:Nat}(hi:i<ops.size):(∀o,ops[i]? = some o→o.dst=some (iJ ops i)∧o.guard=none)∧iJ ops i<n∧∀j,j<i→iJ ops j≠iJ ops i:=by
 have J:=List.all_eq_true.1 h i (List.mem_range.2 hi);rw[Bool.and_eq_true]at J;rw[Array.getElem?_eq_getElem hi]at J;simp only[Option.map_some,Option.getD_some,Bool.and_eq_true]at J;obtain⟨⟨⟨h2,h3⟩,h4⟩,h5⟩:=J;refine⟨fun o Y=>?_,of_decide_eq_true h3,fun j hj=>?_⟩
 ·rw[Array.getElem?_eq_getElem hi]at Y
  cases Y;exact⟨by simpa using h2,by simpa using h4⟩
 ·have:=List.all_eq_true.1 h5 j (List.mem_range.2 hj)
  simpa using this
theorem aNR{ops:Array Oper}{n:Nat}(h:own ops n=true){i j:Nat}(hi:i<ops.size)(hj:j<ops.size)(J:j≠i):iJ ops j≠iJ ops i:=by
 rcases Nat.lt_or_gt_of_ne J with Y | Y
 ·exact(aBG h hi).2.2 j Y
 ·exact fun e=>(aBG h hj).2.2 i Y e.symm
theorem eval_put(a:Act)(d s:Nat)(v:Value)(hd:d<a.tmps.size):(a.put (some d) v).eval (.tmp s)=if s=d then v else a.eval (.tmp s):=by
 show(a.tmps.setIfInBounds d v).getD s undef=if s=d then v else a.tmps.getD s undef
 simp only[Array.getD_eq_getD_getElem?,Array.getElem?_setIfInBounds]
 by_cases e:s=d
 ·subst e
  simp[hd]
 ·rw[if_neg e,if_neg (fun x=>e x.symm)]
theorem aIs{P:Program}{ops:Array Oper}{Q:Exit→Act→World→Prop}{id:Nat}{a0:Act}{W:World}(R:Nat→Value→World→Prop)(hm:P.follows .mixedOrders=true)(hd:down ops=true)(ho:own ops a0.tmps.size=true)
 (hR:∀s v w w',R s v w→Below w.heap.size w w'→R s v w')
 (a4:∀i,i<ops.size→∀a w,aKo ops a0 a→Below W.heap.size W w→(∀s,aFO ops i s=true→R s (a.eval (.tmp s)) w)→wpOp P ops Q i (fun a' w'=>∃v,a'=a.put (some (iJ ops i)) v∧R (iJ ops i) v w'∧Below w.heap.size w w') a w)
 (a1:∀a w,aKo ops a0 a→Below W.heap.size W w→(∀s,aDq ops s=true→R s (a.eval (.tmp s)) w)→Q .normal a w):(Code.region id ops true).wp P Q a0 W:=by
 refine aB0 (fun l a w=>aKo ops a0 a∧Below W.heap.size W w∧∀j,j<ops.size→l.getD j false=true→R (iJ ops j) (a.eval (.tmp (iJ ops j))) w) hm ⟨⟨rfl,rfl,fun _ _=>rfl⟩,(Below.refl _ _).drew,fun j _ h=>?_⟩ ?_ ?_
 ·rw[Array.getD_eq_getD_getElem?,Array.getElem?_replicate]at h
  split at h <;> simp at h
 ·rintro l a w i ⟨Y,b,hI⟩ hs hi
  obtain⟨h1,h2,h3⟩:=yJ hi;have a5:=aBG ho h1;refine wpOp_mono ?_ (a4 i h1 a w Y b ?_)
  ·rintro a' w' ⟨v,rfl,hv,b'⟩
   have a2:iJ ops i<a.tmps.size:=by rw[Y.n];exact a5.2.1
   refine⟨⟨Y.d,?_,fun s h=>?_⟩,b.trans (b'.mono b.size),fun j hj hl=>?_⟩
   ·rw[←Y.n]
    exact Array.size_setIfInBounds ..
   ·rw[eval_put _ _ _ _ a2,if_neg,Y.e s h]
    rintro rfl;have:aDq ops (iJ ops i)=true:=List.any_eq_true.2 ⟨i,List.mem_range.2 h1,by simp⟩
    rw[h]at this;cases this
   ·rw[eval_put _ _ _ _ a2]
    by_cases e:j=i
    ·subst e
     rw[if_pos rfl];exact hv
    ·rw[if_neg (aNR ho h1 hj e)]
     rw[aEZ l i j false (by omega),if_neg e]at hl
     exact hR _ _ _ _ (hI j hj hl) b'
  ·intro s hk
   unfold aFO at hk;rw[List.any_eq_true]at hk;obtain⟨k,a3,J⟩:=hk;rw[Bool.and_eq_true,beq_iff_eq]at J;obtain⟨J,rfl⟩:=J;unfold waits at J;rw[Array.getElem?_eq_getElem h1]at J;simp only[Option.map_some,Option.getD_some]at J;rw[Array.any_eq_true]at J;obtain⟨n,hn,J⟩:=J;rw[Bool.and_eq_true,beq_iff_eq]at J;have h4:=h3 _ (Array.getElem?_eq_getElem h1);rw[Array.all_eq_true]at h4;have h5:=h4 n hn;rw[J.1,J.2]at h5;exact hI k (List.mem_range.1 a3) (by simpa using h5)
 ·rintro l a w ⟨Y,b,hI⟩ hs hr
  refine a1 a w Y b (fun s h=>?_)
  obtain⟨j,hj,h⟩:=List.any_eq_true.1 h;obtain rfl:=beq_iff_eq.1 h;exact hI j (List.mem_range.1 hj) (aFx hd hs hr _ j (Nat.lt_succ_self _) (List.mem_range.1 hj))
theorem aBb{P:Program}{ops:Array Oper}{Q:Exit→Act→World→Prop}{i:Nat}{K:Act→World→Prop}{a:Act}{w w':World}{o:Oper}{d:Nat}(v:Value)(Y:ops[i]? = some o)(J:o.guard=none)(hd:o.dst=some d)(hx:(execOp a.eval o).run P w=.ok (.value v) w')(hK:K (a.put (some d) v) w'):wpOp P ops Q i K a w:=by
 unfold wpOp;rw[Y];have hw:Region.wanted o (yielded ops a.tmps)=true:=by simp[Region.wanted,J]
 simp only[hw,if_true];refine Or.inl ?_;unfold Oper.wp;rw[hx,Oper.upon_value,hd];exact hK
theorem aCp{P:Program}{ops:Array Oper}{Q:Exit→Act→World→Prop}{i:Nat}{K:Act→World→Prop}{a:Act}{w:World}{o:Oper}{d:Nat}{x:Operand}{xs:Array Operand}{ts:Array TypeId}{f:FuncId}{cap vs:Array Value}(Y:ops[i]? = some o)(hg:o.guard=none)(hd:o.dst=some d)(hc:o.op=.call { callee:=.value x,args:=xs,argTypes:=ts })(hx:a.eval x=.func (.func f) #[] cap)(J:∀args w,(callFunc f args).run P w=.ok (.enter f args) w)(hv:xs.map a.eval=vs)
 (h:Calls P f (vs++cap) w (fun e w'=>∃v,e=.returned v∧K (a.put (some d) v) w')):wpOp P ops Q i K a w:=by
 unfold wpOp;rw[Y];have hw:Region.wanted o (yielded ops a.tmps)=true:=by simp[Region.wanted,hg]
 simp only[hw,if_true];refine Or.inl ?_;subst hv;unfold Oper.wp execOp;simp only[hc,resolve,hx,Deferred.ofValue,Sem.run_bind,Sem.run_pure,Result.andThen_ok,invoke,J,Array.empty_append];refine Calls.mono h ?_;rintro e w' ⟨v,rfl,hk⟩;rw[hd];exact hk
end sf
namespace sf
open RowKit mem sy
def aJ7(p:Value→World→Prop):Prop:=∀v w w',p v w→Below w.heap.size w w'→p v w'
def sEq(x:Value):Value→World→Prop:=fun v _=>v=x
def sF(r:Value):Value→World→Prop:=fun v w=>F0 w v r
def sL(es:List Int):Value→World→Prop:=fun v w=>∃B c,∃vs:List Value,v=.slice (some ⟨B,0,none⟩) vs.length c∧es.length=vs.length∧vs.length≤1000∧(∀k (J:k<vs.length),w.cell? ⟨B,0+k,none⟩=some vs[k])∧∀k (J:k<vs.length) (Y:k<es.length),F0 w vs[k] (.int .i64 es[k])
theorem aJJ(x:Value):aJ7 (sEq x):=fun v w w' h _=>h
theorem aLu(r:Value):aJ7 (sF r):=fun v w w' h b=>F0.below h b
theorem aLK(es:List Int):aJ7 (sL es):=by
 rintro v w w' ⟨B,c,vs,e,hn,hl,hc,hf⟩ b;exact⟨B,c,vs,e,hn,hl,fun k J=>(b.cell (block_lt_of_cell (hc k J))).trans (hc k J),fun k J Y=>(hf k J Y).below b⟩
def RC(J:List (Nat×(Value→World→Prop)))(s:Nat)(v:Value)(w:World):Prop:=((J.lookup s).getD (fun _ _=>True)) v w
theorem aHl{J:List (Nat×(Value→World→Prop))}{s:Nat}{p:Value→World→Prop}(h:J.lookup s=some p)(v:Value)(w:World):RC J s v w=p v w:=by
 unfold RC;rw[h];rfl
theorem aLM{J:List (Nat×(Value→World→Prop))}(h:∀x∈J,aJ7 x.2)(s:Nat)(v:Value)(w w':World)(hr:RC J s v w)(b:Below w.heap.size w w'):RC J s v w':=by
 induction J with
 | nil=>trivial
 | cons x J ih=>
  obtain⟨k,p⟩:=x;unfold RC at hr ⊢;rw[List.lookup_cons]at hr ⊢;cases Y:(s==k)with
  | true=>
   rw[Y]at hr;exact h _ (List.mem_cons_self ..) v w w' hr b
  | false=>
   rw[Y]at hr;exact ih (fun x hx=>h x (bG _ hx)) hr
def aJz(Y:List (Nat×(Value→World→Prop)))(s:Nat)(a:Act)(w:World)(J:Act)(w':World):Prop:=∃v,J=a.put (some s) v∧RC Y s v w'∧Below w.heap.size w w'
section
variable {ops:Array Oper} {Q:Exit→Act→World→Prop} {i:Nat} {a:Act} {w:World} {o:Oper} {s:Nat} {tb:List (Nat×(Value→World→Prop))}
theorem mF(v:Value)(Y:ops[i]? = some o)(J:o.guard=none)(hd:o.dst=some s)(ht:tb.lookup s=some (sEq v))(hx:(execOp a.eval o).run Tryz.prog w=.ok (.value v) w):wpOp Tryz.prog ops Q i (aJz tb s a w) a w:=
 aBb v Y J hd hx ⟨v,rfl,by rw[aHl ht];exact rfl,Below.refl _ _⟩
theorem aKD(v r:Value)(J:ops[i]? = some o)(Y:o.guard=none)(hd:o.dst=some s)(ht:tb.lookup s=some (sF r))(hx:(execOp a.eval o).run Tryz.prog w=.ok (.value v) w)(hF:F0 w v r):wpOp Tryz.prog ops Q i (aJz tb s a w) a w:=
 aBb v J Y hd hx ⟨v,rfl,by rw[aHl ht];exact hF,Below.refl _ _⟩
theorem sI{x:Operand}{xs:Array Operand}{ts:Array TypeId}{f:FuncId}{vs:Array Value}{r:Value}(Y:ops[i]? = some o)(hg:o.guard=none)(hd:o.dst=some s)(hc:o.op=.call { callee:=.value x,args:=xs,argTypes:=ts })(hx:a.eval x=.func (.func f) #[] #[])(J:En f)(hv:xs.map a.eval=vs)(ht:tb.lookup s=some (sF r))(h:Calls Tryz.prog f vs w (NP w r)):wpOp Tryz.prog ops Q i (aJz tb s a w) a w:=
 aCp Y hg hd hc hx J hv (by
  rw[Array.append_empty];refine h.mono ?_;rintro e w' ⟨v,rfl,hv,b⟩
  exact⟨v,rfl,v,rfl,by rw[aHl ht];exact hv,b⟩)
theorem aOs{x:Operand}{xs:Array Operand}{ts:Array TypeId}{f:FuncId}{vs:Array Value}{n:Int}(Y:ops[i]? = some o)(hg:o.guard=none)(hd:o.dst=some s)(hc:o.op=.call { callee:=.value x,args:=xs,argTypes:=ts })(hx:a.eval x=.func (.func f) #[] #[])(J:En f)(hv:xs.map a.eval=vs)(ht:tb.lookup s=some (sEq (.int .i64 n)))(h:Calls Tryz.prog f vs w (dD n w)):wpOp Tryz.prog ops Q i (aJz tb s a w) a w:=
 aCp Y hg hd hc hx J hv (by
  rw[Array.append_empty];refine h.mono ?_;rintro e w' ⟨rfl,b⟩
  exact⟨_,rfl,_,rfl,by rw[aHl ht];exact rfl,b⟩)
end
section
variable {P:Program} {ρ:Operand→Value} {o:Oper} {w:World} {x:Operand} {v p:Value} {t:TypeId}
theorem aOj{f:FuncId}(h:o.op=.makeFunc (.func f) #[] #[x])(J:ρ x=v):(execOp ρ o).run P w=.ok (.value (.func (.func f) #[] #[v])) w:=by
 subst J;unfold execOp;simp only[h,Instr.makeFunc,Sem.run_bind,Sem.run_pure,Result.andThen_ok,List.map_toArray,aV,aU]
theorem aN2(h:o.op=.move x)(J:ρ x=v):(execOp ρ o).run P w=.ok (.value v) w:=by
 subst J;unfold execOp;rw[h];rfl
theorem aO0(h:o.op=.assign x)(J:ρ x=v):(execOp ρ o).run P w=.ok (.value v) w:=by
 subst J;unfold execOp;rw[h];rfl
theorem aBN{k:Nat}(h:o.op=.fieldAddr t x k)(J:ρ x=p)(hr:(Instr.fieldAt t p k).run P w=.ok v w):(execOp ρ o).run P w=.ok (.value v) w:=by
 subst J;unfold execOp;simp only[h,Sem.run_bind,hr,Result.andThen_ok,Sem.run_pure]
theorem aFB(h:o.op=.load t x)(J:ρ x=p)(hr:(Instr.loadAt t p).run P w=.ok v w):(execOp ρ o).run P w=.ok (.value v) w:=by
 subst J;unfold execOp;simp only[h,Sem.run_bind,hr,Result.andThen_ok,Sem.run_pure]
theorem aO1{n:Nat}{parts:Array (Nat×Operand)}{ps:Array (Nat×Value)}{w':World}(h:o.op=.buildSlice t n parts)(J:(parts.map fun(i,x)=>(i,ρ x))=ps)(hr:(Instr.buildSlice t n ps).run P w=.ok v w'):(execOp ρ o).run P w=.ok (.value v) w':=by
 subst J;unfold execOp;simp only[h,Sem.run_bind,hr,Result.andThen_ok,Sem.run_pure]
end
def aKg(p:Nat→Prop):List Nat→Prop
 | []=>True
 | i :: r=>p i∧aKg p r
theorem aCQ{p:Nat→Prop}:∀{l:List Nat},aKg p l→∀i∈l,p i
 | [],_,i,h=>by cases h
 | j :: r,h,i,hi=>by
  rcases aM.1 hi with rfl | hi
  ·exact h.1
  ·exact aCQ h.2 i hi
theorem aH5{ops:Array Oper}{Q:Exit→Act→World→Prop}{id:Nat}{a0:Act}{W:World}(J:List (Nat×(Value→World→Prop)))(l:List Nat)(hl:List.range ops.size=l)(a1:∀x∈J,aJ7 x.2)(hm:Tryz.prog.follows .mixedOrders=true)(hd:down ops=true)(ho:own ops a0.tmps.size=true)
 (a2:aKg (fun i=>∀a w,aKo ops a0 a→Below W.heap.size W w→(∀s,aFO ops i s=true→RC J s (a.eval (.tmp s)) w)→wpOp Tryz.prog ops Q i (aJz J (iJ ops i) a w) a w) l)
 (Y:∀a w,aKo ops a0 a→Below W.heap.size W w→(∀s,aDq ops s=true→RC J s (a.eval (.tmp s)) w)→Q .normal a w):(Code.region id ops true).wp Tryz.prog Q a0 W:=
 aIs (RC J) hm hd ho (fun s v w w'=>aLM a1 s v w w') (fun i hi a w hL b hw=>aCQ a2 i (by rw[←hl];exact List.mem_range.2 hi) a w hL b hw) Y
end sf
set_option maxRecDepth 100000
namespace sf
open RowKit Go.Sort mem sy dg
open re (tx eY MU SU)
open nm (iE bQ)
def aFJ(u:SU):List (List UInt8):=u.sys.objs.map (fun o=>tx o.name)++u.sys.fns.map (fun f=>tx f.name)
def inD(u:SU)(s:ByteArray):Bool:=decide (tx s∈aFJ u)
def inW(u:SU)(s:ByteArray):Bool:=decide (tx s∈u.wants.map tx)
def iY(b:Bool)(c:Int):Int:=if b then 0 else c
noncomputable def tK(u:SU):List Int:=[iY (bZ u.name) 11,iW u.sys,iY (gJ (u.gives.map tx)) 13,iY (u.gives.all (inD u)) 7,iY (gJ (u.wants.map tx)) 13,iY (u.wants.all (inD u)) 7,iY (u.gives.all (fun s=>!inW u s)) 8,iY (decide (u.keeps.length≤6000)) 4,iY (gJ (u.keeps.map tx)) 13,iY (u.keeps.all dP) 11]
structure aIc(w:World)(u:MU):Prop where
 m:eY w u
 n:u.name.size≤maxLen
 gl:u.gives.length≤1000000
 wl:u.wants.length≤900000
 kl:u.keeps.length≤1000000
 ol:u.s.os.length+u.s.fs.length≤900000
 gs:∀s∈u.gives,s.size≤maxLen
 ws:∀s∈u.wants,s.size≤maxLen
 ks:∀s∈u.keeps,s.size≤maxLen
theorem aIc.below{w w':World}{u:MU}(h:aIc w u)(hb:Below w.heap.size w w'):aIc w' u:=⟨h.m.below hb,h.n,h.gl,h.wl,h.kl,h.ol,h.gs,h.ws,h.ks⟩
theorem aCk{s:ByteArray}(h:s.size≤maxLen):ins.WF (tx s):=h
theorem aBj{α β:Type}(f:β→α→β)(l:List α)(b:β){k:Nat}(J:k<l.length):(l.take (k+1)).foldl f b=f ((l.take k).foldl f b) l[k]:=by
 rw[bC J,List.foldl_append];rfl
theorem aNa(J:World):T2 J J.heap.size (J.heap.size+1) 0 0 [] [] ((J.alloc (.cells #[.map none,.slice none 0 0] 112)).alloc (.cells #[.map none,.slice none 0 0] 112)):=by
 have hz:(J.alloc (.cells #[.map none,.slice none 0 0] 112)).heap.size=J.heap.size+1:=bH _;have t1:=(ins.aKO J).kept ((Fr.refl [] _).alloc (.cells #[.map none,.slice none 0 0] 112)) (by simp)
 have t2:=ins.aKO (J.alloc (.cells #[.map none,.slice none 0 0] 112));rw[hz]at t2;have hs:((J.alloc (.cells #[.map none,.slice none 0 0] 112)).alloc (.cells #[.map none,.slice none 0 0] 112)).heap.size=J.heap.size+2:=by
  show(Array.push _ _).size=_
  rw[bH,hz]
 refine⟨none,0,none,none,0,none,t1,t2,fun g Y=>?_,fun g Y=>?_,(((Fr.refl [] J).alloc _).alloc _).all⟩
 ·have:g=J.heap.size:=by simpa[ins.lD,blk] using Y
  subst this;refine⟨aY _,by omega,fun h=>?_⟩
  have:J.heap.size=J.heap.size+1:=by simpa[ins.lD,blk] using h
  omega
 ·have:g=J.heap.size+1:=by simpa[ins.lD,blk] using Y
  subst this;exact⟨by omega,by omega⟩
theorem T2.be{W w:World}{Y b2 J n2:Nat}{d e:List (List UInt8)}(h:T2 W Y b2 J n2 d e w):Below W.heap.size W w:=by
 obtain⟨_,_,_,_,_,_,_,_,_,_,b⟩:=h;exact b
theorem aBQ(w:World)(u:MU)(hu:aIc w u)(ba:iE w):Calls Tryz.prog 26 #[u.val] w (dD (eQ (tK u.su)) w):=by
 obtain⟨W1,a7⟩:∃W1,Hid (W1=w.alloc (.cells u.row 29)):=⟨_,hid rfl⟩;have hz:(w.alloc (.cells u.row 29)).heap.size=w.heap.size+1:=bH _;have bW:Below w.heap.size w W1:=by rw[a7.out];exact(Below.refl _ _).alloc (aY _) _
 have B0:bT W1 w.heap.size 29 u.row:=by rw[a7.out];exact bT.new w _ _
 have e5:Hid (W1.heap.size=w.heap.size+1):=hid (by rw[a7.out];exact hz)
 have bw:=aNa W1;rw[e5.out]at bw;have T0:=hid bw;clear bw;have HB:=hid (fun J (b:Below W1.heap.size W1 J)=>B0.kept (Fr.of_below b []) (by simp))
 have HU:=hid (fun J (b:Below W1.heap.size W1 J)=>(hu.below bW).below b)
 have HT:=hid (fun J (b:Below W1.heap.size W1 J)=>bQ (bQ ba bW) b)
 have HP:=hid (fun(J:World) (b:Below W1.heap.size W1 J)=>bW.trans (b.mono bW.size))
 have HD:Hid (∀s,inD u.su s=decide (tx s∈((u.s.os.map (fun o=>tx o.o.name))++u.s.fs.map (fun f=>tx f.name)).foldl tO [])):=hid (fun s=>by
  unfold inD aFJ MU.su MS.sys;rw[decide_eq_decide,aBi]
  simp[List.map_map])
 have b2:Hid (∀s,inW u.su s=decide (tx s∈(u.wants.map tx).foldl tO [])):=hid (fun s=>by
  unfold inW MU.su;rw[decide_eq_decide,aBi]
  simp)
 obtain⟨V,hV⟩:∃V,Hid (V=eQ (tK u.su)):=⟨_,hid rfl⟩;obtain⟨ON,aj⟩:∃ON,Hid (ON=u.s.os.map (fun o=>tx o.o.name)):=⟨_,hid rfl⟩
 obtain⟨FN,a8⟩:∃FN,Hid (FN=u.s.fs.map (fun f=>tx f.name)):=⟨_,hid rfl⟩
 obtain⟨WN,ar⟩:∃WN,Hid (WN=u.wants.map tx):=⟨_,hid rfl⟩;rw[←aj.out,←a8.out]at HD;rw[←ar.out]at b2;rw[←hV.out];have bm:=hu.ol;have cp:=hu.wl;clear hu ba bW B0;obtain⟨nm,gA,gc,gs,wA,wc,ws,kA,kc,ks,⟨oA,oc,os,fA,fc,fs,cA,cc,cs⟩⟩:=u;dsimp only at bm cp aj a8 ar;have y4:=fun J b=>(HB.out J b).cell 4
 have y5:=fun J b=>(HB.out J b).cell 5
 have y2:=fun J b=>(HB.out J b).cell 2
 unfold MU.val MU.row at *;dsimp only at *;simp only[aL,aJ,aK]at y4 y5 y2;have Y4:=hid y4;have Y5:=hid y5;have Y2:=hid y2;clear y4 y5 y2;have ck:(W1.alloc (.cells #[.map none,.slice none 0 0] 112)).heap.size=W1.heap.size+1:=bH _;go_enter Tryz.func26,Tryz.ntmps26;go_upto_region 2 with fail;rw[←a7.out]
 try rw[ck]
 generalize (W1.alloc (.cells #[.map none,.slice none 0 0] 112)).alloc (.cells #[.map none,.slice none 0 0] 112)=W3 at *;clear ck hz a7;have z4:=Y4.out W3 T0.out.be;have a5:Hid (ON.length=os.length):=hid (by rw[aj.out,aH])
 have ah:Hid (FN.length=fs.length):=hid (by rw[a8.out,aH])
 have a6:Hid (WN.length=ws.length):=hid (by rw[ar.out,aH])
 have c7:Hid (T2 W1 (w.heap.size+1) (w.heap.size+1+1) 0 0 ((ON.take 0).foldl tO []) [] W3):=T0;obtain⟨no,b4⟩:∃no,Hid (no=os.length):=⟨_,hid rfl⟩;obtain⟨nf,bi⟩:∃nf,Hid (nf=fs.length):=⟨_,hid rfl⟩;obtain⟨nw,bv⟩:∃nw,Hid (nw=ws.length):=⟨_,hid rfl⟩;rw[←b4.out]at z4 Y4 bm;rw[←bi.out]at Y5 bm;rw[←bv.out]at Y2 cp
 try rw[←b4.out]
 clear T0;go_wp2_with fail
 go_loopw [17] (fun i wr=>∃k:Nat,k≤no∧i=.int .i64 k∧Hid (T2 W1 (w.heap.size+1) (w.heap.size+1+1) k 0 ((ON.take k).foldl tO []) [] wr)) (fun i _=>no-(intOf i).toNat)
 case atStart=>exact⟨0,by omega,rfl,c7⟩
 case round=>
  obtain⟨k,hk,rfl,az⟩:=hrel
  rename World=>wr
  clear c7
  by_cases dp:k<no
  ·have e1:decide ((k:Int)<(no:Int))=true:=aC (by omega)
   have bj:k<os.length:=by rw[←b4.out];exact dp
   have df:k<ON.length:=by rw[a5.out];exact bj
   have hU:=HU.out wr az.out.be;obtain⟨g,off,rfl,hg,c0,c1,c2⟩:=iK hU.m.sr.o bj;have hx:ins.WF (tx os[k].o.name):=aCk (hU.m.sr.ok os[k] (aR bj)).n;have a0:=hid (aBj tO ON [] df);have a1:Hid (ON[k] = tx os[k].o.name):=hid (by simp[aj.out])
   rw[a1.out]at a0;have af:=az.out.below (w':=wr.alloc (.cells #[.string os[k].o.name,.string os[k].o.kinds,.slice os[k].mA os[k].o.marks.length os[k].mc] 99)) ((Fr.refl [] wr).alloc _).all;have KP:=hid (aGp af (tx os[k].o.name) hx (by omega))
   rw[aBD,←a0.out]at KP;clear af a1 a0 hx hU hg;generalize os[k] = x at *;obtain⟨⟨xn,xk,xm⟩,xA,xc⟩:=x;dsimp only at c0 c1 c2 KP;generalize xm.length=xl at *;go_wp2_with fail;refine KP.out.mono ?_;rintro e J ⟨⟨v,rfl⟩,ht⟩;have ax:=hid ht;clear ht KP az c0 c1 c2;go_wp2_with fail
   go_roundw
   case rel=>exact⟨k+1,by omega,by go_num,ax⟩
   case measure=>simp[intOf];omega
  ·obtain rfl:k=no:=by omega
   have e1:decide ((k:Int)<(k:Int))=false:=aB (by omega)
   have b5:Hid (T2 W1 (w.heap.size+1) (w.heap.size+1+1) k 0 ((ON++FN.take 0).foldl tO []) [] wr):=hid (by
    have h:=az.out;rw[bE (by rw[a5.out,←b4.out];exact aY _)]at h
    rw[List.take_zero,List.append_nil]
    exact h)
   have z5:=Y5.out wr b5.out.be;clear az;go_wp2_with fail;obtain⟨kO,cg⟩:∃kO,Hid (kO=k):=⟨_,hid rfl⟩;rw[←cg.out]at b5
   go_loopw [29] (fun i wr=>∃j:Nat,j≤nf∧i=.int .i64 j∧Hid (T2 W1 (w.heap.size+1) (w.heap.size+1+1) (kO+j) 0 ((ON++FN.take j).foldl tO []) [] wr)) (fun i _=>nf-(intOf i).toNat)
   case atStart=>exact⟨0,by omega,rfl,b5⟩
   case round=>
    obtain⟨j,hj,rfl,aa⟩:=hrel;clear b5 z4 z5
    rename World=>wr2
    by_cases du:j<nf
    ·have e1:decide ((j:Int)<(nf:Int))=true:=aC (by omega)
     have bu:j<fs.length:=by rw[←bi.out];exact du
     have dq:j<FN.length:=by rw[ah.out];exact bu
     have hU:=HU.out wr2 aa.out.be;obtain⟨g,off,rfl,hg,c0,c1,c2⟩:=lS hU.m.sr.f bu;have hx:ins.WF (tx fs[j].name):=aCk (hU.m.sr.fk fs[j] (aR bu)).n
     have a0:Hid ((ON++FN.take (j+1)).foldl tO [] = tO ((ON++FN.take j).foldl tO []) FN[j]):=hid (by
      rw[bC dq,←aS,List.foldl_append]
      rfl)
     have a1:Hid (FN[j] = tx fs[j].name):=hid (by simp[a8.out])
     rw[a1.out]at a0;have af:=aa.out.below (w':=wr2.alloc (.cells #[.string fs[j].name,.string fs[j].kinds,.string fs[j].ret] 103)) ((Fr.refl [] wr2).alloc _).all;have KP:=hid (aGp af (tx fs[j].name) hx (by have:=cg.out;omega))
     rw[aBD,←a0.out]at KP;clear af a1 a0 hx hU hg;generalize fs[j] = x at *;obtain⟨xn,xk,xr⟩:=x;dsimp only at c0 c1 c2 KP;go_wp2_with fail;refine KP.out.mono ?_;rintro e J ⟨⟨v,rfl⟩,ht⟩;have ax:=hid ht;clear ht KP aa c0 c1 c2;go_wp2_with fail
     go_roundw
     case rel=>exact⟨j+1,by omega,by go_num,ax⟩
     case measure=>simp[intOf];omega
    ·obtain rfl:j=nf:=by omega
     have e1:decide ((j:Int)<(j:Int))=false:=aB (by omega)
     obtain⟨D,hD⟩:∃D,Hid (D=(ON++FN).foldl tO []):=⟨_,hid rfl⟩;rw[←hD.out]at HD
     have b3:Hid (T2 W1 (w.heap.size+1+1) (w.heap.size+1) 0 (kO+j) ((WN.take 0).foldl tO []) D wr2):=hid (by
      have h:=aa.out;rw[bE (by rw[ah.out,←bi.out];exact aY _),←hD.out]at h
      exact h.swap)
     have z2:=Y2.out wr2 b3.out.be;clear aa;go_wp2_with fail;obtain⟨nD,e6⟩:∃nD,Hid (nD=kO+j):=⟨_,hid rfl⟩;rw[←e6.out]at b3
     go_loopw [40] (fun i wr=>∃q:Nat,q≤nw∧i=.int .i64 q∧Hid (T2 W1 (w.heap.size+1+1) (w.heap.size+1) q nD ((WN.take q).foldl tO []) D wr)) (fun i _=>nw-(intOf i).toNat)
     case atStart=>exact⟨0,by omega,rfl,b3⟩
     case round=>
      obtain⟨q,hq,rfl,ay⟩:=hrel;clear b3 z2
      rename World=>wr3
      by_cases dz:q<nw
      ·have e1:decide ((q:Int)<(nw:Int))=true:=aC (by omega)
       have b6:q<ws.length:=by rw[←bv.out];exact dz
       have dd:q<WN.length:=by rw[a6.out];exact b6
       have hU:=HU.out wr3 ay.out.be;obtain⟨g,off,rfl,dj,hc⟩:=hU.m.wr (by rw[aH];exact Nat.lt_of_le_of_lt (bA _) b6)
       have c0:=hc q (by rw[aH];exact b6)
       rw[List.getElem_map]at c0;have hx:ins.WF (tx ws[q]):=aCk (hU.ws ws[q] (aR b6));have a0:=hid (aBj tO WN [] dd);have a1:Hid (WN[q] = tx ws[q]):=hid (by simp[ar.out])
       rw[a1.out]at a0;have KP:=hid (aGp ay.out (tx ws[q]) hx (by omega))
       rw[aBD,←a0.out]at KP;clear a1 a0 hx hU dj hc;generalize ws[q] = x at *;go_wp2_with fail;refine KP.out.mono ?_;rintro e J ⟨⟨v,rfl⟩,ht⟩;have ax:=hid ht;clear ht KP ay c0;go_wp2_with fail
       go_roundw
       case rel=>exact⟨q+1,by omega,by go_num,ax⟩
       case measure=>simp[intOf];omega
      ·obtain rfl:q=nw:=by omega
       have e1:decide ((q:Int)<(q:Int))=false:=aB (by omega)
       obtain⟨E,hE⟩:∃E,Hid (E=WN.foldl tO []):=⟨_,hid rfl⟩;rw[←hE.out]at b2
       have a2:Hid (T2 W1 (w.heap.size+1) (w.heap.size+1+1) nD q D E wr3):=hid (by
        have h:=ay.out;rw[bE (by rw[a6.out,←bv.out];exact aY _),←hE.out]at h
        exact h.swap)
       clear ay aj a8 ar a5 ah a6 hD hE;go_wp2_with fail;rename_i K0 hK;have hU:=HU.out wr3 a2.out.be;have ai:=HB.out wr3 a2.out.be;have c5:=HT.out wr3 a2.out.be;have cq:=hid (HP.out wr3 a2.out.be);have bf:=aFK wr3 w.heap.size ⟨nm,gA,gc,gs,wA,wc,ws,kA,kc,ks,⟨oA,oc,os,fA,fc,fs,cA,cc,cs⟩⟩ ai hU.n;have bc:=aF3 wr3 w.heap.size ⟨nm,gA,gc,gs,wA,wc,ws,kA,kc,ks,⟨oA,oc,os,fA,fc,fs,cA,cc,cs⟩⟩ ai hU.m.sr c5;have b8:=aF8 wr3 w.heap.size ⟨nm,gA,gc,gs,wA,wc,ws,kA,kc,ks,⟨oA,oc,os,fA,fc,fs,cA,cc,cs⟩⟩ ai;have b9:=aBm W1 wr3 _ _ _ _ D E a2.out gs (fun s hs=>aCk (hU.gs s hs))
       have bd:=aBm W1 wr3 _ _ _ _ D E a2.out ws (fun s hs=>aCk (hU.ws s hs))
       have b7:=aFW W1 wr3 _ _ _ _ E D a2.out.swap gs (fun s hs=>aCk (hU.gs s hs))
       have bb:=aLx wr3 c5 ks hU.ks;have de:=hid (fun J (b:Below wr3.heap.size wr3 J)=>xY J gA gc gs (hU.m.gr.below b) hU.gl)
       have cv:=hid (fun J (b:Below wr3.heap.size wr3 J)=>xY J wA wc ws (hU.m.wr.below b) (aZ hU.wl (by decide)))
       have d0:=hid (fun J (b:Below wr3.heap.size wr3 J)=>xY J kA kc ks (hU.m.kr.below b) hU.kl)
       have dy:=hid (fun J (b:Below wr3.heap.size wr3 J)=>aAQ J gA gc _ gs _ (b9.below b) (hU.m.gr.below b) (aZ hU.gl (by decide)))
       have cx:=hid (fun J (b:Below wr3.heap.size wr3 J)=>aAQ J wA wc _ ws _ (bd.below b) (hU.m.wr.below b) (aZ hU.wl (by decide)))
       have dc:=hid (fun J (b:Below wr3.heap.size wr3 J)=>aAQ J gA gc _ gs _ (b7.below b) (hU.m.gr.below b) (aZ hU.gl (by decide)))
       have dh:=hid (fun J (b:Below wr3.heap.size wr3 J)=>aAQ J kA kc _ ks _ (bb.below b) (hU.m.kr.below b) (aZ hU.kl (by decide)))
       have HY:=hid (fun J (b:Below wr3.heap.size wr3 J)=>ai.kept (Fr.of_below b []) (by simp))
       have cb:=hid bf;have co:=hid bc;have ca:=hid b8;have bn:=hV.out;rw[show tK _=[iY (bZ nm) 11,iW _,iY (gJ (gs.map tx)) 13,iY (gs.all (inD _)) 7,iY (gJ (ws.map tx)) 13,iY (ws.all (inD _)) 7,iY (gs.all (fun s=>!inW _ s)) 8,iY (decide (ks.length≤6000)) 4,iY (gJ (ks.map tx)) 13,iY (ks.all dP) 11] from rfl,show inD _=(fun s=>decide (tx s∈D)) from funext HD.out,show(fun s=>!inW _ s)=(fun s=>!decide (tx s∈E)) from funext (fun s=>by rw[b2.out s])]at bn
       have HV:=hid bn;clear bn hV hU ai c5 bf bc b8 b9 bd b7 bb HD b2 HU HB HT HP a2 Y4 Y5 Y2;dsimp only[MU.su,MS.sys]at HV cb co ca;generalize bZ nm=nB at *;generalize iW _=ce at *;generalize gJ (gs.map tx)=rg at *;generalize gJ (ws.map tx)=rw at *;generalize gJ (ks.map tx)=rk at *;generalize (gs.all fun s=>decide (tx s∈D))=ga at *
       generalize (ws.all fun s=>decide (tx s∈D))=wa at *
       generalize (gs.all fun s=>!decide (tx s∈E))=gl at *
       generalize decide (ks.length≤6000)=kn at *;generalize ks.all dP=kl at *;obtain⟨es,ak⟩:∃es,Hid (es=[iY nB 11,ce,iY rg 13,iY ga 7,iY rw 13,iY wa 7,iY gl 8,iY kn 4,iY rk 13,iY kl 11]):=⟨_,hid rfl⟩;rw[←ak.out]at HV;refine aH5 [(49,sF (.bool nB)),(50,sF (.int .i64 (iY nB 11))),(51,sF (.int .i64 ce)),(52,sEq (Value.pointer (some ⟨w.heap.size,1,none⟩))),(53,sEq (Value.slice gA gs.length gc)),(54,sF (.int .i64 (iY rg 13))),(55,sEq (Value.pointer (some ⟨w.heap.size,1,none⟩))),(56,sEq (Value.slice gA gs.length gc)),(57,sEq (Value.func (Fn.func 71) #[] #[Value.pointer (some ⟨w.heap.size+1,0,none⟩)])),(58,sF (.bool ga)),(59,sF (.int .i64 (iY ga 7))),(60,sEq (Value.pointer (some ⟨w.heap.size,2,none⟩))),(61,sEq (Value.slice wA ws.length wc)),(62,sF (.int .i64 (iY rw 13))),(63,sEq (Value.pointer (some ⟨w.heap.size,2,none⟩))),(64,sEq (Value.slice wA ws.length wc)),(65,sEq (Value.func (Fn.func 71) #[] #[Value.pointer (some ⟨w.heap.size+1,0,none⟩)])),(66,sF (.bool wa)),(67,sF (.int .i64 (iY wa 7))),(68,sEq (Value.pointer (some ⟨w.heap.size,1,none⟩))),(69,sEq (Value.slice gA gs.length gc)),(70,sEq (Value.func (Fn.func 73) #[] #[Value.pointer (some ⟨w.heap.size+1+1,0,none⟩)])),(71,sF (.bool gl)),(72,sF (.int .i64 (iY gl 8))),(73,sF (.bool kn)),(74,sF (.int .i64 (iY kn 4))),(75,sEq (Value.pointer (some ⟨w.heap.size,3,none⟩))),(76,sEq (Value.slice kA ks.length kc)),(77,sF (.int .i64 (iY rk 13))),(78,sEq (Value.pointer (some ⟨w.heap.size,3,none⟩))),(79,sEq (Value.slice kA ks.length kc)),(80,sF (.bool kl)),(81,sF (.int .i64 (iY kl 11))),(82,sL es),(83,sEq (.int .i64 (eQ es))),(2,sEq (.int .i64 (eQ es)))] [0,1,2,3,4,5,6,7,8,9,10,11,12,13,14,15,16,17,18,19,20,21,22,23,24,25,26,27,28,29,30,31,32,33,34,35] rfl ?_ (by kernel_rfl) (by kernel_rfl) (by kernel_rfl) ⟨?_,?_,?_,?_,?_,?_,?_,?_,?_,?_,?_,?_,?_,?_,?_,?_,?_,?_,?_,?_,?_,?_,?_,?_,?_,?_,?_,?_,?_,?_,?_,?_,?_,?_,?_,?_,trivial⟩ ?_
       ·intro x hx
        simp only[aM,List.mem_nil_iff,or_false]at hx
        rcases hx with rfl | rfl | rfl | rfl | rfl | rfl | rfl | rfl | rfl | rfl | rfl | rfl | rfl | rfl | rfl | rfl | rfl | rfl | rfl | rfl | rfl | rfl | rfl | rfl | rfl | rfl | rfl | rfl | rfl | rfl | rfl | rfl | rfl | rfl | rfl | rfl <;> first | exact aJJ _ | exact aLu _ | exact aLK _
       ·intro a J hL b Y
        have e1:a.eval (.tmp 1)=Value.pointer (some ⟨w.heap.size,0,none⟩):=hL.e 1 (by kernel_rfl)
        exact aKD (Value.func (Fn.func 76) #[] #[Value.pointer (some ⟨w.heap.size,0,none⟩)]) (.bool nB) rfl rfl rfl rfl (aOj rfl e1) (cb.out.below b)
       ·intro a J hL b Y
        have hf:F0 J (a.eval (.tmp 49)) (.bool nB):=Y 49 (by kernel_rfl)
        exact sI rfl rfl rfl rfl rfl (fun args w=>by go_simp) (vs:=#[a.eval (.tmp 49),.int .i64 11]) (by simp only[List.map_toArray,aV,aU];first | done | rfl) rfl (qK J _ nB 11 hf)
       ·intro a J hL b Y
        have e1:a.eval (.tmp 1)=Value.pointer (some ⟨w.heap.size,0,none⟩):=hL.e 1 (by kernel_rfl)
        exact aKD (Value.func (Fn.func 78) #[] #[Value.pointer (some ⟨w.heap.size,0,none⟩)]) (.int .i64 ce) rfl rfl rfl rfl (aOj rfl e1) (co.out.below b)
       ·intro a J hL b Y
        have e1:a.eval (.tmp 1)=Value.pointer (some ⟨w.heap.size,0,none⟩):=hL.e 1 (by kernel_rfl)
        exact mF (Value.pointer (some ⟨w.heap.size,1,none⟩)) rfl rfl rfl rfl (aBN rfl e1 (by go_simp))
       ·intro a J hL b Y
        have e0:a.eval (.tmp 52)=Value.pointer (some ⟨w.heap.size,1,none⟩):=Y 52 (by kernel_rfl)
        have y:J.cell? ⟨w.heap.size,1,none⟩=some (Value.slice gA gs.length gc):=(HY.out J b).cell 1;exact mF (Value.slice gA gs.length gc) rfl rfl rfl rfl (aFB rfl e0 (by clear Y;go_simp))
       ·intro a J hL b Y
        have db:a.eval (.tmp 53)=Value.slice gA gs.length gc:=Y 53 (by kernel_rfl)
        exact sI rfl rfl rfl rfl rfl (fun args w=>by go_simp) (vs:=#[Value.slice gA gs.length gc]) (by simp only[List.map_toArray,aV,aU,db];first | done | rfl) rfl (de.out J b)
       ·intro a J hL b Y
        have e1:a.eval (.tmp 1)=Value.pointer (some ⟨w.heap.size,0,none⟩):=hL.e 1 (by kernel_rfl)
        exact mF (Value.pointer (some ⟨w.heap.size,1,none⟩)) rfl rfl rfl rfl (aBN rfl e1 (by go_simp))
       ·intro a J hL b Y
        have d9:a.eval (.tmp 55)=Value.pointer (some ⟨w.heap.size,1,none⟩):=Y 55 (by kernel_rfl)
        have y:J.cell? ⟨w.heap.size,1,none⟩=some (Value.slice gA gs.length gc):=(HY.out J b).cell 1;exact mF (Value.slice gA gs.length gc) rfl rfl rfl rfl (aFB rfl d9 (by clear Y;go_simp))
       ·intro a J hL b Y
        have e1:a.eval (.tmp 11)=Value.func (Fn.func 71) #[] #[Value.pointer (some ⟨w.heap.size+1,0,none⟩)]:=hL.e 11 (by kernel_rfl)
        exact mF (Value.func (Fn.func 71) #[] #[Value.pointer (some ⟨w.heap.size+1,0,none⟩)]) rfl rfl rfl rfl (aN2 rfl e1)
       ·intro a J hL b Y
        have cz:a.eval (.tmp 56)=Value.slice gA gs.length gc:=Y 56 (by kernel_rfl)
        have dw:a.eval (.tmp 57)=Value.func (Fn.func 71) #[] #[Value.pointer (some ⟨w.heap.size+1,0,none⟩)]:=Y 57 (by kernel_rfl)
        exact sI rfl rfl rfl rfl rfl (fun args w=>by go_simp) (vs:=#[Value.slice gA gs.length gc,Value.func (Fn.func 71) #[] #[Value.pointer (some ⟨w.heap.size+1,0,none⟩)]]) (by simp only[List.map_toArray,aV,aU,cz,dw];first | done | rfl) rfl (dy.out J b)
       ·intro a J hL b Y
        have hf:F0 J (a.eval (.tmp 58)) (.bool ga):=Y 58 (by kernel_rfl)
        exact sI rfl rfl rfl rfl rfl (fun args w=>by go_simp) (vs:=#[a.eval (.tmp 58),.int .i64 7]) (by simp only[List.map_toArray,aV,aU];first | done | rfl) rfl (qK J _ ga 7 hf)
       ·intro a J hL b Y
        have e1:a.eval (.tmp 1)=Value.pointer (some ⟨w.heap.size,0,none⟩):=hL.e 1 (by kernel_rfl)
        exact mF (Value.pointer (some ⟨w.heap.size,2,none⟩)) rfl rfl rfl rfl (aBN rfl e1 (by go_simp))
       ·intro a J hL b Y
        have cy:a.eval (.tmp 60)=Value.pointer (some ⟨w.heap.size,2,none⟩):=Y 60 (by kernel_rfl)
        have y:J.cell? ⟨w.heap.size,2,none⟩=some (Value.slice wA ws.length wc):=(HY.out J b).cell 2;exact mF (Value.slice wA ws.length wc) rfl rfl rfl rfl (aFB rfl cy (by clear Y;go_simp))
       ·intro a J hL b Y
        have e7:a.eval (.tmp 61)=Value.slice wA ws.length wc:=Y 61 (by kernel_rfl)
        exact sI rfl rfl rfl rfl rfl (fun args w=>by go_simp) (vs:=#[Value.slice wA ws.length wc]) (by simp only[List.map_toArray,aV,aU,e7];first | done | rfl) rfl (cv.out J b)
       ·intro a J hL b Y
        have e1:a.eval (.tmp 1)=Value.pointer (some ⟨w.heap.size,0,none⟩):=hL.e 1 (by kernel_rfl)
        exact mF (Value.pointer (some ⟨w.heap.size,2,none⟩)) rfl rfl rfl rfl (aBN rfl e1 (by go_simp))
       ·intro a J hL b Y
        have dl:a.eval (.tmp 63)=Value.pointer (some ⟨w.heap.size,2,none⟩):=Y 63 (by kernel_rfl)
        have y:J.cell? ⟨w.heap.size,2,none⟩=some (Value.slice wA ws.length wc):=(HY.out J b).cell 2;exact mF (Value.slice wA ws.length wc) rfl rfl rfl rfl (aFB rfl dl (by clear Y;go_simp))
       ·intro a J hL b Y
        have e1:a.eval (.tmp 11)=Value.func (Fn.func 71) #[] #[Value.pointer (some ⟨w.heap.size+1,0,none⟩)]:=hL.e 11 (by kernel_rfl)
        exact mF (Value.func (Fn.func 71) #[] #[Value.pointer (some ⟨w.heap.size+1,0,none⟩)]) rfl rfl rfl rfl (aN2 rfl e1)
       ·intro a J hL b Y
        have dx:a.eval (.tmp 64)=Value.slice wA ws.length wc:=Y 64 (by kernel_rfl)
        have e2:a.eval (.tmp 65)=Value.func (Fn.func 71) #[] #[Value.pointer (some ⟨w.heap.size+1,0,none⟩)]:=Y 65 (by kernel_rfl)
        exact sI rfl rfl rfl rfl rfl (fun args w=>by go_simp) (vs:=#[Value.slice wA ws.length wc,Value.func (Fn.func 71) #[] #[Value.pointer (some ⟨w.heap.size+1,0,none⟩)]]) (by simp only[List.map_toArray,aV,aU,dx,e2];first | done | rfl) rfl (cx.out J b)
       ·intro a J hL b Y
        have hf:F0 J (a.eval (.tmp 66)) (.bool wa):=Y 66 (by kernel_rfl)
        exact sI rfl rfl rfl rfl rfl (fun args w=>by go_simp) (vs:=#[a.eval (.tmp 66),.int .i64 7]) (by simp only[List.map_toArray,aV,aU];first | done | rfl) rfl (qK J _ wa 7 hf)
       ·intro a J hL b Y
        have e1:a.eval (.tmp 1)=Value.pointer (some ⟨w.heap.size,0,none⟩):=hL.e 1 (by kernel_rfl)
        exact mF (Value.pointer (some ⟨w.heap.size,1,none⟩)) rfl rfl rfl rfl (aBN rfl e1 (by go_simp))
       ·intro a J hL b Y
        have dv:a.eval (.tmp 68)=Value.pointer (some ⟨w.heap.size,1,none⟩):=Y 68 (by kernel_rfl)
        have y:J.cell? ⟨w.heap.size,1,none⟩=some (Value.slice gA gs.length gc):=(HY.out J b).cell 1;exact mF (Value.slice gA gs.length gc) rfl rfl rfl rfl (aFB rfl dv (by clear Y;go_simp))
       ·intro a J hL b Y
        have e1:a.eval (.tmp 12)=Value.func (Fn.func 73) #[] #[Value.pointer (some ⟨w.heap.size+1+1,0,none⟩)]:=hL.e 12 (by kernel_rfl)
        exact mF (Value.func (Fn.func 73) #[] #[Value.pointer (some ⟨w.heap.size+1+1,0,none⟩)]) rfl rfl rfl rfl (aN2 rfl e1)
       ·intro a J hL b Y
        have dm:a.eval (.tmp 69)=Value.slice gA gs.length gc:=Y 69 (by kernel_rfl)
        have cw:a.eval (.tmp 70)=Value.func (Fn.func 73) #[] #[Value.pointer (some ⟨w.heap.size+1+1,0,none⟩)]:=Y 70 (by kernel_rfl)
        exact sI rfl rfl rfl rfl rfl (fun args w=>by go_simp) (vs:=#[Value.slice gA gs.length gc,Value.func (Fn.func 73) #[] #[Value.pointer (some ⟨w.heap.size+1+1,0,none⟩)]]) (by simp only[List.map_toArray,aV,aU,dm,cw];first | done | rfl) rfl (dc.out J b)
       ·intro a J hL b Y
        have hf:F0 J (a.eval (.tmp 71)) (.bool gl):=Y 71 (by kernel_rfl)
        exact sI rfl rfl rfl rfl rfl (fun args w=>by go_simp) (vs:=#[a.eval (.tmp 71),.int .i64 8]) (by simp only[List.map_toArray,aV,aU];first | done | rfl) rfl (qK J _ gl 8 hf)
       ·intro a J hL b Y
        have e1:a.eval (.tmp 1)=Value.pointer (some ⟨w.heap.size,0,none⟩):=hL.e 1 (by kernel_rfl)
        exact aKD (Value.func (Fn.func 81) #[] #[Value.pointer (some ⟨w.heap.size,0,none⟩)]) (.bool kn) rfl rfl rfl rfl (aOj rfl e1) (ca.out.below b)
       ·intro a J hL b Y
        have hf:F0 J (a.eval (.tmp 73)) (.bool kn):=Y 73 (by kernel_rfl)
        exact sI rfl rfl rfl rfl rfl (fun args w=>by go_simp) (vs:=#[a.eval (.tmp 73),.int .i64 4]) (by simp only[List.map_toArray,aV,aU];first | done | rfl) rfl (qK J _ kn 4 hf)
       ·intro a J hL b Y
        have e1:a.eval (.tmp 1)=Value.pointer (some ⟨w.heap.size,0,none⟩):=hL.e 1 (by kernel_rfl)
        exact mF (Value.pointer (some ⟨w.heap.size,3,none⟩)) rfl rfl rfl rfl (aBN rfl e1 (by go_simp))
       ·intro a J hL b Y
        have dn:a.eval (.tmp 75)=Value.pointer (some ⟨w.heap.size,3,none⟩):=Y 75 (by kernel_rfl)
        have y:J.cell? ⟨w.heap.size,3,none⟩=some (Value.slice kA ks.length kc):=(HY.out J b).cell 3;exact mF (Value.slice kA ks.length kc) rfl rfl rfl rfl (aFB rfl dn (by clear Y;go_simp))
       ·intro a J hL b Y
        have e3:a.eval (.tmp 76)=Value.slice kA ks.length kc:=Y 76 (by kernel_rfl)
        exact sI rfl rfl rfl rfl rfl (fun args w=>by go_simp) (vs:=#[Value.slice kA ks.length kc]) (by simp only[List.map_toArray,aV,aU,e3];first | done | rfl) rfl (d0.out J b)
       ·intro a J hL b Y
        have e1:a.eval (.tmp 1)=Value.pointer (some ⟨w.heap.size,0,none⟩):=hL.e 1 (by kernel_rfl)
        exact mF (Value.pointer (some ⟨w.heap.size,3,none⟩)) rfl rfl rfl rfl (aBN rfl e1 (by go_simp))
       ·intro a J hL b Y
        have da:a.eval (.tmp 78)=Value.pointer (some ⟨w.heap.size,3,none⟩):=Y 78 (by kernel_rfl)
        have y:J.cell? ⟨w.heap.size,3,none⟩=some (Value.slice kA ks.length kc):=(HY.out J b).cell 3;exact mF (Value.slice kA ks.length kc) rfl rfl rfl rfl (aFB rfl da (by clear Y;go_simp))
       ·intro a J hL b Y
        have e4:a.eval (.tmp 79)=Value.slice kA ks.length kc:=Y 79 (by kernel_rfl)
        exact sI rfl rfl rfl rfl rfl (fun args w=>by go_simp) (vs:=#[Value.slice kA ks.length kc,Value.func (Fn.func 82) #[] #[]]) (by simp only[List.map_toArray,aV,aU,e4];first | done | rfl) rfl (dh.out J b)
       ·intro a J hL b Y
        have hf:F0 J (a.eval (.tmp 80)) (.bool kl):=Y 80 (by kernel_rfl)
        exact sI rfl rfl rfl rfl rfl (fun args w=>by go_simp) (vs:=#[a.eval (.tmp 80),.int .i64 11]) (by simp only[List.map_toArray,aV,aU];first | done | rfl) rfl (qK J _ kl 11 hf)
       ·intro a J hL b Y
        have bg:F0 J (a.eval (.tmp 50)) (.int .i64 (iY nB 11)):=Y 50 (by kernel_rfl)
        obtain⟨ao,p50,ch,_⟩:=id bg;rw[ch]at bg;have bq:F0 J (a.eval (.tmp 51)) (.int .i64 ce):=Y 51 (by kernel_rfl)
        obtain⟨a9,p51,cm,_⟩:=id bq;rw[cm]at bq;have bh:F0 J (a.eval (.tmp 54)) (.int .i64 (iY rg 13)):=Y 54 (by kernel_rfl)
        obtain⟨ap,p54,cn,_⟩:=id bh;rw[cn]at bh;have bz:F0 J (a.eval (.tmp 59)) (.int .i64 (iY ga 7)):=Y 59 (by kernel_rfl)
        obtain⟨a4,p59,cd,_⟩:=id bz;rw[cd]at bz;have br:F0 J (a.eval (.tmp 62)) (.int .i64 (iY rw 13)):=Y 62 (by kernel_rfl)
        obtain⟨am,p62,cf,_⟩:=id br;rw[cf]at br;have bp:F0 J (a.eval (.tmp 67)) (.int .i64 (iY wa 7)):=Y 67 (by kernel_rfl)
        obtain⟨aw,p67,cu,_⟩:=id bp;rw[cu]at bp;have c6:F0 J (a.eval (.tmp 72)) (.int .i64 (iY gl 8)):=Y 72 (by kernel_rfl)
        obtain⟨b1,p72,ci,_⟩:=id c6;rw[ci]at c6;have bo:F0 J (a.eval (.tmp 74)) (.int .i64 (iY kn 4)):=Y 74 (by kernel_rfl)
        obtain⟨av,p74,c8,_⟩:=id bo;rw[c8]at bo;have bl:F0 J (a.eval (.tmp 77)) (.int .i64 (iY rk 13)):=Y 77 (by kernel_rfl)
        obtain⟨au,a3,cj,_⟩:=id bl;rw[cj]at bl;have bk:F0 J (a.eval (.tmp 81)) (.int .i64 (iY kl 11)):=Y 81 (by kernel_rfl)
        obtain⟨ag,ae,c9,_⟩:=id bk;rw[c9]at bk;have ak:=ak.out;have HB:=bT.new J 114 #[Value.func (.func ao) #[] p50,Value.func (.func a9) #[] p51,Value.func (.func ap) #[] p54,Value.func (.func a4) #[] p59,Value.func (.func am) #[] p62,Value.func (.func aw) #[] p67,Value.func (.func b1) #[] p72,Value.func (.func av) #[] p74,Value.func (.func au) #[] a3,Value.func (.func ag) #[] ae];have hb:Below J.heap.size J (J.alloc (.cells #[Value.func (.func ao) #[] p50,Value.func (.func a9) #[] p51,Value.func (.func ap) #[] p54,Value.func (.func a4) #[] p59,Value.func (.func am) #[] p62,Value.func (.func aw) #[] p67,Value.func (.func b1) #[] p72,Value.func (.func av) #[] p74,Value.func (.func au) #[] a3,Value.func (.func ag) #[] ae] 114)):=(Below.refl _ _).alloc (aY _) _;have hr:(Instr.buildSlice 172 10 #[(0,Value.func (.func ao) #[] p50),(1,Value.func (.func a9) #[] p51),(2,Value.func (.func ap) #[] p54),(3,Value.func (.func a4) #[] p59),(4,Value.func (.func am) #[] p62),(5,Value.func (.func aw) #[] p67),(6,Value.func (.func b1) #[] p72),(7,Value.func (.func av) #[] p74),(8,Value.func (.func au) #[] a3),(9,Value.func (.func ag) #[] ae)]).run Tryz.prog J=.ok (.slice (some ⟨J.heap.size,0,none⟩) 10 10) (J.alloc (.cells #[Value.func (.func ao) #[] p50,Value.func (.func a9) #[] p51,Value.func (.func ap) #[] p54,Value.func (.func a4) #[] p59,Value.func (.func am) #[] p62,Value.func (.func aw) #[] p67,Value.func (.func b1) #[] p72,Value.func (.func av) #[] p74,Value.func (.func au) #[] a3,Value.func (.func ag) #[] ae] 114)):=by
         clear Y HB hb;go_simp
        refine aBb (.slice (some ⟨J.heap.size,0,none⟩) 10 10) rfl rfl rfl (aO1 rfl (by simp only[List.map_toArray,aV,aU,ch,cm,cn,cd,cf,cu,ci,c8,cj,c9]) hr) ⟨_,rfl,?_,hb⟩
        clear Y hr;refine⟨J.heap.size,10,[Value.func (.func ao) #[] p50,Value.func (.func a9) #[] p51,Value.func (.func ap) #[] p54,Value.func (.func a4) #[] p59,Value.func (.func am) #[] p62,Value.func (.func aw) #[] p67,Value.func (.func b1) #[] p72,Value.func (.func av) #[] p74,Value.func (.func au) #[] a3,Value.func (.func ag) #[] ae],rfl,by rw[ak];rfl,by simp,fun k hk=>?_,?_⟩
        ·rw[Nat.zero_add]
         exact(HB.cell k).trans (by simp only[aL];exact aN hk)
        ·subst ak
         intro k hk he;have e8:k<10:=hk;have dk:k=0∨k=1∨k=2∨k=3∨k=4∨k=5∨k=6∨k=7∨k=8∨k=9:=by omega
         rcases dk with rfl | rfl | rfl | rfl | rfl | rfl | rfl | rfl | rfl | rfl
         ·exact F0.below bg hb
         ·exact F0.below bq hb
         ·exact F0.below bh hb
         ·exact F0.below bz hb
         ·exact F0.below br hb
         ·exact F0.below bp hb
         ·exact F0.below c6 hb
         ·exact F0.below bo hb
         ·exact F0.below bl hb
         ·exact F0.below bk hb
       ·intro a J hL b Y
        have d8:sL es (a.eval (.tmp 82)) J:=Y 82 (by kernel_rfl)
        obtain⟨B,c,vs,e,hn,hl,hc,hf⟩:=d8;exact aOs rfl rfl rfl rfl rfl (fun args w=>by go_simp) (vs:=#[.slice (some ⟨B,0,none⟩) vs.length c]) (by simp only[List.map_toArray,aV,aU,e];first | done | rfl) rfl (aIb J B 0 c vs es hn hc (fun k hk=>hf k hk (by omega)) hl)
       ·intro a J hL b Y
        have di:a.eval (.tmp 83)=Value.int .i64 (eQ es):=Y 83 (by kernel_rfl)
        exact mF (.int .i64 (eQ es)) rfl rfl rfl rfl (aO0 rfl di)
       ·intro a J hL b Y
        have h2:a.eval (.tmp 2)=.int .i64 (eQ es):=Y 2 (by kernel_rfl)
        refine hK _ _ ?_;refine wp_ret ?_;refine bodyPost_ret (results_tmp rfl _ _ _) hL.d ?_;exact⟨by rw[HV.out];exact congrArg Ending.returned h2,cq.out.trans (b.mono cq.out.size)⟩
end sf
end Go.Proofs.YtdmmkjijgoiecaaGreatDoor
