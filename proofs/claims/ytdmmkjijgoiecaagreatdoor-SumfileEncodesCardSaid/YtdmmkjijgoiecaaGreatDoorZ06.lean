import Derived.Test.YtdmmkjijgoiecaaGreatDoorB10
import Derived.Test.YtdmmkjijgoiecaaGreatDoorZ02
set_option linter.all false
set_option maxHeartbeats 4000000
namespace Go.Proofs.YtdmmkjijgoiecaaGreatDoor
open Lib(hid)
set_option maxRecDepth 100000
namespace re
open RowKit Shelf mem sy vr
structure RS(w0:World)(g:Nat)(pA:Option Addr)(pc:Nat)(m:List (List UInt8))(L:List (List UInt8))(st:List UInt8×Int)(w:World):Prop where
 be:Below w0.heap.size w0 w
 ge:w0.heap.size≤g
 x:∃A cap,bT w g 135 #[.slice pA m.length pc,.string (bs st.1),.slice A L.length cap,.int .i64 st.2]∧Seg w 9 A cap (L.map encStr)
def RQ(w0:World)(g:Nat)(J:Option Addr)(pc:Nat)(m:List (List UInt8))(L:List (List UInt8))(st:List UInt8×Int)(w:World)(e:Ending)(w':World):Prop:=e=.returned (.tuple #[])∧RS w0 g J pc m L st w'∧Fr [g] w w'
section
variable {w0:World} {g:Nat} {pA:Option Addr} {pc:Nat} {m L:List (List UInt8)} {st:List UInt8×Int}
theorem RS.bel{w w':World}(h:RS w0 g pA pc m L st w)(hb:Below w.heap.size w w'):RS w0 g pA pc m L st w':=by
 obtain⟨A,cap,J,hs⟩:=h.x;exact⟨fO h.be (Fr.of_below hb []) (by simp),h.ge,A,cap,J.kept (Fr.of_below hb []) (by simp),hs.kept (Fr.of_below hb []) (by simp)⟩
theorem RS.drew{w:World}(h:RS w0 g pA pc m L st w):RS w0 g pA pc m L st w.drew:=h.bel (Below.refl _ _).drew
theorem RS.cells{w:World}(h:RS w0 g pA pc m L st w):w.cell? ⟨g,0,none⟩=some (.slice pA m.length pc)∧w.cell? ⟨g,1,none⟩=some (.string (bs st.1))∧w.cell? ⟨g,3,none⟩=some (.int .i64 st.2)∧w.frozen? ⟨g,1,none⟩=false∧w.frozen? ⟨g,3,none⟩=false:=by
 obtain⟨A,cap,J,hs⟩:=h.x;exact⟨J.cell 0,J.cell 1,J.cell 3,J.free 1,J.free 3⟩
theorem RS.setE{w:World}(h:RS w0 g pA pc m L st w)(e:Int):RS w0 g pA pc m L (st.1,e) (w.setCell ⟨g,3,none⟩ (.int .i64 e))∧Fr [g] w (w.setCell ⟨g,3,none⟩ (.int .i64 e)):=by
 obtain⟨A,cap,J,hs⟩:=h.x;have f1:Fr [g] w (w.setCell ⟨g,3,none⟩ (.int .i64 e)):=(Fr.refl [g] w).setCell (p:=⟨g,3,none⟩) (Or.inl (by simp)) _
 have hn:g∉blk A:=hs.ne_box J (by decide)
 exact⟨⟨fO h.be f1 (fun x J=>by rw[aD]at J;rw[J];exact h.ge),h.ge,A,cap,J.put 3 _,hs.kept f1 (fun x J Y=>by rw[aD]at Y;rw[Y]at J;exact hn J)⟩,f1⟩
theorem RS.setS{w:World}(h:RS w0 g pA pc m L st w)(S:List UInt8):RS w0 g pA pc m L (S,st.2) (w.setCell ⟨g,1,none⟩ (.string (bs S)))∧Fr [g] w (w.setCell ⟨g,1,none⟩ (.string (bs S))):=by
 obtain⟨A,cap,J,hs⟩:=h.x;have f1:Fr [g] w (w.setCell ⟨g,1,none⟩ (.string (bs S))):=(Fr.refl [g] w).setCell (p:=⟨g,1,none⟩) (Or.inl (by simp)) _
 have hn:g∉blk A:=hs.ne_box J (by decide)
 exact⟨⟨fO h.be f1 (fun x J=>by rw[aD]at J;rw[J];exact h.ge),h.ge,A,cap,J.put 1 _,hs.kept f1 (fun x J Y=>by rw[aD]at Y;rw[Y]at J;exact hn J)⟩,f1⟩
theorem aM1{w:World}(k:Int)(h:RS w0 g pA pc m L st w)(hl:st.1.length≤100000000) :
 Calls Tryz.prog 151 #[.pointer (some ⟨g,0,none⟩),.int .i64 k] w (RQ w0 g pA pc m L (iX st k) w):=by
 obtain⟨c0,c1,c3,f1,f3⟩:=h.cells;have H:=hid h;obtain⟨S,E⟩:=st;dsimp only at c1 c3 hl;unfold iX;dsimp only;clear h c0
 by_cases hE:E=0
 ·subst hE
  rw[if_neg (by simp)]
  by_cases hk:k<0∨268435456<k
  ·rw[if_pos hk]
   have HX:=hid (H.out.setE 2);have a7:(w.setCell ⟨g,3,none⟩ (.int .i64 2)).cell? ⟨g,3,none⟩=some (.int .i64 2):=HX.out.1.cells.2.2.1
   by_cases h1:k<0
   ·have d1:decide (k<0)=true:=aC h1
    go_enter Tryz.func151,Tryz.ntmps151;go_wp2_with fail
    go_end0
    exact⟨rfl,HX.out.1,HX.out.2⟩
   ·have d1:decide (k<0)=false:=aB h1
    have d2:decide (268435456<k)=true:=aC (by omega)
    go_enter Tryz.func151,Tryz.ntmps151;go_wp2_with fail
    go_end0
    exact⟨rfl,HX.out.1,HX.out.2⟩
  ·rw[if_neg hk]
   have d1:decide (k<0)=false:=aB (by omega)
   have d2:decide (268435456<k)=false:=aB (by omega)
   obtain⟨n,rfl⟩:=Int.eq_ofNat_of_zero_le (by omega:0≤k)
   have hn:n≤268435456:=by omega
   rw[Int.toNat_natCast];have K:=hid (fun w'=>gU w' n hn)
   have a2:=iM n hn;have a6:¬9223372036854775807<(bs S).size+(bs (nb n)).size:=by rw[oJ,oJ];omega
   have HN:Hid (∀J,Below w.drew.heap.size w.drew J→J.cell? ⟨g,1,none⟩=some (.string (bs S))∧J.frozen? ⟨g,1,none⟩=false∧RS w0 g pA pc m L (S++nb n,0) (J.setCell ⟨g,1,none⟩ (.string (bs S++bs (nb n))))∧Fr [g] w (J.setCell ⟨g,1,none⟩ (.string (bs S++bs (nb n))))):=hid (fun J hb=>by
    have h2:=H.out.drew.bel hb;obtain⟨a0,a1,a3,a4,a5⟩:=h2.cells;have h3:=h2.setS (S++nb n);rw[←aF0]at h3
    exact⟨a1,a4,h3.1,((Fr.refl [g] w).drew.trans (G:=[g]) (Fr.of_below hb [g]) (by simp) (by simp)).setCell (p:=⟨g,1,none⟩) (Or.inl (by simp)) _⟩)
   clear hk H hl f3;go_enter Tryz.func151,Tryz.ntmps151;go_wp2_with fail
   go_region_with ((go_at_call 40;refine(K.out _).mono ?_;rintro e J ⟨rfl,hb⟩;obtain⟨k1,k2,k3,k4⟩:=HN.out _ hb;have k3:=hid k3;have k4:=hid k4;clear hb))
   all_goals (go_wp2_with fail;go_end0;exact⟨rfl,k3.out,k4.out⟩)
 ·rw[if_pos hE]
  have d0:(E==0)=false:=by simpa using hE
  have Y:=hid (Fr.refl [g] w)
  by_cases h1:k<0
  ·have d1:decide (k<0)=true:=aC h1
   go_enter Tryz.func151,Tryz.ntmps151;go_wp2_with fail
   go_end0
   exact⟨rfl,H.out,Y.out⟩
  ·have d1:decide (k<0)=false:=aB h1
   by_cases h2:268435456<k
   ·have d2:decide (268435456<k)=true:=aC h2
    go_enter Tryz.func151,Tryz.ntmps151;go_wp2_with fail
    go_end0
    exact⟨rfl,H.out,Y.out⟩
   ·have d2:decide (268435456<k)=false:=aB h2
    go_enter Tryz.func151,Tryz.ntmps151;go_wp2_with fail
    go_end0
    exact⟨rfl,H.out,Y.out⟩
end
end re
set_option maxRecDepth 100000
namespace re
open RowKit Shelf mem sy vx vr po inn
theorem pI{g:Nat}{a b c:World}(h:Fr [g] a b)(k:Fr [g] b c):Fr [g] a c:=h.trans k (fun x J=>Or.inl J) (fun x J=>Or.inl J)
section
variable {w0:World} {g:Nat} {pA:Option Addr} {pc:Nat} {m L:List (List UInt8)} {st:List UInt8×Int}
theorem RS.pool{w:World}(h:RS w0 g pA pc m L st w)(J:Rd w0 pA (m.map encStr)):Rd w pA (m.map encStr):=J.below h.be
theorem aOD{w:World}(hp:Rd w0 pA (m.map encStr))(hm:m.length≤1000000)(s:ByteArray)(h:RS w0 g pA pc m L st w)(hl:st.1.length≤100000000)(hL:L.length≤1000000) :
 Calls Tryz.prog 149 #[.pointer (some ⟨g,0,none⟩),.string s] w (RQ w0 g pA pc m (qB L (tx s)) (aB9 m st s) w):=by
 obtain⟨A,cap,hx,hs⟩:=h.x;have es:encStr (tx s)=.string s:=rfl;have KI:=hid (aI2 w A cap L (tx s) hs hL);rw[es]at KI;have c2:w.cell? ⟨g,2,none⟩=some (.slice A L.length cap):=hx.cell 2;obtain⟨T,hT⟩:∃T,Hid (T=sQ m st s):=⟨_,hid rfl⟩;obtain⟨ix,a3⟩:∃i,Hid (i=if tx s∈m then m.idxOf (tx s) else 0):=⟨_,hid rfl⟩
 have a5:T.1.length≤100000000:=by rw[hT.out,aA6];exact hl
 have a6:=hid (fun(Y:World) (x:RS w0 g pA pc m L st Y)=>ins.yC Y pA pc m (tx s) (x.pool hp) hm)
 have hI:Hid (∀A1 J Y,Seg Y 9 A1 J ((qB L (tx s)).map encStr)→Below w.heap.size w Y→(Y.cell? ⟨g,2,none⟩=some (.slice A L.length cap)∧Y.frozen? ⟨g,2,none⟩=false)∧RS w0 g pA pc m (qB L (tx s)) st (Y.setCell ⟨g,2,none⟩ (.slice A1 (qB L (tx s)).length J))∧Fr [g] w (Y.setCell ⟨g,2,none⟩ (.slice A1 (qB L (tx s)).length J))):=hid (fun A1 J Y s1 b1=>by
  have a4:=hx.kept (Fr.of_below b1 []) (by simp)
  have f1:Fr [g] Y (Y.setCell ⟨g,2,none⟩ (.slice A1 (qB L (tx s)).length J)):=(Fr.refl [g] Y).setCell (p:=⟨g,2,none⟩) (Or.inl (by simp)) _
  have hn:g∉blk A1:=s1.ne_box a4 (by decide)
  have f2:Fr [g] w (Y.setCell ⟨g,2,none⟩ (.slice A1 (qB L (tx s)).length J)):=pI (Fr.of_below b1 [g]) f1
  exact⟨⟨a4.cell 2,a4.free 2⟩,⟨fO h.be f2 (fun x hx=>by rw[aD]at hx;rw[hx];exact h.ge),h.ge,A1,J,a4.put 2 _,s1.kept f1 (fun x hx h1=>by rw[aD]at h1;rw[h1]at hx;exact hn hx)⟩,f2⟩)
 have a0:Hid (∀Y,RS w0 g pA pc m (qB L (tx s)) T Y→Calls Tryz.prog 151 #[.pointer (some ⟨g,0,none⟩),.int .i64 (ix:Int)] Y (RQ w0 g pA pc m (qB L (tx s)) (iX T (ix:Int)) Y)):=hid (fun Y x=>aM1 (ix:Int) x a5)
 have hR:Hid (∀Y,RS w0 g pA pc m (qB L (tx s)) st Y→Calls Tryz.prog 60 #[.slice pA m.length pc,.string s] Y fun e w'=>e=.returned (.int .i64 (ins.wN m (tx s)))∧Y=w'):=hid (fun Y x=>ins.yC Y pA pc m (tx s) (x.pool hp) hm)
 have hv:Hid (aB9 m st s=iX T (ix:Int)):=hid (by unfold aB9;rw[hT.out,a3.out])
 rw[hv.out];have a2:Hid (∀Y w2 w3,Fr [g] w Y→Fr [g] Y w2→Fr [g] w2 w3→Fr [g] w w3):=hid (fun Y w2 w3 a b c=>pI (pI a b) c)
 unfold inn.dD at KI;clear h hp hx hs a6 hv hl hL;generalize qB L (tx s)=L1 at *;unfold RQ at a0
 by_cases a1:tx s∈m
 ·have hn:Hid (ins.wN m (tx s)=(ix:Int)):=hid (by rw[a3.out,if_pos a1];unfold ins.wN ins.vI;rw[if_pos a1,if_pos a1])
  rw[hn.out]at hR;have eT:T=st:=by rw[hT.out];unfold sQ;rw[if_neg (fun h=>h.2 a1)]
  have d0:decide ((ix:Int)<0)=false:=aB (by omega)
  clear hn hT a3 a1
  by_cases h0:ix=0
  ·subst h0
   go_enter Tryz.func149,Tryz.ntmps149;go_wp2_with fail;refine KI.out.mono ?_;rintro e Y ⟨A1,J,rfl,s1,b1⟩;obtain⟨⟨z2,z3⟩,x1,y1⟩:=hI.out A1 J Y s1 b1;have X1:=hid x1;have Y1:=hid y1;obtain⟨q0,q1,q3,q4,q5⟩:=x1.cells;have K2:=hid (hR.out _ x1);have K3:=hid (a0.out _ (by rw[eT];exact x1))
   clear s1 b1 x1 y1 hI hR a0 KI q1 q4;go_wp2_with fail;refine K2.out.mono ?_;rintro e w2 ⟨rfl,rfl⟩;go_wp2_with fail;refine K3.out.mono ?_;rintro e w4 ⟨rfl,x4,f4⟩;have X4:=hid x4;have F4:=hid f4;clear x4 f4;go_wp2_with fail
   go_end0
   exact⟨rfl,X4.out,a2.out _ _ _ Y1.out (Fr.refl _ _) F4.out⟩
  ·have h1:(0:Int)<ix:=by omega
   go_enter Tryz.func149,Tryz.ntmps149;go_wp2_with fail;refine KI.out.mono ?_;rintro e Y ⟨A1,J,rfl,s1,b1⟩;obtain⟨⟨z2,z3⟩,x1,y1⟩:=hI.out A1 J Y s1 b1;have X1:=hid x1;have Y1:=hid y1;obtain⟨q0,q1,q3,q4,q5⟩:=x1.cells;have K2:=hid (hR.out _ x1);have K3:=hid (a0.out _ (by rw[eT];exact x1))
   clear s1 b1 x1 y1 hI hR a0 KI q1 q4;go_wp2_with fail;refine K2.out.mono ?_;rintro e w2 ⟨rfl,rfl⟩;go_wp2_with fail;refine K3.out.mono ?_;rintro e w4 ⟨rfl,x4,f4⟩;have X4:=hid x4;have F4:=hid f4;clear x4 f4;go_wp2_with fail
   go_end0
   exact⟨rfl,X4.out,a2.out _ _ _ Y1.out (Fr.refl _ _) F4.out⟩
 ·have hn:Hid (ins.wN m (tx s)=-1):=hid (ins.aCb a1)
  rw[hn.out]at hR;have e0:ix=0:=by rw[a3.out,if_neg a1]
  subst e0
  by_cases hE:st.2=0
  ·have eT:T=(st.1,7):=by rw[hT.out];unfold sQ;rw[if_pos ⟨hE,a1⟩]
   clear hn hT a3 a1;go_enter Tryz.func149,Tryz.ntmps149;go_wp2_with fail;refine KI.out.mono ?_;rintro e Y ⟨A1,J,rfl,s1,b1⟩;obtain⟨⟨z2,z3⟩,x1,y1⟩:=hI.out A1 J Y s1 b1;have Y1:=hid y1;have K2:=hid (hR.out _ x1);obtain⟨W1,a7⟩:∃W,W=Y.setCell ⟨g,2,none⟩ (.slice A1 L1.length J):=⟨_,rfl⟩;obtain⟨q0,q1,q3,q4,q5⟩:=x1.cells;rw[hE]at q3;have X2:=hid (x1.setE 7);have K3:=hid (a0.out _ (by rw[eT];exact X2.out.1))
   clear s1 b1 x1 y1 hI hR a0 KI q1 q4;go_wp2_with fail;refine K2.out.mono ?_;rintro e w2 ⟨rfl,rfl⟩;go_wp2_with fail;refine K3.out.mono ?_;rintro e w4 ⟨rfl,x4,f4⟩;have X4:=hid x4;have F4:=hid f4;clear x4 f4;go_wp2_with fail
   go_end0
   exact⟨rfl,X4.out,a2.out _ _ _ Y1.out X2.out.2 F4.out⟩
  ·have eT:T=st:=by rw[hT.out];unfold sQ;rw[if_neg (fun h=>hE h.1)]
   have d0:(st.2==0)=false:=by simpa using hE
   clear hn hT a3 a1;go_enter Tryz.func149,Tryz.ntmps149;go_wp2_with fail;refine KI.out.mono ?_;rintro e Y ⟨A1,J,rfl,s1,b1⟩;obtain⟨⟨z2,z3⟩,x1,y1⟩:=hI.out A1 J Y s1 b1;have Y1:=hid y1;obtain⟨q0,q1,q3,q4,q5⟩:=x1.cells;have K2:=hid (hR.out _ x1);have K3:=hid (a0.out _ (by rw[eT];exact x1))
   clear s1 b1 x1 y1 hI hR a0 KI q1 q4;go_wp2_with fail;refine K2.out.mono ?_;rintro e w2 ⟨rfl,rfl⟩;go_wp2_with fail;refine K3.out.mono ?_;rintro e w4 ⟨rfl,x4,f4⟩;have X4:=hid x4;have F4:=hid f4;clear x4 f4;go_wp2_with fail
   go_end0
   exact⟨rfl,X4.out,a2.out _ _ _ Y1.out (Fr.refl _ _) F4.out⟩
end
end re
set_option maxRecDepth 100000
namespace re
open RowKit Shelf mem sy vx vr po inn
abbrev aEi(J:List Ev):List (List UInt8):=jP ((oM J).map tx)
def RV(w0:World)(g:Nat)(Y:Option Addr)(pc:Nat)(m:List (List UInt8))(J:List Ev)(w:World):Prop:=RS w0 g Y pc m (aEi J) (fM m J) w
def RVP(w0:World)(g:Nat)(Y:Option Addr)(pc:Nat)(m:List (List UInt8))(J:List Ev)(w:World)(e:Ending)(w':World):Prop:=e=.returned (.tuple #[])∧RV w0 g Y pc m J w'∧Fr [g] w w'
theorem aIQ(J:List Ev):(aEi J).length≤J.length:=by
 have Y:=aC7 ((oM J).map tx);rw[aH]at Y;exact aZ Y (wZ J)
theorem aOf(J:List Ev)(k:Int):aEi (J++[.n k])=aEi J:=by
 unfold aEi;rw[xD]
 show jP ((oM J++[]).map tx)=_
 rw[List.append_nil]
theorem aNZ(J:List Ev)(s:ByteArray):aEi (J++[.t s])=qB (aEi J) (tx s):=by
 unfold aEi;rw[xD]
 show jP ((oM J++[s]).map tx)=_
 rw[List.map_append];exact aDt _ _ _
section
variable {w0:World} {g:Nat} {pA:Option Addr} {pc:Nat} {m:List (List UInt8)} {evs:List Ev}
theorem RV.be{w:World}(h:RV w0 g pA pc m evs w):Below w0.heap.size w0 w:=RS.be h
theorem RV.bel{w w':World}(h:RV w0 g pA pc m evs w)(hb:Below w.heap.size w w'):RV w0 g pA pc m evs w':=RS.bel h hb
theorem aMQ{w:World}(k:Int)(h:RV w0 g pA pc m evs w)(hl:evs.length≤1000000):Calls Tryz.prog 151 #[.pointer (some ⟨g,0,none⟩),.int .i64 k] w (RVP w0 g pA pc m (evs++[.n k]) w):=
 (aM1 k h (by have:=mW m evs;omega)).mono fun e w' ⟨J,a,b⟩=>⟨J,by unfold RV;rw[uZ,aOf];exact a,b⟩
theorem aM0{w:World}(Y:Rd w0 pA (m.map encStr))(J:m.length≤1000000)(s:ByteArray)(h:RV w0 g pA pc m evs w)(hl:evs.length≤1000000):Calls Tryz.prog 149 #[.pointer (some ⟨g,0,none⟩),.string s] w (RVP w0 g pA pc m (evs++[.t s]) w):=
 (aOD Y J s h (by have:=mW m evs;omega) (by have:=aIQ evs;omega)).mono fun e w' ⟨he,a,b⟩=>⟨he,by unfold RV;rw[uZ,aNZ];exact a,b⟩
theorem aNT{w:World}(hp:Rd w0 pA (m.map encStr))(hm:m.length≤1000000)(A:Option Addr)(c:Nat)(l:List ByteArray)(hr:Rd w0 A (l.map Value.string))(h:RV w0 g pA pc m evs w)(Y:evs.length+(fD l).length≤1000000) :
 Calls Tryz.prog 150 #[.pointer (some ⟨g,0,none⟩),.slice A l.length c] w (RVP w0 g pA pc m (evs++fD l) w):=by
 have hl:evs.length+l.length+1≤1000000:=by simpa[fD,Nat.add_assoc] using Y
 have KN:=hid (aMQ (l.length:Int) h (by omega))
 have HR:=hid hr;have HT:=hid (fun(w1:World) (e1:List Ev) (s:ByteArray) (x:RV w0 g pA pc m e1 w1) hh=>aM0 hp hm s x hh)
 obtain⟨n,hn⟩:∃n,Hid (n=l.length):=⟨_,hid rfl⟩;have a4:n≤1000000:=by rw[hn.out];omega
 rw[←hn.out]at KN hl ⊢;unfold RVP at KN HT;clear hr h Y hp hm;go_enter Tryz.func150,Tryz.ntmps150;go_wp2_with fail;refine KN.out.mono ?_;rintro e w1 ⟨rfl,x1,f1⟩;have X1:Hid (RV w0 g pA pc m (evs++(Ev.n n :: (l.take 0).map Ev.t)) w1∧Fr [g] w w1):=hid ⟨x1,f1⟩;clear x1 f1 KN;go_wp2_with fail
 go_loopw [4] (fun i wr=>∃(k:Nat),k≤n∧i=.int .i64 k∧Hid (RV w0 g pA pc m (evs++(Ev.n n :: (l.take k).map Ev.t)) wr∧Fr [g] w wr)) (fun i _=>n-(intOf i).toNat)
 case atStart=>exact⟨0,by omega,rfl,X1⟩
 case round=>
  obtain⟨k,hk,rfl,J⟩:=hrel;clear X1
  by_cases a3:k<n
  ·have d1:decide ((k:Int)<(n:Int))=true:=aC (by omega)
   have a1:k<l.length:=by rw[←hn.out];exact a3
   obtain⟨b,off,rfl,a2,hc⟩:=HR.out (by rw[aH];omega)
   have c2:wr.cell? ⟨b,off+k,none⟩=some (.string l[k]):=by
    have e:=hc k (by rw[aH];exact a1)
    rw[List.getElem_map]at e;exact(J.out.1.be.cell a2).trans e
   have KT:=hid (HT.out wr _ l[k] J.out.1 (by rw[aF,aG,aH,List.length_take];omega))
   have a0:Hid (evs++(Ev.n n :: (l.take k).map Ev.t)++[Ev.t l[k]] = evs++(Ev.n n :: (l.take (k+1)).map Ev.t)):=hid (by rw[(List.take_append_getElem a1).symm];simp only[List.map_append,aV,aU,aS,aW])
   rw[a0.out]at KT;clear hc a0;generalize l[k] = x at *;go_wp2_with fail;refine KT.out.mono ?_;rintro e w2 ⟨rfl,x2,f2⟩;have X2:=hid (And.intro x2 (pI J.out.2 f2));clear x2 f2 KT J c2;go_wp2_with fail
   go_roundw
   case rel=>exact⟨k+1,by omega,by go_num,X2⟩
   case measure=>simp[intOf];omega
  ·obtain rfl:k=n:=by omega
   have d1:decide ((k:Int)<(k:Int))=false:=aB (by omega)
   have e1:Hid (Ev.n k :: (l.take k).map Ev.t=fD l):=hid (by rw[hn.out,bF];rfl)
   rw[e1.out]at J;go_wp2_with fail
   go_end0
   exact⟨rfl,J.out.1,J.out.2⟩
end
end re
set_option maxRecDepth 100000
set_option maxHeartbeats 8000000
namespace re
open RowKit Shelf mem sy vx vr po inn
structure SX(w0:World)(g:Nat)(pA:Option Addr)(pc:Nat)(m:List (List UInt8))(W:World)(bx:Nat)(row:Array Value)(evs:List Ev)(w:World):Prop where
 rv:RV w0 g pA pc m evs w
 fr:Fr [g] W w
 bx:bT w bx 29 row
theorem SX.step{w0:World}{g:Nat}{J:Option Addr}{pc:Nat}{m:List (List UInt8)}{W:World}{bx:Nat}{row:Array Value}{a0 e2:List Ev}{w w2:World}(h:SX w0 g J pc m W bx row a0 w)(Y:bx≠g)(x:RV w0 g J pc m e2 w2)(f:Fr [g] w w2):SX w0 g J pc m W bx row e2 w2:=
 ⟨x,pI h.fr f,h.bx.kept f (by simpa using Y)⟩
theorem SX.alloc{w0:World}{g:Nat}{Y:Option Addr}{pc:Nat}{m:List (List UInt8)}{W:World}{bx:Nat}{row:Array Value}{J:List Ev}{w:World}(h:SX w0 g Y pc m W bx row J w)(o:Obj):SX w0 g Y pc m W bx row J (w.alloc o):=
 ⟨h.rv.bel ((Below.refl _ _).alloc (aY _) _),h.fr.alloc o,h.bx.kept ((Fr.refl [] _).alloc _) (by simp)⟩
theorem SX.ev{w0:World}{g:Nat}{Y:Option Addr}{pc:Nat}{m:List (List UInt8)}{W:World}{bx:Nat}{row:Array Value}{J e2:List Ev}{w:World}(h:SX w0 g Y pc m W bx row J w)(e:J=e2):SX w0 g Y pc m W bx row e2 w:=e ▸ h
theorem aMZ{w0:World}{g:Nat}{pA:Option Addr}{pc:Nat}{m:List (List UInt8)}{w:World}(hp:Rd w0 pA (m.map encStr))(hm:m.length≤1000000)(u:MU)(hu:eY w0 u)(h:RV w0 g pA pc m [] w)(hl:(dB u.su).length≤1000000) :
 Calls Tryz.prog 88 #[.pointer (some ⟨g,0,none⟩),u.val] w (RVP w0 g pA pc m (dB u.su) w):=by
 obtain⟨nm,gA,gc,gs,wA,wc,ws,kA,kc,ks,⟨oA,oc,os,fA,fc,fs,cA,cc,cs⟩⟩:=u;obtain⟨hg,hw,hk,ho⟩:=hu;have Ho:=hid ho.o;have Hf:=hid ho.f;have Hc:=hid ho.c;have aj:=hid ho.ok;have ak:=hid ho.ck;have Hg:=hid hg;have Hw:=hid hw;have Hk:=hid hk;unfold MU.val MU.row MU.su MS.sys at *;dsimp only at *;have ag:Hid (dB ⟨nm,gs,ws,ks,⟨os.map (·.o),fs,cs.map (·.c)⟩⟩=(((((([]++[Ev.t nm])++fD gs)++fD ws)++fD ks)++(Ev.n os.length :: os.flatMap (fun x=>jC x.o)))++(Ev.n fs.length :: fs.flatMap (fun x=>mE x)))++(Ev.n cs.length :: cs.flatMap (fun x=>mQ x.c))):=hid (by simp[dB,qU,qV,qW,List.flatMap_map])
 rw[ag.out]at hl ⊢;have ar:=hl;simp only[aF,aG,aI]at ar;have bo:os.length≤(os.flatMap (fun x=>jC x.o)).length:=jK _ (fun x=>by simp[jC]) os
 have bf:fs.length≤(fs.flatMap (fun x=>mE x)).length:=jK _ (fun x=>by simp[mE]) fs
 have bc:cs.length≤(cs.flatMap (fun x=>mQ x.c)).length:=jK _ (fun x=>by simp[mQ]) cs
 have VN:=hid (fun(w1:World) (e1:List Ev) (k:Int) (x:RV w0 g pA pc m e1 w1) hh=>aMQ k x hh)
 have VT:=hid (fun(w1:World) (e1:List Ev) (s:ByteArray) (x:RV w0 g pA pc m e1 w1) hh=>aM0 hp hm s x hh)
 have VL:=hid (fun(w1:World) (e1:List Ev) A c l hr (x:RV w0 g pA pc m e1 w1) hh=>aNT hp hm A c l hr x hh)
 unfold RVP at VN VT VL;have ao:g<w.heap.size:=by
  obtain⟨A,cap,hx,hs⟩:=RS.x h;exact hx.lt
 obtain⟨W,a9⟩:∃W,Hid (W=w.alloc (.cells #[.string nm,.slice gA gs.length gc,.slice wA ws.length wc,.slice kA ks.length kc,.slice oA os.length oc,.slice fA fs.length fc,.slice cA cs.length cc] 29)):=⟨_,hid rfl⟩;have Y:w.heap.size≠g:=by omega
 have ae:Hid (Fr [g] w W):=hid (by rw[a9.out];exact(Fr.refl [g] w).alloc _)
 have J:Hid (SX w0 g pA pc m W w.heap.size #[.string nm,.slice gA gs.length gc,.slice wA ws.length wc,.slice kA ks.length kc,.slice oA os.length oc,.slice fA fs.length fc,.slice cA cs.length cc] [] W):=hid (by
  rw[a9.out]
  exact⟨h.bel ((Below.refl _ _).alloc (aY _) _),Fr.refl _ _,bT.new _ _ _⟩)
 have ah:Hid (∀e w2,SX w0 g pA pc m W w.heap.size #[.string nm,.slice gA gs.length gc,.slice wA ws.length wc,.slice kA ks.length kc,.slice oA os.length oc,.slice fA fs.length fc,.slice cA cs.length cc] e w2→RV w0 g pA pc m e w2∧Fr [g] w w2):=hid (fun e w2 s=>⟨s.rv,pI ae.out s.fr⟩)
 clear hp hm h hg hw hk ho hl ag ao;go_enter Tryz.func88,Tryz.ntmps88;go_upto_region 1 with fail;rw[←a9.out];clear a9 ae;generalize w.heap.size=bx at *;have y0:W.cell? ⟨bx,0,none⟩=some (.string nm):=J.out.bx.cell 0;have K:=hid (VT.out _ _ nm J.out.rv (by simp only[aF,aG,aI];omega))
 go_wp2_with fail;refine K.out.mono ?_;rintro e w1 ⟨rfl,x,f⟩;have X1:=hid (J.out.step Y x f);clear x f K y0 J;have y0:w1.cell? ⟨bx,1,none⟩=some (.slice gA gs.length gc):=X1.out.bx.cell 1;have K:=hid (VL.out _ _ gA gc gs Hg.out X1.out.rv (by simp only[aF,aG,aI];omega))
 go_wp2_with fail;refine K.out.mono ?_;rintro e w2 ⟨rfl,x,f⟩;have X2:=hid (X1.out.step Y x f);clear x f K y0 X1;have y0:w2.cell? ⟨bx,2,none⟩=some (.slice wA ws.length wc):=X2.out.bx.cell 2;have K:=hid (VL.out _ _ wA wc ws Hw.out X2.out.rv (by simp only[aF,aG,aI];omega))
 go_wp2_with fail;refine K.out.mono ?_;rintro e w3 ⟨rfl,x,f⟩;have X3:=hid (X2.out.step Y x f);clear x f K y0 X2;have y0:w3.cell? ⟨bx,3,none⟩=some (.slice kA ks.length kc):=X3.out.bx.cell 3;have K:=hid (VL.out _ _ kA kc ks Hk.out X3.out.rv (by simp only[aF,aG,aI];omega))
 go_wp2_with fail;refine K.out.mono ?_;rintro e w4 ⟨rfl,x,f⟩;have X4:=hid (X3.out.step Y x f);clear x f K y0 X3;have y0:w4.cell? ⟨bx,4,none⟩=some (.slice oA os.length oc):=X4.out.bx.cell 4;have K:=hid (VN.out _ _ (os.length:Int) X4.out.rv (by simp only[aF,aG,aI];omega))
 go_wp2_with fail;refine K.out.mono ?_;rintro e w5 ⟨rfl,x,f⟩;have X5:=hid (X4.out.step Y x f);clear x f K y0 X4;have Yo:Hid (SX w0 g pA pc m W bx #[.string nm,.slice gA gs.length gc,.slice wA ws.length wc,.slice kA ks.length kc,.slice oA os.length oc,.slice fA fs.length fc,.slice cA cs.length cc] ((((([]++[Ev.t nm])++fD gs)++fD ws)++fD ks)++(Ev.n os.length :: (os.take 0).flatMap (fun x=>jC x.o))) w5):=hid (X5.out.ev (by simp))
 clear X5;have y0:w5.cell? ⟨bx,4,none⟩=some (.slice oA os.length oc):=Yo.out.bx.cell 4;go_wp2_with fail;clear y0
 go_loopw [4] (fun i wr=>∃k:Nat,k≤os.length∧i=.int .i64 k∧Hid (SX w0 g pA pc m W bx #[.string nm,.slice gA gs.length gc,.slice wA ws.length wc,.slice kA ks.length kc,.slice oA os.length oc,.slice fA fs.length fc,.slice cA cs.length cc] ((((([]++[Ev.t nm])++fD gs)++fD ws)++fD ks)++(Ev.n os.length :: (os.take k).flatMap (fun x=>jC x.o))) wr)) (fun i _=>os.length-(intOf i).toNat)
 case atStart=>exact⟨0,by omega,rfl,Yo⟩
 case round=>
  obtain⟨k,hk,rfl,J⟩:=hrel;clear Yo;have y0:wr.cell? ⟨bx,4,none⟩=some (.slice oA os.length oc):=J.out.bx.cell 4
  by_cases a3:k<os.length
  ·have d1:decide ((k:Int)<(os.length:Int))=true:=aC (by omega)
   obtain⟨b,off,rfl,a0,c0,c1,c2⟩:=iK Ho.out a3;replace c0:=(J.out.rv.be.cell (show b<w0.heap.size from a0)).trans c0;replace c1:=(J.out.rv.be.cell (show b<w0.heap.size from a0)).trans c1;replace c2:=(J.out.rv.be.cell (show b<w0.heap.size from a0)).trans c2;have a4:=rP (fun x=>jC x.o) os k a3
   try dsimp only at a4
   have a5:Hid (((((([]++[Ev.t nm])++fD gs)++fD ws)++fD ks)++(Ev.n os.length :: (os.take k).flatMap (fun x=>jC x.o)))++jC os[k].o=((((([]++[Ev.t nm])++fD gs)++fD ws)++fD ks)++(Ev.n os.length :: (os.take (k+1)).flatMap (fun x=>jC x.o)))):=hid (by rw[kX _ _ _ a3];simp only[aS,aW])
   have a8:=aj.out os[k] (aR a3);generalize os[k] = x at *;obtain⟨⟨xn,xk,xm⟩,xA,xc⟩:=x;dsimp only at *;have HM:=hid a8.m;clear a8;have aa:(jC ⟨xn,xk,xm⟩).length=3+(xm.flatMap rE).length:=by simp[jC,tQ];omega
   have aw:xm.length≤(xm.flatMap rE).length:=jK _ (fun x=>by simp[rE]) xm
   obtain⟨W2,a2⟩:∃W2,Hid (W2=wr.alloc (.cells #[.string xn,.string xk,.slice xA xm.length xc] 99)):=⟨_,hid rfl⟩;have X1:Hid (SX w0 g pA pc m W bx #[.string nm,.slice gA gs.length gc,.slice wA ws.length wc,.slice kA ks.length kc,.slice (some ⟨b,off,none⟩) os.length oc,.slice fA fs.length fc,.slice cA cs.length cc] ((((([]++[Ev.t nm])++fD gs)++fD ws)++fD ks)++(Ev.n os.length :: (os.take k).flatMap (fun x=>jC x.o))) W2):=hid (by rw[a2.out];exact J.out.alloc _)
   have B1:Hid (bT W2 wr.heap.size 99 #[.string xn,.string xk,.slice xA xm.length xc]):=hid (by rw[a2.out];exact bT.new _ _ _)
   have a1:wr.heap.size≠g:=by
    obtain⟨A,cap,hx,hs⟩:=RS.x J.out.rv;have:=hx.lt;omega
   clear a0;go_upto_region 10 with fail;rw[←a2.out];generalize wr.heap.size=bm at *;clear y0 c0 c1 c2 J a2;have z0:W2.cell? ⟨bm,0,none⟩=some (.string xn):=B1.out.cell 0;have K:=hid (VT.out _ _ xn X1.out.rv (by simp only[aF,aG,aI];omega))
   go_wp2_with fail;refine K.out.mono ?_;rintro e w2 ⟨rfl,x,f⟩;have X2:=hid (X1.out.step Y x f);have B2:=hid (B1.out.kept f (by simpa using a1))
   clear x f K z0 X1 B1;have z0:w2.cell? ⟨bm,1,none⟩=some (.string xk):=B2.out.cell 1;have K:=hid (VT.out _ _ xk X2.out.rv (by simp only[aF,aG,aI];omega))
   go_wp2_with fail;refine K.out.mono ?_;rintro e w3 ⟨rfl,x,f⟩;have X3:=hid (X2.out.step Y x f);have B3:=hid (B2.out.kept f (by simpa using a1))
   clear x f K z0 X2 B2;have z0:w3.cell? ⟨bm,2,none⟩=some (.slice xA xm.length xc):=B3.out.cell 2;have K:=hid (VN.out _ _ (xm.length:Int) X3.out.rv (by simp only[aF,aG,aI];omega))
   go_wp2_with fail;refine K.out.mono ?_;rintro e w4 ⟨rfl,x,f⟩;have X4:=hid (X3.out.step Y x f);have B4:=hid (B3.out.kept f (by simpa using a1))
   clear x f K z0 X3 B3;have Y1:Hid (SX w0 g pA pc m W bx #[.string nm,.slice gA gs.length gc,.slice wA ws.length wc,.slice kA ks.length kc,.slice (some ⟨b,off,none⟩) os.length oc,.slice fA fs.length fc,.slice cA cs.length cc] (((((((([]++[Ev.t nm])++fD gs)++fD ws)++fD ks)++(Ev.n os.length :: (os.take k).flatMap (fun x=>jC x.o)))++[Ev.t xn])++[Ev.t xk])++(Ev.n xm.length :: (xm.take 0).flatMap rE)) w4):=hid (X4.out.ev (by simp))
   have z0:w4.cell? ⟨bm,2,none⟩=some (.slice xA xm.length xc):=B4.out.cell 2;go_wp2_with fail;clear z0 X4
   go_loopw [6] (fun i wx=>∃q:Nat,q≤xm.length∧i=.int .i64 q∧Hid (SX w0 g pA pc m W bx #[.string nm,.slice gA gs.length gc,.slice wA ws.length wc,.slice kA ks.length kc,.slice (some ⟨b,off,none⟩) os.length oc,.slice fA fs.length fc,.slice cA cs.length cc] (((((((([]++[Ev.t nm])++fD gs)++fD ws)++fD ks)++(Ev.n os.length :: (os.take k).flatMap (fun x=>jC x.o)))++[Ev.t xn])++[Ev.t xk])++(Ev.n xm.length :: (xm.take q).flatMap rE)) wx)∧Hid (bT wx bm 99 #[.string xn,.string xk,.slice xA xm.length xc])) (fun i _=>xm.length-(intOf i).toNat)
   case atStart=>exact⟨0,by omega,rfl,Y1,B4⟩
   case round=>
    obtain⟨q,hq,rfl,J,B0⟩:=hrel;clear Y1 B4
    rename World=>wx
    have z0:wx.cell? ⟨bm,2,none⟩=some (.slice xA xm.length xc):=B0.out.cell 2
    by_cases af:q<xm.length
    ·have d1:decide ((q:Int)<(xm.length:Int))=true:=aC (by omega)
     obtain⟨b2,a7,rfl,a6,c0,c1⟩:=qJ HM.out af;have av:=rP rE xm q af;have au:Hid ((((((((([]++[Ev.t nm])++fD gs)++fD ws)++fD ks)++(Ev.n os.length :: (os.take k).flatMap (fun x=>jC x.o)))++[Ev.t xn])++[Ev.t xk])++(Ev.n xm.length :: (xm.take q).flatMap rE))++rE xm[q] = (((((((([]++[Ev.t nm])++fD gs)++fD ws)++fD ks)++(Ev.n os.length :: (os.take k).flatMap (fun x=>jC x.o)))++[Ev.t xn])++[Ev.t xk])++(Ev.n xm.length :: (xm.take (q+1)).flatMap rE))):=hid (by rw[kX _ _ _ af];simp only[aS,aW])
     have ap:Hid (∀e w1,RV w0 g pA pc m e w1→w1.cell? ⟨b2,a7+q * 2,none⟩=some (.int .i64 xm[q].at_)):=hid (fun e w1 x=>(x.be.cell (show b2<w0.heap.size from a6)).trans c0)
     have ai:Hid (∀e w1,RV w0 g pA pc m e w1→w1.cell? ⟨b2,a7+q * 2+1,none⟩=some (.string xm[q].tag)):=hid (fun e w1 x=>(x.be.cell (show b2<w0.heap.size from a6)).trans c1)
     clear c0 c1 a6;have ax:(rE xm[q]).length=2:=rfl;generalize xm[q] = y at *;have c0:=ap.out _ _ J.out.rv;have K:=hid (VN.out _ _ y.at_ J.out.rv (by simp only[aF,aG,aI];omega))
     go_wp2_with fail;refine K.out.mono ?_;rintro e w6 ⟨rfl,x,f⟩;have X1:=hid (J.out.step Y x f);have B1:=hid (B0.out.kept f (by simpa using a1))
     clear x f K c0 z0 J B0;have c1:=ai.out _ _ X1.out.rv;have z1:w6.cell? ⟨bm,2,none⟩=some (.slice (some ⟨b2,a7,none⟩) xm.length xc):=B1.out.cell 2;have K:=hid (VT.out _ _ y.tag X1.out.rv (by simp only[aF,aG,aI];omega))
     go_wp2_with fail;refine K.out.mono ?_;rintro e w7 ⟨rfl,x,f⟩;have X2:Hid (SX w0 g pA pc m W bx #[.string nm,.slice gA gs.length gc,.slice wA ws.length wc,.slice kA ks.length kc,.slice (some ⟨b,off,none⟩) os.length oc,.slice fA fs.length fc,.slice cA cs.length cc] (((((((([]++[Ev.t nm])++fD gs)++fD ws)++fD ks)++(Ev.n os.length :: (os.take k).flatMap (fun x=>jC x.o)))++[Ev.t xn])++[Ev.t xk])++(Ev.n xm.length :: (xm.take (q+1)).flatMap rE)) w7):=hid ((X1.out.step Y x f).ev (by rw[←au.out];simp[rE]))
     have B2:=hid (B1.out.kept f (by simpa using a1))
     clear x f K c1 z1 X1 B1;go_wp2_with fail
     go_roundw
     case rel=>exact⟨q+1,by omega,by go_num,X2,B2⟩
     case measure=>simp[intOf];omega
    ·obtain rfl:q=xm.length:=by omega
     have d1:decide ((xm.length:Int)<(xm.length:Int))=false:=aB (by omega)
     have X5:Hid (SX w0 g pA pc m W bx #[.string nm,.slice gA gs.length gc,.slice wA ws.length wc,.slice kA ks.length kc,.slice (some ⟨b,off,none⟩) os.length oc,.slice fA fs.length fc,.slice cA cs.length cc] ((((([]++[Ev.t nm])++fD gs)++fD ws)++fD ks)++(Ev.n os.length :: (os.take (k+1)).flatMap (fun x=>jC x.o))) wx):=hid (J.out.ev (by rw[←a5.out,bF];simp[jC,tQ]))
     clear J;go_wp2_with fail
     go_roundw
     case rel=>exact⟨k+1,by omega,by go_num,X5⟩
     case measure=>simp[intOf];omega
  ·obtain rfl:k=os.length:=by omega
   have d1:decide ((os.length:Int)<(os.length:Int))=false:=aB (by omega)
   have X6:Hid (SX w0 g pA pc m W bx #[.string nm,.slice gA gs.length gc,.slice wA ws.length wc,.slice kA ks.length kc,.slice oA os.length oc,.slice fA fs.length fc,.slice cA cs.length cc] ((((([]++[Ev.t nm])++fD gs)++fD ws)++fD ks)++(Ev.n os.length :: os.flatMap (fun x=>jC x.o))) wr):=hid (J.out.ev (by rw[bF]))
   clear J;have y0:wr.cell? ⟨bx,5,none⟩=some (.slice fA fs.length fc):=X6.out.bx.cell 5;have K:=hid (VN.out _ _ (fs.length:Int) X6.out.rv (by simp only[aF,aG,aI];omega))
   go_wp2_with fail;refine K.out.mono ?_;rintro e w7 ⟨rfl,x,f⟩;have X7:=hid (X6.out.step Y x f);clear x f K y0 X6;have Yf:Hid (SX w0 g pA pc m W bx #[.string nm,.slice gA gs.length gc,.slice wA ws.length wc,.slice kA ks.length kc,.slice oA os.length oc,.slice fA fs.length fc,.slice cA cs.length cc] (((((([]++[Ev.t nm])++fD gs)++fD ws)++fD ks)++(Ev.n os.length :: os.flatMap (fun x=>jC x.o)))++(Ev.n fs.length :: (fs.take 0).flatMap (fun x=>mE x))) w7):=hid (X7.out.ev (by simp))
   clear X7;have y0:w7.cell? ⟨bx,5,none⟩=some (.slice fA fs.length fc):=Yf.out.bx.cell 5;go_wp2_with fail;clear y0
   go_loopw [7] (fun i wr=>∃k:Nat,k≤fs.length∧i=.int .i64 k∧Hid (SX w0 g pA pc m W bx #[.string nm,.slice gA gs.length gc,.slice wA ws.length wc,.slice kA ks.length kc,.slice oA os.length oc,.slice fA fs.length fc,.slice cA cs.length cc] (((((([]++[Ev.t nm])++fD gs)++fD ws)++fD ks)++(Ev.n os.length :: os.flatMap (fun x=>jC x.o)))++(Ev.n fs.length :: (fs.take k).flatMap (fun x=>mE x))) wr)) (fun i _=>fs.length-(intOf i).toNat)
   case atStart=>exact⟨0,by omega,rfl,Yf⟩
   case round=>
    obtain⟨k,hk,rfl,J⟩:=hrel;clear Yf;have y0:wr.cell? ⟨bx,5,none⟩=some (.slice fA fs.length fc):=J.out.bx.cell 5
    by_cases a3:k<fs.length
    ·have d1:decide ((k:Int)<(fs.length:Int))=true:=aC (by omega)
     obtain⟨b,off,rfl,a0,c0,c1,c2⟩:=lS Hf.out a3;replace c0:=(J.out.rv.be.cell (show b<w0.heap.size from a0)).trans c0;replace c1:=(J.out.rv.be.cell (show b<w0.heap.size from a0)).trans c1;replace c2:=(J.out.rv.be.cell (show b<w0.heap.size from a0)).trans c2;have a4:=rP (fun x=>mE x) fs k a3
     try dsimp only at a4
     have a5:Hid ((((((([]++[Ev.t nm])++fD gs)++fD ws)++fD ks)++(Ev.n os.length :: os.flatMap (fun x=>jC x.o)))++(Ev.n fs.length :: (fs.take k).flatMap (fun x=>mE x)))++mE fs[k] = (((((([]++[Ev.t nm])++fD gs)++fD ws)++fD ks)++(Ev.n os.length :: os.flatMap (fun x=>jC x.o)))++(Ev.n fs.length :: (fs.take (k+1)).flatMap (fun x=>mE x)))):=hid (by rw[kX _ _ _ a3];simp only[aS,aW])
     generalize fs[k] = x at *;obtain⟨xn,xk,xr⟩:=x;dsimp only at *;have aa:(mE ⟨xn,xk,xr⟩).length=3:=rfl;obtain⟨W2,a2⟩:∃W2,Hid (W2=wr.alloc (.cells #[.string xn,.string xk,.string xr] 103)):=⟨_,hid rfl⟩;have X1:Hid (SX w0 g pA pc m W bx #[.string nm,.slice gA gs.length gc,.slice wA ws.length wc,.slice kA ks.length kc,.slice oA os.length oc,.slice (some ⟨b,off,none⟩) fs.length fc,.slice cA cs.length cc] (((((([]++[Ev.t nm])++fD gs)++fD ws)++fD ks)++(Ev.n os.length :: os.flatMap (fun x=>jC x.o)))++(Ev.n fs.length :: (fs.take k).flatMap (fun x=>mE x))) W2):=hid (by rw[a2.out];exact J.out.alloc _)
     have B1:Hid (bT W2 wr.heap.size 103 #[.string xn,.string xk,.string xr]):=hid (by rw[a2.out];exact bT.new _ _ _)
     have a1:wr.heap.size≠g:=by
      obtain⟨A,cap,hx,hs⟩:=RS.x J.out.rv;have:=hx.lt;omega
     clear a0;go_upto_region 23 with fail;rw[←a2.out];generalize wr.heap.size=bm at *;clear y0 c0 c1 c2 J a2;have z0:W2.cell? ⟨bm,0,none⟩=some (.string xn):=B1.out.cell 0;have K:=hid (VT.out _ _ xn X1.out.rv (by simp only[aF,aG,aI];omega))
     go_wp2_with fail;refine K.out.mono ?_;rintro e w2 ⟨rfl,x,f⟩;have X2:=hid (X1.out.step Y x f);have B2:=hid (B1.out.kept f (by simpa using a1))
     clear x f K z0 X1 B1;have z0:w2.cell? ⟨bm,1,none⟩=some (.string xk):=B2.out.cell 1;have K:=hid (VT.out _ _ xk X2.out.rv (by simp only[aF,aG,aI];omega))
     go_wp2_with fail;refine K.out.mono ?_;rintro e w3 ⟨rfl,x,f⟩;have X3:=hid (X2.out.step Y x f);have B3:=hid (B2.out.kept f (by simpa using a1))
     clear x f K z0 X2 B2;have z0:w3.cell? ⟨bm,2,none⟩=some (.string xr):=B3.out.cell 2;have K:=hid (VT.out _ _ xr X3.out.rv (by simp only[aF,aG,aI];omega))
     go_wp2_with fail;refine K.out.mono ?_;rintro e w4 ⟨rfl,x,f⟩;have X4:=hid (X3.out.step Y x f);have B4:=hid (B3.out.kept f (by simpa using a1))
     clear x f K z0 X3 B3;have Xe:Hid (SX w0 g pA pc m W bx #[.string nm,.slice gA gs.length gc,.slice wA ws.length wc,.slice kA ks.length kc,.slice oA os.length oc,.slice (some ⟨b,off,none⟩) fs.length fc,.slice cA cs.length cc] (((((([]++[Ev.t nm])++fD gs)++fD ws)++fD ks)++(Ev.n os.length :: os.flatMap (fun x=>jC x.o)))++(Ev.n fs.length :: (fs.take (k+1)).flatMap (fun x=>mE x))) w4):=hid (X4.out.ev (by rw[←a5.out];simp[mE,mQ]))
     clear X4 B4;go_wp2_with fail
     go_roundw
     case rel=>exact⟨k+1,by omega,by go_num,Xe⟩
     case measure=>simp[intOf];omega
    ·obtain rfl:k=fs.length:=by omega
     have d1:decide ((fs.length:Int)<(fs.length:Int))=false:=aB (by omega)
     have X8:Hid (SX w0 g pA pc m W bx #[.string nm,.slice gA gs.length gc,.slice wA ws.length wc,.slice kA ks.length kc,.slice oA os.length oc,.slice fA fs.length fc,.slice cA cs.length cc] (((((([]++[Ev.t nm])++fD gs)++fD ws)++fD ks)++(Ev.n os.length :: os.flatMap (fun x=>jC x.o)))++(Ev.n fs.length :: fs.flatMap (fun x=>mE x))) wr):=hid (J.out.ev (by rw[bF]))
     clear J;have y0:wr.cell? ⟨bx,6,none⟩=some (.slice cA cs.length cc):=X8.out.bx.cell 6;have K:=hid (VN.out _ _ (cs.length:Int) X8.out.rv (by simp only[aF,aG,aI];omega))
     go_wp2_with fail;refine K.out.mono ?_;rintro e w9 ⟨rfl,x,f⟩;have X9:=hid (X8.out.step Y x f);clear x f K y0 X8;have Yc:Hid (SX w0 g pA pc m W bx #[.string nm,.slice gA gs.length gc,.slice wA ws.length wc,.slice kA ks.length kc,.slice oA os.length oc,.slice fA fs.length fc,.slice cA cs.length cc] ((((((([]++[Ev.t nm])++fD gs)++fD ws)++fD ks)++(Ev.n os.length :: os.flatMap (fun x=>jC x.o)))++(Ev.n fs.length :: fs.flatMap (fun x=>mE x)))++(Ev.n cs.length :: (cs.take 0).flatMap (fun x=>mQ x.c))) w9):=hid (X9.out.ev (by simp))
     clear X9;have y0:w9.cell? ⟨bx,6,none⟩=some (.slice cA cs.length cc):=Yc.out.bx.cell 6;go_wp2_with fail;clear y0
     go_loopw [9] (fun i wr=>∃k:Nat,k≤cs.length∧i=.int .i64 k∧Hid (SX w0 g pA pc m W bx #[.string nm,.slice gA gs.length gc,.slice wA ws.length wc,.slice kA ks.length kc,.slice oA os.length oc,.slice fA fs.length fc,.slice cA cs.length cc] ((((((([]++[Ev.t nm])++fD gs)++fD ws)++fD ks)++(Ev.n os.length :: os.flatMap (fun x=>jC x.o)))++(Ev.n fs.length :: fs.flatMap (fun x=>mE x)))++(Ev.n cs.length :: (cs.take k).flatMap (fun x=>mQ x.c))) wr)) (fun i _=>cs.length-(intOf i).toNat)
     case atStart=>exact⟨0,by omega,rfl,Yc⟩
     case round=>
      obtain⟨k,hk,rfl,J⟩:=hrel;clear Yc;have y0:wr.cell? ⟨bx,6,none⟩=some (.slice cA cs.length cc):=J.out.bx.cell 6
      by_cases a3:k<cs.length
      ·have d1:decide ((k:Int)<(cs.length:Int))=true:=aC (by omega)
       obtain⟨b,off,rfl,a0,c0,c1,c2,c3,c4,c5⟩:=kH Hc.out a3;replace c0:=(J.out.rv.be.cell (show b<w0.heap.size from a0)).trans c0;replace c1:=(J.out.rv.be.cell (show b<w0.heap.size from a0)).trans c1;replace c2:=(J.out.rv.be.cell (show b<w0.heap.size from a0)).trans c2;replace c3:=(J.out.rv.be.cell (show b<w0.heap.size from a0)).trans c3;replace c4:=(J.out.rv.be.cell (show b<w0.heap.size from a0)).trans c4;replace c5:=(J.out.rv.be.cell (show b<w0.heap.size from a0)).trans c5;have a4:=rP (fun x=>mQ x.c) cs k a3
       try dsimp only at a4
       have a5:Hid (((((((([]++[Ev.t nm])++fD gs)++fD ws)++fD ks)++(Ev.n os.length :: os.flatMap (fun x=>jC x.o)))++(Ev.n fs.length :: fs.flatMap (fun x=>mE x)))++(Ev.n cs.length :: (cs.take k).flatMap (fun x=>mQ x.c)))++mQ cs[k].c=((((((([]++[Ev.t nm])++fD gs)++fD ws)++fD ks)++(Ev.n os.length :: os.flatMap (fun x=>jC x.o)))++(Ev.n fs.length :: fs.flatMap (fun x=>mE x)))++(Ev.n cs.length :: (cs.take (k+1)).flatMap (fun x=>mQ x.c)))):=hid (by rw[kX _ _ _ a3];simp only[aS,aW])
       have a8:=ak.out cs[k] (aR a3);generalize cs[k] = x at *;obtain⟨⟨xo,xa,xb,xk,xt,xg⟩,xA,xc⟩:=x;dsimp only at *;have HM:=hid a8.g;clear a8;have aa:(mQ ⟨xo,xa,xb,xk,xt,xg⟩).length=5+(fD xg).length:=by simp[mQ];omega
       obtain⟨W2,a2⟩:∃W2,Hid (W2=wr.alloc (.cells #[.int .i64 xo,.string xa,.string xb,.int .i64 xk,.string xt,.slice xA xg.length xc] 105)):=⟨_,hid rfl⟩;have X1:Hid (SX w0 g pA pc m W bx #[.string nm,.slice gA gs.length gc,.slice wA ws.length wc,.slice kA ks.length kc,.slice oA os.length oc,.slice fA fs.length fc,.slice (some ⟨b,off,none⟩) cs.length cc] ((((((([]++[Ev.t nm])++fD gs)++fD ws)++fD ks)++(Ev.n os.length :: os.flatMap (fun x=>jC x.o)))++(Ev.n fs.length :: fs.flatMap (fun x=>mE x)))++(Ev.n cs.length :: (cs.take k).flatMap (fun x=>mQ x.c))) W2):=hid (by rw[a2.out];exact J.out.alloc _)
       have B1:Hid (bT W2 wr.heap.size 105 #[.int .i64 xo,.string xa,.string xb,.int .i64 xk,.string xt,.slice xA xg.length xc]):=hid (by rw[a2.out];exact bT.new _ _ _)
       have a1:wr.heap.size≠g:=by
        obtain⟨A,cap,hx,hs⟩:=RS.x J.out.rv;have:=hx.lt;omega
       clear a0;go_upto_region 31 with fail;rw[←a2.out];generalize wr.heap.size=bm at *;clear y0 c0 c1 c2 c3 c4 c5 J a2;have z0:W2.cell? ⟨bm,0,none⟩=some (.int .i64 xo):=B1.out.cell 0;have K:=hid (VN.out _ _ xo X1.out.rv (by simp only[aF,aG,aI];omega))
       go_wp2_with fail;refine K.out.mono ?_;rintro e w2 ⟨rfl,x,f⟩;have X2:=hid (X1.out.step Y x f);have B2:=hid (B1.out.kept f (by simpa using a1))
       clear x f K z0 X1 B1;have z0:w2.cell? ⟨bm,1,none⟩=some (.string xa):=B2.out.cell 1;have K:=hid (VT.out _ _ xa X2.out.rv (by simp only[aF,aG,aI];omega))
       go_wp2_with fail;refine K.out.mono ?_;rintro e w3 ⟨rfl,x,f⟩;have X3:=hid (X2.out.step Y x f);have B3:=hid (B2.out.kept f (by simpa using a1))
       clear x f K z0 X2 B2;have z0:w3.cell? ⟨bm,2,none⟩=some (.string xb):=B3.out.cell 2;have K:=hid (VT.out _ _ xb X3.out.rv (by simp only[aF,aG,aI];omega))
       go_wp2_with fail;refine K.out.mono ?_;rintro e w4 ⟨rfl,x,f⟩;have X4:=hid (X3.out.step Y x f);have B4:=hid (B3.out.kept f (by simpa using a1))
       clear x f K z0 X3 B3;have z0:w4.cell? ⟨bm,3,none⟩=some (.int .i64 xk):=B4.out.cell 3;have K:=hid (VN.out _ _ xk X4.out.rv (by simp only[aF,aG,aI];omega))
       go_wp2_with fail;refine K.out.mono ?_;rintro e w5 ⟨rfl,x,f⟩;have X5:=hid (X4.out.step Y x f);have B5:=hid (B4.out.kept f (by simpa using a1))
       clear x f K z0 X4 B4;have z0:w5.cell? ⟨bm,4,none⟩=some (.string xt):=B5.out.cell 4;have K:=hid (VT.out _ _ xt X5.out.rv (by simp only[aF,aG,aI];omega))
       go_wp2_with fail;refine K.out.mono ?_;rintro e w6 ⟨rfl,x,f⟩;have X6:=hid (X5.out.step Y x f);have B6:=hid (B5.out.kept f (by simpa using a1))
       clear x f K z0 X5 B5;have z0:w6.cell? ⟨bm,5,none⟩=some (.slice xA xg.length xc):=B6.out.cell 5;have K:=hid (VL.out _ _ xA xc xg HM.out X6.out.rv (by simp only[aF,aG,aI];omega))
       go_wp2_with fail;refine K.out.mono ?_;rintro e w7 ⟨rfl,x,f⟩;have X7:=hid (X6.out.step Y x f);have B7:=hid (B6.out.kept f (by simpa using a1))
       clear x f K z0 X6 B6;have Xe:Hid (SX w0 g pA pc m W bx #[.string nm,.slice gA gs.length gc,.slice wA ws.length wc,.slice kA ks.length kc,.slice oA os.length oc,.slice fA fs.length fc,.slice (some ⟨b,off,none⟩) cs.length cc] ((((((([]++[Ev.t nm])++fD gs)++fD ws)++fD ks)++(Ev.n os.length :: os.flatMap (fun x=>jC x.o)))++(Ev.n fs.length :: fs.flatMap (fun x=>mE x)))++(Ev.n cs.length :: (cs.take (k+1)).flatMap (fun x=>mQ x.c))) w7):=hid (X7.out.ev (by rw[←a5.out];simp[mE,mQ]))
       clear X7 B7;go_wp2_with fail
       go_roundw
       case rel=>exact⟨k+1,by omega,by go_num,Xe⟩
       case measure=>simp[intOf];omega
      ·obtain rfl:k=cs.length:=by omega
       have d1:decide ((cs.length:Int)<(cs.length:Int))=false:=aB (by omega)
       have am:Hid (SX w0 g pA pc m W bx #[.string nm,.slice gA gs.length gc,.slice wA ws.length wc,.slice kA ks.length kc,.slice oA os.length oc,.slice fA fs.length fc,.slice cA cs.length cc] ((((((([]++[Ev.t nm])++fD gs)++fD ws)++fD ks)++(Ev.n os.length :: os.flatMap (fun x=>jC x.o)))++(Ev.n fs.length :: fs.flatMap (fun x=>mE x)))++(Ev.n cs.length :: cs.flatMap (fun x=>mQ x.c))) wr):=hid (J.out.ev (by rw[bF]))
       clear J;go_wp2_with fail
       go_end0
       exact⟨rfl,ah.out _ _ am.out⟩
end re
set_option maxRecDepth 100000
namespace re
open RowKit Shelf mem sy vx vr po inn
theorem yI(w:World)(pA:Option Addr)(pc:Nat)(m:List (List UInt8))(hp:Rd w pA (m.map encStr))(hm:m.length≤1000000)(u:MU)(hu:eY w u)(hl:(dB u.su).length≤1000000) :
 Calls Tryz.prog 38 #[.slice pA m.length pc,u.val] w (RP (fM m (dB u.su)) w):=by
 obtain⟨W,J⟩:∃W,Hid (W=(w.alloc (.cells u.row 29)).alloc (.cells #[.slice pA m.length pc,.string ⟨#[]⟩,.slice none 0 0,.int .i64 0] 135)):=⟨_,hid rfl⟩;have hz:(w.alloc (.cells u.row 29)).heap.size=w.heap.size+1:=bH _;have a0:Fr [] w W:=by rw[J.out];exact((Fr.refl [] w).alloc _).alloc _
 have Y:bT W w.heap.size 29 u.row:=by rw[J.out];exact(bT.new w _ _).kept ((Fr.refl [] _).alloc _) (by simp)
 have B1:bT W (w.heap.size+1) 135 #[.slice pA m.length pc,.string ⟨#[]⟩,.slice none 0 0,.int .i64 0]:=by
  rw[J.out,←hz];exact bT.new _ _ _
 have h0:RV w (w.heap.size+1) pA pc m [] W:=⟨a0.all,by omega,none,0,B1,Seg.nil _ _⟩
 have KP:=hid (aMZ hp hm u hu h0 hl);unfold RVP at KP;have hX:Hid (∀w',RV w (w.heap.size+1) pA pc m (dB u.su) w'→w'.cell? ⟨w.heap.size+1,1,none⟩=some (.string (bs (fM m (dB u.su)).1))∧w'.cell? ⟨w.heap.size+1,3,none⟩=some (.int .i64 (fM m (dB u.su)).2)∧Below w.heap.size w w'):=hid (fun w' s=>⟨(RS.cells s).2.1,(RS.cells s).2.2.1,s.be⟩)
 have x0:W.cell? ⟨w.heap.size,0,none⟩=_:=Y.cell 0;have x1:W.cell? ⟨w.heap.size,1,none⟩=_:=Y.cell 1;have x2:W.cell? ⟨w.heap.size,2,none⟩=_:=Y.cell 2;have x3:W.cell? ⟨w.heap.size,3,none⟩=_:=Y.cell 3;have x4:W.cell? ⟨w.heap.size,4,none⟩=_:=Y.cell 4;have x5:W.cell? ⟨w.heap.size,5,none⟩=_:=Y.cell 5;have x6:W.cell? ⟨w.heap.size,6,none⟩=_:=Y.cell 6;generalize fM m (dB u.su)=st at *;generalize dB u.su=a3 at *;clear h0 hp hu hl Y B1 a0;obtain⟨nm,gA,gc,gs,wA,wc,ws,kA,kc,ks,⟨oA,oc,os,fA,fc,fs,cA,cc,cs⟩⟩:=u;unfold MU.val MU.row at *;dsimp only at *;simp only[aL,aJ,aK]at x0 x1 x2 x3 x4 x5 x6;obtain⟨R,E⟩:=st;dsimp only at hX;go_enter Tryz.func38,Tryz.ntmps38;go_upto_region 2 with fail;rw[←J.out]
 try rw[hz]
 clear hz;go_wp2_with fail;refine KP.out.mono ?_;rintro e w2 ⟨rfl,s2,f2⟩;obtain⟨c1,c3,b3⟩:=hX.out _ s2;have hb:=hid b3;clear s2 f2 x0 x1 x2 x3 x4 x5 x6 KP hX b3
 by_cases hE:E=0
 ·subst hE
  have hv:Hid (bs (oF (R,0))=bs R):=hid rfl;go_wp2_with fail;refine bodyPost_ret (results_tmp2 rfl _ _ _) rfl ?_;exact⟨rfl,hb.out⟩
 ·have d0:(E != 0)=true:=by simpa using hE
  have a2:w2.drew.cell? ⟨w.heap.size+1,3,none⟩=some (.int .i64 E):=c3;have a1:=hid hb.out.drew;have hv:Hid (bs (oF (R,E))=⟨#[]⟩):=hid (by unfold oF;rw[if_pos hE];rfl)
  go_wp2_with fail
  go_region
  all_goals go_wp2_with fail
  all_goals (refine bodyPost_ret (results_tmp2 rfl _ _ _) rfl ?_;exact⟨by rw[hv.out];rfl,a1.out⟩)
theorem uW(w:World)(u:MU)(hu:eY w u)(hl:(dB u.su).length≤1000000) :
 Calls Tryz.prog 37 #[u.val] w (TP (jP ((oM (dB u.su)).map tx)) w):=by
 obtain⟨W,J⟩:∃W,Hid (W=(w.alloc (.cells u.row 29)).alloc (.cells #[.slice none 0 0,.string ⟨#[]⟩,.slice none 0 0,.int .i64 0] 135)):=⟨_,hid rfl⟩;have hz:(w.alloc (.cells u.row 29)).heap.size=w.heap.size+1:=bH _;have a0:Fr [] w W:=by rw[J.out];exact((Fr.refl [] w).alloc _).alloc _
 have Y:bT W w.heap.size 29 u.row:=by rw[J.out];exact(bT.new w _ _).kept ((Fr.refl [] _).alloc _) (by simp)
 have B1:bT W (w.heap.size+1) 135 #[.slice none 0 0,.string ⟨#[]⟩,.slice none 0 0,.int .i64 0]:=by
  rw[J.out,←hz];exact bT.new _ _ _
 have h0:RV w (w.heap.size+1) none 0 [] [] W:=⟨a0.all,by omega,none,0,B1,Seg.nil _ _⟩
 have KP:=hid (aMZ (m:=[]) (fun hz=>by simp at hz) (by simp) u hu h0 hl)
 unfold RVP at KP
 have hX:Hid (∀w',RV w (w.heap.size+1) none 0 [] (dB u.su) w'→∃A cap,w'.cell? ⟨w.heap.size+1,2,none⟩=some (.slice A (jP ((oM (dB u.su)).map tx)).length cap)∧Rd w' A ((jP ((oM (dB u.su)).map tx)).map encStr)∧Below w.heap.size w w'):=hid (fun w' s=>by
  obtain⟨A,cap,hb,hs⟩:=RS.x s
  exact⟨A,cap,hb.cell 2,hs.rd,s.be⟩)
 have x0:W.cell? ⟨w.heap.size,0,none⟩=_:=Y.cell 0;have x1:W.cell? ⟨w.heap.size,1,none⟩=_:=Y.cell 1;have x2:W.cell? ⟨w.heap.size,2,none⟩=_:=Y.cell 2;have x3:W.cell? ⟨w.heap.size,3,none⟩=_:=Y.cell 3;have x4:W.cell? ⟨w.heap.size,4,none⟩=_:=Y.cell 4;have x5:W.cell? ⟨w.heap.size,5,none⟩=_:=Y.cell 5;have x6:W.cell? ⟨w.heap.size,6,none⟩=_:=Y.cell 6;generalize jP ((oM (dB u.su)).map tx)=L at *;generalize dB u.su=a1 at *;clear h0 hu hl Y B1 a0;obtain⟨nm,gA,gc,gs,wA,wc,ws,kA,kc,ks,⟨oA,oc,os,fA,fc,fs,cA,cc,cs⟩⟩:=u;unfold MU.val MU.row at *;dsimp only at *;simp only[aL,aJ,aK]at x0 x1 x2 x3 x4 x5 x6;go_enter Tryz.func37,Tryz.ntmps37;go_upto_region 2 with fail;rw[←J.out]
 try rw[hz]
 clear hz;go_wp2_with fail;refine KP.out.mono ?_;rintro e w2 ⟨rfl,s2,f2⟩;obtain⟨A,cap,c2,r3,b3⟩:=hX.out _ s2;have hb:=hid b3;have hr:=hid r3;clear s2 f2 x0 x1 x2 x3 x4 x5 x6 KP hX b3 r3;go_wp2_with fail;go_ret;exact⟨A,cap,rfl,hr.out,hb.out⟩
end re
end Go.Proofs.YtdmmkjijgoiecaaGreatDoor
