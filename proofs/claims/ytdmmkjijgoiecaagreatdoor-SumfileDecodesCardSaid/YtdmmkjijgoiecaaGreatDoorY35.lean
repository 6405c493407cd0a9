import Derived.Laws.Cover1
import Derived.Lib.QuietBelow
import Derived.Lib.SmallJoins
import Derived.Shelf.Slices.Cells
import Derived.Shelf.Slices.Clone
import Derived.Shelf.Slices.In.SortNone
import Derived.Shelf.Small.Bits
import Derived.Shelf.Small.Utf8
import Derived.Shelf.Small.Wraps
import Derived.Shelf.Sort.Plain
import Derived.Shelf.Strconv.Itoa3
import Derived.Shelf.Strings.AsciiSet
import Derived.Shelf.Strings.Runes
import Derived.Shelf.Strings.Shaped
import Derived.Shelf.Strings.Trim
import Derived.Shelf.Unicode.DecodeSlow
import Derived.WalkSmall
import Derived.WalkSpells
import Derived.Test.YtdmmkjijgoiecaaGreatDoorY04
set_option linter.all false
set_option maxHeartbeats 4000000
namespace Go.Proofs.YtdmmkjijgoiecaaGreatDoor
open Lib(hid)
set_option maxRecDepth 100000
namespace sy
open RowKit Go.Sort mem
def mX(a b:ByteArray):Bool:=Op.bytesLess a.toList b.toList
def gV(a b:ByteArray):Int:=bif mX a b then -1 else bif mX b a then 1 else 0
def lV(a b:Int):Int:=if a<b then -1 else if b<a then 1 else 0
theorem aCq(a b:List UInt8):(!(Op.bytesLess a b||a==b))=Op.bytesLess b a:=by
 rw[bytesLess_eq,bytesLess_eq];by_cases Y:a<b
 ·have J:¬b<a:=fun h=>List.lt_irrefl a (List.lt_trans Y h)
  simp[Y,J]
 ·by_cases J:a=b
  ·subst J
   simp[List.lt_irrefl]
  ·have h3:b<a:=by
    rcases List.le_iff_lt_or_eq.1 (List.not_lt.1 Y)with h | h
    ·exact h
    ·exact absurd h.symm J
   simp[Y,J,h3]
def gD(x:Int)(w:World)(e:Ending)(w':World):Prop:=e=.returned (.int .i64 x)∧w'=w
theorem aIK(a b:Int)(w:World):Calls Tryz.prog 162 #[.int .i64 a,.int .i64 b] w (gD (lV a b) w):=by
 unfold lV;by_cases Y:a<b
 ·have d1:decide (a<b)=true:=aC Y
  rw[if_pos Y];go_enter Tryz.func162,Tryz.ntmps162;go_wp2_with fail;go_ret;exact⟨rfl,rfl⟩
 ·have d1:decide (a<b)=false:=aB Y
  rw[if_neg Y];by_cases J:b<a
  ·have d2:decide (b<a)=true:=aC J
   rw[if_pos J];go_enter Tryz.func162,Tryz.ntmps162;go_wp2_with fail;go_ret;exact⟨rfl,rfl⟩
  ·have d2:decide (b<a)=false:=aB J
   rw[if_neg J];go_enter Tryz.func162,Tryz.ntmps162;go_wp2_with fail;go_ret;exact⟨rfl,rfl⟩
theorem aBH(a b:ByteArray)(w:World):Calls Tryz.prog 163 #[.string a,.string b] w (gD (gV a b) w):=by
 have J:=aCq a.toList b.toList;unfold gV mX;rcases h1:Op.bytesLess a.toList b.toList with _ | _
 ·rw[cond_false]
  rw[h1,Bool.false_or]at J;rcases Y:Op.bytesLess b.toList a.toList with _ | _
  ·rw[cond_false]
   rw[Y]at J;have he:(a.toList==b.toList)=true:=by simpa using J
   clear J;go_enter Tryz.func163,Tryz.ntmps163;go_wp2_with fail;go_ret;exact⟨rfl,rfl⟩
  ·rw[cond_true]
   rw[Y]at J;have he:(a.toList==b.toList)=false:=by simpa using J
   clear J;go_enter Tryz.func163,Tryz.ntmps163;go_wp2_with fail;go_ret;exact⟨rfl,rfl⟩
 ·rw[cond_true]
  clear J;go_enter Tryz.func163,Tryz.ntmps163;go_wp2_with fail;go_ret;exact⟨rfl,rfl⟩
theorem aJD(a:ByteArray)(w:World):Calls Tryz.prog 206 #[.string a] w fun e w'=>e=.returned (.bool false)∧w'=w:=by
 have h:(a.data != a.data)=false:=by simp
 go_enter Tryz.func206,Tryz.ntmps206;go_wp2_with fail;go_ret;exact⟨rfl,rfl⟩
theorem zN(a b:ByteArray)(w:World):Calls Tryz.prog 179 #[.string a,.string b] w (gD (gV a b) w):=by
 have Y:=hid aJD;have J:=aCq a.toList b.toList;unfold gV mX;rcases h1:Op.bytesLess a.toList b.toList with _ | _
 ·rw[cond_false]
  rw[h1,Bool.false_or]at J;rcases h2:Op.bytesLess b.toList a.toList with _ | _
  ·rw[cond_false]
   rw[h2]at J;have he:(a.toList==b.toList)=true:=by simpa using J
   clear J;go_enter Tryz.func179,Tryz.ntmps179
   go_wp2_with (refine(Y.out _ _).mono ?_;rintro e w2 ⟨rfl,rfl⟩)
   go_ret;exact⟨rfl,rfl⟩
  ·rw[cond_true]
   rw[h2]at J;have he:(a.toList==b.toList)=false:=by simpa using J
   clear J;go_enter Tryz.func179,Tryz.ntmps179
   go_wp2_with (refine(Y.out _ _).mono ?_;rintro e w2 ⟨rfl,rfl⟩)
   go_ret;exact⟨rfl,rfl⟩
 ·rw[cond_true]
  clear J;go_enter Tryz.func179,Tryz.ntmps179
  go_wp2_with (refine(Y.out _ _).mono ?_;rintro e w2 ⟨rfl,rfl⟩)
  go_ret;exact⟨rfl,rfl⟩
def kR:List Int→Int
 | []=>0
 | x :: r=>if x=0 then kR r else x
def sU:List ByteArray→List ByteArray→Int
 | [],[]=>0
 | [],_ :: _=>-1
 | _ :: _,[]=>1
 | a :: r,b :: s=>if gV a b=0 then sU r s else gV a b
theorem yF{l:List Int}{k:Nat}(J:k<l.length):kR (l.drop k)=if l[k] = 0 then kR (l.drop (k+1)) else l[k]:=by
 rw[bD J];rfl
theorem aAQ(l:List Int):kR (l.drop l.length)=0:=by
 rw[List.drop_length];rfl
def ints(l:List Int):List Value:=l.map fun x=>.int .i64 x
theorem aB4{w:World}{A:Option Addr}{l:List Int}(h:Rd w A (ints l))(Y:0<l.length):∃g o,A=some ⟨g,o,none⟩∧g<w.heap.size∧∀j (J:j<l.length),w.cell? ⟨g,o+j,none⟩=some (.int .i64 l[j]):=by
 obtain⟨g,o,rfl,hl,hc⟩:=h (by simpa[ints] using Y);exact⟨g,o,rfl,hl,fun j J=>by rw[hc j (by simpa[ints] using J)];simp[ints]⟩
theorem zU{w:World}{A:Option Addr}{l:List ByteArray}(h:Rd w A (l.map Value.string))(Y:0<l.length):∃g o,A=some ⟨g,o,none⟩∧g<w.heap.size∧∀j (J:j<l.length),w.cell? ⟨g,o+j,none⟩=some (.string l[j]):=by
 obtain⟨g,o,rfl,hl,hc⟩:=h (by simpa using Y);exact⟨g,o,rfl,hl,fun j J=>by rw[hc j (by simpa using J)];simp⟩
theorem aMg(w:World)(A:Option Addr)(c:Nat)(l:List Int)(h:Rd w A (ints l))(hl:l.length≤maxLen):Calls Tryz.prog 177 #[.slice A l.length c] w (gD (kR l) w):=by
 unfold maxLen at hl;have hF:Hid (kR l=kR (l.drop 0)):=hid rfl;have Hh:=hid h;clear h;generalize kR l=R at *;go_enter Tryz.func177,Tryz.ntmps177;go_wp2_with fail;go_loopw [8] (fun i wr=>∃k:Nat,k≤l.length∧i=.int .i64 k∧Hid (R=kR (l.drop k))∧w=wr) (fun i _=>l.length-(intOf i).toNat)
 case atStart=>exact⟨0,by omega,rfl,hF,rfl⟩
 case round=>
  obtain⟨k,hk,rfl,hf,rfl⟩:=hrel;by_cases a0:k<l.length
  ·have e1:decide ((k:Int)<(l.length:Int))=true:=aC (by omega)
   obtain⟨b,off,rfl,a1,hcell⟩:=aB4 Hh.out (by omega);have c1:=hcell k a0;have Y:=hid (hf.out.trans (yF a0));clear hcell;generalize l[k] = x at c1 Y;by_cases hx:x=0
   ·subst hx
    have J:Hid (R=kR (l.drop (k+1))):=hid (Y.out.trans (if_pos rfl));clear hf Y;go_wp2_with fail;go_roundw
    case rel=>exact⟨k+1,by omega,by go_num,J,trivial⟩
    case measure=>simp[intOf];omega
   ·have a2:(x != 0)=true:=by simpa using hx
    have J:Hid (R=x):=hid (Y.out.trans (if_neg hx));clear hf Y;go_wp2_with fail;go_ret;exact⟨rI J.out.symm,rfl⟩
  ·obtain rfl:k=l.length:=by omega
   have e1:decide ((l.length:Int)<(l.length:Int))=false:=aB (by omega);have J:Hid (R=0):=hid (hf.out.trans (aAQ l));clear hf;go_wp2_with fail;go_ret;exact⟨rI J.out.symm,rfl⟩
theorem aJm{l m:List ByteArray}{k:Nat}(J:k<l.length)(Y:k<m.length):sU (l.drop k) (m.drop k)=if gV l[k] m[k] = 0 then sU (l.drop (k+1)) (m.drop (k+1)) else gV l[k] m[k]:=by
 rw[bD J,bD Y];rfl
theorem aIR{l m:List ByteArray}{k:Nat}(J:k<l.length)(Y:m.length≤k):sU (l.drop k) (m.drop k)=1:=by
 rw[bD J,List.drop_of_length_le Y];rfl
theorem aGD{l m:List ByteArray}(J:l.length<m.length):sU (l.drop l.length) (m.drop l.length)=-1:=by
 rw[List.drop_length,bD J];rfl
theorem aI8{l m:List ByteArray}(J:l.length=m.length):sU (l.drop l.length) (m.drop l.length)=0:=by
 rw[List.drop_length,J,List.drop_length];rfl
theorem aHu(w:World)(A B:Option Addr)(c d:Nat)(l m:List ByteArray)(h:Rd w A (l.map Value.string))(h2:Rd w B (m.map Value.string))(hl:l.length≤maxLen)(hm:m.length≤maxLen):Calls Tryz.prog 180 #[.slice A l.length c,.slice B m.length d] w (gD (sU l m) w):=by
 unfold maxLen at hl hm;have hF:Hid (sU l m=sU (l.drop 0) (m.drop 0)):=hid rfl;have Hc:=hid (fun a b w=>zN a b w);unfold gD at Hc;have Hh:=hid h;have Hm:=hid h2;clear h h2;generalize sU l m=R at *;go_enter Tryz.func180,Tryz.ntmps180;go_wp2_with fail;go_loopw [11] (fun i wr=>∃k:Nat,k≤l.length∧k≤m.length∧i=.int .i64 k∧Hid (R=sU (l.drop k) (m.drop k))∧w=wr) (fun i _=>l.length-(intOf i).toNat)
 case atStart=>exact⟨0,by omega,by omega,rfl,hF,rfl⟩
 case round=>
  obtain⟨k,hk,a8,rfl,hf,rfl⟩:=hrel;by_cases a0:k<l.length
  ·have e1:decide ((k:Int)<(l.length:Int))=true:=aC (by omega)
   obtain⟨b,off,rfl,a6,hcell⟩:=zU Hh.out (by omega);have c1:=hcell k a0;clear hcell;by_cases a1:k<m.length
   ·have e2:decide ((m.length:Int)≤(k:Int))=false:=aB (by omega)
    obtain⟨b2,a5,rfl,a4,hcell⟩:=zU Hm.out (by omega);have c2:=hcell k a1;have Y:=hid (hf.out.trans (aJm a0 a1));clear hcell;generalize l[k] = x at c1 Y;generalize m[k] = y at c2 Y;by_cases hx:gV x y=0
    ·have J:Hid (R=sU (l.drop (k+1)) (m.drop (k+1))):=hid (Y.out.trans (if_pos hx))
     clear hf Y
     go_wp2_with (refine(Hc.out _ _ _).mono ?_;rintro e w2 ⟨rfl,rfl⟩;rw[hx])
     go_roundw
     case rel=>exact⟨k+1,by omega,by omega,by go_num,J,trivial⟩
     case measure=>simp[intOf];omega
    ·have J:Hid (R=gV x y):=hid (Y.out.trans (if_neg hx))
     have a7:(gV x y != 0)=true:=by simpa using hx
     clear hf Y;rw[J.out];clear J;generalize a2:gV x y=z at *
     go_wp2_with (refine(Hc.out _ _ _).mono ?_;rintro e w2 ⟨rfl,rfl⟩;rw[a2])
     go_ret;exact⟨rfl,rfl⟩
   ·have e2:decide ((m.length:Int)≤(k:Int))=true:=aC (by omega)
    have J:Hid (R=1):=hid (hf.out.trans (aIR a0 (by omega)));clear hf;go_wp2_with fail;go_ret;exact⟨rI J.out.symm,rfl⟩
  ·obtain rfl:k=l.length:=by omega
   have e1:decide ((l.length:Int)<(l.length:Int))=false:=aB (by omega);by_cases a3:l.length<m.length
   ·have e2:decide ((l.length:Int)<(m.length:Int))=true:=aC (by omega)
    have J:Hid (R=-1):=hid (hf.out.trans (aGD a3));clear hf;go_wp2_with fail;go_ret;exact⟨rI J.out.symm,rfl⟩
   ·have e2:decide ((l.length:Int)<(m.length:Int))=false:=aB (by omega)
    have J:Hid (R=0):=hid (hf.out.trans (aI8 (by omega)));clear hf;go_wp2_with fail;go_ret;exact⟨rI J.out.symm,rfl⟩
end sy
end Go.Proofs.YtdmmkjijgoiecaaGreatDoor
