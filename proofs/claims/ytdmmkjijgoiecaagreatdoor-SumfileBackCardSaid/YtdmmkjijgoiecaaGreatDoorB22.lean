import Derived.Laws.Cover1
import Derived.Lib.QuietBelow
import Derived.Lib.SmallJoins
import Derived.Shelf.Slices.Cells
import Derived.Shelf.Slices.Clone
import Derived.Shelf.Slices.In.SortNone
import Derived.Shelf.Small.Bits
import Derived.Shelf.Small.Utf8
import Derived.Shelf.Small.Wraps
import Derived.Shelf.Sort.Plain
import Derived.Shelf.Strconv.Itoa3
import Derived.Shelf.Strings.AsciiSet
import Derived.Shelf.Strings.Runes
import Derived.Shelf.Strings.Shaped
import Derived.Shelf.Strings.Trim
import Derived.Shelf.Unicode.DecodeSlow
import Derived.WalkSmall
import Derived.WalkSpells
import Derived.Test.YtdmmkjijgoiecaaGreatDoorB02
set_option linter.all false
set_option maxHeartbeats 4000000
namespace Go.Proofs.YtdmmkjijgoiecaaGreatDoor
open Lib(hid)
set_option maxRecDepth 100000
namespace sy
open RowKit Go.Sort mem
def lQ(a b:ByteArray):Bool:=Op.bytesLess a.toList b.toList
def gK(a b:ByteArray):Int:=bif lQ a b then -1 else bif lQ b a then 1 else 0
def jX(a b:Int):Int:=if a<b then -1 else if b<a then 1 else 0
theorem aEj(a b:List UInt8):(!(Op.bytesLess a b||a==b))=Op.bytesLess b a:=by
 rw[bytesLess_eq,bytesLess_eq]
 by_cases Y:a<b
 ·have J:¬b<a:=fun h=>List.lt_irrefl a (List.lt_trans Y h)
  simp[Y,J]
 ·by_cases J:a=b
  ·subst J
   simp[List.lt_irrefl]
  ·have h3:b<a:=by
    rcases List.le_iff_lt_or_eq.1 (List.not_lt.1 Y)with h | h
    ·exact h
    ·exact absurd h.symm J
   simp[Y,J,h3]
def gP(x:Int)(w:World)(e:Ending)(w':World):Prop:=e=.returned (.int .i64 x)∧w'=w
theorem aKj(a b:Int)(w:World):Calls Tryz.prog 162 #[.int .i64 a,.int .i64 b] w (gP (jX a b) w):=by
 unfold jX
 by_cases Y:a<b
 ·have d1:decide (a<b)=true:=aC Y
  rw[if_pos Y];go_enter Tryz.func162,Tryz.ntmps162;go_wp2_with fail;go_ret;exact⟨rfl,rfl⟩
 ·have d1:decide (a<b)=false:=aB Y
  rw[if_neg Y]
  by_cases J:b<a
  ·have d2:decide (b<a)=true:=aC J
   rw[if_pos J];go_enter Tryz.func162,Tryz.ntmps162;go_wp2_with fail;go_ret;exact⟨rfl,rfl⟩
  ·have d2:decide (b<a)=false:=aB J
   rw[if_neg J];go_enter Tryz.func162,Tryz.ntmps162;go_wp2_with fail;go_ret;exact⟨rfl,rfl⟩
theorem aC5(a b:ByteArray)(w:World):Calls Tryz.prog 163 #[.string a,.string b] w (gP (gK a b) w):=by
 have J:=aEj a.toList b.toList;unfold gK lQ
 rcases h1:Op.bytesLess a.toList b.toList with _ | _
 ·rw[cond_false]
  rw[h1,Bool.false_or]at J
  rcases Y:Op.bytesLess b.toList a.toList with _ | _
  ·rw[cond_false]
   rw[Y]at J;have he:(a.toList==b.toList)=true:=by simpa using J
   clear J;go_enter Tryz.func163,Tryz.ntmps163;go_wp2_with fail;go_ret;exact⟨rfl,rfl⟩
  ·rw[cond_true]
   rw[Y]at J;have he:(a.toList==b.toList)=false:=by simpa using J
   clear J;go_enter Tryz.func163,Tryz.ntmps163;go_wp2_with fail;go_ret;exact⟨rfl,rfl⟩
 ·rw[cond_true]
  clear J;go_enter Tryz.func163,Tryz.ntmps163;go_wp2_with fail;go_ret;exact⟨rfl,rfl⟩
theorem aLv(a:ByteArray)(w:World):Calls Tryz.prog 206 #[.string a] w fun e w'=>e=.returned (.bool false)∧w'=w:=by
 have h:(a.data != a.data)=false:=by simp
 go_enter Tryz.func206,Tryz.ntmps206;go_wp2_with fail;go_ret;exact⟨rfl,rfl⟩
theorem aAR(a b:ByteArray)(w:World):Calls Tryz.prog 179 #[.string a,.string b] w (gP (gK a b) w):=by
 have Y:=hid aLv;have J:=aEj a.toList b.toList;unfold gK lQ
 rcases h1:Op.bytesLess a.toList b.toList with _ | _
 ·rw[cond_false]
  rw[h1,Bool.false_or]at J
  rcases h2:Op.bytesLess b.toList a.toList with _ | _
  ·rw[cond_false]
   rw[h2]at J;have he:(a.toList==b.toList)=true:=by simpa using J
   clear J;go_enter Tryz.func179,Tryz.ntmps179
   go_wp2_with (refine(Y.out _ _).mono ?_;rintro e w2 ⟨rfl,rfl⟩)
   go_ret;exact⟨rfl,rfl⟩
  ·rw[cond_true]
   rw[h2]at J;have he:(a.toList==b.toList)=false:=by simpa using J
   clear J;go_enter Tryz.func179,Tryz.ntmps179
   go_wp2_with (refine(Y.out _ _).mono ?_;rintro e w2 ⟨rfl,rfl⟩)
   go_ret;exact⟨rfl,rfl⟩
 ·rw[cond_true]
  clear J;go_enter Tryz.func179,Tryz.ntmps179
  go_wp2_with (refine(Y.out _ _).mono ?_;rintro e w2 ⟨rfl,rfl⟩)
  go_ret;exact⟨rfl,rfl⟩
open RowKit Go.Sort mem
def kL:List Int→Int
 | []=>0
 | x :: r=>if x=0 then kL r else x
def vL:List ByteArray→List ByteArray→Int
 | [],[]=>0
 | [],_ :: _=>-1
 | _ :: _,[]=>1
 | a :: r,b :: s=>if gK a b=0 then vL r s else gK a b
theorem aAl{l:List Int}{k:Nat}(J:k<l.length):kL (l.drop k)=if l[k] = 0 then kL (l.drop (k+1)) else l[k]:=by
 rw[bD J];rfl
theorem aBJ(l:List Int):kL (l.drop l.length)=0:=by
 rw[List.drop_length];rfl
def ints(l:List Int):List Value:=l.map fun x=>.int .i64 x
theorem aDk{w:World}{A:Option Addr}{l:List Int}(h:Rd w A (ints l))(Y:0<l.length):∃g o,A=some ⟨g,o,none⟩∧g<w.heap.size∧∀j (J:j<l.length),w.cell? ⟨g,o+j,none⟩=some (.int .i64 l[j]):=by
 obtain⟨g,o,rfl,hl,hc⟩:=h (by simpa[ints] using Y)
 exact⟨g,o,rfl,hl,fun j J=>by rw[hc j (by simpa[ints] using J)];simp[ints]⟩
theorem aAO{w:World}{A:Option Addr}{l:List ByteArray}(h:Rd w A (l.map Value.string))(Y:0<l.length):∃g o,A=some ⟨g,o,none⟩∧g<w.heap.size∧∀j (J:j<l.length),w.cell? ⟨g,o+j,none⟩=some (.string l[j]):=by
 obtain⟨g,o,rfl,hl,hc⟩:=h (by simpa using Y)
 exact⟨g,o,rfl,hl,fun j J=>by rw[hc j (by simpa using J)];simp⟩
theorem aN8(w:World)(A:Option Addr)(c:Nat)(l:List Int)(h:Rd w A (ints l))(hl:l.length≤maxLen):Calls Tryz.prog 177 #[.slice A l.length c] w (gP (kL l) w):=by
 unfold maxLen at hl;have hF:Hid (kL l=kL (l.drop 0)):=hid rfl;have Hh:=hid h;clear h;generalize kL l=R at *;go_enter Tryz.func177,Tryz.ntmps177;go_wp2_with fail
 go_loopw [8] (fun i wr=>∃k:Nat,k≤l.length∧i=.int .i64 k∧Hid (R=kL (l.drop k))∧w=wr) (fun i _=>l.length-(intOf i).toNat)
 case atStart=>exact⟨0,by omega,rfl,hF,rfl⟩
 case round=>
  obtain⟨k,hk,rfl,hf,rfl⟩:=hrel
  by_cases a0:k<l.length
  ·have e1:decide ((k:Int)<(l.length:Int))=true:=aC (by omega)
   obtain⟨b,off,rfl,a1,hcell⟩:=aDk Hh.out (by omega)
   have c1:=hcell k a0;have Y:=hid (hf.out.trans (aAl a0));clear hcell;generalize l[k] = x at c1 Y
   by_cases hx:x=0
   ·subst hx
    have J:Hid (R=kL (l.drop (k+1))):=hid (Y.out.trans (if_pos rfl));clear hf Y;go_wp2_with fail
    go_roundw
    case rel=>exact⟨k+1,by omega,by go_num,J,trivial⟩
    case measure=>simp[intOf];omega
   ·have a2:(x != 0)=true:=by simpa using hx
    have J:Hid (R=x):=hid (Y.out.trans (if_neg hx));clear hf Y;go_wp2_with fail;go_ret;exact⟨congrArg (fun z=>Ending.returned (.int .i64 z)) J.out.symm,rfl⟩
  ·obtain rfl:k=l.length:=by omega
   have e1:decide ((l.length:Int)<(l.length:Int))=false:=aB (by omega)
   have J:Hid (R=0):=hid (hf.out.trans (aBJ l));clear hf;go_wp2_with fail;go_ret;exact⟨congrArg (fun z=>Ending.returned (.int .i64 z)) J.out.symm,rfl⟩
theorem aMx{l m:List ByteArray}{k:Nat}(Y:k<l.length)(J:k<m.length):vL (l.drop k) (m.drop k)=if gK l[k] m[k] = 0 then vL (l.drop (k+1)) (m.drop (k+1)) else gK l[k] m[k]:=by
 rw[bD Y,bD J];rfl
theorem aJW{l m:List ByteArray}{k:Nat}(Y:k<l.length)(J:m.length≤k):vL (l.drop k) (m.drop k)=1:=by
 rw[bD Y,List.drop_of_length_le J];rfl
theorem aHW{l m:List ByteArray}(J:l.length<m.length):vL (l.drop l.length) (m.drop l.length)=-1:=by
 rw[List.drop_length,bD J];rfl
theorem aJm{l m:List ByteArray}(J:l.length=m.length):vL (l.drop l.length) (m.drop l.length)=0:=by
 rw[List.drop_length,J,List.drop_length];rfl
theorem aK6(w:World)(A B:Option Addr)(c d:Nat)(l m:List ByteArray)(h:Rd w A (l.map Value.string))(h2:Rd w B (m.map Value.string))(hl:l.length≤maxLen)(hm:m.length≤maxLen):Calls Tryz.prog 180 #[.slice A l.length c,.slice B m.length d] w (gP (vL l m) w):=by
 unfold maxLen at hl hm;have hF:Hid (vL l m=vL (l.drop 0) (m.drop 0)):=hid rfl;have Hc:=hid (fun a b w=>aAR a b w)
 unfold gP at Hc;have Hh:=hid h;have Hm:=hid h2;clear h h2;generalize vL l m=R at *;go_enter Tryz.func180,Tryz.ntmps180;go_wp2_with fail
 go_loopw [11] (fun i wr=>∃k:Nat,k≤l.length∧k≤m.length∧i=.int .i64 k∧Hid (R=vL (l.drop k) (m.drop k))∧w=wr) (fun i _=>l.length-(intOf i).toNat)
 case atStart=>exact⟨0,by omega,by omega,rfl,hF,rfl⟩
 case round=>
  obtain⟨k,hk,a8,rfl,hf,rfl⟩:=hrel
  by_cases a0:k<l.length
  ·have e1:decide ((k:Int)<(l.length:Int))=true:=aC (by omega)
   obtain⟨b,off,rfl,a6,hcell⟩:=aAO Hh.out (by omega)
   have c1:=hcell k a0;clear hcell
   by_cases a1:k<m.length
   ·have e2:decide ((m.length:Int)≤(k:Int))=false:=aB (by omega)
    obtain⟨b2,a4,rfl,a5,hcell⟩:=aAO Hm.out (by omega)
    have c2:=hcell k a1;have Y:=hid (hf.out.trans (aMx a0 a1));clear hcell;generalize l[k] = x at c1 Y;generalize m[k] = y at c2 Y
    by_cases hx:gK x y=0
    ·have J:Hid (R=vL (l.drop (k+1)) (m.drop (k+1))):=hid (Y.out.trans (if_pos hx))
     clear hf Y
     go_wp2_with (refine(Hc.out _ _ _).mono ?_;rintro e w2 ⟨rfl,rfl⟩;rw[hx])
     go_roundw
     case rel=>exact⟨k+1,by omega,by omega,by go_num,J,trivial⟩
     case measure=>simp[intOf];omega
    ·have J:Hid (R=gK x y):=hid (Y.out.trans (if_neg hx))
     have a7:(gK x y != 0)=true:=by simpa using hx
     clear hf Y;rw[J.out];clear J;generalize a3:gK x y=z at *
     go_wp2_with (refine(Hc.out _ _ _).mono ?_;rintro e w2 ⟨rfl,rfl⟩;rw[a3])
     go_ret;exact⟨rfl,rfl⟩
   ·have e2:decide ((m.length:Int)≤(k:Int))=true:=aC (by omega)
    have J:Hid (R=1):=hid (hf.out.trans (aJW a0 (by omega)))
    clear hf;go_wp2_with fail;go_ret;exact⟨congrArg (fun z=>Ending.returned (.int .i64 z)) J.out.symm,rfl⟩
  ·obtain rfl:k=l.length:=by omega
   have e1:decide ((l.length:Int)<(l.length:Int))=false:=aB (by omega)
   by_cases a2:l.length<m.length
   ·have e2:decide ((l.length:Int)<(m.length:Int))=true:=aC (by omega)
    have J:Hid (R=-1):=hid (hf.out.trans (aHW a2));clear hf;go_wp2_with fail;go_ret;exact⟨congrArg (fun z=>Ending.returned (.int .i64 z)) J.out.symm,rfl⟩
   ·have e2:decide ((l.length:Int)<(m.length:Int))=false:=aB (by omega)
    have J:Hid (R=0):=hid (hf.out.trans (aJm (by omega)))
    clear hf;go_wp2_with fail;go_ret;exact⟨congrArg (fun z=>Ending.returned (.int .i64 z)) J.out.symm,rfl⟩
end sy
end Go.Proofs.YtdmmkjijgoiecaaGreatDoor
