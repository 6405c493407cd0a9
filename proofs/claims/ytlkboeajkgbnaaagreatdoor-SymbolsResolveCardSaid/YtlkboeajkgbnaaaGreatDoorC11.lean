import Derived.BigQuiet
import Derived.Laws.Cover1
import Derived.Lib.QuietBelow
import Derived.Lib.SmallJoins
import Derived.Shelf.Slices.Cells
import Derived.Shelf.Slices.Clone
import Derived.Shelf.Small.Bits
import Derived.Shelf.Small.Wraps
import Derived.Shelf.Strconv.Itoa3
import Derived.Shelf.Strings.AsciiSet
import Derived.Shelf.Strings.Runes
import Derived.Shelf.Strings.Search2
import Derived.Shelf.Strings.Trim
import Derived.WalkSmall
import Derived.WalkSpells
import Derived.Test.YtlkboeajkgbnaaaGreatDoorC09
set_option linter.all false
set_option maxHeartbeats 4000000
namespace Go.Proofs.YtlkboeajkgbnaaaGreatDoor
open Lib(hid)
namespace sy
open RowKit Go.Sort
def lessB(a b:ByteArray):Bool:=Op.bytesLess a.toList b.toList
def txtC(a b:ByteArray):Int:=bif lessB a b then -1 else bif lessB b a then 1 else 0
def intC(a b:Int):Int:=if a<b then -1 else if b<a then 1 else 0
theorem gtr_less(a b:List UInt8):(!(Op.bytesLess a b||a==b))=Op.bytesLess b a:=by
 rw[bytesLess_eq,bytesLess_eq];by_cases h1:a<b
 ·have h2:¬b<a:=fun h=>List.lt_irrefl a (List.lt_trans h1 h)
  simp[h1,h2]
 ·by_cases h2:a=b
  ·subst h2
   simp[List.lt_irrefl]
  ·have h3:b<a:=by
    rcases List.le_iff_lt_or_eq.1 (List.not_lt.1 h1)with h | h
    ·exact h
    ·exact absurd h.symm h2
   simp[h1,h2,h3]
def SPost(x:Int)(w:World)(e:Ending)(w':World):Prop:=e=.returned (.int .i64 x)∧w'=w
theorem rints(a b:Int)(w:World):Calls Tryz.prog 104 #[.int .i64 a,.int .i64 b] w (SPost (intC a b) w):=by
 unfold intC;by_cases h1:a<b
 ·have d1:decide (a<b)=true:=decide_eq_true h1
  rw[if_pos h1];go_enter Tryz.func104,Tryz.ntmps104;go_wp2_with fail;go_ret;exact⟨rfl,rfl⟩
 ·have d1:decide (a<b)=false:=decide_eq_false h1
  rw[if_neg h1];by_cases h2:b<a
  ·have d2:decide (b<a)=true:=decide_eq_true h2
   rw[if_pos h2];go_enter Tryz.func104,Tryz.ntmps104;go_wp2_with fail;go_ret;exact⟨rfl,rfl⟩
  ·have d2:decide (b<a)=false:=decide_eq_false h2
   rw[if_neg h2];go_enter Tryz.func104,Tryz.ntmps104;go_wp2_with fail;go_ret;exact⟨rfl,rfl⟩
theorem rtexts(a b:ByteArray)(w:World):Calls Tryz.prog 105 #[.string a,.string b] w (SPost (txtC a b) w):=by
 have hg:=gtr_less a.toList b.toList;unfold txtC lessB;rcases h1:Op.bytesLess a.toList b.toList with _ | _
 ·rw[cond_false]
  rw[h1,Bool.false_or]at hg;rcases h2:Op.bytesLess b.toList a.toList with _ | _
  ·rw[cond_false]
   rw[h2]at hg;have he:(a.toList==b.toList)=true:=by simpa using hg
   clear hg;go_enter Tryz.func105,Tryz.ntmps105;go_wp2_with fail;go_ret;exact⟨rfl,rfl⟩
  ·rw[cond_true]
   rw[h2]at hg;have he:(a.toList==b.toList)=false:=by simpa using hg
   clear hg;go_enter Tryz.func105,Tryz.ntmps105;go_wp2_with fail;go_ret;exact⟨rfl,rfl⟩
 ·rw[cond_true]
  clear hg;go_enter Tryz.func105,Tryz.ntmps105;go_wp2_with fail;go_ret;exact⟨rfl,rfl⟩
theorem nan_str(a:ByteArray)(w:World):Calls Tryz.prog 98 #[.string a] w fun e w'=>e=.returned (.bool false)∧w'=w:=by
 have h:(a.data != a.data)=false:=by simp
 go_enter Tryz.func98,Tryz.ntmps98;go_wp2_with fail;go_ret;exact⟨rfl,rfl⟩
theorem cmp_str(a b:ByteArray)(w:World):Calls Tryz.prog 94 #[.string a,.string b] w (SPost (txtC a b) w):=by
 have Hn:=hid nan_str;have hg:=gtr_less a.toList b.toList;unfold txtC lessB;rcases h1:Op.bytesLess a.toList b.toList with _ | _
 ·rw[cond_false]
  rw[h1,Bool.false_or]at hg;rcases h2:Op.bytesLess b.toList a.toList with _ | _
  ·rw[cond_false]
   rw[h2]at hg;have he:(a.toList==b.toList)=true:=by simpa using hg
   clear hg;go_enter Tryz.func94,Tryz.ntmps94
   go_wp2_with (refine(Hn.out _ _).mono ?_;rintro e w2 ⟨rfl,rfl⟩)
   go_ret;exact⟨rfl,rfl⟩
  ·rw[cond_true]
   rw[h2]at hg;have he:(a.toList==b.toList)=false:=by simpa using hg
   clear hg;go_enter Tryz.func94,Tryz.ntmps94
   go_wp2_with (refine(Hn.out _ _).mono ?_;rintro e w2 ⟨rfl,rfl⟩)
   go_ret;exact⟨rfl,rfl⟩
 ·rw[cond_true]
  clear hg;go_enter Tryz.func94,Tryz.ntmps94
  go_wp2_with (refine(Hn.out _ _).mono ?_;rintro e w2 ⟨rfl,rfl⟩)
  go_ret;exact⟨rfl,rfl⟩
end sy
set_option maxRecDepth 100000
namespace sy
open RowKit Go.Sort mem
def fstN:List Int→Int
 | []=>0
 | x :: r=>if x=0 then fstN r else x
def lstC:List ByteArray→List ByteArray→Int
 | [],[]=>0
 | [],_ :: _=>-1
 | _ :: _,[]=>1
 | a :: r,b :: s=>if txtC a b=0 then lstC r s else txtC a b
theorem fstN_drop{l:List Int}{k:Nat}(hk:k<l.length):fstN (l.drop k)=if l[k] = 0 then fstN (l.drop (k+1)) else l[k]:=by
 rw[List.drop_eq_getElem_cons hk];rfl
theorem fstN_end(l:List Int):fstN (l.drop l.length)=0:=by
 rw[List.drop_length];rfl
def ints(l:List Int):List Value:=l.map fun x=>.int .i64 x
theorem rd_ints{w:World}{A:Option Addr}{l:List Int}(h:Rd w A (ints l))(hz:0<l.length):∃g o,A=some ⟨g,o,none⟩∧g<w.heap.size∧∀j (hj:j<l.length),w.cell? ⟨g,o+j,none⟩=some (.int .i64 l[j]):=by
 obtain⟨g,o,rfl,hl,hc⟩:=h (by simpa[ints] using hz);exact⟨g,o,rfl,hl,fun j hj=>by rw[hc j (by simpa[ints] using hj)];simp[ints]⟩
theorem rd_txts{w:World}{A:Option Addr}{l:List ByteArray}(h:Rd w A (l.map Value.string))(hz:0<l.length):∃g o,A=some ⟨g,o,none⟩∧g<w.heap.size∧∀j (hj:j<l.length),w.cell? ⟨g,o+j,none⟩=some (.string l[j]):=by
 obtain⟨g,o,rfl,hl,hc⟩:=h (by simpa using hz);exact⟨g,o,rfl,hl,fun j hj=>by rw[hc j (by simpa using hj)];simp⟩
theorem or_any(w:World)(A:Option Addr)(c:Nat)(l:List Int)(h:Rd w A (ints l))(hl:l.length≤maxLen):Calls Tryz.prog 92 #[.slice A l.length c] w (SPost (fstN l) w):=by
 unfold maxLen at hl;have hF:Hid (fstN l=fstN (l.drop 0)):=hid rfl;have Hh:=hid h;clear h;generalize fstN l=R at *;go_enter Tryz.func92,Tryz.ntmps92;go_wp2_with fail;go_loopw [8] (fun i wr=>∃k:Nat,k≤l.length∧i=.int .i64 k∧Hid (R=fstN (l.drop k))∧w=wr) (fun i _=>l.length-(intOf i).toNat)
 case atStart=>exact⟨0,by omega,rfl,hF,rfl⟩
 case round=>
  obtain⟨k,hk,rfl,hf,rfl⟩:=hrel;by_cases hkl:k<l.length
  ·have e1:decide ((k:Int)<(l.length:Int))=true:=decide_eq_true (by omega)
   obtain⟨b,off,rfl,hlt,hcell⟩:=rd_ints Hh.out (by omega);have c1:=hcell k hkl;have hf2:=hid (hf.out.trans (fstN_drop hkl));clear hcell;generalize l[k] = x at c1 hf2;by_cases hx:x=0
   ·subst hx
    have hf3:Hid (R=fstN (l.drop (k+1))):=hid (hf2.out.trans (if_pos rfl));clear hf hf2;go_wp2_with fail;go_roundw
    case rel=>exact⟨k+1,by omega,by go_num,hf3,trivial⟩
    case measure=>simp[intOf];omega
   ·have hx2:(x != 0)=true:=by simpa using hx
    have hf3:Hid (R=x):=hid (hf2.out.trans (if_neg hx));clear hf hf2;go_wp2_with fail;go_ret;exact⟨congrArg (fun z=>Ending.returned (.int .i64 z)) hf3.out.symm,rfl⟩
  ·obtain rfl:k=l.length:=by omega
   have e1:decide ((l.length:Int)<(l.length:Int))=false:=decide_eq_false (by omega);have hf3:Hid (R=0):=hid (hf.out.trans (fstN_end l));clear hf;go_wp2_with fail;go_ret;exact⟨congrArg (fun z=>Ending.returned (.int .i64 z)) hf3.out.symm,rfl⟩
theorem lstC_in{l m:List ByteArray}{k:Nat}(hk:k<l.length)(hm:k<m.length):lstC (l.drop k) (m.drop k)=if txtC l[k] m[k] = 0 then lstC (l.drop (k+1)) (m.drop (k+1)) else txtC l[k] m[k]:=by
 rw[List.drop_eq_getElem_cons hk,List.drop_eq_getElem_cons hm];rfl
theorem lstC_out{l m:List ByteArray}{k:Nat}(hk:k<l.length)(hm:m.length≤k):lstC (l.drop k) (m.drop k)=1:=by
 rw[List.drop_eq_getElem_cons hk,List.drop_of_length_le hm];rfl
theorem lstC_less{l m:List ByteArray}(hm:l.length<m.length):lstC (l.drop l.length) (m.drop l.length)=-1:=by
 rw[List.drop_length,List.drop_eq_getElem_cons hm];rfl
theorem lstC_end{l m:List ByteArray}(hm:l.length=m.length):lstC (l.drop l.length) (m.drop l.length)=0:=by
 rw[List.drop_length,hm,List.drop_length];rfl
theorem cmps_any(w:World)(A B:Option Addr)(c d:Nat)(l m:List ByteArray)(h:Rd w A (l.map Value.string))(h2:Rd w B (m.map Value.string))(hl:l.length≤maxLen)(hm:m.length≤maxLen):Calls Tryz.prog 95 #[.slice A l.length c,.slice B m.length d] w (SPost (lstC l m) w):=by
 unfold maxLen at hl hm;have hF:Hid (lstC l m=lstC (l.drop 0) (m.drop 0)):=hid rfl;have Hc:=hid (fun a b w=>cmp_str a b w);unfold SPost at Hc;have Hh:=hid h;have Hm:=hid h2;clear h h2;generalize lstC l m=R at *;go_enter Tryz.func95,Tryz.ntmps95;go_wp2_with fail;go_loopw [11] (fun i wr=>∃k:Nat,k≤l.length∧k≤m.length∧i=.int .i64 k∧Hid (R=lstC (l.drop k) (m.drop k))∧w=wr) (fun i _=>l.length-(intOf i).toNat)
 case atStart=>exact⟨0,by omega,by omega,rfl,hF,rfl⟩
 case round=>
  obtain⟨k,hk,hk2,rfl,hf,rfl⟩:=hrel;by_cases hkl:k<l.length
  ·have e1:decide ((k:Int)<(l.length:Int))=true:=decide_eq_true (by omega)
   obtain⟨b,off,rfl,hlt,hcell⟩:=rd_txts Hh.out (by omega);have c1:=hcell k hkl;clear hcell;by_cases hkm:k<m.length
   ·have e2:decide ((m.length:Int)≤(k:Int))=false:=decide_eq_false (by omega)
    obtain⟨b2,off2,rfl,hlt2,hcell⟩:=rd_txts Hm.out (by omega);have c2:=hcell k hkm;have hf2:=hid (hf.out.trans (lstC_in hkl hkm));clear hcell;generalize l[k] = x at c1 hf2;generalize m[k] = y at c2 hf2;by_cases hx:txtC x y=0
    ·have hf3:Hid (R=lstC (l.drop (k+1)) (m.drop (k+1))):=hid (hf2.out.trans (if_pos hx))
     clear hf hf2
     go_wp2_with (refine(Hc.out _ _ _).mono ?_;rintro e w2 ⟨rfl,rfl⟩;rw[hx])
     go_roundw
     case rel=>exact⟨k+1,by omega,by omega,by go_num,hf3,trivial⟩
     case measure=>simp[intOf];omega
    ·have hf3:Hid (R=txtC x y):=hid (hf2.out.trans (if_neg hx))
     have hx2:(txtC x y != 0)=true:=by simpa using hx
     clear hf hf2;rw[hf3.out];clear hf3;generalize htx:txtC x y=z at *
     go_wp2_with (refine(Hc.out _ _ _).mono ?_;rintro e w2 ⟨rfl,rfl⟩;rw[htx])
     go_ret;exact⟨rfl,rfl⟩
   ·have e2:decide ((m.length:Int)≤(k:Int))=true:=decide_eq_true (by omega)
    have hf3:Hid (R=1):=hid (hf.out.trans (lstC_out hkl (by omega)));clear hf;go_wp2_with fail;go_ret;exact⟨congrArg (fun z=>Ending.returned (.int .i64 z)) hf3.out.symm,rfl⟩
  ·obtain rfl:k=l.length:=by omega
   have e1:decide ((l.length:Int)<(l.length:Int))=false:=decide_eq_false (by omega);by_cases hlm:l.length<m.length
   ·have e2:decide ((l.length:Int)<(m.length:Int))=true:=decide_eq_true (by omega)
    have hf3:Hid (R=-1):=hid (hf.out.trans (lstC_less hlm));clear hf;go_wp2_with fail;go_ret;exact⟨congrArg (fun z=>Ending.returned (.int .i64 z)) hf3.out.symm,rfl⟩
   ·have e2:decide ((l.length:Int)<(m.length:Int))=false:=decide_eq_false (by omega)
    have hf3:Hid (R=0):=hid (hf.out.trans (lstC_end (by omega)));clear hf;go_wp2_with fail;go_ret;exact⟨congrArg (fun z=>Ending.returned (.int .i64 z)) hf3.out.symm,rfl⟩
end sy
end Go.Proofs.YtlkboeajkgbnaaaGreatDoor
