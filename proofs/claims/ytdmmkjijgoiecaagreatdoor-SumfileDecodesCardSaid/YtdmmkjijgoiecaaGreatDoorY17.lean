import Derived.Lib.Strings
import Derived.ProofKit
import Derived.Test.YtdmmkjijgoiecaaGreatDoorY15
set_option linter.all false
set_option maxHeartbeats 4000000
namespace Go.Proofs.YtdmmkjijgoiecaaGreatDoor
open Lib(hid)
namespace dg
open RowKit
theorem aCZ(J:Int→Bool)(s:ByteArray)(k:Nat)(e:k=runN J s.data.toList)(h:k<s.size):J (s[k].toNat:Int)=false:=by
 have key:∀(l:List UInt8) (k:Nat) (_:k=runN J l) (h:k<l.length),J ((l[k]'h).toNat:Int)=false:=by
  intro l
  induction l with
  | nil=>intro k _ h;simp at h
  | cons c r ih=>
   intro k e h;rcases hc:J (c.toNat:Int)with _ | _
   ·have Y:runN J (c :: r)=0:=by simp[runN,hc]
    obtain rfl:k=0:=by omega
    exact hc
   ·have Y:runN J (c :: r)=runN J r+1:=by simp[runN,hc]
    cases k with
    | zero=>omega
    | succ k=>exact ih k (by omega) (by simpa using h)
 have hl:=cZ s;exact key _ _ e (by omega)
theorem yR(J:Int→Bool)(s:ByteArray)(k:Nat)(hk:k<runN J s.data.toList)(h:k<s.size):J (s[k].toNat:Int)=true:=by
 have key:∀(l:List UInt8) (k:Nat) (_:k<runN J l) (Y:k<l.length),J (l[k].toNat:Int)=true:=by
  intro l
  induction l with
  | nil=>intro k _ Y;simp at Y
  | cons c r ih=>
   intro k h Y;rcases hc:J (c.toNat:Int)with _ | _
   ·have e:runN J (c :: r)=0:=by simp[runN,hc]
    omega
   ·have e:runN J (c :: r)=runN J r+1:=by simp[runN,hc]
    cases k with
    | zero=>exact hc
    | succ k=>exact ih k (by omega) (by simpa using Y)
 have hl:=cZ s;exact key _ _ hk (by omega)
def xU(b:Int):Bool:=gY b||dM b
theorem aEZ(s:ByteArray)(w:World)(hs:s.size≤maxLen) :
 Calls Tryz.prog 129 #[.string s,.func (.func 130) #[] #[]] w fun e w'=>e=.returned (.int .i64 (runN xU s.data.toList:Nat))∧w=w':=aDD s w hs
theorem aEN(s:ByteArray)(w:World)(hs:s.size≤maxLen) :
 Calls Tryz.prog 129 #[.string s,.func (.func 237) #[] #[]] w fun e w'=>e=.returned (.int .i64 (runN dM s.data.toList:Nat))∧w=w':=uY s w hs
theorem jW(J:Int→Bool)(s:ByteArray):runN J s.data.toList≤s.size:=by
 have:=aFf J s.data.toList;have:=cZ s;omega
def jR(s:ByteArray):Nat:=if gY ((s.data.toList.headD 0).toNat:Int) then runN xU s.data.toList else runN dM s.data.toList
theorem aJY(s:ByteArray):jR s≤s.size:=by
 unfold jR;split
 ·exact jW _ s
 ·exact jW _ s
theorem aGb:gY 0=false:=by decide
theorem aAD(s:ByteArray)(h:s.size=0):jR s=runN dM s.data.toList:=by
 have e:s.data.toList=[]:=List.length_eq_zero_iff.1 (by rw[cZ];exact h);unfold jR;rw[e];simp[aGb]
def bZ(s:ByteArray):Bool:=decide (s.size≠0∧s.size≤16)&&(gY ((s.data.toList.headD 0).toNat:Int)&&decide (runN xU s.data.toList=s.size))
def uW(s:ByteArray)(w:World)(e:Ending)(w':World):Prop:=
 e=.returned (.tuple #[.string (s.extract 0 (jR s)),.string (s.extract (jR s) s.size)])∧∃n,w'=w.drewN n
theorem yD(s:ByteArray)(w:World)(hs:s.size≤maxLen):Calls Tryz.prog 211 #[.string s] w (uW s w):=by
 have Y:=hs;unfold maxLen at hs;by_cases h0:s.size=0
 ·have he:s.toList=[]:=fC s h0
  have J:=aAD s h0;have a1:=jW dM s;have hr:=hid (aEN s · Y);clear h0;generalize runN dM s.data.toList=q at *;have Hq:=hid J;clear J;go_enter Tryz.func211,Tryz.ntmps211;go_wp2_with fail;refine(hr.out _).mono ?_;rintro e w' ⟨rfl,rfl⟩;go_wp2_with fail;go_quiet (fail);go_wp2_with fail;go_ret2;exact⟨by rw[Hq.out];rfl,_,rfl⟩
 ·have he:s.toList.isEmpty=false:=bU s h0
  have hz:0<s.size:=by omega
  have a0:(0:Int)≤(s[0].toNat:Int):=by omega
  have a2:(s[0].toNat:Int)≤255:=by have:=s[0].toNat_lt;omega
  rcases hc:gY (s[0].toNat:Int)with _ | _
  ·have J:jR s=runN dM s.data.toList:=by unfold jR;rw[bS s hz,hc];rfl
   have a1:=jW dM s;have hr:=hid (aEN s · Y);have Hc:=hid hc;clear h0 hc;generalize runN dM s.data.toList=q at *;have Hq:=hid J;clear J;go_enter Tryz.func211,Tryz.ntmps211;go_wp2_with fail;refine(oJ _ _ a0 a2).mono ?_;rintro e w' ⟨rfl,rfl⟩;rw[Hc.out];go_wp2_with fail;refine(hr.out _).mono ?_;rintro e w' ⟨rfl,rfl⟩;go_wp2_with fail;go_quiet (fail);go_wp2_with fail;go_ret2;exact⟨by rw[Hq.out];rfl,_,rfl⟩
  ·have J:jR s=runN xU s.data.toList:=by unfold jR;rw[bS s hz,hc];rfl
   have a1:=jW xU s;have hr:=hid (aEZ s · Y);have Hc:=hid hc;clear h0 hc;generalize runN xU s.data.toList=q at *;have Hq:=hid J;clear J;go_enter Tryz.func211,Tryz.ntmps211;go_wp2_with fail;refine(oJ _ _ a0 a2).mono ?_;rintro e w' ⟨rfl,rfl⟩;rw[Hc.out];go_wp2_with fail;refine(hr.out _).mono ?_;rintro e w' ⟨rfl,rfl⟩;go_wp2_with fail;go_quiet (fail);go_wp2_with fail;go_ret2;exact⟨by rw[Hq.out];rfl,_,rfl⟩
def qR(words:Bool)(b:Int):Bool:=dM b||(words&&gY b)
theorem aJ4:qR true=xU:=by funext b;unfold qR xU;simp[Bool.or_comm]
theorem aEU:qR false=dM:=by funext b;unfold qR;simp
theorem aG7(words:Bool)(b:Int)(h:qR words b=true):dM b=true∨(dM b=false∧words=true∧gY b=true):=by
 unfold qR at h;rcases hd:dM b with _ | _
 ·rw[hd]at h;simp at h;exact Or.inr ⟨rfl,h⟩
 ·exact Or.inl rfl
theorem aLa(words:Bool)(b:Int)(h:qR words b=false):dM b=false∧(words=false∨(words=true∧gY b=false)):=by
 unfold qR at h;cases words <;> simp_all
theorem aAn(s:ByteArray)(w:World)(hs:s.size≤maxLen):Calls Tryz.prog 195 #[.string s] w (uW s w):=by
 unfold maxLen at hs;have main:∀(words:Bool) (w:World),(words=true→0<s.size)→(0<s.size→∀h:0<s.size,gY (s[0].toNat:Int)=words)→jR s=runN (qR words) s.data.toList→Calls Tryz.prog 195 #[.string s] w (uW s w):=by
  intro words w a7 a9 hq;have a6:=hid (aCZ (qR words) s);have aa:=hid (yR (qR words) s);have ah:=jW (qR words) s;generalize runN (qR words) s.data.toList=q at *;have Hq:=hid hq;clear hq;have a0:∀k,k<q→∀h:k<s.size,dM (s[k].toNat:Int)=true∨(dM (s[k].toNat:Int)=false∧words=true∧gY (s[k].toNat:Int)=true):=fun k hk h=>aG7 _ _ (aa.out k hk h)
  have a2:∀h:q<s.size,dM (s[q].toNat:Int)=false∧(words=false∨(words=true∧gY (s[q].toNat:Int)=false)):=fun h=>aLa _ _ (a6.out q rfl h)
  have a1:=hid a0;have a8:=hid a2;clear a0 a2 a6 aa;have ae:=hid a9;clear a9;have a5:(s.size=0∧words=false)∨0<s.size:=by
   rcases Nat.eq_zero_or_pos s.size with h | h
   ·left;refine⟨h,?_⟩;cases words
    ·rfl
    ·have:=a7 rfl;omega
   ·exact Or.inr h
  clear a7;rcases a5 with⟨h0,rfl⟩ | hz
  ·have hz:¬0<s.size:=by omega
   have ad:q=0:=by omega
   subst ad;clear h0;go_enter Tryz.func195,Tryz.ntmps195;go_wp2_with fail;refine wp_loop_rounds 1 ?_;rw[rounds_succ];go_wp2_with fail;go_quiet (fail);go_wp2_with fail;go_ret2;exact⟨by rw[Hq.out,show s.extract 0 0=ByteArray.empty by simp,show s.extract 0 s.size=s by simp];rfl,_,rfl⟩
  ·have J:(0:Int)≤(s[0].toNat:Int):=by omega
   have Y:(s[0].toNat:Int)≤255:=by have:=s[0].toNat_lt;omega
   have Hl:=hid (ae.out hz hz);go_enter Tryz.func195,Tryz.ntmps195;go_wp2_with fail;refine(gW _ _ J Y).mono ?_;rintro e w' ⟨rfl,rfl⟩;rw[Hl.out];go_wp2_with fail
   go_loop [5] (fun n=>∃k:Nat,k≤q∧n=.int .i64 k) (fun n=>s.size-(intOf n).toNat)
   case atStart=>exact⟨0,bA _,rfl⟩
   case round=>
    obtain⟨k,hk,rfl⟩:=hrel;by_cases ag:k<q
    ·have a3:k<s.size:=by omega
     have J:(0:Int)≤(s[k].toNat:Int):=by omega
     have Y:(s[k].toNat:Int)≤255:=by have:=s[k].toNat_lt;omega
     rcases a1.out k ag a3 with hd | ⟨hd,rfl,hl⟩
     ·have Hd:=hid hd
      clear hd;go_wp2_with fail;refine(gI _ _ J Y).mono ?_;rintro e w' ⟨rfl,rfl⟩;rw[Hd.out];go_wp2_with fail
      go_round
      case rel=>exact⟨k+1,by omega,by go_num⟩
      case measure=>simp[intOf];omega
     ·have Hd:=hid hd
      have a4:=hid hl;clear hd hl;go_wp2_with fail;refine(gI _ _ J Y).mono ?_;rintro e w' ⟨rfl,rfl⟩;rw[Hd.out];go_wp2_with fail;refine(gW _ _ J Y).mono ?_;rintro e w' ⟨rfl,rfl⟩;rw[a4.out];go_wp2_with fail
      go_round
      case rel=>exact⟨k+1,by omega,by go_num⟩
      case measure=>simp[intOf];omega
    ·obtain rfl:k=q:=by omega
     by_cases a3:k<s.size
     ·have J:(0:Int)≤(s[k].toNat:Int):=by omega
      have Y:(s[k].toNat:Int)≤255:=by have:=s[k].toNat_lt;omega
      obtain⟨hd,af⟩:=a8.out a3;have Hd:=hid hd;clear hd;rcases af with rfl | ⟨rfl,hl⟩
      ·go_wp2_with fail
       refine(gI _ _ J Y).mono ?_;rintro e w' ⟨rfl,rfl⟩;rw[Hd.out];go_wp2_with fail;go_quiet (fail);go_wp2_with fail;go_ret2;exact⟨by rw[Hq.out];rfl,_,rfl⟩
      ·have a4:=hid hl
       clear hl;go_wp2_with fail;refine(gI _ _ J Y).mono ?_;rintro e w' ⟨rfl,rfl⟩;rw[Hd.out];go_wp2_with fail;refine(gW _ _ J Y).mono ?_;rintro e w' ⟨rfl,rfl⟩;rw[a4.out];go_wp2_with fail;go_quiet (fail);go_wp2_with fail;go_ret2;exact⟨by rw[Hq.out];rfl,_,rfl⟩
     ·go_wp2_with fail
      go_quiet (fail);go_wp2_with fail;go_ret2;exact⟨by rw[Hq.out];rfl,_,rfl⟩
 by_cases h0:s.size=0
 ·exact main false w (by intro h;cases h) (by intro h;omega) (by rw[aEU];exact aAD s h0)
 ·have hz:0<s.size:=by omega
  rcases hc:gY (s[0].toNat:Int)with _ | _
  ·exact main false w (by intro h;cases h) (by intro _ _;exact hc) (by rw[aEU];unfold jR;rw[bS s hz,hc];rfl)
  ·exact main true w (by intro _;exact hz) (by intro _ _;exact hc) (by rw[aJ4];unfold jR;rw[bS s hz,hc];rfl)
theorem uR(s:ByteArray)(h:s.size=0∨16<s.size):bZ s=false:=by
 unfold bZ;rw[show decide (s.size≠0∧s.size≤16)=false from aB (by omega)];rfl
theorem aBz(s:ByteArray)(J:0<s.size)(h:gY (s[0].toNat:Int)=false):bZ s=false:=by
 unfold bZ;rw[bS s J,h,Bool.false_and,Bool.and_false]
theorem aBk(s:ByteArray)(J:0<s.size)(Y:s.size≤16)(h:gY (s[0].toNat:Int)=true):bZ s=decide (runN xU s.data.toList=s.size):=by
 unfold bZ;rw[bS s J,h,Bool.true_and,show decide (s.size≠0∧s.size≤16)=true from aC (by omega)];rfl
theorem kQ(s:ByteArray)(w:World)(hs:s.size≤maxLen):Calls Tryz.prog 77 #[.string s] w fun e w'=>e=.returned (.bool (bZ s))∧w=w':=by
 have a2:=hs;unfold maxLen at hs;by_cases h0:s.size=0
 ·have he:s.toList=[]:=fC s h0
  have J:=hid (uR s (Or.inl h0));clear h0;go_enter Tryz.func77,Tryz.ntmps77;go_wp2_with fail;go_ret;exact⟨by rw[J.out];rfl,rfl⟩
 ·have he:s.toList.isEmpty=false:=bU s h0
  have hz:0<s.size:=by omega
  have Y:(0:Int)≤(s[0].toNat:Int):=by omega
  have a0:(s[0].toNat:Int)≤255:=by have:=s[0].toNat_lt;omega
  clear h0;by_cases a1:s.size≤16
  ·rcases hc:gY (s[0].toNat:Int)with _ | _
   ·have J:=hid (aBz s hz hc)
    have Hc:=hid hc;clear hc;go_enter Tryz.func77,Tryz.ntmps77;go_wp2_with fail;refine(oJ _ _ Y a0).mono ?_;rintro e w' ⟨rfl,rfl⟩;rw[Hc.out];go_wp2_with fail;go_ret;exact⟨by rw[J.out];rfl,rfl⟩
   ·have J:=hid (aBk s hz a1 hc)
    have Hc:=hid hc;have hr:=hid (aEZ s · a2);have a3:=jW xU s;clear hc;generalize runN xU s.data.toList=q at *;by_cases hq:q<s.size
    ·go_enter Tryz.func77,Tryz.ntmps77
     go_wp2_with fail;refine(oJ _ _ Y a0).mono ?_;rintro e w' ⟨rfl,rfl⟩;rw[Hc.out];go_wp2_with fail;refine(hr.out _).mono ?_;rintro e w' ⟨rfl,rfl⟩;go_wp2_with fail;go_ret;exact⟨by rw[J.out];exact yB (by simp;omega),rfl⟩
    ·obtain rfl:q=s.size:=by omega
     go_enter Tryz.func77,Tryz.ntmps77;go_wp2_with fail;refine(oJ _ _ Y a0).mono ?_;rintro e w' ⟨rfl,rfl⟩;rw[Hc.out];go_wp2_with fail;refine(hr.out _).mono ?_;rintro e w' ⟨rfl,rfl⟩;go_wp2_with fail;go_ret;exact⟨by rw[J.out];exact yB (by simp),rfl⟩
  ·have J:=hid (uR s (Or.inr (by omega)))
   go_enter Tryz.func77,Tryz.ntmps77;go_wp2_with fail;go_ret;exact⟨by rw[J.out];rfl,rfl⟩
theorem aGM(b:Int)(h:xU b=true):gY b=true∨(gY b=false∧dM b=true):=by
 unfold xU at h;rcases hl:gY b with _ | _
 ·rw[hl]at h;exact Or.inr ⟨rfl,by simpa using h⟩
 ·exact Or.inl rfl
theorem aLO(b:Int)(h:xU b=false):gY b=false∧dM b=false:=by
 unfold xU at h;simpa using h
theorem aBx(s:ByteArray)(w:World)(hs:s.size≤maxLen):Calls Tryz.prog 56 #[.string s] w fun e w'=>e=.returned (.bool (bZ s))∧w=w':=by
 unfold maxLen at hs;by_cases h0:s.size=0
 ·have he:s.toList=[]:=fC s h0
  have Hn:=hid (uR s (Or.inl h0));clear h0;go_enter Tryz.func56,Tryz.ntmps56;go_wp2_with fail;go_ret;exact⟨by rw[Hn.out];rfl,rfl⟩
 ·have he:s.toList.isEmpty=false:=bU s h0
  have hz:0<s.size:=by omega
  have J:(0:Int)≤(s[0].toNat:Int):=by omega
  have Y:(s[0].toNat:Int)≤255:=by have:=s[0].toNat_lt;omega
  clear h0;by_cases a1:s.size≤16
  ·rcases hc:gY (s[0].toNat:Int)with _ | _
   ·have Hn:=hid (aBz s hz hc)
    have Hc:=hid hc;clear hc;go_enter Tryz.func56,Tryz.ntmps56;go_wp2_with fail;refine(gW _ _ J Y).mono ?_;rintro e w' ⟨rfl,rfl⟩;rw[Hc.out];go_wp2_with fail;go_ret;exact⟨by rw[Hn.out];rfl,rfl⟩
   ·have Hn:=hid (aBk s hz a1 hc)
    have Hc:=hid hc;have a2:=hid (aCZ xU s);have a3:=hid (yR xU s);have a5:=jW xU s;clear hc;generalize runN xU s.data.toList=q at *;go_enter Tryz.func56,Tryz.ntmps56;go_wp2_with fail;refine(gW _ _ J Y).mono ?_;rintro e w' ⟨rfl,rfl⟩;rw[Hc.out];go_wp2_with fail
    go_loop [3] (fun n=>∃k:Nat,k≤q∧n=.int .i64 k) (fun n=>s.size-(intOf n).toNat)
    case atStart=>exact⟨0,bA _,rfl⟩
    case round=>
     obtain⟨k,hk,rfl⟩:=hrel;by_cases a4:k<q
     ·have a0:k<s.size:=by omega
      have J:(0:Int)≤(s[k].toNat:Int):=by omega
      have Y:(s[k].toNat:Int)≤255:=by have:=s[k].toNat_lt;omega
      rcases aGM _ (a3.out k a4 a0)with hl | ⟨hl,hd⟩
      ·have Hl:=hid hl
       clear hl;go_wp2_with fail;refine(gW _ _ J Y).mono ?_;rintro e w' ⟨rfl,rfl⟩;rw[Hl.out];go_wp2_with fail
       go_round
       case rel=>exact⟨k+1,by omega,by go_num⟩
       case measure=>simp[intOf];omega
      ·have Hl:=hid hl
       have Hd:=hid hd;clear hl hd;go_wp2_with fail;refine(gW _ _ J Y).mono ?_;rintro e w' ⟨rfl,rfl⟩;rw[Hl.out];go_wp2_with fail;refine(gI _ _ J Y).mono ?_;rintro e w' ⟨rfl,rfl⟩;rw[Hd.out];go_wp2_with fail
       go_round
       case rel=>exact⟨k+1,by omega,by go_num⟩
       case measure=>simp[intOf];omega
     ·obtain rfl:k=q:=by omega
      by_cases a0:k<s.size
      ·have J:(0:Int)≤(s[k].toNat:Int):=by omega
       have Y:(s[k].toNat:Int)≤255:=by have:=s[k].toNat_lt;omega
       obtain⟨hl,hd⟩:=aLO _ (a2.out k rfl a0);have Hl:=hid hl;have Hd:=hid hd;clear hl hd;go_wp2_with fail;refine(gW _ _ J Y).mono ?_;rintro e w' ⟨rfl,rfl⟩;rw[Hl.out];go_wp2_with fail;refine(gI _ _ J Y).mono ?_;rintro e w' ⟨rfl,rfl⟩;rw[Hd.out];go_wp2_with fail;go_ret;exact⟨by rw[Hn.out];exact yB (by simp;omega),rfl⟩
      ·obtain rfl:k=s.size:=by omega
       go_wp2_with fail;go_ret;exact⟨by rw[Hn.out];exact yB (by simp),rfl⟩
  ·have Hn:=hid (uR s (Or.inr (by omega)))
   go_enter Tryz.func56,Tryz.ntmps56;go_wp2_with fail;go_ret;exact⟨by rw[Hn.out];rfl,rfl⟩
end dg
end Go.Proofs.YtdmmkjijgoiecaaGreatDoor
