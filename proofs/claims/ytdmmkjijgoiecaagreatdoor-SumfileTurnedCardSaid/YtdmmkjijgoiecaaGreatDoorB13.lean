import Derived.Lib.Strings
import Derived.ProofKit
import Derived.Test.YtdmmkjijgoiecaaGreatDoorB11
set_option linter.all false
set_option maxHeartbeats 4000000
namespace Go.Proofs.YtdmmkjijgoiecaaGreatDoor
open Lib(hid)
set_option maxHeartbeats 1000000
namespace dg
open RowKit
theorem aDH(J:Int→Bool)(s:ByteArray)(k:Nat)(e:k=runN J s.data.toList)(h:k<s.size):J (s[k].toNat:Int)=false:=by
 have key:∀(l:List UInt8) (k:Nat) (_:k=runN J l) (h:k<l.length),J ((l[k]'h).toNat:Int)=false:=by
  intro l
  induction l with
  | nil=>intro k _ h;simp at h
  | cons c r ih=>
   intro k e h
   rcases hc:J (c.toNat:Int)with _ | _
   ·have Y:runN J (c :: r)=0:=by simp[runN,hc]
    obtain rfl:k=0:=by omega
    exact hc
   ·have Y:runN J (c :: r)=runN J r+1:=by simp[runN,hc]
    cases k with
    | zero=>omega
    | succ k=>exact ih k (by omega) (by simpa using h)
 have hl:=cB s;exact key _ _ e (by omega)
theorem aAx(J:Int→Bool)(s:ByteArray)(k:Nat)(hk:k<runN J s.data.toList)(h:k<s.size):J (s[k].toNat:Int)=true:=by
 have key:∀(l:List UInt8) (k:Nat) (_:k<runN J l) (Y:k<l.length),J (l[k].toNat:Int)=true:=by
  intro l
  induction l with
  | nil=>intro k _ Y;simp at Y
  | cons c r ih=>
   intro k h Y
   rcases hc:J (c.toNat:Int)with _ | _
   ·have e:runN J (c :: r)=0:=by simp[runN,hc]
    omega
   ·have e:runN J (c :: r)=runN J r+1:=by simp[runN,hc]
    cases k with
    | zero=>exact hc
    | succ k=>exact ih k (by omega) (by simpa using Y)
 have hl:=cB s;exact key _ _ hk (by omega)
def zX(b:Int):Bool:=iN b||dK b
theorem aGF(s:ByteArray)(w:World)(hs:s.size≤maxLen) :
 Calls Tryz.prog 129 #[.string s,.func (.func 130) #[] #[]] w fun e w'=>e=.returned (.int .i64 (runN zX s.data.toList:Nat))∧w=w':=aFU s w hs
theorem aGw(s:ByteArray)(w:World)(hs:s.size≤maxLen) :
 Calls Tryz.prog 129 #[.string s,.func (.func 237) #[] #[]] w fun e w'=>e=.returned (.int .i64 (runN dK s.data.toList:Nat))∧w=w':=xM s w hs
theorem kT(J:Int→Bool)(s:ByteArray):runN J s.data.toList≤s.size:=by
 have:=aGZ J s.data.toList;have:=cB s;omega
def kI(s:ByteArray):Nat:=if iN ((s.data.toList.headD 0).toNat:Int) then runN zX s.data.toList else runN dK s.data.toList
theorem aLp(s:ByteArray):kI s≤s.size:=by
 unfold kI;split
 ·exact kT _ s
 ·exact kT _ s
theorem aH9:iN 0=false:=by decide
theorem aA3(s:ByteArray)(h:s.size=0):kI s=runN dK s.data.toList:=by
 have e:s.data.toList=[]:=List.length_eq_zero_iff.1 (by rw[cB];exact h)
 unfold kI;rw[e];simp[aH9]
def bZ(s:ByteArray):Bool:=decide (s.size≠0∧s.size≤16)&&(iN ((s.data.toList.headD 0).toNat:Int)&&decide (runN zX s.data.toList=s.size))
def xE(s:ByteArray)(w:World)(e:Ending)(w':World):Prop:=
 e=.returned (.tuple #[.string (s.extract 0 (kI s)),.string (s.extract (kI s) s.size)])∧∃n,w'=w.drewN n
theorem aAg(s:ByteArray)(w:World)(hs:s.size≤maxLen):Calls Tryz.prog 211 #[.string s] w (xE s w):=by
 have Y:=hs;unfold maxLen at hs
 by_cases h0:s.size=0
 ·have he:s.toList=[]:=fH s h0
  have J:=aA3 s h0;have a0:=kT dK s;have hr:=hid (aGw s · Y)
  clear h0;generalize runN dK s.data.toList=q at *;have Hq:=hid J;clear J;go_enter Tryz.func211,Tryz.ntmps211;go_wp2_with fail;refine(hr.out _).mono ?_;rintro e w' ⟨rfl,rfl⟩;go_wp2_with fail
  go_quiet (fail)
  go_wp2_with fail
  go_ret2
  exact⟨by rw[Hq.out];rfl,_,rfl⟩
 ·have he:s.toList.isEmpty=false:=bV s h0
  have hz:0<s.size:=by omega
  have a1:(0:Int)≤(s[0].toNat:Int):=by omega
  have a2:(s[0].toNat:Int)≤255:=by have:=s[0].toNat_lt;omega
  rcases hc:iN (s[0].toNat:Int)with _ | _
  ·have J:kI s=runN dK s.data.toList:=by unfold kI;rw[bS s hz,hc];rfl
   have a0:=kT dK s;have hr:=hid (aGw s · Y)
   have Hc:=hid hc;clear h0 hc;generalize runN dK s.data.toList=q at *;have Hq:=hid J;clear J;go_enter Tryz.func211,Tryz.ntmps211;go_wp2_with fail;refine(qE _ _ a1 a2).mono ?_;rintro e w' ⟨rfl,rfl⟩;rw[Hc.out];go_wp2_with fail;refine(hr.out _).mono ?_;rintro e w' ⟨rfl,rfl⟩;go_wp2_with fail
   go_quiet (fail)
   go_wp2_with fail
   go_ret2
   exact⟨by rw[Hq.out];rfl,_,rfl⟩
  ·have J:kI s=runN zX s.data.toList:=by unfold kI;rw[bS s hz,hc];rfl
   have a0:=kT zX s;have hr:=hid (aGF s · Y)
   have Hc:=hid hc;clear h0 hc;generalize runN zX s.data.toList=q at *;have Hq:=hid J;clear J;go_enter Tryz.func211,Tryz.ntmps211;go_wp2_with fail;refine(qE _ _ a1 a2).mono ?_;rintro e w' ⟨rfl,rfl⟩;rw[Hc.out];go_wp2_with fail;refine(hr.out _).mono ?_;rintro e w' ⟨rfl,rfl⟩;go_wp2_with fail
   go_quiet (fail)
   go_wp2_with fail
   go_ret2
   exact⟨by rw[Hq.out];rfl,_,rfl⟩
def tC(words:Bool)(b:Int):Bool:=dK b||(words&&iN b)
theorem aLh:tC true=zX:=by funext b;unfold tC zX;simp[Bool.or_comm]
theorem aGM:tC false=dK:=by funext b;unfold tC;simp
theorem aH2(words:Bool)(b:Int)(h:tC words b=true):dK b=true∨(dK b=false∧words=true∧iN b=true):=by
 unfold tC at h
 rcases hd:dK b with _ | _
 ·rw[hd]at h;simp at h;exact Or.inr ⟨rfl,h⟩
 ·exact Or.inl rfl
theorem aNr(words:Bool)(b:Int)(h:tC words b=false):dK b=false∧(words=false∨(words=true∧iN b=false)):=by
 unfold tC at h;cases words <;> simp_all
theorem aA9(s:ByteArray)(w:World)(hs:s.size≤maxLen):Calls Tryz.prog 195 #[.string s] w (xE s w):=by
 unfold maxLen at hs;have main:∀(words:Bool) (w:World),(words=true→0<s.size)→(0<s.size→∀h:0<s.size,iN (s[0].toNat:Int)=words)→kI s=runN (tC words) s.data.toList→Calls Tryz.prog 195 #[.string s] w (xE s w):=by
  intro words w a7 aa hq;have a9:=hid (aDH (tC words) s);have a8:=hid (aAx (tC words) s);have ai:=kT (tC words) s;generalize runN (tC words) s.data.toList=q at *;have Hq:=hid hq;clear hq;have a0:∀k,k<q→∀h:k<s.size,dK (s[k].toNat:Int)=true∨(dK (s[k].toNat:Int)=false∧words=true∧iN (s[k].toNat:Int)=true):=fun k hk h=>aH2 _ _ (a8.out k hk h)
  have a2:∀h:q<s.size,dK (s[q].toNat:Int)=false∧(words=false∨(words=true∧iN (s[q].toNat:Int)=false)):=fun h=>aNr _ _ (a9.out q rfl h)
  have a1:=hid a0;have a6:=hid a2;clear a0 a2 a9 a8;have af:=hid aa;clear aa;have a3:(s.size=0∧words=false)∨0<s.size:=by
   rcases Nat.eq_zero_or_pos s.size with h | h
   ·left;refine⟨h,?_⟩;cases words
    ·rfl
    ·have:=a7 rfl;omega
   ·exact Or.inr h
  clear a7
  rcases a3 with⟨h0,rfl⟩ | hz
  ·have hz:¬0<s.size:=by omega
   have ae:q=0:=by omega
   subst ae;clear h0;go_enter Tryz.func195,Tryz.ntmps195;go_wp2_with fail;refine wp_loop_rounds 1 ?_;rw[rounds_succ];go_wp2_with fail
   go_quiet (fail)
   go_wp2_with fail
   go_ret2
   exact⟨by rw[Hq.out,show s.extract 0 0=ByteArray.empty by simp,show s.extract 0 s.size=s by simp];rfl,_,rfl⟩
  ·have Y:(0:Int)≤(s[0].toNat:Int):=by omega
   have J:(s[0].toNat:Int)≤255:=by have:=s[0].toNat_lt;omega
   have Hl:=hid (af.out hz hz);go_enter Tryz.func195,Tryz.ntmps195;go_wp2_with fail;refine(iG _ _ Y J).mono ?_;rintro e w' ⟨rfl,rfl⟩;rw[Hl.out];go_wp2_with fail
   go_loop [5] (fun n=>∃k:Nat,k≤q∧n=.int .i64 k) (fun n=>s.size-(intOf n).toNat)
   case atStart=>exact⟨0,bA _,rfl⟩
   case round=>
    obtain⟨k,hk,rfl⟩:=hrel
    by_cases ag:k<q
    ·have a5:k<s.size:=by omega
     have Y:(0:Int)≤(s[k].toNat:Int):=by omega
     have J:(s[k].toNat:Int)≤255:=by have:=s[k].toNat_lt;omega
     rcases a1.out k ag a5 with hd | ⟨hd,rfl,hl⟩
     ·have Hd:=hid hd
      clear hd;go_wp2_with fail;refine(gV _ _ Y J).mono ?_;rintro e w' ⟨rfl,rfl⟩;rw[Hd.out];go_wp2_with fail
      go_round
      case rel=>exact⟨k+1,by omega,by go_num⟩
      case measure=>simp[intOf];omega
     ·have Hd:=hid hd
      have a4:=hid hl;clear hd hl;go_wp2_with fail;refine(gV _ _ Y J).mono ?_;rintro e w' ⟨rfl,rfl⟩;rw[Hd.out];go_wp2_with fail;refine(iG _ _ Y J).mono ?_;rintro e w' ⟨rfl,rfl⟩;rw[a4.out];go_wp2_with fail
      go_round
      case rel=>exact⟨k+1,by omega,by go_num⟩
      case measure=>simp[intOf];omega
    ·obtain rfl:k=q:=by omega
     by_cases a5:k<s.size
     ·have Y:(0:Int)≤(s[k].toNat:Int):=by omega
      have J:(s[k].toNat:Int)≤255:=by have:=s[k].toNat_lt;omega
      obtain⟨hd,ah⟩:=a6.out a5;have Hd:=hid hd;clear hd
      rcases ah with rfl | ⟨rfl,hl⟩
      ·go_wp2_with fail
       refine(gV _ _ Y J).mono ?_;rintro e w' ⟨rfl,rfl⟩;rw[Hd.out];go_wp2_with fail
       go_quiet (fail)
       go_wp2_with fail
       go_ret2
       exact⟨by rw[Hq.out];rfl,_,rfl⟩
      ·have a4:=hid hl
       clear hl;go_wp2_with fail;refine(gV _ _ Y J).mono ?_;rintro e w' ⟨rfl,rfl⟩;rw[Hd.out];go_wp2_with fail;refine(iG _ _ Y J).mono ?_;rintro e w' ⟨rfl,rfl⟩;rw[a4.out];go_wp2_with fail
       go_quiet (fail)
       go_wp2_with fail
       go_ret2
       exact⟨by rw[Hq.out];rfl,_,rfl⟩
     ·go_wp2_with fail
      go_quiet (fail)
      go_wp2_with fail
      go_ret2
      exact⟨by rw[Hq.out];rfl,_,rfl⟩
 by_cases h0:s.size=0
 ·exact main false w (by intro h;cases h) (by intro h;omega) (by rw[aGM];exact aA3 s h0)
 ·have hz:0<s.size:=by omega
  rcases hc:iN (s[0].toNat:Int)with _ | _
  ·exact main false w (by intro h;cases h) (by intro _ _;exact hc) (by rw[aGM];unfold kI;rw[bS s hz,hc];rfl)
  ·exact main true w (by intro _;exact hz) (by intro _ _;exact hc) (by rw[aLh];unfold kI;rw[bS s hz,hc];rfl)
open RowKit
theorem vQ(s:ByteArray)(h:s.size=0∨16<s.size):bZ s=false:=by
 unfold bZ;rw[show decide (s.size≠0∧s.size≤16)=false from aB (by omega)]
 rfl
theorem aCh(s:ByteArray)(J:0<s.size)(h:iN (s[0].toNat:Int)=false):bZ s=false:=by
 unfold bZ;rw[bS s J,h,Bool.false_and,Bool.and_false]
theorem aCO(s:ByteArray)(J:0<s.size)(Y:s.size≤16)(h:iN (s[0].toNat:Int)=true):bZ s=decide (runN zX s.data.toList=s.size):=by
 unfold bZ;rw[bS s J,h,Bool.true_and,show decide (s.size≠0∧s.size≤16)=true from aC (by omega)]
 rfl
theorem lX(s:ByteArray)(w:World)(hs:s.size≤maxLen):Calls Tryz.prog 77 #[.string s] w fun e w'=>e=.returned (.bool (bZ s))∧w=w':=by
 have a1:=hs;unfold maxLen at hs
 by_cases h0:s.size=0
 ·have he:s.toList=[]:=fH s h0
  have J:=hid (vQ s (Or.inl h0));clear h0;go_enter Tryz.func77,Tryz.ntmps77;go_wp2_with fail;go_ret;exact⟨by rw[J.out];rfl,rfl⟩
 ·have he:s.toList.isEmpty=false:=bV s h0
  have hz:0<s.size:=by omega
  have Y:(0:Int)≤(s[0].toNat:Int):=by omega
  have a0:(s[0].toNat:Int)≤255:=by have:=s[0].toNat_lt;omega
  clear h0
  by_cases a2:s.size≤16
  ·rcases hc:iN (s[0].toNat:Int)with _ | _
   ·have J:=hid (aCh s hz hc)
    have Hc:=hid hc;clear hc;go_enter Tryz.func77,Tryz.ntmps77;go_wp2_with fail;refine(qE _ _ Y a0).mono ?_;rintro e w' ⟨rfl,rfl⟩;rw[Hc.out];go_wp2_with fail;go_ret;exact⟨by rw[J.out];rfl,rfl⟩
   ·have J:=hid (aCO s hz a2 hc)
    have Hc:=hid hc;have hr:=hid (aGF s · a1)
    have a3:=kT zX s;clear hc;generalize runN zX s.data.toList=q at *
    by_cases hq:q<s.size
    ·go_enter Tryz.func77,Tryz.ntmps77
     go_wp2_with fail;refine(qE _ _ Y a0).mono ?_;rintro e w' ⟨rfl,rfl⟩;rw[Hc.out];go_wp2_with fail;refine(hr.out _).mono ?_;rintro e w' ⟨rfl,rfl⟩;go_wp2_with fail;go_ret;exact⟨by rw[J.out];exact aAe (by simp;omega),rfl⟩
    ·obtain rfl:q=s.size:=by omega
     go_enter Tryz.func77,Tryz.ntmps77;go_wp2_with fail;refine(qE _ _ Y a0).mono ?_;rintro e w' ⟨rfl,rfl⟩;rw[Hc.out];go_wp2_with fail;refine(hr.out _).mono ?_;rintro e w' ⟨rfl,rfl⟩;go_wp2_with fail;go_ret;exact⟨by rw[J.out];exact aAe (by simp),rfl⟩
  ·have J:=hid (vQ s (Or.inr (by omega)))
   go_enter Tryz.func77,Tryz.ntmps77;go_wp2_with fail;go_ret;exact⟨by rw[J.out];rfl,rfl⟩
theorem aIC(b:Int)(h:zX b=true):iN b=true∨(iN b=false∧dK b=true):=by
 unfold zX at h
 rcases hl:iN b with _ | _
 ·rw[hl]at h;exact Or.inr ⟨rfl,by simpa using h⟩
 ·exact Or.inl rfl
theorem aNV(b:Int)(h:zX b=false):iN b=false∧dK b=false:=by
 unfold zX at h;simpa using h
theorem aCP(s:ByteArray)(w:World)(hs:s.size≤maxLen):Calls Tryz.prog 56 #[.string s] w fun e w'=>e=.returned (.bool (bZ s))∧w=w':=by
 unfold maxLen at hs
 by_cases h0:s.size=0
 ·have he:s.toList=[]:=fH s h0
  have Hn:=hid (vQ s (Or.inl h0));clear h0;go_enter Tryz.func56,Tryz.ntmps56;go_wp2_with fail;go_ret;exact⟨by rw[Hn.out];rfl,rfl⟩
 ·have he:s.toList.isEmpty=false:=bV s h0
  have hz:0<s.size:=by omega
  have Y:(0:Int)≤(s[0].toNat:Int):=by omega
  have J:(s[0].toNat:Int)≤255:=by have:=s[0].toNat_lt;omega
  clear h0
  by_cases a3:s.size≤16
  ·rcases hc:iN (s[0].toNat:Int)with _ | _
   ·have Hn:=hid (aCh s hz hc)
    have Hc:=hid hc;clear hc;go_enter Tryz.func56,Tryz.ntmps56;go_wp2_with fail;refine(iG _ _ Y J).mono ?_;rintro e w' ⟨rfl,rfl⟩;rw[Hc.out];go_wp2_with fail;go_ret;exact⟨by rw[Hn.out];rfl,rfl⟩
   ·have Hn:=hid (aCO s hz a3 hc)
    have Hc:=hid hc;have a4:=hid (aDH zX s);have a2:=hid (aAx zX s);have a5:=kT zX s;clear hc;generalize runN zX s.data.toList=q at *;go_enter Tryz.func56,Tryz.ntmps56;go_wp2_with fail;refine(iG _ _ Y J).mono ?_;rintro e w' ⟨rfl,rfl⟩;rw[Hc.out];go_wp2_with fail
    go_loop [3] (fun n=>∃k:Nat,k≤q∧n=.int .i64 k) (fun n=>s.size-(intOf n).toNat)
    case atStart=>exact⟨0,bA _,rfl⟩
    case round=>
     obtain⟨k,hk,rfl⟩:=hrel
     by_cases a1:k<q
     ·have a0:k<s.size:=by omega
      have Y:(0:Int)≤(s[k].toNat:Int):=by omega
      have J:(s[k].toNat:Int)≤255:=by have:=s[k].toNat_lt;omega
      rcases aIC _ (a2.out k a1 a0)with hl | ⟨hl,hd⟩
      ·have Hl:=hid hl
       clear hl;go_wp2_with fail;refine(iG _ _ Y J).mono ?_;rintro e w' ⟨rfl,rfl⟩;rw[Hl.out];go_wp2_with fail
       go_round
       case rel=>exact⟨k+1,by omega,by go_num⟩
       case measure=>simp[intOf];omega
      ·have Hl:=hid hl
       have Hd:=hid hd;clear hl hd;go_wp2_with fail;refine(iG _ _ Y J).mono ?_;rintro e w' ⟨rfl,rfl⟩;rw[Hl.out];go_wp2_with fail;refine(gV _ _ Y J).mono ?_;rintro e w' ⟨rfl,rfl⟩;rw[Hd.out];go_wp2_with fail
       go_round
       case rel=>exact⟨k+1,by omega,by go_num⟩
       case measure=>simp[intOf];omega
     ·obtain rfl:k=q:=by omega
      by_cases a0:k<s.size
      ·have Y:(0:Int)≤(s[k].toNat:Int):=by omega
       have J:(s[k].toNat:Int)≤255:=by have:=s[k].toNat_lt;omega
       obtain⟨hl,hd⟩:=aNV _ (a4.out k rfl a0);have Hl:=hid hl;have Hd:=hid hd;clear hl hd;go_wp2_with fail;refine(iG _ _ Y J).mono ?_;rintro e w' ⟨rfl,rfl⟩;rw[Hl.out];go_wp2_with fail;refine(gV _ _ Y J).mono ?_;rintro e w' ⟨rfl,rfl⟩;rw[Hd.out];go_wp2_with fail;go_ret;exact⟨by rw[Hn.out];exact aAe (by simp;omega),rfl⟩
      ·obtain rfl:k=s.size:=by omega
       go_wp2_with fail;go_ret;exact⟨by rw[Hn.out];exact aAe (by simp),rfl⟩
  ·have Hn:=hid (vQ s (Or.inr (by omega)))
   go_enter Tryz.func56,Tryz.ntmps56;go_wp2_with fail;go_ret;exact⟨by rw[Hn.out];rfl,rfl⟩
end dg
end Go.Proofs.YtdmmkjijgoiecaaGreatDoor
