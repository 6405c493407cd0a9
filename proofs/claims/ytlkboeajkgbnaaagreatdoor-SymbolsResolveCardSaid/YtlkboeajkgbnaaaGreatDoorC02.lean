import Derived.Lib.Strings
import Derived.ProofKit
import Derived.Test.YtlkboeajkgbnaaaGreatDoorC01
set_option linter.all false
set_option maxHeartbeats 4000000
namespace Go.Proofs.YtlkboeajkgbnaaaGreatDoor
open Lib(hid)
namespace dg
open RowKit
theorem stop_run(cls:Int→Bool)(s:ByteArray)(k:Nat)(e:k=runN cls s.data.toList)(h:k<s.size):cls (s[k].toNat:Int)=false:=by
 have key:∀(l:List UInt8) (k:Nat) (_:k=runN cls l) (h:k<l.length),cls ((l[k]'h).toNat:Int)=false:=by
  intro l
  induction l with
  | nil=>intro k _ h;simp at h
  | cons c r ih=>
   intro k e h;rcases hc:cls (c.toNat:Int)with _ | _
   ·have e':runN cls (c :: r)=0:=by simp[runN,hc]
    obtain rfl:k=0:=by omega
    exact hc
   ·have e':runN cls (c :: r)=runN cls r+1:=by simp[runN,hc]
    cases k with
    | zero=>omega
    | succ k=>exact ih k (by omega) (by simpa using h)
 have hl:=size_list s;exact key _ _ e (by omega)
theorem before_run'(cls:Int→Bool)(s:ByteArray)(k:Nat)(hk:k<runN cls s.data.toList)(h:k<s.size):cls (s[k].toNat:Int)=true:=by
 have key:∀(l:List UInt8) (k:Nat) (_:k<runN cls l) (h':k<l.length),cls (l[k].toNat:Int)=true:=by
  intro l
  induction l with
  | nil=>intro k _ h';simp at h'
  | cons c r ih=>
   intro k h h';rcases hc:cls (c.toNat:Int)with _ | _
   ·have e:runN cls (c :: r)=0:=by simp[runN,hc]
    omega
   ·have e:runN cls (c :: r)=runN cls r+1:=by simp[runN,hc]
    cases k with
    | zero=>exact hc
    | succ k=>exact ih k (by omega) (by simpa using h')
 have hl:=size_list s;exact key _ _ hk (by omega)
def beh(b:Int):Bool:=letB b||digB b
theorem run_beh(s:ByteArray)(w:World)(hs:s.size≤maxLen) :
 Calls Tryz.prog 56 #[.string s,.func (.func 57) #[] #[]] w fun e w'=>e=.returned (.int .i64 (runN beh s.data.toList:Nat))∧w=w':=run_behind s w hs
theorem run_dig(s:ByteArray)(w:World)(hs:s.size≤maxLen) :
 Calls Tryz.prog 56 #[.string s,.func (.func 143) #[] #[]] w fun e w'=>e=.returned (.int .i64 (runN digB s.data.toList:Nat))∧w=w':=run_digit s w hs
theorem runN_size(cls:Int→Bool)(s:ByteArray):runN cls s.data.toList≤s.size:=by
 have:=runN_le cls s.data.toList;have:=size_list s;omega
def splN(s:ByteArray):Nat:=if letB ((s.data.toList.headD 0).toNat:Int) then runN beh s.data.toList else runN digB s.data.toList
theorem splN_le(s:ByteArray):splN s≤s.size:=by
 unfold splN;split
 ·exact runN_size _ s
 ·exact runN_size _ s
theorem letB_zero:letB 0=false:=by decide
theorem splN_empty(s:ByteArray)(h:s.size=0):splN s=runN digB s.data.toList:=by
 have e:s.data.toList=[]:=List.length_eq_zero_iff.1 (by rw[size_list];exact h);unfold splN;rw[e];simp[letB_zero]
def nameB(s:ByteArray):Bool:=decide (s.size≠0∧s.size≤16)&&(letB ((s.data.toList.headD 0).toNat:Int)&&decide (runN beh s.data.toList=s.size))
def SplitPost(s:ByteArray)(w:World)(e:Ending)(w':World):Prop:=
 e=.returned (.tuple #[.string (s.extract 0 (splN s)),.string (s.extract (splN s) s.size)])∧∃n,w'=w.drewN n
theorem split_any(s:ByteArray)(w:World)(hs:s.size≤maxLen):Calls Tryz.prog 117 #[.string s] w (SplitPost s w):=by
 have hs':=hs;unfold maxLen at hs;by_cases h0:s.size=0
 ·have he:s.toList=[]:=empty_list s h0
  have hq:=splN_empty s h0;have hle:=runN_size digB s;have hr:=hid (run_dig s · hs');clear h0;generalize runN digB s.data.toList=q at *;have Hq:=hid hq;clear hq;go_enter Tryz.func117,Tryz.ntmps117;go_wp2_with fail;refine(hr.out _).mono ?_;rintro e w' ⟨rfl,rfl⟩;go_wp2_with fail;go_quiet (fail);go_wp2_with fail;go_ret2;exact⟨by rw[Hq.out];rfl,_,rfl⟩
 ·have he:s.toList.isEmpty=false:=not_empty s h0
  have hz:0<s.size:=by omega
  have hb0:(0:Int)≤(s[0].toNat:Int):=by omega
  have hb1:(s[0].toNat:Int)≤255:=by have:=s[0].toNat_lt;omega
  rcases hc:letB (s[0].toNat:Int)with _ | _
  ·have hq:splN s=runN digB s.data.toList:=by unfold splN;rw[headD_zero s hz,hc];rfl
   have hle:=runN_size digB s;have hr:=hid (run_dig s · hs');have Hc:=hid hc;clear h0 hc;generalize runN digB s.data.toList=q at *;have Hq:=hid hq;clear hq;go_enter Tryz.func117,Tryz.ntmps117;go_wp2_with fail;refine(letter_any _ _ hb0 hb1).mono ?_;rintro e w' ⟨rfl,rfl⟩;rw[Hc.out];go_wp2_with fail;refine(hr.out _).mono ?_;rintro e w' ⟨rfl,rfl⟩;go_wp2_with fail;go_quiet (fail);go_wp2_with fail;go_ret2;exact⟨by rw[Hq.out];rfl,_,rfl⟩
  ·have hq:splN s=runN beh s.data.toList:=by unfold splN;rw[headD_zero s hz,hc];rfl
   have hle:=runN_size beh s;have hr:=hid (run_beh s · hs');have Hc:=hid hc;clear h0 hc;generalize runN beh s.data.toList=q at *;have Hq:=hid hq;clear hq;go_enter Tryz.func117,Tryz.ntmps117;go_wp2_with fail;refine(letter_any _ _ hb0 hb1).mono ?_;rintro e w' ⟨rfl,rfl⟩;rw[Hc.out];go_wp2_with fail;refine(hr.out _).mono ?_;rintro e w' ⟨rfl,rfl⟩;go_wp2_with fail;go_quiet (fail);go_wp2_with fail;go_ret2;exact⟨by rw[Hq.out];rfl,_,rfl⟩
def clsOf(words:Bool)(b:Int):Bool:=digB b||(words&&letB b)
theorem cls_beh:clsOf true=beh:=by funext b;unfold clsOf beh;simp[Bool.or_comm]
theorem cls_dig:clsOf false=digB:=by funext b;unfold clsOf;simp
theorem cls_cases(words:Bool)(b:Int)(h:clsOf words b=true):digB b=true∨(digB b=false∧words=true∧letB b=true):=by
 unfold clsOf at h;rcases hd:digB b with _ | _
 ·rw[hd]at h;simp at h;exact Or.inr ⟨rfl,h⟩
 ·exact Or.inl rfl
theorem cls_no(words:Bool)(b:Int)(h:clsOf words b=false):digB b=false∧(words=false∨(words=true∧letB b=false)):=by
 unfold clsOf at h;cases words <;> simp_all
theorem rsplit_any(s:ByteArray)(w:World)(hs:s.size≤maxLen):Calls Tryz.prog 132 #[.string s] w (SplitPost s w):=by
 unfold maxLen at hs;have main:∀(words:Bool) (w:World),(words=true→0<s.size)→(0<s.size→∀h:0<s.size,letB (s[0].toNat:Int)=words)→splN s=runN (clsOf words) s.data.toList→Calls Tryz.prog 132 #[.string s] w (SplitPost s w):=by
  intro words w hw1 hw2 hq;have hst:=hid (stop_run (clsOf words) s);have hbf:=hid (before_run' (clsOf words) s);have hle:=runN_size (clsOf words) s;generalize runN (clsOf words) s.data.toList=q at *;have Hq:=hid hq;clear hq;have hround:∀k,k<q→∀h:k<s.size,digB (s[k].toNat:Int)=true∨(digB (s[k].toNat:Int)=false∧words=true∧letB (s[k].toNat:Int)=true):=fun k hk h=>cls_cases _ _ (hbf.out k hk h)
  have hend:∀h:q<s.size,digB (s[q].toNat:Int)=false∧(words=false∨(words=true∧letB (s[q].toNat:Int)=false)):=fun h=>cls_no _ _ (hst.out q rfl h)
  have Hround:=hid hround;have Hend:=hid hend;clear hround hend hst hbf;have Hw2:=hid hw2;clear hw2;have hcase:(s.size=0∧words=false)∨0<s.size:=by
   rcases Nat.eq_zero_or_pos s.size with h | h
   ·left;refine⟨h,?_⟩;cases words
    ·rfl
    ·have:=hw1 rfl;omega
   ·exact Or.inr h
  clear hw1;rcases hcase with⟨h0,rfl⟩ | hz
  ·have hz:¬0<s.size:=by omega
   have hq0:q=0:=by omega
   subst hq0;clear h0;go_enter Tryz.func132,Tryz.ntmps132;go_wp2_with fail;refine wp_loop_rounds 1 ?_;rw[rounds_succ];go_wp2_with fail;go_quiet (fail);go_wp2_with fail;go_ret2;exact⟨by rw[Hq.out,show s.extract 0 0=ByteArray.empty by simp,show s.extract 0 s.size=s by simp];rfl,_,rfl⟩
  ·have hb0:(0:Int)≤(s[0].toNat:Int):=by omega
   have hb1:(s[0].toNat:Int)≤255:=by have:=s[0].toNat_lt;omega
   have Hl:=hid (Hw2.out hz hz);go_enter Tryz.func132,Tryz.ntmps132;go_wp2_with fail;refine(rletter_any _ _ hb0 hb1).mono ?_;rintro e w' ⟨rfl,rfl⟩;rw[Hl.out];go_wp2_with fail
   go_loop [5] (fun n=>∃k:Nat,k≤q∧n=.int .i64 k) (fun n=>s.size-(intOf n).toNat)
   case atStart=>exact⟨0,Nat.zero_le _,rfl⟩
   case round=>
    obtain⟨k,hk,rfl⟩:=hrel;by_cases hkq:k<q
    ·have hlt:k<s.size:=by omega
     have hb0:(0:Int)≤(s[k].toNat:Int):=by omega
     have hb1:(s[k].toNat:Int)≤255:=by have:=s[k].toNat_lt;omega
     rcases Hround.out k hkq hlt with hd | ⟨hd,rfl,hl⟩
     ·have Hd:=hid hd
      clear hd;go_wp2_with fail;refine(rdigit_any _ _ hb0 hb1).mono ?_;rintro e w' ⟨rfl,rfl⟩;rw[Hd.out];go_wp2_with fail
      go_round
      case rel=>exact⟨k+1,by omega,by go_num⟩
      case measure=>simp[intOf];omega
     ·have Hd:=hid hd
      have Hl2:=hid hl;clear hd hl;go_wp2_with fail;refine(rdigit_any _ _ hb0 hb1).mono ?_;rintro e w' ⟨rfl,rfl⟩;rw[Hd.out];go_wp2_with fail;refine(rletter_any _ _ hb0 hb1).mono ?_;rintro e w' ⟨rfl,rfl⟩;rw[Hl2.out];go_wp2_with fail
      go_round
      case rel=>exact⟨k+1,by omega,by go_num⟩
      case measure=>simp[intOf];omega
    ·obtain rfl:k=q:=by omega
     by_cases hlt:k<s.size
     ·have hb0:(0:Int)≤(s[k].toNat:Int):=by omega
      have hb1:(s[k].toNat:Int)≤255:=by have:=s[k].toNat_lt;omega
      obtain⟨hd,hww⟩:=Hend.out hlt;have Hd:=hid hd;clear hd;rcases hww with rfl | ⟨rfl,hl⟩
      ·go_wp2_with fail
       refine(rdigit_any _ _ hb0 hb1).mono ?_;rintro e w' ⟨rfl,rfl⟩;rw[Hd.out];go_wp2_with fail;go_quiet (fail);go_wp2_with fail;go_ret2;exact⟨by rw[Hq.out];rfl,_,rfl⟩
      ·have Hl2:=hid hl
       clear hl;go_wp2_with fail;refine(rdigit_any _ _ hb0 hb1).mono ?_;rintro e w' ⟨rfl,rfl⟩;rw[Hd.out];go_wp2_with fail;refine(rletter_any _ _ hb0 hb1).mono ?_;rintro e w' ⟨rfl,rfl⟩;rw[Hl2.out];go_wp2_with fail;go_quiet (fail);go_wp2_with fail;go_ret2;exact⟨by rw[Hq.out];rfl,_,rfl⟩
     ·go_wp2_with fail
      go_quiet (fail);go_wp2_with fail;go_ret2;exact⟨by rw[Hq.out];rfl,_,rfl⟩
 by_cases h0:s.size=0
 ·exact main false w (by intro h;cases h) (by intro h;omega) (by rw[cls_dig];exact splN_empty s h0)
 ·have hz:0<s.size:=by omega
  rcases hc:letB (s[0].toNat:Int)with _ | _
  ·exact main false w (by intro h;cases h) (by intro _ _;exact hc) (by rw[cls_dig];unfold splN;rw[headD_zero s hz,hc];rfl)
  ·exact main true w (by intro _;exact hz) (by intro _ _;exact hc) (by rw[cls_beh];unfold splN;rw[headD_zero s hz,hc];rfl)
theorem nameB_no(s:ByteArray)(h:s.size=0∨16<s.size):nameB s=false:=by
 unfold nameB;rw[show decide (s.size≠0∧s.size≤16)=false from decide_eq_false (by omega)];rfl
theorem nameB_let(s:ByteArray)(hz:0<s.size)(h:letB (s[0].toNat:Int)=false):nameB s=false:=by
 unfold nameB;rw[headD_zero s hz,h,Bool.false_and,Bool.and_false]
theorem nameB_run(s:ByteArray)(hz:0<s.size)(h1:s.size≤16)(h:letB (s[0].toNat:Int)=true):nameB s=decide (runN beh s.data.toList=s.size):=by
 unfold nameB;rw[headD_zero s hz,h,Bool.true_and,show decide (s.size≠0∧s.size≤16)=true from decide_eq_true (by omega)];rfl
theorem name_any(s:ByteArray)(w:World)(hs:s.size≤maxLen):Calls Tryz.prog 31 #[.string s] w fun e w'=>e=.returned (.bool (nameB s))∧w=w':=by
 have hs':=hs;unfold maxLen at hs;by_cases h0:s.size=0
 ·have he:s.toList=[]:=empty_list s h0
  have Hn:=hid (nameB_no s (Or.inl h0));clear h0;go_enter Tryz.func31,Tryz.ntmps31;go_wp2_with fail;go_ret;exact⟨by rw[Hn.out];rfl,rfl⟩
 ·have he:s.toList.isEmpty=false:=not_empty s h0
  have hz:0<s.size:=by omega
  have hb0:(0:Int)≤(s[0].toNat:Int):=by omega
  have hb1:(s[0].toNat:Int)≤255:=by have:=s[0].toNat_lt;omega
  clear h0;by_cases h16:s.size≤16
  ·rcases hc:letB (s[0].toNat:Int)with _ | _
   ·have Hn:=hid (nameB_let s hz hc)
    have Hc:=hid hc;clear hc;go_enter Tryz.func31,Tryz.ntmps31;go_wp2_with fail;refine(letter_any _ _ hb0 hb1).mono ?_;rintro e w' ⟨rfl,rfl⟩;rw[Hc.out];go_wp2_with fail;go_ret;exact⟨by rw[Hn.out];rfl,rfl⟩
   ·have Hn:=hid (nameB_run s hz h16 hc)
    have Hc:=hid hc;have hr:=hid (run_beh s · hs');have hle:=runN_size beh s;clear hc;generalize runN beh s.data.toList=q at *;by_cases hq:q<s.size
    ·go_enter Tryz.func31,Tryz.ntmps31
     go_wp2_with fail;refine(letter_any _ _ hb0 hb1).mono ?_;rintro e w' ⟨rfl,rfl⟩;rw[Hc.out];go_wp2_with fail;refine(hr.out _).mono ?_;rintro e w' ⟨rfl,rfl⟩;go_wp2_with fail;go_ret;exact⟨by rw[Hn.out];exact retB (by simp;omega),rfl⟩
    ·obtain rfl:q=s.size:=by omega
     go_enter Tryz.func31,Tryz.ntmps31;go_wp2_with fail;refine(letter_any _ _ hb0 hb1).mono ?_;rintro e w' ⟨rfl,rfl⟩;rw[Hc.out];go_wp2_with fail;refine(hr.out _).mono ?_;rintro e w' ⟨rfl,rfl⟩;go_wp2_with fail;go_ret;exact⟨by rw[Hn.out];exact retB (by simp),rfl⟩
  ·have Hn:=hid (nameB_no s (Or.inr (by omega)))
   go_enter Tryz.func31,Tryz.ntmps31;go_wp2_with fail;go_ret;exact⟨by rw[Hn.out];rfl,rfl⟩
theorem beh_cases(b:Int)(h:beh b=true):letB b=true∨(letB b=false∧digB b=true):=by
 unfold beh at h;rcases hl:letB b with _ | _
 ·rw[hl]at h;exact Or.inr ⟨rfl,by simpa using h⟩
 ·exact Or.inl rfl
theorem beh_no(b:Int)(h:beh b=false):letB b=false∧digB b=false:=by
 unfold beh at h;simpa using h
theorem rname_any(s:ByteArray)(w:World)(hs:s.size≤maxLen):Calls Tryz.prog 46 #[.string s] w fun e w'=>e=.returned (.bool (nameB s))∧w=w':=by
 unfold maxLen at hs;by_cases h0:s.size=0
 ·have he:s.toList=[]:=empty_list s h0
  have Hn:=hid (nameB_no s (Or.inl h0));clear h0;go_enter Tryz.func46,Tryz.ntmps46;go_wp2_with fail;go_ret;exact⟨by rw[Hn.out];rfl,rfl⟩
 ·have he:s.toList.isEmpty=false:=not_empty s h0
  have hz:0<s.size:=by omega
  have hb0:(0:Int)≤(s[0].toNat:Int):=by omega
  have hb1:(s[0].toNat:Int)≤255:=by have:=s[0].toNat_lt;omega
  clear h0;by_cases h16:s.size≤16
  ·rcases hc:letB (s[0].toNat:Int)with _ | _
   ·have Hn:=hid (nameB_let s hz hc)
    have Hc:=hid hc;clear hc;go_enter Tryz.func46,Tryz.ntmps46;go_wp2_with fail;refine(rletter_any _ _ hb0 hb1).mono ?_;rintro e w' ⟨rfl,rfl⟩;rw[Hc.out];go_wp2_with fail;go_ret;exact⟨by rw[Hn.out];rfl,rfl⟩
   ·have Hn:=hid (nameB_run s hz h16 hc)
    have Hc:=hid hc;have hst:=hid (stop_run beh s);have hbf:=hid (before_run' beh s);have hle:=runN_size beh s;clear hc;generalize runN beh s.data.toList=q at *;go_enter Tryz.func46,Tryz.ntmps46;go_wp2_with fail;refine(rletter_any _ _ hb0 hb1).mono ?_;rintro e w' ⟨rfl,rfl⟩;rw[Hc.out];go_wp2_with fail
    go_loop [3] (fun n=>∃k:Nat,k≤q∧n=.int .i64 k) (fun n=>s.size-(intOf n).toNat)
    case atStart=>exact⟨0,Nat.zero_le _,rfl⟩
    case round=>
     obtain⟨k,hk,rfl⟩:=hrel;by_cases hkq:k<q
     ·have hlt:k<s.size:=by omega
      have hb0:(0:Int)≤(s[k].toNat:Int):=by omega
      have hb1:(s[k].toNat:Int)≤255:=by have:=s[k].toNat_lt;omega
      rcases beh_cases _ (hbf.out k hkq hlt)with hl | ⟨hl,hd⟩
      ·have Hl:=hid hl
       clear hl;go_wp2_with fail;refine(rletter_any _ _ hb0 hb1).mono ?_;rintro e w' ⟨rfl,rfl⟩;rw[Hl.out];go_wp2_with fail
       go_round
       case rel=>exact⟨k+1,by omega,by go_num⟩
       case measure=>simp[intOf];omega
      ·have Hl:=hid hl
       have Hd:=hid hd;clear hl hd;go_wp2_with fail;refine(rletter_any _ _ hb0 hb1).mono ?_;rintro e w' ⟨rfl,rfl⟩;rw[Hl.out];go_wp2_with fail;refine(rdigit_any _ _ hb0 hb1).mono ?_;rintro e w' ⟨rfl,rfl⟩;rw[Hd.out];go_wp2_with fail
       go_round
       case rel=>exact⟨k+1,by omega,by go_num⟩
       case measure=>simp[intOf];omega
     ·obtain rfl:k=q:=by omega
      by_cases hlt:k<s.size
      ·have hb0:(0:Int)≤(s[k].toNat:Int):=by omega
       have hb1:(s[k].toNat:Int)≤255:=by have:=s[k].toNat_lt;omega
       obtain⟨hl,hd⟩:=beh_no _ (hst.out k rfl hlt);have Hl:=hid hl;have Hd:=hid hd;clear hl hd;go_wp2_with fail;refine(rletter_any _ _ hb0 hb1).mono ?_;rintro e w' ⟨rfl,rfl⟩;rw[Hl.out];go_wp2_with fail;refine(rdigit_any _ _ hb0 hb1).mono ?_;rintro e w' ⟨rfl,rfl⟩;rw[Hd.out];go_wp2_with fail;go_ret;exact⟨by rw[Hn.out];exact retB (by simp;omega),rfl⟩
      ·obtain rfl:k=s.size:=by omega
       go_wp2_with fail;go_ret;exact⟨by rw[Hn.out];exact retB (by simp),rfl⟩
  ·have Hn:=hid (nameB_no s (Or.inr (by omega)))
   go_enter Tryz.func46,Tryz.ntmps46;go_wp2_with fail;go_ret;exact⟨by rw[Hn.out];rfl,rfl⟩
end dg
end Go.Proofs.YtlkboeajkgbnaaaGreatDoor
