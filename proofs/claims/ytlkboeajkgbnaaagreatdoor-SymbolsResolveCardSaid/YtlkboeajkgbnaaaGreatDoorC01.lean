import Derived.BigQuiet
import Derived.Lib.Hide
import Derived.Test.YtlkboeajkgbnaaaGreatDoorRows
import Derived.WalkSpells
set_option linter.all false
set_option maxHeartbeats 4000000
namespace Go.Proofs.YtlkboeajkgbnaaaGreatDoor
open Lib(hid)
namespace dg
open RowKit
def digB(b:Int):Bool:=decide (48≤b∧b≤57)
def letB(b:Int):Bool:=decide ((65≤b∧b≤90)∨(97≤b∧b≤122)∨b=95)
theorem retB{a b:Bool}(h:(a=true)↔(b=true)):Ending.returned (.bool a)=.returned (.bool b):=by rw[Bool.eq_iff_iff.2 h]
theorem digit_any(b:Int)(w:World)(h0:0≤b)(h1:b≤255) :
 Calls Tryz.prog 143 #[.int .u8 b] w fun e w'=>e=.returned (.bool (digB b))∧w=w':=by
 rcases(by omega:b<48∨(48≤b∧b≤57)∨(57<b∧b<65)∨(65≤b∧b≤90)∨(90<b∧b<95)∨b=95∨b=96∨(97≤b∧b≤122)∨122<b)with h | h | h | h | h | h | h | h | h
 all_goals
  have hf:(digB b)=decide (48≤b∧b≤57):=by rfl
  have H:=hid hf;clear hf;go_enter Tryz.func143,Tryz.ntmps143
  go_wp2
  go_ret;exact⟨by rw[H.out];first | (simp;omega) | exact retB (by simp;omega),rfl⟩
theorem letter_any(b:Int)(w:World)(h0:0≤b)(h1:b≤255) :
 Calls Tryz.prog 55 #[.int .u8 b] w fun e w'=>e=.returned (.bool (letB b))∧w=w':=by
 rcases(by omega:b<48∨(48≤b∧b≤57)∨(57<b∧b<65)∨(65≤b∧b≤90)∨(90<b∧b<95)∨b=95∨b=96∨(97≤b∧b≤122)∨122<b)with h | h | h | h | h | h | h | h | h
 all_goals
  have hf:(letB b)=decide ((65≤b∧b≤90)∨(97≤b∧b≤122)∨b=95):=by rfl
  have H:=hid hf;clear hf;go_enter Tryz.func55,Tryz.ntmps55
  go_wp2
  go_ret;exact⟨by rw[H.out];first | (simp;omega) | exact retB (by simp;omega),rfl⟩
theorem behind_any(b:Int)(w:World)(h0:0≤b)(h1:b≤255) :
 Calls Tryz.prog 57 #[.int .u8 b] w fun e w'=>e=.returned (.bool (letB b||digB b))∧w=w':=by
 rcases(by omega:b<48∨(48≤b∧b≤57)∨(57<b∧b<65)∨(65≤b∧b≤90)∨(90<b∧b<95)∨b=95∨b=96∨(97≤b∧b≤122)∨122<b)with h | h | h | h | h | h | h | h | h
 all_goals
  have hf:(letB b||digB b)=decide (((65≤b∧b≤90)∨(97≤b∧b≤122)∨b=95)∨(48≤b∧b≤57)):=by unfold letB digB;simp
  have H:=hid hf;clear hf;go_enter Tryz.func57,Tryz.ntmps57
  go_wp2
  go_ret;exact⟨by rw[H.out];first | (simp;omega) | exact retB (by simp;omega),rfl⟩
theorem rdigit_any(b:Int)(w:World)(h0:0≤b)(h1:b≤255) :
 Calls Tryz.prog 78 #[.int .u8 b] w fun e w'=>e=.returned (.bool (digB b))∧w=w':=by
 rcases(by omega:b<48∨(48≤b∧b≤57)∨(57<b∧b<65)∨(65≤b∧b≤90)∨(90<b∧b<95)∨b=95∨b=96∨(97≤b∧b≤122)∨122<b)with h | h | h | h | h | h | h | h | h
 all_goals
  have hf:(digB b)=decide (48≤b∧b≤57):=by rfl
  have H:=hid hf;clear hf;go_enter Tryz.func78,Tryz.ntmps78
  go_wp2
  go_ret;exact⟨by rw[H.out];first | (simp;omega) | exact retB (by simp;omega),rfl⟩
theorem rletter_any(b:Int)(w:World)(h0:0≤b)(h1:b≤255) :
 Calls Tryz.prog 77 #[.int .u8 b] w fun e w'=>e=.returned (.bool (letB b))∧w=w':=by
 rcases(by omega:b<48∨(48≤b∧b≤57)∨(57<b∧b<65)∨(65≤b∧b≤90)∨(90<b∧b<95)∨b=95∨b=96∨(97≤b∧b≤122)∨122<b)with h | h | h | h | h | h | h | h | h
 all_goals
  have hf:(letB b)=decide ((65≤b∧b≤90)∨(97≤b∧b≤122)∨b=95):=by rfl
  have H:=hid hf;clear hf;go_enter Tryz.func77,Tryz.ntmps77
  go_wp2
  go_ret;exact⟨by rw[H.out];first | (simp;omega) | exact retB (by simp;omega),rfl⟩
def runN(cls:Int→Bool)(l:List UInt8):Nat:=(l.takeWhile fun c=>cls (c.toNat:Int)).length
theorem runN_le(cls:Int→Bool)(l:List UInt8):runN cls l≤l.length:=by
 unfold runN;exact(List.takeWhile_sublist _).length_le
theorem run_of(cls:Int→Bool)(s:ByteArray)(k:Nat)(hk:k≤s.size)(hp:∀i (_:i<k) (h':i<s.size),cls (s[i].toNat:Int)=true)(he:∀h:k<s.size,cls (s[k].toNat:Int)=false):runN cls s.data.toList=k:=by
 have hl:s.data.toList.length=s.size:=by rw[Array.length_toList];rfl
 have key:∀(l:List UInt8) (k:Nat),k≤l.length→(∀i (_:i<k) (h':i<l.length),cls (l[i].toNat:Int)=true)→(∀h:k<l.length,cls (l[k].toNat:Int)=false)→runN cls l=k:=by
  intro l
  induction l with
  | nil=>intro k hk _ _;simp at hk;subst hk;rfl
  | cons c r ih=>
   intro k hk hp he;cases k with
   | zero=>
    have h:=he (by simp);simp at h;simp[runN,h]
   | succ k=>
    have h:=hp 0 (by omega) (by simp);simp at h;have:=ih k (by simpa using hk) (fun i hi h'=>by have:=hp (i+1) (by omega) (by simpa using h');simpa using this) (fun h'=>by have:=he (by simpa using h');simpa using this);unfold runN at this ⊢;simp[h,this]
 exact key _ k (by omega) (fun i hi h'=>hp i hi (by omega)) (fun h=>he (by omega))
theorem run_digit(s:ByteArray)(w:World)(hs:s.size≤maxLen) :
 Calls Tryz.prog 56 #[.string s,.func (.func 143) #[] #[]] w fun e w'=>e=.returned (.int .i64 (runN (fun b=>digB b) s.data.toList:Nat))∧w=w':=by
 unfold maxLen at hs;go_enter Tryz.func56,Tryz.ntmps56;go_wp2_with fail
 go_loop [5] (fun n=>∃k:Nat,k≤s.size∧n=.int .i64 k∧Hid (∀i (h:i<k) (h':i<s.size),(fun b=>digB b) (s[i].toNat:Int)=true)) (fun n=>s.size-(intOf n).toNat)
 case atStart=>exact⟨0,Nat.zero_le _,rfl,hid (by intro i h;omega)⟩
 case round=>
  obtain⟨k,hk,rfl,hp⟩:=hrel;by_cases hlt:k<s.size
  ·have hb0:(0:Int)≤(s[k].toNat:Int):=by omega
   have hb1:(s[k].toNat:Int)≤255:=by have:=s[k].toNat_lt;omega
   rcases hc:((fun b=>digB b) (s[k].toNat:Int))with _ | _
   ·have hr:=run_of (fun b=>digB b) s k hk (fun i h h'=>hp.out i h h') (fun _=>hc)
    have Hr:=hid hr;have Hc:=hid hc;clear hr hc
    go_wp2_with (go_at_call 143;refine(digit_any _ _ hb0 hb1).mono ?_;rintro e w' ⟨rfl,rfl⟩;rw[show(digB (s[k].toNat:Int))=false from Hc.out])
    go_ret;exact⟨by rw[Hr.out];rfl,rfl⟩
   ·have Hc:=hid hc
    clear hc
    go_wp2_with (go_at_call 143;refine(digit_any _ _ hb0 hb1).mono ?_;rintro e w' ⟨rfl,rfl⟩;rw[show(digB (s[k].toNat:Int))=true from Hc.out])
    go_round
    case rel=>
     refine⟨k+1,by omega,by go_num,hid ?_⟩;intro i h h';rcases(by omega:i<k∨i=k)with h2 | rfl
     ·exact hp.out i h2 h'
     ·exact Hc.out
    case measure=>simp[intOf];omega
  ·have hr:=run_of (fun b=>digB b) s k hk (fun i h h'=>hp.out i h h') (fun h=>absurd h hlt)
   have Hr:=hid hr;clear hr
   go_wp2
   go_ret;exact⟨by rw[Hr.out];rfl,rfl⟩
theorem run_behind(s:ByteArray)(w:World)(hs:s.size≤maxLen) :
 Calls Tryz.prog 56 #[.string s,.func (.func 57) #[] #[]] w fun e w'=>e=.returned (.int .i64 (runN (fun b=>letB b||digB b) s.data.toList:Nat))∧w=w':=by
 unfold maxLen at hs;go_enter Tryz.func56,Tryz.ntmps56;go_wp2_with fail
 go_loop [5] (fun n=>∃k:Nat,k≤s.size∧n=.int .i64 k∧Hid (∀i (h:i<k) (h':i<s.size),(fun b=>letB b||digB b) (s[i].toNat:Int)=true)) (fun n=>s.size-(intOf n).toNat)
 case atStart=>exact⟨0,Nat.zero_le _,rfl,hid (by intro i h;omega)⟩
 case round=>
  obtain⟨k,hk,rfl,hp⟩:=hrel;by_cases hlt:k<s.size
  ·have hb0:(0:Int)≤(s[k].toNat:Int):=by omega
   have hb1:(s[k].toNat:Int)≤255:=by have:=s[k].toNat_lt;omega
   rcases hc:((fun b=>letB b||digB b) (s[k].toNat:Int))with _ | _
   ·have hr:=run_of (fun b=>letB b||digB b) s k hk (fun i h h'=>hp.out i h h') (fun _=>hc)
    have Hr:=hid hr;have Hc:=hid hc;clear hr hc
    go_wp2_with (go_at_call 57;refine(behind_any _ _ hb0 hb1).mono ?_;rintro e w' ⟨rfl,rfl⟩;rw[show(letB (s[k].toNat:Int)||digB (s[k].toNat:Int))=false from Hc.out])
    go_ret;exact⟨by rw[Hr.out];rfl,rfl⟩
   ·have Hc:=hid hc
    clear hc
    go_wp2_with (go_at_call 57;refine(behind_any _ _ hb0 hb1).mono ?_;rintro e w' ⟨rfl,rfl⟩;rw[show(letB (s[k].toNat:Int)||digB (s[k].toNat:Int))=true from Hc.out])
    go_round
    case rel=>
     refine⟨k+1,by omega,by go_num,hid ?_⟩;intro i h h';rcases(by omega:i<k∨i=k)with h2 | rfl
     ·exact hp.out i h2 h'
     ·exact Hc.out
    case measure=>simp[intOf];omega
  ·have hr:=run_of (fun b=>letB b||digB b) s k hk (fun i h h'=>hp.out i h h') (fun h=>absurd h hlt)
   have Hr:=hid hr;clear hr
   go_wp2
   go_ret;exact⟨by rw[Hr.out];rfl,rfl⟩
def acc(n:Int):List UInt8→Option Int
 | []=>some n
 | c :: r=>if 10 * n+((c.toNat:Int)-48) > 268435456 then none else acc (10 * n+((c.toNat:Int)-48)) r
def accR(o:Option Int):Int×Int:=match o with
 | some n=>(n,0)
 | none=>(0,2)
def rd(s:ByteArray):Int×Int:=
 if s.size=0 then(0,1)
 else if runN (fun b=>digB b) s.data.toList<s.size then(0,3)
 else if((s.data.toList.headD 0).toNat:Int)=48∧1<s.size then(0,3)
 else accR (acc 0 s.data.toList)
theorem size_list(s:ByteArray):s.data.toList.length=s.size:=by rw[Array.length_toList];rfl
theorem empty_list(s:ByteArray)(h:s.size=0):s.toList=[]:=by
 rw[ByteArray.toList_eq];exact List.length_eq_zero_iff.1 (by rw[size_list];exact h)
theorem not_empty(s:ByteArray)(h:¬s.size=0):s.toList.isEmpty=false:=by
 rw[ByteArray.toList_eq,List.isEmpty_eq_false_iff];intro e;have:=size_list s;rw[e]at this;simp at this;omega
theorem all_digits(s:ByteArray)(h:¬runN (fun b=>digB b) s.data.toList<s.size)(k:Nat)(hk:k<s.size):48≤(s[k].toNat:Int)∧(s[k].toNat:Int)≤57:=by
 have key:∀(l:List UInt8),l.length≤runN (fun b=>digB b) l→∀k (h:k<l.length),48≤(l[k].toNat:Int)∧(l[k].toNat:Int)≤57:=by
  intro l
  induction l with
  | nil=>intro _ k h;simp at h
  | cons c r ih=>
   intro hl k hk;unfold runN at hl;rw[List.takeWhile_cons]at hl;by_cases hc:digB (c.toNat:Int)=true
   ·rw[if_pos hc]at hl
    cases k with
    | zero=>simpa[digB] using hc
    | succ k=>exact ih (by unfold runN;simpa using hl) k (by simpa using hk)
   ·rw[if_neg hc]at hl
    simp at hl
 have:=size_list s;exact key _ (by omega) k (by omega)
theorem acc_step(s:ByteArray)(k:Nat)(n:Int)(hk:k<s.size):acc n (s.data.toList.drop k)=if 10 * n+((s[k].toNat:Int)-48) > 268435456 then none else acc (10 * n+((s[k].toNat:Int)-48)) (s.data.toList.drop (k+1)):=by
 have hl:=size_list s;rw[List.drop_eq_getElem_cons (by omega:k<s.data.toList.length)];rfl
theorem acc_end(s:ByteArray)(k:Nat)(n:Int)(hk:¬k<s.size):acc n (s.data.toList.drop k)=some n:=by
 have hl:=size_list s;rw[List.drop_of_length_le (by omega)];rfl
theorem headD_zero(s:ByteArray)(h:0<s.size):s.data.toList.headD 0=s[0]:=by
 have hl:=size_list s;rw[List.headD_eq_head?_getD,List.head?_eq_getElem?,List.getElem?_eq_getElem (by omega)];rfl
theorem read_any(s:ByteArray)(w:World)(hs:s.size≤maxLen) :
 Calls Tryz.prog 144 #[.string s] w fun e w'=>e=.returned (.tuple #[.int .i64 (rd s).1,.int .i64 (rd s).2])∧w=w':=by
 have hs':=hs;unfold maxLen at hs;by_cases h0:s.size=0
 ·have hrd:rd s=(0,1):=by unfold rd;rw[if_pos h0]
  have Hr:=hid hrd;have he:s.toList=[]:=empty_list s h0;clear hrd h0;go_enter Tryz.func144,Tryz.ntmps144;go_wp2_with fail;go_ret2;exact⟨by rw[Hr.out];rfl,rfl⟩
 ·have he:s.toList.isEmpty=false:=not_empty s h0
  have hz:0<s.size:=by omega
  by_cases h1:runN (fun b=>digB b) s.data.toList<s.size
  ·have hrd:rd s=(0,3):=by unfold rd;rw[if_neg h0,if_pos h1]
   have Hr:=hid hrd;clear hrd h0;go_enter Tryz.func144,Tryz.ntmps144;go_wp2_with fail;refine(run_digit s _ hs').mono ?_;rintro e w' ⟨rfl,rfl⟩;go_wp2_with fail;go_ret2;exact⟨by rw[Hr.out];rfl,rfl⟩
  ·have hall:=hid (all_digits s h1)
   have hr:runN (fun b=>digB b) s.data.toList=s.size:=by have:=runN_le (fun b=>digB b) s.data.toList;have:=size_list s;omega
   by_cases h2:((s[0].toNat:Nat):Int)=48∧1<s.size
   ·have hrd:rd s=(0,3):=by unfold rd;rw[if_neg h0,if_neg h1,headD_zero s hz,if_pos h2]
    have Hr:=hid hrd;have Hn:=hid hr;obtain⟨h2a,h2b⟩:=h2;clear hrd h0 h1 hr;go_enter Tryz.func144,Tryz.ntmps144;go_wp2_with fail;refine(run_digit s _ hs').mono ?_;rintro e w' ⟨rfl,rfl⟩;rw[Hn.out];go_wp2_with fail;go_ret2;exact⟨by rw[Hr.out];rfl,rfl⟩
   ·have hrd:rd s=accR (acc 0 (s.data.toList.drop 0)):=by unfold rd;rw[if_neg h0,if_neg h1,headD_zero s hz,if_neg h2];rfl
    have Hr:=hid hrd;have Hn:=hid hr;clear hrd h0 h1 hr;have hcase:(((s[0].toNat:Nat):Int)==48)=false∨((((s[0].toNat:Nat):Int)==48)=true∧¬1<s.size):=by
     rcases hb:(((s[0].toNat:Nat):Int)==48)with _ | _
     ·exact Or.inl rfl
     ·exact Or.inr ⟨rfl,fun h=>h2 ⟨by simpa using hb,h⟩⟩
    clear h2;have fin:∀(w:World),Calls Tryz.prog 144 #[.string s] w fun e w'=>e=.returned (.tuple #[.int .i64 (rd s).1,.int .i64 (rd s).2])∧w=w':=by
     intro w;rcases hcase with hc | ⟨hc,hc2⟩
     all_goals
      go_enter Tryz.func144,Tryz.ntmps144;go_wp2_with fail;refine(run_digit s _ hs').mono ?_;rintro e w' ⟨rfl,rfl⟩;rw[Hn.out];go_wp2_with fail
      go_loop [4,5,25] (fun n _ i=>∃(k:Nat) (m:Int),k≤s.size∧i=.int .i64 k∧n=.int .i64 m∧0≤m∧m≤268435456∧Hid (acc 0 (s.data.toList.drop 0)=acc m (s.data.toList.drop k))) (fun _ _ i=>s.size-(intOf i).toNat)
      case atStart=>exact⟨0,0,Nat.zero_le _,rfl,rfl,by omega,by omega,hid rfl⟩
      case round=>
       obtain⟨k,m,hk,rfl,rfl,hm0,hm1,ha⟩:=hrel;by_cases hlt:k<s.size
       ·have hb:=hall.out k hlt
        have hst:=hid (acc_step s k m hlt);obtain⟨hb0,hb1⟩:=hb;by_cases hg:10 * m+((s[k].toNat:Int)-48) > 268435456
        ·go_wp2_with fail
         go_ret2;exact⟨by rw[Hr.out,ha.out,hst.out,if_pos hg];rfl,rfl⟩
        ·go_wp2_with fail
         go_round
         case rel=>exact⟨k+1,10 * m+((s[k].toNat:Int)-48),by omega,by go_num,by go_num,by omega,by omega,hid (by rw[ha.out,hst.out,if_neg hg])⟩
         case measure=>simp[intOf];omega
       ·have hst:=hid (acc_end s k m hlt)
        go_wp2_with fail;go_ret2;exact⟨by rw[Hr.out,ha.out,hst.out];rfl,rfl⟩
    exact fin w
theorem hasNon(s:ByteArray)(h:runN (fun b=>digB b) s.data.toList<s.size):∃hk:runN (fun b=>digB b) s.data.toList<s.size,digB ((s[runN (fun b=>digB b) s.data.toList]'hk).toNat:Int)=false:=by
 refine⟨h,?_⟩;have key:∀(l:List UInt8) (h:runN (fun b=>digB b) l<l.length),digB ((l[runN (fun b=>digB b) l]'h).toNat:Int)=false:=by
  intro l
  induction l with
  | nil=>intro h;simp[runN]at h
  | cons c r ih=>
   intro h;rcases hc:digB (c.toNat:Int)with _ | _
   ·have e:runN (fun b=>digB b) (c :: r)=0:=by simp[runN,hc]
    simp only[e];exact hc
   ·have e:runN (fun b=>digB b) (c :: r)=runN (fun b=>digB b) r+1:=by simp[runN,hc]
    have h':runN (fun b=>digB b) r<r.length:=by rw[e]at h;simpa using h
    have:=ih h';simp only[e]
    simpa using this
 have hl:=size_list s;exact key _ (by omega)
theorem before_run(s:ByteArray)(k:Nat)(hk:k<runN (fun b=>digB b) s.data.toList)(h:k<s.size):digB (s[k].toNat:Int)=true:=by
 have key:∀(l:List UInt8) (k:Nat) (_:k<runN (fun b=>digB b) l) (h':k<l.length),digB (l[k].toNat:Int)=true:=by
  intro l
  induction l with
  | nil=>intro k _ h';simp at h'
  | cons c r ih=>
   intro k h h';rcases hc:digB (c.toNat:Int)with _ | _
   ·have e:runN (fun b=>digB b) (c :: r)=0:=by simp[runN,hc]
    omega
   ·have e:runN (fun b=>digB b) (c :: r)=runN (fun b=>digB b) r+1:=by simp[runN,hc]
    cases k with
    | zero=>exact hc
    | succ k=>exact ih k (by omega) (by simpa using h')
 have hl:=size_list s;exact key _ _ hk (by omega)
theorem rread_any(s:ByteArray)(w:World)(hs:s.size≤maxLen) :
 Calls Tryz.prog 107 #[.string s] w fun e w'=>e=.returned (.tuple #[.int .i64 (rd s).1,.int .i64 (rd s).2])∧w=w':=by
 unfold maxLen at hs;by_cases h0:s.size=0
 ·have hrd:rd s=(0,1):=by unfold rd;rw[if_pos h0]
  have Hr:=hid hrd;have he:s.toList=[]:=empty_list s h0;clear hrd h0;go_enter Tryz.func107,Tryz.ntmps107;go_wp2_with fail;go_ret2;exact⟨by rw[Hr.out];rfl,rfl⟩
 ·have he:s.toList.isEmpty=false:=not_empty s h0
  have hz:0<s.size:=by omega
  by_cases h1:runN (fun b=>digB b) s.data.toList<s.size
  ·have hrd:rd s=(0,3):=by unfold rd;rw[if_neg h0,if_pos h1]
   have Hr:=hid hrd;have hn:=hasNon s h1;have hbf:=before_run s
   revert hn hbf h1
   generalize runN (fun b=>digB b) s.data.toList=q;intro h1 hn hbf;have Hn:=hid hn;have Hb:=hid hbf;clear hrd h0 hn hbf;go_enter Tryz.func107,Tryz.ntmps107;go_wp2_with fail
   go_loop [4] (fun n=>∃k:Nat,k≤q∧n=.int .i64 k) (fun n=>s.size-(intOf n).toNat)
   case atStart=>exact⟨0,Nat.zero_le _,rfl⟩
   case round=>
    obtain⟨k,hk,rfl⟩:=hrel;have hlt:k<s.size:=by omega
    have hb0:(0:Int)≤(s[k].toNat:Int):=by omega
    have hb1:(s[k].toNat:Int)≤255:=by have:=s[k].toNat_lt;omega
    by_cases hkq:k<q
    ·have Hc:=hid (Hb.out k hkq hlt)
     go_wp2_with fail;refine(rdigit_any _ _ hb0 hb1).mono ?_;rintro e w' ⟨rfl,rfl⟩;rw[Hc.out];go_wp2_with fail
     go_round
     case rel=>exact⟨k+1,by omega,by go_num⟩
     case measure=>simp[intOf];omega
    ·obtain rfl:k=q:=by omega
     obtain⟨_,hc⟩:=Hn.out;have Hc:=hid hc;clear hc;go_wp2_with fail;refine(rdigit_any _ _ hb0 hb1).mono ?_;rintro e w' ⟨rfl,rfl⟩;rw[Hc.out];go_wp2_with fail;go_ret2;exact⟨by rw[Hr.out];rfl,rfl⟩
  ·have hall:=hid (all_digits s h1)
   have hfirst:∀(Q:Prop) (w:World),(Q→∀k (h:k<s.size),digB (s[k].toNat:Int)=true):=by
    intro Q w _ k h;have:=all_digits s h1 k h;simp[digB,this]
   by_cases h2:((s[0].toNat:Nat):Int)=48∧1<s.size
   ·have hrd:rd s=(0,3):=by unfold rd;rw[if_neg h0,if_neg h1,headD_zero s hz,if_pos h2]
    have Hr:=hid hrd;have Hd:=hid (hfirst True w trivial);obtain⟨h2a,h2b⟩:=h2;clear hrd h0 h1 hfirst;go_enter Tryz.func107,Tryz.ntmps107;go_wp2_with fail
    go_loop [4] (fun n=>∃k:Nat,k≤s.size∧n=.int .i64 k) (fun n=>s.size-(intOf n).toNat)
    case atStart=>exact⟨0,Nat.zero_le _,rfl⟩
    case round=>
     obtain⟨k,hk,rfl⟩:=hrel;by_cases hlt:k<s.size
     ·have hb0:(0:Int)≤(s[k].toNat:Int):=by omega
      have hb1:(s[k].toNat:Int)≤255:=by have:=s[k].toNat_lt;omega
      have Hc:=hid (Hd.out k hlt);go_wp2_with fail;refine(rdigit_any _ _ hb0 hb1).mono ?_;rintro e w' ⟨rfl,rfl⟩;rw[Hc.out];go_wp2_with fail
      go_round
      case rel=>exact⟨k+1,by omega,by go_num⟩
      case measure=>simp[intOf];omega
     ·go_wp2_with fail
      go_ret2;exact⟨by rw[Hr.out];rfl,rfl⟩
   ·have hrd:rd s=accR (acc 0 (s.data.toList.drop 0)):=by unfold rd;rw[if_neg h0,if_neg h1,headD_zero s hz,if_neg h2];rfl
    have Hr:=hid hrd;have Hd:=hid (hfirst True w trivial);clear hrd h0 h1 hfirst;have hcase:(((s[0].toNat:Nat):Int)==48)=false∨((((s[0].toNat:Nat):Int)==48)=true∧¬1<s.size):=by
     rcases hb:(((s[0].toNat:Nat):Int)==48)with _ | _
     ·exact Or.inl rfl
     ·exact Or.inr ⟨rfl,fun h=>h2 ⟨by simpa using hb,h⟩⟩
    clear h2;have fin:∀(w:World),Calls Tryz.prog 107 #[.string s] w fun e w'=>e=.returned (.tuple #[.int .i64 (rd s).1,.int .i64 (rd s).2])∧w=w':=by
     intro w;rcases hcase with hc | ⟨hc,hc2⟩
     all_goals
      go_enter Tryz.func107,Tryz.ntmps107;go_wp2_with fail
      go_loop [4] (fun n=>∃k:Nat,k≤s.size∧n=.int .i64 k) (fun n=>s.size-(intOf n).toNat)
      case atStart=>exact⟨0,Nat.zero_le _,rfl⟩
      case round=>
       obtain⟨k,hk,rfl⟩:=hrel;by_cases hlt:k<s.size
       ·have hb0:(0:Int)≤(s[k].toNat:Int):=by omega
        have hb1:(s[k].toNat:Int)≤255:=by have:=s[k].toNat_lt;omega
        have Hc:=hid (Hd.out k hlt);go_wp2_with fail;refine(rdigit_any _ _ hb0 hb1).mono ?_;rintro e w' ⟨rfl,rfl⟩;rw[Hc.out];go_wp2_with fail
        go_round
        case rel=>exact⟨k+1,by omega,by go_num⟩
        case measure=>simp[intOf];omega
       ·go_wp2_with fail
        go_loop [5,6] (fun n i=>∃(k:Nat) (m:Int),k≤s.size∧i=.int .i64 k∧n=.int .i64 m∧0≤m∧m≤268435456∧Hid (acc 0 (s.data.toList.drop 0)=acc m (s.data.toList.drop k))) (fun _ i=>s.size-(intOf i).toNat)
        case atStart=>exact⟨0,0,Nat.zero_le _,rfl,rfl,by omega,by omega,hid rfl⟩
        case round=>
         obtain⟨j,m,hj,rfl,rfl,hm0,hm1,ha⟩:=hrel;by_cases hlt:j<s.size
         ·have hb:=hall.out j hlt
          have hst:=hid (acc_step s j m hlt);obtain⟨hb0,hb1⟩:=hb;by_cases hg:10 * m+((s[j].toNat:Int)-48) > 268435456
          ·go_wp2_with fail
           go_ret2;exact⟨by rw[Hr.out,ha.out,hst.out,if_pos hg];rfl,rfl⟩
          ·go_wp2_with fail
           go_round
           case rel=>exact⟨j+1,10 * m+((s[j].toNat:Int)-48),by omega,by go_num,by go_num,by omega,by omega,hid (by rw[ha.out,hst.out,if_neg hg])⟩
           case measure=>simp[intOf];omega
         ·have hst:=hid (acc_end s j m hlt)
          go_wp2_with fail;go_ret2;exact⟨by rw[Hr.out,ha.out,hst.out];rfl,rfl⟩
    exact fin w
end dg
end Go.Proofs.YtlkboeajkgbnaaaGreatDoor
