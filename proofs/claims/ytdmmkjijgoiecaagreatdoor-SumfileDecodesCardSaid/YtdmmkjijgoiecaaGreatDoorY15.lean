import Derived.Test.YtdmmkjijgoiecaaGreatDoorY01
import Derived.BigQuiet
import Derived.Lib.Hide
import Derived.Test.YtdmmkjijgoiecaaGreatDoorRows
import Derived.WalkSpells
set_option linter.all false
set_option maxHeartbeats 4000000
namespace Go.Proofs.YtdmmkjijgoiecaaGreatDoor
open Lib(hid)
namespace dg
open RowKit
def dM(b:Int):Bool:=decide (48≤b∧b≤57)
def gY(b:Int):Bool:=decide ((65≤b∧b≤90)∨(97≤b∧b≤122)∨b=95)
theorem yB{a b:Bool}(h:(a=true)↔(b=true)):Ending.returned (.bool a)=.returned (.bool b):=by rw[Bool.eq_iff_iff.2 h]
theorem aBu(b:Int)(w:World)(h0:0≤b)(J:b≤255) :
 Calls Tryz.prog 237 #[.int .u8 b] w fun e w'=>e=.returned (.bool (dM b))∧w=w':=by
 rcases(by omega:b<48∨(48≤b∧b≤57)∨(57<b∧b<65)∨(65≤b∧b≤90)∨(90<b∧b<95)∨b=95∨b=96∨(97≤b∧b≤122)∨122<b)with h | h | h | h | h | h | h | h | h
 all_goals
  have hf:(dM b)=decide (48≤b∧b≤57):=by rfl
  have H:=hid hf;clear hf;go_enter Tryz.func237,Tryz.ntmps237
  go_wp2
  go_ret;exact⟨by rw[H.out];first | (simp;omega) | exact yB (by simp;omega),rfl⟩
theorem oJ(b:Int)(w:World)(h0:0≤b)(J:b≤255) :
 Calls Tryz.prog 128 #[.int .u8 b] w fun e w'=>e=.returned (.bool (gY b))∧w=w':=by
 rcases(by omega:b<48∨(48≤b∧b≤57)∨(57<b∧b<65)∨(65≤b∧b≤90)∨(90<b∧b<95)∨b=95∨b=96∨(97≤b∧b≤122)∨122<b)with h | h | h | h | h | h | h | h | h
 all_goals
  have hf:(gY b)=decide ((65≤b∧b≤90)∨(97≤b∧b≤122)∨b=95):=by rfl
  have H:=hid hf;clear hf;go_enter Tryz.func128,Tryz.ntmps128
  go_wp2
  go_ret;exact⟨by rw[H.out];first | (simp;omega) | exact yB (by simp;omega),rfl⟩
theorem lH(b:Int)(w:World)(h0:0≤b)(J:b≤255) :
 Calls Tryz.prog 130 #[.int .u8 b] w fun e w'=>e=.returned (.bool (gY b||dM b))∧w=w':=by
 rcases(by omega:b<48∨(48≤b∧b≤57)∨(57<b∧b<65)∨(65≤b∧b≤90)∨(90<b∧b<95)∨b=95∨b=96∨(97≤b∧b≤122)∨122<b)with h | h | h | h | h | h | h | h | h
 all_goals
  have hf:(gY b||dM b)=decide (((65≤b∧b≤90)∨(97≤b∧b≤122)∨b=95)∨(48≤b∧b≤57)):=by unfold gY dM;simp
  have H:=hid hf;clear hf;go_enter Tryz.func130,Tryz.ntmps130
  go_wp2
  go_ret;exact⟨by rw[H.out];first | (simp;omega) | exact yB (by simp;omega),rfl⟩
theorem gI(b:Int)(w:World)(h0:0≤b)(J:b≤255) :
 Calls Tryz.prog 113 #[.int .u8 b] w fun e w'=>e=.returned (.bool (dM b))∧w=w':=by
 rcases(by omega:b<48∨(48≤b∧b≤57)∨(57<b∧b<65)∨(65≤b∧b≤90)∨(90<b∧b<95)∨b=95∨b=96∨(97≤b∧b≤122)∨122<b)with h | h | h | h | h | h | h | h | h
 all_goals
  have hf:(dM b)=decide (48≤b∧b≤57):=by rfl
  have H:=hid hf;clear hf;go_enter Tryz.func113,Tryz.ntmps113
  go_wp2
  go_ret;exact⟨by rw[H.out];first | (simp;omega) | exact yB (by simp;omega),rfl⟩
theorem gW(b:Int)(w:World)(h0:0≤b)(J:b≤255) :
 Calls Tryz.prog 112 #[.int .u8 b] w fun e w'=>e=.returned (.bool (gY b))∧w=w':=by
 rcases(by omega:b<48∨(48≤b∧b≤57)∨(57<b∧b<65)∨(65≤b∧b≤90)∨(90<b∧b<95)∨b=95∨b=96∨(97≤b∧b≤122)∨122<b)with h | h | h | h | h | h | h | h | h
 all_goals
  have hf:(gY b)=decide ((65≤b∧b≤90)∨(97≤b∧b≤122)∨b=95):=by rfl
  have H:=hid hf;clear hf;go_enter Tryz.func112,Tryz.ntmps112
  go_wp2
  go_ret;exact⟨by rw[H.out];first | (simp;omega) | exact yB (by simp;omega),rfl⟩
def runN(J:Int→Bool)(l:List UInt8):Nat:=(l.takeWhile fun c=>J (c.toNat:Int)).length
theorem aFf(J:Int→Bool)(l:List UInt8):runN J l≤l.length:=by
 unfold runN;exact(List.takeWhile_sublist _).length_le
theorem aBP(J:Int→Bool)(s:ByteArray)(k:Nat)(hk:k≤s.size)(hp:∀i (_:i<k) (Y:i<s.size),J (s[i].toNat:Int)=true)(he:∀h:k<s.size,J (s[k].toNat:Int)=false):runN J s.data.toList=k:=by
 have hl:s.data.toList.length=s.size:=by rw[Array.length_toList];rfl
 have key:∀(l:List UInt8) (k:Nat),k≤l.length→(∀i (_:i<k) (Y:i<l.length),J (l[i].toNat:Int)=true)→(∀h:k<l.length,J (l[k].toNat:Int)=false)→runN J l=k:=by
  intro l
  induction l with
  | nil=>intro k hk _ _;simp at hk;subst hk;rfl
  | cons c r ih=>
   intro k hk hp he;cases k with
   | zero=>
    have h:=he (by simp);simp at h;simp[runN,h]
   | succ k=>
    have h:=hp 0 (by omega) (by simp);simp at h;have:=ih k (by simpa using hk) (fun i hi Y=>by have:=hp (i+1) (by omega) (by simpa using Y);simpa using this) (fun Y=>by have:=he (by simpa using Y);simpa using this);unfold runN at this ⊢;simp[h,this]
 exact key _ k (by omega) (fun i hi Y=>hp i hi (by omega)) (fun h=>he (by omega))
theorem uY(s:ByteArray)(w:World)(hs:s.size≤maxLen) :
 Calls Tryz.prog 129 #[.string s,.func (.func 237) #[] #[]] w fun e w'=>e=.returned (.int .i64 (runN (fun b=>dM b) s.data.toList:Nat))∧w=w':=by
 unfold maxLen at hs;go_enter Tryz.func129,Tryz.ntmps129;go_wp2_with fail
 go_loop [5] (fun n=>∃k:Nat,k≤s.size∧n=.int .i64 k∧Hid (∀i (h:i<k) (J:i<s.size),(fun b=>dM b) (s[i].toNat:Int)=true)) (fun n=>s.size-(intOf n).toNat)
 case atStart=>exact⟨0,bA _,rfl,hid (by intro i h;omega)⟩
 case round=>
  obtain⟨k,hk,rfl,hp⟩:=hrel;by_cases a1:k<s.size
  ·have Y:(0:Int)≤(s[k].toNat:Int):=by omega
   have a0:(s[k].toNat:Int)≤255:=by have:=s[k].toNat_lt;omega
   rcases hc:((fun b=>dM b) (s[k].toNat:Int))with _ | _
   ·have hr:=aBP (fun b=>dM b) s k hk (fun i h J=>hp.out i h J) (fun _=>hc)
    have Hr:=hid hr;have Hc:=hid hc;clear hr hc
    go_wp2_with (go_at_call 237;refine(aBu _ _ Y a0).mono ?_;rintro e w' ⟨rfl,rfl⟩;rw[show(dM (s[k].toNat:Int))=false from Hc.out])
    go_ret;exact⟨by rw[Hr.out];rfl,rfl⟩
   ·have Hc:=hid hc
    clear hc
    go_wp2_with (go_at_call 237;refine(aBu _ _ Y a0).mono ?_;rintro e w' ⟨rfl,rfl⟩;rw[show(dM (s[k].toNat:Int))=true from Hc.out])
    go_round
    case rel=>
     refine⟨k+1,by omega,by go_num,hid ?_⟩;intro i h J;rcases(by omega:i<k∨i=k)with h2 | rfl
     ·exact hp.out i h2 J
     ·exact Hc.out
    case measure=>simp[intOf];omega
  ·have hr:=aBP (fun b=>dM b) s k hk (fun i h J=>hp.out i h J) (fun h=>absurd h a1)
   have Hr:=hid hr;clear hr
   go_wp2
   go_ret;exact⟨by rw[Hr.out];rfl,rfl⟩
theorem aDD(s:ByteArray)(w:World)(hs:s.size≤maxLen) :
 Calls Tryz.prog 129 #[.string s,.func (.func 130) #[] #[]] w fun e w'=>e=.returned (.int .i64 (runN (fun b=>gY b||dM b) s.data.toList:Nat))∧w=w':=by
 unfold maxLen at hs;go_enter Tryz.func129,Tryz.ntmps129;go_wp2_with fail
 go_loop [5] (fun n=>∃k:Nat,k≤s.size∧n=.int .i64 k∧Hid (∀i (h:i<k) (J:i<s.size),(fun b=>gY b||dM b) (s[i].toNat:Int)=true)) (fun n=>s.size-(intOf n).toNat)
 case atStart=>exact⟨0,bA _,rfl,hid (by intro i h;omega)⟩
 case round=>
  obtain⟨k,hk,rfl,hp⟩:=hrel;by_cases a1:k<s.size
  ·have Y:(0:Int)≤(s[k].toNat:Int):=by omega
   have a0:(s[k].toNat:Int)≤255:=by have:=s[k].toNat_lt;omega
   rcases hc:((fun b=>gY b||dM b) (s[k].toNat:Int))with _ | _
   ·have hr:=aBP (fun b=>gY b||dM b) s k hk (fun i h J=>hp.out i h J) (fun _=>hc)
    have Hr:=hid hr;have Hc:=hid hc;clear hr hc
    go_wp2_with (go_at_call 130;refine(lH _ _ Y a0).mono ?_;rintro e w' ⟨rfl,rfl⟩;rw[show(gY (s[k].toNat:Int)||dM (s[k].toNat:Int))=false from Hc.out])
    go_ret;exact⟨by rw[Hr.out];rfl,rfl⟩
   ·have Hc:=hid hc
    clear hc
    go_wp2_with (go_at_call 130;refine(lH _ _ Y a0).mono ?_;rintro e w' ⟨rfl,rfl⟩;rw[show(gY (s[k].toNat:Int)||dM (s[k].toNat:Int))=true from Hc.out])
    go_round
    case rel=>
     refine⟨k+1,by omega,by go_num,hid ?_⟩;intro i h J;rcases(by omega:i<k∨i=k)with h2 | rfl
     ·exact hp.out i h2 J
     ·exact Hc.out
    case measure=>simp[intOf];omega
  ·have hr:=aBP (fun b=>gY b||dM b) s k hk (fun i h J=>hp.out i h J) (fun h=>absurd h a1)
   have Hr:=hid hr;clear hr
   go_wp2
   go_ret;exact⟨by rw[Hr.out];rfl,rfl⟩
def acc(n:Int):List UInt8→Option Int
 | []=>some n
 | c :: r=>if 10 * n+((c.toNat:Int)-48) > 268435456 then none else acc (10 * n+((c.toNat:Int)-48)) r
def aLF(o:Option Int):Int×Int:=match o with
 | some n=>(n,0)
 | none=>(0,2)
def rd(s:ByteArray):Int×Int:=
 if s.size=0 then(0,1)
 else if runN (fun b=>dM b) s.data.toList<s.size then(0,3)
 else if((s.data.toList.headD 0).toNat:Int)=48∧1<s.size then(0,3)
 else aLF (acc 0 s.data.toList)
theorem cZ(s:ByteArray):s.data.toList.length=s.size:=by rw[Array.length_toList];rfl
theorem fC(s:ByteArray)(h:s.size=0):s.toList=[]:=by
 rw[ByteArray.toList_eq];exact List.length_eq_zero_iff.1 (by rw[cZ];exact h)
theorem bU(s:ByteArray)(h:¬s.size=0):s.toList.isEmpty=false:=by
 rw[ByteArray.toList_eq,List.isEmpty_eq_false_iff];intro e;have:=cZ s;rw[e]at this;simp at this;omega
theorem vY(s:ByteArray)(h:¬runN (fun b=>dM b) s.data.toList<s.size)(k:Nat)(J:k<s.size):48≤(s[k].toNat:Int)∧(s[k].toNat:Int)≤57:=by
 have key:∀(l:List UInt8),l.length≤runN (fun b=>dM b) l→∀k (h:k<l.length),48≤(l[k].toNat:Int)∧(l[k].toNat:Int)≤57:=by
  intro l
  induction l with
  | nil=>intro _ k h;simp at h
  | cons c r ih=>
   intro hl k J;unfold runN at hl;rw[List.takeWhile_cons]at hl;by_cases hc:dM (c.toNat:Int)=true
   ·rw[if_pos hc]at hl
    cases k with
    | zero=>simpa[dM] using hc
    | succ k=>exact ih (by unfold runN;simpa using hl) k (by simpa using J)
   ·rw[if_neg hc]at hl
    simp at hl
 have:=cZ s;exact key _ (by omega) k (by omega)
theorem aCY(s:ByteArray)(k:Nat)(n:Int)(J:k<s.size):acc n (s.data.toList.drop k)=if 10 * n+((s[k].toNat:Int)-48) > 268435456 then none else acc (10 * n+((s[k].toNat:Int)-48)) (s.data.toList.drop (k+1)):=by
 have hl:=cZ s;rw[bD (by omega:k<s.data.toList.length)];rfl
theorem aFt(s:ByteArray)(k:Nat)(n:Int)(J:¬k<s.size):acc n (s.data.toList.drop k)=some n:=by
 have hl:=cZ s;rw[List.drop_of_length_le (by omega)];rfl
theorem bS(s:ByteArray)(h:0<s.size):s.data.toList.headD 0=s[0]:=by
 have hl:=cZ s;rw[List.headD_eq_head?_getD,List.head?_eq_getElem?,aN (by omega)];rfl
theorem qA(s:ByteArray)(w:World)(hs:s.size≤maxLen) :
 Calls Tryz.prog 238 #[.string s] w fun e w'=>e=.returned (.tuple #[.int .i64 (rd s).1,.int .i64 (rd s).2])∧w=w':=by
 have a2:=hs;unfold maxLen at hs;by_cases h0:s.size=0
 ·have J:rd s=(0,1):=by unfold rd;rw[if_pos h0]
  have Hr:=hid J;have he:s.toList=[]:=fC s h0;clear J h0;go_enter Tryz.func238,Tryz.ntmps238;go_wp2_with fail;go_ret2;exact⟨by rw[Hr.out];rfl,rfl⟩
 ·have he:s.toList.isEmpty=false:=bU s h0
  have hz:0<s.size:=by omega
  by_cases h1:runN (fun b=>dM b) s.data.toList<s.size
  ·have J:rd s=(0,3):=by unfold rd;rw[if_neg h0,if_pos h1]
   have Hr:=hid J;clear J h0;go_enter Tryz.func238,Tryz.ntmps238;go_wp2_with fail;refine(uY s _ a2).mono ?_;rintro e w' ⟨rfl,rfl⟩;go_wp2_with fail;go_ret2;exact⟨by rw[Hr.out];rfl,rfl⟩
  ·have a3:=hid (vY s h1)
   have hr:runN (fun b=>dM b) s.data.toList=s.size:=by have:=aFf (fun b=>dM b) s.data.toList;have:=cZ s;omega
   by_cases h2:((s[0].toNat:Nat):Int)=48∧1<s.size
   ·have J:rd s=(0,3):=by unfold rd;rw[if_neg h0,if_neg h1,bS s hz,if_pos h2]
    have Hr:=hid J;have Hn:=hid hr;obtain⟨a7,a8⟩:=h2;clear J h0 h1 hr;go_enter Tryz.func238,Tryz.ntmps238;go_wp2_with fail;refine(uY s _ a2).mono ?_;rintro e w' ⟨rfl,rfl⟩;rw[Hn.out];go_wp2_with fail;go_ret2;exact⟨by rw[Hr.out];rfl,rfl⟩
   ·have J:rd s=aLF (acc 0 (s.data.toList.drop 0)):=by unfold rd;rw[if_neg h0,if_neg h1,bS s hz,if_neg h2];rfl
    have Hr:=hid J;have Hn:=hid hr;clear J h0 h1 hr;have a1:(((s[0].toNat:Nat):Int)==48)=false∨((((s[0].toNat:Nat):Int)==48)=true∧¬1<s.size):=by
     rcases hb:(((s[0].toNat:Nat):Int)==48)with _ | _
     ·exact Or.inl rfl
     ·exact Or.inr ⟨rfl,fun h=>h2 ⟨by simpa using hb,h⟩⟩
    clear h2;have fin:∀(w:World),Calls Tryz.prog 238 #[.string s] w fun e w'=>e=.returned (.tuple #[.int .i64 (rd s).1,.int .i64 (rd s).2])∧w=w':=by
     intro w;rcases a1 with hc | ⟨hc,a6⟩
     all_goals
      go_enter Tryz.func238,Tryz.ntmps238;go_wp2_with fail;refine(uY s _ a2).mono ?_;rintro e w' ⟨rfl,rfl⟩;rw[Hn.out];go_wp2_with fail
      go_loop [4,5,25] (fun n _ i=>∃(k:Nat) (m:Int),k≤s.size∧i=.int .i64 k∧n=.int .i64 m∧0≤m∧m≤268435456∧Hid (acc 0 (s.data.toList.drop 0)=acc m (s.data.toList.drop k))) (fun _ _ i=>s.size-(intOf i).toNat)
      case atStart=>exact⟨0,0,bA _,rfl,rfl,by omega,by omega,hid rfl⟩
      case round=>
       obtain⟨k,m,hk,rfl,rfl,a9,a4,ha⟩:=hrel;by_cases a0:k<s.size
       ·have hb:=a3.out k a0
        have Y:=hid (aCY s k m a0);obtain⟨a5,aa⟩:=hb;by_cases hg:10 * m+((s[k].toNat:Int)-48) > 268435456
        ·go_wp2_with fail
         go_ret2;exact⟨by rw[Hr.out,ha.out,Y.out,if_pos hg];rfl,rfl⟩
        ·go_wp2_with fail
         go_round
         case rel=>exact⟨k+1,10 * m+((s[k].toNat:Int)-48),by omega,by go_num,by go_num,by omega,by omega,hid (by rw[ha.out,Y.out,if_neg hg])⟩
         case measure=>simp[intOf];omega
       ·have Y:=hid (aFt s k m a0)
        go_wp2_with fail;go_ret2;exact⟨by rw[Hr.out,ha.out,Y.out];rfl,rfl⟩
    exact fin w
theorem aMj(s:ByteArray)(h:runN (fun b=>dM b) s.data.toList<s.size):∃J:runN (fun b=>dM b) s.data.toList<s.size,dM ((s[runN (fun b=>dM b) s.data.toList]'J).toNat:Int)=false:=by
 refine⟨h,?_⟩;have key:∀(l:List UInt8) (h:runN (fun b=>dM b) l<l.length),dM ((l[runN (fun b=>dM b) l]'h).toNat:Int)=false:=by
  intro l
  induction l with
  | nil=>intro h;simp[runN]at h
  | cons c r ih=>
   intro h;rcases hc:dM (c.toNat:Int)with _ | _
   ·have e:runN (fun b=>dM b) (c :: r)=0:=by simp[runN,hc]
    simp only[e];exact hc
   ·have e:runN (fun b=>dM b) (c :: r)=runN (fun b=>dM b) r+1:=by simp[runN,hc]
    have Y:runN (fun b=>dM b) r<r.length:=by rw[e]at h;simpa using h
    have:=ih Y;simp only[e]
    simpa using this
 have hl:=cZ s;exact key _ (by omega)
theorem aDH(s:ByteArray)(k:Nat)(Y:k<runN (fun b=>dM b) s.data.toList)(h:k<s.size):dM (s[k].toNat:Int)=true:=by
 have key:∀(l:List UInt8) (k:Nat) (_:k<runN (fun b=>dM b) l) (J:k<l.length),dM (l[k].toNat:Int)=true:=by
  intro l
  induction l with
  | nil=>intro k _ J;simp at J
  | cons c r ih=>
   intro k h J;rcases hc:dM (c.toNat:Int)with _ | _
   ·have e:runN (fun b=>dM b) (c :: r)=0:=by simp[runN,hc]
    omega
   ·have e:runN (fun b=>dM b) (c :: r)=runN (fun b=>dM b) r+1:=by simp[runN,hc]
    cases k with
    | zero=>exact hc
    | succ k=>exact ih k (by omega) (by simpa using J)
 have hl:=cZ s;exact key _ _ Y (by omega)
theorem vB(s:ByteArray)(w:World)(hs:s.size≤maxLen) :
 Calls Tryz.prog 168 #[.string s] w fun e w'=>e=.returned (.tuple #[.int .i64 (rd s).1,.int .i64 (rd s).2])∧w=w':=by
 unfold maxLen at hs;by_cases h0:s.size=0
 ·have Y:rd s=(0,1):=by unfold rd;rw[if_pos h0]
  have Hr:=hid Y;have he:s.toList=[]:=fC s h0;clear Y h0;go_enter Tryz.func168,Tryz.ntmps168;go_wp2_with fail;go_ret2;exact⟨by rw[Hr.out];rfl,rfl⟩
 ·have he:s.toList.isEmpty=false:=bU s h0
  have hz:0<s.size:=by omega
  by_cases h1:runN (fun b=>dM b) s.data.toList<s.size
  ·have Y:rd s=(0,3):=by unfold rd;rw[if_neg h0,if_pos h1]
   have Hr:=hid Y;have hn:=aMj s h1;have a4:=aDH s
   revert hn a4 h1
   generalize runN (fun b=>dM b) s.data.toList=q;intro h1 hn a4;have Hn:=hid hn;have Hb:=hid a4;clear Y h0 hn a4;go_enter Tryz.func168,Tryz.ntmps168;go_wp2_with fail
   go_loop [4] (fun n=>∃k:Nat,k≤q∧n=.int .i64 k) (fun n=>s.size-(intOf n).toNat)
   case atStart=>exact⟨0,bA _,rfl⟩
   case round=>
    obtain⟨k,hk,rfl⟩:=hrel;have a0:k<s.size:=by omega
    have a1:(0:Int)≤(s[k].toNat:Int):=by omega
    have a2:(s[k].toNat:Int)≤255:=by have:=s[k].toNat_lt;omega
    by_cases a7:k<q
    ·have Hc:=hid (Hb.out k a7 a0)
     go_wp2_with fail;refine(gI _ _ a1 a2).mono ?_;rintro e w' ⟨rfl,rfl⟩;rw[Hc.out];go_wp2_with fail
     go_round
     case rel=>exact⟨k+1,by omega,by go_num⟩
     case measure=>simp[intOf];omega
    ·obtain rfl:k=q:=by omega
     obtain⟨_,hc⟩:=Hn.out;have Hc:=hid hc;clear hc;go_wp2_with fail;refine(gI _ _ a1 a2).mono ?_;rintro e w' ⟨rfl,rfl⟩;rw[Hc.out];go_wp2_with fail;go_ret2;exact⟨by rw[Hr.out];rfl,rfl⟩
  ·have a6:=hid (vY s h1)
   have J:∀(Q:Prop) (w:World),(Q→∀k (h:k<s.size),dM (s[k].toNat:Int)=true):=by
    intro Q w _ k h;have:=vY s h1 k h;simp[dM,this]
   by_cases h2:((s[0].toNat:Nat):Int)=48∧1<s.size
   ·have Y:rd s=(0,3):=by unfold rd;rw[if_neg h0,if_neg h1,bS s hz,if_pos h2]
    have Hr:=hid Y;have Hd:=hid (J True w trivial);obtain⟨aa,ad⟩:=h2;clear Y h0 h1 J;go_enter Tryz.func168,Tryz.ntmps168;go_wp2_with fail
    go_loop [4] (fun n=>∃k:Nat,k≤s.size∧n=.int .i64 k) (fun n=>s.size-(intOf n).toNat)
    case atStart=>exact⟨0,bA _,rfl⟩
    case round=>
     obtain⟨k,hk,rfl⟩:=hrel;by_cases a0:k<s.size
     ·have a1:(0:Int)≤(s[k].toNat:Int):=by omega
      have a2:(s[k].toNat:Int)≤255:=by have:=s[k].toNat_lt;omega
      have Hc:=hid (Hd.out k a0);go_wp2_with fail;refine(gI _ _ a1 a2).mono ?_;rintro e w' ⟨rfl,rfl⟩;rw[Hc.out];go_wp2_with fail
      go_round
      case rel=>exact⟨k+1,by omega,by go_num⟩
      case measure=>simp[intOf];omega
     ·go_wp2_with fail
      go_ret2;exact⟨by rw[Hr.out];rfl,rfl⟩
   ·have Y:rd s=aLF (acc 0 (s.data.toList.drop 0)):=by unfold rd;rw[if_neg h0,if_neg h1,bS s hz,if_neg h2];rfl
    have Hr:=hid Y;have Hd:=hid (J True w trivial);clear Y h0 h1 J;have a5:(((s[0].toNat:Nat):Int)==48)=false∨((((s[0].toNat:Nat):Int)==48)=true∧¬1<s.size):=by
     rcases hb:(((s[0].toNat:Nat):Int)==48)with _ | _
     ·exact Or.inl rfl
     ·exact Or.inr ⟨rfl,fun h=>h2 ⟨by simpa using hb,h⟩⟩
    clear h2;have fin:∀(w:World),Calls Tryz.prog 168 #[.string s] w fun e w'=>e=.returned (.tuple #[.int .i64 (rd s).1,.int .i64 (rd s).2])∧w=w':=by
     intro w;rcases a5 with hc | ⟨hc,a9⟩
     all_goals
      go_enter Tryz.func168,Tryz.ntmps168;go_wp2_with fail
      go_loop [4] (fun n=>∃k:Nat,k≤s.size∧n=.int .i64 k) (fun n=>s.size-(intOf n).toNat)
      case atStart=>exact⟨0,bA _,rfl⟩
      case round=>
       obtain⟨k,hk,rfl⟩:=hrel;by_cases a0:k<s.size
       ·have a1:(0:Int)≤(s[k].toNat:Int):=by omega
        have a2:(s[k].toNat:Int)≤255:=by have:=s[k].toNat_lt;omega
        have Hc:=hid (Hd.out k a0);go_wp2_with fail;refine(gI _ _ a1 a2).mono ?_;rintro e w' ⟨rfl,rfl⟩;rw[Hc.out];go_wp2_with fail
        go_round
        case rel=>exact⟨k+1,by omega,by go_num⟩
        case measure=>simp[intOf];omega
       ·go_wp2_with fail
        go_loop [5,6] (fun n i=>∃(k:Nat) (m:Int),k≤s.size∧i=.int .i64 k∧n=.int .i64 m∧0≤m∧m≤268435456∧Hid (acc 0 (s.data.toList.drop 0)=acc m (s.data.toList.drop k))) (fun _ i=>s.size-(intOf i).toNat)
        case atStart=>exact⟨0,0,bA _,rfl,rfl,by omega,by omega,hid rfl⟩
        case round=>
         obtain⟨j,m,hj,rfl,rfl,ae,a8,ha⟩:=hrel;by_cases a0:j<s.size
         ·have hb:=a6.out j a0
          have a3:=hid (aCY s j m a0);obtain⟨a1,a2⟩:=hb;by_cases hg:10 * m+((s[j].toNat:Int)-48) > 268435456
          ·go_wp2_with fail
           go_ret2;exact⟨by rw[Hr.out,ha.out,a3.out,if_pos hg];rfl,rfl⟩
          ·go_wp2_with fail
           go_round
           case rel=>exact⟨j+1,10 * m+((s[j].toNat:Int)-48),by omega,by go_num,by go_num,by omega,by omega,hid (by rw[ha.out,a3.out,if_neg hg])⟩
           case measure=>simp[intOf];omega
         ·have a3:=hid (aFt s j m a0)
          go_wp2_with fail;go_ret2;exact⟨by rw[Hr.out,ha.out,a3.out];rfl,rfl⟩
    exact fin w
end dg
end Go.Proofs.YtdmmkjijgoiecaaGreatDoor
