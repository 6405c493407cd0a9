import Derived.ProofKit
import Derived.Test.YtdmmkjijgoiecaaGreatDoorB06
import Derived.Test.YtdmmkjijgoiecaaGreatDoorB11
set_option linter.all false
set_option maxHeartbeats 4000000
namespace Go.Proofs.YtdmmkjijgoiecaaGreatDoor
open Lib(hid)
set_option maxHeartbeats 400000
namespace dt
open RowKit Go.Sort
theorem below_drewN{B:Nat}{w w':World}(h:Below B w w')(n:Nat):Below B w (w'.drewN n):=⟨h.os,h.tape,h.output,h.size,h.block⟩
theorem below_grow{B:Nat}{w w':World}(h:Below B w w')(Y:B≤w'.heap.size)(os:Array Obj):Below B w (grow w' os):=
 h.trans ⟨rfl,rfl,rfl,by simp[grow],fun k J=>by
  show(w'.heap++os)[k]? = _
  rw[Array.getElem?_append_left (by omega)]⟩
theorem aGo(k:Nat):∀u,u<10 ^ (k+1)→Lib.nDigits u≤k+1:=by
 induction k with
 | zero=>intro u h;rw[Lib.nDigits_small (by simpa using h)];omega
 | succ k ih=>
  intro u h;rw[Lib.nDigits];split
  ·omega
  ·have:=ih (u / 10) (by rw[Nat.pow_succ]at h;omega)
   omega
theorem aFu(u:Nat)(h:u<18446744073709551616):(Lib.decDigits u).length≤20:=by
 rw[Lib.decDigits_length];exact aGo 19 u (by omega)
def aEB(l:List UInt8)(w:World)(e:Ending)(w':World):Prop:=e=.returned (.string ⟨l.toArray⟩)∧Below w.heap.size w w'
theorem aG7(a:Int)(W:World):(convert 44 9 (.slice (some ⟨W.heap.size,0,none⟩) 1 1)).run Tryz.prog (W.alloc (.cells #[.int .u8 a] 5))=.ok (.string (strOfNums [a])) (W.alloc (.cells #[.int .u8 a] 5)):=by
 refine run_convert_bytes_arg _ _ 5 Tryz.underlying44 Tryz.underlying5 _ 0 1 1 [a] rfl ?_ _ Tryz.underlying9;intro i hi;obtain rfl:i=0:=by omega
 simp
def ahead(m:Nat):List UInt8:=if m<10 then [] else Lib.decDigits (m / 10)
theorem aAw(n:Nat):Lib.decDigits n=ahead n++[UInt8.ofNat (48+n % 10)]:=by
 rw[Lib.decDigits];unfold ahead
 by_cases h:n<10
 ·rw[dif_pos h,if_pos h,Nat.mod_eq_of_lt h];rfl
 ·rw[dif_neg h,if_neg h]
theorem aFz(m:Nat)(h:¬m<10):ahead m=ahead (m / 10)++[UInt8.ofNat (48+m / 10 % 10)]:=by
 conv=>lhs;unfold ahead
 rw[if_neg h,aAw]
theorem aIh(m:Nat)(h:m<10):ahead m=[]:=by unfold ahead;rw[if_pos h]
theorem aD7(a:Nat):(strOfNums [(a:Int)]).data.toList=[UInt8.ofNat a]:=by rw[strOfNums_data];rfl
theorem aKQ(a b:ByteArray):(a++b).data.toList=a.data.toList++b.data.toList:=by simp
theorem aCU(n:Nat)(w:World)(hn:n<18446744073709551616) :
 Calls Tryz.prog 215 #[.int .u64 n] w (aEB (Lib.decDigits n) w):=by
 have a4:=aG7;have a2:∀a:Int,(strOfNums [a]).size=1:=fun _=>strOfNums_size _
 have a3:=hid (aFu n hn);have Y:=hid (aAw n);generalize Lib.decDigits n=D at *;go_enter Tryz.func215,Tryz.ntmps215;go_wp2_with fail
 go_loopw [0,3] (fun m s wr=>∃(k:Nat) (t:ByteArray),k<18446744073709551616∧m=.int .u64 k∧s=.string t∧t.size≤20∧Hid (D=ahead k++t.data.toList)∧Below w.heap.size w wr) (fun m _ _=>(intOf m).toNat)
 case atStart=>
  refine⟨n,strOfNums [48+(n:Int) % 10],hn,rfl,rfl,by rw[a2];omega,hid ?_,(Below.refl _ _).alloc (aY _) _⟩
  rw[Y.out,show(48+(n:Int) % 10)=((48+n % 10:Nat):Int) by omega,aD7]
 case round=>
  obtain⟨k,t,hk,rfl,rfl,ht,hD,hb⟩:=hrel
  by_cases a1:k<10
  ·have a0:=hid (aIh k a1)
   go_wp2_with fail;go_ret;refine⟨?_,hb⟩;rw[hD.out,a0.out,aX,Array.toArray_toList];rfl
  ·have J:=hid (aFz k a1)
   have a5:1+t.size≤20:=by
    have h1:=a3.out;rw[hD.out,J.out]at h1;have h2:t.data.toList.length=t.size:=by rw[Array.length_toList];rfl
    simp only[aF,aG,aI]at h1;omega
   go_wp2_with fail
   go_roundw
   case rel=>
    refine⟨k / 10,strOfNums [48+(k:Int) / 10 % 10]++t,by omega,by go_num,by simp,?_,hid ?_,hb.alloc hb.size _⟩
    ·have:(strOfNums [48+(k:Int) / 10 % 10]++t).size=1+t.size:=by simp[a2]
     omega
    ·rw[hD.out,J.out,show(48+(k:Int) / 10 % 10)=((48+k / 10 % 10:Nat):Int) by omega,aKQ,aD7,aS]
   case measure=>simp[intOf];omega
theorem gF(n:Int)(w:World)(h0:-9223372036854775808≤n)(Y:n≤9223372036854775807)(J:Lib.TabIs Tryz.prog w "internal/strconv.uint64pow10" .u64 Lib.pow10Tab) :
 Calls Tryz.prog 236 #[.int .i64 n] w (aEB (Lib.itoa n) w):=by
 have H1:=hid (Tryz.strconv_Itoa n h0 Y w J);clear J;generalize Lib.itoa n=D at *;go_enter Tryz.func236,Tryz.ntmps236;go_wp2_with fail;refine H1.out.mono ?_;rintro e w' ⟨rfl,k,os,rfl⟩;go_wp2_with fail;go_ret;exact⟨rfl,below_grow (below_drewN (Below.refl _ _) _) (aY _) _⟩
theorem aPa(u:Nat)(h:u≤9223372036854775808):IntKind.u64.wrap (-IntKind.u64.wrap (-(u:Int)))=u:=by
 rw[IntKind.wrap_u64,IntKind.wrap_u64];omega
theorem aAp(n:Int)(w:World)(h0:-9223372036854775808≤n)(h1:n≤9223372036854775807) :
 Calls Tryz.prog 197 #[.int .i64 n] w (aEB (Lib.itoa n) w):=by
 by_cases hn:0≤n
 ·obtain⟨u,rfl⟩:=Int.eq_ofNat_of_zero_le hn
  have J:=hid (aCU u w (by omega))
  have e:=Lib.itoa_nonneg u;generalize Lib.decDigits u=D at *;unfold aEB at J;rw[e];clear e;go_enter Tryz.func197,Tryz.ntmps197;go_wp2_with fail;refine J.out.mono ?_;rintro e w' ⟨rfl,hb⟩;go_wp2_with fail;go_ret;exact⟨rfl,hb⟩
 ·obtain⟨u,hu⟩:=Int.eq_ofNat_of_zero_le (show 0≤-n by omega)
  obtain rfl:n=-(u:Int):=by omega
  have J:=hid (aCU u w (by omega))
  have e:=Lib.itoa_neg u (by omega)
  have Hl:=hid (aFu u (by omega))
  generalize Lib.decDigits u=D at *;unfold aEB at J;rw[e];clear e;go_enter Tryz.func197,Tryz.ntmps197;go_wp2_with fail;rw[aPa u (by omega)]
  refine J.out.mono ?_;rintro e w' ⟨rfl,hb⟩;have Y:(ByteArray.mk D.toArray).size=D.length:=by simp[ByteArray.size]
  have hl:=Hl.out;go_wp2_with fail;go_ret;refine⟨?_,hb⟩;have e:ByteArray.mk #[45]++ByteArray.mk D.toArray=ByteArray.mk (45 :: D).toArray:=by
   apply ByteArray.ext
   simp
  rw[←e];rfl
end dt
namespace dg
open RowKit
theorem aBl(x:List UInt8)(c:UInt8)(n:Int):acc n (x++[c])=(acc n x).bind fun m=>if 10 * m+((c.toNat:Int)-48) > 268435456 then none else some (10 * m+((c.toNat:Int)-48)):=by
 induction x generalizing n with
 | nil=>rfl
 | cons a r ih=>
  rw[aW,acc,acc];split
  ·rfl
  ·exact ih _
theorem sP(d:Nat)(h:d<10):((UInt8.ofNat (48+d)).toNat:Int)=48+d:=by
 have:(UInt8.ofNat (48+d)).toNat=48+d:=by
  show(48+d) % 256=48+d
  omega
 omega
theorem aMl(k:Nat):∀n,n≤k→n≤268435456→acc 0 (Lib.decDigits n)=some (n:Int):=by
 induction k with
 | zero=>
  intro n h _;obtain rfl:n=0:=by omega
  decide +kernel
 | succ k ih=>
  intro n J Y
  by_cases h:n<10
  ·have e:Lib.decDigits n=[]++[UInt8.ofNat (48+n)]:=by rw[Lib.decDigits,dif_pos h];rfl
   rw[e,aBl,sP n h]
   show(if _ then _ else _)=_
   rw[if_neg (by omega)]
   congr 1;omega
  ·have e:Lib.decDigits n=Lib.decDigits (n / 10)++[UInt8.ofNat (48+n % 10)]:=by rw[Lib.decDigits,dif_neg h]
   rw[e,aBl,ih (n / 10) (by omega) (by omega),sP _ (by omega)]
   show(if _ then _ else _)=_
   rw[if_neg (by omega)]
   congr 1;omega
theorem aBS(k:Nat):∀n,n≤k→∀c∈Lib.decDigits n,dK (c.toNat:Int)=true:=by
 induction k with
 | zero=>
  intro n h c hc;obtain rfl:n=0:=by omega
  have e:Lib.decDigits 0=[48]:=by decide +kernel
  rw[e]at hc;simp at hc;subst hc
  decide
 | succ k ih=>
  intro n J c hc
  by_cases h:n<10
  ·rw[Lib.decDigits,dif_pos h,aD]at hc
   subst hc;unfold dK;rw[sP n h,bJ];omega
  ·rw[Lib.decDigits,dif_neg h,List.mem_append]at hc
   rcases hc with hc | hc
   ·exact ih (n / 10) (by omega) c hc
   ·rw[aD]at hc
    subst hc;unfold dK;rw[sP (n % 10) (by omega),bJ]
    omega
theorem aI6(J:Int→Bool)(l:List UInt8)(h:∀c∈l,J (c.toNat:Int)=true):runN J l=l.length:=by
 induction l with
 | nil=>rfl
 | cons a r ih=>
  have:=ih fun c hc=>h c (bG _ hc)
  unfold runN at this ⊢;rw[List.takeWhile_cons,if_pos (h a List.mem_cons_self),aG,aG,this]
theorem aEO(J:Int→Bool)(l:List UInt8)(h:¬runN J l<l.length):∀c∈l,J (c.toNat:Int)=true:=by
 induction l with
 | nil=>simp
 | cons a r ih=>
  unfold runN at h;intro c hc
  rcases ha:J (a.toNat:Int)with _ | _
  ·simp[ha]at h
  ·simp only[List.takeWhile_cons,ha,if_true,aG]at h
   rcases aM.1 hc with rfl | hc
   ·exact ha
   ·exact ih (by unfold runN;omega) c hc
theorem aKF(k:Nat):∀n,n≤k→1≤n→((Lib.decDigits n).headD 0).toNat≠48:=by
 induction k with
 | zero=>intro n h1 J;omega
 | succ k ih=>
  intro n hk h1
  by_cases h:n<10
  ·rw[Lib.decDigits,dif_pos h]
   have:=sP n h;simp only[List.headD_cons];omega
  ·rw[Lib.decDigits,dif_neg h]
   have J:=ih (n / 10) (by omega) (by omega)
   rcases Y:Lib.decDigits (n / 10)with _ | ⟨a,r⟩
   ·have:=Lib.decDigits_length (n / 10)
    rw[Y]at this;rw[Lib.nDigits]at this;split at this <;> simp at this
   ·rw[Y]at J
    simpa using J
theorem aJ9(n:Nat):Lib.decDigits n≠[]:=by
 intro J;have:=Lib.decDigits_length n;rw[J,Lib.nDigits]at this;split at this <;> simp at this
theorem oW(l:List UInt8):(ByteArray.mk l.toArray).size=l.length:=by simp[ByteArray.size]
theorem rd_dec(n:Nat)(h:n≤268435456):rd ⟨(Lib.decDigits n).toArray⟩=((n:Int),0):=by
 have hd:=aBS n n (aY _);have hr:=aI6 dK _ hd;unfold rd;rw[oW,if_neg (fun e=>aJ9 n (List.length_eq_zero_iff.1 e))]
 simp only[];rw[if_neg (by show ¬runN dK (Lib.decDigits n)<_;omega)]
 rw[if_neg ?_,aMl n n (aY _) h]
 ·rfl
 ·rintro⟨h1,J⟩
  rcases Nat.eq_zero_or_pos n with rfl | Y
  ·have e:Lib.decDigits 0=[48]:=by decide +kernel
   rw[e]at J;simp at J
  ·exact aKF n n (aY _) Y (by omega)
theorem aF9(k:Nat):∀(l:List UInt8) (b:Int),l.length≤k→l≠[]→(∀c∈l,dK (c.toNat:Int)=true)→(((l.headD 0).toNat:Int)=48→l.length≤1)→acc 0 l=some b→0≤b∧b≤268435456∧l=Lib.decDigits b.toNat:=by
 induction k with
 | zero=>intro l b hl hn;exact absurd (List.length_eq_zero_iff.1 (by omega)) hn
 | succ k ih=>
  intro l b hl hn hd h0 ha;obtain⟨x,c,rfl⟩:∃x c,l=x++[c]:=⟨l.dropLast,l.getLast hn,(List.dropLast_concat_getLast hn).symm⟩;have hc:48≤(c.toNat:Int)∧(c.toNat:Int)≤57:=by
   have:=hd c (by simp)
   simpa[dK] using this
  have a0:∀d:Nat,(c.toNat:Int)-48=d→c=UInt8.ofNat (48+d):=by
   intro d h
   apply UInt8.toNat_inj.1
   show c.toNat=(48+d) % 256
   omega
  rw[aBl]at ha
  rcases hx:x with _ | ⟨a,r⟩
  ·subst hx
   have J:(if 10 * (0:Int)+((c.toNat:Int)-48) > 268435456 then none else some (10 * (0:Int)+((c.toNat:Int)-48)))=some b:=ha
   rw[if_neg (by omega)]at J
   have hb:b=(c.toNat:Int)-48:=by have:=Option.some.inj J;omega
   refine⟨by omega,by omega,?_⟩
   rw[Lib.decDigits,dif_pos (by omega),aX,←a0 b.toNat (by omega)]
  ·have hlen:x.length+1≤k+1:=by simpa using hl
   have a2:x≠[]:=by rw[hx];simp
   have hh:(x++[c]).headD 0=x.headD 0:=by rw[hx];rfl
   have Y:((x.headD 0).toNat:Int)≠48:=by
    intro h;have:=h0 (by rw[hh];exact h)
    rw[hx]at this;simp at this
   rcases hm:acc 0 x with _ | m
   ·rw[hm]at ha;cases ha
   ·rw[hm]at ha
    have J:(if 10 * m+((c.toNat:Int)-48) > 268435456 then none else some (10 * m+((c.toNat:Int)-48)))=some b:=ha
    obtain⟨a4,a3,a1⟩:=ih x m (by omega) a2 (fun c hc=>hd c (List.mem_append_left _ hc)) (fun h=>absurd h Y) hm
    by_cases hg:10 * m+((c.toNat:Int)-48) > 268435456
    ·rw[if_pos hg]at J;cases J
    ·rw[if_neg hg]at J
     have hb:b=10 * m+((c.toNat:Int)-48):=(Option.some.inj J).symm;have a3:1≤m:=by
      rcases(by omega:m=0∨1≤m)with rfl | h
      ·exfalso
       apply Y
       rw[a1];have e:Lib.decDigits (Int.toNat 0)=[48]:=by decide +kernel
       rw[e];rfl
      ·exact h
     refine⟨by omega,by omega,?_⟩
     rw[←hx,Lib.decDigits,dif_neg (by omega),show b.toNat / 10=m.toNat by omega,←a1,←a0 (b.toNat % 10) (by omega)]
theorem aDp(s:ByteArray)(h:(rd s).2=0):0≤(rd s).1∧(rd s).1≤268435456∧(⟨(Lib.itoa (rd s).1).toArray⟩:ByteArray)=s:=by
 have hl:=cB s;unfold rd at h ⊢
 by_cases h0:s.size=0
 ·rw[if_pos h0]at h;cases h
 ·rw[if_neg h0]at h ⊢
  by_cases Y:runN dK s.data.toList<s.size
  ·rw[if_pos Y]at h;cases h
  ·rw[if_neg Y]at h ⊢
   by_cases J:((s.data.toList.headD 0).toNat:Int)=48∧1<s.size
   ·rw[if_pos J]at h;cases h
   ·rw[if_neg J]at h ⊢
    rcases ha:acc 0 s.data.toList with _ | b
    ·rw[ha]at h;cases h
    ·show 0≤b∧b≤268435456∧_=s
     obtain⟨h3,h4,h5⟩:=aF9 s.data.toList.length s.data.toList b (aY _) (fun e=>h0 (by rw[←hl,e];rfl)) (aEO _ _ (by omega)) (fun e=>by rw[hl];rcases Nat.lt_or_ge 1 s.size with h | h;exact absurd ⟨e,h⟩ J;exact h) ha
     refine⟨h3,h4,?_⟩;have e:Lib.itoa b=Lib.decDigits b.toNat:=by unfold Lib.itoa;rw[if_neg (by omega)]
     show(⟨(Lib.itoa b).toArray⟩:ByteArray)=s
     rw[e,←h5,Array.toArray_toList]
end dg
end Go.Proofs.YtdmmkjijgoiecaaGreatDoor
