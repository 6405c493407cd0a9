import Derived.ProofKit
import Derived.Test.YtlkboeajkgbnaaaGreatDoorC03
import Derived.Test.YtlkboeajkgbnaaaGreatDoorC01
set_option linter.all false
set_option maxHeartbeats 4000000
namespace Go.Proofs.YtlkboeajkgbnaaaGreatDoor
open Lib(hid)
namespace dt
open RowKit Go.Sort
theorem below_drewN{B:Nat}{w w':World}(h:Below B w w')(n:Nat):Below B w (w'.drewN n):=⟨h.os,h.tape,h.output,h.size,h.block⟩
theorem below_grow{B:Nat}{w w':World}(h:Below B w w')(hB:B≤w'.heap.size)(os:Array Obj):Below B w (grow w' os):=
 h.trans ⟨rfl,rfl,rfl,by simp[grow],fun k hk=>by
  show(w'.heap++os)[k]? = _
  rw[Array.getElem?_append_left (by omega)]⟩
theorem nDigits_le(k:Nat):∀u,u<10 ^ (k+1)→Lib.nDigits u≤k+1:=by
 induction k with
 | zero=>intro u h;rw[Lib.nDigits_small (by simpa using h)];omega
 | succ k ih=>
  intro u h;rw[Lib.nDigits];split
  ·omega
  ·have:=ih (u / 10) (by rw[Nat.pow_succ]at h;omega)
   omega
theorem len_le(u:Nat)(h:u<18446744073709551616):(Lib.decDigits u).length≤20:=by
 rw[Lib.decDigits_length];exact nDigits_le 19 u (by omega)
def Text1(l:List UInt8)(w:World)(e:Ending)(w':World):Prop:=e=.returned (.string ⟨l.toArray⟩)∧Below w.heap.size w w'
theorem conv1(a:Int)(W:World):(convert 195 9 (.slice (some ⟨W.heap.size,0,none⟩) 1 1)).run Tryz.prog (W.alloc (.cells #[.int .u8 a] 5))=.ok (.string (strOfNums [a])) (W.alloc (.cells #[.int .u8 a] 5)):=by
 refine run_convert_bytes_arg _ _ 5 Tryz.underlying195 Tryz.underlying5 _ 0 1 1 [a] rfl ?_ _ Tryz.underlying9;intro i hi;obtain rfl:i=0:=by omega
 simp
def ahead(m:Nat):List UInt8:=if m<10 then [] else Lib.decDigits (m / 10)
theorem ahead_start(n:Nat):Lib.decDigits n=ahead n++[UInt8.ofNat (48+n % 10)]:=by
 rw[Lib.decDigits];unfold ahead;by_cases h:n<10
 ·rw[dif_pos h,if_pos h,Nat.mod_eq_of_lt h];rfl
 ·rw[dif_neg h,if_neg h]
theorem ahead_step(m:Nat)(h:¬m<10):ahead m=ahead (m / 10)++[UInt8.ofNat (48+m / 10 % 10)]:=by
 conv=>lhs;unfold ahead
 rw[if_neg h,ahead_start]
theorem ahead_end(m:Nat)(h:m<10):ahead m=[]:=by unfold ahead;rw[if_pos h]
theorem one_list(a:Nat):(strOfNums [(a:Int)]).data.toList=[UInt8.ofNat a]:=by rw[strOfNums_data];rfl
theorem app_list(a b:ByteArray):(a++b).data.toList=a.data.toList++b.data.toList:=by simp
theorem plain_any(n:Nat)(w:World)(hn:n<18446744073709551616) :
 Calls Tryz.prog 153 #[.int .u64 n] w (Text1 (Lib.decDigits n) w):=by
 have hconv:=conv1;have hsz:∀a:Int,(strOfNums [a]).size=1:=fun _=>strOfNums_size _
 have Hlen:=hid (len_le n hn);have Hstart:=hid (ahead_start n);generalize Lib.decDigits n=D at *;go_enter Tryz.func153,Tryz.ntmps153;go_wp2_with fail;go_loopw [0,3] (fun m s wr=>∃(k:Nat) (t:ByteArray),k<18446744073709551616∧m=.int .u64 k∧s=.string t∧t.size≤20∧Hid (D=ahead k++t.data.toList)∧Below w.heap.size w wr) (fun m _ _=>(intOf m).toNat)
 case atStart=>
  refine⟨n,strOfNums [48+(n:Int) % 10],hn,rfl,rfl,by rw[hsz];omega,hid ?_,(Below.refl _ _).alloc (Nat.le_refl _) _⟩;rw[Hstart.out,show(48+(n:Int) % 10)=((48+n % 10:Nat):Int) by omega,one_list]
 case round=>
  obtain⟨k,t,hk,rfl,rfl,ht,hD,hb⟩:=hrel;by_cases h10:k<10
  ·have Hend:=hid (ahead_end k h10)
   go_wp2_with fail;go_ret;refine⟨?_,hb⟩;rw[hD.out,Hend.out,List.nil_append,Array.toArray_toList];rfl
  ·have Hstep:=hid (ahead_step k h10)
   have hsz2:1+t.size≤20:=by
    have h1:=Hlen.out;rw[hD.out,Hstep.out]at h1;have h2:t.data.toList.length=t.size:=by rw[Array.length_toList];rfl
    simp only[List.length_append,List.length_cons,List.length_nil]at h1;omega
   go_wp2_with fail;go_roundw
   case rel=>
    refine⟨k / 10,strOfNums [48+(k:Int) / 10 % 10]++t,by omega,by go_num,by simp,?_,hid ?_,hb.alloc hb.size _⟩
    ·have:(strOfNums [48+(k:Int) / 10 % 10]++t).size=1+t.size:=by simp[hsz]
     omega
    ·rw[hD.out,Hstep.out,show(48+(k:Int) / 10 % 10)=((48+k / 10 % 10:Nat):Int) by omega,app_list,one_list,List.append_assoc]
   case measure=>simp[intOf];omega
theorem text_any(n:Int)(w:World)(h0:-9223372036854775808≤n)(h1:n≤9223372036854775807)(htab:Lib.TabIs Tryz.prog w "internal/strconv.uint64pow10" .u64 Lib.pow10Tab) :
 Calls Tryz.prog 146 #[.int .i64 n] w (Text1 (Lib.itoa n) w):=by
 have H1:=hid (Tryz.strconv_Itoa n h0 h1 w htab);clear htab;generalize Lib.itoa n=D at *;go_enter Tryz.func146,Tryz.ntmps146;go_wp2_with fail;refine H1.out.mono ?_;rintro e w' ⟨rfl,k,os,rfl⟩;go_wp2_with fail;go_ret;exact⟨rfl,below_grow (below_drewN (Below.refl _ _) _) (Nat.le_refl _) _⟩
theorem wneg(u:Nat)(h:u≤9223372036854775808):IntKind.u64.wrap (-IntKind.u64.wrap (-(u:Int)))=u:=by
 rw[IntKind.wrap_u64,IntKind.wrap_u64];omega
theorem rtext_any(n:Int)(w:World)(h0:-9223372036854775808≤n)(h1:n≤9223372036854775807) :
 Calls Tryz.prog 134 #[.int .i64 n] w (Text1 (Lib.itoa n) w):=by
 by_cases hn:0≤n
 ·obtain⟨u,rfl⟩:=Int.eq_ofNat_of_zero_le hn
  have H1:=hid (plain_any u w (by omega));have e:=Lib.itoa_nonneg u;generalize Lib.decDigits u=D at *;unfold Text1 at H1;rw[e];clear e;go_enter Tryz.func134,Tryz.ntmps134;go_wp2_with fail;refine H1.out.mono ?_;rintro e w' ⟨rfl,hb⟩;go_wp2_with fail;go_ret;exact⟨rfl,hb⟩
 ·obtain⟨u,hu⟩:=Int.eq_ofNat_of_zero_le (show 0≤-n by omega)
  obtain rfl:n=-(u:Int):=by omega
  have H1:=hid (plain_any u w (by omega));have e:=Lib.itoa_neg u (by omega);have Hl:=hid (len_le u (by omega));generalize Lib.decDigits u=D at *;unfold Text1 at H1;rw[e];clear e;go_enter Tryz.func134,Tryz.ntmps134;go_wp2_with fail;rw[wneg u (by omega)];refine H1.out.mono ?_;rintro e w' ⟨rfl,hb⟩;have hsz:(ByteArray.mk D.toArray).size=D.length:=by simp[ByteArray.size]
  have hl:=Hl.out;go_wp2_with fail;go_ret;refine⟨?_,hb⟩;have e:ByteArray.mk #[45]++ByteArray.mk D.toArray=ByteArray.mk (45 :: D).toArray:=by
   apply ByteArray.ext
   simp
  rw[←e];rfl
end dt
namespace dg
open RowKit
theorem acc_snoc(x:List UInt8)(c:UInt8)(n:Int):acc n (x++[c])=(acc n x).bind fun m=>if 10 * m+((c.toNat:Int)-48) > 268435456 then none else some (10 * m+((c.toNat:Int)-48)):=by
 induction x generalizing n with
 | nil=>rfl
 | cons a r ih=>
  rw[List.cons_append,acc,acc];split
  ·rfl
  ·exact ih _
theorem digit_nat(d:Nat)(h:d<10):((UInt8.ofNat (48+d)).toNat:Int)=48+d:=by
 have:(UInt8.ofNat (48+d)).toNat=48+d:=by
  show(48+d) % 256=48+d;omega
 omega
theorem acc_dec(k:Nat):∀n,n≤k→n≤268435456→acc 0 (Lib.decDigits n)=some (n:Int):=by
 induction k with
 | zero=>
  intro n h _;obtain rfl:n=0:=by omega
  decide +kernel
 | succ k ih=>
  intro n hk hn;by_cases h:n<10
  ·have e:Lib.decDigits n=[]++[UInt8.ofNat (48+n)]:=by rw[Lib.decDigits,dif_pos h];rfl
   rw[e,acc_snoc,digit_nat n h];show(if _ then _ else _)=_;rw[if_neg (by omega)];congr 1;omega
  ·have e:Lib.decDigits n=Lib.decDigits (n / 10)++[UInt8.ofNat (48+n % 10)]:=by rw[Lib.decDigits,dif_neg h]
   rw[e,acc_snoc,ih (n / 10) (by omega) (by omega),digit_nat _ (by omega)];show(if _ then _ else _)=_;rw[if_neg (by omega)];congr 1;omega
theorem dec_digits(k:Nat):∀n,n≤k→∀c∈Lib.decDigits n,digB (c.toNat:Int)=true:=by
 induction k with
 | zero=>
  intro n h c hc;obtain rfl:n=0:=by omega
  have e:Lib.decDigits 0=[48]:=by decide +kernel
  rw[e]at hc;simp at hc;subst hc
  decide
 | succ k ih=>
  intro n hk c hc;by_cases h:n<10
  ·rw[Lib.decDigits,dif_pos h,List.mem_singleton]at hc
   subst hc;unfold digB;rw[digit_nat n h,decide_eq_true_eq];omega
  ·rw[Lib.decDigits,dif_neg h,List.mem_append]at hc
   rcases hc with hc | hc
   ·exact ih (n / 10) (by omega) c hc
   ·rw[List.mem_singleton]at hc
    subst hc;unfold digB;rw[digit_nat (n % 10) (by omega),decide_eq_true_eq];omega
theorem runN_all(cls:Int→Bool)(l:List UInt8)(h:∀c∈l,cls (c.toNat:Int)=true):runN cls l=l.length:=by
 induction l with
 | nil=>rfl
 | cons a r ih=>
  have:=ih fun c hc=>h c (List.mem_cons_of_mem _ hc)
  unfold runN at this ⊢;rw[List.takeWhile_cons,if_pos (h a List.mem_cons_self),List.length_cons,List.length_cons,this]
theorem all_runN(cls:Int→Bool)(l:List UInt8)(h:¬runN cls l<l.length):∀c∈l,cls (c.toNat:Int)=true:=by
 induction l with
 | nil=>simp
 | cons a r ih=>
  unfold runN at h;intro c hc;rcases ha:cls (a.toNat:Int)with _ | _
  ·simp[ha]at h
  ·simp only[List.takeWhile_cons,ha,if_true,List.length_cons]at h
   rcases List.mem_cons.1 hc with rfl | hc
   ·exact ha
   ·exact ih (by unfold runN;omega) c hc
theorem dec_head(k:Nat):∀n,n≤k→1≤n→((Lib.decDigits n).headD 0).toNat≠48:=by
 induction k with
 | zero=>intro n h1 h2;omega
 | succ k ih=>
  intro n hk h1;by_cases h:n<10
  ·rw[Lib.decDigits,dif_pos h]
   have:=digit_nat n h;simp only[List.headD_cons];omega
  ·rw[Lib.decDigits,dif_neg h]
   have h2:=ih (n / 10) (by omega) (by omega);rcases he:Lib.decDigits (n / 10)with _ | ⟨a,r⟩
   ·have:=Lib.decDigits_length (n / 10)
    rw[he]at this;rw[Lib.nDigits]at this;split at this <;> simp at this
   ·rw[he]at h2
    simpa using h2
theorem dec_ne(n:Nat):Lib.decDigits n≠[]:=by
 intro he;have:=Lib.decDigits_length n;rw[he,Lib.nDigits]at this;split at this <;> simp at this
theorem list_size(l:List UInt8):(ByteArray.mk l.toArray).size=l.length:=by simp[ByteArray.size]
theorem rd_dec(n:Nat)(h:n≤268435456):rd ⟨(Lib.decDigits n).toArray⟩=((n:Int),0):=by
 have hd:=dec_digits n n (Nat.le_refl _);have hr:=runN_all digB _ hd;unfold rd;rw[list_size,if_neg (fun e=>dec_ne n (List.length_eq_zero_iff.1 e))];simp only[];rw[if_neg (by show ¬runN digB (Lib.decDigits n)<_;omega)];rw[if_neg ?_,acc_dec n n (Nat.le_refl _) h]
 ·rfl
 ·rintro⟨h1,h2⟩
  rcases Nat.eq_zero_or_pos n with rfl | hp
  ·have e:Lib.decDigits 0=[48]:=by decide +kernel
   rw[e]at h2;simp at h2
  ·exact dec_head n n (Nat.le_refl _) hp (by omega)
end dg
end Go.Proofs.YtlkboeajkgbnaaaGreatDoor
