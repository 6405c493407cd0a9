import Derived.ProofKit
import Derived.Test.YtdmmkjijgoiecaaGreatDoorY05
import Derived.Test.YtdmmkjijgoiecaaGreatDoorY15
set_option linter.all false
set_option maxHeartbeats 4000000
namespace Go.Proofs.YtdmmkjijgoiecaaGreatDoor
open Lib(hid)
namespace dt
open RowKit Go.Sort
theorem below_drewN{B:Nat}{w w':World}(h:Below B w w')(n:Nat):Below B w (w'.drewN n):=⟨h.os,h.tape,h.output,h.size,h.block⟩
theorem below_grow{B:Nat}{w w':World}(h:Below B w w')(Y:B≤w'.heap.size)(os:Array Obj):Below B w (grow w' os):=
 h.trans ⟨rfl,rfl,rfl,by simp[grow],fun k J=>by
  show(w'.heap++os)[k]? = _
  rw[Array.getElem?_append_left (by omega)]⟩
theorem aDL(k:Nat):∀u,u<10 ^ (k+1)→Lib.nDigits u≤k+1:=by
 induction k with
 | zero=>intro u h;rw[Lib.nDigits_small (by simpa using h)];omega
 | succ k ih=>
  intro u h;rw[Lib.nDigits];split
  ·omega
  ·have:=ih (u / 10) (by rw[Nat.pow_succ]at h;omega)
   omega
theorem aDz(u:Nat)(h:u<18446744073709551616):(Lib.decDigits u).length≤20:=by
 rw[Lib.decDigits_length];exact aDL 19 u (by omega)
def aDt(l:List UInt8)(w:World)(e:Ending)(w':World):Prop:=e=.returned (.string ⟨l.toArray⟩)∧Below w.heap.size w w'
theorem aET(a:Int)(W:World):(convert 44 9 (.slice (some ⟨W.heap.size,0,none⟩) 1 1)).run Tryz.prog (W.alloc (.cells #[.int .u8 a] 5))=.ok (.string (strOfNums [a])) (W.alloc (.cells #[.int .u8 a] 5)):=by
 refine run_convert_bytes_arg _ _ 5 Tryz.underlying44 Tryz.underlying5 _ 0 1 1 [a] rfl ?_ _ Tryz.underlying9;intro i hi;obtain rfl:i=0:=by omega
 simp
def ahead(m:Nat):List UInt8:=if m<10 then [] else Lib.decDigits (m / 10)
theorem yS(n:Nat):Lib.decDigits n=ahead n++[UInt8.ofNat (48+n % 10)]:=by
 rw[Lib.decDigits];unfold ahead;by_cases h:n<10
 ·rw[dif_pos h,if_pos h,Nat.mod_eq_of_lt h];rfl
 ·rw[dif_neg h,if_neg h]
theorem aDV(m:Nat)(h:¬m<10):ahead m=ahead (m / 10)++[UInt8.ofNat (48+m / 10 % 10)]:=by
 conv=>lhs;unfold ahead
 rw[if_neg h,yS]
theorem aGI(m:Nat)(h:m<10):ahead m=[]:=by unfold ahead;rw[if_pos h]
theorem aCP(a:Nat):(strOfNums [(a:Int)]).data.toList=[UInt8.ofNat a]:=by rw[strOfNums_data];rfl
theorem aHq(a b:ByteArray):(a++b).data.toList=a.data.toList++b.data.toList:=by simp
theorem aBF(n:Nat)(w:World)(hn:n<18446744073709551616) :
 Calls Tryz.prog 215 #[.int .u64 n] w (aDt (Lib.decDigits n) w):=by
 have a4:=aET;have a3:∀a:Int,(strOfNums [a]).size=1:=fun _=>strOfNums_size _
 have a2:=hid (aDz n hn);have Y:=hid (yS n);generalize Lib.decDigits n=D at *;go_enter Tryz.func215,Tryz.ntmps215;go_wp2_with fail;go_loopw [0,3] (fun m s wr=>∃(k:Nat) (t:ByteArray),k<18446744073709551616∧m=.int .u64 k∧s=.string t∧t.size≤20∧Hid (D=ahead k++t.data.toList)∧Below w.heap.size w wr) (fun m _ _=>(intOf m).toNat)
 case atStart=>
  refine⟨n,strOfNums [48+(n:Int) % 10],hn,rfl,rfl,by rw[a3];omega,hid ?_,(Below.refl _ _).alloc (aY _) _⟩;rw[Y.out,show(48+(n:Int) % 10)=((48+n % 10:Nat):Int) by omega,aCP]
 case round=>
  obtain⟨k,t,hk,rfl,rfl,ht,hD,hb⟩:=hrel;by_cases a1:k<10
  ·have a0:=hid (aGI k a1)
   go_wp2_with fail;go_ret;refine⟨?_,hb⟩;rw[hD.out,a0.out,aX,Array.toArray_toList];rfl
  ·have J:=hid (aDV k a1)
   have a5:1+t.size≤20:=by
    have h1:=a2.out;rw[hD.out,J.out]at h1;have h2:t.data.toList.length=t.size:=by rw[Array.length_toList];rfl
    simp only[aF,aG,aI]at h1;omega
   go_wp2_with fail;go_roundw
   case rel=>
    refine⟨k / 10,strOfNums [48+(k:Int) / 10 % 10]++t,by omega,by go_num,by simp,?_,hid ?_,hb.alloc hb.size _⟩
    ·have:(strOfNums [48+(k:Int) / 10 % 10]++t).size=1+t.size:=by simp[a3]
     omega
    ·rw[hD.out,J.out,show(48+(k:Int) / 10 % 10)=((48+k / 10 % 10:Nat):Int) by omega,aHq,aCP,aS]
   case measure=>simp[intOf];omega
theorem fT(n:Int)(w:World)(h0:-9223372036854775808≤n)(h1:n≤9223372036854775807)(J:Lib.TabIs Tryz.prog w "internal/strconv.uint64pow10" .u64 Lib.pow10Tab) :
 Calls Tryz.prog 236 #[.int .i64 n] w (aDt (Lib.itoa n) w):=by
 have Y:=hid (Tryz.strconv_Itoa n h0 h1 w J);clear J;generalize Lib.itoa n=D at *;go_enter Tryz.func236,Tryz.ntmps236;go_wp2_with fail;refine Y.out.mono ?_;rintro e w' ⟨rfl,k,os,rfl⟩;go_wp2_with fail;go_ret;exact⟨rfl,below_grow (below_drewN (Below.refl _ _) _) (aY _) _⟩
theorem aMW(u:Nat)(h:u≤9223372036854775808):IntKind.u64.wrap (-IntKind.u64.wrap (-(u:Int)))=u:=by
 rw[IntKind.wrap_u64,IntKind.wrap_u64];omega
theorem xZ(n:Int)(w:World)(h0:-9223372036854775808≤n)(h1:n≤9223372036854775807) :
 Calls Tryz.prog 197 #[.int .i64 n] w (aDt (Lib.itoa n) w):=by
 by_cases hn:0≤n
 ·obtain⟨u,rfl⟩:=Int.eq_ofNat_of_zero_le hn
  have J:=hid (aBF u w (by omega));have e:=Lib.itoa_nonneg u;generalize Lib.decDigits u=D at *;unfold aDt at J;rw[e];clear e;go_enter Tryz.func197,Tryz.ntmps197;go_wp2_with fail;refine J.out.mono ?_;rintro e w' ⟨rfl,hb⟩;go_wp2_with fail;go_ret;exact⟨rfl,hb⟩
 ·obtain⟨u,hu⟩:=Int.eq_ofNat_of_zero_le (show 0≤-n by omega)
  obtain rfl:n=-(u:Int):=by omega
  have J:=hid (aBF u w (by omega));have e:=Lib.itoa_neg u (by omega);have Y:=hid (aDz u (by omega));generalize Lib.decDigits u=D at *;unfold aDt at J;rw[e];clear e;go_enter Tryz.func197,Tryz.ntmps197;go_wp2_with fail;rw[aMW u (by omega)];refine J.out.mono ?_;rintro e w' ⟨rfl,hb⟩;have a0:(ByteArray.mk D.toArray).size=D.length:=by simp[ByteArray.size]
  have hl:=Y.out;go_wp2_with fail;go_ret;refine⟨?_,hb⟩;have e:ByteArray.mk #[45]++ByteArray.mk D.toArray=ByteArray.mk (45 :: D).toArray:=by
   apply ByteArray.ext
   simp
  rw[←e];rfl
end dt
namespace dg
open RowKit
theorem aCl(x:List UInt8)(c:UInt8)(n:Int):acc n (x++[c])=(acc n x).bind fun m=>if 10 * m+((c.toNat:Int)-48) > 268435456 then none else some (10 * m+((c.toNat:Int)-48)):=by
 induction x generalizing n with
 | nil=>rfl
 | cons a r ih=>
  rw[aW,acc,acc];split
  ·rfl
  ·exact ih _
theorem qI(d:Nat)(h:d<10):((UInt8.ofNat (48+d)).toNat:Int)=48+d:=by
 have:(UInt8.ofNat (48+d)).toNat=48+d:=by
  show(48+d) % 256=48+d;omega
 omega
theorem aJ2(k:Nat):∀n,n≤k→n≤268435456→acc 0 (Lib.decDigits n)=some (n:Int):=by
 induction k with
 | zero=>
  intro n h _;obtain rfl:n=0:=by omega
  decide +kernel
 | succ k ih=>
  intro n J Y;by_cases h:n<10
  ·have e:Lib.decDigits n=[]++[UInt8.ofNat (48+n)]:=by rw[Lib.decDigits,dif_pos h];rfl
   rw[e,aCl,qI n h];show(if _ then _ else _)=_;rw[if_neg (by omega)];congr 1;omega
  ·have e:Lib.decDigits n=Lib.decDigits (n / 10)++[UInt8.ofNat (48+n % 10)]:=by rw[Lib.decDigits,dif_neg h]
   rw[e,aCl,ih (n / 10) (by omega) (by omega),qI _ (by omega)];show(if _ then _ else _)=_;rw[if_neg (by omega)];congr 1;omega
theorem aAo(k:Nat):∀n,n≤k→∀c∈Lib.decDigits n,dM (c.toNat:Int)=true:=by
 induction k with
 | zero=>
  intro n h c hc;obtain rfl:n=0:=by omega
  have e:Lib.decDigits 0=[48]:=by decide +kernel
  rw[e]at hc;simp at hc;subst hc
  decide
 | succ k ih=>
  intro n J c hc;by_cases h:n<10
  ·rw[Lib.decDigits,dif_pos h,aD]at hc
   subst hc;unfold dM;rw[qI n h,bJ];omega
  ·rw[Lib.decDigits,dif_neg h,List.mem_append]at hc
   rcases hc with hc | hc
   ·exact ih (n / 10) (by omega) c hc
   ·rw[aD]at hc
    subst hc;unfold dM;rw[qI (n % 10) (by omega),bJ];omega
theorem aI3(J:Int→Bool)(l:List UInt8)(h:∀c∈l,J (c.toNat:Int)=true):runN J l=l.length:=by
 induction l with
 | nil=>rfl
 | cons a r ih=>
  have:=ih fun c hc=>h c (bG _ hc)
  unfold runN at this ⊢;rw[List.takeWhile_cons,if_pos (h a List.mem_cons_self),aG,aG,this]
theorem aIY(J:Int→Bool)(l:List UInt8)(h:¬runN J l<l.length):∀c∈l,J (c.toNat:Int)=true:=by
 induction l with
 | nil=>simp
 | cons a r ih=>
  unfold runN at h;intro c hc;rcases ha:J (a.toNat:Int)with _ | _
  ·simp[ha]at h
  ·simp only[List.takeWhile_cons,ha,if_true,aG]at h
   rcases aM.1 hc with rfl | hc
   ·exact ha
   ·exact ih (by unfold runN;omega) c hc
theorem aIO(k:Nat):∀n,n≤k→1≤n→((Lib.decDigits n).headD 0).toNat≠48:=by
 induction k with
 | zero=>intro n h1 J;omega
 | succ k ih=>
  intro n hk h1;by_cases h:n<10
  ·rw[Lib.decDigits,dif_pos h]
   have:=qI n h;simp only[List.headD_cons];omega
  ·rw[Lib.decDigits,dif_neg h]
   have J:=ih (n / 10) (by omega) (by omega);rcases Y:Lib.decDigits (n / 10)with _ | ⟨a,r⟩
   ·have:=Lib.decDigits_length (n / 10)
    rw[Y]at this;rw[Lib.nDigits]at this;split at this <;> simp at this
   ·rw[Y]at J
    simpa using J
theorem aIl(n:Nat):Lib.decDigits n≠[]:=by
 intro J;have:=Lib.decDigits_length n;rw[J,Lib.nDigits]at this;split at this <;> simp at this
theorem nK(l:List UInt8):(ByteArray.mk l.toArray).size=l.length:=by simp[ByteArray.size]
theorem rd_dec(n:Nat)(h:n≤268435456):rd ⟨(Lib.decDigits n).toArray⟩=((n:Int),0):=by
 have hd:=aAo n n (aY _);have hr:=aI3 dM _ hd;unfold rd;rw[nK,if_neg (fun e=>aIl n (List.length_eq_zero_iff.1 e))];simp only[];rw[if_neg (by show ¬runN dM (Lib.decDigits n)<_;omega)];rw[if_neg ?_,aJ2 n n (aY _) h]
 ·rfl
 ·rintro⟨h1,J⟩
  rcases Nat.eq_zero_or_pos n with rfl | Y
  ·have e:Lib.decDigits 0=[48]:=by decide +kernel
   rw[e]at J;simp at J
  ·exact aIO n n (aY _) Y (by omega)
end dg
end Go.Proofs.YtdmmkjijgoiecaaGreatDoor
