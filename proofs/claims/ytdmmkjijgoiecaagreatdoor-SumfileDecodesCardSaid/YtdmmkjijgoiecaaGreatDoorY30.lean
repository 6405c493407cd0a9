import Derived.Test.YtdmmkjijgoiecaaGreatDoorY01
import Derived.BigQuiet
import Derived.Lib.Hide
import Derived.ProofKit
import Derived.Test.YtdmmkjijgoiecaaGreatDoorRows
import Derived.WalkSpells
set_option linter.all false
set_option maxHeartbeats 4000000
namespace Go.Proofs.YtdmmkjijgoiecaaGreatDoor
open Lib(hid)
namespace cr
open RowKit
def oM(v:Nat):Nat:=if 2 * v<16777216 then 2 * v else(2 * v) ^^^ 25578747
def xD:Nat→Nat→Nat
 | 0,v=>v
 | k+1,v=>oM (xD k v)
def uL(v:Nat)(b:Nat):Nat:=xD 8 (v ^^^ b * 65536)
def dW:Nat→List UInt8→Nat
 | v,[]=>v
 | v,c :: r=>dW (uL v c.toNat) r
def qH(l:List UInt8):Nat:=dW 11994318 l
theorem qZ(a b:Nat)(ha:a<16777216)(hb:b<16777216):a ^^^ b<16777216:=Nat.xor_lt_two_pow (n:=24) ha hb
theorem aJy(a:Nat)(h1:16777216≤a)(Y:a<33554432):a ^^^ 25578747<16777216:=by
 refine Nat.lt_pow_two_of_testBit (n:=24) _ fun i hi=>?_
 rw[Nat.testBit_xor];by_cases h:i=24
 ·subst h
  rw[Nat.testBit_eq_decide_div_mod_eq,Nat.testBit_eq_decide_div_mod_eq];have:a / 2 ^ 24=1:=by omega
  rw[this]
  decide
 ·have J:25≤i:=by omega
  have hp:2 ^ 25≤2 ^ i:=Nat.pow_le_pow_right (by omega) J;rw[Nat.testBit_lt_two_pow (by omega),Nat.testBit_lt_two_pow (by omega)];rfl
theorem uH(v:Nat)(hv:v<16777216):oM v<16777216:=by
 unfold oM;split
 ·assumption
 ·exact aJy _ (by omega) (by omega)
theorem aJg(k v:Nat)(hv:v<16777216):xD k v<16777216:=by
 induction k with
 | zero=>exact hv
 | succ k ih=>exact uH _ ih
theorem aCV(v b:Nat)(hv:v<16777216)(hb:b<256):uL v b<16777216:=aJg _ _ (qZ _ _ hv (by omega))
theorem wG(v:Nat)(l:List UInt8)(hv:v<16777216):dW v l<16777216:=by
 induction l generalizing v with
 | nil=>exact hv
 | cons c r ih=>
  have h:=aCV v c.toNat hv (by have:=c.toNat_lt;omega);rw[dW];exact ih _ h
theorem aBW(l:List UInt8):qH l<16777216:=by
 unfold qH;exact wG 11994318 l (by omega)
theorem uJ(v:Nat)(l r:List UInt8):dW v (l++r)=dW (dW v l) r:=by
 induction l generalizing v with
 | nil=>rw[aX,dW]
 | cons c l ih=>rw[aW,dW,dW,ih]
theorem aE8(n:Nat)(J:n<16777216):bits .and .u32 ((n:Int) * 2) 16777216=if 2 * n<16777216 then 0 else 16777216:=by
 have e:=u32_and_nat (n * 2) 16777216 (by omega) (by omega);rw[show((n:Int) * 2)=((n * 2:Nat):Int) by omega];rw[show(16777216:Int)=((16777216:Nat):Int) from rfl,e,show(16777216:Nat)=2 ^ 24 from rfl,nat_bit 24];split
 ·have:n * 2 / 2 ^ 24=0:=by omega
  rw[this];try rfl
 ·have:n * 2 / 2 ^ 24=1:=by omega
  rw[this];try rfl
theorem aCR(n:Nat)(J:n<16777216)(h:¬2 * n<16777216):bits .xor .u32 ((n:Int) * 2) 25578747=(oM n:Nat):=by
 have e:=u32_xor_nat (n * 2) 25578747 (by omega) (by omega);rw[show((n:Int) * 2)=((n * 2:Nat):Int) by omega];rw[show(25578747:Int)=((25578747:Nat):Int) from rfl,e];unfold oM;rw[if_neg h,Nat.mul_comm]
theorem aII(v b:Nat)(hv:v<16777216)(hb:b<256):bits .xor .u32 (v:Int) ((b:Int) * 65536)=(v ^^^ b * 65536:Nat):=by
 have e:=u32_xor_nat v (b * 65536) (by omega) (by omega);rw[show((b:Int) * 65536)=((b * 65536:Nat):Int) by omega,e]
theorem aIA(v b:Nat)(w:World)(hv:v<16777216)(hb:b<256) :
 Calls Tryz.prog 191 #[.int .u32 v,.int .u8 b] w fun e w'=>e=.returned (.int .u32 (uL v b:Nat))∧w=w':=by
 have hx:=aII v b hv hb;have a0:=qZ v (b * 65536) hv (by omega);have Hw:Hid (uL v b=xD 8 (v ^^^ b * 65536)):=hid rfl;generalize v ^^^ b * 65536=x at *;generalize uL v b=y at *;go_enter Tryz.func191,Tryz.ntmps191;go_wp2_with fail;clear hx
 go_loop [0,10] (fun s i=>∃(k n:Nat),k≤8∧n<16777216∧i=.int .i64 k∧s=.int .u32 n∧Hid (n=xD k x)) (fun _ i=>8-(intOf i).toNat)
 case atStart=>exact⟨0,x,by omega,a0,rfl,rfl,hid rfl⟩
 case round=>
  obtain⟨k,n,hk,J,rfl,rfl,hi⟩:=hrel;by_cases a1:k<8
  ·by_cases Y:2 * n<16777216
   ·have h1:(bits .and .u32 ((n:Int) * 2) 16777216 != 0)=false:=by rw[aE8 n J,if_pos Y];rfl
    go_wp2_with fail
    go_round
    case rel=>exact⟨k+1,oM n,by omega,uH n J,by go_num,by unfold oM;rw[if_pos Y];go_num,hid (by rw[hi.out];rfl)⟩
    case measure=>simp[intOf];omega
   ·have h1:(bits .and .u32 ((n:Int) * 2) 16777216 != 0)=true:=by rw[aE8 n J,if_neg Y];rfl
    have h2:=aCR n J Y;have h3:=uH n J;have H4:Hid (oM n=oM (xD k x)):=hid (by rw[hi.out]);generalize oM n=m at *;go_wp2_with fail
    go_round
    case rel=>exact⟨k+1,m,by omega,h3,by go_num,rfl,hid H4.out⟩
    case measure=>simp[intOf];omega
  ·obtain rfl:k=8:=by omega
   go_wp2_with fail;go_ret;exact⟨by rw[Hw.out,←hi.out];rfl,rfl⟩
theorem cZ(s:ByteArray):s.data.toList.length=s.size:=by rw[Array.length_toList];rfl
theorem aIm(s:ByteArray)(k:Nat)(J:k<s.size):qH (s.data.toList.take (k+1))=uL (qH (s.data.toList.take k)) s[k].toNat:=by
 have hl:=cZ s;rw[bC (by omega)];unfold qH;rw[uJ,dW,dW];rfl
theorem aKA(s:ByteArray)(k:Nat)(J:¬k<s.size):qH (s.data.toList.take k)=qH s.data.toList:=by
 have hl:=cZ s;rw[bE (by omega)]
theorem aJV(s:ByteArray)(w:World)(hs:s.size≤maxLen) :
 Calls Tryz.prog 89 #[.string s] w fun e w'=>e=.returned (.int .u32 (qH s.data.toList:Nat))∧w=w':=by
 unfold maxLen at hs;have Hs:Hid (qH (s.data.toList.take 0)=11994318):=hid rfl;have J:=hid (aIm s);have Y:=hid (aKA s);have a0:=hid (fun k=>aBW (s.data.toList.take k));generalize hf:(fun k=>qH (s.data.toList.take k))=f;replace Hs:Hid (f 0=11994318):=by subst hf;exact Hs
 replace J:Hid (∀k (h:k<s.size),f (k+1)=uL (f k) s[k].toNat):=by subst hf;exact J
 replace Y:Hid (∀k,¬k<s.size→f k=qH s.data.toList):=by subst hf;exact Y
 replace a0:Hid (∀k,f k<16777216):=by subst hf;exact a0
 clear hf;go_enter Tryz.func89,Tryz.ntmps89;go_wp2_with fail
 go_loop [3,4,5] (fun v i _=>∃(k n:Nat),k≤s.size∧i=.int .i64 k∧v=.int .u32 n∧Hid (n=f k)) (fun _ i _=>s.size-(intOf i).toNat)
 case atStart=>exact⟨0,11994318,by omega,rfl,rfl,hid Hs.out.symm⟩
 case round=>
  obtain⟨k,n,hk,rfl,rfl,hn⟩:=hrel;have a1:n<16777216:=by rw[hn.out];exact a0.out k
  by_cases a3:k<s.size
  ·have a4:s[k].toNat<256:=by have:=s[k].toNat_lt;omega
   have hx:=aII n s[k].toNat a1 a4;have a5:=qZ n (s[k].toNat * 65536) a1 (by omega);have Hw:Hid (uL n s[k].toNat=xD 8 (n ^^^ s[k].toNat * 65536)):=hid rfl;generalize n ^^^ s[k].toNat * 65536=x at *;go_wp2_with fail;clear hx
   go_loop [3,5] (fun v i=>∃(j m:Nat),j≤8∧m<16777216∧i=.int .i64 j∧v=.int .u32 m∧Hid (m=xD j x)) (fun _ i=>8-(intOf i).toNat)
   case atStart=>exact⟨0,x,by omega,a5,rfl,rfl,hid rfl⟩
   case round=>
    obtain⟨j,m,hj,hm,rfl,rfl,hi⟩:=hrel;by_cases a6:j<8
    ·clear hn a1 a4 Hw hs
     by_cases ht:2 * m<16777216
     ·have h0:(m:Int) * 2 / 16777216=0:=by omega
      go_wp2_with fail
      go_round
      case rel=>exact⟨j+1,oM m,by omega,uH m hm,by go_num,by unfold oM;rw[if_pos ht];go_num,hid (by rw[hi.out];rfl)⟩
      case measure=>simp[intOf];omega
     ·have h0:(m:Int) * 2 / 16777216=1:=by omega
      have h2:=aCR m hm ht;have h3:=uH m hm;have H4:Hid (oM m=oM (xD j x)):=hid (by rw[hi.out]);generalize oM m=q at *;go_wp2_with fail
      go_round
      case rel=>exact⟨j+1,q,by omega,h3,by go_num,rfl,hid H4.out⟩
      case measure=>simp[intOf];omega
    ·obtain rfl:j=8:=by omega
     go_wp2_with fail
     go_round
     case rel=>exact⟨k+1,m,by omega,by go_num,rfl,hid (by rw[J.out k a3,←hn.out,Hw.out,hi.out])⟩
     case measure=>simp[intOf];omega
  ·have a2:=hid (Y.out k a3)
   go_wp2_with fail;go_ret;exact⟨by rw[←a2.out,←hn.out];rfl,rfl⟩
theorem aBs(t:Nat)(J:t<16777216):bits .xor .u32 (t:Int) 11994318=(t ^^^ 11994318:Nat):=by
 have e:=u32_xor_nat t 11994318 (by omega) (by omega);rw[show(11994318:Int)=((11994318:Nat):Int) from rfl,e]
theorem aBf(a:Addr)(t:Nat)(w:World)(J:t<16777216)(hc:w.cell? a=some (.int .u32 t)) :
 Calls Tryz.prog 148 #[.pointer (some a)] w fun e w'=>e=.returned (.int .u32 (t ^^^ 11994318:Nat))∧w=w':=by
 have Y:=aBs t J;generalize t ^^^ 11994318=x at *;go_enter Tryz.func148,Tryz.ntmps148;go_wp2_with fail;go_ret;exact⟨rfl,rfl⟩
theorem aFW(v:Nat)(s:ByteArray)(k:Nat)(J:k<s.size):dW v (s.data.toList.take (k+1))=uL (dW v (s.data.toList.take k)) s[k].toNat:=by
 have hl:=cZ s;rw[bC (by omega),uJ,dW,dW];rfl
theorem aIg(v:Nat)(s:ByteArray)(k:Nat)(J:¬k<s.size):dW v (s.data.toList.take k)=dW v s.data.toList:=by
 have hl:=cZ s;rw[bE (by omega)]
theorem aGk(a:Addr)(t:Nat)(s:ByteArray)(w:World)(hs:s.size≤maxLen)(ht:t<16777216)(hc:w.cell? a=some (.int .u32 t))(hf:w.frozen? a=false) :
 Calls Tryz.prog 147 #[.pointer (some a),.string s] w fun e w'=>e=.returned (.tuple #[])∧w'=w.setCell a (.int .u32 (dW (t ^^^ 11994318) s.data.toList ^^^ 11994318:Nat)):=by
 unfold maxLen at hs;have Hv:=hid (aBf a t w ht hc);have hv:t ^^^ 11994318<16777216:=qZ _ _ ht (by omega);generalize t ^^^ 11994318=v at *;have Hs:Hid (dW v (s.data.toList.take 0)=v):=hid (by rw[List.take_zero,dW]);have J:=hid (aFW v s);have Y:=hid (aIg v s);have a4:=hid (fun k=>wG v (s.data.toList.take k) hv);generalize a0:(fun k=>dW v (s.data.toList.take k))=f;replace Hs:Hid (f 0=v):=by subst a0;exact Hs
 replace J:Hid (∀k (h:k<s.size),f (k+1)=uL (f k) s[k].toNat):=by subst a0;exact J
 replace Y:Hid (∀k,¬k<s.size→f k=dW v s.data.toList):=by subst a0;exact Y
 replace a4:Hid (∀k,f k<16777216):=by subst a0;exact a4
 clear a0;generalize dW v s.data.toList=z at *;go_enter Tryz.func147,Tryz.ntmps147;go_wp2_with fail;refine Hv.out.mono ?_;rintro e w' ⟨rfl,rfl⟩;go_wp2_with fail
 go_loop [4,5,12] (fun v _ i=>∃(k n:Nat),k≤s.size∧i=.int .i64 k∧v=.int .u32 n∧n<16777216∧Hid (n=f k)) (fun _ _ i=>s.size-(intOf i).toNat)
 case atStart=>exact⟨0,v,by omega,rfl,rfl,hv,hid Hs.out.symm⟩
 case round=>
  obtain⟨k,n,hk,rfl,rfl,a1,hn⟩:=hrel;by_cases a2:k<s.size
  ·have a3:s[k].toNat<256:=by have:=s[k].toNat_lt;omega
   have Hw:=hid (fun w=>aIA n s[k].toNat w a1 a3);go_wp2_with fail;refine(Hw.out _).mono ?_;rintro e w' ⟨rfl,rfl⟩;go_wp2_with fail
   go_round
   case rel=>exact⟨k+1,uL n s[k].toNat,by omega,by go_num,rfl,aCV _ _ a1 a3,hid (by rw[J.out k a2,←hn.out])⟩
   case measure=>simp[intOf];omega
  ·have a5:n=z:=by rw[hn.out,Y.out k a2]
   subst a5;have hx:=aBs n a1;go_wp2_with fail;go_end0;exact⟨rfl,rfl⟩
def aFz(n:Nat)(w:World)(e:Ending)(w':World):Prop:=e=.returned (.int .u32 (n:Int))∧Below w.heap.size w w'
theorem aMb(s:ByteArray)(w:World)(hs:s.size≤maxLen) :
 Calls Tryz.prog 87 #[.string s] w (aFz (qH s.data.toList) w):=by
 have hm:=wG 11994318 s.data.toList (by omega);have Hw:=hid (fun a w hc hf=>aGk a 0 s w hs (by omega) hc hf);have He:Hid (dW (0 ^^^ 11994318) s.data.toList=qH s.data.toList):=hid (by rw[Nat.zero_xor];rfl);have hx:(dW (0 ^^^ 11994318) s.data.toList) ^^^ 11994318<16777216:=by rw[Nat.zero_xor];exact qZ _ _ hm (by omega)
 have J:(dW (0 ^^^ 11994318) s.data.toList) ^^^ 11994318 ^^^ 11994318=qH s.data.toList:=by rw[He.out,Nat.xor_assoc,Nat.xor_self,Nat.xor_zero]
 have Y:=hid J;clear J He hm;generalize qH s.data.toList=z at *;generalize dW (0 ^^^ 11994318) s.data.toList ^^^ 11994318=y at *;go_enter Tryz.func87,Tryz.ntmps87;go_wp2_with fail;refine(Hw.out _ _ (by simp) (by simp)).mono ?_;rintro e w' ⟨rfl,rfl⟩;go_wp2_with fail;refine(aBf _ y _ hx (by simp)).mono ?_;rintro e w' ⟨rfl,rfl⟩;rw[Y.out];go_wp2_with fail;go_ret;exact⟨rfl,(Below.refl _ _).alloc (aY _) _⟩
theorem aK6(a b c:Int)(W:World):(convert 44 9 (.slice (some ⟨W.heap.size,0,none⟩) 3 3)).run Tryz.prog (W.alloc (.cells #[.int .u8 a,.int .u8 b,.int .u8 c] 5))=.ok (.string (strOfNums [a,b,c])) (W.alloc (.cells #[.int .u8 a,.int .u8 b,.int .u8 c] 5)):=by
 refine run_convert_bytes_arg _ _ 5 Tryz.underlying44 Tryz.underlying5 _ 0 3 3 [a,b,c] rfl ?_ _ Tryz.underlying9;intro i hi;rcases(by omega:i=0∨i=1∨i=2)with rfl | rfl | rfl <;> simp
def aFb(z:Nat):ByteArray:=strOfNums [(z:Int) / 65536,(z:Int) / 256 % 256,(z:Int) % 256]
def kE(s:ByteArray):ByteArray:=s++aFb (qH s.data.toList)
def tK(s:ByteArray)(w:World)(e:Ending)(w':World):Prop:=e=.returned (.string (kE s))∧Below w.heap.size w w'
theorem aDn(s:ByteArray)(w:World)(hs:s.size+3≤maxLen) :
 Calls Tryz.prog 36 #[.string s] w (tK s w):=by
 have Y:=hid (fun w=>aMb s w (by omega));have hm:=aBW s.data.toList;have He:Hid (kE s=s++aFb (qH s.data.toList)):=hid rfl;generalize qH s.data.toList=z at *;unfold aFz at Y;have J:=aK6;have a0:∀a b c:Int,(strOfNums [a,b,c]).size=3:=fun _ _ _=>strOfNums_size _
 unfold maxLen at hs;go_enter Tryz.func36,Tryz.ntmps36;go_wp2_with fail;refine(Y.out _).mono ?_;rintro e w' ⟨rfl,hb⟩;go_wp2_with fail;go_ret;exact⟨by rw[He.out];rfl,hb.alloc hb.size _⟩
theorem aFS(s:ByteArray)(w:World)(hs:s.size+3≤maxLen) :
 Calls Tryz.prog 39 #[.string s] w (tK s w):=by
 have H1:=hid (fun w=>aJV s w (by omega));have hm:=aBW s.data.toList;have Y:Hid (kE s=s++aFb (qH s.data.toList)):=hid rfl;generalize qH s.data.toList=z at *;have J:=aK6;have a0:∀a b c:Int,(strOfNums [a,b,c]).size=3:=fun _ _ _=>strOfNums_size _
 unfold maxLen at hs;go_enter Tryz.func39,Tryz.ntmps39;go_wp2_with fail;refine(H1.out _).mono ?_;rintro e w' ⟨rfl,rfl⟩;go_wp2_with fail;go_ret;exact⟨by rw[Y.out];rfl,(Below.refl _ _).alloc (aY _) _⟩
def okS(s:ByteArray):Bool:=decide (3≤s.size)&&((kE (s.extract 0 (s.size-3))).toList==s.toList)
def bQ(s:ByteArray):ByteArray:=if okS s then s.extract 0 (s.size-3) else⟨#[]⟩
def qB(s:ByteArray)(w:World)(e:Ending)(w':World):Prop:=e=.returned (.tuple #[.string (bQ s),.bool (okS s)])∧Below w.heap.size w w'
theorem aBE(s:ByteArray)(h:¬3≤s.size):okS s=false:=by unfold okS;rw[aB h];rfl
theorem uA(s:ByteArray)(h:3≤s.size)(b:Bool)(hb:((kE (s.extract 0 (s.size-3))).toList==s.toList)=b):okS s=b:=by unfold okS;rw[aC h,hb];rfl
theorem oU(s:ByteArray)(w w':World)(h:okS s=false)(hb:Below w.heap.size w w'):qB s w (.returned (.tuple #[.string ⟨#[]⟩,.bool false])) w':=by
 refine⟨?_,hb⟩;unfold bQ;rw[h];rfl
theorem wX(s:ByteArray)(w w':World)(h:okS s=true)(hb:Below w.heap.size w w'):qB s w (.returned (.tuple #[.string (s.extract 0 (s.size-3)),.bool true])) w':=by
 refine⟨?_,hb⟩;unfold bQ;rw[h];rfl
theorem aIv(s:ByteArray)(w:World)(hs:s.size+3≤maxLen) :
 Calls Tryz.prog 42 #[.string s] w (qB s w):=by
 have H1:=hid (fun b h w=>aDn b w h);unfold tK at H1;unfold maxLen at hs;by_cases Y:3≤s.size
 ·rcases hc:((kE (s.extract 0 (s.size-3))).toList==s.toList)with _ | _
  ·have J:=hid (uA s Y _ hc)
   go_enter Tryz.func42,Tryz.ntmps42;go_wp2_with fail;refine(H1.out _ (by unfold maxLen;simp;omega) _).mono ?_;rintro e w' ⟨rfl,hb⟩;go_wp2_with fail;go_ret2;exact oU s w w' J.out hb
  ·have J:=hid (uA s Y _ hc)
   go_enter Tryz.func42,Tryz.ntmps42;go_wp2_with fail;refine(H1.out _ (by unfold maxLen;simp;omega) _).mono ?_;rintro e w' ⟨rfl,hb⟩;go_wp2_with fail;go_ret2;exact wX s w w' J.out hb
 ·have J:=hid (aBE s Y)
  go_enter Tryz.func42,Tryz.ntmps42;go_wp2_with fail;go_ret2;exact oU s w _ J.out (Below.refl _ _)
theorem aGa(s:ByteArray)(w:World)(hs:s.size+3≤maxLen) :
 Calls Tryz.prog 46 #[.string s] w (qB s w):=by
 have H1:=hid (fun b h w=>aFS b w h);unfold tK at H1;unfold maxLen at hs;by_cases Y:3≤s.size
 ·rcases hc:((kE (s.extract 0 (s.size-3))).toList==s.toList)with _ | _
  ·have J:=hid (uA s Y _ hc)
   go_enter Tryz.func46,Tryz.ntmps46;go_wp2_with fail;refine(H1.out _ (by unfold maxLen;simp;omega) _).mono ?_;rintro e w' ⟨rfl,hb⟩;go_wp2_with fail;go_ret2;exact oU s w w' J.out hb
  ·have J:=hid (uA s Y _ hc)
   go_enter Tryz.func46,Tryz.ntmps46;go_wp2_with fail;refine(H1.out _ (by unfold maxLen;simp;omega) _).mono ?_;rintro e w' ⟨rfl,hb⟩;go_wp2_with fail;go_ret2;exact wX s w w' J.out hb
 ·have J:=hid (aBE s Y)
  go_enter Tryz.func46,Tryz.ntmps46;go_wp2_with fail;go_ret2;exact oU s w _ J.out (Below.refl _ _)
theorem aDv(a b:ByteArray):(a++b).data.toList=a.data.toList++b.data.toList:=by simp
theorem aGn(t:ByteArray)(k:Nat):(t.extract 0 k).data.toList=t.data.toList.take k:=by simp[ByteArray.data_extract]
theorem qQ(s:ByteArray):(kE s).size=s.size+3:=by
 unfold kE aFb;rw[ByteArray.size_append,strOfNums_size];rfl
theorem aEJ(a b:ByteArray):(a++b).extract 0 a.size=a:=by
 apply ByteArray.ext
 apply Array.ext'
 rw[aGn,aDv,←cZ a,List.take_left]
theorem aE2(s:ByteArray):okS (kE s)=true:=by
 have J:=qQ s;have e:(kE s).extract 0 ((kE s).size-3)=s:=by
  rw[J,Nat.add_sub_cancel];exact aEJ s _
 rw[uA _ (by omega) _ rfl,e,beq_iff_eq]
end cr
end Go.Proofs.YtdmmkjijgoiecaaGreatDoor
