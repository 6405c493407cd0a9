import Derived.Test.YtdmmkjijgoiecaaGreatDoorB01
import Derived.BigQuiet
import Derived.Lib.Hide
import Derived.ProofKit
import Derived.Test.YtdmmkjijgoiecaaGreatDoorRows
import Derived.WalkSpells
set_option linter.all false
set_option maxHeartbeats 4000000
namespace Go.Proofs.YtdmmkjijgoiecaaGreatDoor
open Lib(hid)
set_option maxHeartbeats 400000
namespace cr
open RowKit
def jA(v:Nat):Nat:=if 2 * v<16777216 then 2 * v else(2 * v) ^^^ 25578747
def fZ:Nat→Nat→Nat
 | 0,v=>v
 | k+1,v=>jA (fZ k v)
def qX(v:Nat)(b:Nat):Nat:=fZ 8 (v ^^^ b * 65536)
def dH:Nat→List UInt8→Nat
 | v,[]=>v
 | v,c :: r=>dH (qX v c.toNat) r
def lZ(l:List UInt8):Nat:=dH 11994318 l
theorem sW(a b:Nat)(ha:a<16777216)(hb:b<16777216):a ^^^ b<16777216:=Nat.xor_lt_two_pow (n:=24) ha hb
theorem aLr(a:Nat)(h1:16777216≤a)(h2:a<33554432):a ^^^ 25578747<16777216:=by
 refine Nat.lt_pow_two_of_testBit (n:=24) _ fun i hi=>?_
 rw[Nat.testBit_xor]
 by_cases h:i=24
 ·subst h
  rw[Nat.testBit_eq_decide_div_mod_eq,Nat.testBit_eq_decide_div_mod_eq];have:a / 2 ^ 24=1:=by omega
  rw[this]
  decide
 ·have J:25≤i:=by omega
  have Y:2 ^ 25≤2 ^ i:=Nat.pow_le_pow_right (by omega) J
  rw[Nat.testBit_lt_two_pow (by omega),Nat.testBit_lt_two_pow (by omega)]
  rfl
theorem pY(v:Nat)(hv:v<16777216):jA v<16777216:=by
 unfold jA;split
 ·assumption
 ·exact aLr _ (by omega) (by omega)
theorem aK5(k v:Nat)(hv:v<16777216):fZ k v<16777216:=by
 induction k with
 | zero=>exact hv
 | succ k ih=>exact pY _ ih
theorem aBL(v b:Nat)(hv:v<16777216)(hb:b<256):qX v b<16777216:=aK5 _ _ (sW _ _ hv (by omega))
theorem yD(v:Nat)(l:List UInt8)(hv:v<16777216):dH v l<16777216:=by
 induction l generalizing v with
 | nil=>exact hv
 | cons c r ih=>
  have h:=aBL v c.toNat hv (by have:=c.toNat_lt;omega)
  rw[dH];exact ih _ h
theorem aAV(l:List UInt8):lZ l<16777216:=by
 unfold lZ;exact yD 11994318 l (by omega)
theorem pQ(v:Nat)(l r:List UInt8):dH v (l++r)=dH (dH v l) r:=by
 induction l generalizing v with
 | nil=>rw[aX,dH]
 | cons c l ih=>rw[aW,dH,dH,ih]
theorem aG3(n:Nat)(J:n<16777216):bits .and .u32 ((n:Int) * 2) 16777216=if 2 * n<16777216 then 0 else 16777216:=by
 have e:=u32_and_nat (n * 2) 16777216 (by omega) (by omega)
 rw[show((n:Int) * 2)=((n * 2:Nat):Int) by omega]
 rw[show(16777216:Int)=((16777216:Nat):Int) from rfl,e,show(16777216:Nat)=2 ^ 24 from rfl,nat_bit 24];split
 ·have:n * 2 / 2 ^ 24=0:=by omega
  rw[this];try rfl
 ·have:n * 2 / 2 ^ 24=1:=by omega
  rw[this];try rfl
theorem aD4(n:Nat)(J:n<16777216)(h:¬2 * n<16777216):bits .xor .u32 ((n:Int) * 2) 25578747=(jA n:Nat):=by
 have e:=u32_xor_nat (n * 2) 25578747 (by omega) (by omega)
 rw[show((n:Int) * 2)=((n * 2:Nat):Int) by omega]
 rw[show(25578747:Int)=((25578747:Nat):Int) from rfl,e];unfold jA;rw[if_neg h,Nat.mul_comm]
theorem aK0(v b:Nat)(hv:v<16777216)(hb:b<256):bits .xor .u32 (v:Int) ((b:Int) * 65536)=(v ^^^ b * 65536:Nat):=by
 have e:=u32_xor_nat v (b * 65536) (by omega) (by omega)
 rw[show((b:Int) * 65536)=((b * 65536:Nat):Int) by omega,e]
theorem aJK(v b:Nat)(w:World)(hv:v<16777216)(hb:b<256) :
 Calls Tryz.prog 191 #[.int .u32 v,.int .u8 b] w fun e w'=>e=.returned (.int .u32 (qX v b:Nat))∧w=w':=by
 have hx:=aK0 v b hv hb;have a0:=sW v (b * 65536) hv (by omega)
 have Hw:Hid (qX v b=fZ 8 (v ^^^ b * 65536)):=hid rfl;generalize v ^^^ b * 65536=x at *;generalize qX v b=y at *;go_enter Tryz.func191,Tryz.ntmps191;go_wp2_with fail;clear hx
 go_loop [0,10] (fun s i=>∃(k n:Nat),k≤8∧n<16777216∧i=.int .i64 k∧s=.int .u32 n∧Hid (n=fZ k x)) (fun _ i=>8-(intOf i).toNat)
 case atStart=>exact⟨0,x,by omega,a0,rfl,rfl,hid rfl⟩
 case round=>
  obtain⟨k,n,hk,J,rfl,rfl,hi⟩:=hrel
  by_cases a1:k<8
  ·by_cases Y:2 * n<16777216
   ·have h1:(bits .and .u32 ((n:Int) * 2) 16777216 != 0)=false:=by rw[aG3 n J,if_pos Y];rfl
    go_wp2_with fail
    go_round
    case rel=>exact⟨k+1,jA n,by omega,pY n J,by go_num,by unfold jA;rw[if_pos Y];go_num,hid (by rw[hi.out];rfl)⟩
    case measure=>simp[intOf];omega
   ·have h1:(bits .and .u32 ((n:Int) * 2) 16777216 != 0)=true:=by rw[aG3 n J,if_neg Y];rfl
    have h2:=aD4 n J Y;have h3:=pY n J;have H4:Hid (jA n=jA (fZ k x)):=hid (by rw[hi.out])
    generalize jA n=m at *;go_wp2_with fail
    go_round
    case rel=>exact⟨k+1,m,by omega,h3,by go_num,rfl,hid H4.out⟩
    case measure=>simp[intOf];omega
  ·obtain rfl:k=8:=by omega
   go_wp2_with fail;go_ret;exact⟨by rw[Hw.out,←hi.out];rfl,rfl⟩
open RowKit
theorem cB(s:ByteArray):s.data.toList.length=s.size:=by rw[Array.length_toList];rfl
theorem aIW(s:ByteArray)(k:Nat)(J:k<s.size):lZ (s.data.toList.take (k+1))=qX (lZ (s.data.toList.take k)) s[k].toNat:=by
 have hl:=cB s;rw[bC (by omega)]
 unfold lZ;rw[pQ,dH,dH];rfl
theorem aLN(s:ByteArray)(k:Nat)(J:¬k<s.size):lZ (s.data.toList.take k)=lZ s.data.toList:=by
 have hl:=cB s;rw[bE (by omega)]
theorem aMA(s:ByteArray)(w:World)(hs:s.size≤maxLen) :
 Calls Tryz.prog 89 #[.string s] w fun e w'=>e=.returned (.int .u32 (lZ s.data.toList:Nat))∧w=w':=by
 unfold maxLen at hs;have Hs:Hid (lZ (s.data.toList.take 0)=11994318):=hid rfl;have J:=hid (aIW s);have Y:=hid (aLN s);have a0:=hid (fun k=>aAV (s.data.toList.take k))
 generalize hf:(fun k=>lZ (s.data.toList.take k))=f
 replace Hs:Hid (f 0=11994318):=by subst hf;exact Hs
 replace J:Hid (∀k (h:k<s.size),f (k+1)=qX (f k) s[k].toNat):=by subst hf;exact J
 replace Y:Hid (∀k,¬k<s.size→f k=lZ s.data.toList):=by subst hf;exact Y
 replace a0:Hid (∀k,f k<16777216):=by subst hf;exact a0
 clear hf;go_enter Tryz.func89,Tryz.ntmps89;go_wp2_with fail
 go_loop [3,4,5] (fun v i _=>∃(k n:Nat),k≤s.size∧i=.int .i64 k∧v=.int .u32 n∧Hid (n=f k)) (fun _ i _=>s.size-(intOf i).toNat)
 case atStart=>exact⟨0,11994318,by omega,rfl,rfl,hid Hs.out.symm⟩
 case round=>
  obtain⟨k,n,hk,rfl,rfl,hn⟩:=hrel;have a1:n<16777216:=by rw[hn.out];exact a0.out k
  by_cases a4:k<s.size
  ·have a2:s[k].toNat<256:=by have:=s[k].toNat_lt;omega
   have hx:=aK0 n s[k].toNat a1 a2;have a5:=sW n (s[k].toNat * 65536) a1 (by omega)
   have Hw:Hid (qX n s[k].toNat=fZ 8 (n ^^^ s[k].toNat * 65536)):=hid rfl;generalize n ^^^ s[k].toNat * 65536=x at *;go_wp2_with fail;clear hx
   go_loop [3,5] (fun v i=>∃(j m:Nat),j≤8∧m<16777216∧i=.int .i64 j∧v=.int .u32 m∧Hid (m=fZ j x)) (fun _ i=>8-(intOf i).toNat)
   case atStart=>exact⟨0,x,by omega,a5,rfl,rfl,hid rfl⟩
   case round=>
    obtain⟨j,m,hj,hm,rfl,rfl,hi⟩:=hrel
    by_cases a6:j<8
    ·clear hn a1 a2 Hw hs
     by_cases ht:2 * m<16777216
     ·have h0:(m:Int) * 2 / 16777216=0:=by omega
      go_wp2_with fail
      go_round
      case rel=>exact⟨j+1,jA m,by omega,pY m hm,by go_num,by unfold jA;rw[if_pos ht];go_num,hid (by rw[hi.out];rfl)⟩
      case measure=>simp[intOf];omega
     ·have h0:(m:Int) * 2 / 16777216=1:=by omega
      have h2:=aD4 m hm ht;have h3:=pY m hm;have H4:Hid (jA m=jA (fZ j x)):=hid (by rw[hi.out])
      generalize jA m=q at *;go_wp2_with fail
      go_round
      case rel=>exact⟨j+1,q,by omega,h3,by go_num,rfl,hid H4.out⟩
      case measure=>simp[intOf];omega
    ·obtain rfl:j=8:=by omega
     go_wp2_with fail
     go_round
     case rel=>exact⟨k+1,m,by omega,by go_num,rfl,hid (by rw[J.out k a4,←hn.out,Hw.out,hi.out])⟩
     case measure=>simp[intOf];omega
  ·have a3:=hid (Y.out k a4)
   go_wp2_with fail;go_ret;exact⟨by rw[←a3.out,←hn.out];rfl,rfl⟩
open RowKit
theorem aCV(t:Nat)(J:t<16777216):bits .xor .u32 (t:Int) 11994318=(t ^^^ 11994318:Nat):=by
 have e:=u32_xor_nat t 11994318 (by omega) (by omega)
 rw[show(11994318:Int)=((11994318:Nat):Int) from rfl,e]
theorem aCC(a:Addr)(t:Nat)(w:World)(J:t<16777216)(hc:w.cell? a=some (.int .u32 t)) :
 Calls Tryz.prog 148 #[.pointer (some a)] w fun e w'=>e=.returned (.int .u32 (t ^^^ 11994318:Nat))∧w=w':=by
 have Y:=aCV t J;generalize t ^^^ 11994318=x at *;go_enter Tryz.func148,Tryz.ntmps148;go_wp2_with fail;go_ret;exact⟨rfl,rfl⟩
theorem aHE(v:Nat)(s:ByteArray)(k:Nat)(J:k<s.size):dH v (s.data.toList.take (k+1))=qX (dH v (s.data.toList.take k)) s[k].toNat:=by
 have hl:=cB s;rw[bC (by omega),pQ,dH,dH]
 rfl
theorem aKb(v:Nat)(s:ByteArray)(k:Nat)(J:¬k<s.size):dH v (s.data.toList.take k)=dH v s.data.toList:=by
 have hl:=cB s;rw[bE (by omega)]
theorem aHp(a:Addr)(t:Nat)(s:ByteArray)(w:World)(hs:s.size≤maxLen)(ht:t<16777216)(hc:w.cell? a=some (.int .u32 t))(hf:w.frozen? a=false) :
 Calls Tryz.prog 147 #[.pointer (some a),.string s] w fun e w'=>e=.returned (.tuple #[])∧w'=w.setCell a (.int .u32 (dH (t ^^^ 11994318) s.data.toList ^^^ 11994318:Nat)):=by
 unfold maxLen at hs;have Hv:=hid (aCC a t w ht hc);have hv:t ^^^ 11994318<16777216:=sW _ _ ht (by omega)
 generalize t ^^^ 11994318=v at *;have Hs:Hid (dH v (s.data.toList.take 0)=v):=hid (by rw[List.take_zero,dH])
 have J:=hid (aHE v s);have a0:=hid (aKb v s);have a4:=hid (fun k=>yD v (s.data.toList.take k) hv)
 generalize Y:(fun k=>dH v (s.data.toList.take k))=f
 replace Hs:Hid (f 0=v):=by subst Y;exact Hs
 replace J:Hid (∀k (h:k<s.size),f (k+1)=qX (f k) s[k].toNat):=by subst Y;exact J
 replace a0:Hid (∀k,¬k<s.size→f k=dH v s.data.toList):=by subst Y;exact a0
 replace a4:Hid (∀k,f k<16777216):=by subst Y;exact a4
 clear Y;generalize dH v s.data.toList=z at *;go_enter Tryz.func147,Tryz.ntmps147;go_wp2_with fail;refine Hv.out.mono ?_;rintro e w' ⟨rfl,rfl⟩;go_wp2_with fail
 go_loop [4,5,12] (fun v _ i=>∃(k n:Nat),k≤s.size∧i=.int .i64 k∧v=.int .u32 n∧n<16777216∧Hid (n=f k)) (fun _ _ i=>s.size-(intOf i).toNat)
 case atStart=>exact⟨0,v,by omega,rfl,rfl,hv,hid Hs.out.symm⟩
 case round=>
  obtain⟨k,n,hk,rfl,rfl,a1,hn⟩:=hrel
  by_cases a3:k<s.size
  ·have a5:s[k].toNat<256:=by have:=s[k].toNat_lt;omega
   have Hw:=hid (fun w=>aJK n s[k].toNat w a1 a5)
   go_wp2_with fail;refine(Hw.out _).mono ?_;rintro e w' ⟨rfl,rfl⟩;go_wp2_with fail
   go_round
   case rel=>exact⟨k+1,qX n s[k].toNat,by omega,by go_num,rfl,aBL _ _ a1 a5,hid (by rw[J.out k a3,←hn.out])⟩
   case measure=>simp[intOf];omega
  ·have a2:n=z:=by rw[hn.out,a0.out k a3]
   subst a2;have hx:=aCV n a1;go_wp2_with fail
   go_end0
   exact⟨rfl,rfl⟩
open RowKit
def aGP(n:Nat)(w:World)(e:Ending)(w':World):Prop:=e=.returned (.int .u32 (n:Int))∧Below w.heap.size w w'
theorem aNv(s:ByteArray)(w:World)(hs:s.size≤maxLen) :
 Calls Tryz.prog 87 #[.string s] w (aGP (lZ s.data.toList) w):=by
 have hm:=yD 11994318 s.data.toList (by omega)
 have Hw:=hid (fun a w hc hf=>aHp a 0 s w hs (by omega) hc hf)
 have He:Hid (dH (0 ^^^ 11994318) s.data.toList=lZ s.data.toList):=hid (by rw[Nat.zero_xor];rfl)
 have hx:(dH (0 ^^^ 11994318) s.data.toList) ^^^ 11994318<16777216:=by rw[Nat.zero_xor];exact sW _ _ hm (by omega)
 have J:(dH (0 ^^^ 11994318) s.data.toList) ^^^ 11994318 ^^^ 11994318=lZ s.data.toList:=by rw[He.out,Nat.xor_assoc,Nat.xor_self,Nat.xor_zero]
 have Y:=hid J;clear J He hm;generalize lZ s.data.toList=z at *;generalize dH (0 ^^^ 11994318) s.data.toList ^^^ 11994318=y at *;go_enter Tryz.func87,Tryz.ntmps87;go_wp2_with fail;refine(Hw.out _ _ (by simp) (by simp)).mono ?_
 rintro e w' ⟨rfl,rfl⟩;go_wp2_with fail;refine(aCC _ y _ hx (by simp)).mono ?_
 rintro e w' ⟨rfl,rfl⟩;rw[Y.out];go_wp2_with fail;go_ret;exact⟨rfl,(Below.refl _ _).alloc (aY _) _⟩
theorem aMW(a b c:Int)(W:World):(convert 44 9 (.slice (some ⟨W.heap.size,0,none⟩) 3 3)).run Tryz.prog (W.alloc (.cells #[.int .u8 a,.int .u8 b,.int .u8 c] 5))=.ok (.string (strOfNums [a,b,c])) (W.alloc (.cells #[.int .u8 a,.int .u8 b,.int .u8 c] 5)):=by
 refine run_convert_bytes_arg _ _ 5 Tryz.underlying44 Tryz.underlying5 _ 0 3 3 [a,b,c] rfl ?_ _ Tryz.underlying9;intro i hi
 rcases(by omega:i=0∨i=1∨i=2)with rfl | rfl | rfl <;> simp
def aA5(z:Nat):ByteArray:=strOfNums [(z:Int) / 65536,(z:Int) / 256 % 256,(z:Int) % 256]
def iR(s:ByteArray):ByteArray:=s++aA5 (lZ s.data.toList)
def tV(s:ByteArray)(w:World)(e:Ending)(w':World):Prop:=e=.returned (.string (iR s))∧Below w.heap.size w w'
theorem aDS(s:ByteArray)(w:World)(hs:s.size+3≤maxLen) :
 Calls Tryz.prog 36 #[.string s] w (tV s w):=by
 have Y:=hid (fun w=>aNv s w (by omega))
 have hm:=aAV s.data.toList;have He:Hid (iR s=s++aA5 (lZ s.data.toList)):=hid rfl;generalize lZ s.data.toList=z at *;unfold aGP at Y;have J:=aMW;have a0:∀a b c:Int,(strOfNums [a,b,c]).size=3:=fun _ _ _=>strOfNums_size _
 unfold maxLen at hs;go_enter Tryz.func36,Tryz.ntmps36;go_wp2_with fail;refine(Y.out _).mono ?_;rintro e w' ⟨rfl,hb⟩;go_wp2_with fail;go_ret;exact⟨by rw[He.out];rfl,hb.alloc hb.size _⟩
theorem aCm(s:ByteArray)(w:World)(hs:s.size+3≤maxLen) :
 Calls Tryz.prog 39 #[.string s] w (tV s w):=by
 have H1:=hid (fun w=>aMA s w (by omega))
 have hm:=aAV s.data.toList;have Y:Hid (iR s=s++aA5 (lZ s.data.toList)):=hid rfl;generalize lZ s.data.toList=z at *;have J:=aMW;have a0:∀a b c:Int,(strOfNums [a,b,c]).size=3:=fun _ _ _=>strOfNums_size _
 unfold maxLen at hs;go_enter Tryz.func39,Tryz.ntmps39;go_wp2_with fail;refine(H1.out _).mono ?_;rintro e w' ⟨rfl,rfl⟩;go_wp2_with fail;go_ret;exact⟨by rw[Y.out];rfl,(Below.refl _ _).alloc (aY _) _⟩
open RowKit
def xS(s:ByteArray):Bool:=decide (3≤s.size)&&((iR (s.extract 0 (s.size-3))).toList==s.toList)
def bR(s:ByteArray):ByteArray:=if xS s then s.extract 0 (s.size-3) else⟨#[]⟩
def sZ(s:ByteArray)(w:World)(e:Ending)(w':World):Prop:=e=.returned (.tuple #[.string (bR s),.bool (xS s)])∧Below w.heap.size w w'
theorem aCy(s:ByteArray)(h:¬3≤s.size):xS s=false:=by unfold xS;rw[aB h];rfl
theorem sM(s:ByteArray)(h:3≤s.size)(b:Bool)(hb:((iR (s.extract 0 (s.size-3))).toList==s.toList)=b):xS s=b:=by unfold xS;rw[aC h,hb];rfl
theorem rG(s:ByteArray)(w w':World)(h:xS s=false)(hb:Below w.heap.size w w'):sZ s w (.returned (.tuple #[.string ⟨#[]⟩,.bool false])) w':=by
 refine⟨?_,hb⟩;unfold bR;rw[h];rfl
theorem zQ(s:ByteArray)(w w':World)(h:xS s=true)(hb:Below w.heap.size w w'):sZ s w (.returned (.tuple #[.string (s.extract 0 (s.size-3)),.bool true])) w':=by
 refine⟨?_,hb⟩;unfold bR;rw[h];rfl
theorem aI4(s:ByteArray)(w:World)(hs:s.size+3≤maxLen) :
 Calls Tryz.prog 42 #[.string s] w (sZ s w):=by
 have H1:=hid (fun b h w=>aDS b w h)
 unfold tV at H1;unfold maxLen at hs
 by_cases Y:3≤s.size
 ·rcases hc:((iR (s.extract 0 (s.size-3))).toList==s.toList)with _ | _
  ·have J:=hid (sM s Y _ hc)
   go_enter Tryz.func42,Tryz.ntmps42;go_wp2_with fail;refine(H1.out _ (by unfold maxLen;simp;omega) _).mono ?_
   rintro e w' ⟨rfl,hb⟩;go_wp2_with fail
   go_ret2
   exact rG s w w' J.out hb
  ·have J:=hid (sM s Y _ hc)
   go_enter Tryz.func42,Tryz.ntmps42;go_wp2_with fail;refine(H1.out _ (by unfold maxLen;simp;omega) _).mono ?_
   rintro e w' ⟨rfl,hb⟩;go_wp2_with fail
   go_ret2
   exact zQ s w w' J.out hb
 ·have J:=hid (aCy s Y)
  go_enter Tryz.func42,Tryz.ntmps42;go_wp2_with fail
  go_ret2
  exact rG s w _ J.out (Below.refl _ _)
theorem aIM(s:ByteArray)(w:World)(hs:s.size+3≤maxLen) :
 Calls Tryz.prog 46 #[.string s] w (sZ s w):=by
 have H1:=hid (fun b h w=>aCm b w h)
 unfold tV at H1;unfold maxLen at hs
 by_cases Y:3≤s.size
 ·rcases hc:((iR (s.extract 0 (s.size-3))).toList==s.toList)with _ | _
  ·have J:=hid (sM s Y _ hc)
   go_enter Tryz.func46,Tryz.ntmps46;go_wp2_with fail;refine(H1.out _ (by unfold maxLen;simp;omega) _).mono ?_
   rintro e w' ⟨rfl,hb⟩;go_wp2_with fail
   go_ret2
   exact rG s w w' J.out hb
  ·have J:=hid (sM s Y _ hc)
   go_enter Tryz.func46,Tryz.ntmps46;go_wp2_with fail;refine(H1.out _ (by unfold maxLen;simp;omega) _).mono ?_
   rintro e w' ⟨rfl,hb⟩;go_wp2_with fail
   go_ret2
   exact zQ s w w' J.out hb
 ·have J:=hid (aCy s Y)
  go_enter Tryz.func46,Tryz.ntmps46;go_wp2_with fail
  go_ret2
  exact rG s w _ J.out (Below.refl _ _)
open RowKit
theorem aLo(a b:Nat):2 * (a ^^^ b)=(2 * a) ^^^ (2 * b):=by
 have h:=Nat.shiftLeft_xor_distrib (a:=a) (b:=b) (i:=1);rw[Nat.shiftLeft_eq,Nat.shiftLeft_eq,Nat.shiftLeft_eq]at h;rw[Nat.mul_comm 2,Nat.mul_comm 2,Nat.mul_comm 2];exact h
theorem aOT(a b c d:Nat):(a ^^^ b) ^^^ (c ^^^ d)=(a ^^^ c) ^^^ (b ^^^ d):=by
 rw[Nat.xor_assoc,←Nat.xor_assoc b c d,Nat.xor_comm b c,Nat.xor_assoc c b d,←Nat.xor_assoc a c]
theorem aJ2(p q:Bool)(c:Nat):(if xor p q then c else 0)=(if p then c else 0) ^^^ (if q then c else 0):=by
 cases p <;> cases q <;> simp
theorem aAb(v:Nat)(hv:v<16777216):jA v=(2 * v) ^^^ (if v.testBit 23 then 25578747 else 0):=by
 have J:v.testBit 23=decide (8388608≤v):=by
  rw[Nat.testBit_eq_decide_div_mod_eq]
  by_cases h:8388608≤v
  ·have:v / 2 ^ 23=1:=by omega
   rw[this];simp[h]
  ·have:v / 2 ^ 23=0:=by omega
   rw[this];simp[h]
 unfold jA;rw[J]
 by_cases h:8388608≤v
 ·rw[if_neg (by omega),if_pos (by simpa using h)]
 ·rw[if_pos (by omega),if_neg (by simpa using h),Nat.xor_zero]
theorem aCx(a b:Nat)(ha:a<16777216)(hb:b<16777216):jA (a ^^^ b)=jA a ^^^ jA b:=by
 have J:a ^^^ b<16777216:=Nat.xor_lt_two_pow (n:=24) ha hb;rw[aAb _ ha,aAb _ hb,aAb _ J,aLo,Nat.testBit_xor,aJ2,aOT]
theorem wU(k a b:Nat)(ha:a<16777216)(hb:b<16777216):fZ k (a ^^^ b)=fZ k a ^^^ fZ k b:=by
 have lt:∀k v,v<16777216→fZ k v<16777216:=by
  intro k v hv
  induction k with
  | zero=>exact hv
  | succ k ih=>exact pY _ ih
 induction k with
 | zero=>rfl
 | succ k ih=>rw[fZ,fZ,fZ,ih,aCx _ _ (lt k a ha) (lt k b hb)]
theorem aGh(v:Nat)(h:jA v=0):v=0:=by
 unfold jA at h
 by_cases Y:2 * v<16777216
 ·rw[if_pos Y]at h;omega
 ·rw[if_neg Y]at h
  have J:=congrArg (fun x=>Nat.testBit x 0) h
  simp only[Nat.testBit_xor,Nat.zero_testBit]at J;rw[Nat.testBit_eq_decide_div_mod_eq,Nat.testBit_eq_decide_div_mod_eq]at J;have e:2 * v / 2 ^ 0 % 2=0:=by omega
  rw[e]at J;exact absurd J (by decide)
theorem uT(k v:Nat)(h:fZ k v=0):v=0:=by
 induction k with
 | zero=>exact h
 | succ k ih=>exact ih (aGh _ h)
def aJY(v:Nat)(b:Bool):Nat:=jA (v ^^^ (if b then 8388608 else 0))
def fK(v:Nat)(f:Nat→Bool):Nat→Nat
 | 0=>v
 | n+1=>aJY (fK v f n) (f n)
theorem aDh(b:Bool):(if b then 8388608 else 0)<16777216:=by cases b <;> decide
theorem aLY(v:Nat)(b:Bool)(hv:v<16777216):aJY v b<16777216:=pY _ (Nat.xor_lt_two_pow (n:=24) hv (aDh b))
theorem aEy(v:Nat)(f:Nat→Bool)(n:Nat)(hv:v<16777216):fK v f n<16777216:=by
 induction n with
 | zero=>exact hv
 | succ n ih=>exact aLY _ _ ih
theorem aCS(a b:Nat)(f g:Nat→Bool)(n:Nat)(ha:a<16777216)(hb:b<16777216):fK (a ^^^ b) (fun i=>xor (f i) (g i)) n=fK a f n ^^^ fK b g n:=by
 induction n with
 | zero=>rfl
 | succ n ih=>
  have Y:=aEy a f n ha;have J:=aEy b g n hb;simp only[fK];rw[ih];unfold aJY;have e:(fK a f n ^^^ fK b g n) ^^^ (if xor (f n) (g n) then 8388608 else 0)=(fK a f n ^^^ (if f n then 8388608 else 0)) ^^^ (fK b g n ^^^ (if g n then 8388608 else 0)):=by
   rw[aJ2,aOT]
  rw[e,aCx _ _ (Nat.xor_lt_two_pow (n:=24) Y (aDh _)) (Nat.xor_lt_two_pow (n:=24) J (aDh _))]
theorem uH(v:Nat)(f:Nat→Bool)(n:Nat)(h:∀i,i<n→f i=false):fK v f n=fZ n v:=by
 induction n with
 | zero=>rfl
 | succ n ih=>
  rw[fK,fZ,ih fun i hi=>h i (by omega),h n (by omega)]
  unfold aJY;simp
theorem nA(n:Nat):fZ n 0=0:=by
 induction n with
 | zero=>rfl
 | succ n ih=>rw[fZ,ih];decide
theorem aKG(j k:Nat)(h:j+k≤23):fZ j (2 ^ k)=2 ^ (j+k):=by
 induction j with
 | zero=>simp[fZ]
 | succ j ih=>
  rw[fZ,ih (by omega)]
  unfold jA;have J:2 ^ (j+k)≤2 ^ 22:=Nat.pow_le_pow_right (by omega) (by omega)
  rw[if_pos (by omega),show j+1+k=(j+k)+1 by omega,Nat.pow_succ,Nat.mul_comm]
def word(f:Nat→Bool):Nat→Nat
 | 0=>0
 | j+1=>word f j ^^^ (if f j then 2 ^ (23-j) else 0)
theorem word_lt(f:Nat→Bool)(j:Nat):word f j<16777216:=by
 induction j with
 | zero=>rw[word];omega
 | succ j ih=>
  rw[word];refine Nat.xor_lt_two_pow (n:=24) ih ?_;split
  ·exact Nat.pow_lt_pow_right (by omega) (by omega)
  ·omega
theorem aOS(b:Bool)(j:Nat):(if b then 2 ^ (23-j) else 0)<16777216:=by
 split
 ·exact Nat.pow_lt_pow_right (n:=24) (by omega) (by omega)
 ·omega
theorem yH(f:Nat→Bool)(j:Nat)(J:j≤24):fK 0 f j=fZ j (word f j):=by
 induction j with
 | zero=>rfl
 | succ j ih=>
  rw[fK,ih (by omega),word,fZ]
  unfold aJY;congr 1;rw[wU _ _ _ (word_lt f j) (aOS _ _)];congr 1;cases f j
  ·simp[nA]
  ·have:=aKG j (23-j) (by omega)
   simp only[if_true];rw[this,show j+(23-j)=23 by omega]
theorem aET(f:Nat→Bool)(j:Nat)(hj:j≤24)(i:Nat)(hi:i<j):(word f j).testBit (23-i)=f i:=by
 induction j with
 | zero=>omega
 | succ j ih=>
  rw[word,Nat.testBit_xor]
  by_cases h:i=j
  ·subst h
   have:(word f i).testBit (23-i)=false:=by
    have low:∀m,m≤i→∀q,q≤23-m→(word f m).testBit q=false:=by
     intro m J
     induction m with
     | zero=>intro q _;simp[word]
     | succ m ih2=>
      intro q Y;rw[word,Nat.testBit_xor,ih2 (by omega) q (by omega)]
      split
      ·rw[Nat.testBit_two_pow];simp;omega
      ·simp
    exact low i (aY _) _ (aY _)
   rw[this];cases f i
   ·simp
   ·simp[Nat.testBit_two_pow_self]
  ·rw[ih (by omega) (by omega)]
   split
   ·rw[Nat.testBit_two_pow]
    have:decide (23-j=23-i)=false:=by simp;omega
    rw[this];simp
   ·simp
theorem aOz(f:Nat→Bool)(a n:Nat)(h1:∀i,f i=true→a≤i∧i<a+24)(i:Nat)(hi:f i=true)(a0:i<n):fK 0 f n≠0:=by
 have J:∀(m k:Nat) (v:Nat),fK v f (m+k)=fK (fK v f m) (fun q=>f (m+q)) k:=by
  intro m k v
  induction k with
  | zero=>rfl
  | succ k ih=>rw[←Nat.add_assoc,fK,ih];rfl
 obtain⟨ha,hb⟩:=h1 i hi;have hz:fK 0 f a=0:=by
  rw[uH 0 f a fun q hq=>by
   rcases h:f q with _ | _
   ·rfl
   ·have:=h1 q h;omega]
  exact nA a
 intro hn
 by_cases hlen:n≤a+24
 ·obtain⟨j,rfl⟩:∃j,n=a+j:=⟨n-a,by omega⟩
  rw[J,hz,yH _ j (by omega)]at hn
  have:=uT _ _ hn;have Y:=aET (fun q=>f (a+q)) j (by omega) (i-a) (by omega)
  rw[this]at Y;simp only[Nat.zero_testBit]at Y;rw[show a+(i-a)=i by omega,hi]at Y
  cases Y
 ·obtain⟨j,rfl⟩:∃j,n=(a+24)+j:=⟨n-(a+24),by omega⟩
  rw[J,uH _ _ j fun q hq=>by
   rcases h:f (a+24+q)with _ | _
   ·rfl
   ·have:=h1 _ h;omega]at hn
  have h0:=uT _ _ hn;rw[J,hz,yH _ 24 (by omega)]at h0
  have:=uT _ _ h0;have Y:=aET (fun q=>f (a+q)) 24 (by omega) (i-a) (by omega)
  rw[this]at Y;simp only[Nat.zero_testBit]at Y;rw[show a+(i-a)=i by omega,hi]at Y
  cases Y
def iB(l:List UInt8)(i:Nat):Bool:=((l.getD (i / 8) 0).toNat).testBit (7-i % 8)
theorem aHR:∀b:Fin 256,word (fun i=>b.val.testBit (7-i)) 8=b.val * 65536:=by decide +kernel
theorem qZ(v:Nat)(f g:Nat→Bool)(n:Nat)(h:∀i,i<n→f i=g i):fK v f n=fK v g n:=by
 induction n with
 | zero=>rfl
 | succ n ih=>rw[fK,fK,ih fun i hi=>h i (by omega),h n (by omega)]
theorem aD6(v:Nat)(f:Nat→Bool)(m k:Nat):fK v f (m+k)=fK (fK v f m) (fun q=>f (m+q)) k:=by
 induction k with
 | zero=>rfl
 | succ k ih=>rw[←Nat.add_assoc,fK,ih];rfl
theorem aHM(v:Nat)(f:Nat→Bool)(n:Nat)(hv:v<16777216):fK v f n=fZ n v ^^^ fK 0 f n:=by
 have h:=aCS v 0 (fun _=>false) f n hv (by omega)
 rw[Nat.xor_zero]at h;rw[←uH v (fun _=>false) n fun _ _=>rfl,←h]
 exact qZ _ _ _ _ fun i _=>by simp
theorem aE3(v:Nat)(c:UInt8)(hv:v<16777216):qX v c.toNat=fK v (fun i=>c.toNat.testBit (7-i)) 8:=by
 have hc:=c.toNat_lt;have hb:=aHR ⟨c.toNat,by omega⟩
 simp only at hb;rw[aHM _ _ _ hv,yH _ 8 (by omega),hb]
 unfold qX;rw[wU _ _ _ hv (by omega)]
theorem xO(l:List UInt8):∀v,v<16777216→dH v l=fK v (iB l) (8 * l.length):=by
 induction l with
 | nil=>intro v _;rfl
 | cons c r ih=>
  intro v hv;rw[dH,ih _ (aBL v _ hv (by have:=c.toNat_lt;omega)),aE3 v c hv,aG,show 8 * (r.length+1)=8+8 * r.length by omega,aD6]
  have J:fK v (iB (c :: r)) 8=fK v (fun i=>c.toNat.testBit (7-i)) 8:=qZ _ _ _ _ fun i hi=>by
   unfold iB;rw[show i / 8=0 by omega,show i % 8=i by omega]
   rfl
  rw[J];exact qZ _ _ _ _ fun i _=>by
   unfold iB;rw[show(8+i) / 8=i / 8+1 by omega,show(8+i) % 8=i % 8 by omega]
   rfl
theorem up8:∀b:Fin 256,fZ 8 (b.val * 256)=b.val * 65536:=by decide +kernel
theorem aO3:∀b:Fin 256,fZ 16 b.val=b.val * 65536:=by decide +kernel
theorem aCK(j k v:Nat):fZ (j+k) v=fZ j (fZ k v):=by
 induction j with
 | zero=>rw[Nat.zero_add];rfl
 | succ j ih=>rw[show j+1+k=(j+k)+1 by omega,fZ,ih];rfl
theorem aOW{a b:Nat}(ha:a<16777216)(hb:b<16777216):a ^^^ b<16777216:=Nat.xor_lt_two_pow (n:=24) ha hb
theorem three(v:Nat)(a b c:UInt8)(hv:v<16777216):dH v [a,b,c] = fZ 24 (v ^^^ a.toNat * 65536 ^^^ b.toNat * 256 ^^^ c.toNat):=by
 have ha:=a.toNat_lt;have hb:=b.toNat_lt;have hc:=c.toNat_lt;have Y:=up8 ⟨b.toNat,by omega⟩
 have J:=aO3 ⟨c.toNat,by omega⟩
 simp only at Y J;have l1:v ^^^ a.toNat * 65536<16777216:=aOW hv (by omega)
 rw[dH,dH,dH,dH];unfold qX;rw[←Y,←wU 8 _ _ l1 (by omega),←aCK,←J,←wU 16 _ _ (aOW l1 (by omega)) (by omega),←aCK]
theorem aDW(a b k:Nat)(hb:b<2 ^ k):a * 2 ^ k ^^^ b=a * 2 ^ k+b:=by
 have J:0<2 ^ k:=Nat.pow_pos (by omega)
 have hd:(a * 2 ^ k ^^^ b) / 2 ^ k=a:=by
  rw[Nat.xor_div_two_pow,Nat.mul_div_cancel _ J,Nat.div_eq_of_lt hb,Nat.xor_zero]
 have Y:(a * 2 ^ k ^^^ b) % 2 ^ k=b:=by
  rw[Nat.xor_mod_two_pow,Nat.mul_mod_left,Nat.zero_xor,Nat.mod_eq_of_lt hb]
 have:=Nat.div_add_mod (a * 2 ^ k ^^^ b) (2 ^ k);rw[hd,Y]at this;rw[←this,Nat.mul_comm]
theorem aFf(v:Nat)(a b c:UInt8)(hv:v<16777216):dH v [a,b,c] = 0↔v=a.toNat * 65536+b.toNat * 256+c.toNat:=by
 have ha:=a.toNat_lt;have hb:=b.toNat_lt;have hc:=c.toNat_lt;have e:a.toNat * 65536 ^^^ b.toNat * 256 ^^^ c.toNat=a.toNat * 65536+b.toNat * 256+c.toNat:=by
  have Y:=aDW a.toNat (b.toNat * 256) 16 (by omega)
  have e2:=aDW (a.toNat * 256+b.toNat) c.toNat 8 (by omega)
  rw[show(2:Nat) ^ 16=65536 from rfl]at Y;rw[show(2:Nat) ^ 8=256 from rfl]at e2;rw[Y,show a.toNat * 65536+b.toNat * 256=(a.toNat * 256+b.toNat) * 256 by omega,e2]
 rw[three v a b c hv,Nat.xor_assoc v,Nat.xor_assoc v,e];have hl:a.toNat * 65536+b.toNat * 256+c.toNat<16777216:=by omega
 constructor
 ·intro h
  have:=uT _ _ h;have J:v ^^^ (a.toNat * 65536+b.toNat * 256+c.toNat) ^^^ (a.toNat * 65536+b.toNat * 256+c.toNat)=v:=by rw[Nat.xor_assoc,Nat.xor_self,Nat.xor_zero]
  rw[this,Nat.zero_xor]at J;exact J.symm
 ·intro h
  rw[←h,Nat.xor_self];exact nA 24
theorem last3(l:List UInt8)(h:3≤l.length):∃a b c,l=l.take (l.length-3)++[a,b,c]:=by
 have hd:(l.drop (l.length-3)).length=3:=by rw[List.length_drop];omega
 rcases J:l.drop (l.length-3)with _ | ⟨a,_ | ⟨b,_ | ⟨c,_ | ⟨d,r⟩⟩⟩⟩
 all_goals rw[J]at hd;simp at hd
 exact⟨a,b,c,by rw[←J,List.take_append_drop]⟩
theorem aBX(z:Nat)(a:UInt8)(h:z<256):UInt8.ofNat z=a↔z=a.toNat:=by
 rw[←UInt8.toNat_inj];have:(UInt8.ofNat z).toNat=z:=by
  show z % 256=z
  omega
 rw[this]
theorem aIo(z:Nat):(aA5 z).data.toList=[UInt8.ofNat (z / 65536),UInt8.ofNat (z / 256 % 256),UInt8.ofNat (z % 256)]:=by
 unfold aA5;rw[strOfNums_data];have Y:((z:Int) / 65536).toNat=z / 65536:=by omega
 have J:((z:Int) / 256 % 256).toNat=z / 256 % 256:=by omega
 have e3:((z:Int) % 256).toNat=z % 256:=by omega
 simp only[aV,aU,Y,J,e3]
theorem aBf(a b:ByteArray):(a++b).data.toList=a.data.toList++b.data.toList:=by simp
theorem aCB(t:ByteArray)(k:Nat):(t.extract 0 k).data.toList=t.data.toList.take k:=by simp[ByteArray.data_extract]
theorem aGQ(t:ByteArray)(h3:3≤t.size):xS t=true↔lZ t.data.toList=0:=by
 have hl:=cB t;obtain⟨a,b,c,J⟩:=last3 t.data.toList (by omega)
 have hx:(t.extract 0 (t.size-3)).data.toList=t.data.toList.take (t.data.toList.length-3):=by
  rw[hl];exact aCB t _
 rw[sM t h3 _ rfl,ByteArray.toList_eq,ByteArray.toList_eq,beq_iff_eq];have hs:(iR (t.extract 0 (t.size-3))).data.toList=t.data.toList.take (t.data.toList.length-3)++(aA5 (lZ (t.data.toList.take (t.data.toList.length-3)))).data.toList:=by
  unfold iR;rw[←hx,aBf]
 rw[hs];have hz:lZ (t.data.toList.take (t.data.toList.length-3))<16777216:=aAV _;have Y:lZ t.data.toList=dH (lZ (t.data.toList.take (t.data.toList.length-3))) [a,b,c]:=by
  conv=>lhs;rw[J]
  unfold lZ;rw[pQ]
 rw[Y,aFf _ _ _ _ hz];generalize lZ (t.data.toList.take (t.data.toList.length-3))=z at *
 conv=>lhs;rhs;rw[J]
 rw[List.append_cancel_left_eq,aIo];simp only[List.cons.injEq,and_true];rw[aBX _ _ (by omega),aBX _ _ (by omega),aBX _ _ (by omega)]
 have ha:=a.toNat_lt;have hb:=b.toNat_lt;have hc:=c.toNat_lt;omega
theorem pE(s:ByteArray):(iR s).size=s.size+3:=by
 unfold iR aA5;rw[ByteArray.size_append,strOfNums_size];rfl
theorem aHk(a b:ByteArray):(a++b).extract 0 a.size=a:=by
 apply ByteArray.ext
 apply Array.ext'
 rw[aCB,aBf,←cB a,List.take_left]
theorem aHj(s:ByteArray):xS (iR s)=true:=by
 have J:=pE s;have e:(iR s).extract 0 ((iR s).size-3)=s:=by
  rw[J,Nat.add_sub_cancel];exact aHk s _
 rw[sM _ (by omega) _ rfl,e,beq_iff_eq]
theorem aEY(t u:ByteArray)(ht:xS t=true)(h3:3≤t.size)(a0:u.size=t.size)(first bits:Nat)
 (hu:∀i,i<8 * t.size→iB u.data.toList i=xor (iB t.data.toList i) (decide (first≤i∧i<first+24)&&bits.testBit (i-first))) :
 xS u=true↔∀i,i<8 * t.size→(decide (first≤i∧i<first+24)&&bits.testBit (i-first))=false:=by
 have a1:=cB t;have Y:=cB u;have h0:=(aGQ t h3).1 ht;rw[aGQ u (by omega)]
 unfold lZ at h0 ⊢;rw[xO _ _ (by omega),a1]at h0
 rw[xO _ _ (by omega),Y,a0]
 generalize J:(fun i=>decide (first≤i∧i<first+24)&&bits.testBit (i-first))=e
 have hx:fK 11994318 (iB u.data.toList) (8 * t.size)=fK 11994318 (iB t.data.toList) (8 * t.size) ^^^ fK 0 e (8 * t.size):=by
  have:=aCS 11994318 0 (iB t.data.toList) e (8 * t.size) (by omega) (by omega)
  rw[Nat.xor_zero]at this;rw[←this];exact qZ _ _ _ _ fun i hi=>by rw[hu i hi,←J]
 rw[hx,h0,Nat.zero_xor];constructor
 ·intro hz i hi
  have a2:(decide (first≤i∧i<first+24)&&bits.testBit (i-first))=e i:=by rw[←J]
  rw[a2]
  rcases hb:e i with _ | _
  ·rfl
  ·refine absurd hz (aOz e first _ (fun q hq=>?_) i hb hi)
   rw[←J]at hq;simp only[Bool.and_eq_true,bJ]at hq;exact hq.1
 ·intro h
  rw[uH 0 e _ fun i hi=>by rw[←J];exact h i hi]
  exact nA _
open RowKit
theorem aGL(W:World)(t:ByteArray):(convert 9 44 (.string t)).run Tryz.prog W=.ok (.slice (some ⟨W.heap.size,0,none⟩) t.size (grownCap W t.size 0 5))
 (W.drew.alloc (.cells (bytesRow t (grownCap W t.size 0 5)) 5 ((bytesRow t (grownCap W t.size 0 5)).size,(bytesRow t (grownCap W t.size 0 5)).size+1))):=
 run_bytes_of_string W _ _ _ t Tryz.underlying9 Tryz.underlying44 Tryz.underlying5
theorem aBB(B k:Nat)(J:B<16777216):(bits .and .u32 ((B:Int) / 2 ^ k) 1==1)=B.testBit k:=by
 have e:(B:Int) / 2 ^ k=((B / 2 ^ k:Nat):Int):=by norm_cast
 have hl:B / 2 ^ k<4294967296:=by have:=Nat.div_le_self B (2 ^ k);omega
 rw[e,show(1:Int)=((1:Nat):Int) from rfl,u32_and_nat _ _ hl (by omega),nat_mask1,Nat.testBit_eq_decide_div_mod_eq]
 rcases(by omega:B / 2 ^ k % 2=0∨B / 2 ^ k % 2=1)with h | h <;> rw[h] <;> decide
theorem aFY(y i:Nat)(h:y<256):(UInt8.ofNat y).toNat.testBit i=y.testBit i:=by
 have:(UInt8.ofNat y).toNat=y:=by
  show y % 256=y
  omega
 rw[this]
theorem sH(l:List UInt8)(q:Nat)(x:UInt8)(h:q<l.length):(l.set q x).getD q 0=x:=by
 rw[List.getD_eq_getElem?_getD,List.getElem?_set_self h];rfl
theorem pU(l:List UInt8)(q r:Nat)(x:UInt8)(h:q≠r):(l.set q x).getD r 0=l.getD r 0:=by
 rw[List.getD_eq_getElem?_getD,List.getD_eq_getElem?_getD,List.getElem?_set_ne h]
theorem aE9(w:World)(R:Array Value)(t:TypeId)(fr:Nat×Nat)(q:Nat):((w.alloc (.cells R t fr)).drew).cell? ⟨w.heap.size,q,none⟩=R[q]?:=by
 have e:((w.alloc (.cells R t fr)).drew).heap[w.heap.size]? = some (.cells R t fr):=by
  show(w.heap.push (.cells R t fr))[w.heap.size]? = _
  simp
 unfold World.cell?;rw[e];rfl
theorem aA8(w:World)(R:Array Value)(t:TypeId)(q:Nat)(h:q<R.size):((w.alloc (.cells R t (R.size,R.size+1))).drew).frozen? ⟨w.heap.size,q,none⟩=false:=by
 have e:((w.alloc (.cells R t (R.size,R.size+1))).drew).heap[w.heap.size]? = some (.cells R t (R.size,R.size+1)):=by
  show(w.heap.push (.cells R t (R.size,R.size+1)))[w.heap.size]? = _
  simp
 unfold World.frozen?;rw[e];simp;omega
def flip(l:List UInt8)(p:Nat):List UInt8:=l.set (p / 8) (UInt8.ofNat ((l.getD (p / 8) 0).toNat ^^^ 2 ^ (7-p % 8)))
theorem aDu(x r:Nat)(J:x<256):x ^^^ 2 ^ (7-r)<256:=Nat.xor_lt_two_pow (n:=8) J (Nat.pow_lt_pow_right (by omega) (by omega))
theorem aEN(l:List UInt8)(p i:Nat)(J:p / 8<l.length):iB (flip l p) i=xor (iB l i) (decide (i=p)):=by
 unfold iB flip;have Y:=(l.getD (p / 8) 0).toNat_lt
 by_cases h:p / 8=i / 8
 ·rw[←h,sH _ _ _ J,aFY _ _ (aDu _ _ (by omega)),Nat.testBit_xor,Nat.testBit_two_pow]
  congr 1;rw[decide_eq_decide];omega
 ·rw[pU _ _ _ _ h]
  have:decide (i=p)=false:=aB (by omega)
  rw[this];simp
theorem aAu(l:List UInt8)(p:Nat):(flip l p).length=l.length:=by unfold flip;simp
theorem aMe(r:Nat)(h:r<8):(128:Int) / 2 ^ r=((2 ^ (7-r):Nat):Int):=by
 rcases(by omega:r=0∨r=1∨r=2∨r=3∨r=4∨r=5∨r=6∨r=7)with rfl | rfl | rfl | rfl | rfl | rfl | rfl | rfl <;> decide
theorem aBs(l:List UInt8)(p:Nat):bits .xor .u8 (((l[p / 8]?.getD 0).toNat:Nat):Int) (128 / 2 ^ (p % 8))=(((l.getD (p / 8) 0).toNat ^^^ 2 ^ (7-p % 8):Nat):Int):=by
 have Y:=(l.getD (p / 8) 0).toNat_lt;have J:2 ^ (7-p % 8)<256:=by have:=Nat.pow_lt_pow_right (a:=2) (m:=7-p % 8) (n:=8) (by omega) (by omega);omega
 rw[aMe _ (by omega),u8_xor_nat _ _ (by rw[←List.getD_eq_getElem?_getD];omega) J,List.getD_eq_getElem?_getD]
theorem wQ(l t:List UInt8)(f k B N:Nat)(J:∀i,i<N→iB l i=xor (iB t i) (decide (f≤i∧i<f+k)&&B.testBit (i-f)))(l':List UInt8)
 (h:∀i,i<N→iB l' i=xor (iB l i) (decide (i=f+k)&&B.testBit k)):∀i,i<N→iB l' i=xor (iB t i) (decide (f≤i∧i<f+(k+1))&&B.testBit (i-f)):=by
 intro i hi;rw[h i hi,J i hi]
 by_cases he:i=f+k
 ·subst he
  have Y:decide (f≤f+k∧f+k<f+k)=false:=aB (by omega)
  have e2:decide (f≤f+k∧f+k<f+(k+1))=true:=aC (by omega)
  rw[Y,e2,show f+k-f=k by omega]
  simp
 ·have Y:decide (i=f+k)=false:=aB he
  have e2:decide (f≤i∧i<f+k)=decide (f≤i∧i<f+(k+1)):=by rw[decide_eq_decide];omega
  rw[Y,e2];simp
theorem aA1(tb:Bool)(f k B N:Nat)(h:tb=true↔∃j,j<k∧f+j<N∧B.testBit j=true)(Y:f+k<N):((tb||B.testBit k)=true)↔∃j,j<k+1∧f+j<N∧B.testBit j=true:=by
 rw[Bool.or_eq_true,h];constructor
 ·rintro(⟨j,h1,h2,J⟩ | h1)
  ·exact⟨j,by omega,h2,J⟩
  ·exact⟨k,by omega,Y,h1⟩
 ·rintro⟨j,h1,h2,J⟩
  by_cases he:j=k
  ·subst he;exact Or.inr J
  ·exact Or.inl ⟨j,by omega,h2,J⟩
theorem at_end(t:ByteArray)(l:List UInt8)(f k B:Nat)(Y:Bool)(ht:xS t=true)(h3:3≤t.size)(hlen:l.length=t.size)
 (J:∀i,i<8 * t.size→iB l i=xor (iB t.data.toList i) (decide (f≤i∧i<f+k)&&B.testBit (i-f))) (hk:k≤24) (a0:k=24∨8 * t.size≤f+k)
 (h:Y=true↔∃j,j<k∧f+j<8 * t.size∧B.testBit j=true):xS ⟨l.toArray⟩=!Y:=by
 have hu:∀i,i<8 * t.size→iB (ByteArray.mk l.toArray).data.toList i=xor (iB t.data.toList i) (decide (f≤i∧i<f+24)&&B.testBit (i-f)):=by
  intro i hi;have e2:decide (f≤i∧i<f+24)=decide (f≤i∧i<f+k):=by rw[decide_eq_decide];omega
  rw[e2,←J i hi]
 have hs:=aEY t ⟨l.toArray⟩ ht h3 (by rw[←hlen];simp[ByteArray.size]) f B hu
 cases Y
 ·rw[Bool.not_false,hs]
  intro i hi
  rcases hc:(decide (f≤i∧i<f+24)&&B.testBit (i-f))with _ | _
  ·rfl
  ·simp only[Bool.and_eq_true,bJ]at hc
   have:=h.2 ⟨i-f,by omega,by omega,hc.2⟩
   cases this
 ·obtain⟨j,h1,h2,h4⟩:=h.1 rfl
  rw[Bool.not_true,Bool.eq_false_iff];intro hc;have:=hs.1 hc (f+j) h2;rw[show f+j-f=j by omega,h4,aC (by omega)]at this
  cases this
end cr
end Go.Proofs.YtdmmkjijgoiecaaGreatDoor
