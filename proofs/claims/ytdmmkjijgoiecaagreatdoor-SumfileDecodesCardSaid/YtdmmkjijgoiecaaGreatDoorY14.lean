import Derived.Sort.EncStr
import Derived.Sort.Walk0
import Derived.Test.YtdmmkjijgoiecaaGreatDoorY13
set_option linter.all false
set_option maxHeartbeats 4000000
namespace Go.Proofs.YtdmmkjijgoiecaaGreatDoor
open Lib(hid)
set_option maxRecDepth 100000
namespace po
open RowKit Go.Sort mem
theorem mD(a b:List UInt8):Op.bytesLess a b=decide (a<b):=by rw[bytesLess_eq]
theorem aM3(x:List UInt8)(w:World):Calls Tryz.prog 206 #[encStr x] w fun e w'=>e=.returned (.bool false)∧w'=w:=by
 have d:(x==x)=true:=by simp
 unfold encStr;go_enter Tryz.func206,Tryz.ntmps206;go_wp2_with fail;go_ret;exact⟨by simp,rfl⟩
theorem aM5(x:List UInt8)(w:World):Calls Tryz.prog 295 #[encStr x] w fun e w'=>e=.returned (.bool false)∧w'=w:=by
 have d:(x==x)=true:=by simp
 unfold encStr;go_enter Tryz.func295,Tryz.ntmps295;go_wp2_with fail;go_ret;exact⟨by simp,rfl⟩
theorem aCC(x y:List UInt8)(w:World):Calls Tryz.prog 189 #[encStr x,encStr y] w fun e w'=>e=.returned (.bool (decide (x<y)))∧w'=w:=by
 have K:=hid (fun w=>aM3 x w);obtain⟨r,hr⟩:∃r,Op.bytesLess x y=r:=⟨_,rfl⟩;rw[←mD,hr];unfold encStr at K ⊢;go_enter Tryz.func189,Tryz.ntmps189
 go_wp2_with (go_at_call 206;refine(K.out _).mono ?_;rintro e w' ⟨rfl,rfl⟩)
 go_ret;exact⟨rfl,rfl⟩
theorem kJ{w:World}{A:Option Addr}{l:List (List UInt8)}(h:Rd w A (l.map encStr))(Y:0<l.length):∃g o,A=some ⟨g,o,none⟩∧g<w.heap.size∧∀j (J:j<l.length),w.cell? ⟨g,o+j,none⟩=some (encStr l[j]):=by
 obtain⟨g,o,rfl,hl,hc⟩:=h (by simpa using Y);exact⟨g,o,rfl,hl,fun j J=>by rw[hc j (by simpa using J)];simp⟩
theorem aDG(w:World)(A:Option Addr)(cap:Nat)(m:List (List UInt8))(x:List UInt8)(h:Rd w A (m.map encStr))(hp:m.Pairwise (fun a b=>a<b))(hm:m.length≤1000000) :
 Calls Tryz.prog 294 #[.slice A m.length cap,encStr x] w fun e w'=>e=.returned (.tuple #[.int .i64 (upS m x:Nat),.bool (decide (x∈m))])∧Below w.heap.size w w':=by
 have K:=hid (fun a b w=>aCC a b w);have K2:=hid (fun a w=>aM5 a w);have Hh:=hid h;have Hs:=hid (aGX m x hp);have He:=hid (search_end m x);have Ha:Hid ((∃h:upS m x<m.length,m[upS m x] = x)↔x∈m):=hid (aMO m x hp);clear h hp;obtain⟨u,hu⟩:∃u,upS m x=u:=⟨_,rfl⟩;obtain⟨r,hr⟩:∃r,decide (x∈m)=r:=⟨_,rfl⟩;have Hu:=hid hu;have Hr:=hid hr;rw[hu,hr];clear hu hr;go_enter Tryz.func294,Tryz.ntmps294;go_wp2_with fail;go_loopw [7,8] (fun a b wr=>∃(i j:Nat),i≤j∧j≤m.length∧a=.int .i64 i∧b=.int .i64 j∧Hid (∀k (hk:k<m.length),k<i→m[k]<x)∧Hid (∀k (hk:k<m.length),j≤k→¬m[k]<x)∧Hid (Below w.heap.size w wr)) (fun a b _=>(intOf b).toNat-(intOf a).toNat)
 case atStart=>exact⟨0,m.length,by omega,by omega,rfl,rfl,hid (fun k _ h=>by omega),hid (fun k hk h=>by omega),hid (Below.refl _ _)⟩
 case round=>
  obtain⟨i,j,a6,hj,rfl,rfl,h1,h2,hb⟩:=hrel;rename_i wr _;by_cases a7:i<j
  ·have d1:decide ((i:Int)<(j:Int))=true:=aC (by omega)
   have Y:(i+j) / 2<m.length:=by omega
   obtain⟨g,off,rfl,hl,hc⟩:=kJ Hh.out (by omega);have c2:wr.cell? ⟨g,off+(i+j) / 2,none⟩=some (encStr (m[(i+j) / 2]'Y)):=(hb.out.cell (p:=⟨g,_,none⟩) hl).trans (hc _ Y);have K1:=hid (fun w'=>K.out (m[(i+j) / 2]'Y) x w');rcases hd:decide ((m[(i+j) / 2]'Y)<x)with _ | _
   ·have hn:¬(m[(i+j) / 2]'Y)<x:=of_decide_eq_false hd
    rw[hd]at K1;have a3:Hid (∀k (hk:k<m.length),(i+j) / 2≤k→¬m[k]<x):=hid (fun k hk a1 a0=>hn (Hs.out _ _ Y hk a1 a0));clear hd hn hc h2;generalize m[(i+j) / 2]'Y=y at *
    go_wp2_with (go_at_call 189;refine(K1.out _).mono ?_;rintro e w2 ⟨rfl,rfl⟩)
    go_roundw
    case rel=>exact⟨i,(i+j) / 2,by omega,by omega,rfl,by go_num,h1,a3,hb⟩
    case measure=>simp[intOf];omega
   ·have hn:(m[(i+j) / 2]'Y)<x:=of_decide_eq_true hd
    rw[hd]at K1;have a4:Hid (∀k (hk:k<m.length),k<(i+j) / 2+1→m[k]<x):=hid (fun k hk a1=>Hs.out _ _ hk Y (by omega) hn);clear hd hn hc h1;generalize m[(i+j) / 2]'Y=y at *
    go_wp2_with (go_at_call 189;refine(K1.out _).mono ?_;rintro e w2 ⟨rfl,rfl⟩)
    go_roundw
    case rel=>exact⟨(i+j) / 2+1,j,by omega,by omega,by go_num,rfl,a4,h2,hb⟩
    case measure=>simp[intOf];omega
  ·obtain rfl:i=j:=by omega
   have d1:decide ((i:Int)<(i:Int))=false:=aB (by omega);have a2:u=i:=Hu.out.symm.trans (He.out i hj h1.out h2.out);have ha:=Ha.out;simp only[Hu.out,a2]at ha;subst a2;by_cases hl:u<m.length
   ·have d2:decide ((u:Int)<(m.length:Int))=true:=aC (by omega)
    obtain⟨g,off,rfl,a5,hc⟩:=kJ Hh.out (by omega);have c2:wr.cell? ⟨g,off+u,none⟩=some (encStr (m[u]'hl)):=(hb.out.cell (p:=⟨g,_,none⟩) a5).trans (hc _ hl);have J:r=(m[u]'hl==x):=by
     rw[←Hr.out,Bool.eq_iff_iff,decide_eq_true_iff,←ha,beq_iff_eq];exact⟨fun⟨_,h⟩=>h,fun h=>⟨hl,h⟩⟩
    clear ha Hr Hu Ha He;rcases hq:(m[u]'hl==x)with _ | _
    ·rw[hq]at J
     subst J;generalize m[u]'hl=y at *
     go_wp2_with (go_at_call 295;refine(K2.out _ _).mono ?_;rintro e w2 ⟨rfl,rfl⟩)
     go_ret2;exact⟨rfl,hb.out⟩
    ·rw[hq]at J
     subst J;generalize m[u]'hl=y at *;go_wp2_with fail;go_ret2;exact⟨rfl,hb.out⟩
   ·have d2:decide ((u:Int)<(m.length:Int))=false:=aB (by omega)
    have J:r=false:=by
     rw[←Hr.out,decide_eq_false_iff_not,←ha];rintro⟨h,_⟩;exact hl h
    subst J;clear ha Hr Hu Ha He;go_wp2_with fail;go_ret2;exact⟨rfl,hb.out⟩
theorem aKV(a b:UInt8):(((a.toNat:Nat):Int)==((b.toNat:Nat):Int))=decide (a=b):=by
 rw[Bool.eq_iff_iff,beq_iff_eq,decide_eq_true_iff];constructor
 ·intro h
  exact UInt8.toNat_inj.1 (by omega)
 ·intro h;rw[h]
theorem aAK(w:World)(a b:List UInt8)(ha:a.length≤maxLen)(hb:b.length≤maxLen) :
 Calls Tryz.prog 86 #[encStr a,encStr b] w fun e w'=>e=.returned (.int .i64 (shr a b:Nat))∧Below w.heap.size w w':=by
 have H1:=hid (xB a b);have H2:=hid (vJ a b);have H3:=hid (aEo a b);have H4:=hid (aAr a b);generalize shr a b=S at *;have za:(ByteArray.mk a.toArray).size=a.length:=by simp[ByteArray.size]
 have zb:(ByteArray.mk b.toArray).size=b.length:=by simp[ByteArray.size]
 unfold maxLen at ha hb;go_enter Tryz.func86,Tryz.ntmps86;go_wp2_with fail;go_loopw [5] (fun i wr=>∃k:Nat,k≤S∧i=.int .i64 k∧Hid (Below w.heap.size w wr)) (fun i _=>S-(intOf i).toNat)
 case atStart=>exact⟨0,by omega,rfl,hid (Below.refl _ _)⟩
 case round=>
  obtain⟨k,hk,rfl,J⟩:=hrel;rename_i wr _;have h1:=H1.out;have h2:=H2.out;by_cases ka:k<a.length
  ·have d1:decide ((k:Int)<(a.length:Int))=true:=aC (by omega)
   by_cases Y:k<b.length
   ·have d2:decide ((k:Int)<(b.length:Int))=true:=aC (by omega)
    have ea:((((ByteArray.mk a.toArray)[k]'(by rw[za];exact ka)).toNat:Int)==(((ByteArray.mk b.toArray)[k]'(by rw[zb];exact Y)).toNat:Int))=decide (a[k] = b[k]):=aKV a[k] b[k];by_cases a0:k<S
    ·have e:=H3.out k a0 ka Y
     rw[aC e]at ea;go_wp2_with fail;go_region;go_wp2_with fail;go_roundw
     case rel=>exact⟨k+1,by omega,by go_num,hid J.out.drew⟩
     case measure=>simp[intOf];omega
    ·obtain rfl:k=S:=by omega
     have e:=H4.out ka Y;rw[aB e]at ea;go_wp2_with fail;go_region;go_wp2_with fail;go_ret;exact⟨rfl,J.out.drew⟩
   ·obtain rfl:k=S:=by omega
    have d2:decide ((k:Int)<(b.length:Int))=false:=aB (by omega);go_wp2_with fail;go_region;go_wp2_with fail;go_ret;exact⟨rfl,J.out.drew⟩
  ·obtain rfl:k=S:=by omega
   have d1:decide ((k:Int)<(a.length:Int))=false:=aB (by omega);go_wp2_with fail;go_region;go_wp2_with fail;go_ret;exact⟨rfl,J.out.drew⟩
theorem aC3(w:World)(a b:List UInt8)(ha:a.length≤maxLen)(hb:b.length≤maxLen) :
 Calls Tryz.prog 90 #[encStr a,encStr b] w fun e w'=>e=.returned (.int .i64 (shr a b:Nat))∧Below w.heap.size w w':=by
 have H1:=hid (xB a b);have H2:=hid (vJ a b);have H3:=hid (aEo a b);have H4:=hid (aAr a b);generalize shr a b=S at *;have za:(ByteArray.mk a.toArray).size=a.length:=by simp[ByteArray.size]
 have zb:(ByteArray.mk b.toArray).size=b.length:=by simp[ByteArray.size]
 unfold maxLen at ha hb;go_enter Tryz.func90,Tryz.ntmps90;go_wp2_with fail;go_loopw [5] (fun i wr=>∃k:Nat,k≤S∧i=.int .i64 k∧Hid (Below w.heap.size w wr)) (fun i _=>S-(intOf i).toNat)
 case atStart=>exact⟨0,by omega,rfl,hid (Below.refl _ _)⟩
 case round=>
  obtain⟨k,hk,rfl,J⟩:=hrel;rename_i wr _;have h1:=H1.out;have h2:=H2.out;by_cases ka:k<a.length
  ·have d1:decide ((k:Int)<(a.length:Int))=true:=aC (by omega)
   by_cases Y:k<b.length
   ·have d2:decide ((k:Int)<(b.length:Int))=true:=aC (by omega)
    have ea:((((ByteArray.mk a.toArray)[k]'(by rw[za];exact ka)).toNat:Int)==(((ByteArray.mk b.toArray)[k]'(by rw[zb];exact Y)).toNat:Int))=decide (a[k] = b[k]):=aKV a[k] b[k];by_cases a0:k<S
    ·have e:=H3.out k a0 ka Y
     rw[aC e]at ea;go_wp2_with fail;go_region;go_wp2_with fail;go_roundw
     case rel=>exact⟨k+1,by omega,by go_num,hid J.out.drew⟩
     case measure=>simp[intOf];omega
    ·obtain rfl:k=S:=by omega
     have e:=H4.out ka Y;rw[aB e]at ea;go_wp2_with fail;go_region;go_wp2_with fail;go_ret;exact⟨rfl,J.out.drew⟩
   ·obtain rfl:k=S:=by omega
    have d2:decide ((k:Int)<(b.length:Int))=false:=aB (by omega);go_wp2_with fail;go_region;go_wp2_with fail;go_ret;exact⟨rfl,J.out.drew⟩
  ·obtain rfl:k=S:=by omega
   have d1:decide ((k:Int)<(a.length:Int))=false:=aB (by omega);go_wp2_with fail;go_region;go_wp2_with fail;go_ret;exact⟨rfl,J.out.drew⟩
structure Pl(w:World)(b:Nat)(A:Option Addr)(cap:Nat)(m:List (List UInt8)):Prop where
 box:bV w b 124 #[.slice A m.length cap]
 rd:Rd w A (m.map encStr)
theorem Pl.below{w w':World}{b:Nat}{A:Option Addr}{cap:Nat}{m:List (List UInt8)}(h:Pl w b A cap m)(hb:Below w.heap.size w w'):Pl w' b A cap m:=
 ⟨h.box.kept (Fr.of_below hb []) (by simp),h.rd.below hb⟩
theorem uQ(w:World)(b:Nat)(A:Option Addr)(cap:Nat)(m:List (List UInt8))(h:Pl w b A cap m) :
 Calls Tryz.prog 45 #[.pointer (some ⟨b,0,none⟩)] w fun e w'=>e=.returned (.int .i64 m.length)∧w=w':=by
 have c0:w.cell? ⟨b,0,none⟩=some (.slice A m.length cap):=h.box.cell 0;clear h;go_enter Tryz.func45,Tryz.ntmps45;go_wp2_with fail;go_ret;exact⟨rfl,rfl⟩
def pnV(m:List (List UInt8))(x:List UInt8):Value:=.tuple #[.int .i64 (if x∈m then(m.idxOf x:Nat) else 0:Nat),.bool (decide (x∈m))]
theorem aI7(w:World)(b:Nat)(A:Option Addr)(cap:Nat)(m:List (List UInt8))(x:List UInt8)(h:Pl w b A cap m)(hp:m.Pairwise (fun a b=>a<b))(hm:m.length≤1000000) :
 Calls Tryz.prog 293 #[.pointer (some ⟨b,0,none⟩),encStr x] w fun e w'=>e=.returned (pnV m x)∧Below w.heap.size w w':=by
 have c0:w.cell? ⟨b,0,none⟩=some (.slice A m.length cap):=h.box.cell 0;have K:=hid (aDG w A cap m x h.rd hp hm);by_cases J:x∈m
 ·have hv:Hid (pnV m x=.tuple #[.int .i64 (upS m x:Nat),.bool true]):=hid (by unfold pnV;rw[if_pos J,aC J,aD9 m x hp J])
  rw[hv.out];rw[aC J]at K;clear hv h hp J hm;generalize upS m x=u at *;go_enter Tryz.func293,Tryz.ntmps293;go_wp2_with fail;refine K.out.mono ?_;rintro e w1 ⟨rfl,Y⟩;have B1:=hid Y;clear Y;go_wp2_with fail;go_ret2;exact⟨rfl,B1.out⟩
 ·have hv:Hid (pnV m x=.tuple #[.int .i64 0,.bool false]):=hid (by unfold pnV;rw[if_neg J,aB J];rfl)
  rw[hv.out];rw[aB J]at K;clear hv h hp J hm;generalize upS m x=u at *;go_enter Tryz.func293,Tryz.ntmps293;go_wp2_with fail;refine K.out.mono ?_;rintro e w1 ⟨rfl,Y⟩;have B1:=hid Y;clear Y;go_wp2_with fail;go_ret2;exact⟨rfl,B1.out⟩
theorem aIw(w:World)(b:Nat)(A:Option Addr)(cap:Nat)(m:List (List UInt8))(k:Nat)(h:Pl w b A cap m)(J:k<m.length)(hm:m.length≤9223372036854775807) :
 Calls Tryz.prog 156 #[.pointer (some ⟨b,0,none⟩),.int .i64 k] w fun e w'=>e=.returned (.tuple #[encStr m[k],.bool true])∧w=w':=by
 have c0:w.cell? ⟨b,0,none⟩=some (.slice A m.length cap):=h.box.cell 0;have K:=hid (uQ w b A cap m h);obtain⟨g,off,rfl,hl,hc⟩:=kJ h.rd (by omega);have c1:=hc k J;clear hc h;generalize m[k] = y at *;have d1:decide ((k:Int)<0)=false:=aB (by omega);have d2:decide ((m.length:Int)≤(k:Int))=false:=aB (by omega);go_enter Tryz.func156,Tryz.ntmps156
 go_wp2_with (go_at_call 45;refine K.out.mono ?_;rintro e Y ⟨rfl,rfl⟩)
 go_ret2;exact⟨rfl,rfl⟩
theorem aE1(w:World)(b:Nat)(A:Option Addr)(cap:Nat)(m:List (List UInt8))(k:Int)(h:Pl w b A cap m)(J:k<0∨m.length≤k) :
 Calls Tryz.prog 156 #[.pointer (some ⟨b,0,none⟩),.int .i64 k] w fun e w'=>e=.returned (.tuple #[.string ⟨#[]⟩,.bool false])∧w=w':=by
 have K:=hid (uQ w b A cap m h);clear h;by_cases h0:k<0
 ·have d1:decide (k<0)=true:=aC h0
  go_enter Tryz.func156,Tryz.ntmps156;go_wp2_with fail;go_ret2;exact⟨rfl,rfl⟩
 ·have d1:decide (k<0)=false:=aB h0
  have d2:decide ((m.length:Int)≤k)=true:=aC (by omega);go_enter Tryz.func156,Tryz.ntmps156
  go_wp2_with (go_at_call 45;refine K.out.mono ?_;rintro e Y ⟨rfl,rfl⟩)
  go_ret2;exact⟨rfl,rfl⟩
end po
end Go.Proofs.YtdmmkjijgoiecaaGreatDoor
