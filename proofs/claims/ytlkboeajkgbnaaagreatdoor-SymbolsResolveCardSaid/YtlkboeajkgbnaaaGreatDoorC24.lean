import Derived.Sort.EncStr
import Derived.Sort.Walk0
import Derived.Test.YtlkboeajkgbnaaaGreatDoorC09
import Derived.Test.YtlkboeajkgbnaaaGreatDoorC23
set_option linter.all false
set_option maxHeartbeats 4000000
namespace Go.Proofs.YtlkboeajkgbnaaaGreatDoor
open Lib(hid)
set_option maxRecDepth 100000
namespace po
open RowKit Go.Sort mem
theorem bytesLess_dec(a b:List UInt8):Op.bytesLess a b=decide (a<b):=by rw[bytesLess_eq]
theorem nan1(x:List UInt8)(w:World):Calls Tryz.prog 98 #[encStr x] w fun e w'=>e=.returned (.bool false)∧w'=w:=by
 have d:(x==x)=true:=by simp
 unfold encStr;go_enter Tryz.func98,Tryz.ntmps98;go_wp2_with fail;go_ret;exact⟨by simp,rfl⟩
theorem nan2(x:List UInt8)(w:World):Calls Tryz.prog 71 #[encStr x] w fun e w'=>e=.returned (.bool false)∧w'=w:=by
 have d:(x==x)=true:=by simp
 unfold encStr;go_enter Tryz.func71,Tryz.ntmps71;go_wp2_with fail;go_ret;exact⟨by simp,rfl⟩
theorem less_any(x y:List UInt8)(w:World):Calls Tryz.prog 70 #[encStr x,encStr y] w fun e w'=>e=.returned (.bool (decide (x<y)))∧w'=w:=by
 have K:=hid (fun w=>nan1 x w);obtain⟨r,hr⟩:∃r,Op.bytesLess x y=r:=⟨_,rfl⟩;rw[←bytesLess_dec,hr];unfold encStr at K ⊢;go_enter Tryz.func70,Tryz.ntmps70
 go_wp2_with (go_at_call 98;refine(K.out _).mono ?_;rintro e w' ⟨rfl,rfl⟩)
 go_ret;exact⟨rfl,rfl⟩
theorem rdS{w:World}{A:Option Addr}{l:List (List UInt8)}(h:Rd w A (l.map encStr))(hz:0<l.length):∃g o,A=some ⟨g,o,none⟩∧g<w.heap.size∧∀j (hj:j<l.length),w.cell? ⟨g,o+j,none⟩=some (encStr l[j]):=by
 obtain⟨g,o,rfl,hl,hc⟩:=h (by simpa using hz);exact⟨g,o,rfl,hl,fun j hj=>by rw[hc j (by simpa using hj)];simp⟩
theorem search_any(w:World)(A:Option Addr)(cap:Nat)(m:List (List UInt8))(x:List UInt8)(h:Rd w A (m.map encStr))(hp:m.Pairwise (fun a b=>a<b))(hm:m.length≤1000000) :
 Calls Tryz.prog 39 #[.slice A m.length cap,encStr x] w fun e w'=>e=.returned (.tuple #[.int .i64 (upS m x:Nat),.bool (decide (x∈m))])∧Below w.heap.size w w':=by
 have K:=hid (fun a b w=>less_any a b w);have K2:=hid (fun a w=>nan2 a w);have Hh:=hid h;have Hs:=hid (sorted_lt m x hp);have He:=hid (search_end m x);have Ha:Hid ((∃h:upS m x<m.length,m[upS m x] = x)↔x∈m):=hid (up_at m x hp);clear h hp;obtain⟨u,hu⟩:∃u,upS m x=u:=⟨_,rfl⟩;obtain⟨r,hr⟩:∃r,decide (x∈m)=r:=⟨_,rfl⟩;have Hu:=hid hu;have Hr:=hid hr;rw[hu,hr];clear hu hr;go_enter Tryz.func39,Tryz.ntmps39;go_wp2_with fail;go_loopw [7,8] (fun a b wr=>∃(i j:Nat),i≤j∧j≤m.length∧a=.int .i64 i∧b=.int .i64 j∧Hid (∀k (hk:k<m.length),k<i→m[k]<x)∧Hid (∀k (hk:k<m.length),j≤k→¬m[k]<x)∧Hid (Below w.heap.size w wr)) (fun a b _=>(intOf b).toNat-(intOf a).toNat)
 case atStart=>exact⟨0,m.length,by omega,by omega,rfl,rfl,hid (fun k _ h=>by omega),hid (fun k hk h=>by omega),hid (Below.refl _ _)⟩
 case round=>
  obtain⟨i,j,hij,hj,rfl,rfl,h1,h2,hb⟩:=hrel;rename_i wr _;by_cases hlt:i<j
  ·have d1:decide ((i:Int)<(j:Int))=true:=decide_eq_true (by omega)
   have hH:(i+j) / 2<m.length:=by omega
   obtain⟨g,off,rfl,hl,hc⟩:=rdS Hh.out (by omega);have c2:wr.cell? ⟨g,off+(i+j) / 2,none⟩=some (encStr (m[(i+j) / 2]'hH)):=(hb.out.cell (p:=⟨g,_,none⟩) hl).trans (hc _ hH);have K1:=hid (fun w'=>K.out (m[(i+j) / 2]'hH) x w');rcases hd:decide ((m[(i+j) / 2]'hH)<x)with _ | _
   ·have hn:¬(m[(i+j) / 2]'hH)<x:=of_decide_eq_false hd
    rw[hd]at K1;have h2':Hid (∀k (hk:k<m.length),(i+j) / 2≤k→¬m[k]<x):=hid (fun k hk hle hlt'=>hn (Hs.out _ _ hH hk hle hlt'));clear hd hn hc h2;generalize m[(i+j) / 2]'hH=y at *
    go_wp2_with (go_at_call 70;refine(K1.out _).mono ?_;rintro e w2 ⟨rfl,rfl⟩)
    go_roundw
    case rel=>exact⟨i,(i+j) / 2,by omega,by omega,rfl,by go_num,h1,h2',hb⟩
    case measure=>simp[intOf];omega
   ·have hn:(m[(i+j) / 2]'hH)<x:=of_decide_eq_true hd
    rw[hd]at K1;have h1':Hid (∀k (hk:k<m.length),k<(i+j) / 2+1→m[k]<x):=hid (fun k hk hle=>Hs.out _ _ hk hH (by omega) hn);clear hd hn hc h1;generalize m[(i+j) / 2]'hH=y at *
    go_wp2_with (go_at_call 70;refine(K1.out _).mono ?_;rintro e w2 ⟨rfl,rfl⟩)
    go_roundw
    case rel=>exact⟨(i+j) / 2+1,j,by omega,by omega,by go_num,rfl,h1',h2,hb⟩
    case measure=>simp[intOf];omega
  ·obtain rfl:i=j:=by omega
   have d1:decide ((i:Int)<(i:Int))=false:=decide_eq_false (by omega);have hui:u=i:=Hu.out.symm.trans (He.out i hj h1.out h2.out);have ha:=Ha.out;simp only[Hu.out,hui]at ha;subst hui;by_cases hl:u<m.length
   ·have d2:decide ((u:Int)<(m.length:Int))=true:=decide_eq_true (by omega)
    obtain⟨g,off,rfl,hgl,hc⟩:=rdS Hh.out (by omega);have c2:wr.cell? ⟨g,off+u,none⟩=some (encStr (m[u]'hl)):=(hb.out.cell (p:=⟨g,_,none⟩) hgl).trans (hc _ hl);have hreq:r=(m[u]'hl==x):=by
     rw[←Hr.out,Bool.eq_iff_iff,decide_eq_true_iff,←ha,beq_iff_eq];exact⟨fun⟨_,h⟩=>h,fun h=>⟨hl,h⟩⟩
    clear ha Hr Hu Ha He;rcases hq:(m[u]'hl==x)with _ | _
    ·rw[hq]at hreq
     subst hreq;generalize m[u]'hl=y at *
     go_wp2_with (go_at_call 71;refine(K2.out _ _).mono ?_;rintro e w2 ⟨rfl,rfl⟩)
     go_ret2;exact⟨rfl,hb.out⟩
    ·rw[hq]at hreq
     subst hreq;generalize m[u]'hl=y at *;go_wp2_with fail;go_ret2;exact⟨rfl,hb.out⟩
   ·have d2:decide ((u:Int)<(m.length:Int))=false:=decide_eq_false (by omega)
    have hreq:r=false:=by
     rw[←Hr.out,decide_eq_false_iff_not,←ha];rintro⟨h,_⟩;exact hl h
    subst hreq;clear ha Hr Hu Ha He;go_wp2_with fail;go_ret2;exact⟨rfl,hb.out⟩
end po
end Go.Proofs.YtlkboeajkgbnaaaGreatDoor
