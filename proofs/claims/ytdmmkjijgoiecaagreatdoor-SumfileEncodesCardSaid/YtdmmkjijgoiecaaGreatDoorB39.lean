import Derived.Lib.QuietBelow
import Derived.Test.YtdmmkjijgoiecaaGreatDoorB31
set_option linter.all false
set_option maxHeartbeats 4000000
namespace Go.Proofs.YtdmmkjijgoiecaaGreatDoor
open Lib(hid)
set_option maxRecDepth 100000
namespace po
open RowKit Go.Sort mem vr
theorem aDV(n:Nat)(h:n≤9223372036854775807):IntKind.i64.wrap (n:Int)=(n:Int):=by
 exact IntWalk.i64_in _ (by omega)
theorem yI(w:World)(A:Option Addr)(cap:Nat)(m:List (List UInt8))(h:Rd w A (m.map encStr))(hm:m.length≤1000)(hx:∀x∈m,x.length≤20000) :
 Calls Tryz.prog 41 #[.slice A m.length cap] w fun e w'=>e=.returned (encStr (pP m m.length))∧Below w.heap.size w w':=by
 have Hh:=hid h;have hlen:=aNj m hm hx;have K0:=hid (gU w m.length (by omega))
 have e0:bs (nb m.length)=bs (pP m 0):=rfl;rw[e0]at K0;clear h e0;go_enter Tryz.func41,Tryz.ntmps41;go_wp2_with fail;refine K0.out.mono ?_;rintro e w1 ⟨rfl,b1⟩;have B1:=hid b1;clear b1 K0;go_wp2_with fail
 go_loopw [3,4,5] (fun s a i wr=>∃(k:Nat),k≤m.length∧s=encStr (pP m k)∧a=encStr (pv m k)∧i=.int .i64 k∧Hid (Below w.heap.size w wr)) (fun _ _ i _=>m.length-(intOf i).toNat)
 case atStart=>exact⟨0,by omega,rfl,rfl,rfl,B1⟩
 case round=>
  obtain⟨k,hk,rfl,rfl,rfl,hb⟩:=hrel;rename_i wr _
  by_cases Y:k<m.length
  ·have d1:decide ((k:Int)<(m.length:Int))=true:=aC (by omega)
   obtain⟨g,off,rfl,hl,hc⟩:=kF Hh.out (by omega)
   have a5:Hid (pP m (k+1)=pP m k++one (pv m k) m[k]):=hid (by rw[←oK m k Y];rfl)
   have a9:Hid (pv m (k+1)=m[k]):=hid (by rw[aAK,oK m k Y])
   have a4:Hid (∀w',Below w.heap.size w w'→w'.cell? ⟨g,off+k,none⟩=some (encStr m[k])):=hid (fun w' hb=>(hb.cell (p:=⟨g,_,none⟩) hl).trans (hc k Y))
   have af:=hx m[k] (aR Y);have ak:(pv m k).length≤20000:=by
    unfold pv;split
    ·simp
    ·exact aC8 m _ _ hx
   have am:=hlen k hk;clear hc;generalize m[k] = x at *;generalize pv m k=a at *;have ap:=qY a x;have KS:=hid (vZ wr a x (by unfold maxLen;omega) (by unfold maxLen;omega))
   have ao:=iM (shr a x) (by omega)
   have ah:=iM (x.length-shr a x) (by omega)
   have hex:=yM x (shr a x);have a2:(ByteArray.mk x.toArray).size=x.length:=by simp[ByteArray.size]
   have a6:Hid ((x.length:Int)-((shr a x:Nat):Int)=((x.length-shr a x:Nat):Int)):=hid (by omega)
   have ai:(x.drop (shr a x)).length≤20000:=by rw[List.length_drop];omega
   have a0:Hid (pP m k++nb (shr a x)++nb (x.length-shr a x)++x.drop (shr a x)=pP m (k+1)):=hid (by rw[a5.out,one];simp only[aS])
   unfold bs at hex;rw[a2]at hex;clear a5;have HX:=hid hex;clear hex;generalize shr a x=n at *;generalize x.drop n=y at *;have ag:∀W,(Instr.slice 9 (.string ⟨x.toArray⟩) (some (.int .i64 (n:Int))) none none).run Tryz.prog W=.ok (.string ⟨y.toArray⟩) W:=by
    intro W;rw[run_slice_string_l (P:=Tryz.prog) W 9 ⟨x.toArray⟩ Tryz.underlying9 .i64 n (by omega) (by rw[a2];omega)]
    rw[a2];exact congrArg (fun z=>Result.ok (Value.string z) W) HX.out
   have KA:Hid (∀(W:World) (d:Nat) (os:Array Obj),Calls Tryz.prog 40 #[.int .i64 n] (grow (redrawn W d) os) fun e a3=>e=.returned (.string ⟨(nb n).toArray⟩)∧∃p:Regrown,a3=grow (redrawn W p.d) p.os):=hid (fun W d os=>Calls.regrown_of (gU _ n (by omega)))
   have KB:Hid (∀(W:World) (d:Nat) (os:Array Obj),Calls Tryz.prog 40 #[.int .i64 ((x.length-n:Nat):Int)] (grow (redrawn W d) os) fun e a3=>e=.returned (.string ⟨(nb (x.length-n)).toArray⟩)∧∃p:Regrown,a3=grow (redrawn W p.d) p.os):=hid (fun W d os=>Calls.regrown_of (gU _ (x.length-n) (by omega)))
   have aj:IntKind.i64.wrap ((x.length:Int)-(n:Int))=((x.length-n:Nat):Int):=by rw[a6.out];exact aDV _ (by omega)
   generalize x.length-n=D at *;generalize nb D=N2 at *;generalize nb n=J at *;generalize pP m k=P at *;have q1:¬9223372036854775807<P.length+J.length:=by omega
   have q2:¬9223372036854775807<(P++J).length+N2.length:=by rw[aF];omega
   have q3:¬9223372036854775807<(P++J++N2).length+y.length:=by rw[aF,aF];omega
   have s1:(ByteArray.mk P.toArray++ByteArray.mk J.toArray)=ByteArray.mk (P++J).toArray:=ByteArray.mk_append_mk _ _;have s2:(ByteArray.mk (P++J).toArray++ByteArray.mk N2.toArray)=ByteArray.mk (P++J++N2).toArray:=ByteArray.mk_append_mk _ _;have s3:(ByteArray.mk (P++J++N2).toArray++ByteArray.mk y.toArray)=ByteArray.mk (pP m (k+1)).toArray:=by rw[ByteArray.mk_append_mk,a0.out]
   clear a0;generalize P++J++N2=P2 at *;generalize P++J=P1 at *;have c2:=a4.out wr hb.out;go_wp2_with fail;refine KS.out.mono ?_;rintro e w2 ⟨rfl,b2⟩;have a1:=hid (hb.out.trans (b2.mono hb.out.size));clear b2 KS c2;have c2:=cell_regrown (a4.out w2 a1.out);go_wp2_with fail;refine wp_region_quiet_below (by kernel_rfl) (by kernel_rfl) ?_
   repeat (quiet_step (first | (with_reducible exact KA.out _ _ _) | (with_reducible exact KB.out _ _ _)))
   refine wpQuiet_nil ?_;intro _ ae;obtain⟨⟨dq,aa⟩,a7⟩:=ae;subst a7;have a8:=hid (a1.out.trans ((below_regrown w2 dq aa).mono a1.out.size));clear c2;have c2:=a4.out _ a8.out;go_wp2_with fail
   go_roundw
   case rel=>exact⟨k+1,by omega,rfl,by rw[a9.out],by go_num,a8⟩
   case measure=>simp[intOf];omega
  ·obtain rfl:k=m.length:=by omega
   have d1:decide ((m.length:Int)<(m.length:Int))=false:=aB (by omega)
   go_wp2_with fail;go_ret;exact⟨rfl,hb.out⟩
end po
end Go.Proofs.YtdmmkjijgoiecaaGreatDoor
