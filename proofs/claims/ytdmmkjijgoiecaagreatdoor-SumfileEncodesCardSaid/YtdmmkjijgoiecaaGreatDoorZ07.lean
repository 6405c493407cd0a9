import Derived.Test.YtdmmkjijgoiecaaGreatDoorB39
import Derived.Test.YtdmmkjijgoiecaaGreatDoorZ06
import Derived.Test.YtdmmkjijgoiecaaGreatDoorZ05
import Derived.Test.YtdmmkjijgoiecaaGreatDoorZ08
set_option linter.all false
set_option maxHeartbeats 4000000
namespace Go.Proofs.YtdmmkjijgoiecaaGreatDoor
open Lib(hid)
set_option maxRecDepth 100000
namespace po
open RowKit Go.Sort mem vr
theorem aLn(w:World)(A:Option Addr)(cap:Nat)(m:List (List UInt8))(h:Rd w A (m.map encStr))(hm:m.length≤6000)(hx:∀x∈m,x.length≤1000) :
 Calls Tryz.prog 41 #[.slice A m.length cap] w fun e w'=>e=.returned (encStr (pP m m.length))∧Below w.heap.size w w':=by
 have Hh:=hid h;have hlen:=aDf m hm hx;have K0:=hid (gU w m.length (by omega))
 have e0:bs (nb m.length)=bs (pP m 0):=rfl;rw[e0]at K0;clear h e0;go_enter Tryz.func41,Tryz.ntmps41;go_wp2_with fail;refine K0.out.mono ?_;rintro e w1 ⟨rfl,b1⟩;have B1:=hid b1;clear b1 K0;go_wp2_with fail
 go_loopw [3,4,5] (fun s a i wr=>∃(k:Nat),k≤m.length∧s=encStr (pP m k)∧a=encStr (pv m k)∧i=.int .i64 k∧Hid (Below w.heap.size w wr)) (fun _ _ i _=>m.length-(intOf i).toNat)
 case atStart=>exact⟨0,by omega,rfl,rfl,rfl,B1⟩
 case round=>
  obtain⟨k,hk,rfl,rfl,rfl,hb⟩:=hrel;rename_i wr _
  by_cases Y:k<m.length
  ·have d1:decide ((k:Int)<(m.length:Int))=true:=aC (by omega)
   obtain⟨g,off,rfl,hl,hc⟩:=kF Hh.out (by omega)
   have a5:Hid (pP m (k+1)=pP m k++one (pv m k) m[k]):=hid (by rw[←oK m k Y];rfl)
   have ae:Hid (pv m (k+1)=m[k]):=hid (by rw[aAK,oK m k Y])
   have a1:Hid (∀w',Below w.heap.size w w'→w'.cell? ⟨g,off+k,none⟩=some (encStr m[k])):=hid (fun w' hb=>(hb.cell (p:=⟨g,_,none⟩) hl).trans (hc k Y))
   have ao:=hx m[k] (aR Y);have ag:(pv m k).length≤1000:=by
    unfold pv;split
    ·simp
    ·exact aC8 m _ _ hx
   have ah:=hlen k hk;clear hc;generalize m[k] = x at *;generalize pv m k=a at *;have ak:=qY a x;have KS:=hid (vZ wr a x (by unfold maxLen;omega) (by unfold maxLen;omega))
   have ai:=iM (shr a x) (by omega)
   have am:=iM (x.length-shr a x) (by omega)
   have hex:=yM x (shr a x);have a4:(ByteArray.mk x.toArray).size=x.length:=by simp[ByteArray.size]
   have a8:Hid ((x.length:Int)-((shr a x:Nat):Int)=((x.length-shr a x:Nat):Int)):=hid (by omega)
   have ap:(x.drop (shr a x)).length≤1000:=by rw[List.length_drop];omega
   have a0:Hid (pP m k++nb (shr a x)++nb (x.length-shr a x)++x.drop (shr a x)=pP m (k+1)):=hid (by rw[a5.out,one];simp only[aS])
   unfold bs at hex;rw[a4]at hex;clear a5;have HX:=hid hex;clear hex;generalize shr a x=n at *;generalize x.drop n=y at *;have af:∀W,(Instr.slice 9 (.string ⟨x.toArray⟩) (some (.int .i64 (n:Int))) none none).run Tryz.prog W=.ok (.string ⟨y.toArray⟩) W:=by
    intro W;rw[run_slice_string_l (P:=Tryz.prog) W 9 ⟨x.toArray⟩ Tryz.underlying9 .i64 n (by omega) (by rw[a4];omega)]
    rw[a4];exact congrArg (fun z=>Result.ok (Value.string z) W) HX.out
   have KA:Hid (∀(W:World) (d:Nat) (os:Array Obj),Calls Tryz.prog 40 #[.int .i64 n] (grow (redrawn W d) os) fun e a2=>e=.returned (.string ⟨(nb n).toArray⟩)∧∃p:Regrown,a2=grow (redrawn W p.d) p.os):=hid (fun W d os=>Calls.regrown_of (gU _ n (by omega)))
   have KB:Hid (∀(W:World) (d:Nat) (os:Array Obj),Calls Tryz.prog 40 #[.int .i64 ((x.length-n:Nat):Int)] (grow (redrawn W d) os) fun e a2=>e=.returned (.string ⟨(nb (x.length-n)).toArray⟩)∧∃p:Regrown,a2=grow (redrawn W p.d) p.os):=hid (fun W d os=>Calls.regrown_of (gU _ (x.length-n) (by omega)))
   have aj:IntKind.i64.wrap ((x.length:Int)-(n:Int))=((x.length-n:Nat):Int):=by rw[a8.out];exact aDV _ (by omega)
   generalize x.length-n=D at *;generalize nb D=N2 at *;generalize nb n=J at *;generalize pP m k=P at *;have q1:¬9223372036854775807<P.length+J.length:=by omega
   have q2:¬9223372036854775807<(P++J).length+N2.length:=by rw[aF];omega
   have q3:¬9223372036854775807<(P++J++N2).length+y.length:=by rw[aF,aF];omega
   have s1:(ByteArray.mk P.toArray++ByteArray.mk J.toArray)=ByteArray.mk (P++J).toArray:=ByteArray.mk_append_mk _ _;have s2:(ByteArray.mk (P++J).toArray++ByteArray.mk N2.toArray)=ByteArray.mk (P++J++N2).toArray:=ByteArray.mk_append_mk _ _;have s3:(ByteArray.mk (P++J++N2).toArray++ByteArray.mk y.toArray)=ByteArray.mk (pP m (k+1)).toArray:=by rw[ByteArray.mk_append_mk,a0.out]
   clear a0;generalize P++J++N2=P2 at *;generalize P++J=P1 at *;have c2:=a1.out wr hb.out;go_wp2_with fail;refine KS.out.mono ?_;rintro e w2 ⟨rfl,b2⟩;have a3:=hid (hb.out.trans (b2.mono hb.out.size));clear b2 KS c2;have c2:=cell_regrown (a1.out w2 a3.out);go_wp2_with fail;refine wp_region_quiet_below (by kernel_rfl) (by kernel_rfl) ?_
   repeat (quiet_step (first | (with_reducible exact KA.out _ _ _) | (with_reducible exact KB.out _ _ _)))
   refine wpQuiet_nil ?_;intro _ aa;obtain⟨⟨dq,a9⟩,a6⟩:=aa;subst a6;have a7:=hid (a3.out.trans ((below_regrown w2 dq a9).mono a3.out.size));clear c2;have c2:=a1.out _ a7.out;go_wp2_with fail
   go_roundw
   case rel=>exact⟨k+1,by omega,rfl,by rw[ae.out],by go_num,a7⟩
   case measure=>simp[intOf];omega
  ·obtain rfl:k=m.length:=by omega
   have d1:decide ((m.length:Int)<(m.length:Int))=false:=aB (by omega)
   go_wp2_with fail;go_ret;exact⟨rfl,hb.out⟩
end po
set_option maxRecDepth 100000
namespace sf
open RowKit Go.Sort Shelf mem vr po inn sy
open re (MU SU eY dB fM oM uW yI RP TP)
theorem EK.ac{w:World}{u:MU}(h:EK w u):∀x∈u.s.cs,x.c.args.length≤8796093022208:=fun x J=>h.a _ (List.mem_map.2 ⟨x,J,rfl⟩)
theorem aKq{T:List (List UInt8)}{x:List UInt8}(h:x∈T)(J:1000<x.length):tJ T=true:=by
 unfold tJ;exact List.any_eq_true.2 ⟨x,h,aC J⟩
theorem aD0(w:World)(u:MU)(hk:EK w u):Calls Tryz.prog 10 #[u.val] w (aAd u.su w):=by
 obtain⟨W,a5⟩:∃W,Hid (W=w.alloc (.cells u.row 29)):=⟨_,hid rfl⟩;have b0:Below w.heap.size w W:=by rw[a5.out];exact(Below.refl _ _).alloc (aY _) _
 have B:bT W w.heap.size 29 u.row:=by rw[a5.out];exact bT.new _ _ _
 have HC:Hid (∀J,Below W.heap.size W J→J.cell? ⟨w.heap.size,0,none⟩=some (.string u.name)∧J.cell? ⟨w.heap.size,1,none⟩=some (.slice u.gA u.gives.length u.gc)∧J.cell? ⟨w.heap.size,2,none⟩=some (.slice u.wA u.wants.length u.wc)∧J.cell? ⟨w.heap.size,3,none⟩=some (.slice u.kA u.keeps.length u.kc)∧J.cell? ⟨w.heap.size,4,none⟩=some (.slice u.s.oA u.s.os.length u.s.oc)∧J.cell? ⟨w.heap.size,5,none⟩=some (.slice u.s.fA u.s.fs.length u.s.fc)∧J.cell? ⟨w.heap.size,6,none⟩=some (.slice u.s.cA u.s.cs.length u.s.cc)):=hid (fun J b=>by
  have x:=B.kept (Fr.of_below b []) (by simp)
  exact⟨x.cell 0,x.cell 1,x.cell 2,x.cell 3,x.cell 4,x.cell 5,x.cell 6⟩)
 have HE:Hid (∀J,Below W.heap.size W J→Below w.heap.size w J):=hid (fun J b=>b0.trans (b.mono b0.size))
 have R0:=hid (Below.refl W.heap.size W);have HK:∀J,Below W.heap.size W J→EK J u:=fun J b=>(hk.below b0).below b
 have KC:=hid (fun(J:World) (b:Below W.heap.size W J)=>wD J u (HK J b).k (HK J b).ac)
 have KX:=hid (fun(J:World) (b:Below W.heap.size W J)=>uW J u (HK J b).k.m (aZ hk.l (by decide)))
 have af:jP ((oM (dB u.su)).map re.tx)=gM u.su:=rfl;rw[af]at KX;have bc:=tZ u.su;have av:=aZ (aDx u.su) hk.l
 have KB:Hid (∀(J:World) (pA:Option Addr) (pc:Nat),Below W.heap.size W J→eQ (tK u.su)=0→Rd J pA ((gM u.su).map encStr)→Calls Tryz.prog 38 #[.slice pA (gM u.su).length pc,u.val] J (fun e w'=>e=.returned (.tuple #[.string (bs (gG u.su)),.int .i64 0])∧Below J.heap.size J w')):=hid (fun J pA pc b h0 hp=>by
  have h:=yI J pA pc (gM u.su) hp (by omega) u (HK J b).k.m (aZ hk.l (by decide))
  unfold RP at h;rw[(aGi h0 hk.l).1]at h
  exact h)
 have a3:Hid (eQ (tK u.su)=0→(gG u.su).length≤5000000):=hid (fun h0=>by
  have:=re.mW (gM u.su) (dB u.su);have:=hk.l;unfold gG
  omega)
 have o0:Hid (eQ (tK u.su)≠0→fV u.su=eQ (tK u.su)):=hid (fun h=>by unfold fV;rw[if_pos h])
 have o1:Hid (eQ (tK u.su)=0→6000<(gM u.su).length→fV u.su=4):=hid (fun h h1=>by unfold fV;rw[if_neg (by simp[h]),if_pos h1])
 have o2:Hid (eQ (tK u.su)=0→¬6000<(gM u.su).length→tJ (gM u.su)=true→fV u.su=9):=hid (fun h h1 h2=>by unfold fV;rw[if_neg (by simp[h]),if_neg h1,if_pos h2])
 have o3:Hid (eQ (tK u.su)=0→¬6000<(gM u.su).length→tJ (gM u.su)=false→200000<(nb 1++(pP (gM u.su) (gM u.su).length++(nb (gG u.su).length++gG u.su))).length+7→fV u.su=9):=hid (fun h h1 h2 h3=>by
  unfold fV;rw[if_neg (by simp[h]),if_neg h1,if_neg (by simp[h2]),if_pos]
  unfold nW sD;rw[aF];have:sN.length=4:=rfl
  omega)
 have o4:Hid (eQ (tK u.su)=0→¬6000<(gM u.su).length→tJ (gM u.su)=false→¬200000<(nb 1++(pP (gM u.su) (gM u.su).length++(nb (gG u.su).length++gG u.su))).length+7→fV u.su=0):=hid (fun h h1 h2 h3=>by
  unfold fV;rw[if_neg (by simp[h]),if_neg h1,if_neg (by simp[h2]),if_neg]
  unfold nW sD;rw[aF];have:sN.length=4:=rfl
  omega)
 have hF:Hid (gI u.su=cr.iR ⟨([119,101,102,116]++(nb 1++(pP (gM u.su) (gM u.su).length++(nb (gG u.su).length++gG u.su)))).toArray⟩):=hid (by
  unfold gI nW sD sN bs
  rfl)
 have bd:=hid av;have aw:Hid (∀x∈gM u.su,1000<x.length→tJ (gM u.su)=true):=hid (fun x h hx=>aKq h hx)
 have ak:Hid ((∀x∈gM u.su,x.length≤1000)→tJ (gM u.su)=false):=hid aGN;obtain⟨x0,x1,x2,x3,x4,x5,x6⟩:=HC.out W R0.out;have a0:Hid (∀d w',fV u.su=d→d≠0→Below w.heap.size w w'→aAd u.su w (.returned (.tuple #[.string ⟨#[]⟩,.int .i64 d])) w'):=hid (fun d w' h hd hb=>aG4 h hd hb)
 have a1:Hid (∀w',fV u.su=0→Below w.heap.size w w'→aAd u.su w (.returned (.tuple #[.string (gI u.su),.int .i64 0])) w'):=hid (fun w' h hb=>aJk h hb)
 unfold sy.dD at KC;unfold TP at KX;unfold MU.val at KC KX KB ⊢;unfold MU.row at *;clear hk b0 B HK bc av af;generalize fV u.su=EE at *;generalize gI u.su=FF at *;generalize gG u.su=RR at *;generalize gM u.su=T at *;generalize eQ (tK u.su)=E at *;go_enter Tryz.func10,Tryz.ntmps10;go_upto_region 1 with fail;rw[←a5.out];clear a5;generalize ag:w.heap.size=bx at *;replace ag:=hid ag;have KA:=hid (KC.out W R0.out);go_wp2_with fail;refine KA.out.mono ?_;rintro e J ⟨rfl,b2⟩;have B2:=hid (R0.out.trans b2);clear b2 KA KC x0 x1 x2 x3 x4 x5 x6
 by_cases h0:E=0
 rotate_left
 ·have q0:(E != 0)=true:=by simpa using h0
  have T1:=hid (a0.out E J (o0.out h0) h0 (HE.out _ B2.out));clear KX KB o0 o1 o2 o3 o4 hF a0 a1 HC HE;go_wp2_with fail
  go_ret2
  exact T1.out
 have q0:(E != 0)=false:=by simpa using h0
 obtain⟨x0,x1,x2,x3,x4,x5,x6⟩:=HC.out J B2.out;have KA:=hid (KX.out J B2.out);go_wp2_with fail;refine KA.out.mono ?_;rintro e w3 ⟨A,cap,rfl,am,b3⟩;have R3:=hid am;have B3:=hid (B2.out.trans (b3.mono B2.out.size));clear am b3 KA KX x0 x1 x2 x3 x4 x5 x6 B2
 by_cases h1:6000<T.length
 ·have q1:decide ((6000:Int)<(T.length:Int))=true:=aC (by omega)
  have T1:=hid (a0.out 4 w3 (o1.out h0 h1) (by decide) (HE.out _ B3.out))
  clear KB o0 o1 o2 o3 o4 hF a0 a1 HC HE;go_wp2_with fail
  go_ret2
  exact T1.out
 have q1:decide ((6000:Int)<(T.length:Int))=false:=aB (by omega)
 replace o2:=hid (o2.out h0 h1);replace o3:=hid (o3.out h0 h1);replace o4:=hid (o4.out h0 h1);replace a3:=hid (a3.out h0);replace KB:=hid (fun J pA pc b hp=>KB.out J pA pc b h0 hp)
 generalize tJ T=g at *;clear o0 o1;have az:T.length≤6000:=by omega
 go_wp2_with fail
 go_loopw [6] (fun i wr=>∃k:Nat,k≤T.length∧i=.int .i64 k∧Hid (∀x∈T.take k,x.length≤1000)∧wr=w3) (fun i _=>T.length-(intOf i).toNat)
 case atStart=>exact⟨0,by omega,rfl,hid (by simp),rfl⟩
 case round=>
  obtain⟨k,hk,rfl,hG,rfl⟩:=hrel
  by_cases b5:k<T.length
  ·have e1:decide ((k:Int)<(T.length:Int))=true:=aC (by omega)
   have a8:k<T.length:=b5;obtain⟨g1,off,rfl,hl,hc⟩:=re.aJn R3.out a8
   have a9:Hid (T[k].length≤1000→∀x∈T.take (k+1),x.length≤1000):=hid (fun h x hx=>by
    rw[bC a8,List.mem_append,aD]at hx
    rcases hx with hx | rfl
    ·exact hG.out x hx
    ·exact h)
   have aa:=hid (aw.out T[k] (aR a8));unfold encStr at hc;generalize T[k] = y at *
   by_cases hy:1000<y.length
   ·have q2:decide ((1000:Int)<(y.length:Int))=true:=aC (by omega)
    have T1:=hid (a0.out 9 _ (o2.out (aa.out hy)) (by decide) (HE.out _ B3.out))
    clear KB o2 o3 o4 hF a0 a1 HC HE a9 aa;go_wp2_with fail
    go_ret2
    exact T1.out
   ·have q2:decide ((1000:Int)<(y.length:Int))=false:=aB (by omega)
    have ax:=hid (a9.out (by omega))
    clear a9 aa hG;go_wp2_with fail
    go_roundw
    case rel=>exact⟨k+1,by omega,by go_num,ax,by first | rfl | trivial⟩
    case measure=>simp[intOf];omega
  ·obtain rfl:k=T.length:=by omega
   have e1:decide ((T.length:Int)<(T.length:Int))=false:=aB (by omega)
   have a4:∀x∈T,x.length≤1000:=by
    have:=hG.out
    rwa[bF]at this
   have ai:=hid a4;have a7:g=false:=ak.out a4;have a6:=hid (aDf T (by omega) a4)
   replace o3:=hid (o3.out a7);replace o4:=hid (o4.out a7);clear o2 aw ak hG a4 a7;have KA:=hid (KB.out _ A cap B3.out R3.out);obtain⟨x0,x1,x2,x3,x4,x5,x6⟩:=HC.out _ B3.out;clear KB HC;generalize a2:bs RR=br at *;replace a2:=hid a2;go_wp2_with fail;refine KA.out.mono ?_;rintro e w6 ⟨rfl,b6⟩;have B6:=hid (B3.out.trans (b6.mono B3.out.size));have R6:=hid (R3.out.below b6);clear b6 KA B3 R3 x0 x1 x2 x3 x4 x5 x6;have b4:=a6.out T.length (aY _);have ba:=a3.out;have K1:=hid (fun(w7:World)=>gU w7 1 (by decide))
   have K2:=hid (fun(w7:World) (x:Below w6.heap.size w6 w7)=>aLn w7 A cap T (R6.out.below x) az ai.out)
   have ah:br.size=RR.length:=by rw[←a2.out];rfl
   have K3:Hid (∀w7:World,Calls Tryz.prog 40 #[.int .i64 (br.size:Nat)] w7 fun e w'=>e=.returned (.string ⟨(nb RR.length).toArray⟩)∧Below w7.heap.size w7 w'):=hid (fun w7=>by rw[ah];exact gU w7 RR.length (by omega))
   unfold bs at K1;unfold encStr at K2;have ay:=iM RR.length (by omega)
   have b1:=iM 1 (by omega)
   have bb:(nb 1++(pP T T.length++(nb RR.length++RR))).length=(nb 1).length+(pP T T.length).length+(nb RR.length).length+RR.length:=by simp only[aF];omega
   have aj:br=⟨RR.toArray⟩:=a2.out.symm;have s1:(ByteArray.mk #[119,101,102,116]++ByteArray.mk (nb 1).toArray)=ByteArray.mk ([119,101,102,116]++nb 1).toArray:=ByteArray.mk_append_mk [119,101,102,116] _;have s2:(ByteArray.mk ([119,101,102,116]++nb 1).toArray++ByteArray.mk (pP T T.length).toArray)=ByteArray.mk ([119,101,102,116]++nb 1++pP T T.length).toArray:=ByteArray.mk_append_mk _ _;have s3:(ByteArray.mk ([119,101,102,116]++nb 1++pP T T.length).toArray++ByteArray.mk (nb RR.length).toArray)=ByteArray.mk ([119,101,102,116]++nb 1++pP T T.length++nb RR.length).toArray:=ByteArray.mk_append_mk _ _;have s4:(ByteArray.mk ([119,101,102,116]++nb 1++pP T T.length++nb RR.length).toArray++br)=ByteArray.mk ([119,101,102,116]++(nb 1++(pP T T.length++(nb RR.length++RR)))).toArray:=by
    rw[aj,ByteArray.mk_append_mk];simp only[aS]
   have z1:(ByteArray.mk ([119,101,102,116]++nb 1).toArray).size=4+(nb 1).length:=by show([119,101,102,116]++nb 1).toArray.size=_;rw[List.size_toArray,aF];rfl
   have z2:(ByteArray.mk ([119,101,102,116]++nb 1++pP T T.length).toArray).size=4+(nb 1).length+(pP T T.length).length:=by show([119,101,102,116]++nb 1++pP T T.length).toArray.size=_;rw[List.size_toArray,aF,aF];rfl
   have z3:(ByteArray.mk ([119,101,102,116]++nb 1++pP T T.length++nb RR.length).toArray).size=4+(nb 1).length+(pP T T.length).length+(nb RR.length).length:=by show([119,101,102,116]++nb 1++pP T T.length++nb RR.length).toArray.size=_;rw[List.size_toArray,aF,aF,aF];rfl
   have z4:(ByteArray.mk ([119,101,102,116]++(nb 1++(pP T T.length++(nb RR.length++RR)))).toArray).size=4+(nb 1++(pP T T.length++(nb RR.length++RR))).length:=by show([119,101,102,116]++(nb 1++(pP T T.length++(nb RR.length++RR)))).toArray.size=_;rw[List.size_toArray,aF];rfl
   have ae:=hid hF.out;clear hF a6 a3 a2 aj ai;generalize ByteArray.mk ([119,101,102,116]++(nb 1++(pP T T.length++(nb RR.length++RR)))).toArray=Z4 at *;generalize ByteArray.mk ([119,101,102,116]++nb 1++pP T T.length++nb RR.length).toArray=Z3 at *;generalize ByteArray.mk ([119,101,102,116]++nb 1++pP T T.length).toArray=Z2 at *;generalize ByteArray.mk ([119,101,102,116]++nb 1).toArray=Z1 at *;generalize nb 1++(pP T T.length++(nb RR.length++RR))=X at *;generalize ao:(nb 1).length=l1 at *;generalize ar:(nb RR.length).length=l2 at *;generalize hP:(pP T T.length).length=l3 at *;have y1:(ByteArray.mk (nb 1).toArray).size=l1:=ao;have y2:(ByteArray.mk (nb RR.length).toArray).size=l2:=ar;have y3:(ByteArray.mk (pP T T.length).toArray).size=l3:=hP;generalize ByteArray.mk (nb 1).toArray=M1 at *;generalize ByteArray.mk (nb RR.length).toArray=M2 at *;generalize ByteArray.mk (pP T T.length).toArray=M3 at *
   have q2:¬9223372036854775807<4+M1.size:=by omega
   have q3:¬9223372036854775807<Z1.size+M3.size:=by omega
   have q4:¬9223372036854775807<Z2.size+M2.size:=by omega
   have q5:¬9223372036854775807<Z3.size+br.size:=by omega
   have K4:=hid (fun(w7:World)=>cr.aCm Z4 w7 (by rw[z4];unfold maxLen;omega))
   unfold cr.tV at K4;have ap:(cr.iR Z4).size=X.length+7:=by rw[cr.pE,z4];omega
   generalize cr.iR Z4=Y at *;generalize a3:RR.length=lr at *;clear z1 z2 z3 z4 y1 y2 y3 ah bb b4 ba ay b1 ao ar hP;go_wp2_with fail;refine(K1.out w6).mono ?_;rintro e w7 ⟨rfl,b7⟩;have C7:=hid b7;clear b7 K1;go_wp2_with fail;refine(K2.out w7 C7.out).mono ?_;rintro e w8 ⟨rfl,b8⟩;have C8:=hid (C7.out.trans (b8.mono C7.out.size));clear b8 K2 C7;go_wp2_with fail;refine(K3.out w8).mono ?_;rintro e w9 ⟨rfl,b9⟩;have C9:=hid (C8.out.trans (b9.mono C8.out.size));clear b9 K3 C8;go_wp2_with fail;refine(K4.out w9).mono ?_;rintro e bf ⟨rfl,au⟩;have B7:=hid (HE.out _ (B6.out.trans ((C9.out.trans (au.mono C9.out.size)).mono B6.out.size)));clear au K4 C9 s1 s2 s3 s4 q2 q3 q4 q5
   by_cases h7:200000<X.length+7
   ·have q6:decide ((200000:Int)<(Y.size:Int))=true:=aC (by omega)
    have T1:=hid (a0.out 9 _ (o3.out h7) (by decide) B7.out)
    clear o3 o4 a0 a1 ap ae;go_wp2_with fail
    go_ret2
    exact T1.out
   ·have q6:decide ((200000:Int)<(Y.size:Int))=false:=aB (by omega)
    have T1:=a1.out _ (o4.out h7) B7.out;rw[ae.out]at T1;replace T1:=hid T1;clear o3 o4 a0 a1 ap ae;go_wp2_with fail
    go_ret2
    exact T1.out
end sf
end Go.Proofs.YtdmmkjijgoiecaaGreatDoor
