import Derived.Test.YtdmmkjijgoiecaaGreatDoorZ05
set_option linter.all false
set_option maxHeartbeats 4000000
namespace Go.Proofs.YtdmmkjijgoiecaaGreatDoor
open Lib(hid)
set_option maxRecDepth 100000
set_option maxHeartbeats 8000000
namespace sf
open RowKit Go.Sort Shelf mem vr po inn sy
open re (MU SU eY aAq mR RB WkP GSP pV RDP nQ pG)
open nm (iE bQ)
open cr (aGL cB iB aE9 aA8 aBB aA1 wQ flip aBs aEN aAu aDu sH pU at_end xS)
theorem aIE(a:Int)(n:Nat)(J:3≤n)(hn:n≤300000):∃f:Nat,wrap64 ((IntKind.u64.wrap a).tmod (8 * (n:Int)))=f∧f<8 * n:=by
 have h0:IntKind.u64.wrap a=a % 18446744073709551616:=IntKind.wrap_u64 a;have Y:(IntKind.u64.wrap a).tmod (8 * (n:Int))=a % 18446744073709551616 % (8 * (n:Int)):=by
  rw[h0,Int.tmod_eq_emod_of_nonneg (Int.emod_nonneg _ (by omega))]
 have h2:0≤a % 18446744073709551616 % (8 * (n:Int)):=Int.emod_nonneg _ (by omega)
 have J:a % 18446744073709551616 % (8 * (n:Int))<8 * (n:Int):=Int.emod_lt_of_pos _ (by omega)
 refine⟨(a % 18446744073709551616 % (8 * (n:Int))).toNat,?_,by omega⟩
 rw[Y,IntWalk.wrap64_in _ ⟨by omega,by omega⟩]
 omega
theorem aFC{s:SU}(hs:mR s)(h:fV s=0):∃n,(jT s).size=n∧(3≤n∧n≤200000)∧xS (jT s)=true∧fQ (jT s)=0:=by
 unfold jT;rw[if_pos h];have k:=uB h (pG hs) (nQ hs);exact⟨(gI s).size,rfl,by have:=(vY h).2.2.2;have:=xN s;omega,(yX k.1).2.1,k.1⟩
theorem aKf{s:SU}(h:fV s≠0):jT s=⟨#[]⟩:=by
 unfold jT;rw[if_neg h]
theorem aFq(a:MU)(at' a1:Int)(b6:(Lit.int .i64 at').wf=true)(Y:(Lit.int .u32 a1).wf=true)(w:World)(hs:eY w a)(hb:aAq RB a)(aa:iE w):Calls Tryz.prog 6 #[a.val,.int .i64 at',.int .u32 a1] w (WkP w):=by
 have hx:-9223372036854775808≤at'∧at'≤9223372036854775807:=by simpa[Lit.wf,IntKind.min,IntKind.max,IntKind.signed,IntKind.bits] using b6
 have hy:0≤a1∧a1≤4294967295:=by simpa[Lit.wf,IntKind.min,IntKind.max,IntKind.signed,IntKind.bits] using Y
 obtain⟨b,rfl⟩:=Int.eq_ofNat_of_zero_le hy.1;clear b6 Y;obtain⟨W,a8⟩:∃W,Hid (W=w.alloc (.cells a.row 29)):=⟨_,hid rfl⟩;have b0:Below w.heap.size w W:=by rw[a8.out];exact(Below.refl _ _).alloc (aY _) _
 have B:bT W w.heap.size 29 a.row:=by rw[a8.out];exact bT.new _ _ _
 have HC:Hid (∀J,Below W.heap.size W J→J.cell? ⟨w.heap.size,0,none⟩=some (.string a.name)∧J.cell? ⟨w.heap.size,1,none⟩=some (.slice a.gA a.gives.length a.gc)∧J.cell? ⟨w.heap.size,2,none⟩=some (.slice a.wA a.wants.length a.wc)∧J.cell? ⟨w.heap.size,3,none⟩=some (.slice a.kA a.keeps.length a.kc)∧J.cell? ⟨w.heap.size,4,none⟩=some (.slice a.s.oA a.s.os.length a.s.oc)∧J.cell? ⟨w.heap.size,5,none⟩=some (.slice a.s.fA a.s.fs.length a.s.fc)∧J.cell? ⟨w.heap.size,6,none⟩=some (.slice a.s.cA a.s.cs.length a.s.cc)):=hid (fun J b=>by
  have x:=B.kept (Fr.of_below b []) (by simp)
  exact⟨x.cell 0,x.cell 1,x.cell 2,x.cell 3,x.cell 4,x.cell 5,x.cell 6⟩)
 have HE:Hid (∀J,Below W.heap.size W J→Below w.heap.size w J):=hid (fun J b=>b0.trans (b.mono b0.size))
 have R0:=hid (Below.refl W.heap.size W);have HT:Hid (∀J,Below w.heap.size w J→iE J):=hid fun J b=>bQ aa b
 have KG:=hid (fun(J:World) (x:Below W.heap.size W J)=>pV a J ((hs.below b0).below x) hb)
 have KW:=hid (xH W (HT.out W b0));have KE:=hid (fun(h:mR a.su) (J:World) (x:Below W.heap.size W J)=>mP J a (aBn ((hs.below b0).below x) hb h) (HT.out J (HE.out J x)))
 have TD:Hid (∀(u:ByteArray) (J:World),u.size≤300000→Below w.heap.size w J→Calls Tryz.prog 12 #[.string u] J (RDP (jV u) (fQ u) J)):=hid (fun u J h x=>qQ u J (by unfold maxLen;omega) (HT.out J x))
 have HF:Hid (mR a.su→fV a.su=0→∃n,(jT a.su).size=n∧(3≤n∧n≤200000)∧xS (jT a.su)=true∧fQ (jT a.su)=0):=hid aFC;have ah:Hid (fV a.su≠0→jT a.su=⟨#[]⟩):=hid aKf;unfold GSP at KG;unfold aAd at KE;unfold WkP at KW ⊢;unfold RDP at TD;unfold MU.val at KG KE ⊢;unfold MU.row at *;clear hs hb aa HT b0 B;generalize jT a.su=t at *;generalize fV a.su=EA at *;have a5:=aGL;obtain⟨x0,x1,x2,x3,x4,x5,x6⟩:=HC.out W R0.out;go_enter Tryz.func6,Tryz.ntmps6;go_upto_region 1 with fail;rw[←a8.out];clear a8;generalize a6:w.heap.size=bx at *;replace a6:=hid a6;clear x0 x1 x2 x3 x4 x5 x6;go_wp2_with fail;refine KW.out.mono ?_;rintro e J ⟨rfl,b2⟩;have B2:=hid b2;have KA:=hid (KG.out J B2.out);clear b2 KW KG R0;obtain⟨x0,x1,x2,x3,x4,x5,x6⟩:=HC.out J B2.out;go_wp2_with fail;refine KA.out.mono ?_;rintro e w3 ⟨r,rfl,b3,hr⟩;have B3:=hid (B2.out.trans (b3.mono B2.out.size))
 replace hr:=hid hr;clear b3 KA x0 x1 x2 x3 x4 x5 x6 B2
 rcases r with _ | _
 rotate_left
 ·have T:=hid (HE.out _ B3.out)
  clear KE TD HF ah HC HE B3 hr a5;go_wp2_with fail;go_ret;exact⟨rfl,by rw[a6.out];exact T.out⟩
 have ag:=hid (hr.out rfl);replace HF:=hid (HF.out ag.out);have KA:=hid (KE.out ag.out w3 B3.out);clear hr KE ag;obtain⟨x0,x1,x2,x3,x4,x5,x6⟩:=HC.out w3 B3.out;go_wp2_with fail;refine KA.out.mono ?_;rintro e J ⟨rfl,b4⟩;have T:=hid (HE.out _ (B3.out.trans (b4.mono B3.out.size)));clear b4 KA B3 x0 x1 x2 x3 x4 x5 x6 HC HE;rw[←a6.out]at T TD;clear a6
 by_cases hA:EA=0
 rotate_left
 ·have p2:(EA != 0)=true:=by simpa using hA
  clear TD HF ah hA a5;go_wp2_with fail;go_ret;exact⟨rfl,T.out⟩
 have p2:(EA != 0)=false:=by simpa using hA
 obtain⟨n,av,⟨h3,hm⟩,am,az⟩:=HF.out hA;have bel:=T.out;have ap:=hid am;have ar:=hid az;clear HF ah hA T am az;have hz:((n:Int)==0)=false:=by rw[bI];omega
 go_wp2_with fail;obtain⟨f,hf,bc⟩:=aIE at' n h3 (by omega)
 rw[hf];clear hf;obtain⟨B,hB,au⟩:∃B:Nat,(b:Int) % 16777216=B∧B<16777216:=⟨b % 16777216,by omega,by omega⟩
 rw[hB];clear hB;have hN:=cB t;have a4:Hid (∀q,q<n→(bytesRow t (grownCap J n 0 5))[q]? = some (.int .u8 ((t.data.toList.getD q 0).toNat:Int))):=hid fun q hq=>by
  rw[bytesRow_at t _ q (by have:t.data.size=t.size:=rfl;omega)]
  rw[List.getD_eq_getElem?_getD,aN (by omega)]
  simp
 go_loopw [11,12] (fun tn i wr=>∃(k:Nat) (l:List UInt8) (tb:Bool),k≤24∧i=.int .i64 k∧tn=.bool tb∧l.length=n ∧
  Hid (∀q,q<n→wr.cell? ⟨J.heap.size,q,none⟩=some (.int .u8 ((l.getD q 0).toNat:Int)))∧Hid (∀q,q<n→wr.frozen? ⟨J.heap.size,q,none⟩=false)∧J.heap.size<wr.heap.size∧Below w.heap.size w wr ∧
  Hid (∀i,i<8 * n→iB l i=xor (iB t.data.toList i) (decide (f≤i∧i<f+k)&&B.testBit (i-f)))∧Hid (tb=true↔∃j,j<k∧f+j<8 * n∧B.testBit j=true)∧Hid (tb=false→l=t.data.toList)) (fun _ i _=>24-(intOf i).toNat)
 case atStart=>
  refine⟨0,t.data.toList,false,by omega,rfl,rfl,by omega,hid fun q hq=>?_,hid fun q hq=>?_,by simp,((bel.drew).alloc (by simpa using bel.size) _),hid fun i _=>?_,hid ⟨fun h=>(by cases h),fun h=>(by obtain⟨j,hj,_⟩:=h;omega)⟩,hid fun _=>rfl⟩
  ·rw[←a4.out q hq]
   exact aE9 _ _ _ _ _
  ·have b9:=a4.out q hq
   have b8:q<(bytesRow t (grownCap J n 0 5)).size:=(bB.1 b9).1;exact aA8 _ _ _ _ b8
  ·have:decide (f≤i∧i<f+0)=false:=aB (by omega)
   rw[this];simp
 case round=>
  obtain⟨k,l,tb,hk,rfl,rfl,hlen,hcell,ai,af,a2,Y,a7,a3⟩:=hrel
  by_cases ax:k<24∧f+k<8 * n
  ·obtain⟨a9,ay⟩:=ax
   rcases a0:B.testBit k with _ | _
   ·have h1:=aBB B k au
    rw[a0]at h1;have H1:Hid (∀i,i<8 * n→iB l i=xor (iB l i) (decide (i=f+k)&&B.testBit k)):=hid fun i _=>by rw[a0];simp
    have H2:=hid (aA1 tb f k B _ a7.out ay);have Hb:=hid a0;clear a0;go_wp2_with fail
    go_roundw
    case rel=>exact⟨k+1,l,tb,by omega,by go_num,rfl,hlen,hcell,ai,af,a2,hid (wQ _ _ _ _ _ _ Y.out l H1.out),hid (by have:=H2.out;rw[Hb.out,Bool.or_false]at this;exact this),a3⟩
    case measure=>simp[intOf];omega
   ·have hc:=hcell.out ((f+k) / 8) (by omega)
    have bb:=ai.out ((f+k) / 8) (by omega)
    have h1:=aBB B k au;rw[a0]at h1;have Hv:=hid (aBs l (f+k));have Hf:=hid (fun i=>aEN l (f+k) i (by omega))
    have H2:=hid (aA1 tb f k B _ a7.out ay);have Hb:=hid a0;clear a0;go_wp2_with fail
    go_region
    go_wp2_with fail;rw[Hv.out]
    go_roundw
    case rel=>
     have hx:=(l.getD ((f+k) / 8) 0).toNat_lt;refine⟨k+1,flip l (f+k),true,by omega,by go_num,rfl,by rw[aAu];exact hlen,hid fun q hq=>?_,hid fun q hq=>?_,by simpa[World.setCell] using af,(a2.setCell (by have:=bel.size;simpa using this) _).drew,hid (wQ _ _ _ _ _ _ Y.out _ fun i _=>?_),hid (by have:=H2.out;rw[Hb.out,Bool.or_true]at this;exact this),hid fun h=>(by cases h)⟩
     ·by_cases he:(f+k) / 8=q
      ·subst he
       have e:(wr.setCell ⟨J.heap.size,(f+k) / 8,none⟩ (.int .u8 (((l.getD ((f+k) / 8) 0).toNat ^^^ 2 ^ (7-(f+k) % 8):Nat):Int))).cell? ⟨J.heap.size,(f+k) / 8,none⟩=some (.int .u8 (((l.getD ((f+k) / 8) 0).toNat ^^^ 2 ^ (7-(f+k) % 8):Nat):Int)):=World.cell?_setCell_same _ _ _ hc
       show(wr.setCell _ _).cell? _=_
       rw[e];unfold cr.flip;rw[sH _ _ _ (by omega)]
       have ba:=aDu (l.getD ((f+k) / 8) 0).toNat ((f+k) % 8) (by omega)
       have e3:(UInt8.ofNat ((l.getD ((f+k) / 8) 0).toNat ^^^ 2 ^ (7-(f+k) % 8))).toNat=(l.getD ((f+k) / 8) 0).toNat ^^^ 2 ^ (7-(f+k) % 8):=by
        show _ % 256=_
        omega
       rw[e3]
      ·have e:(wr.setCell ⟨J.heap.size,(f+k) / 8,none⟩ (.int .u8 (((l.getD ((f+k) / 8) 0).toNat ^^^ 2 ^ (7-(f+k) % 8):Nat):Int))).cell? ⟨J.heap.size,q,none⟩=wr.cell? ⟨J.heap.size,q,none⟩:=World.cell?_setCell_other _ _ _ _ (by intro h;exact he (by injection h))
       show(wr.setCell _ _).cell? _=_
       rw[e,hcell.out q hq];unfold cr.flip;rw[pU _ _ _ _ he]
     ·show(wr.setCell _ _).frozen? _=_
      rw[World.frozen?_setCell];exact ai.out q hq
     ·rw[Hf.out i,Hb.out,Bool.and_true]
    case measure=>simp[intOf];omega
  ·have Hk:Hid (xS ⟨l.toArray⟩=!tb):=hid (at_end t l f k B tb ap.out (by omega) (by omega) (by rw[av];exact Y.out) hk (by omega) (by rw[av];exact a7.out))
   have b7:(convert 44 9 (.slice (some ⟨J.heap.size,0,none⟩) n (grownCap J n 0 5))).run Tryz.prog wr=.ok (.string ⟨l.toArray⟩) wr:=by
    rw[←hlen];refine run_convert_bytes_back wr _ _ 5 _ _ l Tryz.underlying44 Tryz.underlying5 Tryz.underlying9 fun j hj=>?_
    have:=hcell.out j (by omega)
    rw[Go.WideShapes.add_plain,Nat.zero_add,this,List.getD_eq_getElem?_getD,aN hj];rfl
   have ak:(ByteArray.mk l.toArray).size=n:=by rw[←hlen];simp[ByteArray.size]
   have KD:=hid (fun w3 h=>TD.out ⟨l.toArray⟩ w3 (by rw[ak];omega) h)
   have ao:fQ ⟨l.toArray⟩=if tb then 14 else 0:=by
    cases tb
    ·have e:=a3.out rfl
     have e2:(⟨l.toArray⟩:ByteArray)=t:=by rw[e]
     rw[e2];exact ar.out
    ·exact d2 (by rw[ak];omega) (by rw[Hk.out];rfl)
   rw[ao]at KD;have aj:=hid (KD.out wr a2);have aw:=hid (KD.out wr.drew a2.drew);have HB:=hid a2;have b1:k<24→8 * n≤f+k:=by omega
   clear KD ao Hk ar ap a3 Y a7 TD
   by_cases a9:k<24
   all_goals
    have ae:=b1;clear b1 ax
    try replace ae:=ae a9
    cases tb
    all_goals
     simp only[if_true,if_false,Bool.false_eq_true]at aj aw;go_wp2_with fail;refine aj.out.mono ?_;rintro e w5 ⟨u,rfl,-,-,b5⟩;have T:=hid (HB.out.trans (b5.mono HB.out.size));clear b5 aj aw HB;unfold MU.val MU.row;go_upto_region 19 with fail;have fa:=hid (T.out.alloc T.out.size (.cells #[.string u.name,.slice u.gA u.gives.length u.gc,.slice u.wA u.wants.length u.wc,.slice u.kA u.keeps.length u.kc,.slice u.s.oA u.s.os.length u.s.oc,.slice u.s.fA u.s.fs.length u.s.fc,.slice u.s.cA u.s.cs.length u.s.cc] 29));generalize w5.alloc (.cells #[.string u.name,.slice u.gA u.gives.length u.gc,.slice u.wA u.wants.length u.wc,.slice u.kA u.keeps.length u.kc,.slice u.s.oA u.s.os.length u.s.oc,.slice u.s.fA u.s.fs.length u.s.fc,.slice u.s.cA u.s.cs.length u.s.cc] 29)=w6 at *;clear T;go_wp2_with fail;go_ret;exact⟨rfl,fa.out⟩
end sf
set_option maxRecDepth 100000
namespace sf
open RowKit ChangeShapes WideShapes mem sy
open re (yG RB qH WkP)
open nm (iE)
theorem pf_turned(H:Type)(enc:TypeId×Value→H)(W:World){base:Nat}(v:Value)(d:DataW H)(p:List MemPlace)(k:DataW.Trod enc Tryz.prog W 0 (fun _=>true) true 29 v d p)(o:Value.okWide Tryz.prog W .any base 29 v)(hw:∀n∈d.weights Tryz.prog 29,n≤reachBytes)
 (Y:Int) (w1:(Lit.int .i64 Y).wf=true) (a2:Int) (w2:(Lit.int .u32 a2).wf=true) (J:iE W) :
 Calls Tryz.prog 6 #[v,.int .i64 Y,.int .u32 a2] W (WkP W):=by
 obtain⟨u,rfl,hs,hb⟩:=yG (B:=RB) v d p k o (fun n hn=>by rw[←qH];exact hw n hn)
 exact aFq u Y a2 w1 w2 W hs hb J
end sf
end Go.Proofs.YtdmmkjijgoiecaaGreatDoor
