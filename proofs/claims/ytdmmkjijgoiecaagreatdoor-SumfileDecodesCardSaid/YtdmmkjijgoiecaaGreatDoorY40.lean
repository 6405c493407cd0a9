import Derived.Deep.DeepCutAuto
import Derived.Test.YtdmmkjijgoiecaaGreatDoorY39
set_option linter.all false
set_option maxHeartbeats 4000000
namespace Go.Proofs.YtdmmkjijgoiecaaGreatDoor
open Lib(hid)
set_option maxHeartbeats 16000000
set_option maxRecDepth 100000
namespace sy
open RowKit mem
open nm (jI bR)
def jH(nb rb:Bool):Int:=if nb=false then 11 else if rb=true then 0 else 3
theorem aE0(c:SC)(J:1≤c.op)(Y:c.op≤6):iN c=jH (aBY c) (bP c):=by
 unfold iN jH;rw[if_neg (by omega)]
theorem aMJ(x:MC)(w:World)(hx:COk w x)(J:jI w)(a8:x.c.op=1):Calls Tryz.prog 121 #[.agg x.row.toArray] w (dG (jH (dO x.c.a&&mR x.c.b) (decide (x.c.k=0)&&(decide (x.c.tag.size=0)&&decide (x.c.args.length=0)))) w):=by
 have HA:=hid (fun w' (hb:Below w.heap.size w w')=>mI x.c.a w' hx.a (bR J hb));have HB:=hid (fun w' (hb:Below w.heap.size w w')=>aF1 x.c.b w' hx.b (bR J hb));unfold dA at HA HB;have hz:=jL x.c.tag;obtain⟨⟨op,a,b,k,tag,args⟩,aA,ac⟩:=x;unfold MC.row;dsimp only at *;clear hx J;unfold dG;generalize dO a=na at *;generalize mR b=nb at *;generalize args.length=n at *;subst a8;obtain⟨Z,hZ⟩:∃Z,Hid (jH (na&&nb) (decide (k=0)&&(decide (tag.size=0)&&decide (n=0)))=Z):=⟨_,hid rfl⟩;rw[hZ.out];go_enter Tryz.func121,Tryz.ntmps121;obtain⟨rb,a0⟩:∃r,Hid (r=(decide (k=0)&&(decide (tag.size=0)&&decide (n=0)))):=⟨_,hid rfl⟩;go_upto_region 9 with fail
 go_cut [5] (fun s5 wx=>s5=.bool rb∧(w.alloc (.cells #[.int .i64 1,.string a,.string b,.int .i64 k,.string tag,.slice aA n ac] 105))=wx)
 case first=>
  by_cases hk:k=0
  ·have dk:(k==0)=true:=by simpa using hk
   have a3:=hid hk;clear hk;by_cases ht:tag.size=0
   ·have a4:=hid ht
    rw[show(tag.size==0)=true by simpa using ht]at hz;clear ht;have hn:=hid (show((n:Int)==0)=decide (n=0) by rw[Bool.eq_iff_iff];simp);go_wp2_with fail
    go_meet
    exact⟨congrArg Value.bool (by rw[a0.out,aC a3.out,aC a4.out,hn.out];rfl),rfl⟩
   ·have a4:=hid ht
    rw[show(tag.size==0)=false by simpa using ht]at hz;clear ht;go_wp2_with fail
    go_meet
    exact⟨congrArg Value.bool (by rw[a0.out,aC a3.out,aB a4.out];rfl),rfl⟩
  ·have dk:(k==0)=false:=by simpa using hk
   have a3:=hid hk;clear hk;go_wp2_with fail
   go_meet
   exact⟨congrArg Value.bool (by rw[a0.out,aB a3.out];rfl),rfl⟩
 obtain⟨rfl,rfl⟩:=hcut;have a2:Hid (jH (na&&nb) rb=Z):=hid (by rw[a0.out];exact hZ.out);clear hZ a0;clear hz;have X:=bV.new w 105 #[.int .i64 1,.string a,.string b,.int .i64 k,.string tag,.slice aA n ac];have a6:=hid (((Fr.refl [] w).alloc (.cells #[.int .i64 1,.string a,.string b,.int .i64 k,.string tag,.slice aA n ac] 105)).all);have x1:=X.cell 1;have x2:=X.cell 2;simp only[aL,aJ,aK]at x1 x2;clear X;go_wp2_with fail;refine(HA.out _ a6.out).mono ?_;rintro e w2 ⟨rfl,a1⟩;have Y:=hid (a6.out.trans (a1.mono a6.out.size));rcases na with _ | _
 ·clear a1 x2
  go_wp2_with fail;go_ret;exact⟨rI a2.out,Y.out⟩
 have y2:=(a1.cell (p:=⟨w.heap.size,2,none⟩) (block_lt_of_cell x2)).trans x2;clear a1 x2;go_wp2_with fail;refine(HB.out _ Y.out).mono ?_;rintro e w4 ⟨rfl,a7⟩;have a5:=hid (Y.out.trans (a7.mono Y.out.size));clear Y a7;rcases nb with _ | _
 ·go_wp2_with fail
  go_ret;exact⟨rI a2.out,a5.out⟩
 rcases rb with _ | _
 ·go_wp2_with fail
  go_ret;exact⟨rI a2.out,a5.out⟩
 ·go_wp2_with fail
  go_ret;exact⟨rI a2.out,a5.out⟩
theorem aLo(x:MC)(w:World)(hx:COk w x)(J:jI w)(h1:2≤x.c.op)(h4:x.c.op≤4):Calls Tryz.prog 121 #[.agg x.row.toArray] w (dG (jH (dO x.c.a&&dO x.c.b) (decide (x.c.k=0)&&(decide (x.c.tag.size=0)&&decide (x.c.args.length=0)))) w):=by
 have HA:=hid (fun w' (hb:Below w.heap.size w w')=>mI x.c.a w' hx.a (bR J hb));have HB:=hid (fun w' (hb:Below w.heap.size w w')=>mI x.c.b w' hx.b (bR J hb));unfold dA at HA HB;have hz:=jL x.c.tag;obtain⟨⟨op,a,b,k,tag,args⟩,aA,ac⟩:=x;unfold MC.row;dsimp only at *;clear hx J;unfold dG;generalize dO a=na at *;generalize dO b=nb at *;generalize args.length=n at *;have e1:decide (op<1)=false:=aB (by omega);have e2:decide (6<op)=false:=aB (by omega);have e3:(op==1)=false:=by simp;omega
 have e4:(op==5)=false:=by simp;omega
 have e5:(op==6)=false:=by simp;omega
 clear h1 h4;obtain⟨Z,hZ⟩:∃Z,Hid (jH (na&&nb) (decide (k=0)&&(decide (tag.size=0)&&decide (n=0)))=Z):=⟨_,hid rfl⟩;rw[hZ.out];go_enter Tryz.func121,Tryz.ntmps121;obtain⟨rb,a0⟩:∃r,Hid (r=(decide (k=0)&&(decide (tag.size=0)&&decide (n=0)))):=⟨_,hid rfl⟩;go_upto_region 9 with fail
 go_cut [5] (fun s5 wx=>s5=.bool rb∧(w.alloc (.cells #[.int .i64 op,.string a,.string b,.int .i64 k,.string tag,.slice aA n ac] 105))=wx)
 case first=>
  by_cases hk:k=0
  ·have dk:(k==0)=true:=by simpa using hk
   have a3:=hid hk;clear hk;by_cases ht:tag.size=0
   ·have a4:=hid ht
    rw[show(tag.size==0)=true by simpa using ht]at hz;clear ht;have hn:=hid (show((n:Int)==0)=decide (n=0) by rw[Bool.eq_iff_iff];simp);go_wp2_with fail
    go_meet
    exact⟨congrArg Value.bool (by rw[a0.out,aC a3.out,aC a4.out,hn.out];rfl),rfl⟩
   ·have a4:=hid ht
    rw[show(tag.size==0)=false by simpa using ht]at hz;clear ht;go_wp2_with fail
    go_meet
    exact⟨congrArg Value.bool (by rw[a0.out,aC a3.out,aB a4.out];rfl),rfl⟩
  ·have dk:(k==0)=false:=by simpa using hk
   have a3:=hid hk;clear hk;go_wp2_with fail
   go_meet
   exact⟨congrArg Value.bool (by rw[a0.out,aB a3.out];rfl),rfl⟩
 obtain⟨rfl,rfl⟩:=hcut;have a2:Hid (jH (na&&nb) rb=Z):=hid (by rw[a0.out];exact hZ.out);clear hZ a0;clear hz;have X:=bV.new w 105 #[.int .i64 op,.string a,.string b,.int .i64 k,.string tag,.slice aA n ac];have a6:=hid (((Fr.refl [] w).alloc (.cells #[.int .i64 op,.string a,.string b,.int .i64 k,.string tag,.slice aA n ac] 105)).all);have x1:=X.cell 1;have x2:=X.cell 2;simp only[aL,aJ,aK]at x1 x2;clear X;go_wp2_with fail;refine(HA.out _ a6.out).mono ?_;rintro e w2 ⟨rfl,a1⟩;have Y:=hid (a6.out.trans (a1.mono a6.out.size));rcases na with _ | _
 ·clear a1 x2
  go_wp2_with fail;go_ret;exact⟨rI a2.out,Y.out⟩
 have y2:=(a1.cell (p:=⟨w.heap.size,2,none⟩) (block_lt_of_cell x2)).trans x2;clear a1 x2;go_wp2_with fail;refine(HB.out _ Y.out).mono ?_;rintro e w4 ⟨rfl,a7⟩;have a5:=hid (Y.out.trans (a7.mono Y.out.size));clear Y a7;rcases nb with _ | _
 ·go_wp2_with fail
  go_ret;exact⟨rI a2.out,a5.out⟩
 rcases rb with _ | _
 ·go_wp2_with fail
  go_ret;exact⟨rI a2.out,a5.out⟩
 ·go_wp2_with fail
  go_ret;exact⟨rI a2.out,a5.out⟩
theorem aMG(x:MC)(w:World)(hx:COk w x)(a4:jI w)(a9:x.c.op=5):Calls Tryz.prog 121 #[.agg x.row.toArray] w (dG (jH (dO x.c.a&&dO x.c.b) (decide (0≤x.c.k)&&(decide (x.c.k≤64)&&(sZ x.c.tag&&decide (x.c.args.length=0))))) w):=by
 have HA:=hid (fun w' (hb:Below w.heap.size w w')=>mI x.c.a w' hx.a (bR a4 hb));have HB:=hid (fun w' (hb:Below w.heap.size w w')=>mI x.c.b w' hx.b (bR a4 hb));unfold dA at HA HB;have hz:=jL x.c.tag;obtain⟨⟨op,a,b,k,tag,args⟩,aA,ac⟩:=x;unfold MC.row;dsimp only at *;have HT:=hid (fun w=>aEP tag w hx.t);clear hx a4;unfold dG;generalize dO a=na at *;generalize dO b=nb at *;generalize sZ tag=tb at *;generalize args.length=n at *;subst a9;obtain⟨Z,hZ⟩:∃Z,Hid (jH (na&&nb) (decide (0≤k)&&(decide (k≤64)&&(tb&&decide (n=0))))=Z):=⟨_,hid rfl⟩;rw[hZ.out];go_enter Tryz.func121,Tryz.ntmps121;obtain⟨r0,a6⟩:∃r,Hid (r=(decide (k=0)&&(decide (tag.size=0)&&decide (n=0)))):=⟨_,hid rfl⟩;go_upto_region 9 with fail
 go_cut [5] (fun s5 wx=>s5=.bool r0∧(w.alloc (.cells #[.int .i64 5,.string a,.string b,.int .i64 k,.string tag,.slice aA n ac] 105))=wx)
 case first=>
  by_cases hk:k=0
  ·have dk:(k==0)=true:=by simpa using hk
   have a7:=hid hk;clear hk;by_cases ht:tag.size=0
   ·have a8:=hid ht
    rw[show(tag.size==0)=true by simpa using ht]at hz;clear ht;have hn:=hid (show((n:Int)==0)=decide (n=0) by rw[Bool.eq_iff_iff];simp);go_wp2_with fail
    go_meet
    exact⟨congrArg Value.bool (by rw[a6.out,aC a7.out,aC a8.out,hn.out];rfl),rfl⟩
   ·have a8:=hid ht
    rw[show(tag.size==0)=false by simpa using ht]at hz;clear ht;go_wp2_with fail
    go_meet
    exact⟨congrArg Value.bool (by rw[a6.out,aC a7.out,aB a8.out];rfl),rfl⟩
  ·have dk:(k==0)=false:=by simpa using hk
   have a7:=hid hk;clear hk;go_wp2_with fail
   go_meet
   exact⟨congrArg Value.bool (by rw[a6.out,aB a7.out];rfl),rfl⟩
 obtain⟨rfl,rfl⟩:=hcut;clear hz a6;have X:=bV.new w 105 #[.int .i64 5,.string a,.string b,.int .i64 k,.string tag,.slice aA n ac];have a1:=hid (((Fr.refl [] w).alloc (.cells #[.int .i64 5,.string a,.string b,.int .i64 k,.string tag,.slice aA n ac] 105)).all);have x1:=X.cell 1;have x2:=X.cell 2;simp only[aL,aJ,aK]at x1 x2;clear X;have a5:=hid hZ.out;by_cases h0:0≤k;rotate_left
 ·have d9:decide (0≤k)=false:=aB h0
  have a0:Hid (jH (na&&nb) false=Z):=hid (by rw[←hZ.out,d9];rfl);clear hZ HT a5;go_wp2_with fail;refine(HA.out _ a1.out).mono ?_;rintro e w2 ⟨rfl,Y⟩;have J:=hid (a1.out.trans (Y.mono a1.out.size));rcases na with _ | _
  ·clear Y x2
   go_wp2_with fail;go_ret;exact⟨rI a0.out,J.out⟩
  have y2:=(Y.cell (p:=⟨w.heap.size,2,none⟩) (block_lt_of_cell x2)).trans x2;clear Y x2;go_wp2_with fail;refine(HB.out _ J.out).mono ?_;rintro e w4 ⟨rfl,a3⟩;have a2:=hid (J.out.trans (a3.mono J.out.size));clear J a3;rcases nb with _ | _
  ·go_wp2_with fail
   go_ret;exact⟨rI a0.out,a2.out⟩
  go_wp2_with fail;go_ret;exact⟨rI a0.out,a2.out⟩
 have d0:decide (0≤k)=true:=aC h0;by_cases h1:k≤64;rotate_left
 ·have d9:decide (k≤64)=false:=aB h1
  have a0:Hid (jH (na&&nb) false=Z):=hid (by rw[←hZ.out,d0,d9];rfl);clear hZ HT a5;go_wp2_with fail;refine(HA.out _ a1.out).mono ?_;rintro e w2 ⟨rfl,Y⟩;have J:=hid (a1.out.trans (Y.mono a1.out.size));rcases na with _ | _
  ·clear Y x2
   go_wp2_with fail;go_ret;exact⟨rI a0.out,J.out⟩
  have y2:=(Y.cell (p:=⟨w.heap.size,2,none⟩) (block_lt_of_cell x2)).trans x2;clear Y x2;go_wp2_with fail;refine(HB.out _ J.out).mono ?_;rintro e w4 ⟨rfl,a3⟩;have a2:=hid (J.out.trans (a3.mono J.out.size));clear J a3;rcases nb with _ | _
  ·go_wp2_with fail
   go_ret;exact⟨rI a0.out,a2.out⟩
  go_wp2_with fail;go_ret;exact⟨rI a0.out,a2.out⟩
 have d1:decide (k≤64)=true:=aC h1;rcases tb with _ | _
 ·have a0:Hid (jH (na&&nb) false=Z):=hid (by rw[←hZ.out,d0,d1];rfl)
  clear hZ a5
  go_wp2_with (refine(HT.out _).mono ?_;rintro e w9 ⟨rfl,rfl⟩)
  refine(HA.out _ a1.out).mono ?_;rintro e w2 ⟨rfl,Y⟩;have J:=hid (a1.out.trans (Y.mono a1.out.size));rcases na with _ | _
  ·clear Y x2
   go_wp2_with fail;go_ret;exact⟨rI a0.out,J.out⟩
  have y2:=(Y.cell (p:=⟨w.heap.size,2,none⟩) (block_lt_of_cell x2)).trans x2;clear Y x2;go_wp2_with fail;refine(HB.out _ J.out).mono ?_;rintro e w4 ⟨rfl,a3⟩;have a2:=hid (J.out.trans (a3.mono J.out.size));clear J a3;rcases nb with _ | _
  ·go_wp2_with fail
   go_ret;exact⟨rI a0.out,a2.out⟩
  go_wp2_with fail;go_ret;exact⟨rI a0.out,a2.out⟩
 have hn:=hid (show((n:Int)==0)=decide (n=0) by rw[Bool.eq_iff_iff];simp);have a0:Hid (jH (na&&nb) ((n:Int)==0)=Z):=hid (by rw[←hZ.out,d0,d1,hn.out];rfl);clear hZ a5 hn;rcases hv:((n:Int)==0)with _ | _
 all_goals
  rw[hv]at a0
  go_wp2_with (refine(HT.out _).mono ?_;rintro e w9 ⟨rfl,rfl⟩)
  refine(HA.out _ a1.out).mono ?_;rintro e w2 ⟨rfl,Y⟩;have J:=hid (a1.out.trans (Y.mono a1.out.size));rcases na with _ | _
  ·clear Y x2
   go_wp2_with fail;go_ret;exact⟨rI a0.out,J.out⟩
  have y2:=(Y.cell (p:=⟨w.heap.size,2,none⟩) (block_lt_of_cell x2)).trans x2;clear Y x2;go_wp2_with fail;refine(HB.out _ J.out).mono ?_;rintro e w4 ⟨rfl,a3⟩;have a2:=hid (J.out.trans (a3.mono J.out.size));clear J a3;rcases nb with _ | _
  ·go_wp2_with fail
   go_ret;exact⟨rI a0.out,a2.out⟩
  go_wp2_with fail;go_ret;exact⟨rI a0.out,a2.out⟩
open nm (Nd eU dV jK iG jS kP)
def kM(d:Nd)(J:Int)(w:World)(e:Ending)(w':World):Prop:=e=.returned (.tuple #[.agg #[.int .i64 d.kind,.string d.fn,.int .i64 d.copy,.string d.name,.int .i64 d.n,.int .i64 d.cell],.int .i64 J])∧Below w.heap.size w w'
theorem sJ(s:ByteArray)(hs:s.size≤maxLen):∃(d:Nd) (e0:Int),Hid (mY s=(decide (e0=0)&&decide (d.kind=3)))∧∀w,Calls Tryz.prog 117 #[.string s] w (kM d e0 w):=by
 rcases hr:eU s with _ | _
 ·have Y:mY s=false:=by
   unfold mY;rw[hr];rfl
  have J:∀w,Calls Tryz.prog 117 #[.string s] w (jS w):=fun w=>jK s w hs hr
  rw[Y];obtain⟨d,hd⟩:∃d:Nd,d=⟨0,⟨#[]⟩,0,⟨#[]⟩,0,0⟩:=⟨_,rfl⟩;refine⟨d,11,hid rfl,fun w=>?_⟩;have h:=J w;unfold kM;rw[hd];unfold jS at h;exact h
 ·have Y:mY s=(decide ((0:Int)=0)&&decide ((dV s).kind=3)):=by
   unfold mY;rw[hr];rfl
  have J:∀w,Calls Tryz.prog 117 #[.string s] w fun e w'=>e=.returned (.tuple #[(dV s).val,.int .i64 0])∧Below w.heap.size w w':=fun w=>iG s w hs hr
  generalize dV s=d at Y J;exact⟨d,0,hid Y,J⟩
theorem aLD(x:MC)(w:World)(hx:COk w x)(a5:x.c.op=1):Calls Tryz.prog 116 #[.agg x.row.toArray] w (dG (jH (dO x.c.a&&mR x.c.b) (decide (x.c.k=0)&&(decide (x.c.tag.size=0)&&decide (x.c.args.length=0)))) w):=by
 obtain⟨d,e0,a8,a3⟩:=sJ x.c.a hx.a;have HD:=hid a3;have HA:=hid (fun w'=>jB x.c.a w' hx.a);have HB:=hid (fun w'=>aDS x.c.b w' hx.b);have a7:=hx.t;have hz:=jL x.c.tag;unfold maxLen at a7;unfold dA at HA HB;unfold kM at HD;clear a3;obtain⟨⟨op,a,b,k,tag,args⟩,aA,ac⟩:=x;obtain⟨dk,df,dc,dn,dm,dl⟩:=d;unfold MC.row at *;dsimp only at *;clear hx;unfold dG;generalize dO a=na at *;generalize mR b=nb at *;generalize args.length=n at *;subst a5;obtain⟨V,hV⟩:∃V,Hid (V=jH (na&&nb) (decide (k=0)&&(decide (tag.size=0)&&decide (n=0)))):=⟨_,hid rfl⟩;rw[←hV.out];go_enter Tryz.func116,Tryz.ntmps116;go_wp2_with fail;refine(HD.out _).mono ?_;rintro e w2 ⟨rfl,a0⟩;have X2:=hid ((RC.new w #[.int .i64 1,.string a,.string b,.int .i64 k,.string tag,.slice aA n ac]).on a0);have a1:=hid (X2.out.on ((Fr.refl [] w2).alloc (.cells #[.int .i64 dk,.string df,.int .i64 dc,.string dn,.int .i64 dm,.int .i64 dl] 163)).all)
 have N2:=hid (bV.new w2 163 #[.int .i64 dk,.string df,.int .i64 dc,.string dn,.int .i64 dm,.int .i64 dl]);have a9:=hid a0.size;clear a0 HD;have x1:=a1.out.2.cell 1;simp only[aL,aJ,aK]at x1;clear X2;go_wp2_with fail;refine(HA.out _).mono ?_;rintro e w3 ⟨rfl,Y⟩;have X3:=hid (a1.out.on Y);have N3:=hid (N2.out.kept (Fr.of_below Y []) (by simp));clear Y a1 N2 HA x1;rcases na with _ | _
 ·go_wp2_with fail
  go_ret;exact⟨rI (show(11:Int)=V by rw[hV.out];rfl),X3.out.1⟩
 have y0:=X3.out.2.cell 0;have y2:=X3.out.2.cell 2;have n0:=N3.out.cell 0;simp only[aL,aJ,aK]at y0 y2 n0;go_wp2_with fail;refine(HB.out _).mono ?_;rintro e w4 ⟨rfl,a2⟩;have J:=hid (X3.out.on a2);have z0:=(a2.cell (p:=⟨w.heap.size,0,none⟩) (block_lt_of_cell y0)).trans y0;have z3:=J.out.2.cell 3;have z4:=J.out.2.cell 4;have z5:=J.out.2.cell 5;have z1:=J.out.2.cell 1;have z2:=J.out.2.cell 2;simp only[aL,aJ,aK]at z1 z2 z3 z4 z5;clear a2 HB X3 N3 y0 y2 n0;rcases nb with _ | _
 ·go_wp2_with fail
  go_ret;exact⟨rI (show(11:Int)=V by rw[hV.out];rfl),J.out.1⟩
 by_cases hn:n=0;rotate_left
 ·have a4:decide (0<n)=true:=aC (by omega)
  have q:=hid (aB hn);clear hn;go_wp2_with fail;go_ret;exact⟨rI (show(3:Int)=V by rw[hV.out,q.out];simp[jH]),J.out.1⟩
 have a4:decide (0<n)=false:=aB (by omega);have q1:=hid (aC hn);clear hn;by_cases hk:k=0;rotate_left
 ·have a6:(k != 0)=true:=by simpa using hk
  have q:=hid (aB hk);clear hk;go_wp2_with fail;go_ret;exact⟨rI (show(3:Int)=V by rw[hV.out,q.out];rfl),J.out.1⟩
 have a6:(k != 0)=false:=by simpa using hk
 have q2:=hid (aC hk);clear hk;by_cases ht:tag.size=0;rotate_left
 ·rw[show(tag.size==0)=false by simpa using ht]at hz
  have q:=hid (aB ht);clear ht;go_wp2_with fail;go_ret;exact⟨rI (show(3:Int)=V by rw[hV.out,q.out,q2.out];rfl),J.out.1⟩
 rw[show(tag.size==0)=true by simpa using ht]at hz;have q3:=hid (aC ht);clear ht;go_wp2_with fail;go_ret;exact⟨rI (show(0:Int)=V by rw[hV.out,q1.out,q2.out,q3.out];rfl),J.out.1⟩
theorem aKB(x:MC)(w:World)(hx:COk w x)(h1:2≤x.c.op)(h4:x.c.op≤4):Calls Tryz.prog 116 #[.agg x.row.toArray] w (dG (jH (dO x.c.a&&dO x.c.b) (decide (x.c.k=0)&&(decide (x.c.tag.size=0)&&decide (x.c.args.length=0)))) w):=by
 obtain⟨d,e0,a7,a3⟩:=sJ x.c.a hx.a;have HD:=hid a3;have HA:=hid (fun w'=>jB x.c.a w' hx.a);have HB:=hid (fun w'=>jB x.c.b w' hx.b);have a6:=hx.t;have hz:=jL x.c.tag;unfold maxLen at a6;unfold dA at HA HB;unfold kM at HD;clear a3;obtain⟨⟨op,a,b,k,tag,args⟩,aA,ac⟩:=x;obtain⟨dk,df,dc,dn,dm,dl⟩:=d;unfold MC.row at *;dsimp only at *;clear hx;unfold dG;generalize dO a=na at *;generalize dO b=nb at *;generalize args.length=n at *;have e1:decide (op<1)=false:=aB (by omega);have e2:decide (6<op)=false:=aB (by omega);have e3:(op==1)=false:=by simp;omega
 have a8:(op != 1)=true:=by simp;omega
 have e4:(op==5)=false:=by simp;omega
 have e5:(op==6)=false:=by simp;omega
 clear h1 h4;obtain⟨V,hV⟩:∃V,Hid (V=jH (na&&nb) (decide (k=0)&&(decide (tag.size=0)&&decide (n=0)))):=⟨_,hid rfl⟩;rw[←hV.out];go_enter Tryz.func116,Tryz.ntmps116;go_wp2_with fail;refine(HD.out _).mono ?_;rintro e w2 ⟨rfl,a0⟩;have X2:=hid ((RC.new w #[.int .i64 op,.string a,.string b,.int .i64 k,.string tag,.slice aA n ac]).on a0);have a1:=hid (X2.out.on ((Fr.refl [] w2).alloc (.cells #[.int .i64 dk,.string df,.int .i64 dc,.string dn,.int .i64 dm,.int .i64 dl] 163)).all);have N2:=hid (bV.new w2 163 #[.int .i64 dk,.string df,.int .i64 dc,.string dn,.int .i64 dm,.int .i64 dl]);have a9:=hid a0.size;clear a0 HD;have x1:=a1.out.2.cell 1;simp only[aL,aJ,aK]at x1;clear X2;go_wp2_with fail;refine(HA.out _).mono ?_;rintro e w3 ⟨rfl,Y⟩;have X3:=hid (a1.out.on Y);have N3:=hid (N2.out.kept (Fr.of_below Y []) (by simp));clear Y a1 N2 HA x1
 rcases na with _ | _
 ·go_wp2_with fail
  go_ret;exact⟨rI (show(11:Int)=V by rw[hV.out];rfl),X3.out.1⟩
 have y0:=X3.out.2.cell 0;have y2:=X3.out.2.cell 2;have n0:=N3.out.cell 0;simp only[aL,aJ,aK]at y0 y2 n0;go_wp2_with fail;refine(HB.out _).mono ?_;rintro e w4 ⟨rfl,a2⟩;have J:=hid (X3.out.on a2);have z0:=(a2.cell (p:=⟨w.heap.size,0,none⟩) (block_lt_of_cell y0)).trans y0;have z3:=J.out.2.cell 3;have z4:=J.out.2.cell 4;have z5:=J.out.2.cell 5;have z1:=J.out.2.cell 1;have z2:=J.out.2.cell 2;simp only[aL,aJ,aK]at z1 z2 z3 z4 z5;clear a2 HB X3 N3 y0 y2 n0;rcases nb with _ | _
 ·go_wp2_with fail
  go_ret;exact⟨rI (show(11:Int)=V by rw[hV.out];rfl),J.out.1⟩
 by_cases hn:n=0;rotate_left
 ·have a4:decide (0<n)=true:=aC (by omega)
  have q:=hid (aB hn);clear hn;go_wp2_with fail;go_ret;exact⟨rI (show(3:Int)=V by rw[hV.out,q.out];simp[jH]),J.out.1⟩
 have a4:decide (0<n)=false:=aB (by omega);have q1:=hid (aC hn);clear hn;by_cases hk:k=0;rotate_left
 ·have a5:(k != 0)=true:=by simpa using hk
  have q:=hid (aB hk);clear hk;go_wp2_with fail;go_ret;exact⟨rI (show(3:Int)=V by rw[hV.out,q.out];rfl),J.out.1⟩
 have a5:(k != 0)=false:=by simpa using hk
 have q2:=hid (aC hk);clear hk;by_cases ht:tag.size=0;rotate_left
 ·rw[show(tag.size==0)=false by simpa using ht]at hz
  have q:=hid (aB ht);clear ht;go_wp2_with fail;go_ret;exact⟨rI (show(3:Int)=V by rw[hV.out,q.out,q2.out];rfl),J.out.1⟩
 rw[show(tag.size==0)=true by simpa using ht]at hz;have q3:=hid (aC ht);clear ht;go_wp2_with fail;go_ret;exact⟨rI (show(0:Int)=V by rw[hV.out,q1.out,q2.out,q3.out];rfl),J.out.1⟩
theorem aLU(x:MC)(w:World)(hx:COk w x)(ai:x.c.op=5):Calls Tryz.prog 116 #[.agg x.row.toArray] w (dG (jH (dO x.c.a&&dO x.c.b) (decide (0≤x.c.k)&&(decide (x.c.k≤64)&&(sZ x.c.tag&&decide (x.c.args.length=0))))) w):=by
 obtain⟨d,e0,ak,ah⟩:=sJ x.c.a hx.a;have HD:=hid ah;have HA:=hid (fun w'=>jB x.c.a w' hx.a);have HB:=hid (fun w'=>jB x.c.b w' hx.b);have aj:=hx.t;have hz:=jL x.c.tag;unfold maxLen at aj;unfold dA at HA HB;unfold kM at HD;clear ah;obtain⟨⟨op,a,b,k,tag,args⟩,aA,ac⟩:=x;obtain⟨dk,df,dc,dn,dm,dl⟩:=d;unfold MC.row at *;dsimp only at *;clear hx;unfold dG;generalize dO a=na at *;generalize dO b=nb at *;generalize args.length=n at *;subst ai;obtain⟨V,hV⟩:∃V,Hid (V=jH (na&&nb) (decide (0≤k)&&(decide (k≤64)&&(sZ tag&&decide (n=0))))):=⟨_,hid rfl⟩;rw[←hV.out];go_enter Tryz.func116,Tryz.ntmps116;go_wp2_with fail;refine(HD.out _).mono ?_;rintro e w2 ⟨rfl,a7⟩;have X2:=hid ((RC.new w #[.int .i64 5,.string a,.string b,.int .i64 k,.string tag,.slice aA n ac]).on a7);have a9:=hid (X2.out.on ((Fr.refl [] w2).alloc (.cells #[.int .i64 dk,.string df,.int .i64 dc,.string dn,.int .i64 dm,.int .i64 dl] 163)).all)
 have N2:=hid (bV.new w2 163 #[.int .i64 dk,.string df,.int .i64 dc,.string dn,.int .i64 dm,.int .i64 dl]);have am:=hid a7.size;clear a7 HD;have x1:=a9.out.2.cell 1;simp only[aL,aJ,aK]at x1;clear X2;go_wp2_with fail;refine(HA.out _).mono ?_;rintro e w3 ⟨rfl,a6⟩;have X3:=hid (a9.out.on a6);have N3:=hid (N2.out.kept (Fr.of_below a6 []) (by simp));clear a6 a9 N2 HA x1;rcases na with _ | _
 ·go_wp2_with fail
  go_ret;exact⟨rI (show(11:Int)=V by rw[hV.out];rfl),X3.out.1⟩
 have y0:=X3.out.2.cell 0;have y2:=X3.out.2.cell 2;have n0:=N3.out.cell 0;simp only[aL,aJ,aK]at y0 y2 n0;go_wp2_with fail;refine(HB.out _).mono ?_;rintro e w4 ⟨rfl,aa⟩;have X4:=hid (X3.out.on aa);have z0:=(aa.cell (p:=⟨w.heap.size,0,none⟩) (block_lt_of_cell y0)).trans y0;have z3:=X4.out.2.cell 3;have z4:=X4.out.2.cell 4;have z5:=X4.out.2.cell 5;have z1:=X4.out.2.cell 1;have z2:=X4.out.2.cell 2;simp only[aL,aJ,aK]at z1 z2 z3 z4 z5;clear aa HB X3 N3 y0 y2 n0;rcases nb with _ | _
 ·go_wp2_with fail
  go_ret;exact⟨rI (show(11:Int)=V by rw[hV.out];rfl),X4.out.1⟩
 unfold sZ at hV;by_cases hn:n=0;rotate_left
 ·have ag:decide (0<n)=true:=aC (by omega)
  have q:=hid (aB hn);clear hn;go_wp2_with fail;go_ret;exact⟨rI (show(3:Int)=V by rw[hV.out,q.out];simp[jH]),X4.out.1⟩
 have ag:decide (0<n)=false:=aB (by omega);have J:=hid (aC hn);clear hn;by_cases hk:0≤k;rotate_left
 ·have af:decide (k<0)=true:=aC (by omega)
  have q:=hid (aB hk);clear hk;go_wp2_with fail;go_ret;exact⟨rI (show(3:Int)=V by rw[hV.out,q.out,J.out];simp[jH]),X4.out.1⟩
 have af:decide (k<0)=false:=aB (by omega);have a0:=hid (aC hk);clear hk;by_cases a4:k≤64;rotate_left
 ·have a8:decide (64<k)=true:=aC (by omega)
  have q:=hid (aB a4);clear a4;go_wp2_with fail;go_ret;exact⟨rI (show(3:Int)=V by rw[hV.out,q.out,J.out,a0.out];simp[jH]),X4.out.1⟩
 have a8:decide (64<k)=false:=aB (by omega);have Y:=hid (aC a4);clear a4;by_cases a3:1≤tag.size;rotate_left
 ·have a5:decide ((tag.size:Int)<1)=true:=aC (by omega)
  have q:=hid (aB a3);clear a3;go_wp2_with fail;go_ret;exact⟨rI (show(3:Int)=V by rw[hV.out,q.out,J.out,a0.out,Y.out];simp[jH]),X4.out.1⟩
 have a5:decide ((tag.size:Int)<1)=false:=aB (by omega);have a1:=hid (aC a3);clear a3;by_cases a2:tag.size≤60;rotate_left
 ·have ae:decide ((60:Int)<(tag.size:Int))=true:=aC (by omega)
  have q:=hid (aB a2);clear a2;go_wp2_with fail;go_ret;exact⟨rI (show(3:Int)=V by rw[hV.out,q.out,J.out,a0.out,Y.out,a1.out];simp[jH]),X4.out.1⟩
 have ae:decide ((60:Int)<(tag.size:Int))=false:=aB (by omega);have ad:=hid (aC a2);clear a2;go_wp2_with fail;go_ret;exact⟨rI (show(0:Int)=V by rw[hV.out,J.out,a0.out,Y.out,a1.out,ad.out];rfl),X4.out.1⟩
theorem aLE(x:MC)(w:World)(hx:COk w x)(a8:x.c.op=6):Calls Tryz.prog 116 #[.agg x.row.toArray] w (dG (jH (mY x.c.a&&dO x.c.b) (decide (x.c.k=0)&&sP x.c.tag x.c.args)) w):=by
 obtain⟨d,e0,J,a6⟩:=sJ x.c.a hx.a;have HD:=hid a6;have HA:=hid (fun w'=>jB x.c.a w' hx.a);have HB:=hid (fun w'=>jB x.c.b w' hx.b);have aa:=hx.t;have hz:=jL x.c.tag;unfold maxLen at aa;unfold dA at HA HB;unfold kM at HD;clear a6;have HC:=hid (fun w' (hb:Below w.heap.size w w')=>aGA x w' (hx.below hb));have a2:Hid (mY x.c.a=true→dO x.c.a=true):=hid aGw;obtain⟨⟨op,a,b,k,tag,args⟩,aA,ac⟩:=x;obtain⟨dk,df,dc,dn,dm,dl⟩:=d;unfold MC.row at *;dsimp only at *;clear hx;unfold dG;unfold dG at HC;generalize dO a=na at *;generalize dO b=nb at *;subst a8;rw[J.out]at a2;have a9:Hid (mY a=(decide (e0=0)&&decide (dk=3))):=J;obtain⟨Z,hZ⟩:∃Z,Hid (jH (mY a&&nb) (decide (k=0)&&sP tag args)=Z):=⟨_,hid rfl⟩;rw[hZ.out];rw[J.out]at hZ;clear J;generalize (decide (k=0)&&sP tag args)=rb at *;go_enter Tryz.func116,Tryz.ntmps116
 go_wp2_with fail;refine(HD.out _).mono ?_;rintro e w2 ⟨rfl,a1⟩;have X2:=hid ((RC.new w #[.int .i64 6,.string a,.string b,.int .i64 k,.string tag,.slice aA args.length ac]).on a1);have a3:=hid (X2.out.on ((Fr.refl [] w2).alloc (.cells #[.int .i64 dk,.string df,.int .i64 dc,.string dn,.int .i64 dm,.int .i64 dl] 163)).all);have N2:=hid (bV.new w2 163 #[.int .i64 dk,.string df,.int .i64 dc,.string dn,.int .i64 dm,.int .i64 dl]);have ad:=hid a1.size;clear a1 HD;have x1:=a3.out.2.cell 1;simp only[aL,aJ,aK]at x1;clear X2;go_wp2_with fail;refine(HA.out _).mono ?_;rintro e w3 ⟨rfl,a0⟩;have X3:=hid (a3.out.on a0);have N3:=hid (N2.out.kept (Fr.of_below a0 []) (by simp));clear a0 a3 N2 HA x1;rcases na with _ | _
 ·have hv:Hid ((11:Int)=Z):=hid (by
   rw[←hZ.out];rcases hq:(decide (e0=0)&&decide (dk=3))with _ | _
   ·rfl
   ·exact absurd (a2.out hq) (by simp))
  go_wp2_with fail;go_ret;exact⟨rI hv.out,X3.out.1⟩
 have y0:=X3.out.2.cell 0;have y2:=X3.out.2.cell 2;have n0:=N3.out.cell 0;simp only[aL,aJ,aK]at y0 y2 n0;by_cases he:e0=0;rotate_left
 ·have d0:(e0 != 0)=true:=by simpa using he
  have hv:Hid ((11:Int)=Z):=hid (by rw[←hZ.out,aB he];rfl);clear he;go_wp2_with fail;go_ret;exact⟨rI hv.out,X3.out.1⟩
 have d0:(e0 != 0)=false:=by simpa using he
 rw[aC he,Bool.true_and]at hZ;by_cases Y:dk=3;rotate_left
 ·have d3:(dk != 3)=true:=by simpa using Y
  have hv:Hid ((11:Int)=Z):=hid (by rw[←hZ.out,aB Y];rfl);clear he Y;go_wp2_with fail;go_ret;exact⟨rI hv.out,X3.out.1⟩
 have d3:(dk != 3)=false:=by simpa using Y
 rw[aC Y,Bool.true_and]at hZ;clear he Y a2 a9;go_wp2_with fail;refine(HB.out _).mono ?_;rintro e w4 ⟨rfl,a4⟩;have X4:=hid (X3.out.on a4);have z0:=(a4.cell (p:=⟨w.heap.size,0,none⟩) (block_lt_of_cell y0)).trans y0;have z3:=X4.out.2.cell 3;have z4:=X4.out.2.cell 4;have z5:=X4.out.2.cell 5;have z1:=X4.out.2.cell 1;have z2:=X4.out.2.cell 2;simp only[aL,aJ,aK]at z1 z2 z3 z4 z5;clear a4 HB X3 N3 y0 y2 n0;rcases nb with _ | _
 ·go_wp2_with fail
  go_ret;exact⟨rI hZ.out,X4.out.1⟩
 have a7:=hid (HC.out _ X4.out.1);clear HC;go_wp2_with fail;refine a7.out.mono ?_;rintro e w5 ⟨rfl,a5⟩;have X5:=hid (X4.out.on a5);clear a5 a7 X4 z0 z1 z2 z3 z4 z5;go_wp2_with fail;go_ret;exact⟨rI (by rw[←hZ.out];cases rb <;> rfl),X5.out.1⟩
theorem aMR(x:MC)(w:World)(hx:COk w x)(a2:jI w)(a7:x.c.op=6):Calls Tryz.prog 121 #[.agg x.row.toArray] w (dG (jH (mY x.c.a&&dO x.c.b) (decide (x.c.k=0)&&sP x.c.tag x.c.args)) w):=by
 have HA:=hid (fun w' (hb:Below w.heap.size w w')=>aHX x.c.a w' hx.a (bR a2 hb));have HB:=hid (fun w' (hb:Below w.heap.size w w')=>mI x.c.b w' hx.b (bR a2 hb));have HC:=hid (fun w' (hb:Below w.heap.size w w')=>aJe x w' (hx.below hb) (bR a2 hb));unfold dA at HA HB HC;have hz:=jL x.c.tag;have a8:=hx.gl;unfold maxLen at a8;obtain⟨⟨op,a,b,k,tag,args⟩,aA,ac⟩:=x;unfold MC.row at *;dsimp only at *;clear hx a2;unfold dG;generalize mY a=na at *;generalize dO b=nb at *;generalize sP tag args=cb at *;subst a7;obtain⟨V,hV⟩:∃V,Hid (V=jH (na&&nb) (decide (k=0)&&cb)):=⟨_,hid rfl⟩;rw[←hV.out];go_enter Tryz.func121,Tryz.ntmps121;go_upto_region 9 with fail
 go_cut [5] (fun s5 wx=>(∃r,s5=.bool r)∧(w.alloc (.cells #[.int .i64 6,.string a,.string b,.int .i64 k,.string tag,.slice aA args.length ac] 105))=wx)
 case first=>
  by_cases hk:k=0
  ·have dk:(k==0)=true:=by simpa using hk
   clear hk;by_cases ht:tag.size=0
   ·rw[show(tag.size==0)=true by simpa using ht]at hz
    clear ht;go_wp2_with fail
    go_meet
    exact⟨⟨_,rfl⟩,rfl⟩
   ·rw[show(tag.size==0)=false by simpa using ht]at hz
    clear ht;go_wp2_with fail
    go_meet
    exact⟨⟨_,rfl⟩,rfl⟩
  ·have dk:(k==0)=false:=by simpa using hk
   clear hk;go_wp2_with fail
   go_meet
   exact⟨⟨_,rfl⟩,rfl⟩
 obtain⟨⟨r0,rfl⟩,rfl⟩:=hcut;clear hz;have a4:=hid (((Fr.refl [] w).alloc (.cells #[.int .i64 6,.string a,.string b,.int .i64 k,.string tag,.slice aA args.length ac] 105)).all);have X:=bV.new w 105 #[.int .i64 6,.string a,.string b,.int .i64 k,.string tag,.slice aA args.length ac];by_cases hk:k=0
 ·have dk:(k==0)=true:=by simpa using hk
  have a1:Hid (V=jH (na&&nb) cb):=hid (by rw[hV.out,aC hk];rfl);clear hk hV;go_wp2_with fail;refine(HC.out _ a4.out).mono ?_;rintro e w3 ⟨rfl,a6⟩;have X3:=X.kept (Fr.of_below a6 []) (by simp);have J:=hid (a4.out.trans (a6.mono a4.out.size));have x1:=X3.cell 1;simp only[aL,aJ,aK]at x1;clear a6 HC a4 X;go_wp2_with fail;refine(HA.out _ J.out).mono ?_;rintro e w4 ⟨rfl,a0⟩;have Y:=hid (J.out.trans (a0.mono J.out.size));have X4:=X3.kept (Fr.of_below a0 []) (by simp);rcases na with _ | _
  ·clear a0 X3 X4 J HA
   go_wp2_with fail;go_ret;exact⟨rI (show(11:Int)=V by rw[a1.out];rfl),Y.out⟩
  have y2:=X4.cell 2;simp only[aL,aJ,aK]at y2;clear a0 X3 X4 HA J x1;go_wp2_with fail;refine(HB.out _ Y.out).mono ?_;rintro e w6 ⟨rfl,a5⟩;have a3:=hid (Y.out.trans (a5.mono Y.out.size));clear Y a5;rcases nb with _ | _
  ·go_wp2_with fail
   go_ret;exact⟨rI (show(11:Int)=V by rw[a1.out];rfl),a3.out⟩
  rcases cb with _ | _
  ·go_wp2_with fail
   go_ret;exact⟨rI (show(3:Int)=V by rw[a1.out];rfl),a3.out⟩
  ·go_wp2_with fail
   go_ret;exact⟨rI (show(0:Int)=V by rw[a1.out];rfl),a3.out⟩
 ·have dk:(k==0)=false:=by simpa using hk
  have a1:Hid (V=jH (na&&nb) false):=hid (by rw[hV.out,aB hk];rfl);clear hk HC hV;have X3:=X;have J:=a4;have x1:=X3.cell 1;simp only[aL,aJ,aK]at x1;clear a4 X;go_wp2_with fail;refine(HA.out _ J.out).mono ?_;rintro e w4 ⟨rfl,a0⟩;have Y:=hid (J.out.trans (a0.mono J.out.size));have X4:=X3.kept (Fr.of_below a0 []) (by simp);rcases na with _ | _
  ·clear a0 X3 X4 J HA
   go_wp2_with fail;go_ret;exact⟨rI (show(11:Int)=V by rw[a1.out];rfl),Y.out⟩
  have y2:=X4.cell 2;simp only[aL,aJ,aK]at y2;clear a0 X3 X4 HA J x1;go_wp2_with fail;refine(HB.out _ Y.out).mono ?_;rintro e w6 ⟨rfl,a5⟩;have a3:=hid (Y.out.trans (a5.mono Y.out.size));clear Y a5;rcases nb with _ | _
  ·go_wp2_with fail
   go_ret;exact⟨rI (show(11:Int)=V by rw[a1.out];rfl),a3.out⟩
  go_wp2_with fail;go_ret;exact⟨rI (show(3:Int)=V by rw[a1.out];rfl),a3.out⟩
theorem aMr(x:MC)(w:World)(h:x.c.op<1∨6<x.c.op):Calls Tryz.prog 121 #[.agg x.row.toArray] w (dG 5 w):=by
 obtain⟨⟨op,a,b,k,tag,args⟩,aA,ac⟩:=x;unfold MC.row;dsimp only at *;unfold dG;rcases h with h | h
 ·have d1:decide (op<1)=true:=aC h
  go_enter Tryz.func121,Tryz.ntmps121;go_wp2_with fail;go_ret;exact⟨rfl,((Fr.refl [] w).alloc _).all⟩
 ·have d1:decide (op<1)=false:=aB (by omega)
  have d2:decide (6<op)=true:=aC h;go_enter Tryz.func121,Tryz.ntmps121;go_wp2_with fail;go_ret;exact⟨rfl,((Fr.refl [] w).alloc _).all⟩
theorem aLG(x:MC)(w:World)(h:x.c.op<1∨6<x.c.op):Calls Tryz.prog 116 #[.agg x.row.toArray] w (dG 5 w):=by
 obtain⟨⟨op,a,b,k,tag,args⟩,aA,ac⟩:=x;unfold MC.row;dsimp only at *;unfold dG;rcases h with h | h
 ·have d1:decide (op<1)=true:=aC h
  go_enter Tryz.func116,Tryz.ntmps116;go_wp2_with fail;go_ret;exact⟨rfl,((Fr.refl [] w).alloc _).all⟩
 ·have d1:decide (op<1)=false:=aB (by omega)
  have d2:decide (6<op)=true:=aC h;go_enter Tryz.func116,Tryz.ntmps116;go_wp2_with fail;go_ret;exact⟨rfl,((Fr.refl [] w).alloc _).all⟩
theorem aJ1(x:MC)(w:World)(Y:COk w x)(J:jI w):Calls Tryz.prog 121 #[.agg x.row.toArray] w (dG (iN x.c) w):=by
 by_cases hr:x.c.op<1∨6<x.c.op
 ·have e:iN x.c=5:=by unfold iN;rw[if_pos hr]
  rw[e];exact aMr x w hr
 ·rw[aE0 x.c (by omega) (by omega)]
  unfold aBY bP;rcases(by omega:x.c.op=1∨(2≤x.c.op∧x.c.op≤4)∨x.c.op=5∨x.c.op=6)with h | h | h | h
  ·rw[if_neg (by omega),if_pos h,if_neg (by omega),if_neg (by omega)]
   exact aMJ x w Y J h
  ·rw[if_neg (by omega),if_neg (by omega),if_neg (by omega),if_neg (by omega)]
   exact aLo x w Y J h.1 h.2
  ·rw[if_neg (by omega),if_neg (by omega),if_neg (by omega),if_pos h]
   exact aMG x w Y J h
  ·rw[if_pos h,if_neg (by omega),if_pos h]
   exact aMR x w Y J h
theorem aHI(x:MC)(w:World)(J:COk w x):Calls Tryz.prog 116 #[.agg x.row.toArray] w (dG (iN x.c) w):=by
 by_cases hr:x.c.op<1∨6<x.c.op
 ·have e:iN x.c=5:=by unfold iN;rw[if_pos hr]
  rw[e];exact aLG x w hr
 ·rw[aE0 x.c (by omega) (by omega)]
  unfold aBY bP;rcases(by omega:x.c.op=1∨(2≤x.c.op∧x.c.op≤4)∨x.c.op=5∨x.c.op=6)with h | h | h | h
  ·rw[if_neg (by omega),if_pos h,if_neg (by omega),if_neg (by omega)]
   exact aLD x w J h
  ·rw[if_neg (by omega),if_neg (by omega),if_neg (by omega),if_neg (by omega)]
   exact aKB x w J h.1 h.2
  ·rw[if_neg (by omega),if_neg (by omega),if_neg (by omega),if_pos h]
   exact aLU x w J h
  ·rw[if_pos h,if_neg (by omega),if_pos h]
   exact aLE x w J h
def aL1{α:Type}(bad:α→α→Bool):Option α→α→Bool
 | none,_=>false
 | some q,x=>bad q x
def lZ{α:Type}(chk:α→Int)(bad:α→α→Bool):Option α→List α→Int
 | _,[]=>0
 | p,x :: r=>if chk x=0 then(bif aL1 bad p x then 13 else lZ chk bad (some x) r) else chk x
def dJ{α:Type}(xs:List α):Nat→Option α
 | 0=>none
 | m+1=>xs[m]?
theorem vC{α:Type}{chk:α→Int}{bad:α→α→Bool}{xs:List α}{k:Nat}(J:k<xs.length)(h:¬chk xs[k] = 0):lZ chk bad (dJ xs k) (xs.drop k)=chk xs[k]:=by
 rw[bD J,lZ,if_neg h]
theorem qK{α:Type}{chk:α→Int}{bad:α→α→Bool}{xs:List α}(J:0<xs.length)(h:chk xs[0] = 0):lZ chk bad (dJ xs 0) (xs.drop 0)=lZ chk bad (dJ xs 1) (xs.drop 1):=by
 rw[bD J,lZ,if_pos h];simp only[dJ,aL1,cond_false];rw[aN J]
theorem nT{α:Type}{chk:α→Int}{bad:α→α→Bool}{xs:List α}{m:Nat}(J:m+1<xs.length)(h:chk xs[m+1] = 0):lZ chk bad (dJ xs (m+1)) (xs.drop (m+1))=bif bad (xs[m]'(by omega)) xs[m+1] then 13 else lZ chk bad (dJ xs (m+1+1)) (xs.drop (m+1+1)):=by
 rw[bD J,lZ,if_pos h];simp only[dJ];rw[aN (show m<xs.length by omega),aN J];rfl
theorem xI{α β:Type}{f:α→β}{chk:β→Int}{bad:β→β→Bool}:∀(p:Option α) (xs:List α),lZ chk bad (p.map f) (xs.map f)=lZ (fun x=>chk (f x)) (fun x y=>bad (f x) (f y)) p xs
 | _,[]=>rfl
 | p,x :: r=>by
  have h:=xI (f:=f) (chk:=chk) (bad:=bad) (some x) r;simp only[aV,lZ];rw[←h];cases p <;> rfl
theorem vH{α:Type}{chk:α→Int}{bad:α→α→Bool}(p:Option α)(xs:List α):lZ chk bad p (xs.drop xs.length)=0:=by
 rw[List.drop_length];rfl
def lK(a b:SO):Bool:=!mX a.name b.name
def mQ(a b:SF):Bool:=!mX a.name b.name
def pR(a b:SC):Bool:=decide (0≤wT a b)
def mV(a b:Int):Int:=if a=0 then b else a
theorem zL(b:Int):mV 0 b=b:=rfl
theorem zT{a:Int}(h:¬a=0)(b:Int):mV a b=a:=if_neg h
noncomputable def iJ(s:SS):Int:=if 600<s.objs.length∨600<s.fns.length∨6000<s.cons.length then 4 else
 mV (lZ jQ lK none s.objs) (mV (lZ xY mQ none s.fns) (lZ iN pR none s.cons))
def SR(w wr:World)(xs:Array Value):Prop:=Below w.heap.size w wr∧bV wr w.heap.size 27 xs
theorem SR.on{w wr J:World}{xs:Array Value}(h:SR w wr xs)(hb:Below wr.heap.size wr J):SR w J xs:=⟨h.1.trans (hb.mono h.1.size),h.2.kept (Fr.of_below hb []) (by simp)⟩
theorem SR.new(w:World)(xs:Array Value):SR w (w.alloc (.cells xs 27)) xs:=⟨((Fr.refl [] w).alloc _).all,bV.new w _ xs⟩
theorem SR.alloc{w wr:World}{xs:Array Value}(h:SR w wr xs)(o:Obj):SR w (wr.alloc o) xs:=h.on ((Fr.refl [] wr).alloc o).all
theorem SR.drewN{w wr:World}{xs:Array Value}(h:SR w wr xs)(i:Nat):SR w (wr.drewN i) xs:=h.on ((Fr.refl [] wr).drewN i).all
theorem SR.drew{w wr:World}{xs:Array Value}(h:SR w wr xs):SR w wr.drew xs:=h.on (Fr.refl [] wr).drew.all
theorem aI1(s:MS)(w:World):Calls Tryz.prog 118 #[s.val] w (dA (decide (600<s.os.length∨600<s.fs.length∨6000<s.cs.length)) w):=by
 obtain⟨oA,oc,os,fA,fc,fs,cA,cc,cs⟩:=s;unfold MS.val;dsimp only;generalize os.length=no;generalize fs.length=nf;generalize cs.length=Y;obtain⟨V,J⟩:∃V,Hid (V=decide (600<no∨600<nf∨6000<Y)):=⟨_,hid rfl⟩;rw[←J.out];unfold dA;by_cases h1:600<no
 ·have d1:decide ((600:Int)<(no:Int))=true:=aC (by omega)
  have hv:Hid (true=V):=hid (by rw[J.out];exact(aC (by omega)).symm);go_enter Tryz.func118,Tryz.ntmps118;go_wp2_with fail;go_ret;exact⟨congrArg (fun z=>Ending.returned (.bool z)) hv.out,((Fr.refl [] w).alloc _).all⟩
 have d1:decide ((600:Int)<(no:Int))=false:=aB (by omega);by_cases h2:600<nf
 ·have d2:decide ((600:Int)<(nf:Int))=true:=aC (by omega)
  have hv:Hid (true=V):=hid (by rw[J.out];exact(aC (by omega)).symm);go_enter Tryz.func118,Tryz.ntmps118;go_wp2_with fail;go_ret;exact⟨congrArg (fun z=>Ending.returned (.bool z)) hv.out,((Fr.refl [] w).alloc _).all⟩
 have d2:decide ((600:Int)<(nf:Int))=false:=aB (by omega);by_cases h3:6000<Y
 ·have d3:decide ((6000:Int)<(Y:Int))=true:=aC (by omega)
  have hv:Hid (true=V):=hid (by rw[J.out];exact(aC (by omega)).symm);go_enter Tryz.func118,Tryz.ntmps118;go_wp2_with fail;go_ret;exact⟨congrArg (fun z=>Ending.returned (.bool z)) hv.out,((Fr.refl [] w).alloc _).all⟩
 ·have d3:decide ((6000:Int)<(Y:Int))=false:=aB (by omega)
  have hv:Hid (false=V):=hid (by rw[J.out];exact(aB (by omega)).symm);go_enter Tryz.func118,Tryz.ntmps118;go_wp2_with fail;go_ret;exact⟨congrArg (fun z=>Ending.returned (.bool z)) hv.out,((Fr.refl [] w).alloc _).all⟩
theorem aGp(s:MS)(w:World)(hs:zD w s)(am:jI w):Calls Tryz.prog 62 #[s.val] w (dG (iJ s.sys) w):=by
 have HO:=hid (fun W (hb:Below w.heap.size w W)=>hs.o.below hb);have HF:=hid (fun W (hb:Below w.heap.size w W)=>hs.f.below hb);have HC:=hid (fun W (hb:Below w.heap.size w W)=>hs.c.below hb);have CO:Hid (∀W,Below w.heap.size w W→∀x∈s.os,Calls Tryz.prog 119 #[.agg x.row.toArray] W (dG (jQ x.o) W)):=hid (fun W hb x hx=>aEa x W ((hs.ok x hx).below hb) (bR am hb));have CF:Hid (∀W,Below w.heap.size w W→∀x∈s.fs,Calls Tryz.prog 120 #[.agg (lF x).toArray] W (dG (xY x) W)):=hid (fun W hb x hx=>aB6 x W (hs.fk x hx) (bR am hb));have CC:Hid (∀W,Below w.heap.size w W→∀x∈s.cs,Calls Tryz.prog 121 #[.agg x.row.toArray] W (dG (iN x.c) W)):=hid (fun W hb x hx=>aJ1 x W ((hs.ck x hx).below hb) (bR am hb));have CK:Hid (∀W,Below w.heap.size w W→∀x∈s.cs,∀y∈s.cs,Calls Tryz.prog 122 #[.agg x.row.toArray,.agg y.row.toArray] W (dG (wT x.c y.c) W)):=hid (fun W hb x hx y hy=>aCN x y W ((hs.ck x hx).below hb) ((hs.ck y hy).below hb))
 have CU:=hid (fun W=>aI1 s W);have bj:=hs.ol;have bq:=hs.fl;have bf:=hs.cl;unfold maxLen at bj bq bf;unfold dG at CO CF CC CK;unfold dA at CU;clear hs am;obtain⟨oA,oc,os,fA,fc,fs,cA,cc,cs⟩:=s;unfold MS.sys dG;unfold MS.val at CU;unfold MS.val;dsimp only at *;obtain⟨no,ap⟩:∃n,Hid (n=os.length):=⟨_,hid rfl⟩;obtain⟨nf,au⟩:∃n,Hid (n=fs.length):=⟨_,hid rfl⟩;obtain⟨nc,av⟩:∃n,Hid (n=cs.length):=⟨_,hid rfl⟩;obtain⟨V,hV⟩:∃V,Hid (V=iJ ⟨os.map (·.o),fs,cs.map (·.c)⟩):=⟨_,hid rfl⟩;rw[←hV.out,←ap.out,←au.out,←av.out];rw[←ap.out]at bj;rw[←au.out]at bq;rw[←av.out]at bf;rw[←ap.out,←au.out,←av.out]at CU;obtain⟨E1,bm⟩:∃E,Hid (E=lZ (fun x:MO=>jQ x.o) (fun x y=>lK x.o y.o) (dJ os 0) (os.drop 0)):=⟨_,hid rfl⟩;obtain⟨E2,a8⟩:∃E,Hid (E=lZ xY mQ (dJ fs 0) (fs.drop 0)):=⟨_,hid rfl⟩;obtain⟨E3,bp⟩:∃E,Hid (E=lZ (fun x:MC=>iN x.c) (fun x y=>pR x.c y.c) (dJ cs 0) (cs.drop 0)):=⟨_,hid rfl⟩
 have bh:Hid (V=if 600<no∨600<nf∨6000<nc then 4 else mV E1 (mV E2 E3)):=hid (by
  rw[hV.out,bm.out,a8.out,bp.out,ap.out,au.out,av.out];unfold iJ;dsimp only;rw[aH,aH];have g1:=xI (chk:=jQ) (bad:=lK) (f:=fun x:MO=>x.o) none os;have g3:=xI (chk:=iN) (bad:=pR) (f:=fun x:MC=>x.c) none cs;simp only[Option.map_none]at g1 g3;rw[g1,g3]
  rfl)
 clear hV;go_enter Tryz.func62,Tryz.ntmps62;have X0:=hid (SR.new w #[.slice oA no oc,.slice fA nf fc,.slice cA nc cc]);go_wp2_with fail;refine(CU.out _).mono ?_;rintro e w2 ⟨rfl,bn⟩;have X2:=hid (X0.out.on bn);clear bn X0 CU;by_cases ax:600<no∨600<nf∨6000<nc
 ·rw[aC ax]
  have hv:Hid ((4:Int)=V):=hid (by rw[bh.out,if_pos ax]);clear ax;go_wp2_with fail;go_ret;exact⟨rI hv.out,X2.out.1⟩
 rw[aB ax];have ba:Hid (V=mV E1 (mV E2 E3)):=hid (by rw[bh.out,if_neg ax]);clear bh;have s0:=X2.out.2.cell 0;simp only[aL,aJ,aK]at s0;go_wp2_with fail;clear s0;go_loopw [17] (fun i wr=>∃k:Nat,k≤no∧i=.int .i64 k∧Hid (E1=lZ (fun x:MO=>jQ x.o) (fun x y=>lK x.o y.o) (dJ os k) (os.drop k))∧Hid (SR w wr #[.slice oA no oc,.slice fA nf fc,.slice cA nc cc])) (fun i _=>no-(intOf i).toNat)
 case atStart=>exact⟨0,by omega,rfl,bm,X2⟩
 case round=>
  obtain⟨k,hk,rfl,hE,ar⟩:=hrel;clear X2
  rename World=>wr0
  have s0:=ar.out.2.cell 0;simp only[aL,aJ,aK]at s0;by_cases az:k<no
  ·have e1:decide ((k:Int)<(no:Int))=true:=aC (by omega)
   have a4:k<os.length:=by rw[←ap.out];exact az
   have ai:=HO.out wr0 ar.out.1;obtain⟨g,off,rfl,hg,c0,c1,c2⟩:=kS ai a4;have a0:=hid (fun h=>vC (chk:=(fun x:MO=>jQ x.o)) (bad:=(fun x y=>lK x.o y.o)) a4 h);have Y:Hid (k=0→(fun x:MO=>jQ x.o) os[k] = 0→lZ (fun x:MO=>jQ x.o) (fun x y=>lK x.o y.o) (dJ os k) (os.drop k)=lZ (fun x:MO=>jQ x.o) (fun x y=>lK x.o y.o) (dJ os (k+1)) (os.drop (k+1))):=hid (fun h hz=>by subst h;exact qK a4 hz);have J:Hid (∀m (h:m+1=k),(fun x:MO=>jQ x.o) os[k] = 0→lZ (fun x:MO=>jQ x.o) (fun x y=>lK x.o y.o) (dJ os k) (os.drop k)=bif (fun x y=>lK x.o y.o) (os[m]'(by omega)) os[k] then 13 else lZ (fun x:MO=>jQ x.o) (fun x y=>lK x.o y.o) (dJ os (k+1)) (os.drop (k+1))):=hid (fun m h hz=>by subst h;exact nT a4 hz);have ae:=hid (aR a4);have a5:=hid (ar.out.alloc (.cells os[k].row.toArray 99));have aa:=hid (bV.new wr0 99 os[k].row.toArray)
   have C1:=hid (CO.out _ a5.out.1 _ ae.out);obtain⟨x,hx⟩:∃x,Hid (os[k] = x):=⟨_,hid rfl⟩;rw[hx.out]at c0 c1 c2 C1 a0 Y J ae a5 aa;unfold MO.row at C1 a5 aa;obtain⟨z,hz⟩:∃z,Hid (jQ x.o=z):=⟨_,hid rfl⟩
   try dsimp only at a0 Y J
   rw[hz.out]at C1 a0 Y J;clear hz;obtain⟨⟨xn,xk,xm⟩,xA,xc⟩:=x;dsimp only at *;go_wp2_with fail;refine C1.out.mono ?_;rintro e w5 ⟨rfl,af⟩;have a1:=hid (a5.out.on af);have a9:=hid (aa.out.kept (Fr.of_below af []) (by simp));clear a5 aa;have ad:=HO.out w5 a1.out.1;clear af C1 c0 c1 c2 ai s0;by_cases a2:z=0;rotate_left
   ·have dz:(z != 0)=true:=by simpa using a2
    have a3:=hid a2;have hv:Hid (z=V):=hid (Eq.symm (by rw[ba.out,hE.out,a0.out a3.out,zT a3.out]));clear a2 ad Y J a0;go_wp2_with fail;go_ret;exact⟨rI hv.out,a1.out.1⟩
   have dz:(z != 0)=false:=by simpa using a2
   have a3:=hid a2;have s0:=a1.out.2.cell 0;have b0:=a9.out.cell 0;have b1:=a9.out.cell 1;have b2:=a9.out.cell 2;simp only[aL,aJ,aK]at s0 b0 b1 b2;clear a2 a0;rcases Nat.eq_zero_or_pos k with ag | ag
   ·have d5:decide (0<k)=false:=aB (by omega)
    have a8:=hid (hE.out.trans (Y.out ag a3.out));clear hE Y J a3 ad;go_wp2_with fail;go_quiet (fail);go_wp2_with fail;go_roundw
    case rel=>exact⟨k+1,by omega,by go_num,a8,hid (a1.out.drewN _)⟩
    case measure=>simp[intOf];omega
   ·have d5:decide (0<k)=true:=aC ag
    obtain⟨m2,ah⟩:∃m2,m2+1=k:=⟨k-1,by omega⟩;have bk:(k:Int)-1=(m2:Int):=by omega
    have bl:IntKind.i64.wrap (m2:Int)=(m2:Int):=IntWalk.i64_in _ (by omega);have a7:m2<os.length:=by omega
    have bd:m2<no:=by omega
    obtain⟨g3,bg,e3,_,p0,p1,p2⟩:=kS ad a7;injection e3 with e3;injection e3 with e3 e3b;subst e3;subst e3b;have a6:=hid (J.out m2 ah a3.out);generalize os[m2] = y at *;obtain⟨⟨yn,yk,ym⟩,yA,yc⟩:=y;dsimp only at *;clear Y J ah a7 ad;rcases aw:Op.bytesLess yn.toList xn.toList with _ | _
    ·have ak:=hid (show lK ⟨yn,yk,ym⟩ ⟨xn,xk,xm⟩=true by unfold lK mX;dsimp only;rw[aw];rfl)
     have hv:Hid ((13:Int)=V):=hid (Eq.symm (by rw[ba.out,hE.out,a6.out,ak.out];rfl));clear a6 hE;go_wp2_with fail;go_quiet (fail);go_wp2_with fail;go_ret;exact⟨rI hv.out,(a1.out.drewN _).1⟩
    ·have ak:=hid (show lK ⟨yn,yk,ym⟩ ⟨xn,xk,xm⟩=false by unfold lK mX;dsimp only;rw[aw];rfl)
     have a8:=hid (hE.out.trans (by rw[a6.out,ak.out,cond_false]));clear a6 hE;go_wp2_with fail;go_quiet (fail);go_wp2_with fail;go_roundw
     case rel=>exact⟨k+1,by omega,by go_num,a8,hid (a1.out.drewN _)⟩
     case measure=>simp[intOf];omega
  ·obtain rfl:no=k:=by omega
   have e1:decide ((no:Int)<(no:Int))=false:=aB (by omega);have aj:Hid (E1=0):=hid (by rw[hE.out,ap.out];exact vH _ _);have b9:Hid (V=mV E2 E3):=hid (by rw[ba.out,aj.out,zL]);clear hE aj ba;have s1:=ar.out.2.cell 1;simp only[aL,aJ,aK]at s1;go_wp2_with fail;clear s0;clear s1;go_loopw [45] (fun i wr=>∃k:Nat,k≤nf∧i=.int .i64 k∧Hid (E2=lZ xY mQ (dJ fs k) (fs.drop k))∧Hid (SR w wr #[.slice oA no oc,.slice fA nf fc,.slice cA nc cc])) (fun i _=>nf-(intOf i).toNat)
   case atStart=>exact⟨0,by omega,rfl,a8,ar⟩
   case round=>
    obtain⟨k,hk,rfl,hE,ao⟩:=hrel;clear ar
    rename World=>wr1
    have s1:=ao.out.2.cell 1;simp only[aL,aJ,aK]at s1;by_cases az:k<nf
    ·have e1:decide ((k:Int)<(nf:Int))=true:=aC (by omega)
     have a4:k<fs.length:=by rw[←au.out];exact az
     have ai:=HF.out wr1 ao.out.1;obtain⟨g,off,rfl,hg,c0,c1,c2⟩:=oC ai a4;have a0:=hid (fun h=>vC (chk:=xY) (bad:=mQ) a4 h);have Y:Hid (k=0→xY fs[k] = 0→lZ xY mQ (dJ fs k) (fs.drop k)=lZ xY mQ (dJ fs (k+1)) (fs.drop (k+1))):=hid (fun h hz=>by subst h;exact qK a4 hz);have J:Hid (∀m (h:m+1=k),xY fs[k] = 0→lZ xY mQ (dJ fs k) (fs.drop k)=bif mQ (fs[m]'(by omega)) fs[k] then 13 else lZ xY mQ (dJ fs (k+1)) (fs.drop (k+1))):=hid (fun m h hz=>by subst h;exact nT a4 hz);have ae:=hid (aR a4);have a5:=hid (ao.out.alloc (.cells (lF fs[k]).toArray 103));have aa:=hid (bV.new wr1 103 (lF fs[k]).toArray);have C1:=hid (CF.out _ a5.out.1 _ ae.out);obtain⟨x,hx⟩:∃x,Hid (fs[k] = x):=⟨_,hid rfl⟩;rw[hx.out]at c0 c1 c2 C1 a0 Y J ae a5 aa;unfold lF at C1 a5 aa;obtain⟨z,hz⟩:∃z,Hid (xY x=z):=⟨_,hid rfl⟩
     try dsimp only at a0 Y J
     rw[hz.out]at C1 a0 Y J;clear hz;obtain⟨xn,xk,xr⟩:=x;dsimp only at *;go_wp2_with fail;refine C1.out.mono ?_;rintro e w5 ⟨rfl,af⟩;have a1:=hid (a5.out.on af);have a9:=hid (aa.out.kept (Fr.of_below af []) (by simp));clear a5 aa;have ad:=HF.out w5 a1.out.1;clear af C1 c0 c1 c2 ai s1;by_cases a2:z=0;rotate_left
     ·have dz:(z != 0)=true:=by simpa using a2
      have a3:=hid a2;have hv:Hid (z=V):=hid (Eq.symm (by rw[b9.out,hE.out,a0.out a3.out,zT a3.out]));clear a2 ad Y J a0;go_wp2_with fail;go_ret;exact⟨rI hv.out,a1.out.1⟩
     have dz:(z != 0)=false:=by simpa using a2
     have a3:=hid a2;have s1:=a1.out.2.cell 1;have b0:=a9.out.cell 0;have b1:=a9.out.cell 1;have b2:=a9.out.cell 2;simp only[aL,aJ,aK]at s1 b0 b1 b2;clear a2 a0;rcases Nat.eq_zero_or_pos k with ag | ag
     ·have d5:decide (0<k)=false:=aB (by omega)
      have a8:=hid (hE.out.trans (Y.out ag a3.out));clear hE Y J a3 ad;go_wp2_with fail;go_quiet (fail);go_wp2_with fail;go_roundw
      case rel=>exact⟨k+1,by omega,by go_num,a8,hid (a1.out.drewN _)⟩
      case measure=>simp[intOf];omega
     ·have d5:decide (0<k)=true:=aC ag
      obtain⟨m2,ah⟩:∃m2,m2+1=k:=⟨k-1,by omega⟩;have bk:(k:Int)-1=(m2:Int):=by omega
      have bl:IntKind.i64.wrap (m2:Int)=(m2:Int):=IntWalk.i64_in _ (by omega);have a7:m2<fs.length:=by omega
      have bd:m2<nf:=by omega
      obtain⟨g3,bg,e3,_,p0,p1,p2⟩:=oC ad a7;injection e3 with e3;injection e3 with e3 e3b;subst e3;subst e3b;have a6:=hid (J.out m2 ah a3.out);generalize fs[m2] = y at *;obtain⟨yn,yk,yr⟩:=y;dsimp only at *;clear Y J ah a7 ad;rcases aw:Op.bytesLess yn.toList xn.toList with _ | _
      ·have ak:=hid (show mQ ⟨yn,yk,yr⟩ ⟨xn,xk,xr⟩=true by unfold mQ mX;dsimp only;rw[aw];rfl)
       have hv:Hid ((13:Int)=V):=hid (Eq.symm (by rw[b9.out,hE.out,a6.out,ak.out];rfl));clear a6 hE;go_wp2_with fail;go_quiet (fail);go_wp2_with fail;go_ret;exact⟨rI hv.out,(a1.out.drewN _).1⟩
      ·have ak:=hid (show mQ ⟨yn,yk,yr⟩ ⟨xn,xk,xr⟩=false by unfold mQ mX;dsimp only;rw[aw];rfl)
       have a8:=hid (hE.out.trans (by rw[a6.out,ak.out,cond_false]));clear a6 hE;go_wp2_with fail;go_quiet (fail);go_wp2_with fail;go_roundw
       case rel=>exact⟨k+1,by omega,by go_num,a8,hid (a1.out.drewN _)⟩
       case measure=>simp[intOf];omega
    ·obtain rfl:nf=k:=by omega
     have e1:decide ((nf:Int)<(nf:Int))=false:=aB (by omega);have aj:Hid (E2=0):=hid (by rw[hE.out,au.out];exact vH _ _);have bb:Hid (V=E3):=hid (by rw[b9.out,aj.out,zL]);clear hE aj b9;have s2:=ao.out.2.cell 2;simp only[aL,aJ,aK]at s2;go_wp2_with fail;clear s1;clear s2;go_loopw [73] (fun i wr=>∃k:Nat,k≤nc∧i=.int .i64 k∧Hid (E3=lZ (fun x:MC=>iN x.c) (fun x y=>pR x.c y.c) (dJ cs k) (cs.drop k))∧Hid (SR w wr #[.slice oA no oc,.slice fA nf fc,.slice cA nc cc])) (fun i _=>nc-(intOf i).toNat)
     case atStart=>exact⟨0,by omega,rfl,bp,ao⟩
     case round=>
      obtain⟨k,hk,rfl,hE,b7⟩:=hrel;clear ao
      rename World=>wr2
      have s2:=b7.out.2.cell 2;simp only[aL,aJ,aK]at s2;by_cases az:k<nc
      ·have e1:decide ((k:Int)<(nc:Int))=true:=aC (by omega)
       have a4:k<cs.length:=by rw[←av.out];exact az
       have ai:=HC.out wr2 b7.out.1;obtain⟨g,off,rfl,hg,c0,c1,c2,c3,c4,c5⟩:=nA ai a4;have a0:=hid (fun h=>vC (chk:=(fun x:MC=>iN x.c)) (bad:=(fun x y=>pR x.c y.c)) a4 h);have Y:Hid (k=0→(fun x:MC=>iN x.c) cs[k] = 0→lZ (fun x:MC=>iN x.c) (fun x y=>pR x.c y.c) (dJ cs k) (cs.drop k)=lZ (fun x:MC=>iN x.c) (fun x y=>pR x.c y.c) (dJ cs (k+1)) (cs.drop (k+1))):=hid (fun h hz=>by subst h;exact qK a4 hz);have J:Hid (∀m (h:m+1=k),(fun x:MC=>iN x.c) cs[k] = 0→lZ (fun x:MC=>iN x.c) (fun x y=>pR x.c y.c) (dJ cs k) (cs.drop k)=bif (fun x y=>pR x.c y.c) (cs[m]'(by omega)) cs[k] then 13 else lZ (fun x:MC=>iN x.c) (fun x y=>pR x.c y.c) (dJ cs (k+1)) (cs.drop (k+1))):=hid (fun m h hz=>by subst h;exact nT a4 hz);have ae:=hid (aR a4);have a5:=hid (b7.out.alloc (.cells cs[k].row.toArray 105));have aa:=hid (bV.new wr2 105 cs[k].row.toArray)
       have C1:=hid (CC.out _ a5.out.1 _ ae.out);obtain⟨x,hx⟩:∃x,Hid (cs[k] = x):=⟨_,hid rfl⟩;rw[hx.out]at c0 c1 c2 c3 c4 c5 C1 a0 Y J ae a5 aa;unfold MC.row at C1 a5 aa;obtain⟨z,hz⟩:∃z,Hid (iN x.c=z):=⟨_,hid rfl⟩
       try dsimp only at a0 Y J
       rw[hz.out]at C1 a0 Y J;clear hz;obtain⟨⟨xo,xa,xb,xk,xt,xg⟩,xA,xc⟩:=x;dsimp only at *;go_wp2_with fail;refine C1.out.mono ?_;rintro e w5 ⟨rfl,af⟩;have a1:=hid (a5.out.on af);have a9:=hid (aa.out.kept (Fr.of_below af []) (by simp));clear a5 aa;have ad:=HC.out w5 a1.out.1;clear af C1 c0 c1 c2 c3 c4 c5 ai s2;by_cases a2:z=0;rotate_left
       ·have dz:(z != 0)=true:=by simpa using a2
        have a3:=hid a2;have hv:Hid (z=V):=hid (Eq.symm (by rw[bb.out,hE.out,a0.out a3.out]));clear a2 ad Y J a0;go_wp2_with fail;go_ret;exact⟨rI hv.out,a1.out.1⟩
       have dz:(z != 0)=false:=by simpa using a2
       have a3:=hid a2;have s2:=a1.out.2.cell 2;have b0:=a9.out.cell 0;have b1:=a9.out.cell 1;have b2:=a9.out.cell 2;have b3:=a9.out.cell 3;have b4:=a9.out.cell 4;have b5:=a9.out.cell 5;simp only[aL,aJ,aK]at s2 b0 b1 b2 b3 b4 b5;clear a2 a0;rcases Nat.eq_zero_or_pos k with ag | ag
       ·have d5:decide (0<k)=false:=aB (by omega)
        have a8:=hid (hE.out.trans (Y.out ag a3.out));clear hE Y J a3 ad;go_wp2_with fail;go_quiet (fail);go_wp2_with fail;go_roundw
        case rel=>exact⟨k+1,by omega,by go_num,a8,hid (a1.out.drewN _)⟩
        case measure=>simp[intOf];omega
       ·have d5:decide (0<k)=true:=aC ag
        obtain⟨m2,ah⟩:∃m2,m2+1=k:=⟨k-1,by omega⟩;have bk:(k:Int)-1=(m2:Int):=by omega
        have bl:IntKind.i64.wrap (m2:Int)=(m2:Int):=IntWalk.i64_in _ (by omega);have a7:m2<cs.length:=by omega
        have bd:m2<nc:=by omega
        obtain⟨g3,bg,e3,_,p0,p1,p2,p3,p4,p5⟩:=nA ad a7;injection e3 with e3;injection e3 with e3 e3b;subst e3;subst e3b;have a6:=hid (J.out m2 ah a3.out);have b6:=hid (fun W hb=>CK.out W hb _ (aR a7) _ ae.out);generalize cs[m2] = y at *;obtain⟨⟨yo,ya,yb,yk,yt,yg⟩,yA,yc⟩:=y;dsimp only at *;clear Y J ah a7 ad;have bo:Hid (pR ⟨yo,ya,yb,yk,yt,yg⟩ ⟨xo,xa,xb,xk,xt,xg⟩=decide (0≤wT ⟨yo,ya,yb,yk,yt,yg⟩ ⟨xo,xa,xb,xk,xt,xg⟩)):=hid rfl;unfold MC.row at b6;dsimp only at b6;generalize wT ⟨yo,ya,yb,yk,yt,yg⟩ ⟨xo,xa,xb,xk,xt,xg⟩=v at *;rw[bo.out]at a6;clear bo;go_wp2_with fail;refine mE 10 (by kernel_rfl) (by kernel_rfl) fun W hW=>?_
        have ay:=a1.out.drew;rw[←hW]at ay;have bc:=hid ay;clear ay;have bv:W.cell? _=_:=(congrArg (fun w9:World=>w9.cell? _) hW).trans s2;have c8:W.cell? _=_:=(congrArg (fun w9:World=>w9.cell? _) hW).trans p0;have cb:W.cell? _=_:=(congrArg (fun w9:World=>w9.cell? _) hW).trans p1;have cd:W.cell? _=_:=(congrArg (fun w9:World=>w9.cell? _) hW).trans p2;have c6:W.cell? _=_:=(congrArg (fun w9:World=>w9.cell? _) hW).trans p3;have c9:W.cell? _=_:=(congrArg (fun w9:World=>w9.cell? _) hW).trans p4;have bw:W.cell? _=_:=(congrArg (fun w9:World=>w9.cell? _) hW).trans p5;have bu:W.cell? _=_:=(congrArg (fun w9:World=>w9.cell? _) hW).trans b0;have bz:W.cell? _=_:=(congrArg (fun w9:World=>w9.cell? _) hW).trans b1;have ca:W.cell? _=_:=(congrArg (fun w9:World=>w9.cell? _) hW).trans b2;have cf:W.cell? _=_:=(congrArg (fun w9:World=>w9.cell? _) hW).trans b3;have c7:W.cell? _=_:=(congrArg (fun w9:World=>w9.cell? _) hW).trans b4
        have br:W.cell? _=_:=(congrArg (fun w9:World=>w9.cell? _) hW).trans b5;clear hW s2 p0 p1 p2 p3 p4 p5 b0 b1 b2 b3 b4 b5 a1;simp only[List.take_succ_cons,List.take_zero,List.drop_succ_cons,List.drop_zero]
        iterate 10 still_step
        refine wpStill_nil ?_;clear bv c8 cb cd c6 c9 bw bu bz ca cf c7 br;by_cases b8:0≤v
        ·have d7:decide (0≤v)=true:=aC b8
         have hv:Hid ((13:Int)=V):=hid (Eq.symm (by rw[bb.out,hE.out,a6.out,d7];rfl));clear a6 hE b8
         go_wp2_with (refine(b6.out _ bc.out.1).mono ?_;rintro e w6 ⟨rfl,bi⟩)
         go_ret;exact⟨rI hv.out,(bc.out.on bi).1⟩
        ·have d7:decide (0≤v)=false:=aB b8
         have a8:=hid (hE.out.trans (by rw[a6.out,d7,cond_false]));clear a6 hE b8
         go_wp2_with (refine(b6.out _ bc.out.1).mono ?_;rintro e w6 ⟨rfl,bi⟩)
         go_roundw
         case rel=>exact⟨k+1,by omega,by go_num,a8,hid (bc.out.on bi)⟩
         case measure=>simp[intOf];omega
      ·obtain rfl:nc=k:=by omega
       have e1:decide ((nc:Int)<(nc:Int))=false:=aB (by omega);have aj:Hid (E3=0):=hid (by rw[hE.out,av.out];exact vH _ _);have ce:Hid ((0:Int)=V):=hid (by rw[bb.out,aj.out]);clear hE aj bb;go_wp2_with fail;go_ret;exact⟨rI ce.out,b7.out.1⟩
end sy
set_option maxHeartbeats 8000000
namespace sy
open RowKit mem
open nm (Nd eU dV jK iG jS kP)
theorem aFF(s:ByteArray)(hs:s.size≤maxLen):∃(d:Nd) (e0:Int),Hid (aA0 s=(decide (e0=0)&&(decide (5≤d.kind)&&decide (d.cell<0))))∧∀w,Calls Tryz.prog 117 #[.string s] w (kM d e0 w):=by
 rcases hr:eU s with _ | _
 ·have Y:aA0 s=false:=by
   unfold aA0;rw[hr];rfl
  have J:∀w,Calls Tryz.prog 117 #[.string s] w (jS w):=fun w=>jK s w hs hr
  rw[Y];obtain⟨d,hd⟩:∃d:Nd,d=⟨0,⟨#[]⟩,0,⟨#[]⟩,0,0⟩:=⟨_,rfl⟩;refine⟨d,11,hid rfl,fun w=>?_⟩;have h:=J w;unfold kM;rw[hd];unfold jS at h;exact h
 ·have Y:aA0 s=(decide ((0:Int)=0)&&(decide (5≤(dV s).kind)&&decide ((dV s).cell<0))):=by
   unfold aA0;rw[hr];rfl
  have J:∀w,Calls Tryz.prog 117 #[.string s] w fun e w'=>e=.returned (.tuple #[(dV s).val,.int .i64 0])∧Below w.heap.size w w':=fun w=>iG s w hs hr
  generalize dV s=d at Y J;exact⟨d,0,hid Y,J⟩
theorem aIB{J:List Mk}{n k:Nat}(hk:k<J.length)(Y:qW J n k):xX J n k J[k]↔(0≤J[k].at_∧J[k].at_<n∧sZ J[k].tag=true∧(0<k→aC9 J k≤J[k].at_)∧J[k]∉J.take k):=by
 rw[aFu hk Y];constructor
 ·rintro⟨h1,h2,h3,h4⟩
  refine⟨?_,h3,h4,fun _=>h2,h1⟩;cases k with
  | zero=>exact h2
  | succ q=>
   rw[nQ (by omega)]at h2;have:=(Y q _ (by omega) (aN (by omega))).1;omega
 ·rintro⟨h1,h2,h3,h4,h5⟩
  refine⟨h5,?_,h2,h3⟩;cases k with
  | zero=>exact h1
  | succ q=>exact h4 (by omega)
def RO(w wr:World)(xs:Array Value):Prop:=Below w.heap.size w wr∧bV wr w.heap.size 99 xs
theorem RO.on{w wr J:World}{xs:Array Value}(h:RO w wr xs)(hb:Below wr.heap.size wr J):RO w J xs:=⟨h.1.trans (hb.mono h.1.size),h.2.kept (Fr.of_below hb []) (by simp)⟩
theorem RO.new(w:World)(xs:Array Value):RO w (w.alloc (.cells xs 99)) xs:=⟨((Fr.refl [] w).alloc _).all,bV.new w _ xs⟩
theorem RO.alloc{w wr:World}{xs:Array Value}(h:RO w wr xs)(o:Obj):RO w (wr.alloc o) xs:=h.on ((Fr.refl [] wr).alloc o).all
theorem RO.drewN{w wr:World}{xs:Array Value}(h:RO w wr xs)(i:Nat):RO w (wr.drewN i) xs:=h.on ((Fr.refl [] wr).drewN i).all
theorem aCU(hm:aIJ)(x:MO)(w:World)(hx:MOk w x):Calls Tryz.prog 114 #[.agg x.row.toArray] w (dG (jQ x.o) w):=by
 obtain⟨d,e0,aw,av⟩:=aFF x.o.name hx.n;have HD:=hid av;have HK:=hid (fun w=>tY x.o.kinds 1 64 w hx.k (by decide) (by decide));have HM:=hid (fun w' (hb:Below w.heap.size w w')=>hx.m.below hb);have b6:Hid (∀m∈x.o.marks,m.tag.size≤maxLen):=hid hx.mt;have b4:=hx.ml;have ak:=hx.k;unfold maxLen at b4 ak;unfold kM at HD;obtain⟨⟨name,kinds,ms⟩,mA,mc⟩:=x;obtain⟨dk,df,dc,dn,dm,dl⟩:=d;unfold MO.row;rw[aFs];dsimp only at *;clear hx av;unfold dG;obtain⟨n,hN⟩:∃n,Hid (n=ms.length):=⟨_,hid rfl⟩;rw[←hN.out]at b4 ⊢;generalize eD kinds 1 64=b2 at *;rw[aw.out];obtain⟨V,hV⟩:∃V:Int,Hid (V=aKC (decide (e0=0)&&(decide (5≤dk)&&decide (dl<0))) b2 (aAV ms kinds.size)):=⟨_,hid rfl⟩;rw[←hV.out];clear aw;go_enter Tryz.func114,Tryz.ntmps114;go_wp2_with fail;refine(HD.out _).mono ?_;rintro e w2 ⟨rfl,az⟩;have X2:=hid (((RO.new w #[.string name,.string kinds,.slice mA n mc]).on az).alloc (.cells #[.int .i64 dk,.string df,.int .i64 dc,.string dn,.int .i64 dm,.int .i64 dl] 163))
 clear az HD;by_cases he:e0=0;rotate_left
 ·have d0:(e0 != 0)=true:=by simpa using he
  have q:=hid (aB he);clear he;go_wp2_with fail;go_ret;exact⟨rI (show(11:Int)=V by rw[hV.out,q.out];rfl),X2.out.1⟩
 have d0:(e0 != 0)=false:=by simpa using he
 have q0:=hid (aC he);clear he;by_cases h5:5≤dk;rotate_left
 ·have d1:decide (dk<5)=true:=aC (by omega)
  have q:=hid (aB h5);clear h5;go_wp2_with fail;go_ret;exact⟨rI (show(11:Int)=V by rw[hV.out,q0.out,q.out];rfl),X2.out.1⟩
 have d1:decide (dk<5)=false:=aB (by omega);have q1:=hid (aC h5);clear h5;by_cases hl:dl<0;rotate_left
 ·have d2:decide (0≤dl)=true:=aC (by omega)
  have q:=hid (aB hl);clear hl;go_wp2_with fail;go_ret;exact⟨rI (show(11:Int)=V by rw[hV.out,q0.out,q1.out,q.out];rfl),X2.out.1⟩
 have d2:decide (0≤dl)=false:=aB (by omega);have ai:Hid (V=aKC true b2 (aAV ms kinds.size)):=hid (by rw[hV.out,q0.out,q1.out,aC hl];rfl);clear hl q0 q1 hV;have x1:=X2.out.2.cell 1;simp only[aL,aJ,aK]at x1;go_wp2_with fail;refine(HK.out _).mono ?_;rintro e w3 ⟨rfl,h3⟩;subst h3;rcases b2 with _ | _
 ·go_wp2_with fail
  go_ret;exact⟨rI (show(5:Int)=V by rw[ai.out];rfl),X2.out.1⟩
 have a3:Hid (V=aAV ms kinds.size):=hid (by rw[ai.out];rfl);clear ai x1 d0 d1 d2 HK;have ae:Hid (qW ms kinds.size 0):=hid (fun i m hi _=>by omega);go_wp2_with fail;go_loopw [5] (fun i wr=>∃k:Nat,k≤n∧i=.int .i64 k∧Hid (qW ms kinds.size k)∧Hid (RO w wr #[.string name,.string kinds,.slice mA n mc])) (fun i _=>n-(intOf i).toNat)
 case atStart=>exact⟨0,by omega,rfl,ae,X2⟩
 case round=>
  obtain⟨k,hk,rfl,am,a6⟩:=hrel;clear ae X2
  rename World=>wr
  have y2:=a6.out.2.cell 2;simp only[aL,aJ,aK]at y2;by_cases ak:k<n
  ·have e1:decide ((k:Int)<(n:Int))=true:=aC (by omega)
   have a7:k<ms.length:=by rw[←hN.out];exact ak
   have au:=HM.out wr a6.out.1;obtain⟨g,off,rfl,hg,c0,c1⟩:=uI au a7;have J:=hid (aIB a7 am.out);have Y:=hid (fun h=>aFp (aFx (n:=kinds.size) a7 h));have a0:=hid (fun h=>(aCW (n:=kinds.size) a7).2 ⟨am.out,h⟩);have ag:=b6.out ms[k] (aR a7);obtain⟨m,ap⟩:∃m,ms[k] = m:=⟨_,rfl⟩;rw[ap]at J Y ag c0 c1;have aa:=hid ap;clear ap;obtain⟨at_,tag⟩:=m;dsimp only at *;have bb:(tag.size:Int)≤9223372036854775807:=by unfold maxLen at ag;omega
   clear ag;have a1:=hid (a6.out.alloc (.cells #[.int .i64 at_,.string tag] 101));have a8:=hid (bV.new wr 101 #[.int .i64 at_,.string tag]);have b7:=hid (HM.out _ a1.out.1);go_wp2_with fail;generalize hW:wr.alloc (.cells #[.int .i64 at_,.string tag] 101)=W at *;have bc:=a6.out.1.size;clear hW c0 c1 y2 au;generalize wr.heap.size=bm at *;have z1:=a1.out.2.cell 1;have z2:=a1.out.2.cell 2;have m0:=a8.out.cell 0;have m1:=a8.out.cell 1;simp only[aL,aJ,aK]at z1 z2 m0 m1;by_cases h0:at_<0
   ·have d1:decide (at_<0)=true:=aC h0
    have hv:Hid ((3:Int)=V):=hid (by rw[a3.out,Y.out (fun h=>absurd (J.out.1 h).1 (by omega))]);clear Y a0 J h0;go_quiet (fail);go_wp2_with fail;go_ret;exact⟨rI hv.out,(a1.out.drewN _).1⟩
   have d1:decide (at_<0)=false:=aB h0;have p1:=hid (Int.not_lt.1 h0);clear h0;by_cases h0:(kinds.size:Int)≤at_
   ·have d2:decide ((kinds.size:Int)≤at_)=true:=aC h0
    have hv:Hid ((3:Int)=V):=hid (by rw[a3.out,Y.out (fun h=>absurd (J.out.1 h).2.1 (by omega))]);clear Y a0 J h0;go_quiet (fail);go_wp2_with fail;go_ret;exact⟨rI hv.out,(a1.out.drewN _).1⟩
   have d2:decide ((kinds.size:Int)≤at_)=false:=aB h0;have p2:=hid (Int.not_le.1 h0);clear h0;by_cases h0:tag.size<1
   ·have d3:decide ((tag.size:Int)<1)=true:=aC (by omega)
    have hv:Hid ((3:Int)=V):=hid (by rw[a3.out,Y.out (fun h=>by have h9:=(J.out.1 h).2.2.1;unfold sZ at h9;simp at h9;omega)]);clear Y a0 J h0;go_quiet (fail);go_wp2_with fail;go_ret;exact⟨rI hv.out,(a1.out.drewN _).1⟩
   have d3:decide ((tag.size:Int)<1)=false:=aB (by omega);have p3:=hid h0;clear h0;by_cases h0:60<tag.size
   ·have d4:decide ((60:Int)<(tag.size:Int))=true:=aC (by omega)
    have hv:Hid ((3:Int)=V):=hid (by rw[a3.out,Y.out (fun h=>by have h9:=(J.out.1 h).2.2.1;unfold sZ at h9;simp at h9;omega)]);clear Y a0 J h0;go_quiet (fail);go_wp2_with fail;go_ret;exact⟨rI hv.out,(a1.out.drewN _).1⟩
   have d4:decide ((60:Int)<(tag.size:Int))=false:=aB (by omega);have p4:Hid (sZ tag=true):=hid (by unfold sZ;rw[aC (by have:=p3.out;omega),aC (by omega)];rfl);clear h0 p3;rcases Nat.eq_zero_or_pos k with ao | ao
   ·have d5:decide (0<k)=false:=aB (by omega)
    have p5:Hid (0<k→aC9 ms k≤at_):=hid (fun h=>by omega);go_quiet (fail);go_wp2_with fail;go_loopw [7] (fun j wx=>∃q:Nat,q≤k∧j=.int .i64 q∧Hid (¬(⟨at_,tag⟩:Mk)∈ms.take q)∧Hid (RO w wx #[.string name,.string kinds,.slice (some ⟨g,off,none⟩) n mc]∧bV wx bm 101 #[.int .i64 at_,.string tag])) (fun j _=>k-(intOf j).toNat)
    case atStart=>exact⟨0,by omega,rfl,hid (by simp),hid ⟨a1.out.drewN _,a8.out.kept ((Fr.refl [] W).drewN _) (by simp)⟩⟩
    case round=>
     obtain⟨q,hq,rfl,a4,a2⟩:=hrel
     rename World=>wx
     clear z1 z2 m0 m1;by_cases ay:q<k
     ·exfalso;omega
     ·obtain rfl:q=k:=by omega
      have e2:decide (q<q)=false:=aB (by omega);have a5:=hid (a0.out (by rw[aa.out];exact J.out.2 ⟨p1.out,p2.out,p4.out,p5.out,a4.out⟩));clear Y a0 J aa;go_wp2_with fail;go_roundw
      case rel=>exact⟨q+1,by omega,by go_num,a5,hid a2.out.1⟩
      case measure=>simp[intOf];omega
   ·have d5:decide (0<k)=true:=aC ao
    obtain⟨m2,b1⟩:∃m2,m2+1=k:=⟨k-1,by omega⟩;have b8:(k:Int)-1=(m2:Int):=by omega
    have b9:IntKind.i64.wrap (m2:Int)=(m2:Int):=IntWalk.i64_in _ (by omega);have ad:m2<ms.length:=by omega
    have ba:m2<n:=by omega
    obtain⟨g3,ax,e3,_,k0,k1⟩:=uI b7.out ad;injection e3 with e3;injection e3 with e3 e4;subst e3;subst e4;have af:Hid (aC9 ms k=ms[m2].at_):=hid (by rw[←b1];exact nQ ad);generalize ms[m2].at_=pv at *;clear k1 b1;by_cases h0:at_<pv
    ·have d6:decide (at_<pv)=true:=aC h0
     have hv:Hid ((3:Int)=V):=hid (by rw[a3.out,Y.out (fun h=>by have h9:=(J.out.1 h).2.2.2.1 ao;rw[af.out]at h9;omega)]);clear Y a0 J h0;go_quiet (fail);go_wp2_with fail;go_ret;exact⟨rI hv.out,(a1.out.drewN _).1⟩
    have d6:decide (at_<pv)=false:=aB h0;have p5:Hid (0<k→aC9 ms k≤at_):=hid (fun _=>by rw[af.out];omega);clear h0 af;go_quiet (fail);go_wp2_with fail;clear k0 b8 b9;go_loopw [7] (fun j wx=>∃q:Nat,q≤k∧j=.int .i64 q∧Hid (¬(⟨at_,tag⟩:Mk)∈ms.take q)∧Hid (RO w wx #[.string name,.string kinds,.slice (some ⟨g,off,none⟩) n mc]∧bV wx bm 101 #[.int .i64 at_,.string tag])) (fun j _=>k-(intOf j).toNat)
    case atStart=>exact⟨0,by omega,rfl,hid (by simp),hid ⟨a1.out.drewN _,a8.out.kept ((Fr.refl [] W).drewN _) (by simp)⟩⟩
    case round=>
     obtain⟨q,hq,rfl,a4,a2⟩:=hrel
     rename World=>wx
     clear z1 z2 m0 m1;by_cases ay:q<k
     ·have e2:decide (q<k)=true:=aC ay
      have z2:=a2.out.1.2.cell 2;have m0:=a2.out.2.cell 0;have m1:=a2.out.2.cell 1;have a9:q<ms.length:=by omega
      obtain⟨g3,ax,e3,_,k0,k1⟩:=uI (HM.out wx a2.out.1.1) a9;injection e3 with e3;injection e3 with e3 e4;subst e3;subst e4;simp only[aL,aJ,aK]at z2 m0 m1;have ah:Hid (ms.take (q+1)=ms.take q++[ms[q]]):=hid (by rw[bC a9]);have aj:Hid (ms[q]∈ms.take k):=hid (List.mem_take_iff_getElem.2 ⟨q,by omega,rfl⟩);have bd:q<n:=by omega
      generalize ms[q] = p at *;have EQ:=fun w=>hm.eq p ⟨at_,tag⟩ w
      have GU:=hm.guard;rcases hs:rR p ⟨at_,tag⟩ with _ | _
      ·have ar:Hid (p=⟨at_,tag⟩→False):=hid (fun e=>by rw[vW.2 e]at hs;cases hs)
       have b5:Hid (¬(⟨at_,tag⟩:Mk)∈ms.take (q+1)):=hid (fun h=>by
        rw[ah.out]at h;rcases List.mem_append.1 h with h | h
        ·exact a4.out h
        ·exact ar.out (aD.1 h).symm)
       rw[hs]at EQ;obtain⟨pa,pt⟩:=p;unfold mkV at EQ;dsimp only at k0 k1 EQ;clear hs ah aj ar a4 a9;go_wp2_with fail;go_quiet (fail);go_wp2_with fail;go_roundw
       case rel=>exact⟨q+1,by omega,by go_num,b5,hid ⟨a2.out.1.drewN _,a2.out.2.kept ((Fr.refl [] wx).drewN _) (by simp)⟩⟩
       case measure=>simp[intOf];omega
      ·have b3:=hid (vW.1 hs)
       have hv:Hid ((3:Int)=V):=hid (by rw[a3.out,Y.out (fun h=>(J.out.1 h).2.2.2.2 (b3.out ▸ aj.out))]);rw[hs]at EQ;obtain⟨pa,pt⟩:=p;unfold mkV at EQ;dsimp only at k0 k1 EQ;clear hs ah aj b3 a4 a9 Y a0 J;go_wp2_with fail;go_quiet (fail);go_wp2_with fail;go_ret;exact⟨rI hv.out,(a2.out.1.drewN _).1⟩
     ·obtain rfl:q=k:=by omega
      have e2:decide (q<q)=false:=aB (by omega);have a5:=hid (a0.out (by rw[aa.out];exact J.out.2 ⟨p1.out,p2.out,p4.out,p5.out,a4.out⟩));clear Y a0 J aa;go_wp2_with fail;go_roundw
      case rel=>exact⟨q+1,by omega,by go_num,a5,hid a2.out.1⟩
      case measure=>simp[intOf];omega
  ·obtain rfl:k=n:=by omega
   have e1:decide ((k:Int)<(k:Int))=false:=aB (by omega);have hv:Hid ((0:Int)=V):=hid (by rw[a3.out,aCk (by rw[←hN.out];exact am.out)]);go_wp2_with fail;go_ret;exact⟨rI hv.out,a6.out.1⟩
end sy
end Go.Proofs.YtdmmkjijgoiecaaGreatDoor
