import Derived.Deep.DeepCutAuto
import Derived.Test.YtdmmkjijgoiecaaGreatDoorB25
set_option linter.all false
set_option maxHeartbeats 4000000
namespace Go.Proofs.YtdmmkjijgoiecaaGreatDoor
open Lib(hid)
set_option maxHeartbeats 16000000
set_option maxRecDepth 100000
namespace sy
open RowKit mem
open nm (iE bQ)
def jU(nb rb:Bool):Int:=if nb=false then 11 else if rb=true then 0 else 3
theorem aGz(c:SC)(Y:1≤c.op)(J:c.op≤6):jB c=jU (aCY c) (bP c):=by
 unfold jB jU;rw[if_neg (by omega)]
theorem aOH(x:MC)(w:World)(hx:COk w x)(Y:iE w)(a8:x.c.op=1):Calls Tryz.prog 121 #[.agg x.row.toArray] w (dD (jU (dP x.c.a&&nZ x.c.b) (decide (x.c.k=0)&&(decide (x.c.tag.size=0)&&decide (x.c.args.length=0)))) w):=by
 have HA:=hid (fun w' (hb:Below w.heap.size w w')=>nJ x.c.a w' hx.a (bQ Y hb))
 have HB:=hid (fun w' (hb:Below w.heap.size w w')=>aIp x.c.b w' hx.b (bQ Y hb))
 unfold cZ at HA HB;have hz:=jY x.c.tag;obtain⟨⟨op,a,b,k,tag,args⟩,aA,ac⟩:=x;unfold MC.row;dsimp only at *;clear hx Y;unfold dD;generalize dP a=na at *;generalize nZ b=nb at *;generalize args.length=n at *;subst a8;obtain⟨Z,hZ⟩:∃Z,Hid (jU (na&&nb) (decide (k=0)&&(decide (tag.size=0)&&decide (n=0)))=Z):=⟨_,hid rfl⟩;rw[hZ.out];go_enter Tryz.func121,Tryz.ntmps121;obtain⟨rb,J⟩:∃r,Hid (r=(decide (k=0)&&(decide (tag.size=0)&&decide (n=0)))):=⟨_,hid rfl⟩;go_upto_region 9 with fail
 go_cut [5] (fun s5 wx=>s5=.bool rb∧(w.alloc (.cells #[.int .i64 1,.string a,.string b,.int .i64 k,.string tag,.slice aA n ac] 105))=wx)
 case first=>
  by_cases hk:k=0
  ·have dk:(k==0)=true:=by simpa using hk
   have a3:=hid hk;clear hk
   by_cases ht:tag.size=0
   ·have a5:=hid ht
    rw[show(tag.size==0)=true by simpa using ht]at hz
    clear ht;have hn:=hid (show((n:Int)==0)=decide (n=0) by rw[Bool.eq_iff_iff];simp)
    go_wp2_with fail
    go_meet
    exact⟨congrArg Value.bool (by rw[J.out,aC a3.out,aC a5.out,hn.out];rfl),rfl⟩
   ·have a5:=hid ht
    rw[show(tag.size==0)=false by simpa using ht]at hz
    clear ht;go_wp2_with fail
    go_meet
    exact⟨congrArg Value.bool (by rw[J.out,aC a3.out,aB a5.out];rfl),rfl⟩
  ·have dk:(k==0)=false:=by simpa using hk
   have a3:=hid hk;clear hk;go_wp2_with fail
   go_meet
   exact⟨congrArg Value.bool (by rw[J.out,aB a3.out];rfl),rfl⟩
 obtain⟨rfl,rfl⟩:=hcut;have a2:Hid (jU (na&&nb) rb=Z):=hid (by rw[J.out];exact hZ.out)
 clear hZ J;clear hz;have X:=bT.new w 105 #[.int .i64 1,.string a,.string b,.int .i64 k,.string tag,.slice aA n ac];have a4:=hid (((Fr.refl [] w).alloc (.cells #[.int .i64 1,.string a,.string b,.int .i64 k,.string tag,.slice aA n ac] 105)).all);have x1:=X.cell 1;have x2:=X.cell 2;simp only[aL,aJ,aK]at x1 x2;clear X;go_wp2_with fail;refine(HA.out _ a4.out).mono ?_;rintro e w2 ⟨rfl,a1⟩;have a0:=hid (a4.out.trans (a1.mono a4.out.size))
 rcases na with _ | _
 ·clear a1 x2
  go_wp2_with fail;go_ret;exact⟨congrArg (fun z=>Ending.returned (.int .i64 z)) a2.out,a0.out⟩
 have y2:=(a1.cell (p:=⟨w.heap.size,2,none⟩) (block_lt_of_cell x2)).trans x2;clear a1 x2;go_wp2_with fail;refine(HB.out _ a0.out).mono ?_;rintro e w4 ⟨rfl,a7⟩;have a6:=hid (a0.out.trans (a7.mono a0.out.size));clear a0 a7
 rcases nb with _ | _
 ·go_wp2_with fail
  go_ret;exact⟨congrArg (fun z=>Ending.returned (.int .i64 z)) a2.out,a6.out⟩
 rcases rb with _ | _
 ·go_wp2_with fail
  go_ret;exact⟨congrArg (fun z=>Ending.returned (.int .i64 z)) a2.out,a6.out⟩
 ·go_wp2_with fail
  go_ret;exact⟨congrArg (fun z=>Ending.returned (.int .i64 z)) a2.out,a6.out⟩
theorem aNF(x:MC)(w:World)(hx:COk w x)(Y:iE w)(h1:2≤x.c.op)(h4:x.c.op≤4):Calls Tryz.prog 121 #[.agg x.row.toArray] w (dD (jU (dP x.c.a&&dP x.c.b) (decide (x.c.k=0)&&(decide (x.c.tag.size=0)&&decide (x.c.args.length=0)))) w):=by
 have HA:=hid (fun w' (hb:Below w.heap.size w w')=>nJ x.c.a w' hx.a (bQ Y hb))
 have HB:=hid (fun w' (hb:Below w.heap.size w w')=>nJ x.c.b w' hx.b (bQ Y hb))
 unfold cZ at HA HB;have hz:=jY x.c.tag;obtain⟨⟨op,a,b,k,tag,args⟩,aA,ac⟩:=x;unfold MC.row;dsimp only at *;clear hx Y;unfold dD;generalize dP a=na at *;generalize dP b=nb at *;generalize args.length=n at *;have e1:decide (op<1)=false:=aB (by omega)
 have e2:decide (6<op)=false:=aB (by omega)
 have e3:(op==1)=false:=by simp;omega
 have e4:(op==5)=false:=by simp;omega
 have e5:(op==6)=false:=by simp;omega
 clear h1 h4;obtain⟨Z,hZ⟩:∃Z,Hid (jU (na&&nb) (decide (k=0)&&(decide (tag.size=0)&&decide (n=0)))=Z):=⟨_,hid rfl⟩;rw[hZ.out];go_enter Tryz.func121,Tryz.ntmps121;obtain⟨rb,J⟩:∃r,Hid (r=(decide (k=0)&&(decide (tag.size=0)&&decide (n=0)))):=⟨_,hid rfl⟩;go_upto_region 9 with fail
 go_cut [5] (fun s5 wx=>s5=.bool rb∧(w.alloc (.cells #[.int .i64 op,.string a,.string b,.int .i64 k,.string tag,.slice aA n ac] 105))=wx)
 case first=>
  by_cases hk:k=0
  ·have dk:(k==0)=true:=by simpa using hk
   have a3:=hid hk;clear hk
   by_cases ht:tag.size=0
   ·have a5:=hid ht
    rw[show(tag.size==0)=true by simpa using ht]at hz
    clear ht;have hn:=hid (show((n:Int)==0)=decide (n=0) by rw[Bool.eq_iff_iff];simp)
    go_wp2_with fail
    go_meet
    exact⟨congrArg Value.bool (by rw[J.out,aC a3.out,aC a5.out,hn.out];rfl),rfl⟩
   ·have a5:=hid ht
    rw[show(tag.size==0)=false by simpa using ht]at hz
    clear ht;go_wp2_with fail
    go_meet
    exact⟨congrArg Value.bool (by rw[J.out,aC a3.out,aB a5.out];rfl),rfl⟩
  ·have dk:(k==0)=false:=by simpa using hk
   have a3:=hid hk;clear hk;go_wp2_with fail
   go_meet
   exact⟨congrArg Value.bool (by rw[J.out,aB a3.out];rfl),rfl⟩
 obtain⟨rfl,rfl⟩:=hcut;have a2:Hid (jU (na&&nb) rb=Z):=hid (by rw[J.out];exact hZ.out)
 clear hZ J;clear hz;have X:=bT.new w 105 #[.int .i64 op,.string a,.string b,.int .i64 k,.string tag,.slice aA n ac];have a4:=hid (((Fr.refl [] w).alloc (.cells #[.int .i64 op,.string a,.string b,.int .i64 k,.string tag,.slice aA n ac] 105)).all);have x1:=X.cell 1;have x2:=X.cell 2;simp only[aL,aJ,aK]at x1 x2;clear X;go_wp2_with fail;refine(HA.out _ a4.out).mono ?_;rintro e w2 ⟨rfl,a1⟩;have a0:=hid (a4.out.trans (a1.mono a4.out.size))
 rcases na with _ | _
 ·clear a1 x2
  go_wp2_with fail;go_ret;exact⟨congrArg (fun z=>Ending.returned (.int .i64 z)) a2.out,a0.out⟩
 have y2:=(a1.cell (p:=⟨w.heap.size,2,none⟩) (block_lt_of_cell x2)).trans x2;clear a1 x2;go_wp2_with fail;refine(HB.out _ a0.out).mono ?_;rintro e w4 ⟨rfl,a7⟩;have a6:=hid (a0.out.trans (a7.mono a0.out.size));clear a0 a7
 rcases nb with _ | _
 ·go_wp2_with fail
  go_ret;exact⟨congrArg (fun z=>Ending.returned (.int .i64 z)) a2.out,a6.out⟩
 rcases rb with _ | _
 ·go_wp2_with fail
  go_ret;exact⟨congrArg (fun z=>Ending.returned (.int .i64 z)) a2.out,a6.out⟩
 ·go_wp2_with fail
  go_ret;exact⟨congrArg (fun z=>Ending.returned (.int .i64 z)) a2.out,a6.out⟩
theorem aOR(x:MC)(w:World)(hx:COk w x)(a4:iE w)(a9:x.c.op=5):Calls Tryz.prog 121 #[.agg x.row.toArray] w (dD (jU (dP x.c.a&&dP x.c.b) (decide (0≤x.c.k)&&(decide (x.c.k≤64)&&(vM x.c.tag&&decide (x.c.args.length=0))))) w):=by
 have HA:=hid (fun w' (hb:Below w.heap.size w w')=>nJ x.c.a w' hx.a (bQ a4 hb))
 have HB:=hid (fun w' (hb:Below w.heap.size w w')=>nJ x.c.b w' hx.b (bQ a4 hb))
 unfold cZ at HA HB;have hz:=jY x.c.tag;obtain⟨⟨op,a,b,k,tag,args⟩,aA,ac⟩:=x;unfold MC.row;dsimp only at *;have HT:=hid (fun w=>aG0 tag w hx.t)
 clear hx a4;unfold dD;generalize dP a=na at *;generalize dP b=nb at *;generalize vM tag=tb at *;generalize args.length=n at *;subst a9;obtain⟨Z,hZ⟩:∃Z,Hid (jU (na&&nb) (decide (0≤k)&&(decide (k≤64)&&(tb&&decide (n=0))))=Z):=⟨_,hid rfl⟩;rw[hZ.out];go_enter Tryz.func121,Tryz.ntmps121;obtain⟨r0,a5⟩:∃r,Hid (r=(decide (k=0)&&(decide (tag.size=0)&&decide (n=0)))):=⟨_,hid rfl⟩;go_upto_region 9 with fail
 go_cut [5] (fun s5 wx=>s5=.bool r0∧(w.alloc (.cells #[.int .i64 5,.string a,.string b,.int .i64 k,.string tag,.slice aA n ac] 105))=wx)
 case first=>
  by_cases hk:k=0
  ·have dk:(k==0)=true:=by simpa using hk
   have a7:=hid hk;clear hk
   by_cases ht:tag.size=0
   ·have a8:=hid ht
    rw[show(tag.size==0)=true by simpa using ht]at hz
    clear ht;have hn:=hid (show((n:Int)==0)=decide (n=0) by rw[Bool.eq_iff_iff];simp)
    go_wp2_with fail
    go_meet
    exact⟨congrArg Value.bool (by rw[a5.out,aC a7.out,aC a8.out,hn.out];rfl),rfl⟩
   ·have a8:=hid ht
    rw[show(tag.size==0)=false by simpa using ht]at hz
    clear ht;go_wp2_with fail
    go_meet
    exact⟨congrArg Value.bool (by rw[a5.out,aC a7.out,aB a8.out];rfl),rfl⟩
  ·have dk:(k==0)=false:=by simpa using hk
   have a7:=hid hk;clear hk;go_wp2_with fail
   go_meet
   exact⟨congrArg Value.bool (by rw[a5.out,aB a7.out];rfl),rfl⟩
 obtain⟨rfl,rfl⟩:=hcut;clear hz a5;have X:=bT.new w 105 #[.int .i64 5,.string a,.string b,.int .i64 k,.string tag,.slice aA n ac];have a1:=hid (((Fr.refl [] w).alloc (.cells #[.int .i64 5,.string a,.string b,.int .i64 k,.string tag,.slice aA n ac] 105)).all);have x1:=X.cell 1;have x2:=X.cell 2;simp only[aL,aJ,aK]at x1 x2;clear X;have a6:=hid hZ.out
 by_cases h0:0≤k
 rotate_left
 ·have d9:decide (0≤k)=false:=aB h0
  have a0:Hid (jU (na&&nb) false=Z):=hid (by rw[←hZ.out,d9];rfl)
  clear hZ HT a6;go_wp2_with fail;refine(HA.out _ a1.out).mono ?_;rintro e w2 ⟨rfl,Y⟩;have J:=hid (a1.out.trans (Y.mono a1.out.size))
  rcases na with _ | _
  ·clear Y x2
   go_wp2_with fail;go_ret;exact⟨congrArg (fun z=>Ending.returned (.int .i64 z)) a0.out,J.out⟩
  have y2:=(Y.cell (p:=⟨w.heap.size,2,none⟩) (block_lt_of_cell x2)).trans x2;clear Y x2;go_wp2_with fail;refine(HB.out _ J.out).mono ?_;rintro e w4 ⟨rfl,a2⟩;have a3:=hid (J.out.trans (a2.mono J.out.size));clear J a2
  rcases nb with _ | _
  ·go_wp2_with fail
   go_ret;exact⟨congrArg (fun z=>Ending.returned (.int .i64 z)) a0.out,a3.out⟩
  go_wp2_with fail;go_ret;exact⟨congrArg (fun z=>Ending.returned (.int .i64 z)) a0.out,a3.out⟩
 have d0:decide (0≤k)=true:=aC h0
 by_cases h1:k≤64
 rotate_left
 ·have d9:decide (k≤64)=false:=aB h1
  have a0:Hid (jU (na&&nb) false=Z):=hid (by rw[←hZ.out,d0,d9];rfl)
  clear hZ HT a6;go_wp2_with fail;refine(HA.out _ a1.out).mono ?_;rintro e w2 ⟨rfl,Y⟩;have J:=hid (a1.out.trans (Y.mono a1.out.size))
  rcases na with _ | _
  ·clear Y x2
   go_wp2_with fail;go_ret;exact⟨congrArg (fun z=>Ending.returned (.int .i64 z)) a0.out,J.out⟩
  have y2:=(Y.cell (p:=⟨w.heap.size,2,none⟩) (block_lt_of_cell x2)).trans x2;clear Y x2;go_wp2_with fail;refine(HB.out _ J.out).mono ?_;rintro e w4 ⟨rfl,a2⟩;have a3:=hid (J.out.trans (a2.mono J.out.size));clear J a2
  rcases nb with _ | _
  ·go_wp2_with fail
   go_ret;exact⟨congrArg (fun z=>Ending.returned (.int .i64 z)) a0.out,a3.out⟩
  go_wp2_with fail;go_ret;exact⟨congrArg (fun z=>Ending.returned (.int .i64 z)) a0.out,a3.out⟩
 have d1:decide (k≤64)=true:=aC h1
 rcases tb with _ | _
 ·have a0:Hid (jU (na&&nb) false=Z):=hid (by rw[←hZ.out,d0,d1];rfl)
  clear hZ a6
  go_wp2_with (refine(HT.out _).mono ?_;rintro e w9 ⟨rfl,rfl⟩)
  refine(HA.out _ a1.out).mono ?_;rintro e w2 ⟨rfl,Y⟩;have J:=hid (a1.out.trans (Y.mono a1.out.size))
  rcases na with _ | _
  ·clear Y x2
   go_wp2_with fail;go_ret;exact⟨congrArg (fun z=>Ending.returned (.int .i64 z)) a0.out,J.out⟩
  have y2:=(Y.cell (p:=⟨w.heap.size,2,none⟩) (block_lt_of_cell x2)).trans x2;clear Y x2;go_wp2_with fail;refine(HB.out _ J.out).mono ?_;rintro e w4 ⟨rfl,a2⟩;have a3:=hid (J.out.trans (a2.mono J.out.size));clear J a2
  rcases nb with _ | _
  ·go_wp2_with fail
   go_ret;exact⟨congrArg (fun z=>Ending.returned (.int .i64 z)) a0.out,a3.out⟩
  go_wp2_with fail;go_ret;exact⟨congrArg (fun z=>Ending.returned (.int .i64 z)) a0.out,a3.out⟩
 have hn:=hid (show((n:Int)==0)=decide (n=0) by rw[Bool.eq_iff_iff];simp)
 have a0:Hid (jU (na&&nb) ((n:Int)==0)=Z):=hid (by rw[←hZ.out,d0,d1,hn.out];rfl)
 clear hZ a6 hn
 rcases hv:((n:Int)==0)with _ | _
 all_goals
  rw[hv]at a0
  go_wp2_with (refine(HT.out _).mono ?_;rintro e w9 ⟨rfl,rfl⟩)
  refine(HA.out _ a1.out).mono ?_;rintro e w2 ⟨rfl,Y⟩;have J:=hid (a1.out.trans (Y.mono a1.out.size))
  rcases na with _ | _
  ·clear Y x2
   go_wp2_with fail;go_ret;exact⟨congrArg (fun z=>Ending.returned (.int .i64 z)) a0.out,J.out⟩
  have y2:=(Y.cell (p:=⟨w.heap.size,2,none⟩) (block_lt_of_cell x2)).trans x2;clear Y x2;go_wp2_with fail;refine(HB.out _ J.out).mono ?_;rintro e w4 ⟨rfl,a2⟩;have a3:=hid (J.out.trans (a2.mono J.out.size));clear J a2
  rcases nb with _ | _
  ·go_wp2_with fail
   go_ret;exact⟨congrArg (fun z=>Ending.returned (.int .i64 z)) a0.out,a3.out⟩
  go_wp2_with fail;go_ret;exact⟨congrArg (fun z=>Ending.returned (.int .i64 z)) a0.out,a3.out⟩
open RowKit mem
open nm (Nd eZ dW kC iT kJ lY)
def lH(d:Nd)(J:Int)(w:World)(e:Ending)(w':World):Prop:=e=.returned (.tuple #[.agg #[.int .i64 d.kind,.string d.fn,.int .i64 d.copy,.string d.name,.int .i64 d.n,.int .i64 d.cell],.int .i64 J])∧Below w.heap.size w w'
theorem uN(s:ByteArray)(hs:s.size≤maxLen):∃(d:Nd) (e0:Int),Hid (oD s=(decide (e0=0)&&decide (d.kind=3)))∧∀w,Calls Tryz.prog 117 #[.string s] w (lH d e0 w):=by
 rcases hr:eZ s with _ | _
 ·have J:oD s=false:=by
   unfold oD;rw[hr];rfl
  have Y:∀w,Calls Tryz.prog 117 #[.string s] w (kJ w):=fun w=>kC s w hs hr
  rw[J];obtain⟨d,hd⟩:∃d:Nd,d=⟨0,⟨#[]⟩,0,⟨#[]⟩,0,0⟩:=⟨_,rfl⟩;refine⟨d,11,hid rfl,fun w=>?_⟩
  have h:=Y w;unfold lH;rw[hd];unfold kJ at h;exact h
 ·have J:oD s=(decide ((0:Int)=0)&&decide ((dW s).kind=3)):=by
   unfold oD;rw[hr];rfl
  have Y:∀w,Calls Tryz.prog 117 #[.string s] w fun e w'=>e=.returned (.tuple #[(dW s).val,.int .i64 0])∧Below w.heap.size w w':=fun w=>iT s w hs hr
  generalize dW s=d at J Y;exact⟨d,0,hid J,Y⟩
theorem aOl(x:MC)(w:World)(hx:COk w x)(a4:x.c.op=1):Calls Tryz.prog 116 #[.agg x.row.toArray] w (dD (jU (dP x.c.a&&nZ x.c.b) (decide (x.c.k=0)&&(decide (x.c.tag.size=0)&&decide (x.c.args.length=0)))) w):=by
 obtain⟨d,e0,a5,a3⟩:=uN x.c.a hx.a;have HD:=hid a3;have HA:=hid (fun w'=>jL x.c.a w' hx.a)
 have HB:=hid (fun w'=>aFa x.c.b w' hx.b)
 have a8:=hx.t;have hz:=jY x.c.tag;unfold maxLen at a8;unfold cZ at HA HB;unfold lH at HD;clear a3;obtain⟨⟨op,a,b,k,tag,args⟩,aA,ac⟩:=x;obtain⟨dk,df,dc,dn,dm,dl⟩:=d;unfold MC.row at *;dsimp only at *;clear hx;unfold dD;generalize dP a=na at *;generalize nZ b=nb at *;generalize args.length=n at *;subst a4;obtain⟨V,hV⟩:∃V,Hid (V=jU (na&&nb) (decide (k=0)&&(decide (tag.size=0)&&decide (n=0)))):=⟨_,hid rfl⟩;rw[←hV.out];go_enter Tryz.func116,Tryz.ntmps116;go_wp2_with fail;refine(HD.out _).mono ?_;rintro e w2 ⟨rfl,Y⟩;have X2:=hid ((RC.new w #[.int .i64 1,.string a,.string b,.int .i64 k,.string tag,.slice aA n ac]).on Y);have a1:=hid (X2.out.on ((Fr.refl [] w2).alloc (.cells #[.int .i64 dk,.string df,.int .i64 dc,.string dn,.int .i64 dm,.int .i64 dl] 163)).all);have N2:=hid (bT.new w2 163 #[.int .i64 dk,.string df,.int .i64 dc,.string dn,.int .i64 dm,.int .i64 dl])
 have a9:=hid Y.size;clear Y HD;have x1:=a1.out.2.cell 1;simp only[aL,aJ,aK]at x1;clear X2;go_wp2_with fail;refine(HA.out _).mono ?_;rintro e w3 ⟨rfl,a2⟩;have X3:=hid (a1.out.on a2);have N3:=hid (N2.out.kept (Fr.of_below a2 []) (by simp))
 clear a2 a1 N2 HA x1
 rcases na with _ | _
 ·go_wp2_with fail
  go_ret;exact⟨congrArg (fun z=>Ending.returned (.int .i64 z)) (show(11:Int)=V by rw[hV.out];rfl),X3.out.1⟩
 have y0:=X3.out.2.cell 0;have y2:=X3.out.2.cell 2;have n0:=N3.out.cell 0;simp only[aL,aJ,aK]at y0 y2 n0;go_wp2_with fail;refine(HB.out _).mono ?_;rintro e w4 ⟨rfl,a0⟩;have J:=hid (X3.out.on a0);have z0:=(a0.cell (p:=⟨w.heap.size,0,none⟩) (block_lt_of_cell y0)).trans y0;have z3:=J.out.2.cell 3;have z4:=J.out.2.cell 4;have z5:=J.out.2.cell 5;have z1:=J.out.2.cell 1;have z2:=J.out.2.cell 2;simp only[aL,aJ,aK]at z1 z2 z3 z4 z5;clear a0 HB X3 N3 y0 y2 n0
 rcases nb with _ | _
 ·go_wp2_with fail
  go_ret;exact⟨congrArg (fun z=>Ending.returned (.int .i64 z)) (show(11:Int)=V by rw[hV.out];rfl),J.out.1⟩
 by_cases hn:n=0
 rotate_left
 ·have a7:decide (0<n)=true:=aC (by omega)
  have q:=hid (aB hn);clear hn;go_wp2_with fail;go_ret;exact⟨congrArg (fun z=>Ending.returned (.int .i64 z)) (show(3:Int)=V by rw[hV.out,q.out];simp[jU]),J.out.1⟩
 have a7:decide (0<n)=false:=aB (by omega)
 have q1:=hid (aC hn);clear hn
 by_cases hk:k=0
 rotate_left
 ·have a6:(k != 0)=true:=by simpa using hk
  have q:=hid (aB hk);clear hk;go_wp2_with fail;go_ret;exact⟨congrArg (fun z=>Ending.returned (.int .i64 z)) (show(3:Int)=V by rw[hV.out,q.out];rfl),J.out.1⟩
 have a6:(k != 0)=false:=by simpa using hk
 have q2:=hid (aC hk);clear hk
 by_cases ht:tag.size=0
 rotate_left
 ·rw[show(tag.size==0)=false by simpa using ht]at hz
  have q:=hid (aB ht);clear ht;go_wp2_with fail;go_ret;exact⟨congrArg (fun z=>Ending.returned (.int .i64 z)) (show(3:Int)=V by rw[hV.out,q.out,q2.out];rfl),J.out.1⟩
 rw[show(tag.size==0)=true by simpa using ht]at hz
 have q3:=hid (aC ht);clear ht;go_wp2_with fail;go_ret;exact⟨congrArg (fun z=>Ending.returned (.int .i64 z)) (show(0:Int)=V by rw[hV.out,q1.out,q2.out,q3.out];rfl),J.out.1⟩
open RowKit mem
open nm (Nd eZ dW kC iT kJ lY)
theorem aL8(x:MC)(w:World)(hx:COk w x)(h1:2≤x.c.op)(h4:x.c.op≤4):Calls Tryz.prog 116 #[.agg x.row.toArray] w (dD (jU (dP x.c.a&&dP x.c.b) (decide (x.c.k=0)&&(decide (x.c.tag.size=0)&&decide (x.c.args.length=0)))) w):=by
 obtain⟨d,e0,a4,a3⟩:=uN x.c.a hx.a;have HD:=hid a3;have HA:=hid (fun w'=>jL x.c.a w' hx.a)
 have HB:=hid (fun w'=>jL x.c.b w' hx.b)
 have a7:=hx.t;have hz:=jY x.c.tag;unfold maxLen at a7;unfold cZ at HA HB;unfold lH at HD;clear a3;obtain⟨⟨op,a,b,k,tag,args⟩,aA,ac⟩:=x;obtain⟨dk,df,dc,dn,dm,dl⟩:=d;unfold MC.row at *;dsimp only at *;clear hx;unfold dD;generalize dP a=na at *;generalize dP b=nb at *;generalize args.length=n at *;have e1:decide (op<1)=false:=aB (by omega)
 have e2:decide (6<op)=false:=aB (by omega)
 have e3:(op==1)=false:=by simp;omega
 have a9:(op != 1)=true:=by simp;omega
 have e4:(op==5)=false:=by simp;omega
 have e5:(op==6)=false:=by simp;omega
 clear h1 h4;obtain⟨V,hV⟩:∃V,Hid (V=jU (na&&nb) (decide (k=0)&&(decide (tag.size=0)&&decide (n=0)))):=⟨_,hid rfl⟩;rw[←hV.out];go_enter Tryz.func116,Tryz.ntmps116;go_wp2_with fail;refine(HD.out _).mono ?_;rintro e w2 ⟨rfl,Y⟩;have X2:=hid ((RC.new w #[.int .i64 op,.string a,.string b,.int .i64 k,.string tag,.slice aA n ac]).on Y);have a1:=hid (X2.out.on ((Fr.refl [] w2).alloc (.cells #[.int .i64 dk,.string df,.int .i64 dc,.string dn,.int .i64 dm,.int .i64 dl] 163)).all);have N2:=hid (bT.new w2 163 #[.int .i64 dk,.string df,.int .i64 dc,.string dn,.int .i64 dm,.int .i64 dl]);have a8:=hid Y.size;clear Y HD;have x1:=a1.out.2.cell 1;simp only[aL,aJ,aK]at x1;clear X2;go_wp2_with fail;refine(HA.out _).mono ?_;rintro e w3 ⟨rfl,a2⟩;have X3:=hid (a1.out.on a2);have N3:=hid (N2.out.kept (Fr.of_below a2 []) (by simp))
 clear a2 a1 N2 HA x1
 rcases na with _ | _
 ·go_wp2_with fail
  go_ret;exact⟨congrArg (fun z=>Ending.returned (.int .i64 z)) (show(11:Int)=V by rw[hV.out];rfl),X3.out.1⟩
 have y0:=X3.out.2.cell 0;have y2:=X3.out.2.cell 2;have n0:=N3.out.cell 0;simp only[aL,aJ,aK]at y0 y2 n0;go_wp2_with fail;refine(HB.out _).mono ?_;rintro e w4 ⟨rfl,a0⟩;have J:=hid (X3.out.on a0);have z0:=(a0.cell (p:=⟨w.heap.size,0,none⟩) (block_lt_of_cell y0)).trans y0;have z3:=J.out.2.cell 3;have z4:=J.out.2.cell 4;have z5:=J.out.2.cell 5;have z1:=J.out.2.cell 1;have z2:=J.out.2.cell 2;simp only[aL,aJ,aK]at z1 z2 z3 z4 z5;clear a0 HB X3 N3 y0 y2 n0
 rcases nb with _ | _
 ·go_wp2_with fail
  go_ret;exact⟨congrArg (fun z=>Ending.returned (.int .i64 z)) (show(11:Int)=V by rw[hV.out];rfl),J.out.1⟩
 by_cases hn:n=0
 rotate_left
 ·have a6:decide (0<n)=true:=aC (by omega)
  have q:=hid (aB hn);clear hn;go_wp2_with fail;go_ret;exact⟨congrArg (fun z=>Ending.returned (.int .i64 z)) (show(3:Int)=V by rw[hV.out,q.out];simp[jU]),J.out.1⟩
 have a6:decide (0<n)=false:=aB (by omega)
 have q1:=hid (aC hn);clear hn
 by_cases hk:k=0
 rotate_left
 ·have a5:(k != 0)=true:=by simpa using hk
  have q:=hid (aB hk);clear hk;go_wp2_with fail;go_ret;exact⟨congrArg (fun z=>Ending.returned (.int .i64 z)) (show(3:Int)=V by rw[hV.out,q.out];rfl),J.out.1⟩
 have a5:(k != 0)=false:=by simpa using hk
 have q2:=hid (aC hk);clear hk
 by_cases ht:tag.size=0
 rotate_left
 ·rw[show(tag.size==0)=false by simpa using ht]at hz
  have q:=hid (aB ht);clear ht;go_wp2_with fail;go_ret;exact⟨congrArg (fun z=>Ending.returned (.int .i64 z)) (show(3:Int)=V by rw[hV.out,q.out,q2.out];rfl),J.out.1⟩
 rw[show(tag.size==0)=true by simpa using ht]at hz
 have q3:=hid (aC ht);clear ht;go_wp2_with fail;go_ret;exact⟨congrArg (fun z=>Ending.returned (.int .i64 z)) (show(0:Int)=V by rw[hV.out,q1.out,q2.out,q3.out];rfl),J.out.1⟩
open RowKit mem
open nm (Nd eZ dW kC iT kJ lY)
theorem aNz(x:MC)(w:World)(hx:COk w x)(aj:x.c.op=5):Calls Tryz.prog 116 #[.agg x.row.toArray] w (dD (jU (dP x.c.a&&dP x.c.b) (decide (0≤x.c.k)&&(decide (x.c.k≤64)&&(vM x.c.tag&&decide (x.c.args.length=0))))) w):=by
 obtain⟨d,e0,ak,ah⟩:=uN x.c.a hx.a;have HD:=hid ah;have HA:=hid (fun w'=>jL x.c.a w' hx.a)
 have HB:=hid (fun w'=>jL x.c.b w' hx.b)
 have am:=hx.t;have hz:=jY x.c.tag;unfold maxLen at am;unfold cZ at HA HB;unfold lH at HD;clear ah;obtain⟨⟨op,a,b,k,tag,args⟩,aA,ac⟩:=x;obtain⟨dk,df,dc,dn,dm,dl⟩:=d;unfold MC.row at *;dsimp only at *;clear hx;unfold dD;generalize dP a=na at *;generalize dP b=nb at *;generalize args.length=n at *;subst aj;obtain⟨V,hV⟩:∃V,Hid (V=jU (na&&nb) (decide (0≤k)&&(decide (k≤64)&&(vM tag&&decide (n=0))))):=⟨_,hid rfl⟩;rw[←hV.out];go_enter Tryz.func116,Tryz.ntmps116;go_wp2_with fail;refine(HD.out _).mono ?_;rintro e w2 ⟨rfl,a5⟩;have X2:=hid ((RC.new w #[.int .i64 5,.string a,.string b,.int .i64 k,.string tag,.slice aA n ac]).on a5);have aa:=hid (X2.out.on ((Fr.refl [] w2).alloc (.cells #[.int .i64 dk,.string df,.int .i64 dc,.string dn,.int .i64 dm,.int .i64 dl] 163)).all);have N2:=hid (bT.new w2 163 #[.int .i64 dk,.string df,.int .i64 dc,.string dn,.int .i64 dm,.int .i64 dl])
 have ao:=hid a5.size;clear a5 HD;have x1:=aa.out.2.cell 1;simp only[aL,aJ,aK]at x1;clear X2;go_wp2_with fail;refine(HA.out _).mono ?_;rintro e w3 ⟨rfl,af⟩;have X3:=hid (aa.out.on af);have N3:=hid (N2.out.kept (Fr.of_below af []) (by simp))
 clear af aa N2 HA x1
 rcases na with _ | _
 ·go_wp2_with fail
  go_ret;exact⟨congrArg (fun z=>Ending.returned (.int .i64 z)) (show(11:Int)=V by rw[hV.out];rfl),X3.out.1⟩
 have y0:=X3.out.2.cell 0;have y2:=X3.out.2.cell 2;have n0:=N3.out.cell 0;simp only[aL,aJ,aK]at y0 y2 n0;go_wp2_with fail;refine(HB.out _).mono ?_;rintro e w4 ⟨rfl,a9⟩;have X4:=hid (X3.out.on a9);have z0:=(a9.cell (p:=⟨w.heap.size,0,none⟩) (block_lt_of_cell y0)).trans y0;have z3:=X4.out.2.cell 3;have z4:=X4.out.2.cell 4;have z5:=X4.out.2.cell 5;have z1:=X4.out.2.cell 1;have z2:=X4.out.2.cell 2;simp only[aL,aJ,aK]at z1 z2 z3 z4 z5;clear a9 HB X3 N3 y0 y2 n0
 rcases nb with _ | _
 ·go_wp2_with fail
  go_ret;exact⟨congrArg (fun z=>Ending.returned (.int .i64 z)) (show(11:Int)=V by rw[hV.out];rfl),X4.out.1⟩
 unfold vM at hV
 by_cases hn:n=0
 rotate_left
 ·have ai:decide (0<n)=true:=aC (by omega)
  have q:=hid (aB hn);clear hn;go_wp2_with fail;go_ret;exact⟨congrArg (fun z=>Ending.returned (.int .i64 z)) (show(3:Int)=V by rw[hV.out,q.out];simp[jU]),X4.out.1⟩
 have ai:decide (0<n)=false:=aB (by omega)
 have J:=hid (aC hn);clear hn
 by_cases hk:0≤k
 rotate_left
 ·have ag:decide (k<0)=true:=aC (by omega)
  have q:=hid (aB hk);clear hk;go_wp2_with fail;go_ret;exact⟨congrArg (fun z=>Ending.returned (.int .i64 z)) (show(3:Int)=V by rw[hV.out,q.out,J.out];simp[jU]),X4.out.1⟩
 have ag:decide (k<0)=false:=aB (by omega)
 have a0:=hid (aC hk);clear hk
 by_cases a3:k≤64
 rotate_left
 ·have a7:decide (64<k)=true:=aC (by omega)
  have q:=hid (aB a3);clear a3;go_wp2_with fail;go_ret;exact⟨congrArg (fun z=>Ending.returned (.int .i64 z)) (show(3:Int)=V by rw[hV.out,q.out,J.out,a0.out];simp[jU]),X4.out.1⟩
 have a7:decide (64<k)=false:=aB (by omega)
 have Y:=hid (aC a3);clear a3
 by_cases a2:1≤tag.size
 rotate_left
 ·have a8:decide ((tag.size:Int)<1)=true:=aC (by omega)
  have q:=hid (aB a2);clear a2;go_wp2_with fail;go_ret;exact⟨congrArg (fun z=>Ending.returned (.int .i64 z)) (show(3:Int)=V by rw[hV.out,q.out,J.out,a0.out,Y.out];simp[jU]),X4.out.1⟩
 have a8:decide ((tag.size:Int)<1)=false:=aB (by omega)
 have a1:=hid (aC a2);clear a2
 by_cases a4:tag.size≤60
 rotate_left
 ·have a6:decide ((60:Int)<(tag.size:Int))=true:=aC (by omega)
  have q:=hid (aB a4);clear a4;go_wp2_with fail;go_ret;exact⟨congrArg (fun z=>Ending.returned (.int .i64 z)) (show(3:Int)=V by rw[hV.out,q.out,J.out,a0.out,Y.out,a1.out];simp[jU]),X4.out.1⟩
 have a6:decide ((60:Int)<(tag.size:Int))=false:=aB (by omega)
 have ae:=hid (aC a4);clear a4;go_wp2_with fail;go_ret;exact⟨congrArg (fun z=>Ending.returned (.int .i64 z)) (show(0:Int)=V by rw[hV.out,J.out,a0.out,Y.out,a1.out,ae.out];rfl),X4.out.1⟩
open RowKit mem
open nm (Nd eZ dW kC iT kJ lY)
theorem aOd(x:MC)(w:World)(hx:COk w x)(a8:x.c.op=6):Calls Tryz.prog 116 #[.agg x.row.toArray] w (dD (jU (oD x.c.a&&dP x.c.b) (decide (x.c.k=0)&&vE x.c.tag x.c.args)) w):=by
 obtain⟨d,e0,J,a5⟩:=uN x.c.a hx.a;have HD:=hid a5;have HA:=hid (fun w'=>jL x.c.a w' hx.a)
 have HB:=hid (fun w'=>jL x.c.b w' hx.b)
 have a9:=hx.t;have hz:=jY x.c.tag;unfold maxLen at a9;unfold cZ at HA HB;unfold lH at HD;clear a5;have HC:=hid (fun w' (hb:Below w.heap.size w w')=>aIw x w' (hx.below hb))
 have a1:Hid (oD x.c.a=true→dP x.c.a=true):=hid aHT;obtain⟨⟨op,a,b,k,tag,args⟩,aA,ac⟩:=x;obtain⟨dk,df,dc,dn,dm,dl⟩:=d;unfold MC.row at *;dsimp only at *;clear hx;unfold dD;unfold dD at HC;generalize dP a=na at *;generalize dP b=nb at *;subst a8;rw[J.out]at a1;have aa:Hid (oD a=(decide (e0=0)&&decide (dk=3))):=J;obtain⟨Z,hZ⟩:∃Z,Hid (jU (oD a&&nb) (decide (k=0)&&vE tag args)=Z):=⟨_,hid rfl⟩;rw[hZ.out];rw[J.out]at hZ;clear J;generalize (decide (k=0)&&vE tag args)=rb at *;go_enter Tryz.func116,Tryz.ntmps116;go_wp2_with fail;refine(HD.out _).mono ?_;rintro e w2 ⟨rfl,a0⟩;have X2:=hid ((RC.new w #[.int .i64 6,.string a,.string b,.int .i64 k,.string tag,.slice aA args.length ac]).on a0);have a3:=hid (X2.out.on ((Fr.refl [] w2).alloc (.cells #[.int .i64 dk,.string df,.int .i64 dc,.string dn,.int .i64 dm,.int .i64 dl] 163)).all);have N2:=hid (bT.new w2 163 #[.int .i64 dk,.string df,.int .i64 dc,.string dn,.int .i64 dm,.int .i64 dl])
 have ae:=hid a0.size;clear a0 HD;have x1:=a3.out.2.cell 1;simp only[aL,aJ,aK]at x1;clear X2;go_wp2_with fail;refine(HA.out _).mono ?_;rintro e w3 ⟨rfl,a4⟩;have X3:=hid (a3.out.on a4);have N3:=hid (N2.out.kept (Fr.of_below a4 []) (by simp))
 clear a4 a3 N2 HA x1
 rcases na with _ | _
 ·have hv:Hid ((11:Int)=Z):=hid (by
   rw[←hZ.out]
   rcases hq:(decide (e0=0)&&decide (dk=3))with _ | _
   ·rfl
   ·exact absurd (a1.out hq) (by simp))
  go_wp2_with fail;go_ret;exact⟨congrArg (fun z=>Ending.returned (.int .i64 z)) hv.out,X3.out.1⟩
 have y0:=X3.out.2.cell 0;have y2:=X3.out.2.cell 2;have n0:=N3.out.cell 0;simp only[aL,aJ,aK]at y0 y2 n0
 by_cases he:e0=0
 rotate_left
 ·have d0:(e0 != 0)=true:=by simpa using he
  have hv:Hid ((11:Int)=Z):=hid (by rw[←hZ.out,aB he];rfl)
  clear he;go_wp2_with fail;go_ret;exact⟨congrArg (fun z=>Ending.returned (.int .i64 z)) hv.out,X3.out.1⟩
 have d0:(e0 != 0)=false:=by simpa using he
 rw[aC he,Bool.true_and]at hZ
 by_cases Y:dk=3
 rotate_left
 ·have d3:(dk != 3)=true:=by simpa using Y
  have hv:Hid ((11:Int)=Z):=hid (by rw[←hZ.out,aB Y];rfl)
  clear he Y;go_wp2_with fail;go_ret;exact⟨congrArg (fun z=>Ending.returned (.int .i64 z)) hv.out,X3.out.1⟩
 have d3:(dk != 3)=false:=by simpa using Y
 rw[aC Y,Bool.true_and]at hZ;clear he Y a1 aa;go_wp2_with fail;refine(HB.out _).mono ?_;rintro e w4 ⟨rfl,a2⟩;have X4:=hid (X3.out.on a2);have z0:=(a2.cell (p:=⟨w.heap.size,0,none⟩) (block_lt_of_cell y0)).trans y0;have z3:=X4.out.2.cell 3;have z4:=X4.out.2.cell 4;have z5:=X4.out.2.cell 5;have z1:=X4.out.2.cell 1;have z2:=X4.out.2.cell 2;simp only[aL,aJ,aK]at z1 z2 z3 z4 z5;clear a2 HB X3 N3 y0 y2 n0
 rcases nb with _ | _
 ·go_wp2_with fail
  go_ret;exact⟨congrArg (fun z=>Ending.returned (.int .i64 z)) hZ.out,X4.out.1⟩
 have a6:=hid (HC.out _ X4.out.1);clear HC;go_wp2_with fail;refine a6.out.mono ?_;rintro e w5 ⟨rfl,a7⟩;have X5:=hid (X4.out.on a7);clear a7 a6 X4 z0 z1 z2 z3 z4 z5;go_wp2_with fail;go_ret;exact⟨congrArg (fun z=>Ending.returned (.int .i64 z)) (by rw[←hZ.out];cases rb <;> rfl),X5.out.1⟩
open RowKit mem
open nm (iE bQ)
theorem aOt(x:MC)(w:World)(hx:COk w x)(a2:iE w)(a7:x.c.op=6):Calls Tryz.prog 121 #[.agg x.row.toArray] w (dD (jU (oD x.c.a&&dP x.c.b) (decide (x.c.k=0)&&vE x.c.tag x.c.args)) w):=by
 have HA:=hid (fun w' (hb:Below w.heap.size w w')=>aIV x.c.a w' hx.a (bQ a2 hb))
 have HB:=hid (fun w' (hb:Below w.heap.size w w')=>nJ x.c.b w' hx.b (bQ a2 hb))
 have HC:=hid (fun w' (hb:Below w.heap.size w w')=>aJR x w' (hx.below hb) (bQ a2 hb))
 unfold cZ at HA HB HC;have hz:=jY x.c.tag;have a8:=hx.gl;unfold maxLen at a8;obtain⟨⟨op,a,b,k,tag,args⟩,aA,ac⟩:=x;unfold MC.row at *;dsimp only at *;clear hx a2;unfold dD;generalize oD a=na at *;generalize dP b=nb at *;generalize vE tag args=cb at *;subst a7;obtain⟨V,hV⟩:∃V,Hid (V=jU (na&&nb) (decide (k=0)&&cb)):=⟨_,hid rfl⟩;rw[←hV.out];go_enter Tryz.func121,Tryz.ntmps121;go_upto_region 9 with fail
 go_cut [5] (fun s5 wx=>(∃r,s5=.bool r)∧(w.alloc (.cells #[.int .i64 6,.string a,.string b,.int .i64 k,.string tag,.slice aA args.length ac] 105))=wx)
 case first=>
  by_cases hk:k=0
  ·have dk:(k==0)=true:=by simpa using hk
   clear hk
   by_cases ht:tag.size=0
   ·rw[show(tag.size==0)=true by simpa using ht]at hz
    clear ht;go_wp2_with fail
    go_meet
    exact⟨⟨_,rfl⟩,rfl⟩
   ·rw[show(tag.size==0)=false by simpa using ht]at hz
    clear ht;go_wp2_with fail
    go_meet
    exact⟨⟨_,rfl⟩,rfl⟩
  ·have dk:(k==0)=false:=by simpa using hk
   clear hk;go_wp2_with fail
   go_meet
   exact⟨⟨_,rfl⟩,rfl⟩
 obtain⟨⟨r0,rfl⟩,rfl⟩:=hcut;clear hz;have a3:=hid (((Fr.refl [] w).alloc (.cells #[.int .i64 6,.string a,.string b,.int .i64 k,.string tag,.slice aA args.length ac] 105)).all);have X:=bT.new w 105 #[.int .i64 6,.string a,.string b,.int .i64 k,.string tag,.slice aA args.length ac]
 by_cases hk:k=0
 ·have dk:(k==0)=true:=by simpa using hk
  have a1:Hid (V=jU (na&&nb) cb):=hid (by rw[hV.out,aC hk];rfl)
  clear hk hV;go_wp2_with fail;refine(HC.out _ a3.out).mono ?_;rintro e w3 ⟨rfl,a6⟩;have X3:=X.kept (Fr.of_below a6 []) (by simp)
  have J:=hid (a3.out.trans (a6.mono a3.out.size));have x1:=X3.cell 1;simp only[aL,aJ,aK]at x1;clear a6 HC a3 X;go_wp2_with fail;refine(HA.out _ J.out).mono ?_;rintro e w4 ⟨rfl,a0⟩;have Y:=hid (J.out.trans (a0.mono J.out.size));have X4:=X3.kept (Fr.of_below a0 []) (by simp)
  rcases na with _ | _
  ·clear a0 X3 X4 J HA
   go_wp2_with fail;go_ret;exact⟨congrArg (fun z=>Ending.returned (.int .i64 z)) (show(11:Int)=V by rw[a1.out];rfl),Y.out⟩
  have y2:=X4.cell 2;simp only[aL,aJ,aK]at y2;clear a0 X3 X4 HA J x1;go_wp2_with fail;refine(HB.out _ Y.out).mono ?_;rintro e w6 ⟨rfl,a5⟩;have a4:=hid (Y.out.trans (a5.mono Y.out.size));clear Y a5
  rcases nb with _ | _
  ·go_wp2_with fail
   go_ret;exact⟨congrArg (fun z=>Ending.returned (.int .i64 z)) (show(11:Int)=V by rw[a1.out];rfl),a4.out⟩
  rcases cb with _ | _
  ·go_wp2_with fail
   go_ret;exact⟨congrArg (fun z=>Ending.returned (.int .i64 z)) (show(3:Int)=V by rw[a1.out];rfl),a4.out⟩
  ·go_wp2_with fail
   go_ret;exact⟨congrArg (fun z=>Ending.returned (.int .i64 z)) (show(0:Int)=V by rw[a1.out];rfl),a4.out⟩
 ·have dk:(k==0)=false:=by simpa using hk
  have a1:Hid (V=jU (na&&nb) false):=hid (by rw[hV.out,aB hk];rfl)
  clear hk HC hV;have X3:=X;have J:=a3;have x1:=X3.cell 1;simp only[aL,aJ,aK]at x1;clear a3 X;go_wp2_with fail;refine(HA.out _ J.out).mono ?_;rintro e w4 ⟨rfl,a0⟩;have Y:=hid (J.out.trans (a0.mono J.out.size));have X4:=X3.kept (Fr.of_below a0 []) (by simp)
  rcases na with _ | _
  ·clear a0 X3 X4 J HA
   go_wp2_with fail;go_ret;exact⟨congrArg (fun z=>Ending.returned (.int .i64 z)) (show(11:Int)=V by rw[a1.out];rfl),Y.out⟩
  have y2:=X4.cell 2;simp only[aL,aJ,aK]at y2;clear a0 X3 X4 HA J x1;go_wp2_with fail;refine(HB.out _ Y.out).mono ?_;rintro e w6 ⟨rfl,a5⟩;have a4:=hid (Y.out.trans (a5.mono Y.out.size));clear Y a5
  rcases nb with _ | _
  ·go_wp2_with fail
   go_ret;exact⟨congrArg (fun z=>Ending.returned (.int .i64 z)) (show(11:Int)=V by rw[a1.out];rfl),a4.out⟩
  go_wp2_with fail;go_ret;exact⟨congrArg (fun z=>Ending.returned (.int .i64 z)) (show(3:Int)=V by rw[a1.out];rfl),a4.out⟩
theorem aOq(x:MC)(w:World)(h:x.c.op<1∨6<x.c.op):Calls Tryz.prog 121 #[.agg x.row.toArray] w (dD 5 w):=by
 obtain⟨⟨op,a,b,k,tag,args⟩,aA,ac⟩:=x;unfold MC.row;dsimp only at *;unfold dD
 rcases h with h | h
 ·have d1:decide (op<1)=true:=aC h
  go_enter Tryz.func121,Tryz.ntmps121;go_wp2_with fail;go_ret;exact⟨rfl,((Fr.refl [] w).alloc _).all⟩
 ·have d1:decide (op<1)=false:=aB (by omega)
  have d2:decide (6<op)=true:=aC h;go_enter Tryz.func121,Tryz.ntmps121;go_wp2_with fail;go_ret;exact⟨rfl,((Fr.refl [] w).alloc _).all⟩
theorem aND(x:MC)(w:World)(h:x.c.op<1∨6<x.c.op):Calls Tryz.prog 116 #[.agg x.row.toArray] w (dD 5 w):=by
 obtain⟨⟨op,a,b,k,tag,args⟩,aA,ac⟩:=x;unfold MC.row;dsimp only at *;unfold dD
 rcases h with h | h
 ·have d1:decide (op<1)=true:=aC h
  go_enter Tryz.func116,Tryz.ntmps116;go_wp2_with fail;go_ret;exact⟨rfl,((Fr.refl [] w).alloc _).all⟩
 ·have d1:decide (op<1)=false:=aB (by omega)
  have d2:decide (6<op)=true:=aC h;go_enter Tryz.func116,Tryz.ntmps116;go_wp2_with fail;go_ret;exact⟨rfl,((Fr.refl [] w).alloc _).all⟩
theorem aLs(x:MC)(w:World)(Y:COk w x)(J:iE w):Calls Tryz.prog 121 #[.agg x.row.toArray] w (dD (jB x.c) w):=by
 by_cases hr:x.c.op<1∨6<x.c.op
 ·have e:jB x.c=5:=by unfold jB;rw[if_pos hr]
  rw[e];exact aOq x w hr
 ·rw[aGz x.c (by omega) (by omega)]
  unfold aCY bP
  rcases(by omega:x.c.op=1∨(2≤x.c.op∧x.c.op≤4)∨x.c.op=5∨x.c.op=6)with h | h | h | h
  ·rw[if_neg (by omega),if_pos h,if_neg (by omega),if_neg (by omega)]
   exact aOH x w Y J h
  ·rw[if_neg (by omega),if_neg (by omega),if_neg (by omega),if_neg (by omega)]
   exact aNF x w Y J h.1 h.2
  ·rw[if_neg (by omega),if_neg (by omega),if_neg (by omega),if_pos h]
   exact aOR x w Y J h
  ·rw[if_pos h,if_neg (by omega),if_pos h]
   exact aOt x w Y J h
theorem aJu(x:MC)(w:World)(J:COk w x):Calls Tryz.prog 116 #[.agg x.row.toArray] w (dD (jB x.c) w):=by
 by_cases hr:x.c.op<1∨6<x.c.op
 ·have e:jB x.c=5:=by unfold jB;rw[if_pos hr]
  rw[e];exact aND x w hr
 ·rw[aGz x.c (by omega) (by omega)]
  unfold aCY bP
  rcases(by omega:x.c.op=1∨(2≤x.c.op∧x.c.op≤4)∨x.c.op=5∨x.c.op=6)with h | h | h | h
  ·rw[if_neg (by omega),if_pos h,if_neg (by omega),if_neg (by omega)]
   exact aOl x w J h
  ·rw[if_neg (by omega),if_neg (by omega),if_neg (by omega),if_neg (by omega)]
   exact aL8 x w J h.1 h.2
  ·rw[if_neg (by omega),if_neg (by omega),if_neg (by omega),if_pos h]
   exact aNz x w J h
  ·rw[if_pos h,if_neg (by omega),if_pos h]
   exact aOd x w J h
open RowKit mem
open nm (iE bQ)
def aM3{α:Type}(bad:α→α→Bool):Option α→α→Bool
 | none,_=>false
 | some q,x=>bad q x
def nG{α:Type}(chk:α→Int)(bad:α→α→Bool):Option α→List α→Int
 | _,[]=>0
 | p,x :: r=>if chk x=0 then(bif aM3 bad p x then 13 else nG chk bad (some x) r) else chk x
def dL{α:Type}(xs:List α):Nat→Option α
 | 0=>none
 | m+1=>xs[m]?
theorem xC{α:Type}{chk:α→Int}{bad:α→α→Bool}{xs:List α}{k:Nat}(J:k<xs.length)(h:¬chk xs[k] = 0):nG chk bad (dL xs k) (xs.drop k)=chk xs[k]:=by
 rw[bD J,nG,if_neg h]
theorem sS{α:Type}{chk:α→Int}{bad:α→α→Bool}{xs:List α}(J:0<xs.length)(h:chk xs[0] = 0):nG chk bad (dL xs 0) (xs.drop 0)=nG chk bad (dL xs 1) (xs.drop 1):=by
 rw[bD J,nG,if_pos h];simp only[dL,aM3,cond_false];rw[aN J]
theorem oZ{α:Type}{chk:α→Int}{bad:α→α→Bool}{xs:List α}{m:Nat}(J:m+1<xs.length)(h:chk xs[m+1] = 0):nG chk bad (dL xs (m+1)) (xs.drop (m+1))=bif bad (xs[m]'(by omega)) xs[m+1] then 13 else nG chk bad (dL xs (m+1+1)) (xs.drop (m+1+1)):=by
 rw[bD J,nG,if_pos h];simp only[dL];rw[aN (show m<xs.length by omega),aN J]
 rfl
theorem yV{α β:Type}{f:α→β}{chk:β→Int}{bad:β→β→Bool}:∀(p:Option α) (xs:List α),nG chk bad (p.map f) (xs.map f)=nG (fun x=>chk (f x)) (fun x y=>bad (f x) (f y)) p xs
 | _,[]=>rfl
 | p,x :: r=>by
  have h:=yV (f:=f) (chk:=chk) (bad:=bad) (some x) r;simp only[aV,nG];rw[←h];cases p <;> rfl
theorem xJ{α:Type}{chk:α→Int}{bad:α→α→Bool}(p:Option α)(xs:List α):nG chk bad p (xs.drop xs.length)=0:=by
 rw[List.drop_length];rfl
def mH(a b:SO):Bool:=!lQ a.name b.name
def oC(a b:SF):Bool:=!lQ a.name b.name
def rZ(a b:SC):Bool:=decide (0≤uV a b)
def oG(a b:Int):Int:=if a=0 then b else a
theorem aAN(b:Int):oG 0 b=b:=rfl
theorem aAI{a:Int}(h:¬a=0)(b:Int):oG a b=a:=if_neg h
noncomputable def iW(s:SS):Int:=if 600<s.objs.length∨600<s.fns.length∨6000<s.cons.length then 4 else
 oG (nG kN mH none s.objs) (oG (nG fnE oC none s.fns) (nG jB rZ none s.cons))
def SR(w wr:World)(xs:Array Value):Prop:=Below w.heap.size w wr∧bT wr w.heap.size 27 xs
theorem SR.on{w wr J:World}{xs:Array Value}(h:SR w wr xs)(hb:Below wr.heap.size wr J):SR w J xs:=⟨h.1.trans (hb.mono h.1.size),h.2.kept (Fr.of_below hb []) (by simp)⟩
theorem SR.new(w:World)(xs:Array Value):SR w (w.alloc (.cells xs 27)) xs:=⟨((Fr.refl [] w).alloc _).all,bT.new w _ xs⟩
theorem SR.alloc{w wr:World}{xs:Array Value}(h:SR w wr xs)(o:Obj):SR w (wr.alloc o) xs:=h.on ((Fr.refl [] wr).alloc o).all
theorem SR.drewN{w wr:World}{xs:Array Value}(h:SR w wr xs)(i:Nat):SR w (wr.drewN i) xs:=h.on ((Fr.refl [] wr).drewN i).all
theorem SR.drew{w wr:World}{xs:Array Value}(h:SR w wr xs):SR w wr.drew xs:=h.on (Fr.refl [] wr).drew.all
theorem aKu(s:MS)(w:World):Calls Tryz.prog 118 #[s.val] w (cZ (decide (600<s.os.length∨600<s.fs.length∨6000<s.cs.length)) w):=by
 obtain⟨oA,oc,os,fA,fc,fs,cA,cc,cs⟩:=s;unfold MS.val;dsimp only;generalize os.length=no;generalize fs.length=nf;generalize cs.length=Y;obtain⟨V,J⟩:∃V,Hid (V=decide (600<no∨600<nf∨6000<Y)):=⟨_,hid rfl⟩;rw[←J.out];unfold cZ
 by_cases h1:600<no
 ·have d1:decide ((600:Int)<(no:Int))=true:=aC (by omega)
  have hv:Hid (true=V):=hid (by rw[J.out];exact(aC (by omega)).symm)
  go_enter Tryz.func118,Tryz.ntmps118;go_wp2_with fail;go_ret;exact⟨congrArg (fun z=>Ending.returned (.bool z)) hv.out,((Fr.refl [] w).alloc _).all⟩
 have d1:decide ((600:Int)<(no:Int))=false:=aB (by omega)
 by_cases h2:600<nf
 ·have d2:decide ((600:Int)<(nf:Int))=true:=aC (by omega)
  have hv:Hid (true=V):=hid (by rw[J.out];exact(aC (by omega)).symm)
  go_enter Tryz.func118,Tryz.ntmps118;go_wp2_with fail;go_ret;exact⟨congrArg (fun z=>Ending.returned (.bool z)) hv.out,((Fr.refl [] w).alloc _).all⟩
 have d2:decide ((600:Int)<(nf:Int))=false:=aB (by omega)
 by_cases h3:6000<Y
 ·have d3:decide ((6000:Int)<(Y:Int))=true:=aC (by omega)
  have hv:Hid (true=V):=hid (by rw[J.out];exact(aC (by omega)).symm)
  go_enter Tryz.func118,Tryz.ntmps118;go_wp2_with fail;go_ret;exact⟨congrArg (fun z=>Ending.returned (.bool z)) hv.out,((Fr.refl [] w).alloc _).all⟩
 ·have d3:decide ((6000:Int)<(Y:Int))=false:=aB (by omega)
  have hv:Hid (false=V):=hid (by rw[J.out];exact(aB (by omega)).symm)
  go_enter Tryz.func118,Tryz.ntmps118;go_wp2_with fail;go_ret;exact⟨congrArg (fun z=>Ending.returned (.bool z)) hv.out,((Fr.refl [] w).alloc _).all⟩
theorem aId(s:MS)(w:World)(hs:vO w s)(ao:iE w):Calls Tryz.prog 62 #[s.val] w (dD (iW s.sys) w):=by
 have HO:=hid (fun W (hb:Below w.heap.size w W)=>hs.o.below hb)
 have HF:=hid (fun W (hb:Below w.heap.size w W)=>hs.f.below hb)
 have HC:=hid (fun W (hb:Below w.heap.size w W)=>hs.c.below hb)
 have CO:Hid (∀W,Below w.heap.size w W→∀x∈s.os,Calls Tryz.prog 119 #[.agg x.row.toArray] W (dD (kN x.o) W)):=hid (fun W hb x hx=>aFw x W ((hs.ok x hx).below hb) (bQ ao hb))
 have CF:Hid (∀W,Below w.heap.size w W→∀x∈s.fs,Calls Tryz.prog 120 #[.agg (kW x).toArray] W (dD (fnE x) W)):=hid (fun W hb x hx=>aC1 x W (hs.fk x hx) (bQ ao hb))
 have CC:Hid (∀W,Below w.heap.size w W→∀x∈s.cs,Calls Tryz.prog 121 #[.agg x.row.toArray] W (dD (jB x.c) W)):=hid (fun W hb x hx=>aLs x W ((hs.ck x hx).below hb) (bQ ao hb))
 have CK:Hid (∀W,Below w.heap.size w W→∀x∈s.cs,∀y∈s.cs,Calls Tryz.prog 122 #[.agg x.row.toArray,.agg y.row.toArray] W (dD (uV x.c y.c) W)):=hid (fun W hb x hx y hy=>aEe x y W ((hs.ck x hx).below hb) ((hs.ck y hy).below hb))
 have CU:=hid (fun W=>aKu s W)
 have bq:=hs.ol;have bn:=hs.fl;have bg:=hs.cl;unfold maxLen at bq bn bg;unfold dD at CO CF CC CK;unfold cZ at CU;clear hs ao;obtain⟨oA,oc,os,fA,fc,fs,cA,cc,cs⟩:=s;unfold MS.sys dD;unfold MS.val at CU;unfold MS.val;dsimp only at *;obtain⟨no,aw⟩:∃n,Hid (n=os.length):=⟨_,hid rfl⟩;obtain⟨nf,ar⟩:∃n,Hid (n=fs.length):=⟨_,hid rfl⟩;obtain⟨nc,au⟩:∃n,Hid (n=cs.length):=⟨_,hid rfl⟩;obtain⟨V,hV⟩:∃V,Hid (V=iW ⟨os.map (·.o),fs,cs.map (·.c)⟩):=⟨_,hid rfl⟩
 rw[←hV.out,←aw.out,←ar.out,←au.out];rw[←aw.out]at bq;rw[←ar.out]at bn;rw[←au.out]at bg;rw[←aw.out,←ar.out,←au.out]at CU;obtain⟨E1,bk⟩:∃E,Hid (E=nG (fun x:MO=>kN x.o) (fun x y=>mH x.o y.o) (dL os 0) (os.drop 0)):=⟨_,hid rfl⟩
 obtain⟨E2,af⟩:∃E,Hid (E=nG fnE oC (dL fs 0) (fs.drop 0)):=⟨_,hid rfl⟩;obtain⟨E3,bp⟩:∃E,Hid (E=nG (fun x:MC=>jB x.c) (fun x y=>rZ x.c y.c) (dL cs 0) (cs.drop 0)):=⟨_,hid rfl⟩
 have bj:Hid (V=if 600<no∨600<nf∨6000<nc then 4 else oG E1 (oG E2 E3)):=hid (by
  rw[hV.out,bk.out,af.out,bp.out,aw.out,ar.out,au.out];unfold iW;dsimp only;rw[aH,aH];have g1:=yV (chk:=kN) (bad:=mH) (f:=fun x:MO=>x.o) none os
  have g3:=yV (chk:=jB) (bad:=rZ) (f:=fun x:MC=>x.c) none cs
  simp only[Option.map_none]at g1 g3;rw[g1,g3]
  rfl)
 clear hV;go_enter Tryz.func62,Tryz.ntmps62;have X0:=hid (SR.new w #[.slice oA no oc,.slice fA nf fc,.slice cA nc cc]);go_wp2_with fail;refine(CU.out _).mono ?_;rintro e w2 ⟨rfl,bo⟩;have X2:=hid (X0.out.on bo);clear bo X0 CU
 by_cases az:600<no∨600<nf∨6000<nc
 ·rw[aC az]
  have hv:Hid ((4:Int)=V):=hid (by rw[bj.out,if_pos az])
  clear az;go_wp2_with fail;go_ret;exact⟨congrArg (fun z=>Ending.returned (.int .i64 z)) hv.out,X2.out.1⟩
 rw[aB az];have bb:Hid (V=oG E1 (oG E2 E3)):=hid (by rw[bj.out,if_neg az])
 clear bj;have s0:=X2.out.2.cell 0;simp only[aL,aJ,aK]at s0;go_wp2_with fail;clear s0
 go_loopw [17] (fun i wr=>∃k:Nat,k≤no∧i=.int .i64 k∧Hid (E1=nG (fun x:MO=>kN x.o) (fun x y=>mH x.o y.o) (dL os k) (os.drop k))∧Hid (SR w wr #[.slice oA no oc,.slice fA nf fc,.slice cA nc cc])) (fun i _=>no-(intOf i).toNat)
 case atStart=>exact⟨0,by omega,rfl,bk,X2⟩
 case round=>
  obtain⟨k,hk,rfl,hE,ap⟩:=hrel;clear X2
  rename World=>wr0
  have s0:=ap.out.2.cell 0;simp only[aL,aJ,aK]at s0
  by_cases ay:k<no
  ·have e1:decide ((k:Int)<(no:Int))=true:=aC (by omega)
   have a5:k<os.length:=by rw[←aw.out];exact ay
   have ai:=HO.out wr0 ap.out.1;obtain⟨g,off,rfl,hg,c0,c1,c2⟩:=iK ai a5;have a2:=hid (fun h=>xC (chk:=(fun x:MO=>kN x.o)) (bad:=(fun x y=>mH x.o y.o)) a5 h)
   have J:Hid (k=0→(fun x:MO=>kN x.o) os[k] = 0→nG (fun x:MO=>kN x.o) (fun x y=>mH x.o y.o) (dL os k) (os.drop k)=nG (fun x:MO=>kN x.o) (fun x y=>mH x.o y.o) (dL os (k+1)) (os.drop (k+1))):=hid (fun h hz=>by subst h;exact sS a5 hz)
   have Y:Hid (∀m (h:m+1=k),(fun x:MO=>kN x.o) os[k] = 0→nG (fun x:MO=>kN x.o) (fun x y=>mH x.o y.o) (dL os k) (os.drop k)=bif (fun x y=>mH x.o y.o) (os[m]'(by omega)) os[k] then 13 else nG (fun x:MO=>kN x.o) (fun x y=>mH x.o y.o) (dL os (k+1)) (os.drop (k+1))):=hid (fun m h hz=>by subst h;exact oZ a5 hz)
   have ae:=hid (aR a5);have a4:=hid (ap.out.alloc (.cells os[k].row.toArray 99));have a7:=hid (bT.new wr0 99 os[k].row.toArray);have C1:=hid (CO.out _ a4.out.1 _ ae.out);obtain⟨x,hx⟩:∃x,Hid (os[k] = x):=⟨_,hid rfl⟩;rw[hx.out]at c0 c1 c2 C1 a2 J Y ae a4 a7;unfold MO.row at C1 a4 a7;obtain⟨z,hz⟩:∃z,Hid (kN x.o=z):=⟨_,hid rfl⟩
   try dsimp only at a2 J Y
   rw[hz.out]at C1 a2 J Y;clear hz;obtain⟨⟨xn,xk,xm⟩,xA,xc⟩:=x;dsimp only at *;go_wp2_with fail;refine C1.out.mono ?_;rintro e w5 ⟨rfl,ah⟩;have a1:=hid (a4.out.on ah);have a9:=hid (a7.out.kept (Fr.of_below ah []) (by simp))
   clear a4 a7;have a8:=HO.out w5 a1.out.1;clear ah C1 c0 c1 c2 ai s0
   by_cases a0:z=0
   rotate_left
   ·have dz:(z != 0)=true:=by simpa using a0
    have a3:=hid a0;have hv:Hid (z=V):=hid (Eq.symm (by rw[bb.out,hE.out,a2.out a3.out,aAI a3.out]))
    clear a0 a8 J Y a2;go_wp2_with fail;go_ret;exact⟨congrArg (fun z=>Ending.returned (.int .i64 z)) hv.out,a1.out.1⟩
   have dz:(z != 0)=false:=by simpa using a0
   have a3:=hid a0;have s0:=a1.out.2.cell 0;have b0:=a9.out.cell 0;have b1:=a9.out.cell 1;have b2:=a9.out.cell 2;simp only[aL,aJ,aK]at s0 b0 b1 b2;clear a0 a2
   rcases Nat.eq_zero_or_pos k with ag | ag
   ·have d5:decide (0<k)=false:=aB (by omega)
    have af:=hid (hE.out.trans (J.out ag a3.out));clear hE J Y a3 a8;go_wp2_with fail
    go_quiet (fail)
    go_wp2_with fail
    go_roundw
    case rel=>exact⟨k+1,by omega,by go_num,af,hid (a1.out.drewN _)⟩
    case measure=>simp[intOf];omega
   ·have d5:decide (0<k)=true:=aC ag
    obtain⟨m2,aj⟩:∃m2,m2+1=k:=⟨k-1,by omega⟩
    have br:(k:Int)-1=(m2:Int):=by omega
    have bm:IntKind.i64.wrap (m2:Int)=(m2:Int):=IntWalk.i64_in _ (by omega)
    have aa:m2<os.length:=by omega
    have bh:m2<no:=by omega
    obtain⟨g3,bf,e3,_,p0,p1,p2⟩:=iK a8 aa;injection e3 with e3;injection e3 with e3 e3b;subst e3;subst e3b;have a6:=hid (Y.out m2 aj a3.out);generalize os[m2] = y at *;obtain⟨⟨yn,yk,ym⟩,yA,yc⟩:=y;dsimp only at *;clear J Y aj aa a8
    rcases ax:Op.bytesLess yn.toList xn.toList with _ | _
    ·have am:=hid (show mH ⟨yn,yk,ym⟩ ⟨xn,xk,xm⟩=true by unfold mH lQ;dsimp only;rw[ax];rfl)
     have hv:Hid ((13:Int)=V):=hid (Eq.symm (by rw[bb.out,hE.out,a6.out,am.out];rfl))
     clear a6 hE;go_wp2_with fail
     go_quiet (fail)
     go_wp2_with fail;go_ret;exact⟨congrArg (fun z=>Ending.returned (.int .i64 z)) hv.out,(a1.out.drewN _).1⟩
    ·have am:=hid (show mH ⟨yn,yk,ym⟩ ⟨xn,xk,xm⟩=false by unfold mH lQ;dsimp only;rw[ax];rfl)
     have af:=hid (hE.out.trans (by rw[a6.out,am.out,cond_false]))
     clear a6 hE;go_wp2_with fail
     go_quiet (fail)
     go_wp2_with fail
     go_roundw
     case rel=>exact⟨k+1,by omega,by go_num,af,hid (a1.out.drewN _)⟩
     case measure=>simp[intOf];omega
  ·obtain rfl:no=k:=by omega
   have e1:decide ((no:Int)<(no:Int))=false:=aB (by omega)
   have ak:Hid (E1=0):=hid (by rw[hE.out,aw.out];exact xJ _ _)
   have bc:Hid (V=oG E2 E3):=hid (by rw[bb.out,ak.out,aAN])
   clear hE ak bb;have s1:=ap.out.2.cell 1;simp only[aL,aJ,aK]at s1;go_wp2_with fail;clear s0;clear s1
   go_loopw [45] (fun i wr=>∃k:Nat,k≤nf∧i=.int .i64 k∧Hid (E2=nG fnE oC (dL fs k) (fs.drop k))∧Hid (SR w wr #[.slice oA no oc,.slice fA nf fc,.slice cA nc cc])) (fun i _=>nf-(intOf i).toNat)
   case atStart=>exact⟨0,by omega,rfl,af,ap⟩
   case round=>
    obtain⟨k,hk,rfl,hE,av⟩:=hrel;clear ap
    rename World=>wr1
    have s1:=av.out.2.cell 1;simp only[aL,aJ,aK]at s1
    by_cases ay:k<nf
    ·have e1:decide ((k:Int)<(nf:Int))=true:=aC (by omega)
     have a5:k<fs.length:=by rw[←ar.out];exact ay
     have ai:=HF.out wr1 av.out.1;obtain⟨g,off,rfl,hg,c0,c1,c2⟩:=lS ai a5;have a2:=hid (fun h=>xC (chk:=fnE) (bad:=oC) a5 h)
     have J:Hid (k=0→fnE fs[k] = 0→nG fnE oC (dL fs k) (fs.drop k)=nG fnE oC (dL fs (k+1)) (fs.drop (k+1))):=hid (fun h hz=>by subst h;exact sS a5 hz)
     have Y:Hid (∀m (h:m+1=k),fnE fs[k] = 0→nG fnE oC (dL fs k) (fs.drop k)=bif oC (fs[m]'(by omega)) fs[k] then 13 else nG fnE oC (dL fs (k+1)) (fs.drop (k+1))):=hid (fun m h hz=>by subst h;exact oZ a5 hz)
     have ae:=hid (aR a5);have a4:=hid (av.out.alloc (.cells (kW fs[k]).toArray 103));have a7:=hid (bT.new wr1 103 (kW fs[k]).toArray);have C1:=hid (CF.out _ a4.out.1 _ ae.out);obtain⟨x,hx⟩:∃x,Hid (fs[k] = x):=⟨_,hid rfl⟩;rw[hx.out]at c0 c1 c2 C1 a2 J Y ae a4 a7;unfold kW at C1 a4 a7;obtain⟨z,hz⟩:∃z,Hid (fnE x=z):=⟨_,hid rfl⟩
     try dsimp only at a2 J Y
     rw[hz.out]at C1 a2 J Y;clear hz;obtain⟨xn,xk,xr⟩:=x;dsimp only at *;go_wp2_with fail;refine C1.out.mono ?_;rintro e w5 ⟨rfl,ah⟩;have a1:=hid (a4.out.on ah);have a9:=hid (a7.out.kept (Fr.of_below ah []) (by simp))
     clear a4 a7;have a8:=HF.out w5 a1.out.1;clear ah C1 c0 c1 c2 ai s1
     by_cases a0:z=0
     rotate_left
     ·have dz:(z != 0)=true:=by simpa using a0
      have a3:=hid a0;have hv:Hid (z=V):=hid (Eq.symm (by rw[bc.out,hE.out,a2.out a3.out,aAI a3.out]))
      clear a0 a8 J Y a2;go_wp2_with fail;go_ret;exact⟨congrArg (fun z=>Ending.returned (.int .i64 z)) hv.out,a1.out.1⟩
     have dz:(z != 0)=false:=by simpa using a0
     have a3:=hid a0;have s1:=a1.out.2.cell 1;have b0:=a9.out.cell 0;have b1:=a9.out.cell 1;have b2:=a9.out.cell 2;simp only[aL,aJ,aK]at s1 b0 b1 b2;clear a0 a2
     rcases Nat.eq_zero_or_pos k with ag | ag
     ·have d5:decide (0<k)=false:=aB (by omega)
      have af:=hid (hE.out.trans (J.out ag a3.out));clear hE J Y a3 a8;go_wp2_with fail
      go_quiet (fail)
      go_wp2_with fail
      go_roundw
      case rel=>exact⟨k+1,by omega,by go_num,af,hid (a1.out.drewN _)⟩
      case measure=>simp[intOf];omega
     ·have d5:decide (0<k)=true:=aC ag
      obtain⟨m2,aj⟩:∃m2,m2+1=k:=⟨k-1,by omega⟩
      have br:(k:Int)-1=(m2:Int):=by omega
      have bm:IntKind.i64.wrap (m2:Int)=(m2:Int):=IntWalk.i64_in _ (by omega)
      have aa:m2<fs.length:=by omega
      have bh:m2<nf:=by omega
      obtain⟨g3,bf,e3,_,p0,p1,p2⟩:=lS a8 aa;injection e3 with e3;injection e3 with e3 e3b;subst e3;subst e3b;have a6:=hid (Y.out m2 aj a3.out);generalize fs[m2] = y at *;obtain⟨yn,yk,yr⟩:=y;dsimp only at *;clear J Y aj aa a8
      rcases ax:Op.bytesLess yn.toList xn.toList with _ | _
      ·have am:=hid (show oC ⟨yn,yk,yr⟩ ⟨xn,xk,xr⟩=true by unfold oC lQ;dsimp only;rw[ax];rfl)
       have hv:Hid ((13:Int)=V):=hid (Eq.symm (by rw[bc.out,hE.out,a6.out,am.out];rfl))
       clear a6 hE;go_wp2_with fail
       go_quiet (fail)
       go_wp2_with fail;go_ret;exact⟨congrArg (fun z=>Ending.returned (.int .i64 z)) hv.out,(a1.out.drewN _).1⟩
      ·have am:=hid (show oC ⟨yn,yk,yr⟩ ⟨xn,xk,xr⟩=false by unfold oC lQ;dsimp only;rw[ax];rfl)
       have af:=hid (hE.out.trans (by rw[a6.out,am.out,cond_false]))
       clear a6 hE;go_wp2_with fail
       go_quiet (fail)
       go_wp2_with fail
       go_roundw
       case rel=>exact⟨k+1,by omega,by go_num,af,hid (a1.out.drewN _)⟩
       case measure=>simp[intOf];omega
    ·obtain rfl:nf=k:=by omega
     have e1:decide ((nf:Int)<(nf:Int))=false:=aB (by omega)
     have ak:Hid (E2=0):=hid (by rw[hE.out,ar.out];exact xJ _ _)
     have bd:Hid (V=E3):=hid (by rw[bc.out,ak.out,aAN])
     clear hE ak bc;have s2:=av.out.2.cell 2;simp only[aL,aJ,aK]at s2;go_wp2_with fail;clear s1;clear s2
     go_loopw [73] (fun i wr=>∃k:Nat,k≤nc∧i=.int .i64 k∧Hid (E3=nG (fun x:MC=>jB x.c) (fun x y=>rZ x.c y.c) (dL cs k) (cs.drop k))∧Hid (SR w wr #[.slice oA no oc,.slice fA nf fc,.slice cA nc cc])) (fun i _=>nc-(intOf i).toNat)
     case atStart=>exact⟨0,by omega,rfl,bp,av⟩
     case round=>
      obtain⟨k,hk,rfl,hE,b8⟩:=hrel;clear av
      rename World=>wr2
      have s2:=b8.out.2.cell 2;simp only[aL,aJ,aK]at s2
      by_cases ay:k<nc
      ·have e1:decide ((k:Int)<(nc:Int))=true:=aC (by omega)
       have a5:k<cs.length:=by rw[←au.out];exact ay
       have ai:=HC.out wr2 b8.out.1;obtain⟨g,off,rfl,hg,c0,c1,c2,c3,c4,c5⟩:=kH ai a5;have a2:=hid (fun h=>xC (chk:=(fun x:MC=>jB x.c)) (bad:=(fun x y=>rZ x.c y.c)) a5 h)
       have J:Hid (k=0→(fun x:MC=>jB x.c) cs[k] = 0→nG (fun x:MC=>jB x.c) (fun x y=>rZ x.c y.c) (dL cs k) (cs.drop k)=nG (fun x:MC=>jB x.c) (fun x y=>rZ x.c y.c) (dL cs (k+1)) (cs.drop (k+1))):=hid (fun h hz=>by subst h;exact sS a5 hz)
       have Y:Hid (∀m (h:m+1=k),(fun x:MC=>jB x.c) cs[k] = 0→nG (fun x:MC=>jB x.c) (fun x y=>rZ x.c y.c) (dL cs k) (cs.drop k)=bif (fun x y=>rZ x.c y.c) (cs[m]'(by omega)) cs[k] then 13 else nG (fun x:MC=>jB x.c) (fun x y=>rZ x.c y.c) (dL cs (k+1)) (cs.drop (k+1))):=hid (fun m h hz=>by subst h;exact oZ a5 hz)
       have ae:=hid (aR a5);have a4:=hid (b8.out.alloc (.cells cs[k].row.toArray 105));have a7:=hid (bT.new wr2 105 cs[k].row.toArray);have C1:=hid (CC.out _ a4.out.1 _ ae.out);obtain⟨x,hx⟩:∃x,Hid (cs[k] = x):=⟨_,hid rfl⟩;rw[hx.out]at c0 c1 c2 c3 c4 c5 C1 a2 J Y ae a4 a7;unfold MC.row at C1 a4 a7;obtain⟨z,hz⟩:∃z,Hid (jB x.c=z):=⟨_,hid rfl⟩
       try dsimp only at a2 J Y
       rw[hz.out]at C1 a2 J Y;clear hz;obtain⟨⟨xo,xa,xb,xk,xt,xg⟩,xA,xc⟩:=x;dsimp only at *;go_wp2_with fail;refine C1.out.mono ?_;rintro e w5 ⟨rfl,ah⟩;have a1:=hid (a4.out.on ah);have a9:=hid (a7.out.kept (Fr.of_below ah []) (by simp))
       clear a4 a7;have a8:=HC.out w5 a1.out.1;clear ah C1 c0 c1 c2 c3 c4 c5 ai s2
       by_cases a0:z=0
       rotate_left
       ·have dz:(z != 0)=true:=by simpa using a0
        have a3:=hid a0;have hv:Hid (z=V):=hid (Eq.symm (by rw[bd.out,hE.out,a2.out a3.out]))
        clear a0 a8 J Y a2;go_wp2_with fail;go_ret;exact⟨congrArg (fun z=>Ending.returned (.int .i64 z)) hv.out,a1.out.1⟩
       have dz:(z != 0)=false:=by simpa using a0
       have a3:=hid a0;have s2:=a1.out.2.cell 2;have b0:=a9.out.cell 0;have b1:=a9.out.cell 1;have b2:=a9.out.cell 2;have b3:=a9.out.cell 3;have b4:=a9.out.cell 4;have b5:=a9.out.cell 5;simp only[aL,aJ,aK]at s2 b0 b1 b2 b3 b4 b5;clear a0 a2
       rcases Nat.eq_zero_or_pos k with ag | ag
       ·have d5:decide (0<k)=false:=aB (by omega)
        have af:=hid (hE.out.trans (J.out ag a3.out));clear hE J Y a3 a8;go_wp2_with fail
        go_quiet (fail)
        go_wp2_with fail
        go_roundw
        case rel=>exact⟨k+1,by omega,by go_num,af,hid (a1.out.drewN _)⟩
        case measure=>simp[intOf];omega
       ·have d5:decide (0<k)=true:=aC ag
        obtain⟨m2,aj⟩:∃m2,m2+1=k:=⟨k-1,by omega⟩
        have br:(k:Int)-1=(m2:Int):=by omega
        have bm:IntKind.i64.wrap (m2:Int)=(m2:Int):=IntWalk.i64_in _ (by omega)
        have aa:m2<cs.length:=by omega
        have bh:m2<nc:=by omega
        obtain⟨g3,bf,e3,_,p0,p1,p2,p3,p4,p5⟩:=kH a8 aa;injection e3 with e3;injection e3 with e3 e3b;subst e3;subst e3b;have a6:=hid (Y.out m2 aj a3.out);have b7:=hid (fun W hb=>CK.out W hb _ (aR aa) _ ae.out)
        generalize cs[m2] = y at *;obtain⟨⟨yo,ya,yb,yk,yt,yg⟩,yA,yc⟩:=y;dsimp only at *;clear J Y aj aa a8;have bl:Hid (rZ ⟨yo,ya,yb,yk,yt,yg⟩ ⟨xo,xa,xb,xk,xt,xg⟩=decide (0≤uV ⟨yo,ya,yb,yk,yt,yg⟩ ⟨xo,xa,xb,xk,xt,xg⟩)):=hid rfl;unfold MC.row at b7;dsimp only at b7;generalize uV ⟨yo,ya,yb,yk,yt,yg⟩ ⟨xo,xa,xb,xk,xt,xg⟩=v at *;rw[bl.out]at a6;clear bl;go_wp2_with fail;refine mY 10 (by kernel_rfl) (by kernel_rfl) fun W hW=>?_
        have b6:=a1.out.drew;rw[←hW]at b6;have ba:=hid b6;clear b6;have c8:W.cell? _=_:=(congrArg (fun w9:World=>w9.cell? _) hW).trans s2
        have cb:W.cell? _=_:=(congrArg (fun w9:World=>w9.cell? _) hW).trans p0
        have bu:W.cell? _=_:=(congrArg (fun w9:World=>w9.cell? _) hW).trans p1
        have c6:W.cell? _=_:=(congrArg (fun w9:World=>w9.cell? _) hW).trans p2
        have cg:W.cell? _=_:=(congrArg (fun w9:World=>w9.cell? _) hW).trans p3
        have bz:W.cell? _=_:=(congrArg (fun w9:World=>w9.cell? _) hW).trans p4
        have c7:W.cell? _=_:=(congrArg (fun w9:World=>w9.cell? _) hW).trans p5
        have cd:W.cell? _=_:=(congrArg (fun w9:World=>w9.cell? _) hW).trans b0
        have ca:W.cell? _=_:=(congrArg (fun w9:World=>w9.cell? _) hW).trans b1
        have bw:W.cell? _=_:=(congrArg (fun w9:World=>w9.cell? _) hW).trans b2
        have bv:W.cell? _=_:=(congrArg (fun w9:World=>w9.cell? _) hW).trans b3
        have ce:W.cell? _=_:=(congrArg (fun w9:World=>w9.cell? _) hW).trans b4
        have c9:W.cell? _=_:=(congrArg (fun w9:World=>w9.cell? _) hW).trans b5
        clear hW s2 p0 p1 p2 p3 p4 p5 b0 b1 b2 b3 b4 b5 a1;simp only[List.take_succ_cons,List.take_zero,List.drop_succ_cons,List.drop_zero]
        iterate 10 still_step
        refine wpStill_nil ?_;clear c8 cb bu c6 cg bz c7 cd ca bw bv ce c9
        by_cases b9:0≤v
        ·have d7:decide (0≤v)=true:=aC b9
         have hv:Hid ((13:Int)=V):=hid (Eq.symm (by rw[bd.out,hE.out,a6.out,d7];rfl))
         clear a6 hE b9
         go_wp2_with (refine(b7.out _ ba.out.1).mono ?_;rintro e w6 ⟨rfl,bi⟩)
         go_ret;exact⟨congrArg (fun z=>Ending.returned (.int .i64 z)) hv.out,(ba.out.on bi).1⟩
        ·have d7:decide (0≤v)=false:=aB b9
         have af:=hid (hE.out.trans (by rw[a6.out,d7,cond_false]))
         clear a6 hE b9
         go_wp2_with (refine(b7.out _ ba.out.1).mono ?_;rintro e w6 ⟨rfl,bi⟩)
         go_roundw
         case rel=>exact⟨k+1,by omega,by go_num,af,hid (ba.out.on bi)⟩
         case measure=>simp[intOf];omega
      ·obtain rfl:nc=k:=by omega
       have e1:decide ((nc:Int)<(nc:Int))=false:=aB (by omega)
       have ak:Hid (E3=0):=hid (by rw[hE.out,au.out];exact xJ _ _)
       have cf:Hid ((0:Int)=V):=hid (by rw[bd.out,ak.out])
       clear hE ak bd;go_wp2_with fail;go_ret;exact⟨congrArg (fun z=>Ending.returned (.int .i64 z)) cf.out,b8.out.1⟩
end sy
end Go.Proofs.YtdmmkjijgoiecaaGreatDoor
