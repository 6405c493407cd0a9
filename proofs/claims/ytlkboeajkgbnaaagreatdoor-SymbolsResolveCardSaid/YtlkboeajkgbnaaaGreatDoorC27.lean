import Derived.Deep.DeepCutAuto
import Derived.Test.YtlkboeajkgbnaaaGreatDoorC26
set_option linter.all false
set_option maxHeartbeats 4000000
namespace Go.Proofs.YtlkboeajkgbnaaaGreatDoor
open Lib(hid)
set_option maxRecDepth 100000
namespace sy
open RowKit mem
open nm (Tab tab_below)
def conI(nb rb:Bool):Int:=if nb=false then 11 else if rb=true then 0 else 3
theorem conE_eq(c:SC)(h1:1≤c.op)(h6:c.op≤6):conE c=conI (namesB c) (rightB c):=by
 unfold conE conI;rw[if_neg (by omega)]
theorem con_1(x:MC)(w:World)(hx:COk w x)(htab:Tab w)(hop:x.c.op=1):Calls Tryz.prog 61 #[.agg x.row.toArray] w (IPost (conI (nodeB x.c.a&&placeB x.c.b) (decide (x.c.k=0)&&(decide (x.c.tag.size=0)&&decide (x.c.args.length=0)))) w):=by
 have HA:=hid (fun w' (hb:Below w.heap.size w w')=>node_any x.c.a w' hx.a (tab_below htab hb));have HB:=hid (fun w' (hb:Below w.heap.size w w')=>place_any x.c.b w' hx.b (tab_below htab hb));unfold BPost at HA HB;have hz:=size_nil x.c.tag;obtain⟨⟨op,a,b,k,tag,args⟩,aA,ac⟩:=x;unfold MC.row;dsimp only at *;clear hx htab;unfold IPost;generalize nodeB a=na at *;generalize placeB b=nb at *;generalize args.length=n at *;subst hop;obtain⟨Z,hZ⟩:∃Z,Hid (conI (na&&nb) (decide (k=0)&&(decide (tag.size=0)&&decide (n=0)))=Z):=⟨_,hid rfl⟩;rw[hZ.out];go_enter Tryz.func61,Tryz.ntmps61;obtain⟨rb,hrb⟩:∃r,Hid (r=(decide (k=0)&&(decide (tag.size=0)&&decide (n=0)))):=⟨_,hid rfl⟩;go_upto_region 9 with fail
 go_cut [5] (fun s5 wx=>s5=.bool rb∧(w.alloc (.cells #[.int .i64 1,.string a,.string b,.int .i64 k,.string tag,.slice aA n ac] 103))=wx)
 case first=>
  by_cases hk:k=0
  ·have dk:(k==0)=true:=by simpa using hk
   have hk2:=hid hk;clear hk;by_cases ht:tag.size=0
   ·have ht2:=hid ht
    rw[show(tag.size==0)=true by simpa using ht]at hz;clear ht;have hn:=hid (show((n:Int)==0)=decide (n=0) by rw[Bool.eq_iff_iff];simp);go_wp2_with fail
    go_meet
    exact⟨congrArg Value.bool (by rw[hrb.out,decide_eq_true hk2.out,decide_eq_true ht2.out,hn.out];rfl),rfl⟩
   ·have ht2:=hid ht
    rw[show(tag.size==0)=false by simpa using ht]at hz;clear ht;go_wp2_with fail
    go_meet
    exact⟨congrArg Value.bool (by rw[hrb.out,decide_eq_true hk2.out,decide_eq_false ht2.out];rfl),rfl⟩
  ·have dk:(k==0)=false:=by simpa using hk
   have hk2:=hid hk;clear hk;go_wp2_with fail
   go_meet
   exact⟨congrArg Value.bool (by rw[hrb.out,decide_eq_false hk2.out];rfl),rfl⟩
 obtain⟨rfl,rfl⟩:=hcut;have hZ2:Hid (conI (na&&nb) rb=Z):=hid (by rw[hrb.out];exact hZ.out);clear hZ hrb;clear hz;have X:=Box.new w 103 #[.int .i64 1,.string a,.string b,.int .i64 k,.string tag,.slice aA n ac];have hb1:=hid (((Fr.refl [] w).alloc (.cells #[.int .i64 1,.string a,.string b,.int .i64 k,.string tag,.slice aA n ac] 103)).all);have x1:=X.cell 1;have x2:=X.cell 2;simp only[List.getElem?_toArray,List.getElem?_cons_zero,List.getElem?_cons_succ]at x1 x2;clear X;go_wp2_with fail;refine(HA.out _ hb1.out).mono ?_;rintro e w2 ⟨rfl,hb2⟩;have hb3:=hid (hb1.out.trans (hb2.mono hb1.out.size));rcases na with _ | _
 ·clear hb2 x2
  go_wp2_with fail;go_ret;exact⟨congrArg (fun z=>Ending.returned (.int .i64 z)) hZ2.out,hb3.out⟩
 have y2:=(hb2.cell (p:=⟨w.heap.size,2,none⟩) (block_lt_of_cell x2)).trans x2;clear hb2 x2;go_wp2_with fail;refine(HB.out _ hb3.out).mono ?_;rintro e w4 ⟨rfl,hb4⟩;have hb5:=hid (hb3.out.trans (hb4.mono hb3.out.size));clear hb3 hb4;rcases nb with _ | _
 ·go_wp2_with fail
  go_ret;exact⟨congrArg (fun z=>Ending.returned (.int .i64 z)) hZ2.out,hb5.out⟩
 rcases rb with _ | _
 ·go_wp2_with fail
  go_ret;exact⟨congrArg (fun z=>Ending.returned (.int .i64 z)) hZ2.out,hb5.out⟩
 ·go_wp2_with fail
  go_ret;exact⟨congrArg (fun z=>Ending.returned (.int .i64 z)) hZ2.out,hb5.out⟩
theorem con_24(x:MC)(w:World)(hx:COk w x)(htab:Tab w)(h1:2≤x.c.op)(h4:x.c.op≤4):Calls Tryz.prog 61 #[.agg x.row.toArray] w (IPost (conI (nodeB x.c.a&&nodeB x.c.b) (decide (x.c.k=0)&&(decide (x.c.tag.size=0)&&decide (x.c.args.length=0)))) w):=by
 have HA:=hid (fun w' (hb:Below w.heap.size w w')=>node_any x.c.a w' hx.a (tab_below htab hb));have HB:=hid (fun w' (hb:Below w.heap.size w w')=>node_any x.c.b w' hx.b (tab_below htab hb));unfold BPost at HA HB;have hz:=size_nil x.c.tag;obtain⟨⟨op,a,b,k,tag,args⟩,aA,ac⟩:=x;unfold MC.row;dsimp only at *;clear hx htab;unfold IPost;generalize nodeB a=na at *;generalize nodeB b=nb at *;generalize args.length=n at *;have e1:decide (op<1)=false:=decide_eq_false (by omega);have e2:decide (6<op)=false:=decide_eq_false (by omega);have e3:(op==1)=false:=by simp;omega
 have e4:(op==5)=false:=by simp;omega
 have e5:(op==6)=false:=by simp;omega
 clear h1 h4;obtain⟨Z,hZ⟩:∃Z,Hid (conI (na&&nb) (decide (k=0)&&(decide (tag.size=0)&&decide (n=0)))=Z):=⟨_,hid rfl⟩;rw[hZ.out];go_enter Tryz.func61,Tryz.ntmps61;obtain⟨rb,hrb⟩:∃r,Hid (r=(decide (k=0)&&(decide (tag.size=0)&&decide (n=0)))):=⟨_,hid rfl⟩;go_upto_region 9 with fail
 go_cut [5] (fun s5 wx=>s5=.bool rb∧(w.alloc (.cells #[.int .i64 op,.string a,.string b,.int .i64 k,.string tag,.slice aA n ac] 103))=wx)
 case first=>
  by_cases hk:k=0
  ·have dk:(k==0)=true:=by simpa using hk
   have hk2:=hid hk;clear hk;by_cases ht:tag.size=0
   ·have ht2:=hid ht
    rw[show(tag.size==0)=true by simpa using ht]at hz;clear ht;have hn:=hid (show((n:Int)==0)=decide (n=0) by rw[Bool.eq_iff_iff];simp);go_wp2_with fail
    go_meet
    exact⟨congrArg Value.bool (by rw[hrb.out,decide_eq_true hk2.out,decide_eq_true ht2.out,hn.out];rfl),rfl⟩
   ·have ht2:=hid ht
    rw[show(tag.size==0)=false by simpa using ht]at hz;clear ht;go_wp2_with fail
    go_meet
    exact⟨congrArg Value.bool (by rw[hrb.out,decide_eq_true hk2.out,decide_eq_false ht2.out];rfl),rfl⟩
  ·have dk:(k==0)=false:=by simpa using hk
   have hk2:=hid hk;clear hk;go_wp2_with fail
   go_meet
   exact⟨congrArg Value.bool (by rw[hrb.out,decide_eq_false hk2.out];rfl),rfl⟩
 obtain⟨rfl,rfl⟩:=hcut;have hZ2:Hid (conI (na&&nb) rb=Z):=hid (by rw[hrb.out];exact hZ.out);clear hZ hrb;clear hz;have X:=Box.new w 103 #[.int .i64 op,.string a,.string b,.int .i64 k,.string tag,.slice aA n ac];have hb1:=hid (((Fr.refl [] w).alloc (.cells #[.int .i64 op,.string a,.string b,.int .i64 k,.string tag,.slice aA n ac] 103)).all);have x1:=X.cell 1;have x2:=X.cell 2;simp only[List.getElem?_toArray,List.getElem?_cons_zero,List.getElem?_cons_succ]at x1 x2;clear X;go_wp2_with fail;refine(HA.out _ hb1.out).mono ?_;rintro e w2 ⟨rfl,hb2⟩;have hb3:=hid (hb1.out.trans (hb2.mono hb1.out.size));rcases na with _ | _
 ·clear hb2 x2
  go_wp2_with fail;go_ret;exact⟨congrArg (fun z=>Ending.returned (.int .i64 z)) hZ2.out,hb3.out⟩
 have y2:=(hb2.cell (p:=⟨w.heap.size,2,none⟩) (block_lt_of_cell x2)).trans x2;clear hb2 x2;go_wp2_with fail;refine(HB.out _ hb3.out).mono ?_;rintro e w4 ⟨rfl,hb4⟩;have hb5:=hid (hb3.out.trans (hb4.mono hb3.out.size));clear hb3 hb4;rcases nb with _ | _
 ·go_wp2_with fail
  go_ret;exact⟨congrArg (fun z=>Ending.returned (.int .i64 z)) hZ2.out,hb5.out⟩
 rcases rb with _ | _
 ·go_wp2_with fail
  go_ret;exact⟨congrArg (fun z=>Ending.returned (.int .i64 z)) hZ2.out,hb5.out⟩
 ·go_wp2_with fail
  go_ret;exact⟨congrArg (fun z=>Ending.returned (.int .i64 z)) hZ2.out,hb5.out⟩
theorem con_5(x:MC)(w:World)(hx:COk w x)(htab:Tab w)(hop:x.c.op=5):Calls Tryz.prog 61 #[.agg x.row.toArray] w (IPost (conI (nodeB x.c.a&&nodeB x.c.b) (decide (0≤x.c.k)&&(decide (x.c.k≤64)&&(tagB x.c.tag&&decide (x.c.args.length=0))))) w):=by
 have HA:=hid (fun w' (hb:Below w.heap.size w w')=>node_any x.c.a w' hx.a (tab_below htab hb));have HB:=hid (fun w' (hb:Below w.heap.size w w')=>node_any x.c.b w' hx.b (tab_below htab hb));unfold BPost at HA HB;have hz:=size_nil x.c.tag;obtain⟨⟨op,a,b,k,tag,args⟩,aA,ac⟩:=x;unfold MC.row;dsimp only at *;have HT:=hid (fun w=>tag_any tag w hx.t);clear hx htab;unfold IPost;generalize nodeB a=na at *;generalize nodeB b=nb at *;generalize tagB tag=tb at *;generalize args.length=n at *;subst hop;obtain⟨Z,hZ⟩:∃Z,Hid (conI (na&&nb) (decide (0≤k)&&(decide (k≤64)&&(tb&&decide (n=0))))=Z):=⟨_,hid rfl⟩;rw[hZ.out];go_enter Tryz.func61,Tryz.ntmps61;obtain⟨r0,hrb⟩:∃r,Hid (r=(decide (k=0)&&(decide (tag.size=0)&&decide (n=0)))):=⟨_,hid rfl⟩;go_upto_region 9 with fail
 go_cut [5] (fun s5 wx=>s5=.bool r0∧(w.alloc (.cells #[.int .i64 5,.string a,.string b,.int .i64 k,.string tag,.slice aA n ac] 103))=wx)
 case first=>
  by_cases hk:k=0
  ·have dk:(k==0)=true:=by simpa using hk
   have hk2:=hid hk;clear hk;by_cases ht:tag.size=0
   ·have ht2:=hid ht
    rw[show(tag.size==0)=true by simpa using ht]at hz;clear ht;have hn:=hid (show((n:Int)==0)=decide (n=0) by rw[Bool.eq_iff_iff];simp);go_wp2_with fail
    go_meet
    exact⟨congrArg Value.bool (by rw[hrb.out,decide_eq_true hk2.out,decide_eq_true ht2.out,hn.out];rfl),rfl⟩
   ·have ht2:=hid ht
    rw[show(tag.size==0)=false by simpa using ht]at hz;clear ht;go_wp2_with fail
    go_meet
    exact⟨congrArg Value.bool (by rw[hrb.out,decide_eq_true hk2.out,decide_eq_false ht2.out];rfl),rfl⟩
  ·have dk:(k==0)=false:=by simpa using hk
   have hk2:=hid hk;clear hk;go_wp2_with fail
   go_meet
   exact⟨congrArg Value.bool (by rw[hrb.out,decide_eq_false hk2.out];rfl),rfl⟩
 obtain⟨rfl,rfl⟩:=hcut;clear hz hrb;have X:=Box.new w 103 #[.int .i64 5,.string a,.string b,.int .i64 k,.string tag,.slice aA n ac];have hb1:=hid (((Fr.refl [] w).alloc (.cells #[.int .i64 5,.string a,.string b,.int .i64 k,.string tag,.slice aA n ac] 103)).all);have x1:=X.cell 1;have x2:=X.cell 2;simp only[List.getElem?_toArray,List.getElem?_cons_zero,List.getElem?_cons_succ]at x1 x2;clear X;have hZ1:=hid hZ.out;by_cases h0:0≤k;rotate_left
 ·have d9:decide (0≤k)=false:=decide_eq_false h0
  have hZ2:Hid (conI (na&&nb) false=Z):=hid (by rw[←hZ.out,d9];rfl);clear hZ HT hZ1;go_wp2_with fail;refine(HA.out _ hb1.out).mono ?_;rintro e w2 ⟨rfl,hb2⟩;have hb3:=hid (hb1.out.trans (hb2.mono hb1.out.size));rcases na with _ | _
  ·clear hb2 x2
   go_wp2_with fail;go_ret;exact⟨congrArg (fun z=>Ending.returned (.int .i64 z)) hZ2.out,hb3.out⟩
  have y2:=(hb2.cell (p:=⟨w.heap.size,2,none⟩) (block_lt_of_cell x2)).trans x2;clear hb2 x2;go_wp2_with fail;refine(HB.out _ hb3.out).mono ?_;rintro e w4 ⟨rfl,hb4⟩;have hb5:=hid (hb3.out.trans (hb4.mono hb3.out.size));clear hb3 hb4;rcases nb with _ | _
  ·go_wp2_with fail
   go_ret;exact⟨congrArg (fun z=>Ending.returned (.int .i64 z)) hZ2.out,hb5.out⟩
  go_wp2_with fail;go_ret;exact⟨congrArg (fun z=>Ending.returned (.int .i64 z)) hZ2.out,hb5.out⟩
 have d0:decide (0≤k)=true:=decide_eq_true h0;by_cases h1:k≤64;rotate_left
 ·have d9:decide (k≤64)=false:=decide_eq_false h1
  have hZ2:Hid (conI (na&&nb) false=Z):=hid (by rw[←hZ.out,d0,d9];rfl);clear hZ HT hZ1;go_wp2_with fail;refine(HA.out _ hb1.out).mono ?_;rintro e w2 ⟨rfl,hb2⟩;have hb3:=hid (hb1.out.trans (hb2.mono hb1.out.size));rcases na with _ | _
  ·clear hb2 x2
   go_wp2_with fail;go_ret;exact⟨congrArg (fun z=>Ending.returned (.int .i64 z)) hZ2.out,hb3.out⟩
  have y2:=(hb2.cell (p:=⟨w.heap.size,2,none⟩) (block_lt_of_cell x2)).trans x2;clear hb2 x2;go_wp2_with fail;refine(HB.out _ hb3.out).mono ?_;rintro e w4 ⟨rfl,hb4⟩;have hb5:=hid (hb3.out.trans (hb4.mono hb3.out.size));clear hb3 hb4;rcases nb with _ | _
  ·go_wp2_with fail
   go_ret;exact⟨congrArg (fun z=>Ending.returned (.int .i64 z)) hZ2.out,hb5.out⟩
  go_wp2_with fail;go_ret;exact⟨congrArg (fun z=>Ending.returned (.int .i64 z)) hZ2.out,hb5.out⟩
 have d1:decide (k≤64)=true:=decide_eq_true h1;rcases tb with _ | _
 ·have hZ2:Hid (conI (na&&nb) false=Z):=hid (by rw[←hZ.out,d0,d1];rfl)
  clear hZ hZ1
  go_wp2_with (refine(HT.out _).mono ?_;rintro e w9 ⟨rfl,rfl⟩)
  refine(HA.out _ hb1.out).mono ?_;rintro e w2 ⟨rfl,hb2⟩;have hb3:=hid (hb1.out.trans (hb2.mono hb1.out.size));rcases na with _ | _
  ·clear hb2 x2
   go_wp2_with fail;go_ret;exact⟨congrArg (fun z=>Ending.returned (.int .i64 z)) hZ2.out,hb3.out⟩
  have y2:=(hb2.cell (p:=⟨w.heap.size,2,none⟩) (block_lt_of_cell x2)).trans x2;clear hb2 x2;go_wp2_with fail;refine(HB.out _ hb3.out).mono ?_;rintro e w4 ⟨rfl,hb4⟩;have hb5:=hid (hb3.out.trans (hb4.mono hb3.out.size));clear hb3 hb4;rcases nb with _ | _
  ·go_wp2_with fail
   go_ret;exact⟨congrArg (fun z=>Ending.returned (.int .i64 z)) hZ2.out,hb5.out⟩
  go_wp2_with fail;go_ret;exact⟨congrArg (fun z=>Ending.returned (.int .i64 z)) hZ2.out,hb5.out⟩
 have hn:=hid (show((n:Int)==0)=decide (n=0) by rw[Bool.eq_iff_iff];simp);have hZ2:Hid (conI (na&&nb) ((n:Int)==0)=Z):=hid (by rw[←hZ.out,d0,d1,hn.out];rfl);clear hZ hZ1 hn;rcases hv:((n:Int)==0)with _ | _
 all_goals
  rw[hv]at hZ2
  go_wp2_with (refine(HT.out _).mono ?_;rintro e w9 ⟨rfl,rfl⟩)
  refine(HA.out _ hb1.out).mono ?_;rintro e w2 ⟨rfl,hb2⟩;have hb3:=hid (hb1.out.trans (hb2.mono hb1.out.size));rcases na with _ | _
  ·clear hb2 x2
   go_wp2_with fail;go_ret;exact⟨congrArg (fun z=>Ending.returned (.int .i64 z)) hZ2.out,hb3.out⟩
  have y2:=(hb2.cell (p:=⟨w.heap.size,2,none⟩) (block_lt_of_cell x2)).trans x2;clear hb2 x2;go_wp2_with fail;refine(HB.out _ hb3.out).mono ?_;rintro e w4 ⟨rfl,hb4⟩;have hb5:=hid (hb3.out.trans (hb4.mono hb3.out.size));clear hb3 hb4;rcases nb with _ | _
  ·go_wp2_with fail
   go_ret;exact⟨congrArg (fun z=>Ending.returned (.int .i64 z)) hZ2.out,hb5.out⟩
  go_wp2_with fail;go_ret;exact⟨congrArg (fun z=>Ending.returned (.int .i64 z)) hZ2.out,hb5.out⟩
end sy
namespace sy
open RowKit mem
open nm (Nd readB cand rread_no rread_yes ReadNo ReadYes)
def RdPost(d:Nd)(e0:Int)(w:World)(e:Ending)(w':World):Prop:=e=.returned (.tuple #[.agg #[.int .i64 d.kind,.string d.fn,.int .i64 d.copy,.string d.name,.int .i64 d.n,.int .i64 d.cell],.int .i64 e0])∧Below w.heap.size w w'
theorem rread_pair(s:ByteArray)(hs:s.size≤maxLen):∃(d:Nd) (e0:Int),Hid (siteB s=(decide (e0=0)&&decide (d.kind=3)))∧∀w,Calls Tryz.prog 83 #[.string s] w (RdPost d e0 w):=by
 rcases hr:readB s with _ | _
 ·have h1:siteB s=false:=by
   unfold siteB;rw[hr];rfl
  have h2:∀w,Calls Tryz.prog 83 #[.string s] w (ReadNo w):=fun w=>rread_no s w hs hr
  rw[h1];obtain⟨d,hd⟩:∃d:Nd,d=⟨0,⟨#[]⟩,0,⟨#[]⟩,0,0⟩:=⟨_,rfl⟩;refine⟨d,11,hid rfl,fun w=>?_⟩;have h:=h2 w;unfold RdPost;rw[hd];unfold ReadNo at h;exact h
 ·have h1:siteB s=(decide ((0:Int)=0)&&decide ((cand s).kind=3)):=by
   unfold siteB;rw[hr];rfl
  have h2:∀w,Calls Tryz.prog 83 #[.string s] w fun e w'=>e=.returned (.tuple #[(cand s).val,.int .i64 0])∧Below w.heap.size w w':=fun w=>rread_yes s w hs hr
  generalize cand s=d at h1 h2;exact⟨d,0,hid h1,h2⟩
theorem rcon_1(x:MC)(w:World)(hx:COk w x)(hop:x.c.op=1):Calls Tryz.prog 81 #[.agg x.row.toArray] w (IPost (conI (nodeB x.c.a&&placeB x.c.b) (decide (x.c.k=0)&&(decide (x.c.tag.size=0)&&decide (x.c.args.length=0)))) w):=by
 obtain⟨d,e0,hsite,hrd⟩:=rread_pair x.c.a hx.a;have HD:=hid hrd;have HA:=hid (fun w'=>rnode_any x.c.a w' hx.a);have HB:=hid (fun w'=>rplace_any x.c.b w' hx.b);have hxt:=hx.t;have hz:=size_nil x.c.tag;unfold maxLen at hxt;unfold BPost at HA HB;unfold RdPost at HD;clear hrd;obtain⟨⟨op,a,b,k,tag,args⟩,aA,ac⟩:=x;obtain⟨dk,df,dc,dn,dm,dl⟩:=d;unfold MC.row at *;dsimp only at *;clear hx;unfold IPost;generalize nodeB a=na at *;generalize placeB b=nb at *;generalize args.length=n at *;subst hop;obtain⟨V,hV⟩:∃V,Hid (V=conI (na&&nb) (decide (k=0)&&(decide (tag.size=0)&&decide (n=0)))):=⟨_,hid rfl⟩;rw[←hV.out];go_enter Tryz.func81,Tryz.ntmps81;go_wp2_with fail;refine(HD.out _).mono ?_;rintro e w2 ⟨rfl,hb2⟩;have X2:=hid ((RC.new w #[.int .i64 1,.string a,.string b,.int .i64 k,.string tag,.slice aA n ac]).on hb2);have X2':=hid (X2.out.on ((Fr.refl [] w2).alloc (.cells #[.int .i64 dk,.string df,.int .i64 dc,.string dn,.int .i64 dm,.int .i64 dl] 121)).all)
 have N2:=hid (Box.new w2 121 #[.int .i64 dk,.string df,.int .i64 dc,.string dn,.int .i64 dm,.int .i64 dl]);have hws:=hid hb2.size;clear hb2 HD;have x1:=X2'.out.2.cell 1;simp only[List.getElem?_toArray,List.getElem?_cons_zero,List.getElem?_cons_succ]at x1;clear X2;go_wp2_with fail;refine(HA.out _).mono ?_;rintro e w3 ⟨rfl,hb3⟩;have X3:=hid (X2'.out.on hb3);have N3:=hid (N2.out.kept (Fr.of_below hb3 []) (by simp));clear hb3 X2' N2 HA x1;rcases na with _ | _
 ·go_wp2_with fail
  go_ret;exact⟨congrArg (fun z=>Ending.returned (.int .i64 z)) (show(11:Int)=V by rw[hV.out];rfl),X3.out.1⟩
 have y0:=X3.out.2.cell 0;have y2:=X3.out.2.cell 2;have n0:=N3.out.cell 0;simp only[List.getElem?_toArray,List.getElem?_cons_zero,List.getElem?_cons_succ]at y0 y2 n0;go_wp2_with fail;refine(HB.out _).mono ?_;rintro e w4 ⟨rfl,hb4⟩;have X4:=hid (X3.out.on hb4);have z0:=(hb4.cell (p:=⟨w.heap.size,0,none⟩) (block_lt_of_cell y0)).trans y0;have z3:=X4.out.2.cell 3;have z4:=X4.out.2.cell 4;have z5:=X4.out.2.cell 5;have z1:=X4.out.2.cell 1;have z2:=X4.out.2.cell 2;simp only[List.getElem?_toArray,List.getElem?_cons_zero,List.getElem?_cons_succ]at z1 z2 z3 z4 z5;clear hb4 HB X3 N3 y0 y2 n0;rcases nb with _ | _
 ·go_wp2_with fail
  go_ret;exact⟨congrArg (fun z=>Ending.returned (.int .i64 z)) (show(11:Int)=V by rw[hV.out];rfl),X4.out.1⟩
 by_cases hn:n=0;rotate_left
 ·have dn2:decide (0<n)=true:=decide_eq_true (by omega)
  have q:=hid (decide_eq_false hn);clear hn;go_wp2_with fail;go_ret;exact⟨congrArg (fun z=>Ending.returned (.int .i64 z)) (show(3:Int)=V by rw[hV.out,q.out];simp[conI]),X4.out.1⟩
 have dn2:decide (0<n)=false:=decide_eq_false (by omega);have q1:=hid (decide_eq_true hn);clear hn;by_cases hk:k=0;rotate_left
 ·have dk0:(k != 0)=true:=by simpa using hk
  have q:=hid (decide_eq_false hk);clear hk;go_wp2_with fail;go_ret;exact⟨congrArg (fun z=>Ending.returned (.int .i64 z)) (show(3:Int)=V by rw[hV.out,q.out];rfl),X4.out.1⟩
 have dk0:(k != 0)=false:=by simpa using hk
 have q2:=hid (decide_eq_true hk);clear hk;by_cases ht:tag.size=0;rotate_left
 ·rw[show(tag.size==0)=false by simpa using ht]at hz
  have q:=hid (decide_eq_false ht);clear ht;go_wp2_with fail;go_ret;exact⟨congrArg (fun z=>Ending.returned (.int .i64 z)) (show(3:Int)=V by rw[hV.out,q.out,q2.out];rfl),X4.out.1⟩
 rw[show(tag.size==0)=true by simpa using ht]at hz;have q3:=hid (decide_eq_true ht);clear ht;go_wp2_with fail;go_ret;exact⟨congrArg (fun z=>Ending.returned (.int .i64 z)) (show(0:Int)=V by rw[hV.out,q1.out,q2.out,q3.out];rfl),X4.out.1⟩
theorem rcon_24(x:MC)(w:World)(hx:COk w x)(h1:2≤x.c.op)(h4:x.c.op≤4):Calls Tryz.prog 81 #[.agg x.row.toArray] w (IPost (conI (nodeB x.c.a&&nodeB x.c.b) (decide (x.c.k=0)&&(decide (x.c.tag.size=0)&&decide (x.c.args.length=0)))) w):=by
 obtain⟨d,e0,hsite,hrd⟩:=rread_pair x.c.a hx.a;have HD:=hid hrd;have HA:=hid (fun w'=>rnode_any x.c.a w' hx.a);have HB:=hid (fun w'=>rnode_any x.c.b w' hx.b);have hxt:=hx.t;have hz:=size_nil x.c.tag;unfold maxLen at hxt;unfold BPost at HA HB;unfold RdPost at HD;clear hrd;obtain⟨⟨op,a,b,k,tag,args⟩,aA,ac⟩:=x;obtain⟨dk,df,dc,dn,dm,dl⟩:=d;unfold MC.row at *;dsimp only at *;clear hx;unfold IPost;generalize nodeB a=na at *;generalize nodeB b=nb at *;generalize args.length=n at *;have e1:decide (op<1)=false:=decide_eq_false (by omega);have e2:decide (6<op)=false:=decide_eq_false (by omega);have e3:(op==1)=false:=by simp;omega
 have e3':(op != 1)=true:=by simp;omega
 have e4:(op==5)=false:=by simp;omega
 have e5:(op==6)=false:=by simp;omega
 clear h1 h4;obtain⟨V,hV⟩:∃V,Hid (V=conI (na&&nb) (decide (k=0)&&(decide (tag.size=0)&&decide (n=0)))):=⟨_,hid rfl⟩;rw[←hV.out];go_enter Tryz.func81,Tryz.ntmps81;go_wp2_with fail;refine(HD.out _).mono ?_;rintro e w2 ⟨rfl,hb2⟩;have X2:=hid ((RC.new w #[.int .i64 op,.string a,.string b,.int .i64 k,.string tag,.slice aA n ac]).on hb2);have X2':=hid (X2.out.on ((Fr.refl [] w2).alloc (.cells #[.int .i64 dk,.string df,.int .i64 dc,.string dn,.int .i64 dm,.int .i64 dl] 121)).all);have N2:=hid (Box.new w2 121 #[.int .i64 dk,.string df,.int .i64 dc,.string dn,.int .i64 dm,.int .i64 dl]);have hws:=hid hb2.size;clear hb2 HD;have x1:=X2'.out.2.cell 1;simp only[List.getElem?_toArray,List.getElem?_cons_zero,List.getElem?_cons_succ]at x1;clear X2;go_wp2_with fail;refine(HA.out _).mono ?_;rintro e w3 ⟨rfl,hb3⟩;have X3:=hid (X2'.out.on hb3);have N3:=hid (N2.out.kept (Fr.of_below hb3 []) (by simp));clear hb3 X2' N2 HA x1
 rcases na with _ | _
 ·go_wp2_with fail
  go_ret;exact⟨congrArg (fun z=>Ending.returned (.int .i64 z)) (show(11:Int)=V by rw[hV.out];rfl),X3.out.1⟩
 have y0:=X3.out.2.cell 0;have y2:=X3.out.2.cell 2;have n0:=N3.out.cell 0;simp only[List.getElem?_toArray,List.getElem?_cons_zero,List.getElem?_cons_succ]at y0 y2 n0;go_wp2_with fail;refine(HB.out _).mono ?_;rintro e w4 ⟨rfl,hb4⟩;have X4:=hid (X3.out.on hb4);have z0:=(hb4.cell (p:=⟨w.heap.size,0,none⟩) (block_lt_of_cell y0)).trans y0;have z3:=X4.out.2.cell 3;have z4:=X4.out.2.cell 4;have z5:=X4.out.2.cell 5;have z1:=X4.out.2.cell 1;have z2:=X4.out.2.cell 2;simp only[List.getElem?_toArray,List.getElem?_cons_zero,List.getElem?_cons_succ]at z1 z2 z3 z4 z5;clear hb4 HB X3 N3 y0 y2 n0;rcases nb with _ | _
 ·go_wp2_with fail
  go_ret;exact⟨congrArg (fun z=>Ending.returned (.int .i64 z)) (show(11:Int)=V by rw[hV.out];rfl),X4.out.1⟩
 by_cases hn:n=0;rotate_left
 ·have dn2:decide (0<n)=true:=decide_eq_true (by omega)
  have q:=hid (decide_eq_false hn);clear hn;go_wp2_with fail;go_ret;exact⟨congrArg (fun z=>Ending.returned (.int .i64 z)) (show(3:Int)=V by rw[hV.out,q.out];simp[conI]),X4.out.1⟩
 have dn2:decide (0<n)=false:=decide_eq_false (by omega);have q1:=hid (decide_eq_true hn);clear hn;by_cases hk:k=0;rotate_left
 ·have dk0:(k != 0)=true:=by simpa using hk
  have q:=hid (decide_eq_false hk);clear hk;go_wp2_with fail;go_ret;exact⟨congrArg (fun z=>Ending.returned (.int .i64 z)) (show(3:Int)=V by rw[hV.out,q.out];rfl),X4.out.1⟩
 have dk0:(k != 0)=false:=by simpa using hk
 have q2:=hid (decide_eq_true hk);clear hk;by_cases ht:tag.size=0;rotate_left
 ·rw[show(tag.size==0)=false by simpa using ht]at hz
  have q:=hid (decide_eq_false ht);clear ht;go_wp2_with fail;go_ret;exact⟨congrArg (fun z=>Ending.returned (.int .i64 z)) (show(3:Int)=V by rw[hV.out,q.out,q2.out];rfl),X4.out.1⟩
 rw[show(tag.size==0)=true by simpa using ht]at hz;have q3:=hid (decide_eq_true ht);clear ht;go_wp2_with fail;go_ret;exact⟨congrArg (fun z=>Ending.returned (.int .i64 z)) (show(0:Int)=V by rw[hV.out,q1.out,q2.out,q3.out];rfl),X4.out.1⟩
theorem rcon_5(x:MC)(w:World)(hx:COk w x)(hop:x.c.op=5):Calls Tryz.prog 81 #[.agg x.row.toArray] w (IPost (conI (nodeB x.c.a&&nodeB x.c.b) (decide (0≤x.c.k)&&(decide (x.c.k≤64)&&(tagB x.c.tag&&decide (x.c.args.length=0))))) w):=by
 obtain⟨d,e0,hsite,hrd⟩:=rread_pair x.c.a hx.a;have HD:=hid hrd;have HA:=hid (fun w'=>rnode_any x.c.a w' hx.a);have HB:=hid (fun w'=>rnode_any x.c.b w' hx.b);have hxt:=hx.t;have hz:=size_nil x.c.tag;unfold maxLen at hxt;unfold BPost at HA HB;unfold RdPost at HD;clear hrd;obtain⟨⟨op,a,b,k,tag,args⟩,aA,ac⟩:=x;obtain⟨dk,df,dc,dn,dm,dl⟩:=d;unfold MC.row at *;dsimp only at *;clear hx;unfold IPost;generalize nodeB a=na at *;generalize nodeB b=nb at *;generalize args.length=n at *;subst hop;obtain⟨V,hV⟩:∃V,Hid (V=conI (na&&nb) (decide (0≤k)&&(decide (k≤64)&&(tagB tag&&decide (n=0))))):=⟨_,hid rfl⟩;rw[←hV.out];go_enter Tryz.func81,Tryz.ntmps81;go_wp2_with fail;refine(HD.out _).mono ?_;rintro e w2 ⟨rfl,hb2⟩;have X2:=hid ((RC.new w #[.int .i64 5,.string a,.string b,.int .i64 k,.string tag,.slice aA n ac]).on hb2);have X2':=hid (X2.out.on ((Fr.refl [] w2).alloc (.cells #[.int .i64 dk,.string df,.int .i64 dc,.string dn,.int .i64 dm,.int .i64 dl] 121)).all)
 have N2:=hid (Box.new w2 121 #[.int .i64 dk,.string df,.int .i64 dc,.string dn,.int .i64 dm,.int .i64 dl]);have hws:=hid hb2.size;clear hb2 HD;have x1:=X2'.out.2.cell 1;simp only[List.getElem?_toArray,List.getElem?_cons_zero,List.getElem?_cons_succ]at x1;clear X2;go_wp2_with fail;refine(HA.out _).mono ?_;rintro e w3 ⟨rfl,hb3⟩;have X3:=hid (X2'.out.on hb3);have N3:=hid (N2.out.kept (Fr.of_below hb3 []) (by simp));clear hb3 X2' N2 HA x1;rcases na with _ | _
 ·go_wp2_with fail
  go_ret;exact⟨congrArg (fun z=>Ending.returned (.int .i64 z)) (show(11:Int)=V by rw[hV.out];rfl),X3.out.1⟩
 have y0:=X3.out.2.cell 0;have y2:=X3.out.2.cell 2;have n0:=N3.out.cell 0;simp only[List.getElem?_toArray,List.getElem?_cons_zero,List.getElem?_cons_succ]at y0 y2 n0;go_wp2_with fail;refine(HB.out _).mono ?_;rintro e w4 ⟨rfl,hb4⟩;have X4:=hid (X3.out.on hb4);have z0:=(hb4.cell (p:=⟨w.heap.size,0,none⟩) (block_lt_of_cell y0)).trans y0;have z3:=X4.out.2.cell 3;have z4:=X4.out.2.cell 4;have z5:=X4.out.2.cell 5;have z1:=X4.out.2.cell 1;have z2:=X4.out.2.cell 2;simp only[List.getElem?_toArray,List.getElem?_cons_zero,List.getElem?_cons_succ]at z1 z2 z3 z4 z5;clear hb4 HB X3 N3 y0 y2 n0;rcases nb with _ | _
 ·go_wp2_with fail
  go_ret;exact⟨congrArg (fun z=>Ending.returned (.int .i64 z)) (show(11:Int)=V by rw[hV.out];rfl),X4.out.1⟩
 unfold tagB at hV;by_cases hn:n=0;rotate_left
 ·have d_hn:decide (0<n)=true:=decide_eq_true (by omega)
  have q:=hid (decide_eq_false hn);clear hn;go_wp2_with fail;go_ret;exact⟨congrArg (fun z=>Ending.returned (.int .i64 z)) (show(3:Int)=V by rw[hV.out,q.out];simp[conI]),X4.out.1⟩
 have d_hn:decide (0<n)=false:=decide_eq_false (by omega);have q_hn:=hid (decide_eq_true hn);clear hn;by_cases hk:0≤k;rotate_left
 ·have d_hk:decide (k<0)=true:=decide_eq_true (by omega)
  have q:=hid (decide_eq_false hk);clear hk;go_wp2_with fail;go_ret;exact⟨congrArg (fun z=>Ending.returned (.int .i64 z)) (show(3:Int)=V by rw[hV.out,q.out,q_hn.out];simp[conI]),X4.out.1⟩
 have d_hk:decide (k<0)=false:=decide_eq_false (by omega);have q_hk:=hid (decide_eq_true hk);clear hk;by_cases hk2:k≤64;rotate_left
 ·have d_hk2:decide (64<k)=true:=decide_eq_true (by omega)
  have q:=hid (decide_eq_false hk2);clear hk2;go_wp2_with fail;go_ret;exact⟨congrArg (fun z=>Ending.returned (.int .i64 z)) (show(3:Int)=V by rw[hV.out,q.out,q_hn.out,q_hk.out];simp[conI]),X4.out.1⟩
 have d_hk2:decide (64<k)=false:=decide_eq_false (by omega);have q_hk2:=hid (decide_eq_true hk2);clear hk2;by_cases ht1:1≤tag.size;rotate_left
 ·have d_ht1:decide ((tag.size:Int)<1)=true:=decide_eq_true (by omega)
  have q:=hid (decide_eq_false ht1);clear ht1;go_wp2_with fail;go_ret;exact⟨congrArg (fun z=>Ending.returned (.int .i64 z)) (show(3:Int)=V by rw[hV.out,q.out,q_hn.out,q_hk.out,q_hk2.out];simp[conI]),X4.out.1⟩
 have d_ht1:decide ((tag.size:Int)<1)=false:=decide_eq_false (by omega);have q_ht1:=hid (decide_eq_true ht1);clear ht1;by_cases ht2:tag.size≤60;rotate_left
 ·have d_ht2:decide ((60:Int)<(tag.size:Int))=true:=decide_eq_true (by omega)
  have q:=hid (decide_eq_false ht2);clear ht2;go_wp2_with fail;go_ret;exact⟨congrArg (fun z=>Ending.returned (.int .i64 z)) (show(3:Int)=V by rw[hV.out,q.out,q_hn.out,q_hk.out,q_hk2.out,q_ht1.out];simp[conI]),X4.out.1⟩
 have d_ht2:decide ((60:Int)<(tag.size:Int))=false:=decide_eq_false (by omega);have q_ht2:=hid (decide_eq_true ht2);clear ht2;go_wp2_with fail;go_ret;exact⟨congrArg (fun z=>Ending.returned (.int .i64 z)) (show(0:Int)=V by rw[hV.out,q_hn.out,q_hk.out,q_hk2.out,q_ht1.out,q_ht2.out];rfl),X4.out.1⟩
theorem rcon_6(x:MC)(w:World)(hx:COk w x)(hop:x.c.op=6):Calls Tryz.prog 81 #[.agg x.row.toArray] w (IPost (conI (siteB x.c.a&&nodeB x.c.b) (decide (x.c.k=0)&&callB x.c.tag x.c.args)) w):=by
 obtain⟨d,e0,hsite,hrd⟩:=rread_pair x.c.a hx.a;have HD:=hid hrd;have HA:=hid (fun w'=>rnode_any x.c.a w' hx.a);have HB:=hid (fun w'=>rnode_any x.c.b w' hx.b);have hxt:=hx.t;have hz:=size_nil x.c.tag;unfold maxLen at hxt;unfold BPost at HA HB;unfold RdPost at HD;clear hrd;have HC:=hid (fun w' (hb:Below w.heap.size w w')=>rcall_any x w' (hx.below hb));have hzs:Hid (siteB x.c.a=true→nodeB x.c.a=true):=hid site_node;obtain⟨⟨op,a,b,k,tag,args⟩,aA,ac⟩:=x;obtain⟨dk,df,dc,dn,dm,dl⟩:=d;unfold MC.row at *;dsimp only at *;clear hx;unfold IPost;unfold IPost at HC;generalize nodeB a=na at *;generalize nodeB b=nb at *;subst hop;rw[hsite.out]at hzs;have hsv:Hid (siteB a=(decide (e0=0)&&decide (dk=3))):=hsite;obtain⟨Z,hZ⟩:∃Z,Hid (conI (siteB a&&nb) (decide (k=0)&&callB tag args)=Z):=⟨_,hid rfl⟩;rw[hZ.out];rw[hsite.out]at hZ;clear hsite;generalize (decide (k=0)&&callB tag args)=rb at *;go_enter Tryz.func81,Tryz.ntmps81
 go_wp2_with fail;refine(HD.out _).mono ?_;rintro e w2 ⟨rfl,hb2⟩;have X2:=hid ((RC.new w #[.int .i64 6,.string a,.string b,.int .i64 k,.string tag,.slice aA args.length ac]).on hb2);have X2':=hid (X2.out.on ((Fr.refl [] w2).alloc (.cells #[.int .i64 dk,.string df,.int .i64 dc,.string dn,.int .i64 dm,.int .i64 dl] 121)).all);have N2:=hid (Box.new w2 121 #[.int .i64 dk,.string df,.int .i64 dc,.string dn,.int .i64 dm,.int .i64 dl]);have hws:=hid hb2.size;clear hb2 HD;have x1:=X2'.out.2.cell 1;simp only[List.getElem?_toArray,List.getElem?_cons_zero,List.getElem?_cons_succ]at x1;clear X2;go_wp2_with fail;refine(HA.out _).mono ?_;rintro e w3 ⟨rfl,hb3⟩;have X3:=hid (X2'.out.on hb3);have N3:=hid (N2.out.kept (Fr.of_below hb3 []) (by simp));clear hb3 X2' N2 HA x1;rcases na with _ | _
 ·have hv:Hid ((11:Int)=Z):=hid (by
   rw[←hZ.out];rcases hq:(decide (e0=0)&&decide (dk=3))with _ | _
   ·rfl
   ·exact absurd (hzs.out hq) (by simp))
  go_wp2_with fail;go_ret;exact⟨congrArg (fun z=>Ending.returned (.int .i64 z)) hv.out,X3.out.1⟩
 have y0:=X3.out.2.cell 0;have y2:=X3.out.2.cell 2;have n0:=N3.out.cell 0;simp only[List.getElem?_toArray,List.getElem?_cons_zero,List.getElem?_cons_succ]at y0 y2 n0;by_cases he:e0=0;rotate_left
 ·have d0:(e0 != 0)=true:=by simpa using he
  have hv:Hid ((11:Int)=Z):=hid (by rw[←hZ.out,decide_eq_false he];rfl);clear he;go_wp2_with fail;go_ret;exact⟨congrArg (fun z=>Ending.returned (.int .i64 z)) hv.out,X3.out.1⟩
 have d0:(e0 != 0)=false:=by simpa using he
 rw[decide_eq_true he,Bool.true_and]at hZ;by_cases hk3:dk=3;rotate_left
 ·have d3:(dk != 3)=true:=by simpa using hk3
  have hv:Hid ((11:Int)=Z):=hid (by rw[←hZ.out,decide_eq_false hk3];rfl);clear he hk3;go_wp2_with fail;go_ret;exact⟨congrArg (fun z=>Ending.returned (.int .i64 z)) hv.out,X3.out.1⟩
 have d3:(dk != 3)=false:=by simpa using hk3
 rw[decide_eq_true hk3,Bool.true_and]at hZ;clear he hk3 hzs hsv;go_wp2_with fail;refine(HB.out _).mono ?_;rintro e w4 ⟨rfl,hb4⟩;have X4:=hid (X3.out.on hb4);have z0:=(hb4.cell (p:=⟨w.heap.size,0,none⟩) (block_lt_of_cell y0)).trans y0;have z3:=X4.out.2.cell 3;have z4:=X4.out.2.cell 4;have z5:=X4.out.2.cell 5;have z1:=X4.out.2.cell 1;have z2:=X4.out.2.cell 2;simp only[List.getElem?_toArray,List.getElem?_cons_zero,List.getElem?_cons_succ]at z1 z2 z3 z4 z5;clear hb4 HB X3 N3 y0 y2 n0;rcases nb with _ | _
 ·go_wp2_with fail
  go_ret;exact⟨congrArg (fun z=>Ending.returned (.int .i64 z)) hZ.out,X4.out.1⟩
 have HC4:=hid (HC.out _ X4.out.1);clear HC;go_wp2_with fail;refine HC4.out.mono ?_;rintro e w5 ⟨rfl,hb5⟩;have X5:=hid (X4.out.on hb5);clear hb5 HC4 X4 z0 z1 z2 z3 z4 z5;go_wp2_with fail;go_ret;exact⟨congrArg (fun z=>Ending.returned (.int .i64 z)) (by rw[←hZ.out];cases rb <;> rfl),X5.out.1⟩
end sy
namespace sy
open RowKit mem
open nm (Tab tab_below)
theorem con_6(x:MC)(w:World)(hx:COk w x)(htab:Tab w)(hop:x.c.op=6):Calls Tryz.prog 61 #[.agg x.row.toArray] w (IPost (conI (siteB x.c.a&&nodeB x.c.b) (decide (x.c.k=0)&&callB x.c.tag x.c.args)) w):=by
 have HA:=hid (fun w' (hb:Below w.heap.size w w')=>site_any x.c.a w' hx.a (tab_below htab hb));have HB:=hid (fun w' (hb:Below w.heap.size w w')=>node_any x.c.b w' hx.b (tab_below htab hb));have HC:=hid (fun w' (hb:Below w.heap.size w w')=>call_any x w' (hx.below hb) (tab_below htab hb));unfold BPost at HA HB HC;have hz:=size_nil x.c.tag;have hgl:=hx.gl;unfold maxLen at hgl;obtain⟨⟨op,a,b,k,tag,args⟩,aA,ac⟩:=x;unfold MC.row at *;dsimp only at *;clear hx htab;unfold IPost;generalize siteB a=na at *;generalize nodeB b=nb at *;generalize callB tag args=cb at *;subst hop;obtain⟨V,hV⟩:∃V,Hid (V=conI (na&&nb) (decide (k=0)&&cb)):=⟨_,hid rfl⟩;rw[←hV.out];go_enter Tryz.func61,Tryz.ntmps61;go_upto_region 9 with fail
 go_cut [5] (fun s5 wx=>(∃r,s5=.bool r)∧(w.alloc (.cells #[.int .i64 6,.string a,.string b,.int .i64 k,.string tag,.slice aA args.length ac] 103))=wx)
 case first=>
  by_cases hk:k=0
  ·have dk:(k==0)=true:=by simpa using hk
   clear hk;by_cases ht:tag.size=0
   ·rw[show(tag.size==0)=true by simpa using ht]at hz
    clear ht;go_wp2_with fail
    go_meet
    exact⟨⟨_,rfl⟩,rfl⟩
   ·rw[show(tag.size==0)=false by simpa using ht]at hz
    clear ht;go_wp2_with fail
    go_meet
    exact⟨⟨_,rfl⟩,rfl⟩
  ·have dk:(k==0)=false:=by simpa using hk
   clear hk;go_wp2_with fail
   go_meet
   exact⟨⟨_,rfl⟩,rfl⟩
 obtain⟨⟨r0,rfl⟩,rfl⟩:=hcut;clear hz;have hb1:=hid (((Fr.refl [] w).alloc (.cells #[.int .i64 6,.string a,.string b,.int .i64 k,.string tag,.slice aA args.length ac] 103)).all);have X:=Box.new w 103 #[.int .i64 6,.string a,.string b,.int .i64 k,.string tag,.slice aA args.length ac];by_cases hk:k=0
 ·have dk:(k==0)=true:=by simpa using hk
  have hV1:Hid (V=conI (na&&nb) cb):=hid (by rw[hV.out,decide_eq_true hk];rfl);clear hk hV;go_wp2_with fail;refine(HC.out _ hb1.out).mono ?_;rintro e w3 ⟨rfl,hb2⟩;have X3:=X.kept (Fr.of_below hb2 []) (by simp);have hb3:=hid (hb1.out.trans (hb2.mono hb1.out.size));have x1:=X3.cell 1;simp only[List.getElem?_toArray,List.getElem?_cons_zero,List.getElem?_cons_succ]at x1;clear hb2 HC hb1 X;go_wp2_with fail;refine(HA.out _ hb3.out).mono ?_;rintro e w4 ⟨rfl,hb4⟩;have hb5:=hid (hb3.out.trans (hb4.mono hb3.out.size));have X4:=X3.kept (Fr.of_below hb4 []) (by simp);rcases na with _ | _
  ·clear hb4 X3 X4 hb3 HA
   go_wp2_with fail;go_ret;exact⟨congrArg (fun z=>Ending.returned (.int .i64 z)) (show(11:Int)=V by rw[hV1.out];rfl),hb5.out⟩
  have y2:=X4.cell 2;simp only[List.getElem?_toArray,List.getElem?_cons_zero,List.getElem?_cons_succ]at y2;clear hb4 X3 X4 HA hb3 x1;go_wp2_with fail;refine(HB.out _ hb5.out).mono ?_;rintro e w6 ⟨rfl,hb6⟩;have hb7:=hid (hb5.out.trans (hb6.mono hb5.out.size));clear hb5 hb6;rcases nb with _ | _
  ·go_wp2_with fail
   go_ret;exact⟨congrArg (fun z=>Ending.returned (.int .i64 z)) (show(11:Int)=V by rw[hV1.out];rfl),hb7.out⟩
  rcases cb with _ | _
  ·go_wp2_with fail
   go_ret;exact⟨congrArg (fun z=>Ending.returned (.int .i64 z)) (show(3:Int)=V by rw[hV1.out];rfl),hb7.out⟩
  ·go_wp2_with fail
   go_ret;exact⟨congrArg (fun z=>Ending.returned (.int .i64 z)) (show(0:Int)=V by rw[hV1.out];rfl),hb7.out⟩
 ·have dk:(k==0)=false:=by simpa using hk
  have hV1:Hid (V=conI (na&&nb) false):=hid (by rw[hV.out,decide_eq_false hk];rfl);clear hk HC hV;have X3:=X;have hb3:=hb1;have x1:=X3.cell 1;simp only[List.getElem?_toArray,List.getElem?_cons_zero,List.getElem?_cons_succ]at x1;clear hb1 X;go_wp2_with fail;refine(HA.out _ hb3.out).mono ?_;rintro e w4 ⟨rfl,hb4⟩;have hb5:=hid (hb3.out.trans (hb4.mono hb3.out.size));have X4:=X3.kept (Fr.of_below hb4 []) (by simp);rcases na with _ | _
  ·clear hb4 X3 X4 hb3 HA
   go_wp2_with fail;go_ret;exact⟨congrArg (fun z=>Ending.returned (.int .i64 z)) (show(11:Int)=V by rw[hV1.out];rfl),hb5.out⟩
  have y2:=X4.cell 2;simp only[List.getElem?_toArray,List.getElem?_cons_zero,List.getElem?_cons_succ]at y2;clear hb4 X3 X4 HA hb3 x1;go_wp2_with fail;refine(HB.out _ hb5.out).mono ?_;rintro e w6 ⟨rfl,hb6⟩;have hb7:=hid (hb5.out.trans (hb6.mono hb5.out.size));clear hb5 hb6;rcases nb with _ | _
  ·go_wp2_with fail
   go_ret;exact⟨congrArg (fun z=>Ending.returned (.int .i64 z)) (show(11:Int)=V by rw[hV1.out];rfl),hb7.out⟩
  go_wp2_with fail;go_ret;exact⟨congrArg (fun z=>Ending.returned (.int .i64 z)) (show(3:Int)=V by rw[hV1.out];rfl),hb7.out⟩
theorem con_0(x:MC)(w:World)(h:x.c.op<1∨6<x.c.op):Calls Tryz.prog 61 #[.agg x.row.toArray] w (IPost 5 w):=by
 obtain⟨⟨op,a,b,k,tag,args⟩,aA,ac⟩:=x;unfold MC.row;dsimp only at *;unfold IPost;rcases h with h | h
 ·have d1:decide (op<1)=true:=decide_eq_true h
  go_enter Tryz.func61,Tryz.ntmps61;go_wp2_with fail;go_ret;exact⟨rfl,((Fr.refl [] w).alloc _).all⟩
 ·have d1:decide (op<1)=false:=decide_eq_false (by omega)
  have d2:decide (6<op)=true:=decide_eq_true h;go_enter Tryz.func61,Tryz.ntmps61;go_wp2_with fail;go_ret;exact⟨rfl,((Fr.refl [] w).alloc _).all⟩
theorem rcon_0(x:MC)(w:World)(h:x.c.op<1∨6<x.c.op):Calls Tryz.prog 81 #[.agg x.row.toArray] w (IPost 5 w):=by
 obtain⟨⟨op,a,b,k,tag,args⟩,aA,ac⟩:=x;unfold MC.row;dsimp only at *;unfold IPost;rcases h with h | h
 ·have d1:decide (op<1)=true:=decide_eq_true h
  go_enter Tryz.func81,Tryz.ntmps81;go_wp2_with fail;go_ret;exact⟨rfl,((Fr.refl [] w).alloc _).all⟩
 ·have d1:decide (op<1)=false:=decide_eq_false (by omega)
  have d2:decide (6<op)=true:=decide_eq_true h;go_enter Tryz.func81,Tryz.ntmps81;go_wp2_with fail;go_ret;exact⟨rfl,((Fr.refl [] w).alloc _).all⟩
theorem con_any(x:MC)(w:World)(hx:COk w x)(htab:Tab w):Calls Tryz.prog 61 #[.agg x.row.toArray] w (IPost (conE x.c) w):=by
 by_cases hr:x.c.op<1∨6<x.c.op
 ·have e:conE x.c=5:=by unfold conE;rw[if_pos hr]
  rw[e];exact con_0 x w hr
 ·rw[conE_eq x.c (by omega) (by omega)]
  unfold namesB rightB;rcases(by omega:x.c.op=1∨(2≤x.c.op∧x.c.op≤4)∨x.c.op=5∨x.c.op=6)with h | h | h | h
  ·rw[if_neg (by omega),if_pos h,if_neg (by omega),if_neg (by omega)]
   exact con_1 x w hx htab h
  ·rw[if_neg (by omega),if_neg (by omega),if_neg (by omega),if_neg (by omega)]
   exact con_24 x w hx htab h.1 h.2
  ·rw[if_neg (by omega),if_neg (by omega),if_neg (by omega),if_pos h]
   exact con_5 x w hx htab h
  ·rw[if_pos h,if_neg (by omega),if_pos h]
   exact con_6 x w hx htab h
theorem rcon_any(x:MC)(w:World)(hx:COk w x):Calls Tryz.prog 81 #[.agg x.row.toArray] w (IPost (conE x.c) w):=by
 by_cases hr:x.c.op<1∨6<x.c.op
 ·have e:conE x.c=5:=by unfold conE;rw[if_pos hr]
  rw[e];exact rcon_0 x w hr
 ·rw[conE_eq x.c (by omega) (by omega)]
  unfold namesB rightB;rcases(by omega:x.c.op=1∨(2≤x.c.op∧x.c.op≤4)∨x.c.op=5∨x.c.op=6)with h | h | h | h
  ·rw[if_neg (by omega),if_pos h,if_neg (by omega),if_neg (by omega)]
   exact rcon_1 x w hx h
  ·rw[if_neg (by omega),if_neg (by omega),if_neg (by omega),if_neg (by omega)]
   exact rcon_24 x w hx h.1 h.2
  ·rw[if_neg (by omega),if_neg (by omega),if_neg (by omega),if_pos h]
   exact rcon_5 x w hx h
  ·rw[if_pos h,if_neg (by omega),if_pos h]
   exact rcon_6 x w hx h
end sy
set_option maxHeartbeats 16000000
namespace sy
open RowKit mem
open nm (Tab tab_below)
def badP{α:Type}(bad:α→α→Bool):Option α→α→Bool
 | none,_=>false
 | some q,x=>bad q x
def goE{α:Type}(chk:α→Int)(bad:α→α→Bool):Option α→List α→Int
 | _,[]=>0
 | p,x :: r=>if chk x=0 then(bif badP bad p x then 13 else goE chk bad (some x) r) else chk x
def prevAt{α:Type}(xs:List α):Nat→Option α
 | 0=>none
 | m+1=>xs[m]?
theorem goE_bad{α:Type}{chk:α→Int}{bad:α→α→Bool}{xs:List α}{k:Nat}(hk:k<xs.length)(h:¬chk xs[k] = 0):goE chk bad (prevAt xs k) (xs.drop k)=chk xs[k]:=by
 rw[List.drop_eq_getElem_cons hk,goE,if_neg h]
theorem goE_zero{α:Type}{chk:α→Int}{bad:α→α→Bool}{xs:List α}(hk:0<xs.length)(h:chk xs[0] = 0):goE chk bad (prevAt xs 0) (xs.drop 0)=goE chk bad (prevAt xs 1) (xs.drop 1):=by
 rw[List.drop_eq_getElem_cons hk,goE,if_pos h];simp only[prevAt,badP,cond_false];rw[List.getElem?_eq_getElem hk]
theorem goE_order{α:Type}{chk:α→Int}{bad:α→α→Bool}{xs:List α}{m:Nat}(hk:m+1<xs.length)(h:chk xs[m+1] = 0):goE chk bad (prevAt xs (m+1)) (xs.drop (m+1))=bif bad (xs[m]'(by omega)) xs[m+1] then 13 else goE chk bad (prevAt xs (m+1+1)) (xs.drop (m+1+1)):=by
 rw[List.drop_eq_getElem_cons hk,goE,if_pos h];simp only[prevAt];rw[List.getElem?_eq_getElem (show m<xs.length by omega),List.getElem?_eq_getElem hk];rfl
theorem goE_map{α β:Type}{f:α→β}{chk:β→Int}{bad:β→β→Bool}:∀(p:Option α) (xs:List α),goE chk bad (p.map f) (xs.map f)=goE (fun x=>chk (f x)) (fun x y=>bad (f x) (f y)) p xs
 | _,[]=>rfl
 | p,x :: r=>by
  have h:=goE_map (f:=f) (chk:=chk) (bad:=bad) (some x) r;simp only[List.map_cons,goE];rw[←h];cases p <;> rfl
theorem goE_end{α:Type}{chk:α→Int}{bad:α→α→Bool}(p:Option α)(xs:List α):goE chk bad p (xs.drop xs.length)=0:=by
 rw[List.drop_length];rfl
def badO(a b:SO):Bool:=!lessB a.name b.name
def badF(a b:SF):Bool:=!lessB a.name b.name
def badC(a b:SC):Bool:=decide (0≤conC a b)
def thenE(a b:Int):Int:=if a=0 then b else a
theorem thenE_0(b:Int):thenE 0 b=b:=rfl
theorem thenE_n{a:Int}(h:¬a=0)(b:Int):thenE a b=a:=if_neg h
noncomputable def checkE(s:SS):Int:=if 600<s.objs.length∨600<s.fns.length∨6000<s.cons.length then 4 else
 thenE (goE objE badO none s.objs) (thenE (goE fnE badF none s.fns) (goE conE badC none s.cons))
def SR(w wr:World)(xs:Array Value):Prop:=Below w.heap.size w wr∧Box wr w.heap.size 41 xs
theorem SR.on{w wr w2:World}{xs:Array Value}(h:SR w wr xs)(hb:Below wr.heap.size wr w2):SR w w2 xs:=⟨h.1.trans (hb.mono h.1.size),h.2.kept (Fr.of_below hb []) (by simp)⟩
theorem SR.new(w:World)(xs:Array Value):SR w (w.alloc (.cells xs 41)) xs:=⟨((Fr.refl [] w).alloc _).all,Box.new w _ xs⟩
theorem SR.alloc{w wr:World}{xs:Array Value}(h:SR w wr xs)(o:Obj):SR w (wr.alloc o) xs:=h.on ((Fr.refl [] wr).alloc o).all
theorem SR.drewN{w wr:World}{xs:Array Value}(h:SR w wr xs)(i:Nat):SR w (wr.drewN i) xs:=h.on ((Fr.refl [] wr).drewN i).all
theorem SR.drew{w wr:World}{xs:Array Value}(h:SR w wr xs):SR w wr.drew xs:=h.on (Fr.refl [] wr).drew.all
theorem full_any(s:MS)(w:World):Calls Tryz.prog 58 #[s.val] w (BPost (decide (600<s.os.length∨600<s.fs.length∨6000<s.cs.length)) w):=by
 obtain⟨oA,oc,os,fA,fc,fs,cA,cc,cs⟩:=s;unfold MS.val;dsimp only;generalize os.length=no;generalize fs.length=nf;generalize cs.length=nc;obtain⟨V,hV⟩:∃V,Hid (V=decide (600<no∨600<nf∨6000<nc)):=⟨_,hid rfl⟩;rw[←hV.out];unfold BPost;by_cases h1:600<no
 ·have d1:decide ((600:Int)<(no:Int))=true:=decide_eq_true (by omega)
  have hv:Hid (true=V):=hid (by rw[hV.out];exact(decide_eq_true (by omega)).symm);go_enter Tryz.func58,Tryz.ntmps58;go_wp2_with fail;go_ret;exact⟨congrArg (fun z=>Ending.returned (.bool z)) hv.out,((Fr.refl [] w).alloc _).all⟩
 have d1:decide ((600:Int)<(no:Int))=false:=decide_eq_false (by omega);by_cases h2:600<nf
 ·have d2:decide ((600:Int)<(nf:Int))=true:=decide_eq_true (by omega)
  have hv:Hid (true=V):=hid (by rw[hV.out];exact(decide_eq_true (by omega)).symm);go_enter Tryz.func58,Tryz.ntmps58;go_wp2_with fail;go_ret;exact⟨congrArg (fun z=>Ending.returned (.bool z)) hv.out,((Fr.refl [] w).alloc _).all⟩
 have d2:decide ((600:Int)<(nf:Int))=false:=decide_eq_false (by omega);by_cases h3:6000<nc
 ·have d3:decide ((6000:Int)<(nc:Int))=true:=decide_eq_true (by omega)
  have hv:Hid (true=V):=hid (by rw[hV.out];exact(decide_eq_true (by omega)).symm);go_enter Tryz.func58,Tryz.ntmps58;go_wp2_with fail;go_ret;exact⟨congrArg (fun z=>Ending.returned (.bool z)) hv.out,((Fr.refl [] w).alloc _).all⟩
 ·have d3:decide ((6000:Int)<(nc:Int))=false:=decide_eq_false (by omega)
  have hv:Hid (false=V):=hid (by rw[hV.out];exact(decide_eq_false (by omega)).symm);go_enter Tryz.func58,Tryz.ntmps58;go_wp2_with fail;go_ret;exact⟨congrArg (fun z=>Ending.returned (.bool z)) hv.out,((Fr.refl [] w).alloc _).all⟩
theorem check_any(s:MS)(w:World)(hs:SysM w s)(htab:Tab w):Calls Tryz.prog 33 #[s.val] w (IPost (checkE s.sys) w):=by
 have HO:=hid (fun W (hb:Below w.heap.size w W)=>hs.o.below hb);have HF:=hid (fun W (hb:Below w.heap.size w W)=>hs.f.below hb);have HC:=hid (fun W (hb:Below w.heap.size w W)=>hs.c.below hb);have CO:Hid (∀W,Below w.heap.size w W→∀x∈s.os,Calls Tryz.prog 59 #[.agg x.row.toArray] W (IPost (objE x.o) W)):=hid (fun W hb x hx=>object_any x W ((hs.ok x hx).below hb) (tab_below htab hb));have CF:Hid (∀W,Below w.heap.size w W→∀x∈s.fs,Calls Tryz.prog 60 #[.agg (fnRow x).toArray] W (IPost (fnE x) W)):=hid (fun W hb x hx=>function_any x W (hs.fk x hx) (tab_below htab hb));have CC:Hid (∀W,Below w.heap.size w W→∀x∈s.cs,Calls Tryz.prog 61 #[.agg x.row.toArray] W (IPost (conE x.c) W)):=hid (fun W hb x hx=>con_any x W ((hs.ck x hx).below hb) (tab_below htab hb));have CK:Hid (∀W,Below w.heap.size w W→∀x∈s.cs,∀y∈s.cs,Calls Tryz.prog 62 #[.agg x.row.toArray,.agg y.row.toArray] W (IPost (conC x.c y.c) W)):=hid (fun W hb x hx y hy=>compare_any x y W ((hs.ck x hx).below hb) ((hs.ck y hy).below hb))
 have CU:=hid (fun W=>full_any s W);have hol:=hs.ol;have hfl:=hs.fl;have hcl9:=hs.cl;unfold maxLen at hol hfl hcl9;unfold IPost at CO CF CC CK;unfold BPost at CU;clear hs htab;obtain⟨oA,oc,os,fA,fc,fs,cA,cc,cs⟩:=s;unfold MS.sys IPost;unfold MS.val at CU;unfold MS.val;dsimp only at *;obtain⟨no,hNo⟩:∃n,Hid (n=os.length):=⟨_,hid rfl⟩;obtain⟨nf,hNf⟩:∃n,Hid (n=fs.length):=⟨_,hid rfl⟩;obtain⟨nc,hNc⟩:∃n,Hid (n=cs.length):=⟨_,hid rfl⟩;obtain⟨V,hV⟩:∃V,Hid (V=checkE ⟨os.map (·.o),fs,cs.map (·.c)⟩):=⟨_,hid rfl⟩;rw[←hV.out,←hNo.out,←hNf.out,←hNc.out];rw[←hNo.out]at hol;rw[←hNf.out]at hfl;rw[←hNc.out]at hcl9;rw[←hNo.out,←hNf.out,←hNc.out]at CU;obtain⟨E1,hE1⟩:∃E,Hid (E=goE (fun x:MO=>objE x.o) (fun x y=>badO x.o y.o) (prevAt os 0) (os.drop 0)):=⟨_,hid rfl⟩;obtain⟨E2,hE2⟩:∃E,Hid (E=goE fnE badF (prevAt fs 0) (fs.drop 0)):=⟨_,hid rfl⟩;obtain⟨E3,hE3⟩:∃E,Hid (E=goE (fun x:MC=>conE x.c) (fun x y=>badC x.c y.c) (prevAt cs 0) (cs.drop 0)):=⟨_,hid rfl⟩
 have hV0:Hid (V=if 600<no∨600<nf∨6000<nc then 4 else thenE E1 (thenE E2 E3)):=hid (by
  rw[hV.out,hE1.out,hE2.out,hE3.out,hNo.out,hNf.out,hNc.out];unfold checkE;dsimp only;rw[List.length_map,List.length_map];have g1:=goE_map (chk:=objE) (bad:=badO) (f:=fun x:MO=>x.o) none os;have g3:=goE_map (chk:=conE) (bad:=badC) (f:=fun x:MC=>x.c) none cs;simp only[Option.map_none]at g1 g3;rw[g1,g3]
  rfl)
 clear hV;go_enter Tryz.func33,Tryz.ntmps33;have X0:=hid (SR.new w #[.slice oA no oc,.slice fA nf fc,.slice cA nc cc]);go_wp2_with fail;refine(CU.out _).mono ?_;rintro e w2 ⟨rfl,hb2⟩;have X2:=hid (X0.out.on hb2);clear hb2 X0 CU;by_cases hfu:600<no∨600<nf∨6000<nc
 ·rw[decide_eq_true hfu]
  have hv:Hid ((4:Int)=V):=hid (by rw[hV0.out,if_pos hfu]);clear hfu;go_wp2_with fail;go_ret;exact⟨congrArg (fun z=>Ending.returned (.int .i64 z)) hv.out,X2.out.1⟩
 rw[decide_eq_false hfu];have hV1:Hid (V=thenE E1 (thenE E2 E3)):=hid (by rw[hV0.out,if_neg hfu]);clear hV0;have s0:=X2.out.2.cell 0;simp only[List.getElem?_toArray,List.getElem?_cons_zero,List.getElem?_cons_succ]at s0;go_wp2_with fail;clear s0;go_loopw [17] (fun i wr=>∃k:Nat,k≤no∧i=.int .i64 k∧Hid (E1=goE (fun x:MO=>objE x.o) (fun x y=>badO x.o y.o) (prevAt os k) (os.drop k))∧Hid (SR w wr #[.slice oA no oc,.slice fA nf fc,.slice cA nc cc])) (fun i _=>no-(intOf i).toNat)
 case atStart=>exact⟨0,by omega,rfl,hE1,X2⟩
 case round=>
  obtain⟨k,hk,rfl,hE,HL0⟩:=hrel;clear X2
  rename World=>wr0
  have s0:=HL0.out.2.cell 0;simp only[List.getElem?_toArray,List.getElem?_cons_zero,List.getElem?_cons_succ]at s0;by_cases hkl:k<no
  ·have e1:decide ((k:Int)<(no:Int))=true:=decide_eq_true (by omega)
   have hkx:k<os.length:=by rw[←hNo.out];exact hkl
   have HT0:=HO.out wr0 HL0.out.1;obtain⟨g,off,rfl,hg,c0,c1,c2⟩:=tbl_obj HT0 hkx;have hgb:=hid (fun h=>goE_bad (chk:=(fun x:MO=>objE x.o)) (bad:=(fun x y=>badO x.o y.o)) hkx h);have hg0:Hid (k=0→(fun x:MO=>objE x.o) os[k] = 0→goE (fun x:MO=>objE x.o) (fun x y=>badO x.o y.o) (prevAt os k) (os.drop k)=goE (fun x:MO=>objE x.o) (fun x y=>badO x.o y.o) (prevAt os (k+1)) (os.drop (k+1))):=hid (fun h hz=>by subst h;exact goE_zero hkx hz);have hg1:Hid (∀m (h:m+1=k),(fun x:MO=>objE x.o) os[k] = 0→goE (fun x:MO=>objE x.o) (fun x y=>badO x.o y.o) (prevAt os k) (os.drop k)=bif (fun x y=>badO x.o y.o) (os[m]'(by omega)) os[k] then 13 else goE (fun x:MO=>objE x.o) (fun x y=>badO x.o y.o) (prevAt os (k+1)) (os.drop (k+1))):=hid (fun m h hz=>by subst h;exact goE_order hkx hz);have hmem:=hid (List.getElem_mem hkx);have HR1:=hid (HL0.out.alloc (.cells os[k].row.toArray 70));have HB1:=hid (Box.new wr0 70 os[k].row.toArray)
   have C1:=hid (CO.out _ HR1.out.1 _ hmem.out);obtain⟨x,hx⟩:∃x,Hid (os[k] = x):=⟨_,hid rfl⟩;rw[hx.out]at c0 c1 c2 C1 hgb hg0 hg1 hmem HR1 HB1;unfold MO.row at C1 HR1 HB1;obtain⟨z,hz⟩:∃z,Hid (objE x.o=z):=⟨_,hid rfl⟩
   try dsimp only at hgb hg0 hg1
   rw[hz.out]at C1 hgb hg0 hg1;clear hz;obtain⟨⟨xn,xk,xm⟩,xA,xc⟩:=x;dsimp only at *;go_wp2_with fail;refine C1.out.mono ?_;rintro e w5 ⟨rfl,hb5⟩;have HR5:=hid (HR1.out.on hb5);have HB5:=hid (HB1.out.kept (Fr.of_below hb5 []) (by simp));clear HR1 HB1;have HT5:=HO.out w5 HR5.out.1;clear hb5 C1 c0 c1 c2 HT0 s0;by_cases hzz:z=0;rotate_left
   ·have dz:(z != 0)=true:=by simpa using hzz
    have hzn:=hid hzz;have hv:Hid (z=V):=hid (Eq.symm (by rw[hV1.out,hE.out,hgb.out hzn.out,thenE_n hzn.out]));clear hzz HT5 hg0 hg1 hgb;go_wp2_with fail;go_ret;exact⟨congrArg (fun z=>Ending.returned (.int .i64 z)) hv.out,HR5.out.1⟩
   have dz:(z != 0)=false:=by simpa using hzz
   have hzn:=hid hzz;have s0:=HR5.out.2.cell 0;have b0:=HB5.out.cell 0;have b1:=HB5.out.cell 1;have b2:=HB5.out.cell 2;simp only[List.getElem?_toArray,List.getElem?_cons_zero,List.getElem?_cons_succ]at s0 b0 b1 b2;clear hzz hgb;rcases Nat.eq_zero_or_pos k with hk0 | hk0
   ·have d5:decide (0<k)=false:=decide_eq_false (by omega)
    have hE2:=hid (hE.out.trans (hg0.out hk0 hzn.out));clear hE hg0 hg1 hzn HT5;go_wp2_with fail;go_quiet (fail);go_wp2_with fail;go_roundw
    case rel=>exact⟨k+1,by omega,by go_num,hE2,hid (HR5.out.drewN _)⟩
    case measure=>simp[intOf];omega
   ·have d5:decide (0<k)=true:=decide_eq_true hk0
    obtain⟨m2,hm2⟩:∃m2,m2+1=k:=⟨k-1,by omega⟩;have hjm:(k:Int)-1=(m2:Int):=by omega
    have hwm:IntKind.i64.wrap (m2:Int)=(m2:Int):=IntWalk.i64_in _ (by omega);have hm2m:m2<os.length:=by omega
    have hm2n:m2<no:=by omega
    obtain⟨g3,off3,e3,_,p0,p1,p2⟩:=tbl_obj HT5 hm2m;injection e3 with e3;injection e3 with e3 e3b;subst e3;subst e3b;have hgm:=hid (hg1.out m2 hm2 hzn.out);generalize os[m2] = y at *;obtain⟨⟨yn,yk,ym⟩,yA,yc⟩:=y;dsimp only at *;clear hg0 hg1 hm2 hm2m HT5;rcases hlb:Op.bytesLess yn.toList xn.toList with _ | _
    ·have hlt:=hid (show badO ⟨yn,yk,ym⟩ ⟨xn,xk,xm⟩=true by unfold badO lessB;dsimp only;rw[hlb];rfl)
     have hv:Hid ((13:Int)=V):=hid (Eq.symm (by rw[hV1.out,hE.out,hgm.out,hlt.out];rfl));clear hgm hE;go_wp2_with fail;go_quiet (fail);go_wp2_with fail;go_ret;exact⟨congrArg (fun z=>Ending.returned (.int .i64 z)) hv.out,(HR5.out.drewN _).1⟩
    ·have hlt:=hid (show badO ⟨yn,yk,ym⟩ ⟨xn,xk,xm⟩=false by unfold badO lessB;dsimp only;rw[hlb];rfl)
     have hE2:=hid (hE.out.trans (by rw[hgm.out,hlt.out,cond_false]));clear hgm hE;go_wp2_with fail;go_quiet (fail);go_wp2_with fail;go_roundw
     case rel=>exact⟨k+1,by omega,by go_num,hE2,hid (HR5.out.drewN _)⟩
     case measure=>simp[intOf];omega
  ·obtain rfl:no=k:=by omega
   have e1:decide ((no:Int)<(no:Int))=false:=decide_eq_false (by omega);have hEz:Hid (E1=0):=hid (by rw[hE.out,hNo.out];exact goE_end _ _);have hV2:Hid (V=thenE E2 E3):=hid (by rw[hV1.out,hEz.out,thenE_0]);clear hE hEz hV1;have s1:=HL0.out.2.cell 1;simp only[List.getElem?_toArray,List.getElem?_cons_zero,List.getElem?_cons_succ]at s1;go_wp2_with fail;clear s0;clear s1;go_loopw [45] (fun i wr=>∃k:Nat,k≤nf∧i=.int .i64 k∧Hid (E2=goE fnE badF (prevAt fs k) (fs.drop k))∧Hid (SR w wr #[.slice oA no oc,.slice fA nf fc,.slice cA nc cc])) (fun i _=>nf-(intOf i).toNat)
   case atStart=>exact⟨0,by omega,rfl,hE2,HL0⟩
   case round=>
    obtain⟨k,hk,rfl,hE,HL1⟩:=hrel;clear HL0
    rename World=>wr1
    have s1:=HL1.out.2.cell 1;simp only[List.getElem?_toArray,List.getElem?_cons_zero,List.getElem?_cons_succ]at s1;by_cases hkl:k<nf
    ·have e1:decide ((k:Int)<(nf:Int))=true:=decide_eq_true (by omega)
     have hkx:k<fs.length:=by rw[←hNf.out];exact hkl
     have HT0:=HF.out wr1 HL1.out.1;obtain⟨g,off,rfl,hg,c0,c1,c2⟩:=tbl_fn HT0 hkx;have hgb:=hid (fun h=>goE_bad (chk:=fnE) (bad:=badF) hkx h);have hg0:Hid (k=0→fnE fs[k] = 0→goE fnE badF (prevAt fs k) (fs.drop k)=goE fnE badF (prevAt fs (k+1)) (fs.drop (k+1))):=hid (fun h hz=>by subst h;exact goE_zero hkx hz);have hg1:Hid (∀m (h:m+1=k),fnE fs[k] = 0→goE fnE badF (prevAt fs k) (fs.drop k)=bif badF (fs[m]'(by omega)) fs[k] then 13 else goE fnE badF (prevAt fs (k+1)) (fs.drop (k+1))):=hid (fun m h hz=>by subst h;exact goE_order hkx hz);have hmem:=hid (List.getElem_mem hkx);have HR1:=hid (HL1.out.alloc (.cells (fnRow fs[k]).toArray 72));have HB1:=hid (Box.new wr1 72 (fnRow fs[k]).toArray);have C1:=hid (CF.out _ HR1.out.1 _ hmem.out);obtain⟨x,hx⟩:∃x,Hid (fs[k] = x):=⟨_,hid rfl⟩;rw[hx.out]at c0 c1 c2 C1 hgb hg0 hg1 hmem HR1 HB1;unfold fnRow at C1 HR1 HB1;obtain⟨z,hz⟩:∃z,Hid (fnE x=z):=⟨_,hid rfl⟩
     try dsimp only at hgb hg0 hg1
     rw[hz.out]at C1 hgb hg0 hg1;clear hz;obtain⟨xn,xk,xr⟩:=x;dsimp only at *;go_wp2_with fail;refine C1.out.mono ?_;rintro e w5 ⟨rfl,hb5⟩;have HR5:=hid (HR1.out.on hb5);have HB5:=hid (HB1.out.kept (Fr.of_below hb5 []) (by simp));clear HR1 HB1;have HT5:=HF.out w5 HR5.out.1;clear hb5 C1 c0 c1 c2 HT0 s1;by_cases hzz:z=0;rotate_left
     ·have dz:(z != 0)=true:=by simpa using hzz
      have hzn:=hid hzz;have hv:Hid (z=V):=hid (Eq.symm (by rw[hV2.out,hE.out,hgb.out hzn.out,thenE_n hzn.out]));clear hzz HT5 hg0 hg1 hgb;go_wp2_with fail;go_ret;exact⟨congrArg (fun z=>Ending.returned (.int .i64 z)) hv.out,HR5.out.1⟩
     have dz:(z != 0)=false:=by simpa using hzz
     have hzn:=hid hzz;have s1:=HR5.out.2.cell 1;have b0:=HB5.out.cell 0;have b1:=HB5.out.cell 1;have b2:=HB5.out.cell 2;simp only[List.getElem?_toArray,List.getElem?_cons_zero,List.getElem?_cons_succ]at s1 b0 b1 b2;clear hzz hgb;rcases Nat.eq_zero_or_pos k with hk0 | hk0
     ·have d5:decide (0<k)=false:=decide_eq_false (by omega)
      have hE2:=hid (hE.out.trans (hg0.out hk0 hzn.out));clear hE hg0 hg1 hzn HT5;go_wp2_with fail;go_quiet (fail);go_wp2_with fail;go_roundw
      case rel=>exact⟨k+1,by omega,by go_num,hE2,hid (HR5.out.drewN _)⟩
      case measure=>simp[intOf];omega
     ·have d5:decide (0<k)=true:=decide_eq_true hk0
      obtain⟨m2,hm2⟩:∃m2,m2+1=k:=⟨k-1,by omega⟩;have hjm:(k:Int)-1=(m2:Int):=by omega
      have hwm:IntKind.i64.wrap (m2:Int)=(m2:Int):=IntWalk.i64_in _ (by omega);have hm2m:m2<fs.length:=by omega
      have hm2n:m2<nf:=by omega
      obtain⟨g3,off3,e3,_,p0,p1,p2⟩:=tbl_fn HT5 hm2m;injection e3 with e3;injection e3 with e3 e3b;subst e3;subst e3b;have hgm:=hid (hg1.out m2 hm2 hzn.out);generalize fs[m2] = y at *;obtain⟨yn,yk,yr⟩:=y;dsimp only at *;clear hg0 hg1 hm2 hm2m HT5;rcases hlb:Op.bytesLess yn.toList xn.toList with _ | _
      ·have hlt:=hid (show badF ⟨yn,yk,yr⟩ ⟨xn,xk,xr⟩=true by unfold badF lessB;dsimp only;rw[hlb];rfl)
       have hv:Hid ((13:Int)=V):=hid (Eq.symm (by rw[hV2.out,hE.out,hgm.out,hlt.out];rfl));clear hgm hE;go_wp2_with fail;go_quiet (fail);go_wp2_with fail;go_ret;exact⟨congrArg (fun z=>Ending.returned (.int .i64 z)) hv.out,(HR5.out.drewN _).1⟩
      ·have hlt:=hid (show badF ⟨yn,yk,yr⟩ ⟨xn,xk,xr⟩=false by unfold badF lessB;dsimp only;rw[hlb];rfl)
       have hE2:=hid (hE.out.trans (by rw[hgm.out,hlt.out,cond_false]));clear hgm hE;go_wp2_with fail;go_quiet (fail);go_wp2_with fail;go_roundw
       case rel=>exact⟨k+1,by omega,by go_num,hE2,hid (HR5.out.drewN _)⟩
       case measure=>simp[intOf];omega
    ·obtain rfl:nf=k:=by omega
     have e1:decide ((nf:Int)<(nf:Int))=false:=decide_eq_false (by omega);have hEz:Hid (E2=0):=hid (by rw[hE.out,hNf.out];exact goE_end _ _);have hV3:Hid (V=E3):=hid (by rw[hV2.out,hEz.out,thenE_0]);clear hE hEz hV2;have s2:=HL1.out.2.cell 2;simp only[List.getElem?_toArray,List.getElem?_cons_zero,List.getElem?_cons_succ]at s2;go_wp2_with fail;clear s1;clear s2;go_loopw [73] (fun i wr=>∃k:Nat,k≤nc∧i=.int .i64 k∧Hid (E3=goE (fun x:MC=>conE x.c) (fun x y=>badC x.c y.c) (prevAt cs k) (cs.drop k))∧Hid (SR w wr #[.slice oA no oc,.slice fA nf fc,.slice cA nc cc])) (fun i _=>nc-(intOf i).toNat)
     case atStart=>exact⟨0,by omega,rfl,hE3,HL1⟩
     case round=>
      obtain⟨k,hk,rfl,hE,HL2⟩:=hrel;clear HL1
      rename World=>wr2
      have s2:=HL2.out.2.cell 2;simp only[List.getElem?_toArray,List.getElem?_cons_zero,List.getElem?_cons_succ]at s2;by_cases hkl:k<nc
      ·have e1:decide ((k:Int)<(nc:Int))=true:=decide_eq_true (by omega)
       have hkx:k<cs.length:=by rw[←hNc.out];exact hkl
       have HT0:=HC.out wr2 HL2.out.1;obtain⟨g,off,rfl,hg,c0,c1,c2,c3,c4,c5⟩:=tbl_con HT0 hkx;have hgb:=hid (fun h=>goE_bad (chk:=(fun x:MC=>conE x.c)) (bad:=(fun x y=>badC x.c y.c)) hkx h);have hg0:Hid (k=0→(fun x:MC=>conE x.c) cs[k] = 0→goE (fun x:MC=>conE x.c) (fun x y=>badC x.c y.c) (prevAt cs k) (cs.drop k)=goE (fun x:MC=>conE x.c) (fun x y=>badC x.c y.c) (prevAt cs (k+1)) (cs.drop (k+1))):=hid (fun h hz=>by subst h;exact goE_zero hkx hz);have hg1:Hid (∀m (h:m+1=k),(fun x:MC=>conE x.c) cs[k] = 0→goE (fun x:MC=>conE x.c) (fun x y=>badC x.c y.c) (prevAt cs k) (cs.drop k)=bif (fun x y=>badC x.c y.c) (cs[m]'(by omega)) cs[k] then 13 else goE (fun x:MC=>conE x.c) (fun x y=>badC x.c y.c) (prevAt cs (k+1)) (cs.drop (k+1))):=hid (fun m h hz=>by subst h;exact goE_order hkx hz);have hmem:=hid (List.getElem_mem hkx);have HR1:=hid (HL2.out.alloc (.cells cs[k].row.toArray 103));have HB1:=hid (Box.new wr2 103 cs[k].row.toArray)
       have C1:=hid (CC.out _ HR1.out.1 _ hmem.out);obtain⟨x,hx⟩:∃x,Hid (cs[k] = x):=⟨_,hid rfl⟩;rw[hx.out]at c0 c1 c2 c3 c4 c5 C1 hgb hg0 hg1 hmem HR1 HB1;unfold MC.row at C1 HR1 HB1;obtain⟨z,hz⟩:∃z,Hid (conE x.c=z):=⟨_,hid rfl⟩
       try dsimp only at hgb hg0 hg1
       rw[hz.out]at C1 hgb hg0 hg1;clear hz;obtain⟨⟨xo,xa,xb,xk,xt,xg⟩,xA,xc⟩:=x;dsimp only at *;go_wp2_with fail;refine C1.out.mono ?_;rintro e w5 ⟨rfl,hb5⟩;have HR5:=hid (HR1.out.on hb5);have HB5:=hid (HB1.out.kept (Fr.of_below hb5 []) (by simp));clear HR1 HB1;have HT5:=HC.out w5 HR5.out.1;clear hb5 C1 c0 c1 c2 c3 c4 c5 HT0 s2;by_cases hzz:z=0;rotate_left
       ·have dz:(z != 0)=true:=by simpa using hzz
        have hzn:=hid hzz;have hv:Hid (z=V):=hid (Eq.symm (by rw[hV3.out,hE.out,hgb.out hzn.out]));clear hzz HT5 hg0 hg1 hgb;go_wp2_with fail;go_ret;exact⟨congrArg (fun z=>Ending.returned (.int .i64 z)) hv.out,HR5.out.1⟩
       have dz:(z != 0)=false:=by simpa using hzz
       have hzn:=hid hzz;have s2:=HR5.out.2.cell 2;have b0:=HB5.out.cell 0;have b1:=HB5.out.cell 1;have b2:=HB5.out.cell 2;have b3:=HB5.out.cell 3;have b4:=HB5.out.cell 4;have b5:=HB5.out.cell 5;simp only[List.getElem?_toArray,List.getElem?_cons_zero,List.getElem?_cons_succ]at s2 b0 b1 b2 b3 b4 b5;clear hzz hgb;rcases Nat.eq_zero_or_pos k with hk0 | hk0
       ·have d5:decide (0<k)=false:=decide_eq_false (by omega)
        have hE2:=hid (hE.out.trans (hg0.out hk0 hzn.out));clear hE hg0 hg1 hzn HT5;go_wp2_with fail;go_quiet (fail);go_wp2_with fail;go_roundw
        case rel=>exact⟨k+1,by omega,by go_num,hE2,hid (HR5.out.drewN _)⟩
        case measure=>simp[intOf];omega
       ·have d5:decide (0<k)=true:=decide_eq_true hk0
        obtain⟨m2,hm2⟩:∃m2,m2+1=k:=⟨k-1,by omega⟩;have hjm:(k:Int)-1=(m2:Int):=by omega
        have hwm:IntKind.i64.wrap (m2:Int)=(m2:Int):=IntWalk.i64_in _ (by omega);have hm2m:m2<cs.length:=by omega
        have hm2n:m2<nc:=by omega
        obtain⟨g3,off3,e3,_,p0,p1,p2,p3,p4,p5⟩:=tbl_con HT5 hm2m;injection e3 with e3;injection e3 with e3 e3b;subst e3;subst e3b;have hgm:=hid (hg1.out m2 hm2 hzn.out);have CKm:=hid (fun W hb=>CK.out W hb _ (List.getElem_mem hm2m) _ hmem.out);generalize cs[m2] = y at *;obtain⟨⟨yo,ya,yb,yk,yt,yg⟩,yA,yc⟩:=y;dsimp only at *;clear hg0 hg1 hm2 hm2m HT5;have hcv:Hid (badC ⟨yo,ya,yb,yk,yt,yg⟩ ⟨xo,xa,xb,xk,xt,xg⟩=decide (0≤conC ⟨yo,ya,yb,yk,yt,yg⟩ ⟨xo,xa,xb,xk,xt,xg⟩)):=hid rfl;unfold MC.row at CKm;dsimp only at CKm;generalize conC ⟨yo,ya,yb,yk,yt,yg⟩ ⟨xo,xa,xb,xk,xt,xg⟩=v at *;rw[hcv.out]at hgm;clear hcv;go_wp2_with fail;refine region_tail_w 10 (by kernel_rfl) (by kernel_rfl) fun W hW=>?_
        have HRW0:=HR5.out.drew;rw[←hW]at HRW0;have HRW:=hid HRW0;clear HRW0;have s2w:W.cell? _=_:=(congrArg (fun w9:World=>w9.cell? _) hW).trans s2;have p0w:W.cell? _=_:=(congrArg (fun w9:World=>w9.cell? _) hW).trans p0;have p1w:W.cell? _=_:=(congrArg (fun w9:World=>w9.cell? _) hW).trans p1;have p2w:W.cell? _=_:=(congrArg (fun w9:World=>w9.cell? _) hW).trans p2;have p3w:W.cell? _=_:=(congrArg (fun w9:World=>w9.cell? _) hW).trans p3;have p4w:W.cell? _=_:=(congrArg (fun w9:World=>w9.cell? _) hW).trans p4;have p5w:W.cell? _=_:=(congrArg (fun w9:World=>w9.cell? _) hW).trans p5;have b0w:W.cell? _=_:=(congrArg (fun w9:World=>w9.cell? _) hW).trans b0;have b1w:W.cell? _=_:=(congrArg (fun w9:World=>w9.cell? _) hW).trans b1;have b2w:W.cell? _=_:=(congrArg (fun w9:World=>w9.cell? _) hW).trans b2;have b3w:W.cell? _=_:=(congrArg (fun w9:World=>w9.cell? _) hW).trans b3;have b4w:W.cell? _=_:=(congrArg (fun w9:World=>w9.cell? _) hW).trans b4
        have b5w:W.cell? _=_:=(congrArg (fun w9:World=>w9.cell? _) hW).trans b5;clear hW s2 p0 p1 p2 p3 p4 p5 b0 b1 b2 b3 b4 b5 HR5;simp only[List.take_succ_cons,List.take_zero,List.drop_succ_cons,List.drop_zero]
        iterate 10 still_step
        refine wpStill_nil ?_;clear s2w p0w p1w p2w p3w p4w p5w b0w b1w b2w b3w b4w b5w;by_cases hv0:0≤v
        ·have d7:decide (0≤v)=true:=decide_eq_true hv0
         have hv:Hid ((13:Int)=V):=hid (Eq.symm (by rw[hV3.out,hE.out,hgm.out,d7];rfl));clear hgm hE hv0
         go_wp2_with (refine(CKm.out _ HRW.out.1).mono ?_;rintro e w6 ⟨rfl,hb6⟩)
         go_ret;exact⟨congrArg (fun z=>Ending.returned (.int .i64 z)) hv.out,(HRW.out.on hb6).1⟩
        ·have d7:decide (0≤v)=false:=decide_eq_false hv0
         have hE2:=hid (hE.out.trans (by rw[hgm.out,d7,cond_false]));clear hgm hE hv0
         go_wp2_with (refine(CKm.out _ HRW.out.1).mono ?_;rintro e w6 ⟨rfl,hb6⟩)
         go_roundw
         case rel=>exact⟨k+1,by omega,by go_num,hE2,hid (HRW.out.on hb6)⟩
         case measure=>simp[intOf];omega
      ·obtain rfl:nc=k:=by omega
       have e1:decide ((nc:Int)<(nc:Int))=false:=decide_eq_false (by omega);have hEz:Hid (E3=0):=hid (by rw[hE.out,hNc.out];exact goE_end _ _);have hV4:Hid ((0:Int)=V):=hid (by rw[hV3.out,hEz.out]);clear hE hEz hV3;go_wp2_with fail;go_ret;exact⟨congrArg (fun z=>Ending.returned (.int .i64 z)) hV4.out,HL2.out.1⟩
end sy
end Go.Proofs.YtlkboeajkgbnaaaGreatDoor
