import Derived.Test.YtlkboeajkgbnaaaGreatDoorC12
import Derived.Test.YtlkboeajkgbnaaaGreatDoorC25
set_option linter.all false
set_option maxHeartbeats 4000000
namespace Go.Proofs.YtlkboeajkgbnaaaGreatDoor
open Lib(hid)
set_option maxRecDepth 100000
namespace sy
open RowKit mem
open nm (Tab tab_below)
theorem tag_any(s:ByteArray)(w:World)(hs:s.size≤maxLen):Calls Tryz.prog 87 #[.string s] w fun e w'=>e=.returned (.bool (tagB s))∧w'=w:=by
 unfold maxLen at hs;unfold tagB;by_cases h1:1≤s.size
 ·have d1:decide ((1:Int)≤(s.size:Int))=true:=decide_eq_true (by omega)
  rw[decide_eq_true h1,Bool.true_and];by_cases h2:s.size≤60
  ·have d2:decide ((s.size:Int)≤60)=true:=decide_eq_true (by omega)
   rw[decide_eq_true h2];go_enter Tryz.func87,Tryz.ntmps87;go_wp2_with fail;go_ret;exact⟨rfl,rfl⟩
  ·have d2:decide ((s.size:Int)≤60)=false:=decide_eq_false (by omega)
   rw[decide_eq_false h2];go_enter Tryz.func87,Tryz.ntmps87;go_wp2_with fail;go_ret;exact⟨rfl,rfl⟩
 ·have d1:decide ((1:Int)≤(s.size:Int))=false:=decide_eq_false (by omega)
  rw[decide_eq_false h1,Bool.false_and];go_enter Tryz.func87,Tryz.ntmps87;go_wp2_with fail;go_ret;exact⟨rfl,rfl⟩
theorem size_nil(s:ByteArray):s.toList.isEmpty=(s.size==0):=by
 rw[Lib.toList_data,Bool.eq_iff_iff,List.isEmpty_iff,beq_iff_eq,Lib.size_eq,List.length_eq_zero_iff]
theorem arg_any(s:ByteArray)(p:Bool)(w:World)(hs:s.size≤maxLen)(htab:Tab w):Calls Tryz.prog 115 #[.string s,.bool p] w (BPost (argB p s) w):=by
 have HN:=hid (node_any s w hs htab);unfold BPost argB at *;clear htab;have hz:=size_nil s;rcases h1:(s.size==0)with _ | _ <;> rw[h1]at hz
 ·rw[Bool.false_or]
  rcases p with _ | _
  ·rw[Bool.false_and]
   go_enter Tryz.func115,Tryz.ntmps115;go_wp2_with fail;go_ret;exact⟨rfl,Below.refl _ _⟩
  ·rw[Bool.true_and]
   generalize nodeB s=q at *;go_enter Tryz.func115,Tryz.ntmps115
   go_wp2_with (refine HN.out.mono ?_;rintro e w2 ⟨rfl,hb2⟩)
   go_ret;exact⟨rfl,hb2⟩
 ·rw[Bool.true_or]
  go_enter Tryz.func115,Tryz.ntmps115;go_wp2_with fail;go_ret;exact⟨rfl,Below.refl _ _⟩
def fnI(fb kb rb:Bool):Int:=if fb=false then 11 else if kb=false∨rb=false then 5 else 0
theorem fnE_eq(f:SF):fnE f=fnI (funcB f.name) (kindsB f.kinds 0 6) (retB f.ret):=rfl
theorem function_any(f:SF)(w:World)(hf:FOk f)(htab:Tab w):Calls Tryz.prog 60 #[.agg (fnRow f).toArray] w (IPost (fnE f) w):=by
 rw[fnE_eq];have HF:=hid (func_any f.name (w.alloc (.cells (fnRow f).toArray 72)) hf.n (tab_below htab ((Fr.refl [] w).alloc _).all));have HK:=hid (fun w=>kinds_any f.kinds 0 6 w hf.k);have HR:=hid hf.r;unfold BPost at HF HK;unfold maxLen at HR;obtain⟨name,kinds,ret⟩:=f;unfold fnRow at *;dsimp only at *;clear hf htab;generalize funcB name=fb at *;generalize kindsB kinds 0 6=kb at *;unfold IPost;obtain⟨R,hR⟩:∃R,Hid (fnI fb kb (ret.toList==[105]||(ret.toList==[112]||ret.toList==[118]))=R):=⟨_,hid rfl⟩;change Calls _ _ _ _ fun e w'=>e=.returned (.int .i64 (fnI fb kb (ret.toList==[105]||(ret.toList==[112]||ret.toList==[118]))))∧_
 rw[hR.out];go_enter Tryz.func60,Tryz.ntmps60;go_wp2_with fail;refine HF.out.mono ?_;rintro e w2 ⟨rfl,hb2⟩;have X0:=(Box.new w 72 #[.string name,.string kinds,.string ret]).kept (Fr.of_below hb2 []) (by simp);have hb3:=hid ((((Fr.refl [] w).alloc (.cells #[.string name,.string kinds,.string ret] 72)).all).trans (hb2.mono (by simp)));clear hb2 HF;rcases fb with _ | _
 ·go_wp2_with fail
  go_ret;exact⟨congrArg (fun z=>Ending.returned (.int .i64 z)) hR.out,hb3.out⟩
 have x1:=X0.cell 1;have x2:=X0.cell 2;simp only[List.getElem?_toArray,List.getElem?_cons_zero,List.getElem?_cons_succ]at x1 x2;clear X0;go_wp2_with fail;refine(HK.out _).mono ?_;rintro e w3 ⟨rfl,hb4⟩;have hb5:=hid (hb3.out.trans (hb4.mono hb3.out.size));have y2:=(hb4.cell (p:=⟨w.heap.size,2,none⟩) (block_lt_of_cell x2)).trans x2;clear hb3 hb4 x1 x2;rcases kb with _ | _
 ·go_wp2_with fail
  go_ret;exact⟨congrArg (fun z=>Ending.returned (.int .i64 z)) (by have h:=hR.out;first | exact h | (rw[e1]at h;exact h) | (rw[e1,e2]at h;exact h) | (rw[e1,e2,e3]at h;exact h)),hb5.out⟩
 rcases e1:(ret.toList==[105])with _ | _
 ·rcases e2:(ret.toList==[112])with _ | _
  ·rcases e3:(ret.toList==[118])with _ | _
   ·go_wp2_with fail
    go_ret;exact⟨congrArg (fun z=>Ending.returned (.int .i64 z)) (by have h:=hR.out;first | exact h | (rw[e1]at h;exact h) | (rw[e1,e2]at h;exact h) | (rw[e1,e2,e3]at h;exact h)),hb5.out⟩
   ·go_wp2_with fail
    go_ret;exact⟨congrArg (fun z=>Ending.returned (.int .i64 z)) (by have h:=hR.out;first | exact h | (rw[e1]at h;exact h) | (rw[e1,e2]at h;exact h) | (rw[e1,e2,e3]at h;exact h)),hb5.out⟩
  ·go_wp2_with fail
   go_ret;exact⟨congrArg (fun z=>Ending.returned (.int .i64 z)) (by have h:=hR.out;first | exact h | (rw[e1]at h;exact h) | (rw[e1,e2]at h;exact h) | (rw[e1,e2,e3]at h;exact h)),hb5.out⟩
 ·go_wp2_with fail
  go_ret;exact⟨congrArg (fun z=>Ending.returned (.int .i64 z)) (by have h:=hR.out;first | exact h | (rw[e1]at h;exact h) | (rw[e1,e2]at h;exact h) | (rw[e1,e2,e3]at h;exact h)),hb5.out⟩
theorem rfunction_any(f:SF)(w:World)(hf:FOk f):Calls Tryz.prog 80 #[.agg (fnRow f).toArray] w (IPost (fnE f) w):=by
 rw[fnE_eq];have HK:=hid (fun w=>rkinds_any f.kinds 0 6 w hf.k (by decide) (by decide));have HR:=hid hf.r;unfold BPost at HK;unfold maxLen at HR;obtain⟨name,kinds,ret⟩:=f;unfold fnRow at *;have hn:name.size≤maxLen:=hf.n;dsimp only at *;clear hf;generalize kindsB kinds 0 6=kb at *;unfold IPost funcB retB;rcases hr:nm.readB name with _ | _
 ·have HF:=hid (nm.rread_no name (w.alloc (.cells #[.string name,.string kinds,.string ret] 72)) hn hr)
  unfold nm.ReadNo at HF;clear hr;go_enter Tryz.func80,Tryz.ntmps80;go_wp2_with fail;refine HF.out.mono ?_;rintro e w2 ⟨rfl,hb2⟩;have hb3:=hid ((((Fr.refl [] w).alloc (.cells #[.string name,.string kinds,.string ret] 72)).all).trans (hb2.mono (by simp)));clear hb2 HF;go_wp2_with fail;go_ret;exact⟨rfl,hb3.out.trans (((Fr.refl [] w2).alloc _).all.mono hb3.out.size)⟩
 ·have HF:=hid (nm.rread_yes name (w.alloc (.cells #[.string name,.string kinds,.string ret] 72)) hn hr)
  unfold nm.ReadYes at HF;clear hr;rw[Bool.true_and];obtain⟨R,hR⟩:∃R,Hid (fnI (decide ((nm.cand name).kind=4)) kb (ret.toList==[105]||(ret.toList==[112]||ret.toList==[118]))=R):=⟨_,hid rfl⟩;rw[hR.out];generalize nm.cand name=d at *;obtain⟨dk,df,dc,dn,dm,dl⟩:=d;unfold nm.Nd.val nm.Nd.cells at HF;dsimp only at HF hR ⊢;go_enter Tryz.func80,Tryz.ntmps80;go_wp2_with fail;refine HF.out.mono ?_;rintro e w2 ⟨rfl,hb2⟩;have X0:=((Box.new w 72 #[.string name,.string kinds,.string ret]).kept (Fr.of_below hb2 []) (by simp)).kept ((Fr.refl [] w2).alloc (.cells #[.int .i64 dk,.string df,.int .i64 dc,.string dn,.int .i64 dm,.int .i64 dl] 121)) (by simp);have hb3:=hid ((((((Fr.refl [] w).alloc (.cells #[.string name,.string kinds,.string ret] 72)).all).trans (hb2.mono (by simp)))).trans (((Fr.refl [] w2).alloc (.cells #[.int .i64 dk,.string df,.int .i64 dc,.string dn,.int .i64 dm,.int .i64 dl] 121)).all.mono (by have:=hb2.size;simp at this;omega)))
  clear hb2 HF;by_cases h4:dk=4
  ·have d4:(dk != 4)=false:=by simpa using h4
   rw[decide_eq_true h4]at hR;clear h4;have x1:=X0.cell 1;have x2:=X0.cell 2;simp only[List.getElem?_toArray,List.getElem?_cons_zero,List.getElem?_cons_succ]at x1 x2;clear X0;go_wp2_with fail;refine(HK.out _).mono ?_;rintro e w3 ⟨rfl,hb4⟩;have hb5:=hid (hb3.out.trans (hb4.mono hb3.out.size));have y2:=(hb4.cell (p:=⟨w.heap.size,2,none⟩) (block_lt_of_cell x2)).trans x2;clear hb3 hb4 x1 x2;rcases kb with _ | _
   ·go_wp2_with fail
    go_ret;exact⟨congrArg (fun z=>Ending.returned (.int .i64 z)) (by have h:=hR.out;first | exact h | (rw[e1]at h;exact h) | (rw[e1,e2]at h;exact h) | (rw[e1,e2,e3]at h;exact h)),hb5.out⟩
   rcases e1:(ret.toList==[105])with _ | _
   ·rcases e2:(ret.toList==[112])with _ | _
    ·rcases e3:(ret.toList==[118])with _ | _
     ·go_wp2_with fail
      go_ret;exact⟨congrArg (fun z=>Ending.returned (.int .i64 z)) (by have h:=hR.out;first | exact h | (rw[e1]at h;exact h) | (rw[e1,e2]at h;exact h) | (rw[e1,e2,e3]at h;exact h)),hb5.out⟩
     ·go_wp2_with fail
      go_ret;exact⟨congrArg (fun z=>Ending.returned (.int .i64 z)) (by have h:=hR.out;first | exact h | (rw[e1]at h;exact h) | (rw[e1,e2]at h;exact h) | (rw[e1,e2,e3]at h;exact h)),hb5.out⟩
    ·go_wp2_with fail
     go_ret;exact⟨congrArg (fun z=>Ending.returned (.int .i64 z)) (by have h:=hR.out;first | exact h | (rw[e1]at h;exact h) | (rw[e1,e2]at h;exact h) | (rw[e1,e2,e3]at h;exact h)),hb5.out⟩
   ·go_wp2_with fail
    go_ret;exact⟨congrArg (fun z=>Ending.returned (.int .i64 z)) (by have h:=hR.out;first | exact h | (rw[e1]at h;exact h) | (rw[e1,e2]at h;exact h) | (rw[e1,e2,e3]at h;exact h)),hb5.out⟩
  ·have d4:(dk != 4)=true:=by simpa using h4
   rw[decide_eq_false h4]at hR;clear h4;go_wp2_with fail;go_ret;exact⟨congrArg (fun z=>Ending.returned (.int .i64 z)) hR.out,hb3.out⟩
theorem cut_no:∀{l:List UInt8},cutAt l=none→Lib.indexByte l 62=-1
 | [],_=>rfl
 | b :: r,h=>by
  unfold cutAt at h;by_cases hb:b=62
  ·rw[if_pos hb]at h
   cases h
  ·rw[if_neg hb,Option.map_eq_none_iff]at h
   unfold Lib.indexByte;rw[cut_no h,if_neg (by simpa using hb)];rfl
theorem cut_yes:∀{l a r:List UInt8},cutAt l=some (a,r)→Lib.indexByte l 62=(a.length:Int)∧l=a++62 :: r
 | [],_,_,h=>by cases h
 | b :: t,a,r,h=>by
  unfold cutAt at h;by_cases hb:b=62
  ·rw[if_pos hb]at h
   cases h;subst hb;exact⟨rfl,rfl⟩
  ·rw[if_neg hb]at h
   rcases hc:cutAt t with _ | ⟨a',r'⟩
   ·rw[hc]at h
    cases h
   ·rw[hc]at h
    cases h;obtain⟨h1,h2⟩:=cut_yes hc;unfold Lib.indexByte;rw[h1,if_neg (by simpa using hb),if_neg (by simp)];exact⟨by simp,by rw[h2];rfl⟩
theorem ba_ext{a b:ByteArray}(h:a.data.toList=b.data.toList):a=b:=by
 obtain⟨⟨l⟩⟩:=a;obtain⟨⟨m⟩⟩:=b;simp only at h;rw[h]
def TPost(P R:ByteArray)(b:Bool)(w:World)(e:Ending)(w':World):Prop:=e=.returned (.tuple #[.string P,.string R,.bool b])∧Below w.heap.size w w'
theorem slcut_no(s:ByteArray)(w:World)(h:cutAt s.toList=none):Calls Tryz.prog 142 #[.string s,.string ⟨#[62]⟩] w (TPost s ⟨#[]⟩ false w):=by
 rw[Lib.toList_data]at h;have h1:=cut_no h;have hI:=fun w=>Tryz.stringslite_Index_one s 62 w
 rw[h1]at hI;have HI:=hid hI;clear hI h1 h;unfold TPost;go_enter Tryz.func142,Tryz.ntmps142
 go_wp2_with (refine(HI.out _).mono ?_;rintro e w2 ⟨rfl,rfl⟩)
 go_ret3;exact⟨rfl,Below.refl _ _⟩
theorem slcut_yes(s P R:ByteArray)(w:World)(hs:s.size≤maxLen)(h:cutAt s.toList=some (P.data.toList,R.data.toList)):Calls Tryz.prog 142 #[.string s,.string ⟨#[62]⟩] w (TPost P R true w):=by
 rw[Lib.toList_data]at h;obtain⟨h1,h2⟩:=cut_yes h;rw[←Lib.size_eq]at h1;have hI:=fun w=>Tryz.stringslite_Index_one s 62 w
 rw[h1]at hI;have HI:=hid hI;have hlen:P.size+1+R.size=s.size:=by
  have:=congrArg List.length h2;rw[List.length_append,List.length_cons,←Lib.size_eq,←Lib.size_eq,←Lib.size_eq]at this;omega
 unfold maxLen at hs;have hsl:∀W,(Instr.slice 9 (.string s) none (some (.int .i64 (P.size:Int))) none).run Tryz.prog W=.ok (.string P) W:=fun W=>by
  rw[run_slice_string_h (P:=Tryz.prog) W 9 s Tryz.underlying9 .i64 (P.size:Int) (by omega) (by omega)];rw[show s.extract 0 (P.size:Int).toNat=P from ba_ext (by rw[Lib.extract_data,h2,Int.toNat_natCast,List.drop_zero,Nat.sub_zero,Lib.size_eq,List.take_left])]
 have hsr:∀W,(Instr.slice 9 (.string s) (some (.int .i64 ((P.size:Int)+1))) none none).run Tryz.prog W=.ok (.string R) W:=fun W=>by
  rw[run_slice_string_l (P:=Tryz.prog) W 9 s Tryz.underlying9 .i64 ((P.size:Int)+1) (by omega) (by omega)];rw[show s.extract ((P.size:Int)+1).toNat s.size=R from ba_ext (by rw[Lib.extract_to_end,h2,show((P.size:Int)+1).toNat=P.size+1 by omega,Lib.size_eq,List.drop_append,List.drop_of_length_le (by omega),Nat.add_sub_cancel_left];rfl)]
 have hw:IntKind.i64.wrap ((P.size:Int)+1)=(P.size:Int)+1:=IntWalk.i64_in _ (by omega);have hp0:decide (0≤(P.size:Int))=true:=decide_eq_true (by omega);clear hI h1 h h2 hlen;unfold TPost;go_enter Tryz.func142,Tryz.ntmps142
 go_wp2_with (refine(HI.out _).mono ?_;rintro e w2 ⟨rfl,h2⟩;obtain rfl:w=w2:=h2.symm)
 go_quiet (fail);go_wp2_with fail;go_ret3;exact⟨rfl,((Fr.refl [] w).drewN _).all⟩
theorem cut_no_any(s:ByteArray)(w:World)(h:cutAt s.toList=none):Calls Tryz.prog 114 #[.string s,.string ⟨#[62]⟩] w (TPost s ⟨#[]⟩ false w):=by
 have HI:=hid (slcut_no s w h);unfold TPost at HI ⊢;clear h;go_enter Tryz.func114,Tryz.ntmps114
 go_wp2_with (refine HI.out.mono ?_;rintro e w2 ⟨rfl,hb2⟩)
 go_ret3;exact⟨rfl,hb2⟩
theorem cut_yes_any(s P R:ByteArray)(w:World)(hs:s.size≤maxLen)(h:cutAt s.toList=some (P.data.toList,R.data.toList)):Calls Tryz.prog 114 #[.string s,.string ⟨#[62]⟩] w (TPost P R true w):=by
 have HI:=hid (slcut_yes s P R w hs h);unfold TPost at HI ⊢;clear h hs;go_enter Tryz.func114,Tryz.ntmps114
 go_wp2_with (refine HI.out.mono ?_;rintro e w2 ⟨rfl,hb2⟩)
 go_ret3;exact⟨rfl,hb2⟩
theorem kinds1(R:ByteArray):kindsB R 0 1=(R.data.toList==[]||(R.data.toList==[105]||R.data.toList==[112])):=by
 unfold kindsB;rw[ipB_eq,decide_eq_true (Nat.zero_le _),Bool.true_and,Lib.size_eq];generalize R.data.toList=l;rcases l with _ | ⟨a,_ | ⟨b,r⟩⟩
 ·rfl
 ·simp only[List.all_cons,List.all_nil,Bool.and_true,List.length_cons,List.length_nil,ipU]
  rw[Bool.eq_iff_iff];simp
 ·rw[Bool.eq_iff_iff]
  simp
theorem argsB_drop{ks:List UInt8}{xs:List ByteArray}{k:Nat}(hk:k<ks.length)(ha:k<xs.length):argsB (ks.drop k) (xs.drop k)=(argB (ks[k]==112) xs[k]&&argsB (ks.drop (k+1)) (xs.drop (k+1))):=by
 rw[List.drop_eq_getElem_cons hk,List.drop_eq_getElem_cons ha];rfl
theorem argsB_end(ks:List UInt8)(xs:List ByteArray):argsB (ks.drop xs.length) (xs.drop xs.length)=true:=by
 rw[List.drop_length];unfold argsB;rfl
theorem callB_no{tag:ByteArray}{args:List ByteArray}(h:cutAt tag.toList=none):callB tag args=false:=by
 unfold callB;rw[h]
theorem callB_yes{tag P R:ByteArray}{args:List ByteArray}(h:cutAt tag.toList=some (P.data.toList,R.data.toList)) :
 callB tag args=(kindsB P 0 6&&(kindsB R 0 1&&(decide (args.length=P.size+1)&&argsB ((if R.data.toList=[112] then 112 else 0) :: P.data.toList) args))):=by
 unfold callB;rw[h,kinds1,Lib.size_eq]
theorem argsB_first{R:ByteArray}{ks:List UInt8}{args:List ByteArray}(h:0<args.length):argsB ((if R.data.toList=[112] then 112 else 0) :: ks) args=(argB (R.toList==[112]) args[0]&&argsB ks (args.drop 1)):=by
 obtain⟨a,r,rfl⟩:=List.exists_cons_of_length_pos h;rw[Lib.toList_data];rw[argsB];simp only[List.getElem_cons_zero,List.drop_succ_cons,List.drop_zero];congr 2;by_cases h1:R.data.toList=[112]
 ·rw[if_pos h1,h1]
  rfl
 ·rw[if_neg h1]
  simp[h1]
theorem num112(b:UInt8):((b.toNat:Int)==112)=(b==112):=by
 rw[Bool.eq_iff_iff,beq_iff_eq,beq_iff_eq];constructor
 ·intro h
  exact UInt8.toNat_inj.1 (by simp;omega)
 ·rintro rfl
  rfl
theorem slice_tail(g o n ac K:Nat)(hK:K+1=n)(hn:n≤ac):∃A1,(∀W,(Instr.slice 31 (.slice (some ⟨g,o,none⟩) n ac) (some (.int .i64 1)) none none).run Tryz.prog W=.ok (.slice A1 K (ac-1)) W)∧∀W (xs:List Value),xs.length=n→Rd W (some ⟨g,o,none⟩) xs→Rd W A1 (xs.drop 1):=by
 have hs:∀W,(sizeOf 9).run Tryz.prog W=.ok 1 W:=fun W=>by kernel_rfl
 have he:Tryz.prog.elem 31=9:=by kernel_rfl
 refine⟨if ac=1 then some ⟨g,o,none⟩ else some ⟨g,o+1,none⟩,fun W=>?_,fun W xs hl h hz=>?_⟩
 ·rw[run_slice_l W 31 _ _ _ Tryz.underlying31 .i64 1 (by omega) (by omega),he,hs,Result.andThen_ok]
  unfold sliced;by_cases h0:ac=1
  ·rw[if_pos h0,if_pos (by show ac=(1:Int).toNat;omega),show(1:Int).toNat=1 from rfl,show n-1=K by omega]
  ·rw[if_neg h0,if_neg (by show ¬ac=(1:Int).toNat;omega),show(1:Int).toNat=1 from rfl,show n-1=K by omega]
   simp[Addr.add]
 ·rw[List.length_drop]at hz
  obtain⟨g2,o2,e,hlt,hc⟩:=h (by omega);cases e;rw[if_neg (by omega)];refine⟨g,o+1,rfl,hlt,fun j hj=>?_⟩;rw[List.length_drop]at hj;rw[Nat.add_assoc,Nat.add_comm 1 j,hc (j+1) (by omega),List.getElem_drop];simp[Nat.add_comm]
theorem call_any(x:MC)(w:World)(hx:COk w x)(htab:Tab w):Calls Tryz.prog 91 #[.agg x.row.toArray] w (BPost (callB x.c.tag x.c.args) w):=by
 rcases hc:cutAt x.c.tag.toList with _ | ⟨l,r⟩
 ·rw[callB_no hc]
  have HC:=hid (fun w=>cut_no_any x.c.tag w hc);unfold TPost at HC;clear hx htab hc;obtain⟨⟨op,a,b,k,tag,args⟩,aA,ac⟩:=x;unfold MC.row;unfold BPost;dsimp only at *;go_enter Tryz.func91,Tryz.ntmps91
  go_wp2_with (refine(HC.out _).mono ?_;rintro e w2 ⟨rfl,hb2⟩)
  go_ret;exact⟨rfl,((Fr.refl [] w).alloc _).all.trans (hb2.mono (by simp))⟩
 ·obtain⟨P,rfl⟩:∃P:ByteArray,l=P.data.toList:=⟨⟨l.toArray⟩,rfl⟩
  obtain⟨R,rfl⟩:∃R:ByteArray,r=R.data.toList:=⟨⟨r.toArray⟩,rfl⟩;rw[callB_yes hc];have hsz:P.size+1+R.size=x.c.tag.size:=by
   have h2:=(cut_yes hc).2;rw[Lib.toList_data]at h2;have:=congrArg List.length h2;rw[List.length_append,List.length_cons,←Lib.size_eq,←Lib.size_eq,←Lib.size_eq]at this;omega
  have hxt:=hx.t;have HC:=hid (fun w=>cut_yes_any x.c.tag P R w hx.t hc);have HK1:=hid (fun w=>kinds_any P 0 6 w (by omega));have HK2:=hid (fun w=>kinds_any R 0 1 w (by omega));have HA:Hid (∀w' s p,Below w.heap.size w w'→s∈x.c.args→Calls Tryz.prog 115 #[.string s,.bool p] w' (BPost (argB p s) w')):=hid (fun w' s p hb hs=>arg_any s p w' (hx.gs s hs) (tab_below htab hb));have HR:=hid (fun w' (hb:Below w.heap.size w w')=>hx.g.below hb);have hgc:=hx.gc;have hgl:=hx.gl;unfold TPost at HC;unfold BPost at HK1 HK2 HA;clear hx htab hc;obtain⟨⟨op,a,b,k,tag,args⟩,aA,ac⟩:=x;unfold MC.row;unfold BPost;dsimp only at *;unfold maxLen at hgl hxt;obtain⟨n,hN⟩:∃n,Hid (n=args.length):=⟨_,hid rfl⟩;rw[←hN.out]at hgc hgl ⊢;obtain⟨V,hV⟩:∃V,Hid (V=(kindsB P 0 6&&(kindsB R 0 1&&(decide (n=P.size+1)&&argsB ((if R.data.toList=[112] then 112 else 0) :: P.data.toList) args)))):=⟨_,hid rfl⟩;rw[←hV.out];have hR0:Hid (∀h:0<args.length,argsB ((if R.data.toList=[112] then 112 else 0) :: P.data.toList) args=(argB (R.toList==[112]) args[0]&&argsB P.data.toList (args.drop 1))):=hid (fun h=>argsB_first h)
  generalize argsB ((if R.data.toList=[112] then 112 else 0) :: P.data.toList) args=R0 at *;generalize kindsB P 0 6=b1 at *;generalize kindsB R 0 1=b2 at *;go_enter Tryz.func91,Tryz.ntmps91;go_wp2_with fail;refine(HC.out _).mono ?_;rintro e w2 ⟨rfl,hb2⟩;have X2:=(Box.new w 103 #[.int .i64 op,.string a,.string b,.int .i64 k,.string tag,.slice aA n ac]).kept (Fr.of_below hb2 []) (by simp);have B2:=hid (((Fr.refl [] w).alloc (.cells #[.int .i64 op,.string a,.string b,.int .i64 k,.string tag,.slice aA n ac] 103)).all.trans (hb2.mono (by simp)));clear hb2 HC;go_wp2_with fail;refine(HK1.out _).mono ?_;rintro e w3 ⟨rfl,hb3⟩;have X3:=X2.kept (Fr.of_below hb3 []) (by simp);have B3:=hid (B2.out.trans (hb3.mono B2.out.size));clear hb3 HK1 X2 B2;rcases b1 with _ | _
  ·clear X3
   go_wp2_with fail;go_ret;exact⟨congrArg (fun b=>Ending.returned (.bool b)) hV.out.symm,B3.out⟩
  go_wp2_with fail;refine(HK2.out _).mono ?_;rintro e w4 ⟨rfl,hb4⟩;have X4:=X3.kept (Fr.of_below hb4 []) (by simp);have B4:=hid (B3.out.trans (hb4.mono B3.out.size));clear hb4 HK2 X3 B3;rcases b2 with _ | _
  ·clear X4
   go_wp2_with fail;go_ret;exact⟨congrArg (fun b=>Ending.returned (.bool b)) hV.out.symm,B4.out⟩
  have x5:=X4.cell 5;simp only[List.getElem?_toArray,List.getElem?_cons_zero,List.getElem?_cons_succ]at x5;by_cases hn:n=P.size+1
  ·have dn:((n:Int) != (P.size:Int)+1)=false:=by simp;omega
   have hV1:Hid (V=R0):=hid (by rw[hV.out,decide_eq_true hn];rfl);have h0:0<args.length:=by have:=hN.out;omega
   have hR1:=hid (hR0.out h0);have hK:P.size+1=n:=by omega
   have HR4:=HR.out _ B4.out;obtain⟨g,o,rfl,hg,hcell⟩:=HR4 (by rw[List.length_map];exact h0);have HRd:=hid HR4;have c0:=hcell 0 (by rw[List.length_map];exact h0);rw[List.getElem_map,Nat.add_zero]at c0;obtain⟨A1,sl,hsl⟩:=slice_tail g o n ac P.size hK hgc;have HA4:=hid (fun p=>HA.out w4 args[0] p B4.out (List.getElem_mem h0));have hrest:Hid (∀s∈args.drop 1,s∈args):=hid (fun s hs=>List.mem_of_mem_drop hs);have hrl:Hid ((args.drop 1).length=P.size):=hid (by rw[List.length_drop,←hN.out];omega);have HS:=hid (fun W (hb:Below w.heap.size w W)=>hsl W (args.map Value.string) (by rw[List.length_map];exact hN.out.symm) (HR.out W hb));rw[←List.map_drop]at HS;generalize args[0] = a0 at *;generalize args.drop 1=rest at *;clear hn hR0 h0 HR4 hcell hsl HR HRd hg;have h1n:(1:Int)≤(n:Int):=by omega
   have h1n2:decide ((1:Int)≤(n:Int))=true:=decide_eq_true h1n;go_wp2_with fail;refine(HA4.out _).mono ?_;rintro e w5 ⟨rfl,hb5⟩;have y5:=(hb5.cell (p:=⟨w.heap.size,5,none⟩) (block_lt_of_cell x5)).trans x5;have B5:=hid (B4.out.trans (hb5.mono B4.out.size));clear hb5 HA4 x5 c0 X4 B4;generalize argB (R.toList==[112]) a0=b3 at *;rcases b3 with _ | _
   ·go_wp2_with fail
    go_ret;exact⟨congrArg (fun b=>Ending.returned (.bool b)) (by rw[hV1.out,hR1.out];rfl),B5.out⟩
   rw[Bool.true_and]at hR1;have hR2:Hid (R0=argsB (P.data.toList.drop 0) (rest.drop 0)):=hid hR1.out;clear hR1;go_wp2_with fail;clear y5 sl;go_loopw [48] (fun i wr=>∃j:Nat,j≤P.size∧i=.int .i64 j∧Hid (R0=argsB (P.data.toList.drop j) (rest.drop j))∧Hid (Below w.heap.size w wr)) (fun i _=>P.size-(intOf i).toNat)
   case atStart=>exact⟨0,by omega,rfl,hR2,B5⟩
   case round=>
    obtain⟨j,hj,rfl,hf,B6⟩:=hrel;clear hR2 B5
    rename World=>wr
    by_cases hjl:j<P.size
    ·have e1:decide ((j:Int)<(P.size:Int))=true:=decide_eq_true (by omega)
     have hjr:j<rest.length:=by rw[hrl.out];exact hjl
     obtain⟨g2,o2,rfl,hg2,hcell⟩:=(HS.out wr B6.out) (by rw[List.length_map];omega);have c1:=hcell j (by rw[List.length_map];exact hjr);rw[List.getElem_map]at c1;have hf2:=hid (hf.out.trans (argsB_drop (by rw[←Lib.size_eq];exact hjl) hjr));have hm:=hid (num112 P[j]);have HA6:=hid (fun p=>HA.out wr rest[j] p B6.out (hrest.out _ (List.getElem_mem hjr)));have hpj:Hid (P.data.toList[j]'(by rw[←Lib.size_eq];exact hjl)=P[j]):=hid (by simp;rfl);rw[hpj.out]at hf2;generalize rest[j] = aj at *;clear hcell hg2 hf hjr;go_wp2_with fail;refine(HA6.out _).mono ?_;rintro e w7 ⟨rfl,hb7⟩;have B7:=hid (B6.out.trans (hb7.mono B6.out.size));clear hb7 HA6 c1 B6;rw[hm.out];generalize argB (P[j]==112) aj=b4 at *;rcases b4 with _ | _
     ·go_wp2_with fail
      go_ret;exact⟨congrArg (fun b=>Ending.returned (.bool b)) (by rw[hV1.out,hf2.out];rfl),B7.out⟩
     rw[Bool.true_and]at hf2;go_wp2_with fail;go_roundw
     case rel=>exact⟨j+1,by omega,by go_num,hf2,B7⟩
     case measure=>simp[intOf];omega
    ·obtain rfl:j=P.size:=by omega
     have e1:decide ((P.size:Int)<(P.size:Int))=false:=decide_eq_false (by omega);have hf3:Hid (R0=true):=hid (hf.out.trans (by rw[←hrl.out];exact argsB_end _ _));clear hf;go_wp2_with fail;go_ret;exact⟨congrArg (fun b=>Ending.returned (.bool b)) (by rw[hV1.out,hf3.out]),B6.out⟩
  ·have dn:((n:Int) != (P.size:Int)+1)=true:=by simp;omega
   have hV1:Hid (V=false):=hid (by rw[hV.out,decide_eq_false hn];rfl);clear hR0 hn;go_wp2_with fail;go_ret;exact⟨congrArg (fun b=>Ending.returned (.bool b)) hV1.out.symm,B4.out⟩
end sy
namespace sy
open RowKit mem
theorem cut_none_ne:∀{l:List UInt8},cutAt l=none→∀b∈l,b≠62
 | [],_,_,h=>by cases h
 | c :: r,h,b,hb=>by
  unfold cutAt at h;by_cases hc:c=62
  ·rw[if_pos hc]at h
   cases h
  ·rw[if_neg hc,Option.map_eq_none_iff]at h
   rcases List.mem_cons.1 hb with rfl | hb
   ·exact hc
   ·exact cut_none_ne h b hb
theorem cut_first:∀{l a r:List UInt8},cutAt l=some (a,r)→∀b∈a,b≠62
 | [],_,_,h=>by cases h
 | c :: t,a,r,h=>by
  unfold cutAt at h;by_cases hc:c=62
  ·rw[if_pos hc]at h
   cases h;intro b hb;cases hb
  ·rw[if_neg hc]at h
   rcases hq:cutAt t with _ | ⟨a',r'⟩
   ·rw[hq]at h
    cases h
   ·rw[hq]at h
    cases h;intro b hb;rcases List.mem_cons.1 hb with rfl | hb
    ·exact hc
    ·exact cut_first hq b hb
theorem num62(b:UInt8):((b.toNat:Int)==62)=(b==62):=by
 rw[Bool.eq_iff_iff,beq_iff_eq,beq_iff_eq];constructor
 ·intro h
  exact UInt8.toNat_inj.1 (by simp;omega)
 ·rintro rfl
  rfl
theorem rsig_no(s:ByteArray)(w:World)(hs:s.size≤maxLen)(h:cutAt s.toList=none):Calls Tryz.prog 131 #[.string s] w (TPost ⟨#[]⟩ ⟨#[]⟩ false w):=by
 rw[Lib.toList_data]at h;have hne:=hid (cut_none_ne h);clear h;unfold maxLen at hs;unfold TPost;go_enter Tryz.func131,Tryz.ntmps131;go_wp2_with fail;go_loopw [5] (fun i wr=>∃k:Nat,k≤s.size∧i=.int .i64 k∧w=wr) (fun i _=>s.size-(intOf i).toNat)
 case atStart=>exact⟨0,by omega,rfl,rfl⟩
 case round=>
  obtain⟨k,hk,rfl,rfl⟩:=hrel;by_cases hkl:k<s.size
  ·have e1:decide ((k:Int)<(s.size:Int))=true:=decide_eq_true (by omega)
   have d1:((s[k].toNat:Int)==62)=false:=by
    rw[num62];have:=hne.out s[k] (by simp;exact Array.getElem_mem _)
    simpa using this
   go_wp2_with fail;go_roundw
   case rel=>exact⟨k+1,by omega,by go_num,trivial⟩
   case measure=>simp[intOf];omega
  ·obtain rfl:k=s.size:=by omega
   have e1:decide ((s.size:Int)<(s.size:Int))=false:=decide_eq_false (by omega);go_wp2_with fail;go_ret3;exact⟨rfl,Below.refl _ _⟩
theorem rsig_yes(s P R:ByteArray)(w:World)(hs:s.size≤maxLen)(h:cutAt s.toList=some (P.data.toList,R.data.toList)):Calls Tryz.prog 131 #[.string s] w (TPost P R (kindsB P 0 6&&(R.toList.isEmpty||(R.toList==[105]||R.toList==[112]))) w):=by
 rw[Lib.toList_data]at h;have h2:=(cut_yes h).2;have hne:=cut_first h;have hlen:P.size+1+R.size=s.size:=by
  have:=congrArg List.length h2;rw[List.length_append,List.length_cons,←Lib.size_eq,←Lib.size_eq,←Lib.size_eq]at this;omega
 have hbefore:Hid (∀k (hk:k<s.size),k<P.size→((s[k].toNat:Int)==62)=false):=hid (fun k hk hkP=>by
  rw[num62];have h3:s[k] = P[k]:=by
   have e1:s.data.toList[k]? = some s[k]:=by rw[Array.getElem?_toList];exact Array.getElem?_eq_getElem hk
   have e2:P.data.toList[k]? = some P[k]:=by rw[Array.getElem?_toList];exact Array.getElem?_eq_getElem hkP
   rw[h2,List.getElem?_append_left (by rw[←Lib.size_eq];exact hkP),e2]at e1;exact(Option.some.inj e1).symm
  have:=hne P[k] (by simp;exact Array.getElem_mem _);rw[h3]
  simpa using this)
 have hat:Hid (∀(hk:P.size<s.size),((s[P.size].toNat:Int)==62)=true):=hid (fun hk=>by
  rw[num62];have e1:s.data.toList[P.size]? = some s[P.size]:=by rw[Array.getElem?_toList];exact Array.getElem?_eq_getElem hk
  rw[h2,List.getElem?_append_right (by rw[←Lib.size_eq];exact Nat.le_refl _),←Lib.size_eq,Nat.sub_self]at e1;simp at e1;rw[←e1]
  rfl)
 unfold maxLen at hs;have hsl:∀W,(Instr.slice 9 (.string s) none (some (.int .i64 (P.size:Int))) none).run Tryz.prog W=.ok (.string P) W:=fun W=>by
  rw[run_slice_string_h (P:=Tryz.prog) W 9 s Tryz.underlying9 .i64 (P.size:Int) (by omega) (by omega)];rw[show s.extract 0 (P.size:Int).toNat=P from ba_ext (by rw[Lib.extract_data,h2,Int.toNat_natCast,List.drop_zero,Nat.sub_zero,Lib.size_eq,List.take_left])]
 have hsr:∀W,(Instr.slice 9 (.string s) (some (.int .i64 ((P.size:Int)+1))) none none).run Tryz.prog W=.ok (.string R) W:=fun W=>by
  rw[run_slice_string_l (P:=Tryz.prog) W 9 s Tryz.underlying9 .i64 ((P.size:Int)+1) (by omega) (by omega)];rw[show s.extract ((P.size:Int)+1).toNat s.size=R from ba_ext (by rw[Lib.extract_to_end,h2,show((P.size:Int)+1).toNat=P.size+1 by omega,Lib.size_eq,List.drop_append,List.drop_of_length_le (by omega),Nat.add_sub_cancel_left];rfl)]
 have HSL:=hid hsl;have HSR:=hid hsr;have HK:=hid (fun w=>rkinds_same P 0 6 w (by unfold maxLen;omega) (by decide) (by decide));clear h h2 hne hsl hsr;unfold TPost;generalize kindsB P 0 6=kb at *;obtain⟨Z,hZ⟩:∃Z,Hid ((kb&&(R.toList.isEmpty||(R.toList==[105]||R.toList==[112])))=Z):=⟨_,hid rfl⟩;rw[hZ.out];go_enter Tryz.func131,Tryz.ntmps131;go_wp2_with fail;go_loopw [5] (fun i wr=>∃k:Nat,k≤P.size∧i=.int .i64 k∧w=wr) (fun i _=>s.size-(intOf i).toNat)
 case atStart=>exact⟨0,by omega,rfl,rfl⟩
 case round=>
  obtain⟨k,hk,rfl,rfl⟩:=hrel;have hks:k<s.size:=by omega
  have e1:decide ((k:Int)<(s.size:Int))=true:=decide_eq_true (by omega);by_cases hkl:k<P.size
  ·have d1:=hbefore.out k hks hkl
   go_wp2_with fail;go_roundw
   case rel=>exact⟨k+1,by omega,by go_num,trivial⟩
   case measure=>simp[intOf];omega
  ·obtain rfl:k=P.size:=by omega
   have d1:=hat.out hks;have sl:=HSL.out;have sr:=HSR.out;clear hlen;rcases kb with _ | _
   ·go_wp2_with fail
    go_quiet ((go_at_call 101;exact Calls.quiet_of_same (HK.out _)));go_wp2_with fail;go_ret3;exact⟨congrArg (fun z=>Ending.returned (.tuple #[.string P,.string R,.bool z])) (show false=Z by rw[←hZ.out];rfl),((Fr.refl [] w).drewN _).all⟩
   rcases q1:R.toList.isEmpty with _ | _
   ·rcases q2:(R.toList==[105])with _ | _
    ·rcases q3:(R.toList==[112])with _ | _
     ·have hz:=hid (show false=Z by rw[←hZ.out,q1,q2,q3];rfl)
      go_wp2_with fail;go_quiet ((go_at_call 101;exact Calls.quiet_of_same (HK.out _)));go_wp2_with fail;go_ret3;exact⟨congrArg (fun z=>Ending.returned (.tuple #[.string P,.string R,.bool z])) hz.out,((Fr.refl [] w).drewN _).all⟩
     ·have hz:=hid (show true=Z by rw[←hZ.out,q1,q2,q3];rfl)
      go_wp2_with fail;go_quiet ((go_at_call 101;exact Calls.quiet_of_same (HK.out _)));go_wp2_with fail;go_ret3;exact⟨congrArg (fun z=>Ending.returned (.tuple #[.string P,.string R,.bool z])) hz.out,((Fr.refl [] w).drewN _).all⟩
    ·have hz:=hid (show true=Z by rw[←hZ.out,q1,q2];rfl)
     go_wp2_with fail;go_quiet ((go_at_call 101;exact Calls.quiet_of_same (HK.out _)));go_wp2_with fail;go_ret3;exact⟨congrArg (fun z=>Ending.returned (.tuple #[.string P,.string R,.bool z])) hz.out,((Fr.refl [] w).drewN _).all⟩
   ·have hz:=hid (show true=Z by rw[←hZ.out,q1];rfl)
    go_wp2_with fail;go_quiet ((go_at_call 101;exact Calls.quiet_of_same (HK.out _)));go_wp2_with fail;go_ret3;exact⟨congrArg (fun z=>Ending.returned (.tuple #[.string P,.string R,.bool z])) hz.out,((Fr.refl [] w).drewN _).all⟩
def errI(b:Bool):Int:=if b=true then 0 else 3
theorem kinds1'(R:ByteArray):kindsB R 0 1=(R.toList.isEmpty||(R.toList==[105]||R.toList==[112])):=by
 rw[kinds1,Lib.toList_data];congr 1;cases R.data.toList <;> rfl
def RC(w wr:World)(xs:Array Value):Prop:=Below w.heap.size w wr∧Box wr w.heap.size 103 xs
theorem RC.on{w wr w2:World}{xs:Array Value}(h:RC w wr xs)(hb:Below wr.heap.size wr w2):RC w w2 xs:=⟨h.1.trans (hb.mono h.1.size),h.2.kept (Fr.of_below hb []) (by simp)⟩
theorem RC.new(w:World)(xs:Array Value):RC w (w.alloc (.cells xs 103)) xs:=⟨((Fr.refl [] w).alloc _).all,Box.new w _ xs⟩
theorem rcall_any(x:MC)(w:World)(hx:COk w x):Calls Tryz.prog 103 #[.agg x.row.toArray] w (IPost (errI (decide (x.c.k=0)&&callB x.c.tag x.c.args)) w):=by
 rcases hc:cutAt x.c.tag.toList with _ | ⟨l,r⟩
 ·rw[callB_no hc,Bool.and_false]
  have HC:=hid (fun w=>rsig_no x.c.tag w hx.t hc);unfold TPost at HC;clear hx hc;obtain⟨⟨op,a,b,k,tag,args⟩,aA,ac⟩:=x;unfold MC.row;unfold IPost;dsimp only at *;go_enter Tryz.func103,Tryz.ntmps103
  go_wp2_with (refine(HC.out _).mono ?_;rintro e w2 ⟨rfl,hb2⟩)
  go_ret;exact⟨rfl,((Fr.refl [] w).alloc _).all.trans (hb2.mono (by simp))⟩
 ·obtain⟨P,rfl⟩:∃P:ByteArray,l=P.data.toList:=⟨⟨l.toArray⟩,rfl⟩
  obtain⟨R,rfl⟩:∃R:ByteArray,r=R.data.toList:=⟨⟨r.toArray⟩,rfl⟩;rw[callB_yes hc];have hsz:P.size+1+R.size=x.c.tag.size:=by
   have h2:=(cut_yes hc).2;rw[Lib.toList_data]at h2;have:=congrArg List.length h2;rw[List.length_append,List.length_cons,←Lib.size_eq,←Lib.size_eq,←Lib.size_eq]at this;omega
  have hxt:=hx.t;have HC:=hid (fun w=>rsig_yes x.c.tag P R w hx.t hc);rw[←kinds1']at HC;rw[←Bool.and_assoc (kindsB P 0 6)];have HA:Hid (∀w' s,s∈x.c.args→Calls Tryz.prog 50 #[.string s] w' (BPost (nodeB s) w')):=hid (fun w' s hs=>rnode_any s w' (hx.gs s hs));have HR:=hid (fun w' (hb:Below w.heap.size w w')=>hx.g.below hb);have hgl:=hx.gl;unfold TPost at HC;unfold BPost at HA;clear hx hc;obtain⟨⟨op,a,b,k,tag,args⟩,aA,ac⟩:=x;unfold MC.row;unfold IPost;dsimp only at *;unfold maxLen at hgl hxt;obtain⟨n,hN⟩:∃n,Hid (n=args.length):=⟨_,hid rfl⟩;rw[←hN.out]at hgl ⊢;generalize (kindsB P 0 6&&kindsB R 0 1)=b1 at *;obtain⟨V,hV⟩:∃V,Hid (V=errI (decide (k=0)&&(b1&&(decide (n=P.size+1)&&argsB ((if R.data.toList=[112] then 112 else 0) :: P.data.toList) args)))):=⟨_,hid rfl⟩;rw[←hV.out];go_enter Tryz.func103,Tryz.ntmps103;go_wp2_with fail;refine(HC.out _).mono ?_;rintro e w2 ⟨rfl,hb2⟩;have X2:=hid ((RC.new w #[.int .i64 op,.string a,.string b,.int .i64 k,.string tag,.slice aA n ac]).on hb2)
  clear hb2 HC;rcases b1 with _ | _
  ·go_wp2_with fail
   go_ret;exact⟨congrArg (fun z=>Ending.returned (.int .i64 z)) (show(3:Int)=V by rw[hV.out,Bool.false_and,Bool.and_false];rfl),X2.out.1⟩
  have x3:=X2.out.2.cell 3;have x5:=X2.out.2.cell 5;simp only[List.getElem?_toArray,List.getElem?_cons_zero,List.getElem?_cons_succ]at x3 x5;by_cases hk:k=0;rotate_left
  ·have dk:(k != 0)=true:=by simpa using hk
   have q:=hid hk;clear hk;go_wp2_with fail;go_ret;exact⟨congrArg (fun z=>Ending.returned (.int .i64 z)) (show(3:Int)=V by rw[hV.out,decide_eq_false q.out];rfl),X2.out.1⟩
  have dk:(k != 0)=false:=by simpa using hk
  have qk:=hid hk;clear hk;by_cases hn:n=P.size+1;rotate_left
  ·have dn:((n:Int) != (P.size:Int)+1)=true:=by simp;omega
   have q:=hid hn;clear hn;go_wp2_with fail;go_ret;exact⟨congrArg (fun z=>Ending.returned (.int .i64 z)) (show(3:Int)=V by rw[hV.out,decide_eq_true qk.out,decide_eq_false q.out];rfl),X2.out.1⟩
  have dn:((n:Int) != (P.size:Int)+1)=false:=by simp;omega
  have hV1:Hid (V=errI (argsB ((if R.data.toList=[112] then 112 else 0) :: P.data.toList) args)):=hid (by rw[hV.out,decide_eq_true qk.out,decide_eq_true hn];rfl);clear hV qk;have hkl:Hid (((if R.data.toList=[112] then 112 else 0) :: P.data.toList:List UInt8).length=n):=hid (by rw[List.length_cons,←Lib.size_eq];exact hn.symm)
  have hk0:Hid (∀h,(((if R.data.toList=[112] then 112 else 0) :: P.data.toList:List UInt8)[0]'h==112)=(R.toList==[112])):=hid (fun h=>by
   rw[Lib.toList_data];simp only[List.getElem_cons_zero];by_cases h1:R.data.toList=[112]
   ·rw[if_pos h1,h1]
    rfl
   ·rw[if_neg h1]
    simp[h1])
  have hk1:Hid (∀m h (h2:m<P.size),(((if R.data.toList=[112] then 112 else 0) :: P.data.toList:List UInt8)[m+1]'h==112)=((P[m].toNat:Int)==112)):=hid (fun m h h2=>by
   rw[num112]
   congr 1)
  generalize ((if R.data.toList=[112] then 112 else 0) :: P.data.toList:List UInt8)=ks at *;obtain⟨R0,hR0⟩:∃R0,Hid (R0=argsB (ks.drop 0) (args.drop 0)):=⟨_,hid rfl⟩;have hV2:Hid (V=errI R0):=hid (by rw[hV1.out,hR0.out];rfl);have hnP:n≤P.size+1:=by omega
  clear hV1 hn;go_wp2_with fail;clear x3 x5;go_loopw [6,7] (fun i p wr=>∃j:Nat,j≤n∧i=.int .i64 j∧Hid (R0=argsB (ks.drop j) (args.drop j))∧Hid (RC w wr #[.int .i64 op,.string a,.string b,.int .i64 k,.string tag,.slice aA n ac])) (fun i _ _=>n-(intOf i).toNat)
  case atStart=>exact⟨0,by omega,rfl,hR0,X2⟩
  case round=>
   obtain⟨j,hj,rfl,hf,B6⟩:=hrel;clear hR0 X2
   rename World=>wr
   have x5:=B6.out.2.cell 5;simp only[List.getElem?_toArray,List.getElem?_cons_zero,List.getElem?_cons_succ]at x5;by_cases hjl:j<n
   ·have e1:decide ((j:Int)<(n:Int))=true:=decide_eq_true (by omega)
    have hjr:j<args.length:=by rw[←hN.out];exact hjl
    have hjk:j<ks.length:=by rw[hkl.out];exact hjl
    obtain⟨g2,o2,rfl,hg2,hcell⟩:=(HR.out wr B6.out.1) (by rw[List.length_map];omega);have c1:=hcell j (by rw[List.length_map];exact hjr);rw[List.getElem_map]at c1;have hf2:=hid (hf.out.trans (argsB_drop hjk hjr));have HA6:=hid (HA.out wr args[j] (List.getElem_mem hjr));have hz:=size_nil args[j];unfold argB at hf2;rcases Nat.eq_zero_or_pos j with hj0 | hj0
    ·have hp:=hid (hk0.out (by omega))
     have e2:decide (0<j)=false:=decide_eq_false (by omega);have hp1:(ks[j]==112)=(R.toList==[112]):=by
      rw[←hk0.out (by omega)];congr 2
     rw[hp1]at hf2;obtain⟨p,hpp⟩:∃p,(R.toList==[112])=p:=⟨_,rfl⟩;rw[hpp]at hf2;clear hp1 hp hj0;generalize args[j] = aj at *;clear hcell hg2 hf hjr;rcases hz0:(aj.size==0)with _ | _ <;> rw[hz0]at hz hf2
     ·rw[Bool.false_or]at hf2
      clear hz0;rcases p with _ | _
      ·rw[Bool.false_and,Bool.false_and]at hf2
       go_wp2_with fail;go_ret;exact⟨congrArg (fun z=>Ending.returned (.int .i64 z)) (show(3:Int)=V by rw[hV2.out,hf2.out];rfl),B6.out.1⟩
      ·rw[Bool.true_and]at hf2
       go_wp2_with fail;refine HA6.out.mono ?_;rintro e w7 ⟨rfl,hb7⟩;have B7:=hid (B6.out.on hb7);clear hb7 HA6 c1 B6 x5;generalize nodeB aj=b4 at *;rcases b4 with _ | _
       ·go_wp2_with fail
        go_ret;exact⟨congrArg (fun z=>Ending.returned (.int .i64 z)) (show(3:Int)=V by rw[hV2.out,hf2.out];rfl),B7.out.1⟩
       rw[Bool.true_and]at hf2;go_wp2_with fail;go_roundw
       case rel=>exact⟨j+1,by omega,by go_num,hf2,B7⟩
       case measure=>simp[intOf];omega
     ·rw[Bool.true_or,Bool.true_and]at hf2
      clear hz0;go_wp2_with fail;go_roundw
      case rel=>exact⟨j+1,by omega,by go_num,hf2,B6⟩
      case measure=>simp[intOf];omega
    ·obtain⟨m,hm⟩:∃m,m+1=j:=⟨j-1,by omega⟩
     have e2:decide (0<j)=true:=decide_eq_true (by omega);have hm2:m<P.size:=by omega
     have hp1:(ks[j]==112)=((P[m].toNat:Int)==112):=by
      rw[←hk1.out m (by omega) hm2];congr 2;exact hm.symm
     rw[hp1]at hf2;obtain⟨p,hpp⟩:∃p,((P[m].toNat:Int)==112)=p:=⟨_,rfl⟩;rw[hpp]at hf2;have hjm:(j:Int)-1=(m:Int):=by omega
     clear hp1 hj0 hm;generalize args[j] = aj at *;clear hcell hg2 hf hjr;rcases hz0:(aj.size==0)with _ | _ <;> rw[hz0]at hz hf2
     ·rw[Bool.false_or]at hf2
      clear hz0;rcases p with _ | _
      ·rw[Bool.false_and,Bool.false_and]at hf2
       go_wp2_with fail;go_ret;exact⟨congrArg (fun z=>Ending.returned (.int .i64 z)) (show(3:Int)=V by rw[hV2.out,hf2.out];rfl),B6.out.1⟩
      ·rw[Bool.true_and]at hf2
       go_wp2_with fail;refine HA6.out.mono ?_;rintro e w7 ⟨rfl,hb7⟩;have B7:=hid (B6.out.on hb7);clear hb7 HA6 c1 B6 x5;generalize nodeB aj=b4 at *;rcases b4 with _ | _
       ·go_wp2_with fail
        go_ret;exact⟨congrArg (fun z=>Ending.returned (.int .i64 z)) (show(3:Int)=V by rw[hV2.out,hf2.out];rfl),B7.out.1⟩
       rw[Bool.true_and]at hf2;go_wp2_with fail;go_roundw
       case rel=>exact⟨j+1,by omega,by go_num,hf2,B7⟩
       case measure=>simp[intOf];omega
     ·rw[Bool.true_or,Bool.true_and]at hf2
      clear hz0;go_wp2_with fail;go_roundw
      case rel=>exact⟨j+1,by omega,by go_num,hf2,B6⟩
      case measure=>simp[intOf];omega
   ·obtain rfl:j=n:=by omega
    have e1:decide ((j:Int)<(j:Int))=false:=decide_eq_false (by omega);have hf3:Hid (R0=true):=hid (hf.out.trans (by rw[hN.out];exact argsB_end _ _));clear hf;go_wp2_with fail;go_ret;exact⟨congrArg (fun z=>Ending.returned (.int .i64 z)) (show(0:Int)=V by rw[hV2.out,hf3.out];rfl),B6.out.1⟩
end sy
set_option maxHeartbeats 8000000
namespace sy
open RowKit mem
open nm (Tab tab_below)
structure OR(w wr:World)(xs:Array Value)(mb k:Nat)(l:List Mk):Prop where
 fr:Below w.heap.size w wr
 box:Box wr w.heap.size 70 xs
 own:wr.ownsMap (H:=Unit) Tryz.prog 101 unitElem mb k (seenD l)
 lt:w.heap.size<mb
theorem OR.alloc{w wr:World}{xs:Array Value}{mb k:Nat}{l:List Mk}(h:OR w wr xs mb k l)(o:Obj):OR w (wr.alloc o) xs mb k l:=
 ⟨h.fr.trans (((Fr.refl [] wr).alloc o).all.mono h.fr.size),h.box.kept ((Fr.refl [] wr).alloc o) (by simp),h.own.alloc o,h.lt⟩
theorem OR.put{w wr w2:World}{xs:Array Value}{mb k:Nat}{l:List Mk}(h:OR w wr xs mb k l)(m:Mk)(ho:w2.ownsMap (H:=Unit) Tryz.prog 101 unitElem mb (k+1) ((seenD l).put (mkK m) (.agg [])))(hg:wr.grownBy w2 (some mb)):OR w w2 xs mb (k+1) (l++[m]):=by
 refine⟨h.fr.trans ⟨hg.os,hg.tape,hg.output,hg.size,fun i hi=>hg.block i (Nat.lt_of_lt_of_le hi h.fr.size) (fun e=>?_)⟩,?_,?_,h.lt⟩
 ·injection e with e
  have:=h.lt;omega
 ·exact(hg.block _ h.box.lt (fun e=>by injection e with e;have:=h.lt;omega)).trans h.box
 ·rw[seen_snoc]
  exact ho
theorem object_any(x:MO)(w:World)(hx:MOk w x)(htab:Tab w):Calls Tryz.prog 59 #[.agg x.row.toArray] w (IPost (objE x.o) w):=by
 have HN:=hid (fun w' (hb:Below w.heap.size w w')=>obj_any x.o.name w' hx.n (tab_below htab hb));have HK:=hid (fun w=>kinds_any x.o.kinds 1 64 w hx.k);have HT:Hid (∀m∈x.o.marks,∀w,Calls Tryz.prog 87 #[.string m.tag] w fun e w'=>e=.returned (.bool (tagB m.tag))∧w'=w):=hid (fun m hm w=>tag_any m.tag w (hx.mt m hm));have HM:=hid (fun w' (hb:Below w.heap.size w w')=>hx.m.below hb);have HW:Hid (∀m∈x.o.marks,(Lit.int .i64 m.at_).wf=true∧m.tag.size≤maxLen):=hid (fun m hm=>⟨hx.mw m hm,hx.mt m hm⟩);have hml:=hx.ml;have hkl:=hx.k;unfold maxLen at hml hkl;unfold BPost at HN HK;obtain⟨⟨name,kinds,ms⟩,mA,mc⟩:=x;unfold MO.row;rw[objE_eq];dsimp only at *;clear hx htab;unfold IPost;obtain⟨n,hN⟩:∃n,Hid (n=ms.length):=⟨_,hid rfl⟩;rw[←hN.out]at hml ⊢;generalize objB name=b1 at *;generalize kindsB kinds 1 64=b2 at *;obtain⟨V,hV⟩:∃V:Int,Hid (V=objI b1 b2 (mksE ms kinds.size)):=⟨_,hid rfl⟩;rw[←hV.out];have hmm:=@run_makeMap Tryz.prog
 go_enter Tryz.func59,Tryz.ntmps59;go_wp2_with fail;refine(HN.out _ ((Fr.refl [] w).alloc (.cells #[.string name,.string kinds,.slice mA n mc] 70)).all).mono ?_;rintro e w2 ⟨rfl,hb2⟩;have X2:=(Box.new w 70 #[.string name,.string kinds,.slice mA n mc]).kept (Fr.of_below hb2 []) (by simp);have B2:=hid (((Fr.refl [] w).alloc (.cells #[.string name,.string kinds,.slice mA n mc] 70)).all.trans (hb2.mono (by simp)));clear hb2 HN;rcases b1 with _ | _
 ·clear X2
  go_wp2_with fail;go_ret;exact⟨congrArg (fun z=>Ending.returned (.int .i64 z)) (show(11:Int)=V by rw[hV.out];rfl),B2.out⟩
 have x1:=X2.cell 1;simp only[List.getElem?_toArray,List.getElem?_cons_zero,List.getElem?_cons_succ]at x1;go_wp2_with fail;refine(HK.out _).mono ?_;rintro e w3 ⟨rfl,hb3⟩;have X3:=hid (X2.kept (Fr.of_below hb3 []) (by simp));have B3:=hid (B2.out.trans (hb3.mono B2.out.size));clear hb3 HK X2 B2 x1;rcases b2 with _ | _
 ·clear X3
  go_wp2_with fail;go_ret;exact⟨congrArg (fun z=>Ending.returned (.int .i64 z)) (show(5:Int)=V by rw[hV.out];rfl),B3.out⟩
 have hV2:Hid (V=mksE ms kinds.size):=hid (by rw[hV.out];rfl);have R3:Hid (OR w (w3.alloc (.map #[] 0)) #[.string name,.string kinds,.slice mA n mc] w3.heap.size 0 (ms.take 0)):=hid ⟨B3.out.trans (((Fr.refl [] w3).alloc _).all.mono B3.out.size),X3.out.kept ((Fr.refl [] w3).alloc _) (by simp),by rw[List.take_zero,seen_nil];exact World.ownsMap_made _ _ _ _,X3.out.lt⟩;have x2:=R3.out.box.cell 2;simp only[List.getElem?_toArray,List.getElem?_cons_zero,List.getElem?_cons_succ]at x2;clear X3 B3;have HR:=R3;go_wp2_with fail;clear x2;have hok0:Hid (mksOk ms kinds.size 0):=hid (fun i m hi _=>by omega);go_loopw [4,23] (fun a i wr=>∃k:Nat,k≤n∧i=.int .i64 k∧a=.int .i64 (atOf ms k)∧Hid (mksOk ms kinds.size k)∧Hid (OR w wr #[.string name,.string kinds,.slice mA n mc] w3.heap.size k (ms.take k))) (fun _ i _=>n-(intOf i).toNat)
 case atStart=>exact⟨0,by omega,rfl,rfl,hok0,HR⟩
 case round=>
  obtain⟨k,hk,rfl,rfl,hok,HR1⟩:=hrel;clear hok0 HR R3
  rename World=>wr
  by_cases hkl:k<n
  ·have e1:decide ((k:Int)<(n:Int))=true:=decide_eq_true (by omega)
   have hkm:k<ms.length:=by rw[←hN.out];exact hkl
   obtain⟨g,off,rfl,hg,c0,c1⟩:=tbl_mk (HM.out wr HR1.out.fr) hkm;have hwf:=HW.out ms[k] (List.getElem_mem hkm);have HT1:=hid (HT.out ms[k] (List.getElem_mem hkm));have hstep:=hid (mk_step hkm hok.out);have hbad:=hid (fun h=>mksE_no (mks_bad (n:=kinds.size) hkm h));have hgood:=hid (fun h=>(mks_succ (n:=kinds.size) hkm).2 ⟨hok.out,h⟩);have hats:=hid (atOf_succ hkm);have hhas0:=has_seen_iff (l:=ms.take k) (fun x hx=>HW.out x (List.mem_of_mem_take hx)) hwf;have HH0:=hid hhas0;clear hhas0;have htk:Hid (ms.take (k+1)=ms.take k++[ms[k]]):=hid (by rw[List.take_succ_eq_append_getElem hkm]);have hkey:=mk_keyOf ms[k] hwf.1 hwf.2;have HKey:=hid hkey;generalize atOf ms k=at1 at *;generalize hl:ms.take k=l at *;generalize ms[k] = m at *;clear hl hwf hkey hkm;obtain⟨dup,hdup⟩:∃v,Hid (Maps.has (seenD l) (mkK m)=v):=⟨_,hid rfl⟩;rw[hdup.out]at HH0;obtain⟨at_,tag⟩:=m;unfold mkV at HKey;dsimp only at *;have HR2:=hid ((HR1.out.alloc (.cells #[.int .i64 at_,.string tag] 101)).alloc (.cells #[] 128))
   have y1:=HR2.out.box.cell 1;simp only[List.getElem?_toArray,List.getElem?_cons_zero,List.getElem?_cons_succ]at y1;have HO:=hid HR1.out.own;have HBx:Hid (Box ((wr.alloc (.cells #[.int .i64 at_,.string tag] 101)).alloc (.cells #[] 128)) wr.heap.size 101 #[.int .i64 at_,.string tag]):=hid ((Box.new wr 101 #[.int .i64 at_,.string tag]).kept ((Fr.refl [] _).alloc _) (by simp));have hmlt:w3.heap.size<wr.heap.size:=by
    obtain⟨es,clock,hb,_⟩:=HR1.out.own;exact(Array.getElem?_eq_some_iff.1 hb).1
   have HZ0:Hid (∀w6,((wr.alloc (.cells #[.int .i64 at_,.string tag] 101)).alloc (.cells #[] 128)).grownBy w6 (some w3.heap.size)→w6.cell? ⟨wr.heap.size,0,none⟩=some (.int .i64 at_)):=hid (fun w6 hg6=>(show Box w6 wr.heap.size 101 #[.int .i64 at_,.string tag] from(hg6.block _ HBx.out.lt (fun e=>by injection e with e;omega)).trans HBx.out).cell 0);clear hmlt;rcases dup with _ | _;rotate_left
   ·have hmm1:=hid (HH0.out.1 rfl)
    have hv:Hid ((3:Int)=V):=hid (by rw[hV2.out,hbad.out (fun h=>(hstep.out.1 h).1 hmm1.out)]);clear hbad hgood hstep
    go_wp2_with (at_lookup;refine wpList_lookup_own_unit _ rfl _ _ 127 rfl 101 128 mlaw Tryz.underlying127 (mzero _) w3.heap.size k _ rfl (HO.out.alloc _) _ _ rfl HKey.out ?_;rw[hdup.out])
    go_ret;exact⟨congrArg (fun z=>Ending.returned (.int .i64 z)) hv.out,HR2.out.fr⟩
   have hnm:Hid (¬(⟨at_,tag⟩:Mk)∈l):=hid (fun h=>by cases HH0.out.2 h);by_cases ha:at_<at1
   ·have d1:decide (at_<at1)=true:=decide_eq_true ha
    have ha2:=hid ha;clear ha;have hv:Hid ((3:Int)=V):=hid (by rw[hV2.out,hbad.out (fun h=>absurd (hstep.out.1 h).2.1 (Int.not_le.2 ha2.out))]);clear hbad hgood hstep
    go_wp2_with (at_lookup;refine wpList_lookup_own_unit _ rfl _ _ 127 rfl 101 128 mlaw Tryz.underlying127 (mzero _) w3.heap.size k _ rfl (HO.out.alloc _) _ _ rfl HKey.out ?_;rw[hdup.out])
    go_ret;exact⟨congrArg (fun z=>Ending.returned (.int .i64 z)) hv.out,HR2.out.fr⟩
   have d1:decide (at_<at1)=false:=decide_eq_false ha;have ha2:=hid (Int.not_lt.1 ha);clear ha;by_cases hb:(kinds.size:Int)≤at_
   ·have d2:decide ((kinds.size:Int)≤at_)=true:=decide_eq_true hb
    have hb2:=hid hb;clear hb;have hv:Hid ((3:Int)=V):=hid (by rw[hV2.out,hbad.out (fun h=>absurd (hstep.out.1 h).2.2.1 (Int.not_lt.2 hb2.out))]);clear hbad hgood hstep
    go_wp2_with (at_lookup;refine wpList_lookup_own_unit _ rfl _ _ 127 rfl 101 128 mlaw Tryz.underlying127 (mzero _) w3.heap.size k _ rfl (HO.out.alloc _) _ _ rfl HKey.out ?_;rw[hdup.out])
    go_ret;exact⟨congrArg (fun z=>Ending.returned (.int .i64 z)) hv.out,HR2.out.fr⟩
   have d2:decide ((kinds.size:Int)≤at_)=false:=decide_eq_false hb;have hb2:=hid (Int.not_le.1 hb);clear hb;rcases htb:tagB tag with _ | _ <;> rw[htb]at HT1
   ·have ht2:=hid htb
    clear htb;have hv:Hid ((3:Int)=V):=hid (by rw[hV2.out,hbad.out (fun h=>by have h9:=(hstep.out.1 h).2.2.2;rw[show tagB _=false from ht2.out]at h9;cases h9)]);clear hbad hgood hstep
    go_wp2_with (first | (at_lookup;refine wpList_lookup_own_unit _ rfl _ _ 127 rfl 101 128 mlaw Tryz.underlying127 (mzero _) w3.heap.size k _ rfl (HO.out.alloc _) _ _ rfl HKey.out ?_;rw[hdup.out]) | ((with_reducible refine(HT1.out _).mono ?_);rintro e w5 ⟨rfl,rfl⟩) | (at_mapUpdate;refine wpList_mapUpdate_own _ rfl _ _ _ 127 rfl 101 128 mlaw Tryz.underlying127 (unitElem (H:=Unit)) w3.heap.size k _ rfl HR2.out.own (by unfold maxLen;omega) _ _ _ rfl rfl HKey.out (.agg []) [] unitElem_mk ?_;intro w6 hown6 hg6;have z0:=HZ0.out w6 hg6))
    go_ret;exact⟨congrArg (fun z=>Ending.returned (.int .i64 z)) hv.out,HR2.out.fr⟩
   have ht2:=hid htb;have hok2:=hid (hgood.out (hstep.out.2 ⟨hnm.out,ha2.out,hb2.out,ht2.out⟩));clear htb hbad hgood hstep
   go_wp2_with (first | (at_lookup;refine wpList_lookup_own_unit _ rfl _ _ 127 rfl 101 128 mlaw Tryz.underlying127 (mzero _) w3.heap.size k _ rfl (HO.out.alloc _) _ _ rfl HKey.out ?_;rw[hdup.out]) | ((with_reducible refine(HT1.out _).mono ?_);rintro e w5 ⟨rfl,rfl⟩) | (at_mapUpdate;refine wpList_mapUpdate_own _ rfl _ _ _ 127 rfl 101 128 mlaw Tryz.underlying127 (unitElem (H:=Unit)) w3.heap.size k _ rfl HR2.out.own (by unfold maxLen;omega) _ _ _ rfl rfl HKey.out (.agg []) [] unitElem_mk ?_;intro w6 hown6 hg6;have z0:=HZ0.out w6 hg6))
   have HR3:=hid (HR2.out.put ⟨at_,tag⟩ hown6 hg6);rw[←htk.out]at HR3;go_roundw
   case rel=>exact⟨k+1,by omega,by go_num,by rw[hats.out],hok2,HR3⟩
   case measure=>simp[intOf];omega
  ·obtain rfl:k=n:=by omega
   have e1:decide ((k:Int)<(k:Int))=false:=decide_eq_false (by omega);have hv:Hid ((0:Int)=V):=hid (by rw[hV2.out,mksE_yes (by rw[←hN.out];exact hok.out)]);go_wp2_with fail;go_ret;exact⟨congrArg (fun z=>Ending.returned (.int .i64 z)) hv.out,HR1.out.fr⟩
end sy
end Go.Proofs.YtlkboeajkgbnaaaGreatDoor
