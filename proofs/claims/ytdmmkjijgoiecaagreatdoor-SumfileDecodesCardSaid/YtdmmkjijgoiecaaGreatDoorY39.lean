import Derived.Test.YtdmmkjijgoiecaaGreatDoorY36
import Derived.Test.YtdmmkjijgoiecaaGreatDoorY38
set_option linter.all false
set_option maxHeartbeats 4000000
namespace Go.Proofs.YtdmmkjijgoiecaaGreatDoor
open Lib(hid)
set_option maxHeartbeats 8000000
set_option maxRecDepth 100000
namespace sy
open RowKit mem
open nm (jI bR)
theorem aEP(s:ByteArray)(w:World)(hs:s.size≤maxLen):Calls Tryz.prog 172 #[.string s] w fun e w'=>e=.returned (.bool (sZ s))∧w'=w:=by
 unfold maxLen at hs;unfold sZ;by_cases Y:1≤s.size
 ·have d1:decide ((1:Int)≤(s.size:Int))=true:=aC (by omega)
  rw[aC Y,Bool.true_and];by_cases J:s.size≤60
  ·have d2:decide ((s.size:Int)≤60)=true:=aC (by omega)
   rw[aC J];go_enter Tryz.func172,Tryz.ntmps172;go_wp2_with fail;go_ret;exact⟨rfl,rfl⟩
  ·have d2:decide ((s.size:Int)≤60)=false:=aB (by omega)
   rw[aB J];go_enter Tryz.func172,Tryz.ntmps172;go_wp2_with fail;go_ret;exact⟨rfl,rfl⟩
 ·have d1:decide ((1:Int)≤(s.size:Int))=false:=aB (by omega)
  rw[aB Y,Bool.false_and];go_enter Tryz.func172,Tryz.ntmps172;go_wp2_with fail;go_ret;exact⟨rfl,rfl⟩
theorem jL(s:ByteArray):s.toList.isEmpty=(s.size==0):=by
 rw[Lib.toList_data,Bool.eq_iff_iff,List.isEmpty_iff,beq_iff_eq,Lib.size_eq,List.length_eq_zero_iff]
theorem aKa(s:ByteArray)(p:Bool)(w:World)(hs:s.size≤maxLen)(J:jI w):Calls Tryz.prog 204 #[.string s,.bool p] w (dA (aAZ p s) w):=by
 have HN:=hid (mI s w hs J);unfold dA aAZ at *;clear J;have hz:=jL s;rcases h1:(s.size==0)with _ | _ <;> rw[h1]at hz
 ·rw[Bool.false_or]
  rcases p with _ | _
  ·rw[Bool.false_and]
   go_enter Tryz.func204,Tryz.ntmps204;go_wp2_with fail;go_ret;exact⟨rfl,Below.refl _ _⟩
  ·rw[Bool.true_and]
   generalize dO s=q at *;go_enter Tryz.func204,Tryz.ntmps204
   go_wp2_with (refine HN.out.mono ?_;rintro e w2 ⟨rfl,Y⟩)
   go_ret;exact⟨rfl,Y⟩
 ·rw[Bool.true_or]
  go_enter Tryz.func204,Tryz.ntmps204;go_wp2_with fail;go_ret;exact⟨rfl,Below.refl _ _⟩
def fnI(J Y rb:Bool):Int:=if J=false then 11 else if Y=false∨rb=false then 5 else 0
theorem aI5(f:SF):xY f=fnI (aBc f.name) (eD f.kinds 0 6) (yB f.ret):=rfl
theorem aB6(f:SF)(w:World)(hf:FOk f)(a1:jI w):Calls Tryz.prog 120 #[.agg (lF f).toArray] w (dG (xY f) w):=by
 rw[aI5];have HF:=hid (aH4 f.name (w.alloc (.cells (lF f).toArray 103)) hf.n (bR a1 ((Fr.refl [] w).alloc _).all));have HK:=hid (fun w=>vN f.kinds 0 6 w hf.k);have HR:=hid hf.r;unfold dA at HF HK;unfold maxLen at HR;obtain⟨name,kinds,ret⟩:=f;unfold lF at *;dsimp only at *;clear hf a1;generalize aBc name=fb at *;generalize eD kinds 0 6=kb at *;unfold dG;obtain⟨R,hR⟩:∃R,Hid (fnI fb kb (ret.toList==[105]||(ret.toList==[112]||ret.toList==[118]))=R):=⟨_,hid rfl⟩;change Calls _ _ _ _ fun e w'=>e=.returned (.int .i64 (fnI fb kb (ret.toList==[105]||(ret.toList==[112]||ret.toList==[118]))))∧_
 rw[hR.out];go_enter Tryz.func120,Tryz.ntmps120;go_wp2_with fail;refine HF.out.mono ?_;rintro e w2 ⟨rfl,a2⟩;have X0:=(bV.new w 103 #[.string name,.string kinds,.string ret]).kept (Fr.of_below a2 []) (by simp);have a0:=hid ((((Fr.refl [] w).alloc (.cells #[.string name,.string kinds,.string ret] 103)).all).trans (a2.mono (by simp)));clear a2 HF;rcases fb with _ | _
 ·go_wp2_with fail
  go_ret;exact⟨rI hR.out,a0.out⟩
 have x1:=X0.cell 1;have x2:=X0.cell 2;simp only[aL,aJ,aK]at x1 x2;clear X0;go_wp2_with fail;refine(HK.out _).mono ?_;rintro e w3 ⟨rfl,a3⟩;have Y:=hid (a0.out.trans (a3.mono a0.out.size));have y2:=(a3.cell (p:=⟨w.heap.size,2,none⟩) (block_lt_of_cell x2)).trans x2;clear a0 a3 x1 x2;rcases kb with _ | _
 ·go_wp2_with fail
  go_ret;exact⟨rI (by have h:=hR.out;first | exact h | (rw[J]at h;exact h) | (rw[J,e2]at h;exact h) | (rw[J,e2,e3]at h;exact h)),Y.out⟩
 rcases J:(ret.toList==[105])with _ | _
 ·rcases e2:(ret.toList==[112])with _ | _
  ·rcases e3:(ret.toList==[118])with _ | _
   ·go_wp2_with fail
    go_ret;exact⟨rI (by have h:=hR.out;first | exact h | (rw[J]at h;exact h) | (rw[J,e2]at h;exact h) | (rw[J,e2,e3]at h;exact h)),Y.out⟩
   ·go_wp2_with fail
    go_ret;exact⟨rI (by have h:=hR.out;first | exact h | (rw[J]at h;exact h) | (rw[J,e2]at h;exact h) | (rw[J,e2,e3]at h;exact h)),Y.out⟩
  ·go_wp2_with fail
   go_ret;exact⟨rI (by have h:=hR.out;first | exact h | (rw[J]at h;exact h) | (rw[J,e2]at h;exact h) | (rw[J,e2,e3]at h;exact h)),Y.out⟩
 ·go_wp2_with fail
  go_ret;exact⟨rI (by have h:=hR.out;first | exact h | (rw[J]at h;exact h) | (rw[J,e2]at h;exact h) | (rw[J,e2,e3]at h;exact h)),Y.out⟩
theorem aAY(f:SF)(w:World)(hf:FOk f):Calls Tryz.prog 115 #[.agg (lF f).toArray] w (dG (xY f) w):=by
 rw[aI5];have HK:=hid (fun w=>aDY f.kinds 0 6 w hf.k (by decide) (by decide));have HR:=hid hf.r;unfold dA at HK;unfold maxLen at HR;obtain⟨name,kinds,ret⟩:=f;unfold lF at *;have hn:name.size≤maxLen:=hf.n;dsimp only at *;clear hf;generalize eD kinds 0 6=kb at *;unfold dG aBc yB;rcases hr:nm.eU name with _ | _
 ·have HF:=hid (nm.jK name (w.alloc (.cells #[.string name,.string kinds,.string ret] 103)) hn hr)
  unfold nm.jS at HF;clear hr;go_enter Tryz.func115,Tryz.ntmps115;go_wp2_with fail;refine HF.out.mono ?_;rintro e w2 ⟨rfl,Y⟩;have J:=hid ((((Fr.refl [] w).alloc (.cells #[.string name,.string kinds,.string ret] 103)).all).trans (Y.mono (by simp)));clear Y HF;go_wp2_with fail;go_ret;exact⟨rfl,J.out.trans (((Fr.refl [] w2).alloc _).all.mono J.out.size)⟩
 ·have HF:=hid (nm.iG name (w.alloc (.cells #[.string name,.string kinds,.string ret] 103)) hn hr)
  unfold nm.kP at HF;clear hr;rw[Bool.true_and];obtain⟨R,hR⟩:∃R,Hid (fnI (decide ((nm.dV name).kind=4)) kb (ret.toList==[105]||(ret.toList==[112]||ret.toList==[118]))=R):=⟨_,hid rfl⟩;rw[hR.out];generalize nm.dV name=d at *;obtain⟨dk,df,dc,dn,dm,dl⟩:=d;unfold nm.Nd.val nm.Nd.cells at HF;dsimp only at HF hR ⊢;go_enter Tryz.func115,Tryz.ntmps115;go_wp2_with fail;refine HF.out.mono ?_;rintro e w2 ⟨rfl,Y⟩;have X0:=((bV.new w 103 #[.string name,.string kinds,.string ret]).kept (Fr.of_below Y []) (by simp)).kept ((Fr.refl [] w2).alloc (.cells #[.int .i64 dk,.string df,.int .i64 dc,.string dn,.int .i64 dm,.int .i64 dl] 163)) (by simp);have J:=hid ((((((Fr.refl [] w).alloc (.cells #[.string name,.string kinds,.string ret] 103)).all).trans (Y.mono (by simp)))).trans (((Fr.refl [] w2).alloc (.cells #[.int .i64 dk,.string df,.int .i64 dc,.string dn,.int .i64 dm,.int .i64 dl] 163)).all.mono (by have:=Y.size;simp at this;omega)))
  clear Y HF;by_cases h4:dk=4
  ·have d4:(dk != 4)=false:=by simpa using h4
   rw[aC h4]at hR;clear h4;have x1:=X0.cell 1;have x2:=X0.cell 2;simp only[aL,aJ,aK]at x1 x2;clear X0;go_wp2_with fail;refine(HK.out _).mono ?_;rintro e w3 ⟨rfl,a1⟩;have a0:=hid (J.out.trans (a1.mono J.out.size));have y2:=(a1.cell (p:=⟨w.heap.size,2,none⟩) (block_lt_of_cell x2)).trans x2;clear J a1 x1 x2;rcases kb with _ | _
   ·go_wp2_with fail
    go_ret;exact⟨rI (by have h:=hR.out;first | exact h | (rw[e1]at h;exact h) | (rw[e1,e2]at h;exact h) | (rw[e1,e2,e3]at h;exact h)),a0.out⟩
   rcases e1:(ret.toList==[105])with _ | _
   ·rcases e2:(ret.toList==[112])with _ | _
    ·rcases e3:(ret.toList==[118])with _ | _
     ·go_wp2_with fail
      go_ret;exact⟨rI (by have h:=hR.out;first | exact h | (rw[e1]at h;exact h) | (rw[e1,e2]at h;exact h) | (rw[e1,e2,e3]at h;exact h)),a0.out⟩
     ·go_wp2_with fail
      go_ret;exact⟨rI (by have h:=hR.out;first | exact h | (rw[e1]at h;exact h) | (rw[e1,e2]at h;exact h) | (rw[e1,e2,e3]at h;exact h)),a0.out⟩
    ·go_wp2_with fail
     go_ret;exact⟨rI (by have h:=hR.out;first | exact h | (rw[e1]at h;exact h) | (rw[e1,e2]at h;exact h) | (rw[e1,e2,e3]at h;exact h)),a0.out⟩
   ·go_wp2_with fail
    go_ret;exact⟨rI (by have h:=hR.out;first | exact h | (rw[e1]at h;exact h) | (rw[e1,e2]at h;exact h) | (rw[e1,e2,e3]at h;exact h)),a0.out⟩
  ·have d4:(dk != 4)=true:=by simpa using h4
   rw[aB h4]at hR;clear h4;go_wp2_with fail;go_ret;exact⟨rI hR.out,J.out⟩
theorem aAi:∀{l:List UInt8},cutAt l=none→Lib.indexByte l 62=-1
 | [],_=>rfl
 | b :: r,h=>by
  unfold cutAt at h;by_cases hb:b=62
  ·rw[if_pos hb]at h
   cases h
  ·rw[if_neg hb,Option.map_eq_none_iff]at h
   unfold Lib.indexByte;rw[aAi h,if_neg (by simpa using hb)];rfl
theorem pE:∀{l a r:List UInt8},cutAt l=some (a,r)→Lib.indexByte l 62=(a.length:Int)∧l=a++62 :: r
 | [],_,_,h=>by cases h
 | b :: t,a,r,h=>by
  unfold cutAt at h;by_cases hb:b=62
  ·rw[if_pos hb]at h
   cases h;subst hb;exact⟨rfl,rfl⟩
  ·rw[if_neg hb]at h
   rcases hc:cutAt t with _ | ⟨a',r'⟩
   ·rw[hc]at h
    cases h
   ·rw[hc]at h
    cases h;obtain⟨Y,J⟩:=pE hc;unfold Lib.indexByte;rw[Y,if_neg (by simpa using hb),if_neg (by simp)];exact⟨by simp,by rw[J];rfl⟩
theorem aBU{a b:ByteArray}(h:a.data.toList=b.data.toList):a=b:=by
 obtain⟨⟨l⟩⟩:=a;obtain⟨⟨m⟩⟩:=b;simp only at h;rw[h]
def mW(P R:ByteArray)(b:Bool)(w:World)(e:Ending)(w':World):Prop:=e=.returned (.tuple #[.string P,.string R,.bool b])∧Below w.heap.size w w'
theorem aHd(s:ByteArray)(w:World)(h:cutAt s.toList=none):Calls Tryz.prog 223 #[.string s,.string ⟨#[62]⟩] w (mW s ⟨#[]⟩ false w):=by
 rw[Lib.toList_data]at h;have Y:=aAi h;have J:=fun w=>Tryz.stringslite_Index_one s 62 w
 rw[Y]at J;have HI:=hid J;clear J Y h;unfold mW;go_enter Tryz.func223,Tryz.ntmps223
 go_wp2_with (refine(HI.out _).mono ?_;rintro e w2 ⟨rfl,rfl⟩)
 go_ret3;exact⟨rfl,Below.refl _ _⟩
theorem aGm(s P R:ByteArray)(w:World)(hs:s.size≤maxLen)(h:cutAt s.toList=some (P.data.toList,R.data.toList)):Calls Tryz.prog 223 #[.string s,.string ⟨#[62]⟩] w (mW P R true w):=by
 rw[Lib.toList_data]at h;obtain⟨h1,J⟩:=pE h;rw[←Lib.size_eq]at h1;have Y:=fun w=>Tryz.stringslite_Index_one s 62 w
 rw[h1]at Y;have HI:=hid Y;have hlen:P.size+1+R.size=s.size:=by
  have:=congrArg List.length J;rw[aF,aG,←Lib.size_eq,←Lib.size_eq,←Lib.size_eq]at this;omega
 unfold maxLen at hs;have a2:∀W,(Instr.slice 9 (.string s) none (some (.int .i64 (P.size:Int))) none).run Tryz.prog W=.ok (.string P) W:=fun W=>by
  rw[run_slice_string_h (P:=Tryz.prog) W 9 s Tryz.underlying9 .i64 (P.size:Int) (by omega) (by omega)];rw[show s.extract 0 (P.size:Int).toNat=P from aBU (by rw[Lib.extract_data,J,Int.toNat_natCast,List.drop_zero,Nat.sub_zero,Lib.size_eq,List.take_left])]
 have a1:∀W,(Instr.slice 9 (.string s) (some (.int .i64 ((P.size:Int)+1))) none none).run Tryz.prog W=.ok (.string R) W:=fun W=>by
  rw[run_slice_string_l (P:=Tryz.prog) W 9 s Tryz.underlying9 .i64 ((P.size:Int)+1) (by omega) (by omega)];rw[show s.extract ((P.size:Int)+1).toNat s.size=R from aBU (by rw[Lib.extract_to_end,J,show((P.size:Int)+1).toNat=P.size+1 by omega,Lib.size_eq,List.drop_append,List.drop_of_length_le (by omega),Nat.add_sub_cancel_left];rfl)]
 have hw:IntKind.i64.wrap ((P.size:Int)+1)=(P.size:Int)+1:=IntWalk.i64_in _ (by omega);have a0:decide (0≤(P.size:Int))=true:=aC (by omega);clear Y h1 h J hlen;unfold mW;go_enter Tryz.func223,Tryz.ntmps223
 go_wp2_with (refine(HI.out _).mono ?_;rintro e w2 ⟨rfl,J⟩;obtain rfl:w=w2:=J.symm)
 go_quiet (fail);go_wp2_with fail;go_ret3;exact⟨rfl,((Fr.refl [] w).drewN _).all⟩
theorem aDZ(s:ByteArray)(w:World)(h:cutAt s.toList=none):Calls Tryz.prog 203 #[.string s,.string ⟨#[62]⟩] w (mW s ⟨#[]⟩ false w):=by
 have Y:=hid (aHd s w h);unfold mW at Y ⊢;clear h;go_enter Tryz.func203,Tryz.ntmps203
 go_wp2_with (refine Y.out.mono ?_;rintro e w2 ⟨rfl,J⟩)
 go_ret3;exact⟨rfl,J⟩
theorem aDc(s P R:ByteArray)(w:World)(hs:s.size≤maxLen)(h:cutAt s.toList=some (P.data.toList,R.data.toList)):Calls Tryz.prog 203 #[.string s,.string ⟨#[62]⟩] w (mW P R true w):=by
 have Y:=hid (aGm s P R w hs h);unfold mW at Y ⊢;clear h hs;go_enter Tryz.func203,Tryz.ntmps203
 go_wp2_with (refine Y.out.mono ?_;rintro e w2 ⟨rfl,J⟩)
 go_ret3;exact⟨rfl,J⟩
theorem aHr(R:ByteArray):eD R 0 1=(R.data.toList==[]||(R.data.toList==[105]||R.data.toList==[112])):=by
 unfold eD;rw[aEC,aC (bA _),Bool.true_and,Lib.size_eq];generalize R.data.toList=l;rcases l with _ | ⟨a,_ | ⟨b,r⟩⟩
 ·rfl
 ·simp only[List.all_cons,List.all_nil,Bool.and_true,aG,aI,ipU]
  rw[Bool.eq_iff_iff];simp
 ·rw[Bool.eq_iff_iff]
  simp
theorem aAL{ks:List UInt8}{xs:List ByteArray}{k:Nat}(J:k<ks.length)(ha:k<xs.length):kH (ks.drop k) (xs.drop k)=(aAZ (ks[k]==112) xs[k]&&kH (ks.drop (k+1)) (xs.drop (k+1))):=by
 rw[bD J,bD ha];rfl
theorem aBb(ks:List UInt8)(xs:List ByteArray):kH (ks.drop xs.length) (xs.drop xs.length)=true:=by
 rw[List.drop_length];unfold kH;rfl
theorem aCu{tag:ByteArray}{args:List ByteArray}(h:cutAt tag.toList=none):sP tag args=false:=by
 unfold sP;rw[h]
theorem aBd{tag P R:ByteArray}{args:List ByteArray}(h:cutAt tag.toList=some (P.data.toList,R.data.toList)) :
 sP tag args=(eD P 0 6&&(eD R 0 1&&(decide (args.length=P.size+1)&&kH ((if R.data.toList=[112] then 112 else 0) :: P.data.toList) args))):=by
 unfold sP;rw[h,aHr,Lib.size_eq]
theorem aCX{R:ByteArray}{ks:List UInt8}{args:List ByteArray}(h:0<args.length):kH ((if R.data.toList=[112] then 112 else 0) :: ks) args=(aAZ (R.toList==[112]) args[0]&&kH ks (args.drop 1)):=by
 obtain⟨a,r,rfl⟩:=List.exists_cons_of_length_pos h;rw[Lib.toList_data];rw[kH];simp only[List.getElem_cons_zero,List.drop_succ_cons,List.drop_zero];congr 2;by_cases J:R.data.toList=[112]
 ·rw[if_pos J,J]
  rfl
 ·rw[if_neg J]
  simp[J]
theorem aIH(b:UInt8):((b.toNat:Int)==112)=(b==112):=by
 rw[Bool.eq_iff_iff,beq_iff_eq,beq_iff_eq];constructor
 ·intro h
  exact UInt8.toNat_inj.1 (by simp;omega)
 ·rintro rfl
  rfl
theorem aEF(g o n ac K:Nat)(hK:K+1=n)(hn:n≤ac):∃Y,(∀W,(Instr.slice 22 (.slice (some ⟨g,o,none⟩) n ac) (some (.int .i64 1)) none none).run Tryz.prog W=.ok (.slice Y K (ac-1)) W)∧∀W (xs:List Value),xs.length=n→Rd W (some ⟨g,o,none⟩) xs→Rd W Y (xs.drop 1):=by
 have hs:∀W,(sizeOf 9).run Tryz.prog W=.ok 1 W:=fun W=>by kernel_rfl
 have he:Tryz.prog.elem 22=9:=by kernel_rfl
 refine⟨if ac=1 then some ⟨g,o,none⟩ else some ⟨g,o+1,none⟩,fun W=>?_,fun W xs hl h hz=>?_⟩
 ·rw[run_slice_l W 22 _ _ _ Tryz.underlying22 .i64 1 (by omega) (by omega),he,hs,Result.andThen_ok]
  unfold sliced;by_cases h0:ac=1
  ·rw[if_pos h0,if_pos (by show ac=(1:Int).toNat;omega),show(1:Int).toNat=1 from rfl,show n-1=K by omega]
  ·rw[if_neg h0,if_neg (by show ¬ac=(1:Int).toNat;omega),show(1:Int).toNat=1 from rfl,show n-1=K by omega]
   simp[Addr.add]
 ·rw[List.length_drop]at hz
  obtain⟨g2,o2,e,J,hc⟩:=h (by omega);cases e;rw[if_neg (by omega)];refine⟨g,o+1,rfl,J,fun j hj=>?_⟩;rw[List.length_drop]at hj;rw[Nat.add_assoc,Nat.add_comm 1 j,hc (j+1) (by omega),List.getElem_drop];simp[Nat.add_comm]
theorem aJe(x:MC)(w:World)(hx:COk w x)(Y:jI w):Calls Tryz.prog 176 #[.agg x.row.toArray] w (dA (sP x.c.tag x.c.args) w):=by
 rcases hc:cutAt x.c.tag.toList with _ | ⟨l,r⟩
 ·rw[aCu hc]
  have HC:=hid (fun w=>aDZ x.c.tag w hc);unfold mW at HC;clear hx Y hc;obtain⟨⟨op,a,b,k,tag,args⟩,aA,ac⟩:=x;unfold MC.row;unfold dA;dsimp only at *;go_enter Tryz.func176,Tryz.ntmps176
  go_wp2_with (refine(HC.out _).mono ?_;rintro e w2 ⟨rfl,a1⟩)
  go_ret;exact⟨rfl,((Fr.refl [] w).alloc _).all.trans (a1.mono (by simp))⟩
 ·obtain⟨P,rfl⟩:∃P:ByteArray,l=P.data.toList:=⟨⟨l.toArray⟩,rfl⟩
  obtain⟨R,rfl⟩:∃R:ByteArray,r=R.data.toList:=⟨⟨r.toArray⟩,rfl⟩;rw[aBd hc];have b6:P.size+1+R.size=x.c.tag.size:=by
   have h2:=(pE hc).2;rw[Lib.toList_data]at h2;have:=congrArg List.length h2;rw[aF,aG,←Lib.size_eq,←Lib.size_eq,←Lib.size_eq]at this;omega
  have az:=hx.t;have HC:=hid (fun w=>aDc x.c.tag P R w hx.t hc);have ae:=hid (fun w=>vN P 0 6 w (by omega));have a8:=hid (fun w=>vN R 0 1 w (by omega));have HA:Hid (∀w' s p,Below w.heap.size w w'→s∈x.c.args→Calls Tryz.prog 204 #[.string s,.bool p] w' (dA (aAZ p s) w')):=hid (fun w' s p hb hs=>aKa s p w' (hx.gs s hs) (bR Y hb));have HR:=hid (fun w' (hb:Below w.heap.size w w')=>hx.g.below hb);have ap:=hx.gc;have ar:=hx.gl;unfold mW at HC;unfold dA at ae a8 HA;clear hx Y hc;obtain⟨⟨op,a,b,k,tag,args⟩,aA,ac⟩:=x;unfold MC.row;unfold dA;dsimp only at *;unfold maxLen at ar az;obtain⟨n,hN⟩:∃n,Hid (n=args.length):=⟨_,hid rfl⟩;rw[←hN.out]at ap ar ⊢;obtain⟨V,hV⟩:∃V,Hid (V=(eD P 0 6&&(eD R 0 1&&(decide (n=P.size+1)&&kH ((if R.data.toList=[112] then 112 else 0) :: P.data.toList) args)))):=⟨_,hid rfl⟩;rw[←hV.out];have af:Hid (∀h:0<args.length,kH ((if R.data.toList=[112] then 112 else 0) :: P.data.toList) args=(aAZ (R.toList==[112]) args[0]&&kH P.data.toList (args.drop 1))):=hid (fun h=>aCX h)
  generalize kH ((if R.data.toList=[112] then 112 else 0) :: P.data.toList) args=R0 at *;generalize eD P 0 6=b1 at *;generalize eD R 0 1=b2 at *;go_enter Tryz.func176,Tryz.ntmps176;go_wp2_with fail;refine(HC.out _).mono ?_;rintro e w2 ⟨rfl,a1⟩;have X2:=(bV.new w 105 #[.int .i64 op,.string a,.string b,.int .i64 k,.string tag,.slice aA n ac]).kept (Fr.of_below a1 []) (by simp);have B2:=hid (((Fr.refl [] w).alloc (.cells #[.int .i64 op,.string a,.string b,.int .i64 k,.string tag,.slice aA n ac] 105)).all.trans (a1.mono (by simp)));clear a1 HC;go_wp2_with fail;refine(ae.out _).mono ?_;rintro e w3 ⟨rfl,a5⟩;have X3:=X2.kept (Fr.of_below a5 []) (by simp);have B3:=hid (B2.out.trans (a5.mono B2.out.size));clear a5 ae X2 B2;rcases b1 with _ | _
  ·clear X3
   go_wp2_with fail;go_ret;exact⟨congrArg (fun b=>Ending.returned (.bool b)) hV.out.symm,B3.out⟩
  go_wp2_with fail;refine(a8.out _).mono ?_;rintro e w4 ⟨rfl,aa⟩;have X4:=X3.kept (Fr.of_below aa []) (by simp);have B4:=hid (B3.out.trans (aa.mono B3.out.size));clear aa a8 X3 B3;rcases b2 with _ | _
  ·clear X4
   go_wp2_with fail;go_ret;exact⟨congrArg (fun b=>Ending.returned (.bool b)) hV.out.symm,B4.out⟩
  have x5:=X4.cell 5;simp only[aL,aJ,aK]at x5;by_cases hn:n=P.size+1
  ·have dn:((n:Int) != (P.size:Int)+1)=false:=by simp;omega
   have J:Hid (V=R0):=hid (by rw[hV.out,aC hn];rfl);have h0:0<args.length:=by have:=hN.out;omega
   have a2:=hid (af.out h0);have hK:P.size+1=n:=by omega
   have a7:=HR.out _ B4.out;obtain⟨g,o,rfl,hg,hcell⟩:=a7 (by rw[aH];exact h0);have aw:=hid a7;have c0:=hcell 0 (by rw[aH];exact h0);rw[List.getElem_map,Nat.add_zero]at c0;obtain⟨A1,sl,ak⟩:=aEF g o n ac P.size hK ap;have ai:=hid (fun p=>HA.out w4 args[0] p B4.out (aR h0));have ad:Hid (∀s∈args.drop 1,s∈args):=hid (fun s hs=>List.mem_of_mem_drop hs);have ao:Hid ((args.drop 1).length=P.size):=hid (by rw[List.length_drop,←hN.out];omega);have HS:=hid (fun W (hb:Below w.heap.size w W)=>ak W (args.map Value.string) (by rw[aH];exact hN.out.symm) (HR.out W hb));rw[←List.map_drop]at HS;generalize args[0] = a0 at *;generalize args.drop 1=rest at *;clear hn af h0 a7 hcell ak HR aw hg;have au:(1:Int)≤(n:Int):=by omega
   have b5:decide ((1:Int)≤(n:Int))=true:=aC au;go_wp2_with fail;refine(ai.out _).mono ?_;rintro e w5 ⟨rfl,a9⟩;have y5:=(a9.cell (p:=⟨w.heap.size,5,none⟩) (block_lt_of_cell x5)).trans x5;have B5:=hid (B4.out.trans (a9.mono B4.out.size));clear a9 ai x5 c0 X4 B4;generalize aAZ (R.toList==[112]) a0=b3 at *;rcases b3 with _ | _
   ·go_wp2_with fail
    go_ret;exact⟨congrArg (fun b=>Ending.returned (.bool b)) (by rw[J.out,a2.out];rfl),B5.out⟩
   rw[Bool.true_and]at a2;have ag:Hid (R0=kH (P.data.toList.drop 0) (rest.drop 0)):=hid a2.out;clear a2;go_wp2_with fail;clear y5 sl;go_loopw [48] (fun i wr=>∃j:Nat,j≤P.size∧i=.int .i64 j∧Hid (R0=kH (P.data.toList.drop j) (rest.drop j))∧Hid (Below w.heap.size w wr)) (fun i _=>P.size-(intOf i).toNat)
   case atStart=>exact⟨0,by omega,rfl,ag,B5⟩
   case round=>
    obtain⟨j,hj,rfl,hf,B6⟩:=hrel;clear ag B5
    rename World=>wr
    by_cases a6:j<P.size
    ·have e1:decide ((j:Int)<(P.size:Int))=true:=aC (by omega)
     have a4:j<rest.length:=by rw[ao.out];exact a6
     obtain⟨g2,o2,rfl,ay,hcell⟩:=(HS.out wr B6.out) (by rw[aH];omega);have c1:=hcell j (by rw[aH];exact a4);rw[List.getElem_map]at c1;have a3:=hid (hf.out.trans (aAL (by rw[←Lib.size_eq];exact a6) a4));have hm:=hid (aIH P[j]);have am:=hid (fun p=>HA.out wr rest[j] p B6.out (ad.out _ (aR a4)));have av:Hid (P.data.toList[j]'(by rw[←Lib.size_eq];exact a6)=P[j]):=hid (by simp;rfl);rw[av.out]at a3;generalize rest[j] = aj at *;clear hcell ay hf a4;go_wp2_with fail;refine(am.out _).mono ?_;rintro e w7 ⟨rfl,ah⟩;have B7:=hid (B6.out.trans (ah.mono B6.out.size));clear ah am c1 B6;rw[hm.out];generalize aAZ (P[j]==112) aj=b4 at *;rcases b4 with _ | _
     ·go_wp2_with fail
      go_ret;exact⟨congrArg (fun b=>Ending.returned (.bool b)) (by rw[J.out,a3.out];rfl),B7.out⟩
     rw[Bool.true_and]at a3;go_wp2_with fail;go_roundw
     case rel=>exact⟨j+1,by omega,by go_num,a3,B7⟩
     case measure=>simp[intOf];omega
    ·obtain rfl:j=P.size:=by omega
     have e1:decide ((P.size:Int)<(P.size:Int))=false:=aB (by omega);have ax:Hid (R0=true):=hid (hf.out.trans (by rw[←ao.out];exact aBb _ _));clear hf;go_wp2_with fail;go_ret;exact⟨congrArg (fun b=>Ending.returned (.bool b)) (by rw[J.out,ax.out]),B6.out⟩
  ·have dn:((n:Int) != (P.size:Int)+1)=true:=by simp;omega
   have J:Hid (V=false):=hid (by rw[hV.out,aB hn];rfl);clear af hn;go_wp2_with fail;go_ret;exact⟨congrArg (fun b=>Ending.returned (.bool b)) J.out.symm,B4.out⟩
theorem zA:∀{l:List UInt8},cutAt l=none→∀b∈l,b≠62
 | [],_,_,h=>by cases h
 | c :: r,h,b,hb=>by
  unfold cutAt at h;by_cases hc:c=62
  ·rw[if_pos hc]at h
   cases h
  ·rw[if_neg hc,Option.map_eq_none_iff]at h
   rcases aM.1 hb with rfl | hb
   ·exact hc
   ·exact zA h b hb
theorem aBA:∀{l a r:List UInt8},cutAt l=some (a,r)→∀b∈a,b≠62
 | [],_,_,h=>by cases h
 | c :: t,a,r,h=>by
  unfold cutAt at h;by_cases hc:c=62
  ·rw[if_pos hc]at h
   cases h;intro b hb;cases hb
  ·rw[if_neg hc]at h
   rcases J:cutAt t with _ | ⟨Y,r'⟩
   ·rw[J]at h
    cases h
   ·rw[J]at h
    cases h;intro b hb;rcases aM.1 hb with rfl | hb
    ·exact hc
    ·exact aBA J b hb
theorem aIS(b:UInt8):((b.toNat:Int)==62)=(b==62):=by
 rw[Bool.eq_iff_iff,beq_iff_eq,beq_iff_eq];constructor
 ·intro h
  exact UInt8.toNat_inj.1 (by simp;omega)
 ·rintro rfl
  rfl
theorem aKJ(s:ByteArray)(w:World)(hs:s.size≤maxLen)(h:cutAt s.toList=none):Calls Tryz.prog 194 #[.string s] w (mW ⟨#[]⟩ ⟨#[]⟩ false w):=by
 rw[Lib.toList_data]at h;have J:=hid (zA h);clear h;unfold maxLen at hs;unfold mW;go_enter Tryz.func194,Tryz.ntmps194;go_wp2_with fail;go_loopw [5] (fun i wr=>∃k:Nat,k≤s.size∧i=.int .i64 k∧w=wr) (fun i _=>s.size-(intOf i).toNat)
 case atStart=>exact⟨0,by omega,rfl,rfl⟩
 case round=>
  obtain⟨k,hk,rfl,rfl⟩:=hrel;by_cases Y:k<s.size
  ·have e1:decide ((k:Int)<(s.size:Int))=true:=aC (by omega)
   have d1:((s[k].toNat:Int)==62)=false:=by
    rw[aIS];have:=J.out s[k] (by simp;exact Array.getElem_mem _)
    simpa using this
   go_wp2_with fail;go_roundw
   case rel=>exact⟨k+1,by omega,by go_num,trivial⟩
   case measure=>simp[intOf];omega
  ·obtain rfl:k=s.size:=by omega
   have e1:decide ((s.size:Int)<(s.size:Int))=false:=aB (by omega);go_wp2_with fail;go_ret3;exact⟨rfl,Below.refl _ _⟩
theorem aI6(s P R:ByteArray)(w:World)(hs:s.size≤maxLen)(h:cutAt s.toList=some (P.data.toList,R.data.toList)):Calls Tryz.prog 194 #[.string s] w (mW P R (eD P 0 6&&(R.toList.isEmpty||(R.toList==[105]||R.toList==[112]))) w):=by
 rw[Lib.toList_data]at h;have h2:=(pE h).2;have a0:=aBA h;have hlen:P.size+1+R.size=s.size:=by
  have:=congrArg List.length h2;rw[aF,aG,←Lib.size_eq,←Lib.size_eq,←Lib.size_eq]at this;omega
 have J:Hid (∀k (hk:k<s.size),k<P.size→((s[k].toNat:Int)==62)=false):=hid (fun k hk a3=>by
  rw[aIS];have h3:s[k] = P[k]:=by
   have Y:s.data.toList[k]? = some s[k]:=by rw[Array.getElem?_toList];exact Array.getElem?_eq_getElem hk
   have e2:P.data.toList[k]? = some P[k]:=by rw[Array.getElem?_toList];exact Array.getElem?_eq_getElem a3
   rw[h2,List.getElem?_append_left (by rw[←Lib.size_eq];exact a3),e2]at Y;exact(Option.some.inj Y).symm
  have:=a0 P[k] (by simp;exact Array.getElem_mem _);rw[h3]
  simpa using this)
 have a7:Hid (∀(hk:P.size<s.size),((s[P.size].toNat:Int)==62)=true):=hid (fun hk=>by
  rw[aIS];have Y:s.data.toList[P.size]? = some s[P.size]:=by rw[Array.getElem?_toList];exact Array.getElem?_eq_getElem hk
  rw[h2,List.getElem?_append_right (by rw[←Lib.size_eq];exact aY _),←Lib.size_eq,Nat.sub_self]at Y;simp at Y;rw[←Y]
  rfl)
 unfold maxLen at hs;have a2:∀W,(Instr.slice 9 (.string s) none (some (.int .i64 (P.size:Int))) none).run Tryz.prog W=.ok (.string P) W:=fun W=>by
  rw[run_slice_string_h (P:=Tryz.prog) W 9 s Tryz.underlying9 .i64 (P.size:Int) (by omega) (by omega)];rw[show s.extract 0 (P.size:Int).toNat=P from aBU (by rw[Lib.extract_data,h2,Int.toNat_natCast,List.drop_zero,Nat.sub_zero,Lib.size_eq,List.take_left])]
 have a1:∀W,(Instr.slice 9 (.string s) (some (.int .i64 ((P.size:Int)+1))) none none).run Tryz.prog W=.ok (.string R) W:=fun W=>by
  rw[run_slice_string_l (P:=Tryz.prog) W 9 s Tryz.underlying9 .i64 ((P.size:Int)+1) (by omega) (by omega)];rw[show s.extract ((P.size:Int)+1).toNat s.size=R from aBU (by rw[Lib.extract_to_end,h2,show((P.size:Int)+1).toNat=P.size+1 by omega,Lib.size_eq,List.drop_append,List.drop_of_length_le (by omega),Nat.add_sub_cancel_left];rfl)]
 have a5:=hid a2;have a6:=hid a1;have HK:=hid (fun w=>tY P 0 6 w (by unfold maxLen;omega) (by decide) (by decide));clear h h2 a0 a2 a1;unfold mW;generalize eD P 0 6=kb at *;obtain⟨Z,hZ⟩:∃Z,Hid ((kb&&(R.toList.isEmpty||(R.toList==[105]||R.toList==[112])))=Z):=⟨_,hid rfl⟩;rw[hZ.out];go_enter Tryz.func194,Tryz.ntmps194;go_wp2_with fail;go_loopw [5] (fun i wr=>∃k:Nat,k≤P.size∧i=.int .i64 k∧w=wr) (fun i _=>s.size-(intOf i).toNat)
 case atStart=>exact⟨0,by omega,rfl,rfl⟩
 case round=>
  obtain⟨k,hk,rfl,rfl⟩:=hrel;have a4:k<s.size:=by omega
  have Y:decide ((k:Int)<(s.size:Int))=true:=aC (by omega);by_cases a8:k<P.size
  ·have d1:=J.out k a4 a8
   go_wp2_with fail;go_roundw
   case rel=>exact⟨k+1,by omega,by go_num,trivial⟩
   case measure=>simp[intOf];omega
  ·obtain rfl:k=P.size:=by omega
   have d1:=a7.out a4;have sl:=a5.out;have sr:=a6.out;clear hlen;rcases kb with _ | _
   ·go_wp2_with fail
    go_quiet ((go_at_call 164;exact Calls.quiet_of_same (HK.out _)));go_wp2_with fail;go_ret3;exact⟨congrArg (fun z=>Ending.returned (.tuple #[.string P,.string R,.bool z])) (show false=Z by rw[←hZ.out];rfl),((Fr.refl [] w).drewN _).all⟩
   rcases q1:R.toList.isEmpty with _ | _
   ·rcases q2:(R.toList==[105])with _ | _
    ·rcases q3:(R.toList==[112])with _ | _
     ·have hz:=hid (show false=Z by rw[←hZ.out,q1,q2,q3];rfl)
      go_wp2_with fail;go_quiet ((go_at_call 164;exact Calls.quiet_of_same (HK.out _)));go_wp2_with fail;go_ret3;exact⟨congrArg (fun z=>Ending.returned (.tuple #[.string P,.string R,.bool z])) hz.out,((Fr.refl [] w).drewN _).all⟩
     ·have hz:=hid (show true=Z by rw[←hZ.out,q1,q2,q3];rfl)
      go_wp2_with fail;go_quiet ((go_at_call 164;exact Calls.quiet_of_same (HK.out _)));go_wp2_with fail;go_ret3;exact⟨congrArg (fun z=>Ending.returned (.tuple #[.string P,.string R,.bool z])) hz.out,((Fr.refl [] w).drewN _).all⟩
    ·have hz:=hid (show true=Z by rw[←hZ.out,q1,q2];rfl)
     go_wp2_with fail;go_quiet ((go_at_call 164;exact Calls.quiet_of_same (HK.out _)));go_wp2_with fail;go_ret3;exact⟨congrArg (fun z=>Ending.returned (.tuple #[.string P,.string R,.bool z])) hz.out,((Fr.refl [] w).drewN _).all⟩
   ·have hz:=hid (show true=Z by rw[←hZ.out,q1];rfl)
    go_wp2_with fail;go_quiet ((go_at_call 164;exact Calls.quiet_of_same (HK.out _)));go_wp2_with fail;go_ret3;exact⟨congrArg (fun z=>Ending.returned (.tuple #[.string P,.string R,.bool z])) hz.out,((Fr.refl [] w).drewN _).all⟩
def aKy(b:Bool):Int:=if b=true then 0 else 3
theorem aJC(R:ByteArray):eD R 0 1=(R.toList.isEmpty||(R.toList==[105]||R.toList==[112])):=by
 rw[aHr,Lib.toList_data];congr 1;cases R.data.toList <;> rfl
def RC(w wr:World)(xs:Array Value):Prop:=Below w.heap.size w wr∧bV wr w.heap.size 105 xs
theorem RC.on{w wr J:World}{xs:Array Value}(h:RC w wr xs)(hb:Below wr.heap.size wr J):RC w J xs:=⟨h.1.trans (hb.mono h.1.size),h.2.kept (Fr.of_below hb []) (by simp)⟩
theorem RC.new(w:World)(xs:Array Value):RC w (w.alloc (.cells xs 105)) xs:=⟨((Fr.refl [] w).alloc _).all,bV.new w _ xs⟩
theorem aGA(x:MC)(w:World)(hx:COk w x):Calls Tryz.prog 166 #[.agg x.row.toArray] w (dG (aKy (decide (x.c.k=0)&&sP x.c.tag x.c.args)) w):=by
 rcases hc:cutAt x.c.tag.toList with _ | ⟨l,r⟩
 ·rw[aCu hc,Bool.and_false]
  have HC:=hid (fun w=>aKJ x.c.tag w hx.t hc);unfold mW at HC;clear hx hc;obtain⟨⟨op,a,b,k,tag,args⟩,aA,ac⟩:=x;unfold MC.row;unfold dG;dsimp only at *;go_enter Tryz.func166,Tryz.ntmps166
  go_wp2_with (refine(HC.out _).mono ?_;rintro e w2 ⟨rfl,a4⟩)
  go_ret;exact⟨rfl,((Fr.refl [] w).alloc _).all.trans (a4.mono (by simp))⟩
 ·obtain⟨P,rfl⟩:∃P:ByteArray,l=P.data.toList:=⟨⟨l.toArray⟩,rfl⟩
  obtain⟨R,rfl⟩:∃R:ByteArray,r=R.data.toList:=⟨⟨r.toArray⟩,rfl⟩;rw[aBd hc];have ar:P.size+1+R.size=x.c.tag.size:=by
   have h2:=(pE hc).2;rw[Lib.toList_data]at h2;have:=congrArg List.length h2;rw[aF,aG,←Lib.size_eq,←Lib.size_eq,←Lib.size_eq]at this;omega
  have am:=hx.t;have HC:=hid (fun w=>aI6 x.c.tag P R w hx.t hc);rw[←aJC]at HC;rw[←Bool.and_assoc (eD P 0 6)];have HA:Hid (∀w' s,s∈x.c.args→Calls Tryz.prog 61 #[.string s] w' (dA (dO s) w')):=hid (fun w' s hs=>jB s w' (hx.gs s hs));have HR:=hid (fun w' (hb:Below w.heap.size w w')=>hx.g.below hb);have af:=hx.gl;unfold mW at HC;unfold dA at HA;clear hx hc;obtain⟨⟨op,a,b,k,tag,args⟩,aA,ac⟩:=x;unfold MC.row;unfold dG;dsimp only at *;unfold maxLen at af am;obtain⟨n,hN⟩:∃n,Hid (n=args.length):=⟨_,hid rfl⟩;rw[←hN.out]at af ⊢;generalize (eD P 0 6&&eD R 0 1)=b1 at *;obtain⟨V,hV⟩:∃V,Hid (V=aKy (decide (k=0)&&(b1&&(decide (n=P.size+1)&&kH ((if R.data.toList=[112] then 112 else 0) :: P.data.toList) args)))):=⟨_,hid rfl⟩;rw[←hV.out];go_enter Tryz.func166,Tryz.ntmps166;go_wp2_with fail;refine(HC.out _).mono ?_;rintro e w2 ⟨rfl,a4⟩;have X2:=hid ((RC.new w #[.int .i64 op,.string a,.string b,.int .i64 k,.string tag,.slice aA n ac]).on a4)
  clear a4 HC;rcases b1 with _ | _
  ·go_wp2_with fail
   go_ret;exact⟨rI (show(3:Int)=V by rw[hV.out,Bool.false_and,Bool.and_false];rfl),X2.out.1⟩
  have x3:=X2.out.2.cell 3;have x5:=X2.out.2.cell 5;simp only[aL,aJ,aK]at x3 x5;by_cases hk:k=0;rotate_left
  ·have dk:(k != 0)=true:=by simpa using hk
   have q:=hid hk;clear hk;go_wp2_with fail;go_ret;exact⟨rI (show(3:Int)=V by rw[hV.out,aB q.out];rfl),X2.out.1⟩
  have dk:(k != 0)=false:=by simpa using hk
  have qk:=hid hk;clear hk;by_cases hn:n=P.size+1;rotate_left
  ·have dn:((n:Int) != (P.size:Int)+1)=true:=by simp;omega
   have q:=hid hn;clear hn;go_wp2_with fail;go_ret;exact⟨rI (show(3:Int)=V by rw[hV.out,aC qk.out,aB q.out];rfl),X2.out.1⟩
  have dn:((n:Int) != (P.size:Int)+1)=false:=by simp;omega
  have a9:Hid (V=aKy (kH ((if R.data.toList=[112] then 112 else 0) :: P.data.toList) args)):=hid (by rw[hV.out,aC qk.out,aC hn];rfl);clear hV qk;have ao:Hid (((if R.data.toList=[112] then 112 else 0) :: P.data.toList:List UInt8).length=n):=hid (by rw[aG,←Lib.size_eq];exact hn.symm)
  have ad:Hid (∀h,(((if R.data.toList=[112] then 112 else 0) :: P.data.toList:List UInt8)[0]'h==112)=(R.toList==[112])):=hid (fun h=>by
   rw[Lib.toList_data];simp only[List.getElem_cons_zero];by_cases h1:R.data.toList=[112]
   ·rw[if_pos h1,h1]
    rfl
   ·rw[if_neg h1]
    simp[h1])
  have ah:Hid (∀m h (h2:m<P.size),(((if R.data.toList=[112] then 112 else 0) :: P.data.toList:List UInt8)[m+1]'h==112)=((P[m].toNat:Int)==112)):=hid (fun m h h2=>by
   rw[aIH]
   congr 1)
  generalize ((if R.data.toList=[112] then 112 else 0) :: P.data.toList:List UInt8)=ks at *;obtain⟨R0,a8⟩:∃R0,Hid (R0=kH (ks.drop 0) (args.drop 0)):=⟨_,hid rfl⟩;have a3:Hid (V=aKy R0):=hid (by rw[a9.out,a8.out];rfl);have ap:n≤P.size+1:=by omega
  clear a9 hn;go_wp2_with fail;clear x3 x5;go_loopw [6,7] (fun i p wr=>∃j:Nat,j≤n∧i=.int .i64 j∧Hid (R0=kH (ks.drop j) (args.drop j))∧Hid (RC w wr #[.int .i64 op,.string a,.string b,.int .i64 k,.string tag,.slice aA n ac])) (fun i _ _=>n-(intOf i).toNat)
  case atStart=>exact⟨0,by omega,rfl,a8,X2⟩
  case round=>
   obtain⟨j,hj,rfl,hf,B6⟩:=hrel;clear a8 X2
   rename World=>wr
   have x5:=B6.out.2.cell 5;simp only[aL,aJ,aK]at x5;by_cases aa:j<n
   ·have e1:decide ((j:Int)<(n:Int))=true:=aC (by omega)
    have a2:j<args.length:=by rw[←hN.out];exact aa
    have ag:j<ks.length:=by rw[ao.out];exact aa
    obtain⟨g2,o2,rfl,ae,hcell⟩:=(HR.out wr B6.out.1) (by rw[aH];omega);have c1:=hcell j (by rw[aH];exact a2);rw[List.getElem_map]at c1;have J:=hid (hf.out.trans (aAL ag a2));have a5:=hid (HA.out wr args[j] (aR a2));have hz:=jL args[j];unfold aAZ at J;rcases Nat.eq_zero_or_pos j with a6 | a6
    ·have hp:=hid (ad.out (by omega))
     have e2:decide (0<j)=false:=aB (by omega);have a1:(ks[j]==112)=(R.toList==[112]):=by
      rw[←ad.out (by omega)];congr 2
     rw[a1]at J;obtain⟨p,a7⟩:∃p,(R.toList==[112])=p:=⟨_,rfl⟩;rw[a7]at J;clear a1 hp a6;generalize args[j] = aj at *;clear hcell ae hf a2;rcases Y:(aj.size==0)with _ | _ <;> rw[Y]at hz J
     ·rw[Bool.false_or]at J
      clear Y;rcases p with _ | _
      ·rw[Bool.false_and,Bool.false_and]at J
       go_wp2_with fail;go_ret;exact⟨rI (show(3:Int)=V by rw[a3.out,J.out];rfl),B6.out.1⟩
      ·rw[Bool.true_and]at J
       go_wp2_with fail;refine a5.out.mono ?_;rintro e w7 ⟨rfl,a0⟩;have B7:=hid (B6.out.on a0);clear a0 a5 c1 B6 x5;generalize dO aj=b4 at *;rcases b4 with _ | _
       ·go_wp2_with fail
        go_ret;exact⟨rI (show(3:Int)=V by rw[a3.out,J.out];rfl),B7.out.1⟩
       rw[Bool.true_and]at J;go_wp2_with fail;go_roundw
       case rel=>exact⟨j+1,by omega,by go_num,J,B7⟩
       case measure=>simp[intOf];omega
     ·rw[Bool.true_or,Bool.true_and]at J
      clear Y;go_wp2_with fail;go_roundw
      case rel=>exact⟨j+1,by omega,by go_num,J,B6⟩
      case measure=>simp[intOf];omega
    ·obtain⟨m,hm⟩:∃m,m+1=j:=⟨j-1,by omega⟩
     have e2:decide (0<j)=true:=aC (by omega);have ak:m<P.size:=by omega
     have a1:(ks[j]==112)=((P[m].toNat:Int)==112):=by
      rw[←ah.out m (by omega) ak];congr 2;exact hm.symm
     rw[a1]at J;obtain⟨p,a7⟩:∃p,((P[m].toNat:Int)==112)=p:=⟨_,rfl⟩;rw[a7]at J;have au:(j:Int)-1=(m:Int):=by omega
     clear a1 a6 hm;generalize args[j] = aj at *;clear hcell ae hf a2;rcases Y:(aj.size==0)with _ | _ <;> rw[Y]at hz J
     ·rw[Bool.false_or]at J
      clear Y;rcases p with _ | _
      ·rw[Bool.false_and,Bool.false_and]at J
       go_wp2_with fail;go_ret;exact⟨rI (show(3:Int)=V by rw[a3.out,J.out];rfl),B6.out.1⟩
      ·rw[Bool.true_and]at J
       go_wp2_with fail;refine a5.out.mono ?_;rintro e w7 ⟨rfl,a0⟩;have B7:=hid (B6.out.on a0);clear a0 a5 c1 B6 x5;generalize dO aj=b4 at *;rcases b4 with _ | _
       ·go_wp2_with fail
        go_ret;exact⟨rI (show(3:Int)=V by rw[a3.out,J.out];rfl),B7.out.1⟩
       rw[Bool.true_and]at J;go_wp2_with fail;go_roundw
       case rel=>exact⟨j+1,by omega,by go_num,J,B7⟩
       case measure=>simp[intOf];omega
     ·rw[Bool.true_or,Bool.true_and]at J
      clear Y;go_wp2_with fail;go_roundw
      case rel=>exact⟨j+1,by omega,by go_num,J,B6⟩
      case measure=>simp[intOf];omega
   ·obtain rfl:j=n:=by omega
    have e1:decide ((j:Int)<(j:Int))=false:=aB (by omega);have ai:Hid (R0=true):=hid (hf.out.trans (by rw[hN.out];exact aBb _ _));clear hf;go_wp2_with fail;go_ret;exact⟨rI (show(0:Int)=V by rw[a3.out,ai.out];rfl),B6.out.1⟩
structure OR(w wr:World)(xs:Array Value)(mb k:Nat)(l:List Mk):Prop where
 fr:Below w.heap.size w wr
 box:bV wr w.heap.size 99 xs
 own:wr.ownsMap (H:=Unit) Tryz.prog 101 unitElem mb k (xP l)
 lt:w.heap.size<mb
theorem OR.alloc{w wr:World}{xs:Array Value}{mb k:Nat}{l:List Mk}(h:OR w wr xs mb k l)(o:Obj):OR w (wr.alloc o) xs mb k l:=
 ⟨h.fr.trans (((Fr.refl [] wr).alloc o).all.mono h.fr.size),h.box.kept ((Fr.refl [] wr).alloc o) (by simp),h.own.alloc o,h.lt⟩
theorem OR.put{w wr Y:World}{xs:Array Value}{mb k:Nat}{l:List Mk}(h:OR w wr xs mb k l)(m:Mk)(ho:Y.ownsMap (H:=Unit) Tryz.prog 101 unitElem mb (k+1) ((xP l).put (mkK m) (.agg [])))(J:wr.grownBy Y (some mb)):OR w Y xs mb (k+1) (l++[m]):=by
 refine⟨h.fr.trans ⟨J.os,J.tape,J.output,J.size,fun i hi=>J.block i (Nat.lt_of_lt_of_le hi h.fr.size) (fun e=>?_)⟩,?_,?_,h.lt⟩
 ·injection e with e
  have:=h.lt;omega
 ·exact(J.block _ h.box.lt (fun e=>by injection e with e;have:=h.lt;omega)).trans h.box
 ·rw[aF4]
  exact ho
theorem aEa(x:MO)(w:World)(hx:MOk w x)(af:jI w):Calls Tryz.prog 119 #[.agg x.row.toArray] w (dG (jQ x.o) w):=by
 have HN:=hid (fun w' (hb:Below w.heap.size w w')=>aKc x.o.name w' hx.n (bR af hb));have HK:=hid (fun w=>vN x.o.kinds 1 64 w hx.k);have HT:Hid (∀m∈x.o.marks,∀w,Calls Tryz.prog 172 #[.string m.tag] w fun e w'=>e=.returned (.bool (sZ m.tag))∧w'=w):=hid (fun m hm w=>aEP m.tag w (hx.mt m hm));have HM:=hid (fun w' (hb:Below w.heap.size w w')=>hx.m.below hb);have HW:Hid (∀m∈x.o.marks,(Lit.int .i64 m.at_).wf=true∧m.tag.size≤maxLen):=hid (fun m hm=>⟨hx.mw m hm,hx.mt m hm⟩);have au:=hx.ml;have ar:=hx.k;unfold maxLen at au ar;unfold dA at HN HK;obtain⟨⟨name,kinds,ms⟩,mA,mc⟩:=x;unfold MO.row;rw[aFs];dsimp only at *;clear hx af;unfold dG;obtain⟨n,hN⟩:∃n,Hid (n=ms.length):=⟨_,hid rfl⟩;rw[←hN.out]at au ⊢;generalize aA0 name=b1 at *;generalize eD kinds 1 64=b2 at *;obtain⟨V,hV⟩:∃V:Int,Hid (V=aKC b1 b2 (aAV ms kinds.size)):=⟨_,hid rfl⟩;rw[←hV.out];have b7:=@run_makeMap Tryz.prog
 go_enter Tryz.func119,Tryz.ntmps119;go_wp2_with fail;refine(HN.out _ ((Fr.refl [] w).alloc (.cells #[.string name,.string kinds,.slice mA n mc] 99)).all).mono ?_;rintro e w2 ⟨rfl,a5⟩;have X2:=(bV.new w 99 #[.string name,.string kinds,.slice mA n mc]).kept (Fr.of_below a5 []) (by simp);have B2:=hid (((Fr.refl [] w).alloc (.cells #[.string name,.string kinds,.slice mA n mc] 99)).all.trans (a5.mono (by simp)));clear a5 HN;rcases b1 with _ | _
 ·clear X2
  go_wp2_with fail;go_ret;exact⟨rI (show(11:Int)=V by rw[hV.out];rfl),B2.out⟩
 have x1:=X2.cell 1;simp only[aL,aJ,aK]at x1;go_wp2_with fail;refine(HK.out _).mono ?_;rintro e w3 ⟨rfl,ak⟩;have X3:=hid (X2.kept (Fr.of_below ak []) (by simp));have B3:=hid (B2.out.trans (ak.mono B2.out.size));clear ak HK X2 B2 x1;rcases b2 with _ | _
 ·clear X3
  go_wp2_with fail;go_ret;exact⟨rI (show(5:Int)=V by rw[hV.out];rfl),B3.out⟩
 have a9:Hid (V=aAV ms kinds.size):=hid (by rw[hV.out];rfl);have R3:Hid (OR w (w3.alloc (.map #[] 0)) #[.string name,.string kinds,.slice mA n mc] w3.heap.size 0 (ms.take 0)):=hid ⟨B3.out.trans (((Fr.refl [] w3).alloc _).all.mono B3.out.size),X3.out.kept ((Fr.refl [] w3).alloc _) (by simp),by rw[List.take_zero,aJj];exact World.ownsMap_made _ _ _ _,X3.out.lt⟩;have x2:=R3.out.box.cell 2;simp only[aL,aJ,aK]at x2;clear X3 B3;have HR:=R3;go_wp2_with fail;clear x2;have ah:Hid (qW ms kinds.size 0):=hid (fun i m hi _=>by omega);go_loopw [4,23] (fun a i wr=>∃k:Nat,k≤n∧i=.int .i64 k∧a=.int .i64 (aC9 ms k)∧Hid (qW ms kinds.size k)∧Hid (OR w wr #[.string name,.string kinds,.slice mA n mc] w3.heap.size k (ms.take k))) (fun _ i _=>n-(intOf i).toNat)
 case atStart=>exact⟨0,by omega,rfl,rfl,ah,HR⟩
 case round=>
  obtain⟨k,hk,rfl,rfl,aj,a7⟩:=hrel;clear ah HR R3
  rename World=>wr
  by_cases ar:k<n
  ·have e1:decide ((k:Int)<(n:Int))=true:=aC (by omega)
   have a3:k<ms.length:=by rw[←hN.out];exact ar
   obtain⟨g,off,rfl,hg,c0,c1⟩:=uI (HM.out wr a7.out.fr) a3;have ae:=HW.out ms[k] (aR a3);have ao:=hid (HT.out ms[k] (aR a3));have J:=hid (aFu a3 aj.out);have Y:=hid (fun h=>aFp (aFx (n:=kinds.size) a3 h));have a0:=hid (fun h=>(aCW (n:=kinds.size) a3).2 ⟨aj.out,h⟩);have b3:=hid (nQ a3);have a8:=aB5 (l:=ms.take k) (fun x hx=>HW.out x (List.mem_of_mem_take hx)) ae;have ap:=hid a8;clear a8;have b6:Hid (ms.take (k+1)=ms.take k++[ms[k]]):=hid (by rw[bC a3]);have ag:=uN ms[k] ae.1 ae.2;have a1:=hid ag;generalize aC9 ms k=yO at *;generalize hl:ms.take k=l at *;generalize ms[k] = m at *;clear hl ae ag a3;obtain⟨dup,a2⟩:∃v,Hid (Maps.has (xP l) (mkK m)=v):=⟨_,hid rfl⟩;rw[a2.out]at ap;obtain⟨at_,tag⟩:=m;unfold mkV at a1;dsimp only at *;have a4:=hid ((a7.out.alloc (.cells #[.int .i64 at_,.string tag] 101)).alloc (.cells #[] 209))
   have y1:=a4.out.box.cell 1;simp only[aL,aJ,aK]at y1;have HO:=hid a7.out.own;have av:Hid (bV ((wr.alloc (.cells #[.int .i64 at_,.string tag] 101)).alloc (.cells #[] 209)) wr.heap.size 101 #[.int .i64 at_,.string tag]):=hid ((bV.new wr 101 #[.int .i64 at_,.string tag]).kept ((Fr.refl [] _).alloc _) (by simp));have az:w3.heap.size<wr.heap.size:=by
    obtain⟨es,clock,hb,_⟩:=a7.out.own;exact(bB.1 hb).1
   have ax:Hid (∀w6,((wr.alloc (.cells #[.int .i64 at_,.string tag] 101)).alloc (.cells #[] 209)).grownBy w6 (some w3.heap.size)→w6.cell? ⟨wr.heap.size,0,none⟩=some (.int .i64 at_)):=hid (fun w6 a6=>(show bV w6 wr.heap.size 101 #[.int .i64 at_,.string tag] from(a6.block _ av.out.lt (fun e=>by injection e with e;omega)).trans av.out).cell 0);clear az;rcases dup with _ | _;rotate_left
   ·have ay:=hid (ap.out.1 rfl)
    have hv:Hid ((3:Int)=V):=hid (by rw[a9.out,Y.out (fun h=>(J.out.1 h).1 ay.out)]);clear Y a0 J
    go_wp2_with (at_lookup;refine wpList_lookup_own_unit _ rfl _ _ 208 rfl 101 209 aAU Tryz.underlying208 (aCF _) w3.heap.size k _ rfl (HO.out.alloc _) _ _ rfl a1.out ?_;rw[a2.out])
    go_ret;exact⟨rI hv.out,a4.out.fr⟩
   have b5:Hid (¬(⟨at_,tag⟩:Mk)∈l):=hid (fun h=>by cases ap.out.2 h);by_cases ha:at_<yO
   ·have d1:decide (at_<yO)=true:=aC ha
    have am:=hid ha;clear ha;have hv:Hid ((3:Int)=V):=hid (by rw[a9.out,Y.out (fun h=>absurd (J.out.1 h).2.1 (Int.not_le.2 am.out))]);clear Y a0 J
    go_wp2_with (at_lookup;refine wpList_lookup_own_unit _ rfl _ _ 208 rfl 101 209 aAU Tryz.underlying208 (aCF _) w3.heap.size k _ rfl (HO.out.alloc _) _ _ rfl a1.out ?_;rw[a2.out])
    go_ret;exact⟨rI hv.out,a4.out.fr⟩
   have d1:decide (at_<yO)=false:=aB ha;have am:=hid (Int.not_lt.1 ha);clear ha;by_cases hb:(kinds.size:Int)≤at_
   ·have d2:decide ((kinds.size:Int)≤at_)=true:=aC hb
    have a5:=hid hb;clear hb;have hv:Hid ((3:Int)=V):=hid (by rw[a9.out,Y.out (fun h=>absurd (J.out.1 h).2.2.1 (Int.not_lt.2 a5.out))]);clear Y a0 J
    go_wp2_with (at_lookup;refine wpList_lookup_own_unit _ rfl _ _ 208 rfl 101 209 aAU Tryz.underlying208 (aCF _) w3.heap.size k _ rfl (HO.out.alloc _) _ _ rfl a1.out ?_;rw[a2.out])
    go_ret;exact⟨rI hv.out,a4.out.fr⟩
   have d2:decide ((kinds.size:Int)≤at_)=false:=aB hb;have a5:=hid (Int.not_le.1 hb);clear hb;rcases ad:sZ tag with _ | _ <;> rw[ad]at ao
   ·have ai:=hid ad
    clear ad;have hv:Hid ((3:Int)=V):=hid (by rw[a9.out,Y.out (fun h=>by have h9:=(J.out.1 h).2.2.2;rw[show sZ _=false from ai.out]at h9;cases h9)]);clear Y a0 J
    go_wp2_with (first | (at_lookup;refine wpList_lookup_own_unit _ rfl _ _ 208 rfl 101 209 aAU Tryz.underlying208 (aCF _) w3.heap.size k _ rfl (HO.out.alloc _) _ _ rfl a1.out ?_;rw[a2.out]) | ((with_reducible refine(ao.out _).mono ?_);rintro e w5 ⟨rfl,rfl⟩) | (at_mapUpdate;refine wpList_mapUpdate_own _ rfl _ _ _ 208 rfl 101 209 aAU Tryz.underlying208 (unitElem (H:=Unit)) w3.heap.size k _ rfl a4.out.own (by unfold maxLen;omega) _ _ _ rfl rfl a1.out (.agg []) [] unitElem_mk ?_;intro w6 aa a6;have z0:=ax.out w6 a6))
    go_ret;exact⟨rI hv.out,a4.out.fr⟩
   have ai:=hid ad;have b4:=hid (a0.out (J.out.2 ⟨b5.out,am.out,a5.out,ai.out⟩));clear ad Y a0 J
   go_wp2_with (first | (at_lookup;refine wpList_lookup_own_unit _ rfl _ _ 208 rfl 101 209 aAU Tryz.underlying208 (aCF _) w3.heap.size k _ rfl (HO.out.alloc _) _ _ rfl a1.out ?_;rw[a2.out]) | ((with_reducible refine(ao.out _).mono ?_);rintro e w5 ⟨rfl,rfl⟩) | (at_mapUpdate;refine wpList_mapUpdate_own _ rfl _ _ _ 208 rfl 101 209 aAU Tryz.underlying208 (unitElem (H:=Unit)) w3.heap.size k _ rfl a4.out.own (by unfold maxLen;omega) _ _ _ rfl rfl a1.out (.agg []) [] unitElem_mk ?_;intro w6 aa a6;have z0:=ax.out w6 a6))
   have aw:=hid (a4.out.put ⟨at_,tag⟩ aa a6);rw[←b6.out]at aw;go_roundw
   case rel=>exact⟨k+1,by omega,by go_num,by rw[b3.out],b4,aw⟩
   case measure=>simp[intOf];omega
  ·obtain rfl:k=n:=by omega
   have e1:decide ((k:Int)<(k:Int))=false:=aB (by omega);have hv:Hid ((0:Int)=V):=hid (by rw[a9.out,aCk (by rw[←hN.out];exact aj.out)]);go_wp2_with fail;go_ret;exact⟨rI hv.out,a7.out.fr⟩
end sy
end Go.Proofs.YtdmmkjijgoiecaaGreatDoor
