import Derived.Test.YtdmmkjijgoiecaaGreatDoorY31
import Derived.Test.YtdmmkjijgoiecaaGreatDoorY33
set_option linter.all false
set_option maxHeartbeats 4000000
namespace Go.Proofs.YtdmmkjijgoiecaaGreatDoor
open Lib(hid)
set_option maxRecDepth 100000
namespace po
open RowKit Go.Sort mem vr
structure PR(w0 w:World)(r b:Nat)(A:Option Addr)(cap:Nat)(S:ByteArray)(p:Nat)(er:Int)(m:List (List UInt8)):Prop where
 rd:RD w r S p er
 box:bV w b 124 #[.slice A m.length cap]
 seg:Seg w 9 A cap (m.map encStr)
 on:Below w0.heap.size w0 w
 hr:w0.heap.size≤r
 hb:w0.heap.size≤b
 ha:∀g∈blk A,w0.heap.size≤g
theorem PR.rb{w0 w:World}{r b:Nat}{A:Option Addr}{cap:Nat}{S:ByteArray}{p:Nat}{er:Int}{m:List (List UInt8)}(h:PR w0 w r b A cap S p er m):r≠b:=by
 rintro rfl;have Y:=h.rd.box;have J:=h.box;unfold bV at Y J;rw[Y]at J;simp at J
theorem PR.step{w0 w w':World}{r b:Nat}{A:Option Addr}{cap:Nat}{S:ByteArray}{p Y:Nat}{er J:Int}{m:List (List UInt8)}(h:PR w0 w r b A cap S p er m)(h2:RD w' r S Y J)(hf:Fr [r] w w'):PR w0 w' r b A cap S Y J m:=by
 have h1:=h.rb;have h3:r∉blk A:=h.seg.ne_box h.rd.box (by decide);exact⟨h2,h.box.kept hf (by simpa using fun e=>h1 e.symm),h.seg.kept hf (fun g hg e=>by rw[aD]at e;subst e;exact h3 hg),h.on.trans (hf.below (by simpa using h.hr) h.on.size),h.hr,h.hb,h.ha⟩
theorem PR.bel{w0 w w':World}{r b:Nat}{A:Option Addr}{cap:Nat}{S:ByteArray}{p:Nat}{er:Int}{m:List (List UInt8)}(h:PR w0 w r b A cap S p er m)(hb:Below w.heap.size w w'):PR w0 w' r b A cap S p er m:=
 ⟨⟨h.rd.box.kept (Fr.of_below hb []) (by simp)⟩,h.box.kept (Fr.of_below hb []) (by simp),h.seg.kept (Fr.of_below hb []) (by simp),h.on.trans (hb.mono h.on.size),h.hr,h.hb,h.ha⟩
theorem PR.pl{w0 w:World}{r b:Nat}{A:Option Addr}{cap:Nat}{S:ByteArray}{p:Nat}{er:Int}{m:List (List UInt8)}(h:PR w0 w r b A cap S p er m):Pl w b A cap m:=⟨h.box,h.seg.rd⟩
def aDN(w0:World)(r b:Nat)(S:ByteArray)(R:Nat×Int×Int×List (List UInt8))(e:Ending)(w':World):Prop:=e=.returned (.int .i64 R.2.2.1)∧∃Y J,PR w0 w' r b Y J S R.1 R.2.1 R.2.2.2
theorem aEi{w0 w':World}{r b:Nat}{S:ByteArray}{R:Nat×Int×Int×List (List UInt8)}{p:Nat}{er d:Int}{m:List (List UInt8)}(J:R=(p,er,d,m)){A:Option Addr}{cap:Nat}(h:PR w0 w' r b A cap S p er m):aDN w0 r b S R (.returned (.int .i64 d)) w':=by
 subst J;exact⟨rfl,A,cap,h⟩
theorem oW(m:List (List UInt8)):m=[]∨∃J x,m=J++[x]:=by
 by_cases h:m=[]
 ·exact Or.inl h
 ·exact Or.inr ⟨m.dropLast,m.getLast h,(List.dropLast_concat_getLast h).symm⟩
theorem zQ(x a:List UInt8)(q:Bool)(h:(Op.bytesLess x a||x==a)=q)(W:World):(binOp .leq 9 (.string ⟨x.toArray⟩) (.string ⟨a.toArray⟩)).run Tryz.prog W=.ok (.bool q) W:=by
 subst h;simp[binOp,Op.stringOp]
theorem aJx(w:World)(b:Nat)(A:Option Addr)(cap:Nat)(m:List (List UInt8))(h:Pl w b A cap m)(hm:m.length≤9223372036854775807) :
 Calls Tryz.prog 156 #[.pointer (some ⟨b,0,none⟩),.int .i64 ((m.length:Int)-1)] w fun e w'=>e=.returned (.tuple #[encStr (m.getLastD []),.bool (decide (m≠[]))])∧w=w':=by
 rcases oW m with rfl | ⟨J,x,rfl⟩
 ·exact aE1 w b A cap [] ((([]:List (List UInt8)).length:Int)-1) h (Or.inl (by simp))
 ·have e:(((J++[x]).length:Int)-1)=((J.length:Nat):Int):=by simp
  have Y:=aIw w b A cap (J++[x]) J.length h (by simp) hm;have e2:(J++[x])[J.length]'(by simp)=x:=by simp
  rw[e2]at Y;rw[e,eH,aC (by simp)];exact Y
theorem aKN{S:ByteArray}{p:Nat}(J:p≤S.size):(tx S p 0).1.data.toList.length≤S.size:=by
 rw[fG];unfold tx;split
 ·exact bA S.size
 ·split
  ·exact bA S.size
  ·split
   ·exact bA S.size
   ·simp only[ByteArray.size_extract]
    omega
theorem aCp{w0 w w3 w4:World}{r b:Nat}{A A3:Option Addr}{cap J:Nat}{S:ByteArray}{p:Nat}{m:List (List UInt8)}{x:List UInt8}(h:PR w0 w r b A cap S p 0 m)(hw:Fr [] w w3)(hs:Seg w4 9 A3 J (m.map encStr++[encStr x]))(f3:Fr (blk A) w3 w4)(a2:blk A3=blk A∨blk A3=[w3.heap.size]) :
 (∃v,w4.cell? ⟨b,0,none⟩=some v)∧w4.frozen? ⟨b,0,none⟩=false∧PR w0 (w4.setCell ⟨b,0,none⟩ (.slice A3 (m.length+1) J)) r b A3 J S p 0 (m++[x]):=by
 have a1:=h.rb;have nb:b∉blk A:=h.seg.ne_box h.box (by decide);have nr:r∉blk A:=h.seg.ne_box h.rd.box (by decide);have hF:Fr (blk A) w w4:=hw.trans f3 (by simp) (fun g hg=>Or.inl hg);have a0:=h.box.kept hF nb;have a3:=h.rd.box.kept hF nr;have n3:b∉blk A3:=hs.ne_box a0 (by decide);have Y:Fr [b] w4 (w4.setCell ⟨b,0,none⟩ (.slice A3 (m.length+1) J)):=(Fr.refl [b] w4).setCell (Or.inl (by simp)) _;have h4:=hw.size;have h5:=h.on.size;refine⟨⟨_,a0.cell 0⟩,a0.free 0,⟨⟨?_⟩,?_,?_,?_,h.hr,h.hb,?_⟩⟩
 ·exact a3.kept Y (by simpa using a1)
 ·have:=a0.put 0 (.slice A3 (m.length+1) J)
  rw[aF];exact this
 ·have:=hs.kept Y (fun g hg e=>by rw[aD]at e;subst e;exact n3 hg)
  rwa[List.map_append]
 ·refine(h.on.trans (hF.below (fun g hg=>h.ha g hg) h5)).trans (Y.below (by simpa using h.hb) ?_)
  exact aZ h5 hF.size
 ·intro g hg
  rcases a2 with e | e
  ·exact h.ha g (e ▸ hg)
  ·rw[e,aD]at hg
   subst hg;omega
theorem aHE(w0 w:World)(r b:Nat)(A:Option Addr)(cap:Nat)(S:ByteArray)(p:Nat)(m:List (List UInt8))(h:PR w0 w r b A cap S p 0 m)(hS:S.size≤200000000)(hp:p≤S.size)(hm:m.length≤6000)(hl:∀x∈m,x.length≤1000) :
 Calls Tryz.prog 153 #[.pointer (some ⟨b,0,none⟩),.pointer (some ⟨r,0,none⟩)] w (aDN w0 r b S (tQ S p m)):=by
 have K1:=hid (aBy w r S p h.rd (by unfold maxLen;omega) hp);unfold aDk at K1;have H0:=hid h;clear h;by_cases c1:nE S p 0=0
 case neg=>
  have hv:tQ S p m=(nP S p 0,nE S p 0,nE S p 0,m):=by unfold tQ;rw[if_pos c1]
  have T:=hid (fun(w':World) A' cap' (h:PR w0 w' r b A' cap' S (nP S p 0) (nE S p 0) m)=>aEi hv h);have d1:(nE S p 0 != 0)=true:=by simpa using c1
  clear hv hl hm hp hS;generalize tQ S p m=R at *;generalize nE S p 0=er at *;generalize nP S p 0=p1 at *;generalize nV S p 0=v at *;go_enter Tryz.func153,Tryz.ntmps153;go_wp2_with fail;refine K1.out.mono ?_;rintro e w1 ⟨rfl,h1,f1⟩;have H1:=hid (H0.out.step h1 f1);clear h1 f1 K1 H0;go_wp2_with fail;go_ret;exact T.out _ _ _ H1.out
 obtain⟨_,a9⟩:=aCQ hp c1;have K2:=hid (fun w' (h:RD w' r S (nP S p 0) 0)=>aFN w' r S (nP S p 0) h (by unfold maxLen;omega) a9);unfold aDk at K2;by_cases c2:(tx S (nP S p 0) 0).2.2=0
 case neg=>
  have hv:tQ S p m=((tx S (nP S p 0) 0).2.1,(tx S (nP S p 0) 0).2.2,(tx S (nP S p 0) 0).2.2,m):=by unfold tQ;rw[if_neg (by simp[c1]),if_pos c2]
  have T:=hid (fun(w':World) A' cap' (h:PR w0 w' r b A' cap' S (tx S (nP S p 0) 0).2.1 (tx S (nP S p 0) 0).2.2 m)=>aEi hv h);have d1:((tx S (nP S p 0) 0).2.2 != 0)=true:=by simpa using c2
  rw[c1]at K1;clear hv hl hm hp hS;generalize tQ S p m=R at *;generalize (tx S (nP S p 0) 0).2.2=er at *;generalize (tx S (nP S p 0) 0).2.1=p2 at *;generalize (tx S (nP S p 0) 0).1=t at *;generalize nP S p 0=p1 at *;generalize nV S p 0=v at *;go_enter Tryz.func153,Tryz.ntmps153;go_wp2_with fail;refine K1.out.mono ?_;rintro e w1 ⟨rfl,h1,f1⟩;have H1:=hid (H0.out.step h1 f1);clear h1 f1 K1 H0;go_wp2_with fail;refine(K2.out _ H1.out.rd).mono ?_;rintro e w2 ⟨rfl,h2,f2⟩;have H2:=hid (H1.out.step h2 f2);clear h2 f2 K2 H1;go_wp2_with fail;go_ret;exact T.out _ _ _ H2.out
 have au:(m.getLastD []).length≤1000:=by
  rcases oW m with rfl | ⟨m',x,rfl⟩
  ·simp
  ·rw[eH];exact hl x (by simp)
 have az:=aKN (S:=S) (p:=nP S p 0) a9;obtain⟨R,J⟩:∃R,tQ S p m=R:=⟨_,rfl⟩;rw[J];unfold tQ at J;rw[if_neg (by simp[c1]),if_neg (by simp[c2])]at J;rw[c1]at K1;rw[c2]at K2;have et:(tx S (nP S p 0) 0).1=⟨(tx S (nP S p 0) 0).1.data.toList.toArray⟩:=(aKR _).symm;rw[et]at K2;have KL:=hid (fun(w':World) p' er' (h:PR w0 w' r b A cap S p' er' m)=>uQ w' b A cap m h.pl);have KA:=hid (fun(w':World) p' er' (h:PR w0 w' r b A cap S p' er' m)=>aJx w' b A cap m h.pl (by omega));clear et c1 c2 hp a9 hl;generalize (tx S (nP S p 0) 0).2.1=p2 at *;generalize (tx S (nP S p 0) 0).1.data.toList=t at *;generalize nP S p 0=p1 at *;generalize nV S p 0=v at *;obtain⟨bh,aa⟩:∃bh,decide (m≠[])=bh:=⟨_,rfl⟩;rw[aa]at KA;generalize m.getLastD [] = a at *;have Y:=hid J.symm;have ag:=hid aa;clear J aa;have b2:IntKind.i64.wrap ((m.length:Int)-1)=(m.length:Int)-1:=IntWalk.i64_in _ (by omega);obtain⟨i0,ae,ar,ao,am⟩:=info_parts Go.Proofs.YtdmmkjijgoiecaaGreatDoor.inn.nX
 have Hi:=hid ae;have ah:=hid ar;have ap:=hid ao;have ak:=hid am;have ad:Hid (m.length=(m.map encStr).length):=hid (by simp);clear ae ar ao am;have T:=hid (fun(w':World) A' cap' p' er' d m' (J:R=(p',er',d,m')) (h:PR w0 w' r b A' cap' S p' er' m')=>aEi J h);go_enter Tryz.func153,Tryz.ntmps153;go_wp2_with fail;refine K1.out.mono ?_;rintro e w1 ⟨rfl,h1,f1⟩;have H1:=hid (H0.out.step h1 f1);clear h1 f1 K1 H0;go_wp2_with fail;refine(K2.out _ H1.out.rd).mono ?_;rintro e w2 ⟨rfl,h2,f2⟩;have H2:=hid (H1.out.step h2 f2);clear h2 f2 K2 H1
 go_wp2_with (go_at_call 45;refine(KL.out _ _ _ H2.out).mono ?_;rintro e w3 ⟨rfl,rfl⟩)
 refine(KA.out _ _ _ H2.out).mono ?_;rintro e w3 ⟨rfl,rfl⟩;clear KL KA;by_cases c3:a.length<v
 case pos=>
  have J:=hid (Y.out.trans (if_pos c3));have d3:decide ((a.length:Int)<(v:Int))=true:=aC (by omega);go_wp2_with fail;go_ret;exact T.out _ _ _ _ _ _ _ J.out H2.out
 have Y:=hid (Y.out.trans (if_neg c3));have d3:decide ((a.length:Int)<(v:Int))=false:=aB (by omega);have aj:(a.take v).length=v:=by rw[List.length_take];omega
 have aw:(a.take v++t).length=v+t.length:=by rw[aF,aj]
 have ax:(ByteArray.mk a.toArray).size=a.length:=by simp[ByteArray.size]
 have b1:∀W,(Instr.slice 9 (.string ⟨a.toArray⟩) none (some (.int .i64 (v:Int))) none).run Tryz.prog W=.ok (.string ⟨(a.take v).toArray⟩) W:=by
  intro W;rw[run_slice_string_h (P:=Tryz.prog) W 9 ⟨a.toArray⟩ Tryz.underlying9 .i64 v (by omega) (by rw[ax];omega)];refine congrArg (fun z=>Result.ok (Value.string z) W) ?_
  apply ByteArray.ext
  apply Array.ext'
  rw[ByteArray.data_extract,Array.toList_extract,List.extract_eq_take_drop];simp
 have q1:¬9223372036854775807<(a.take v).length+t.length:=by rw[aj];omega
 have s1:(ByteArray.mk (a.take v).toArray++ByteArray.mk t.toArray)=ByteArray.mk (a.take v++t).toArray:=ByteArray.mk_append_mk _ _;have KS:=hid (fun w'=>aAK w' a (a.take v++t) (by unfold maxLen;omega) (by rw[aw];unfold maxLen;omega));generalize a.take v++t=x at *;generalize a.take v=a1 at *;by_cases c4:1000<x.length
 case pos=>
  have J:=hid (Y.out.trans (if_pos c4));have d4:decide ((1000:Int)<(x.length:Int))=true:=aC (by omega);go_wp2_with fail;go_ret;exact T.out _ _ _ _ _ _ _ J.out H2.out
 have Y:=hid (Y.out.trans (if_neg c4));have d4:decide ((1000:Int)<(x.length:Int))=false:=aB (by omega);have a3:Op.bytesLess x a=decide (x<a):=mD x a;cases bh with
 | false=>
  have a4:m=[]:=by have:=ag.out;simpa using this
  have a2:¬(m≠[]∧¬a<x):=fun h=>h.1 a4
  clear a3 a4;have Y:=hid (Y.out.trans (if_neg a2));by_cases c6:v<shr a x
  ·have J:=hid (Y.out.trans (if_pos c6))
   have d6:decide ((v:Int)<((shr a x:Nat):Int))=true:=aC (by omega);clear a2 Y;generalize shr a x=u at *;go_wp2_with fail;refine(KS.out _).mono ?_;rintro e w3 ⟨rfl,b3⟩;have H3:=hid (H2.out.bel b3);clear b3 KS H2;go_wp2_with fail;go_ret;exact T.out _ _ _ _ _ _ _ J.out H3.out
  ·have J:=hid (Y.out.trans (if_neg c6))
   have d6:decide ((v:Int)<((shr a x:Nat):Int))=false:=aB (by omega);clear a2 Y;generalize shr a x=u at *;go_wp2_with fail;refine(KS.out _).mono ?_;rintro e w3 ⟨rfl,b3⟩;have H3:=hid (H2.out.bel b3);clear b3 KS H2;have c0:w3.cell? ⟨b,0,none⟩=some (.slice A m.length cap):=H3.out.box.cell 0;have a8:=hid (H3.out.seg.alloc (.cells #[.string ⟨x.toArray⟩] 9));have a6:Hid (Fr [] w3 (w3.alloc (.cells #[.string ⟨x.toArray⟩] 9))):=hid ((Fr.refl [] w3).alloc _);have c1:(w3.alloc (.cells #[.string ⟨x.toArray⟩] 9)).cell? ⟨b,0,none⟩=some (.slice A m.length cap):=(H3.out.box.kept a6.out (by simp)).cell 0
   go_wp2_with (at_builtin
                refine dQ rfl (.tmp 69) (.tmp 71) _ rfl a8.out ad.out Tryz.underlying22 Hi.out ah.out ap.out ak.out rfl rfl rfl (dH _ _ _) rfl (by omega) (by omega) ?_;intro A3 ai w4 a7 f3 a5;have a0:=hid (aCp (x:=x) H3.out a6.out a7 f3 a5);clear a7 f3 a5 c0 c1
                obtain⟨⟨v3,ay⟩,av,_⟩:=a0.out)
   go_ret;exact T.out _ _ _ _ _ _ _ J.out a0.out.2.2
 | true=>
  have a4:m≠[]:=by have:=ag.out;simpa using this
  by_cases c5:a<x
  ·have a2:¬(m≠[]∧¬a<x):=fun h=>h.2 c5
   have e1:Op.bytesLess x a=false:=by rw[a3];exact aB (fun h=>List.lt_irrefl a (List.lt_trans c5 h))
   have e2:(x==a)=false:=by
    rw[bI];rintro rfl;exact List.lt_irrefl _ c5
   have af:=fun W=>zQ x a false (by rw[e1,e2];rfl) W
   clear a3 a4 c5 e1 e2;have Y:=hid (Y.out.trans (if_neg a2));by_cases c6:v<shr a x
   ·have J:=hid (Y.out.trans (if_pos c6))
    have d6:decide ((v:Int)<((shr a x:Nat):Int))=true:=aC (by omega);clear a2 Y;generalize shr a x=u at *;go_wp2_with fail;refine(KS.out _).mono ?_;rintro e w3 ⟨rfl,b3⟩;have H3:=hid (H2.out.bel b3);clear b3 KS H2;go_wp2_with fail;go_ret;exact T.out _ _ _ _ _ _ _ J.out H3.out
   ·have J:=hid (Y.out.trans (if_neg c6))
    have d6:decide ((v:Int)<((shr a x:Nat):Int))=false:=aB (by omega);clear a2 Y;generalize shr a x=u at *;go_wp2_with fail;refine(KS.out _).mono ?_;rintro e w3 ⟨rfl,b3⟩;have H3:=hid (H2.out.bel b3);clear b3 KS H2;have c0:w3.cell? ⟨b,0,none⟩=some (.slice A m.length cap):=H3.out.box.cell 0;have a8:=hid (H3.out.seg.alloc (.cells #[.string ⟨x.toArray⟩] 9));have a6:Hid (Fr [] w3 (w3.alloc (.cells #[.string ⟨x.toArray⟩] 9))):=hid ((Fr.refl [] w3).alloc _);have c1:(w3.alloc (.cells #[.string ⟨x.toArray⟩] 9)).cell? ⟨b,0,none⟩=some (.slice A m.length cap):=(H3.out.box.kept a6.out (by simp)).cell 0
    go_wp2_with (at_builtin
                 refine dQ rfl (.tmp 69) (.tmp 71) _ rfl a8.out ad.out Tryz.underlying22 Hi.out ah.out ap.out ak.out rfl rfl rfl (dH _ _ _) rfl (by omega) (by omega) ?_;intro A3 ai w4 a7 f3 a5;have a0:=hid (aCp (x:=x) H3.out a6.out a7 f3 a5);clear a7 f3 a5 c0 c1
                 obtain⟨⟨v3,ay⟩,av,_⟩:=a0.out)
    go_ret;exact T.out _ _ _ _ _ _ _ J.out a0.out.2.2
  ·have J:=hid (Y.out.trans (if_pos ⟨a4,c5⟩))
   by_cases c7:x<a
   ·have e1:Op.bytesLess x a=true:=by rw[a3];exact aC c7
    have af:=fun W=>zQ x a true (by rw[e1];rfl) W
    clear a3 a4 c5 c7 e1;go_wp2_with fail;go_ret;exact T.out _ _ _ _ _ _ _ J.out H2.out
   ·have e1:Op.bytesLess x a=false:=by rw[a3];exact aB c7
    have e2:(x==a)=true:=by
     rw[beq_iff_eq];rcases Go.Proofs.YtdmmkjijgoiecaaGreatDoor.inn.mP.tot x a with h | h | h
     ·exact absurd h c7
     ·exact h
     ·exact absurd h c5
    have af:=fun W=>zQ x a true (by rw[e1,e2];rfl) W
    clear a3 a4 c5 c7 e1 e2;go_wp2_with fail;go_ret;exact T.out _ _ _ _ _ _ _ J.out H2.out
def kM(w0:World)(r:Nat)(S:ByteArray)(R:Nat×Int×Int×List (List UInt8))(e:Ending)(w':World):Prop:=
 (R.2.2.1=0∧∃b A cap,e=.returned (.tuple #[.pointer (some ⟨b,0,none⟩),.int .i64 0])∧PR w0 w' r b A cap S R.1 R.2.1 R.2.2.2) ∨
 (R.2.2.1≠0∧e=.returned (.tuple #[.pointer none,.int .i64 R.2.2.1])∧(∃er,RD w' r S R.1 er)∧Below w0.heap.size w0 w')
def LI(S:ByteArray)(n:Nat)(R:Nat×Int×Int×List (List UInt8))(k p:Nat)(er d:Int)(m:List (List UInt8)):Prop:=
 (d=0∧er=0∧kK S (n-k) p m=R∧p≤S.size∧(∀x∈m,x.length≤1000)∧m.length≤k)∨(d≠0∧R=(p,er,d,m))
theorem aKj{S:ByteArray}{n k p:Nat}{R:Nat×Int×Int×List (List UInt8)}{m:List (List UInt8)}(h:LI S n R k p 0 0 m)(hk:k<n):LI S n R (k+1) (tQ S p m).1 (tQ S p m).2.1 (tQ S p m).2.2.1 (tQ S p m).2.2.2:=by
 rcases h with⟨_,_,h,hp,hx,hm⟩ | ⟨h,_⟩
 ·obtain⟨j,hj⟩:∃j,n-k=j+1:=⟨n-k-1,by omega⟩
  have J:n-(k+1)=j:=by omega
  rw[hj,kK]at h;rcases ht:tQ S p m with⟨p1,a0,d1,m1⟩;rw[ht]at h;simp only at h ⊢;by_cases hd:d1=0
  ·subst hd
   rw[if_pos rfl]at h;obtain⟨rfl,Y,x,rfl,a1,_,_⟩:=aD6 S p m p1 a0 m1 hp ht;refine Or.inl ⟨rfl,rfl,by rw[J];exact h,Y,fun y hy=>?_,by simp;omega⟩;rcases List.mem_append.1 hy with hy | hy
   ·exact hx y hy
   ·rw[aD]at hy;subst hy;exact a1
  ·rw[if_neg hd]at h
   exact Or.inr ⟨hd,h.symm⟩
 ·exact absurd rfl h
theorem aGJ{w0 w':World}{r b:Nat}{S:ByteArray}{R:Nat×Int×Int×List (List UInt8)}{p:Nat}{er:Int}{m:List (List UInt8)}{A:Option Addr}{cap:Nat}(J:R=(p,er,0,m))(h:PR w0 w' r b A cap S p er m):kM w0 r S R (.returned (.tuple #[.pointer (some ⟨b,0,none⟩),.int .i64 0])) w':=by
 subst J;exact Or.inl ⟨rfl,b,A,cap,rfl,h⟩
theorem rP{w0 w':World}{r:Nat}{S:ByteArray}{R:Nat×Int×Int×List (List UInt8)}{p:Nat}{er d J:Int}{m:List (List UInt8)}(Y:R=(p,er,d,m))(hd:d≠0)(h:RD w' r S p J)(hb:Below w0.heap.size w0 w'):kM w0 r S R (.returned (.tuple #[.pointer none,.int .i64 d])) w':=by
 subst Y;exact Or.inr ⟨hd,rfl,⟨J,h⟩,hb⟩
theorem aMl{w0 w:World}{r:Nat}{S:ByteArray}{p:Nat}{er:Int}(h:RD w r S p er)(on:Below w0.heap.size w0 w)(hr:w0.heap.size≤r):PR w0 (w.alloc (.cells #[.slice none 0 0] 124)) r w.heap.size none 0 S p er []:=
 ⟨⟨h.box.kept ((Fr.refl [] w).alloc _) (by simp)⟩,bV.new w _ _,Seg.nil _ _,on.alloc on.size _,hr,on.size,by simp[blk]⟩
theorem qA(w0 w:World)(r:Nat)(S:ByteArray)(p:Nat)(h:RD w r S p 0)(on:Below w0.heap.size w0 w)(hr:w0.heap.size≤r)(hS:S.size≤200000000)(hp:p≤S.size) :
 Calls Tryz.prog 91 #[.pointer (some ⟨r,0,none⟩)] w (kM w0 r S (kD S p)):=by
 have K1:=hid (aBy w r S p h (by unfold maxLen;omega) hp);unfold aDk at K1;have ON:Hid (∀w',Fr [r] w w'→Below w0.heap.size w0 w'):=hid (fun w' hf=>on.trans (hf.below (by simpa using hr) on.size));have HR:=hid hr;have KF:=hid (fun(w':World) p er d (h:RD w' r S p er)=>rQ w' r S p er d h);have PN:=hid (fun(w':World) p er (h:RD w' r S p er) (on:Below w0.heap.size w0 w')=>aMl h on hr);have FB:Hid (∀(w' w2:World),Below w0.heap.size w0 w'→Fr [r] w' w2→Below w0.heap.size w0 w2):=hid (fun w' w2 on hf=>on.trans (hf.below (by simpa using hr) on.size));clear h on hr;by_cases c1:nE S p 0=0
 case neg=>
  have a6:=(aBp c1).2;have hv:kD S p=(nP S p 0,nE S p 0,nE S p 0,[]):=by unfold kD;rw[if_pos c1]
  have HV:=hid hv;have d1:(nE S p 0==0)=false:=by simpa using c1
  have d2:(nE S p 0 != 0)=true:=by simpa using c1
  have C1:=hid c1;rw[a6]at K1;clear hv c1 a6 hp hS;generalize kD S p=R at *;generalize nE S p 0=er at *;generalize nP S p 0=p1 at *;go_enter Tryz.func91,Tryz.ntmps91;go_wp2_with fail;refine K1.out.mono ?_;rintro e w1 ⟨rfl,h1,f1⟩;have P2:=hid (PN.out w1 p1 er h1 (ON.out w1 f1));clear h1 f1 K1;go_wp2_with fail;go_loopw [5,7] (fun ev i wr=>i=.int .i64 0∧ev=.int .i64 er∧Hid (PR w0 wr r w1.heap.size none 0 S p1 er [])) (fun _ _ _=>0)
  case atStart=>exact⟨rfl,rfl,P2⟩
  case round=>
   obtain⟨rfl,rfl,J⟩:=hrel;rename_i wr _;go_wp2_with fail;refine(KF.out _ _ _ er J.out.rd).mono ?_;rintro e w3 ⟨rfl,h3,f3⟩;have T:=hid (rP HV.out C1.out h3 (FB.out _ _ J.out.on f3));clear h3 f3;go_wp2_with fail;go_ret2;exact T.out
 by_cases c2:6000<nV S p 0
 case pos=>
  have hv:kD S p=(nP S p 0,0,4,[]):=by unfold kD;rw[if_neg (by simp[c1]),if_pos c2]
  have HV:=hid hv;have d1:decide ((6000:Int)<((nV S p 0:Nat):Int))=true:=aC (by omega);have d2:decide ((0:Int)<((nV S p 0:Nat):Int))=true:=aC (by omega);have d3:0<nV S p 0:=by omega
  rw[c1]at K1;clear hv c1 c2 hp hS;generalize kD S p=R at *;generalize nP S p 0=p1 at *;generalize nV S p 0=v at *;go_enter Tryz.func91,Tryz.ntmps91;go_wp2_with fail;refine K1.out.mono ?_;rintro e w1 ⟨rfl,h1,f1⟩;have P2:=hid (PN.out w1 p1 0 h1 (ON.out w1 f1));clear h1 f1 K1;go_wp2_with fail;go_loopw [5,7] (fun ev i wr=>i=.int .i64 0∧ev=.int .i64 4∧Hid (PR w0 wr r w1.heap.size none 0 S p1 0 [])) (fun _ _ _=>0)
  case atStart=>exact⟨rfl,rfl,P2⟩
  case round=>
   obtain⟨rfl,rfl,J⟩:=hrel;rename_i wr _;go_wp2_with fail;refine(KF.out _ _ _ 4 J.out.rd).mono ?_;rintro e w3 ⟨rfl,h3,f3⟩;have T:=hid (rP HV.out (by omega) h3 (FB.out _ _ J.out.on f3));clear h3 f3;go_wp2_with fail;go_ret2;exact T.out
 have hv:kD S p=kK S (nV S p 0) (nP S p 0) []:=by unfold kD;rw[if_neg (by simp[c1]),if_neg c2]
 obtain⟨_,a3⟩:=aCQ hp c1;have L0:Hid (LI S (nV S p 0) (kD S p) 0 (nP S p 0) 0 0 []):=hid (Or.inl ⟨rfl,rfl,by rw[hv];rfl,a3,by simp,by simp⟩);have d1:decide ((6000:Int)<((nV S p 0:Nat):Int))=false:=aB (by omega);rw[c1]at K1;clear hv c1 hp a3;generalize kD S p=R at *;generalize nP S p 0=p1 at *;generalize nV S p 0=v at *;go_enter Tryz.func91,Tryz.ntmps91;go_wp2_with fail;refine K1.out.mono ?_;rintro e w1 ⟨rfl,h1,f1⟩;have P2:=hid (PN.out w1 p1 0 h1 (ON.out w1 f1));clear h1 f1 K1;go_wp2_with fail;go_loopw [5,7] (fun ev i wr=>∃(k q:Nat) (er d:Int) (m:List (List UInt8)) (A:Option Addr) (cap:Nat),k≤v∧i=.int .i64 k∧ev=.int .i64 d∧Hid (PR w0 wr r w1.heap.size A cap S q er m)∧Hid (LI S v R k q er d m)) (fun _ i _=>v-(intOf i).toNat)
 case atStart=>exact⟨0,p1,0,0,[],none,0,by omega,rfl,rfl,P2,L0⟩
 case round=>
  obtain⟨k,q,er,d,m,A,cap,hk,rfl,rfl,J,Y⟩:=hrel;rename_i wr _;by_cases hd:d=0
  ·subst hd
   have h0:er=0:=by
    rcases Y.out with h | ⟨h,_⟩
    ·exact h.2.1
    ·exact absurd rfl h
   subst h0;by_cases a1:k<v
   ·have e1:decide ((k:Int)<(v:Int))=true:=aC (by omega)
    have KT:Hid (Calls Tryz.prog 153 #[.pointer (some ⟨w1.heap.size,0,none⟩),.pointer (some ⟨r,0,none⟩)] wr (aDN w0 r w1.heap.size S (tQ S q m))):=by
     rcases Y.out with⟨_,_,_,hp,hx,hm⟩ | ⟨h,_⟩
     ·exact hid (aHE w0 wr r w1.heap.size A cap S q m J.out hS hp (by omega) hx)
     ·exact absurd rfl h
    have LS:=hid (aKj Y.out a1);clear Y;generalize tQ S q m=U at *;obtain⟨q2,a0,d2,m2⟩:=U;have KT:Hid (Calls Tryz.prog 153 #[.pointer (some ⟨w1.heap.size,0,none⟩),.pointer (some ⟨r,0,none⟩)] wr fun e w'=>e=.returned (.int .i64 d2)∧∃A' a2,PR w0 w' r w1.heap.size A' a2 S q2 a0 m2):=KT;have LS:Hid (LI S v R (k+1) q2 a0 d2 m2):=LS;clear J;go_wp2_with fail;refine KT.out.mono ?_;rintro e w2 ⟨rfl,A2,a4,h2⟩;have P3:=hid h2;clear h2 KT;go_wp2_with fail;go_roundw
    case rel=>exact⟨k+1,q2,a0,d2,m2,A2,a4,by omega,by go_num,rfl,P3,LS⟩
    case measure=>simp[intOf];omega
   ·obtain rfl:k=v:=by omega
    have e1:decide ((k:Int)<(k:Int))=false:=aB (by omega);have hR:R=(q,0,0,m):=by
     rcases Y.out with⟨_,_,h,_⟩ | ⟨h,_⟩
     ·rw[Nat.sub_self,kK]at h
      exact h.symm
     ·exact absurd rfl h
    have T:=hid (aGJ hR J.out);clear hR Y J;go_wp2_with fail;go_ret2;exact T.out
  ·have e2:(d==0)=false:=by simpa using hd
   have e3:(d != 0)=true:=by simpa using hd
   have hR:R=(q,er,d,m):=by
    rcases Y.out with⟨h,_⟩ | ⟨_,h⟩
    ·exact absurd h hd
    ·exact h
   have a5:=hid hR;have HD:=hid hd;clear hR Y hd;by_cases a1:k<v
   ·have e1:decide ((k:Int)<(v:Int))=true:=aC (by omega)
    go_wp2_with fail;refine(KF.out _ _ _ d J.out.rd).mono ?_;rintro e w3 ⟨rfl,h3,f3⟩;have T:=hid (rP a5.out HD.out h3 (FB.out _ _ J.out.on f3));clear h3 f3;go_wp2_with fail;go_ret2;exact T.out
   ·have e1:decide ((k:Int)<(v:Int))=false:=aB (by omega)
    go_wp2_with fail;refine(KF.out _ _ _ d J.out.rd).mono ?_;rintro e w3 ⟨rfl,h3,f3⟩;have T:=hid (rP a5.out HD.out h3 (FB.out _ _ J.out.on f3));clear h3 f3;go_wp2_with fail;go_ret2;exact T.out
end po
end Go.Proofs.YtdmmkjijgoiecaaGreatDoor
