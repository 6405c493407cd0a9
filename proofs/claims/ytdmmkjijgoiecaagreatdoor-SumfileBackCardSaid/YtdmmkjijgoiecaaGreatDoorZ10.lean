import Derived.Test.YtdmmkjijgoiecaaGreatDoorZ03
set_option linter.all false
set_option maxHeartbeats 4000000
namespace Go.Proofs.YtdmmkjijgoiecaaGreatDoor
open Lib(hid)
set_option maxRecDepth 100000
namespace sf
open RowKit Go.Sort Shelf mem sy re
noncomputable def pB(P:Prop):Bool:=@decide P (Classical.propDecidable P)
theorem rY{P:Prop}:pB P=true↔P:=by unfold pB;exact @decide_eq_true_iff P (Classical.propDecidable P)
theorem aMO{P:Prop}(h:¬P):pB P=false:=by
 rcases hb:pB P with _ | _
 ·rfl
 ·exact absurd (rY.1 hb) h
def EqP(P:Prop)(w:World)(e:Ending)(w':World):Prop:=e=.returned (.bool (pB P))∧Below w.heap.size w w'
theorem jG{P:Prop}{w w':World}(h:¬P)(b:Below w.heap.size w w'):EqP P w (.returned (.bool false)) w':=⟨by rw[aMO h],b⟩
theorem zS{P:Prop}{w w':World}(h:P)(b:Below w.heap.size w w'):EqP P w (.returned (.bool true)) w':=⟨by rw[rY.2 h],b⟩
structure aKU:Prop where
 m:∀(a b:Mk) (w:World),(binOp .neq 101 (.agg #[.int .i64 a.at_,.string a.tag]) (.agg #[.int .i64 b.at_,.string b.tag])).run Tryz.prog w=.ok (.bool (!pW a b)) w
 f:∀(a b:SF) (w:World),(binOp .neq 103 (.agg #[.string a.name,.string a.kinds,.string a.ret]) (.agg #[.string b.name,.string b.kinds,.string b.ret])).run Tryz.prog w=.ok (.bool (!aCA a b)) w
 gm:∀(op:BinOp) (x y:Operand) (xs ys:Array Value) (w:World),(eqGuard op 101 x y (.agg xs) (.agg ys)).run Tryz.prog w=.ok () w
 gf:∀(op:BinOp) (x y:Operand) (xs ys:Array Value) (w:World),(eqGuard op 103 x y (.agg xs) (.agg ys)).run Tryz.prog w=.ok () w
theorem aMM{a b:ByteArray}(h:¬a=b):(a.data != b.data)=true:=by
 rw[bne_iff_ne];exact fun e=>h (ByteArray.ext e)
theorem aBq{a b:ByteArray}(h:¬a=b):(a.toList==b.toList)=false:=by
 rw[bI];exact fun e=>h (oV e)
theorem aHC(hm:aKU)(o p:SO)(xA yA:Option Addr)(xc yc:Nat)(w:World)(hx:MOk w ⟨o,xA,xc⟩)(hy:MOk w ⟨p,yA,yc⟩) :
 Calls Tryz.prog 110 #[.agg #[.string o.name,.string o.kinds,.slice xA o.marks.length xc],.agg #[.string p.name,.string p.kinds,.slice yA p.marks.length yc]] w (EqP (o=p) w):=by
 obtain⟨W,J⟩:∃W,Hid (W=(w.alloc (.cells #[.string o.name,.string o.kinds,.slice xA o.marks.length xc] 99)).alloc (.cells #[.string p.name,.string p.kinds,.slice yA p.marks.length yc] 99)):=⟨_,hid rfl⟩;have hz:(w.alloc (.cells #[.string o.name,.string o.kinds,.slice xA o.marks.length xc] 99)).heap.size=w.heap.size+1:=bH _;have b1:Below w.heap.size w (w.alloc (.cells #[.string o.name,.string o.kinds,.slice xA o.marks.length xc] 99)):=(Below.refl _ _).alloc (aY _) _;have b0:Below w.heap.size w W:=by rw[J.out];exact b1.alloc b1.size _
 have BX:bT W w.heap.size 99 #[.string o.name,.string o.kinds,.slice xA o.marks.length xc]:=by rw[J.out];exact(bT.new w _ _).kept ((Fr.refl [] _).alloc _) (by simp)
 have BY:bT W (w.heap.size+1) 99 #[.string p.name,.string p.kinds,.slice yA p.marks.length yc]:=by rw[J.out,←hz];exact bT.new _ _ _
 have HX:Hid (∀Y,Below W.heap.size W Y→zW Y xA 2 (o.marks.map oI)∧zW Y yA 2 (p.marks.map oI)):=hid (fun Y b=>⟨(hx.m.below b0).below b,(hy.m.below b0).below b⟩)
 have HC:Hid (∀Y,Below W.heap.size W Y→Y.cell? ⟨w.heap.size,2,none⟩=some (.slice xA o.marks.length xc)∧Y.cell? ⟨w.heap.size+1,2,none⟩=some (.slice yA p.marks.length yc)):=hid (fun Y b=>⟨(BX.kept (Fr.of_below b []) (by simp)).cell 2,(BY.kept (Fr.of_below b []) (by simp)).cell 2⟩)
 have HE:Hid (∀Y,Below W.heap.size W Y→Below w.heap.size w Y):=hid (fun Y b=>b0.trans (b.mono b0.size))
 have R0:=hid (Below.refl W.heap.size W);have x0:W.cell? ⟨w.heap.size,0,none⟩=some (.string o.name):=BX.cell 0;have x1:W.cell? ⟨w.heap.size,1,none⟩=some (.string o.kinds):=BX.cell 1;have x2:W.cell? ⟨w.heap.size,2,none⟩=some (.slice xA o.marks.length xc):=BX.cell 2;have y0:W.cell? ⟨w.heap.size+1,0,none⟩=some (.string p.name):=BY.cell 0;have y1:W.cell? ⟨w.heap.size+1,1,none⟩=some (.string p.kinds):=BY.cell 1;have y2:W.cell? ⟨w.heap.size+1,2,none⟩=some (.slice yA p.marks.length yc):=BY.cell 2;have a5:=hx.ml;have a9:=hy.ml;unfold maxLen at a5 a9;dsimp only at a5 a9;have HM:=hid hm;have E0:=hid (HE.out W R0.out);clear hx hy b1 b0 BX BY hm
 by_cases s1:o.name=p.name
 rotate_left
 ·have hP:Hid (¬o=p):=hid (fun e=>s1 (congrArg SO.name e))
  have t0:=aMM s1;have a3:=aBq s1;clear HX HC HE R0 HM s1;generalize hQ:(o=p)=Q at *;clear hQ;go_enter Tryz.func110,Tryz.ntmps110;go_upto_region 1 with fail;rw[←J.out]
  try rw[hz]
  go_wp2_with fail;go_ret;exact jG hP.out E0.out
 have t0:(o.name.data != p.name.data)=false:=by rw[s1];simp
 have a3:(o.name.toList==p.name.toList)=true:=by rw[s1];simp
 by_cases s2:o.kinds=p.kinds
 rotate_left
 ·have hP:Hid (¬o=p):=hid (fun e=>s2 (congrArg SO.kinds e))
  have t1:=aMM s2;have a6:=aBq s2;clear HX HC HE R0 HM s1 s2;generalize hQ:(o=p)=Q at *;clear hQ;go_enter Tryz.func110,Tryz.ntmps110;go_upto_region 1 with fail;rw[←J.out]
  try rw[hz]
  go_wp2_with fail;go_ret;exact jG hP.out E0.out
 have t1:(o.kinds.data != p.kinds.data)=false:=by rw[s2];simp
 have a6:(o.kinds.toList==p.kinds.toList)=true:=by rw[s2];simp
 by_cases s3:o.marks.length=p.marks.length
 rotate_left
 ·have hP:Hid (¬o=p):=hid (fun e=>s3 (congrArg (fun z:SO=>z.marks.length) e))
  have t2:((o.marks.length:Int) != (p.marks.length:Int))=true:=by rw[bne_iff_ne];omega
  clear HX HC HE R0 HM s1 s2 s3;generalize hQ:(o=p)=Q at *;clear hQ;generalize o.marks.length=n at *;generalize p.marks.length=n2 at *;go_enter Tryz.func110,Tryz.ntmps110;go_upto_region 1 with fail;rw[←J.out]
  try rw[hz]
  go_wp2_with fail;go_ret;exact jG hP.out E0.out
 have a2:Hid ((∀j (h1:j<o.marks.length) (h2:j<p.marks.length),o.marks[j] = p.marks[j])→o=p):=hid (fun h=>by
  have e:o.marks=p.marks:=List.ext_getElem s3 (fun j h1 h2=>h j h1 h2)
  obtain⟨a,b,c⟩:=o;obtain⟨d,e',f⟩:=p;dsimp only at s1 s2 e
  rw[s1,s2,e])
 have a8:Hid (∀j (h1:j<o.marks.length) (h2:j<p.marks.length),¬o.marks[j] = p.marks[j]→¬o=p):=hid (fun j h1 h2 h e=>h (by subst e;rfl))
 obtain⟨Q,hQ⟩:∃Q,Hid (Q=(o=p)):=⟨_,hid rfl⟩;rw[←hQ.out]at a2 a8 ⊢;rw[←s3]at J y2 HC ⊢;rw[s1]at x0 J hz t0 a3;rw[s2]at x1 J hz t1 a6;rw[s1,s2];clear hQ E0 s1 s2;obtain⟨n,hN⟩:∃n,Hid (n=o.marks.length):=⟨_,hid rfl⟩;rw[←hN.out]at J hz x2 y2 HC a5 ⊢;replace s3:=hid s3;have t2:(((n:Nat):Int) != (n:Int))=false:=by simp
 go_enter Tryz.func110,Tryz.ntmps110;go_upto_region 1 with fail;rw[←J.out]
 try rw[hz]
 clear hz J;generalize a1:w.heap.size=bx at *;replace a1:=hid a1;go_wp2_with fail;clear x0 x1 x2 y0 y1 y2 t0 t1 t2 a3 a6
 go_loopw [5] (fun i wr=>∃k:Nat,k≤n∧i=.int .i64 k∧Hid (∀j (h1:j<o.marks.length) (h2:j<p.marks.length),j<k→o.marks[j] = p.marks[j])∧Hid (Below W.heap.size W wr)) (fun i _=>n-(intOf i).toNat)
 case atStart=>exact⟨0,by omega,rfl,hid (fun j _ _ h=>by omega),R0⟩
 case round=>
  obtain⟨k,hk,rfl,hG,hb⟩:=hrel
  rename World=>wr
  obtain⟨x2,y2⟩:=HC.out wr hb.out
  by_cases af:k<n
  ·have e1:decide ((k:Int)<(n:Int))=true:=aC (by omega)
   have a0:k<o.marks.length:=by rw[←hN.out];exact af
   have a4:k<p.marks.length:=by rw[←s3.out];exact a0
   obtain⟨t1,t2⟩:=HX.out wr hb.out;obtain⟨g1,o1,rfl,ae,c0,c1⟩:=qJ t1 a0;obtain⟨g2,o2,rfl,aa,d0,d1⟩:=qJ t2 a4
   have hY:Hid (o.marks[k] = p.marks[k]→∀j (h1:j<o.marks.length) (h2:j<p.marks.length),j<k+1→o.marks[j] = p.marks[j]):=hid (fun h j h1 h2 hj=>by
    by_cases e:j=k
    ·subst e;exact h
    ·exact hG.out j h1 h2 (by omega))
   have hZ:=hid (a8.out k a0 a4);generalize o.marks[k] = a at *;generalize p.marks[k] = b at *;have EQ:=HM.out.m a b;have GU:=HM.out.gm;clear t1 t2 ae aa a0 a4 hG
   rcases hs:pW a b with _ | _
   ·rw[hs]at EQ
    have hP:Hid (¬Q):=hid (hZ.out (fun e=>by rw[qA.2 e]at hs;cases hs))
    clear hY hZ;go_wp2_with fail
    go_quiet (fail)
    have a7:=hid (HE.out _ (re.below_drewN hb.out hb.out.size nq));go_wp2_with fail;go_ret;exact jG hP.out (by rw[a1.out];exact a7.out)
   ·rw[hs]at EQ
    have ag:=hid (hY.out (qA.1 hs));clear hY hZ;go_wp2_with fail
    go_quiet (fail)
    have a7:=hid (re.below_drewN hb.out hb.out.size nq);go_wp2_with fail
    go_roundw
    case rel=>exact⟨k+1,by omega,by go_num,ag,a7⟩
    case measure=>simp[intOf];omega
  ·obtain rfl:k=n:=by omega
   have e1:decide ((k:Int)<(k:Int))=false:=aB (by omega)
   have E:=hid (HE.out wr hb.out);have hP:Hid Q:=hid (a2.out (fun j h1 h2=>hG.out j h1 h2 (by rw[hN.out];exact h1)))
   go_wp2_with fail;go_ret;exact zS hP.out (by rw[a1.out];exact E.out)
end sf
set_option maxRecDepth 100000
namespace sf
open RowKit Go.Sort Shelf mem sy re
theorem aDO:∀{l:List Int},kL l=0→∀x∈l,x=0
 | [],_,x,J=>by cases J
 | a :: l,h,x,J=>by
  unfold kL at h;split at h
  ·rename_i h0
   rcases aM.1 J with rfl | J
   ·exact h0
   ·exact aDO h x J
  ·rename_i h0
   exact absurd h h0
theorem aAc{a b:Int}(h:jX a b=0):a=b:=by
 unfold jX at h;split at h
 ·simp at h
 split at h
 ·simp at h
 omega
theorem xB{a b:ByteArray}(h:gK a b=0):a=b:=by
 unfold gK at h
 rcases J:lQ a b with _ | _
 ·rcases Y:lQ b a with _ | _
  ·unfold lQ at J Y
   rw[bytesLess_eq]at J Y;simp only[decide_eq_false_iff_not]at J Y;have e:a.toList=b.toList:=by
    rcases inn.nS.tot a.toList b.toList with h | h | h
    ·exact absurd h J
    ·exact h
    ·exact absurd h Y
   exact oV e
  ·rw[J,Y]at h
   simp at h
 ·rw[J]at h
  simp at h
theorem aEz:∀{l m:List ByteArray},l.length=m.length→(∀x∈List.zipWith gK l m,x=0)→l=m
 | [],[],_,_=>rfl
 | [],_ :: _,h,_=>by simp at h
 | _ :: _,[],h,_=>by simp at h
 | a :: l,b :: m,h,hz=>by
  rw[List.zipWith_cons_cons]at hz;rw[xB (hz _ (List.mem_cons_self ..)),aEz (by simpa using h) (fun x J=>hz x (bG _ J))]
theorem aHS{a b:SC}(h:uV a b=0):a=b:=by
 rw[aBO]at h;have h:=aDO h;have Y:=aAc (h (jX a.op b.op) (by simp))
 have e2:=xB (h (gK a.a b.a) (by simp))
 have e3:=xB (h (gK a.b b.b) (by simp))
 have e4:=aAc (h (jX a.k b.k) (by simp))
 have e5:=xB (h (gK a.tag b.tag) (by simp))
 have e6:=aAc (h (jX a.args.length b.args.length) (by simp))
 have J:a.args=b.args:=aEz (by omega) (fun x hx=>h x (by simp[hx]))
 obtain⟨a1,a2,a3,a4,a5,a6⟩:=a;obtain⟨b1,b2,b3,b4,b5,b6⟩:=b;dsimp only at Y e2 e3 e4 e5 J;rw[Y,e2,e3,e4,e5,J]
theorem aJo(hm:aKU)(x y:MS)(w:World)(hx:vO w x)(hy:vO w y)(az:∀c∈x.sys.cons,c.args.length≤8796093022208)(av:∀c∈y.sys.cons,c.args.length≤8796093022208) :
 Calls Tryz.prog 55 #[x.val,y.val] w (EqP (x.sys=y.sys) w):=by
 obtain⟨no,ak⟩:∃n,Hid (n=x.os.length):=⟨_,hid rfl⟩;obtain⟨nf,ah⟩:∃n,Hid (n=x.fs.length):=⟨_,hid rfl⟩;obtain⟨nc,ai⟩:∃n,Hid (n=x.cs.length):=⟨_,hid rfl⟩;obtain⟨mo,au⟩:∃n,Hid (n=y.os.length):=⟨_,hid rfl⟩;obtain⟨mf,ap⟩:∃n,Hid (n=y.fs.length):=⟨_,hid rfl⟩;obtain⟨mc,ao⟩:∃n,Hid (n=y.cs.length):=⟨_,hid rfl⟩;obtain⟨W,aa⟩:∃W,Hid (W=(w.alloc (.cells #[.slice x.oA no x.oc,.slice x.fA nf x.fc,.slice x.cA nc x.cc] 27)).alloc (.cells #[.slice y.oA mo y.oc,.slice y.fA mf y.fc,.slice y.cA mc y.cc] 27)):=⟨_,hid rfl⟩;have b1:Below w.heap.size w (w.alloc (.cells #[.slice x.oA no x.oc,.slice x.fA nf x.fc,.slice x.cA nc x.cc] 27)):=(Below.refl _ _).alloc (aY _) _;have b0:Below w.heap.size w W:=by rw[aa.out];exact b1.alloc b1.size _
 have hz:(w.alloc (.cells #[.slice x.oA no x.oc,.slice x.fA nf x.fc,.slice x.cA nc x.cc] 27)).heap.size=w.heap.size+1:=bH _;have BX:bT W w.heap.size 27 #[.slice x.oA no x.oc,.slice x.fA nf x.fc,.slice x.cA nc x.cc]:=by rw[aa.out];exact(bT.new w _ _).kept ((Fr.refl [] _).alloc _) (by simp)
 have BY:bT W (w.heap.size+1) 27 #[.slice y.oA mo y.oc,.slice y.fA mf y.fc,.slice y.cA mc y.cc]:=by rw[aa.out,←hz];exact bT.new _ _ _
 have HX:Hid (∀J,Below W.heap.size W J→vO J x∧vO J y):=hid (fun J b=>⟨(hx.below b0).below b,(hy.below b0).below b⟩)
 have HC:Hid (∀J,Below W.heap.size W J→(J.cell? ⟨w.heap.size,0,none⟩=some (.slice x.oA no x.oc)∧J.cell? ⟨w.heap.size,1,none⟩=some (.slice x.fA nf x.fc)∧J.cell? ⟨w.heap.size,2,none⟩=some (.slice x.cA nc x.cc))∧J.cell? ⟨w.heap.size+1,0,none⟩=some (.slice y.oA mo y.oc)∧J.cell? ⟨w.heap.size+1,1,none⟩=some (.slice y.fA mf y.fc)∧J.cell? ⟨w.heap.size+1,2,none⟩=some (.slice y.cA mc y.cc)):=hid (fun J b=>by
  have p:=BX.kept (Fr.of_below b []) (by simp)
  have q:=BY.kept (Fr.of_below b []) (by simp)
  exact⟨⟨p.cell 0,p.cell 1,p.cell 2⟩,q.cell 0,q.cell 1,q.cell 2⟩)
 have HE:Hid (∀J,Below W.heap.size W J→Below w.heap.size w J):=hid (fun J b=>b0.trans (b.mono b0.size))
 have R0:=hid (Below.refl W.heap.size W)
 have KO:Hid (∀(k:Nat) (Y:k<x.os.length) (h2:k<y.os.length) (J:World),Below W.heap.size W J→Calls Tryz.prog 110 #[.agg #[.string x.os[k].o.name,.string x.os[k].o.kinds,.slice x.os[k].mA x.os[k].o.marks.length x.os[k].mc],.agg #[.string y.os[k].o.name,.string y.os[k].o.kinds,.slice y.os[k].mA y.os[k].o.marks.length y.os[k].mc]] J (EqP (x.os[k].o=y.os[k].o) J)):=hid (fun k Y h2 J b=>by
  have a1:=(HX.out J b).1.ok _ (aR Y);have a2:=(HX.out J b).2.ok _ (aR h2);generalize x.os[k] = p1 at *;generalize y.os[k] = p2 at *;obtain⟨o1,A1,c1⟩:=p1;obtain⟨o2,A2,c2⟩:=p2
  exact aHC hm o1 o2 A1 A2 c1 c2 J a1 a2)
 have KC:Hid (∀(k:Nat) (Y:k<x.cs.length) (h2:k<y.cs.length) (J:World),Below W.heap.size W J→Calls Tryz.prog 111 #[.agg #[.int .i64 x.cs[k].c.op,.string x.cs[k].c.a,.string x.cs[k].c.b,.int .i64 x.cs[k].c.k,.string x.cs[k].c.tag,.slice x.cs[k].aA x.cs[k].c.args.length x.cs[k].ac],.agg #[.int .i64 y.cs[k].c.op,.string y.cs[k].c.a,.string y.cs[k].c.b,.int .i64 y.cs[k].c.k,.string y.cs[k].c.tag,.slice y.cs[k].aA y.cs[k].c.args.length y.cs[k].ac]] J (fun e w'=>e=.returned (.int .i64 (uV x.cs[k].c y.cs[k].c))∧Below J.heap.size J w')):=hid (fun k Y h2 J b=>by
  have a1:=(HX.out J b).1.ck _ (aR Y);have a2:=(HX.out J b).2.ck _ (aR h2);have a3:=az x.cs[k].c (List.mem_map.2 ⟨_,aR Y,rfl⟩);have a4:=av y.cs[k].c (List.mem_map.2 ⟨_,aR h2,rfl⟩);have h:=uK x.cs[k] y.cs[k] J a1 a2 a3 a4;unfold sy.dD at h
  exact h)
 have HO:Hid (∀(k:Nat) (Y:k<x.os.length) (h2:k<y.os.length) (J:World),Below W.heap.size W J→(∃b off,x.oA=some ⟨b,off,none⟩∧b<J.heap.size∧J.cell? ⟨b,off+k * 3,none⟩=some (.string x.os[k].o.name)∧J.cell? ⟨b,off+k * 3+1,none⟩=some (.string x.os[k].o.kinds)∧J.cell? ⟨b,off+k * 3+2,none⟩=some (.slice x.os[k].mA x.os[k].o.marks.length x.os[k].mc))∧(∃b off,y.oA=some ⟨b,off,none⟩∧b<J.heap.size∧J.cell? ⟨b,off+k * 3,none⟩=some (.string y.os[k].o.name)∧J.cell? ⟨b,off+k * 3+1,none⟩=some (.string y.os[k].o.kinds)∧J.cell? ⟨b,off+k * 3+2,none⟩=some (.slice y.os[k].mA y.os[k].o.marks.length y.os[k].mc))):=hid (fun k Y h2 J b=>⟨iK (HX.out J b).1.o Y,iK (HX.out J b).2.o h2⟩)
 have HF:Hid (∀(k:Nat) (Y:k<x.fs.length) (h2:k<y.fs.length) (J:World),Below W.heap.size W J→(∃b off,x.fA=some ⟨b,off,none⟩∧b<J.heap.size∧J.cell? ⟨b,off+k * 3,none⟩=some (.string x.fs[k].name)∧J.cell? ⟨b,off+k * 3+1,none⟩=some (.string x.fs[k].kinds)∧J.cell? ⟨b,off+k * 3+2,none⟩=some (.string x.fs[k].ret))∧(∃b off,y.fA=some ⟨b,off,none⟩∧b<J.heap.size∧J.cell? ⟨b,off+k * 3,none⟩=some (.string y.fs[k].name)∧J.cell? ⟨b,off+k * 3+1,none⟩=some (.string y.fs[k].kinds)∧J.cell? ⟨b,off+k * 3+2,none⟩=some (.string y.fs[k].ret))):=hid (fun k Y h2 J b=>⟨lS (HX.out J b).1.f Y,lS (HX.out J b).2.f h2⟩)
 have HK:Hid (∀(k:Nat) (Y:k<x.cs.length) (h2:k<y.cs.length) (J:World),Below W.heap.size W J→(∃b off,x.cA=some ⟨b,off,none⟩∧b<J.heap.size∧J.cell? ⟨b,off+k * 6,none⟩=some (.int .i64 x.cs[k].c.op)∧J.cell? ⟨b,off+k * 6+1,none⟩=some (.string x.cs[k].c.a)∧J.cell? ⟨b,off+k * 6+2,none⟩=some (.string x.cs[k].c.b)∧J.cell? ⟨b,off+k * 6+3,none⟩=some (.int .i64 x.cs[k].c.k)∧J.cell? ⟨b,off+k * 6+4,none⟩=some (.string x.cs[k].c.tag)∧J.cell? ⟨b,off+k * 6+5,none⟩=some (.slice x.cs[k].aA x.cs[k].c.args.length x.cs[k].ac))∧(∃b off,y.cA=some ⟨b,off,none⟩∧b<J.heap.size∧J.cell? ⟨b,off+k * 6,none⟩=some (.int .i64 y.cs[k].c.op)∧J.cell? ⟨b,off+k * 6+1,none⟩=some (.string y.cs[k].c.a)∧J.cell? ⟨b,off+k * 6+2,none⟩=some (.string y.cs[k].c.b)∧J.cell? ⟨b,off+k * 6+3,none⟩=some (.int .i64 y.cs[k].c.k)∧J.cell? ⟨b,off+k * 6+4,none⟩=some (.string y.cs[k].c.tag)∧J.cell? ⟨b,off+k * 6+5,none⟩=some (.slice y.cs[k].aA y.cs[k].c.args.length y.cs[k].ac))):=hid (fun k Y h2 J b=>⟨kH (HX.out J b).1.c Y,kH (HX.out J b).2.c h2⟩)
 obtain⟨⟨x0,x1,x2⟩,y0,y1,y2⟩:=HC.out W R0.out;have b2:=hx.ol;have b5:=hx.fl;have b7:=hx.cl;unfold maxLen at b2 b5 b7;have ay:=hy.ol;have aw:=hy.fl;have ax:=hy.cl;unfold maxLen at ay aw ax;have HM:=hid hm
 have a8:Hid (no=mo→nf=mf→nc=mc→(∀k (Y:k<x.os.length) (h2:k<y.os.length),x.os[k].o=y.os[k].o)→(∀k (Y:k<x.fs.length) (h2:k<y.fs.length),x.fs[k] = y.fs[k])→(∀k (Y:k<x.cs.length) (h2:k<y.cs.length),x.cs[k].c=y.cs[k].c)→x.sys=y.sys):=hid (fun l1 l2 l3 Y h2 h3=>by
  have eo:x.os.map MO.o=y.os.map MO.o:=List.ext_getElem (by rw[aH,aH,←ak.out,←au.out];exact l1) (fun j a b=>by rw[List.getElem_map,List.getElem_map];exact Y j _ _)
  have ef:x.fs=y.fs:=List.ext_getElem (by rw[←ah.out,←ap.out];exact l2) (fun j a b=>h2 j _ _)
  have ec:x.cs.map MC.c=y.cs.map MC.c:=List.ext_getElem (by rw[aH,aH,←ai.out,←ao.out];exact l3) (fun j a b=>by rw[List.getElem_map,List.getElem_map];exact h3 j _ _)
  unfold MS.sys
  rw[eo,ef,ec])
 have a0:Hid (x.sys=y.sys→no=mo∧nf=mf∧nc=mc∧(∀k (Y:k<x.os.length) (h2:k<y.os.length),x.os[k].o=y.os[k].o)∧(∀k (Y:k<x.fs.length) (h2:k<y.fs.length),x.fs[k] = y.fs[k])∧(∀k (Y:k<x.cs.length) (h2:k<y.cs.length),x.cs[k].c=y.cs[k].c)):=hid (fun e=>by
  have eo:x.os.map MO.o=y.os.map MO.o:=congrArg SS.objs e;have ef:x.fs=y.fs:=congrArg SS.fns e;have ec:x.cs.map MC.c=y.cs.map MC.c:=congrArg SS.cons e;have lo:x.os.length=y.os.length:=by have:=congrArg List.length eo;simpa using this
  have lc:x.cs.length=y.cs.length:=by have:=congrArg List.length ec;simpa using this
  exact⟨by rw[ak.out,au.out,lo],by rw[ah.out,ap.out,ef],by rw[ai.out,ao.out,lc],fun k Y h2=>aBW MO.o eo Y h2,fun k Y h2=>by have:=aBW id (congrArg (List.map id) ef) Y h2;exact this,fun k Y h2=>aBW MC.c ec Y h2⟩)
 obtain⟨Q,hQ⟩:∃Q,Hid (Q=(x.sys=y.sys)):=⟨_,hid rfl⟩;rw[←hQ.out]at a8 a0 ⊢;unfold MS.val;rw[←ak.out,←ah.out,←ai.out,←au.out,←ap.out,←ao.out];rw[←ak.out]at b2;rw[←ah.out]at b5;rw[←ai.out]at b7;rw[←au.out]at ay;rw[←ap.out]at aw;rw[←ao.out]at ax;have E0:=hid (HE.out W R0.out);clear hx hy b1 b0 hz BX BY hm az av HX hQ
 by_cases l1:no=mo
 rotate_left
 ·have hP:Hid (¬Q):=hid (fun e=>l1 (a0.out e).1)
  have s0:((no:Int) != (mo:Int))=true:=by rw[bne_iff_ne];omega
  clear a8 a0 HE R0 KO KC HO HF HK HM HC l1;go_enter Tryz.func55,Tryz.ntmps55;go_upto_region 1 with fail;rw[←aa.out];go_wp2_with fail;go_ret;exact jG hP.out E0.out
 have s0:((no:Int) != (mo:Int))=false:=by rw[l1];simp
 by_cases l2:nf=mf
 rotate_left
 ·have hP:Hid (¬Q):=hid (fun e=>l2 (a0.out e).2.1)
  have s1:((nf:Int) != (mf:Int))=true:=by rw[bne_iff_ne];omega
  clear a8 a0 HE R0 KO KC HO HF HK HM HC l1 l2;go_enter Tryz.func55,Tryz.ntmps55;go_upto_region 1 with fail;rw[←aa.out];go_wp2_with fail;go_ret;exact jG hP.out E0.out
 have s1:((nf:Int) != (mf:Int))=false:=by rw[l2];simp
 by_cases l3:nc=mc
 rotate_left
 ·have hP:Hid (¬Q):=hid (fun e=>l3 (a0.out e).2.2.1)
  have s2:((nc:Int) != (mc:Int))=true:=by rw[bne_iff_ne];omega
  clear a8 a0 HE R0 KO KC HO HF HK HM HC l1 l2 l3;go_enter Tryz.func55,Tryz.ntmps55;go_upto_region 1 with fail;rw[←aa.out];go_wp2_with fail;go_ret;exact jG hP.out E0.out
 have s2:((nc:Int) != (mc:Int))=false:=by rw[l3];simp
 replace a8:=hid (a8.out l1 l2 l3);replace a0:=hid (fun e=>(a0.out e).2.2.2)
 subst l1 l2 l3;clear ay aw ax E0;unfold EqP at KO;go_enter Tryz.func55,Tryz.ntmps55;go_upto_region 1 with fail;rw[←aa.out];clear aa;generalize aj:w.heap.size=bx at *;replace aj:=hid aj;go_wp2_with fail;clear x0 x1 x2 y0 y1 y2 s0 s1 s2
 go_loopw [5] (fun i wr=>∃k:Nat,k≤no∧i=.int .i64 k∧Hid (∀j (Y:j<x.os.length) (h2:j<y.os.length),j<k→x.os[j].o=y.os[j].o)∧Hid (Below W.heap.size W wr)) (fun i _=>no-(intOf i).toNat)
 case atStart=>exact⟨0,by omega,rfl,hid (fun j _ _ h=>by omega),R0⟩
 case round=>
  obtain⟨k,hk,rfl,hG,hb⟩:=hrel
  rename World=>wr
  by_cases b4:k<no
  ·have e1:decide ((k:Int)<(no:Int))=true:=aC (by omega)
   have Y:k<x.os.length:=by rw[←ak.out];exact b4
   have h2:k<y.os.length:=by rw[←au.out];exact b4
   obtain⟨⟨g1,o1,a1,_,u0,u1,u2⟩,⟨g2,o2,a2,_,v0,v1,v2⟩⟩:=HO.out k Y h2 wr hb.out
   have hY:Hid (x.os[k].o=y.os[k].o→∀j (Y:j<x.os.length) (h2:j<y.os.length),j<k+1→x.os[j].o=y.os[j].o):=hid (fun h j Y h2 hj=>by
    by_cases e:j=k
    ·subst e;exact h
    ·exact hG.out j Y h2 (by omega))
   have hZ:Hid (Q→x.os[k].o=y.os[k].o):=hid (fun q=>(a0.out q).1 k Y h2)
   have ar:=fun(d:Nat) (os:Array Obj)=>Calls.regrown_of (KO.out k Y h2 (grow (redrawn wr d) os) (hb.out.trans ((below_regrown wr d os).mono hb.out.size)))
   have ag:Hid (pB (x.os[k].o=y.os[k].o)=true→x.os[k].o=y.os[k].o):=hid rY.1;have af:Hid (pB (x.os[k].o=y.os[k].o)=false→¬Q):=hid (fun h q=>by rw[rY.2 (hZ.out q)]at h;cases h)
   generalize pB (x.os[k].o=y.os[k].o)=v at *;have KK:=hid ar;clear ar hZ;obtain⟨⟨x0,x1,x2⟩,y0,y1,y2⟩:=HC.out wr hb.out;rw[a1]at x0;rw[a2]at y0;clear x1 x2 y1 y2 a1 a2;clear hG;generalize x.os[k] = p1 at *;generalize y.os[k] = p2 at *;have r0:=cell_regrown x0;have r1:=cell_regrown y0;have r2:=cell_regrown u0;have r3:=cell_regrown u1;have r4:=cell_regrown u2;have r5:=cell_regrown v0;have r6:=cell_regrown v1;have r7:=cell_regrown v2
   rcases v with _ | _
   ·have hP:=hid (af.out rfl)
    clear hY af ag;go_wp2_with fail;refine wp_region_quiet_below (by kernel_rfl) (by kernel_rfl) ?_
    repeat (quiet_step (exact KK.out _ _))
    refine wpQuiet_nil ?_;intro _ ae;obtain⟨⟨dq,a5⟩,a6⟩:=ae;subst a6;have a7:=hid (HE.out _ (hb.out.trans ((below_regrown wr dq a5).mono hb.out.size)));clear r0 r1 r2 r3 r4 r5 r6 r7 u0 u1 u2 v0 v1 v2 x0 y0 KK;generalize grow (redrawn wr dq) a5=wz at *;go_wp2_with fail;go_ret;exact jG hP.out (by rw[aj.out];exact a7.out)
   ·have am:=hid (hY.out (ag.out rfl))
    clear hY af ag;go_wp2_with fail;refine wp_region_quiet_below (by kernel_rfl) (by kernel_rfl) ?_
    repeat (quiet_step (exact KK.out _ _))
    refine wpQuiet_nil ?_;intro _ ae;obtain⟨⟨dq,a5⟩,a6⟩:=ae;subst a6;have a7:=hid (hb.out.trans ((below_regrown wr dq a5).mono hb.out.size));clear r0 r1 r2 r3 r4 r5 r6 r7 u0 u1 u2 v0 v1 v2 x0 y0 KK;generalize grow (redrawn wr dq) a5=wz at *;go_wp2_with fail
    go_roundw
    case rel=>exact⟨k+1,by omega,by go_num,am,a7⟩
    case measure=>simp[intOf];omega
  ·obtain rfl:k=no:=by omega
   have e1:decide ((k:Int)<(k:Int))=false:=aB (by omega)
   obtain⟨⟨x0,x1,x2⟩,y0,y1,y2⟩:=HC.out wr hb.out;go_wp2_with fail;clear x0 x1 x2 y0 y1 y2;have R1:=hb;have hO:=hid (fun j Y h2=>hG.out j Y h2 (by rw[←ak.out]at Y;exact Y))
   clear hG
   go_loopw [6] (fun i wr=>∃k:Nat,k≤nf∧i=.int .i64 k∧Hid (∀j (Y:j<x.fs.length) (h2:j<y.fs.length),j<k→x.fs[j] = y.fs[j])∧Hid (Below W.heap.size W wr)) (fun i _=>nf-(intOf i).toNat)
   case atStart=>exact⟨0,by omega,rfl,hid (fun j _ _ h=>by omega),R1⟩
   case round=>
    obtain⟨j,hj,rfl,hG,a9⟩:=hrel;clear hb R1
    rename World=>ws
    by_cases b6:j<nf
    ·have e2:decide ((j:Int)<(nf:Int))=true:=aC (by omega)
     have Y:j<x.fs.length:=by rw[←ah.out];exact b6
     have h2:j<y.fs.length:=by rw[←ap.out];exact b6
     obtain⟨⟨g1,o1,a1,_,u0,u1,u2⟩,⟨g2,o2,a2,_,v0,v1,v2⟩⟩:=HF.out j Y h2 ws a9.out;obtain⟨⟨x0,x1,x2⟩,y0,y1,y2⟩:=HC.out ws a9.out;rw[a1]at x1;rw[a2]at y1
     have hY:Hid (x.fs[j] = y.fs[j]→∀i (Y:i<x.fs.length) (h2:i<y.fs.length),i<j+1→x.fs[i] = y.fs[i]):=hid (fun h i Y h2 hi=>by
      by_cases e:i=j
      ·subst e;exact h
      ·exact hG.out i Y h2 (by omega))
     have hZ:Hid (Q→x.fs[j] = y.fs[j]):=hid (fun q=>(a0.out q).2.1 j Y h2)
     clear x0 x2 y0 y2 a1 a2 hG;generalize x.fs[j] = a at *;generalize y.fs[j] = c at *;have EQ:=HM.out.f a c;have GU:=HM.out.gf
     rcases hs:aCA a c with _ | _
     ·rw[hs]at EQ
      have hP:Hid (¬Q):=hid (fun q=>by rw[aCL.2 (hZ.out q)]at hs;cases hs)
      clear hY hZ;go_wp2_with fail
      go_quiet (fail)
      have a7:=hid (HE.out _ (re.below_drewN a9.out a9.out.size nq));go_wp2_with fail;go_ret;exact jG hP.out (by rw[aj.out];exact a7.out)
     ·rw[hs]at EQ
      have am:=hid (hY.out (aCL.1 hs));clear hY hZ;go_wp2_with fail
      go_quiet (fail)
      have a7:=hid (re.below_drewN a9.out a9.out.size nq);go_wp2_with fail
      go_roundw
      case rel=>exact⟨j+1,by omega,by go_num,am,a7⟩
      case measure=>simp[intOf];omega
    ·obtain rfl:j=nf:=by omega
     have e2:decide ((j:Int)<(j:Int))=false:=aB (by omega)
     obtain⟨⟨x0,x1,x2⟩,y0,y1,y2⟩:=HC.out ws a9.out;go_wp2_with fail;clear x0 x1 x2 y0 y1 y2;have R2:=a9;have hF:=hid (fun j Y h2=>hG.out j Y h2 (by rw[←ah.out]at Y;exact Y))
     clear hG
     go_loopw [7] (fun i wr=>∃k:Nat,k≤nc∧i=.int .i64 k∧Hid (∀j (Y:j<x.cs.length) (h2:j<y.cs.length),j<k→x.cs[j].c=y.cs[j].c)∧Hid (Below W.heap.size W wr)) (fun i _=>nc-(intOf i).toNat)
     case atStart=>exact⟨0,by omega,rfl,hid (fun j _ _ h=>by omega),R2⟩
     case round=>
      obtain⟨i,hi,rfl,hG,hb⟩:=hrel;clear a9 R2
      rename World=>wt
      by_cases b3:i<nc
      ·have e3:decide ((i:Int)<(nc:Int))=true:=aC (by omega)
       have Y:i<x.cs.length:=by rw[←ai.out];exact b3
       have h2:i<y.cs.length:=by rw[←ao.out];exact b3
       obtain⟨⟨g1,o1,a1,_,u0,u1,u2,u3,u4,u5⟩,⟨g2,o2,a2,_,v0,v1,v2,v3,v4,v5⟩⟩:=HK.out i Y h2 wt hb.out
       have hY:Hid (x.cs[i].c=y.cs[i].c→∀j (Y:j<x.cs.length) (h2:j<y.cs.length),j<i+1→x.cs[j].c=y.cs[j].c):=hid (fun h j Y h2 hj=>by
        by_cases e:j=i
        ·subst e;exact h
        ·exact hG.out j Y h2 (by omega))
       have hZ:Hid (Q→x.cs[i].c=y.cs[i].c):=hid (fun q=>(a0.out q).2.2 i Y h2)
       have ar:=fun(d:Nat) (os:Array Obj)=>Calls.regrown_of (KC.out i Y h2 (grow (redrawn wt d) os) (hb.out.trans ((below_regrown wt d os).mono hb.out.size)))
       have ag:Hid (uV x.cs[i].c y.cs[i].c=0→x.cs[i].c=y.cs[i].c):=hid aHS;have af:Hid (¬uV x.cs[i].c y.cs[i].c=0→¬Q):=hid (fun h q=>h (by rw[hZ.out q];exact aCd _))
       generalize uV x.cs[i].c y.cs[i].c=v at *;have KK:=hid ar;clear ar hZ;obtain⟨⟨x0,x1,x2⟩,y0,y1,y2⟩:=HC.out wt hb.out;rw[a1]at x2;rw[a2]at y2;clear x0 x1 y0 y1 a1 a2;clear hG;generalize x.cs[i] = p1 at *;generalize y.cs[i] = p2 at *;have r0:=cell_regrown x2;have r1:=cell_regrown y2;have r2:=cell_regrown u0;have r3:=cell_regrown u1;have r4:=cell_regrown u2;have r5:=cell_regrown u3;have r6:=cell_regrown u4;have r7:=cell_regrown u5;have q2:=cell_regrown v0;have q3:=cell_regrown v1;have q4:=cell_regrown v2;have q5:=cell_regrown v3;have q6:=cell_regrown v4;have q7:=cell_regrown v5
       by_cases hv:v=0
       ·have q0:(v != 0)=false:=by simpa using hv
        have am:=hid (hY.out (ag.out hv));clear hY af ag hv;go_wp2_with fail;refine wp_region_quiet_below (by kernel_rfl) (by kernel_rfl) ?_
        repeat (quiet_step (exact KK.out _ _))
        refine wpQuiet_nil ?_;intro _ ae;obtain⟨⟨dq,a5⟩,a6⟩:=ae;subst a6;have a7:=hid (hb.out.trans ((below_regrown wt dq a5).mono hb.out.size));clear r0 r1 r2 r3 r4 r5 r6 r7 q2 q3 q4 q5 q6 q7 u0 u1 u2 u3 u4 u5 v0 v1 v2 v3 v4 v5 x2 y2 KK;generalize grow (redrawn wt dq) a5=wz at *;go_wp2_with fail
        go_roundw
        case rel=>exact⟨i+1,by omega,by go_num,am,a7⟩
        case measure=>simp[intOf];omega
       ·have q0:(v != 0)=true:=by simpa using hv
        have hP:=hid (af.out hv);clear hY af ag hv;go_wp2_with fail;refine wp_region_quiet_below (by kernel_rfl) (by kernel_rfl) ?_
        repeat (quiet_step (exact KK.out _ _))
        refine wpQuiet_nil ?_;intro _ ae;obtain⟨⟨dq,a5⟩,a6⟩:=ae;subst a6;have a7:=hid (HE.out _ (hb.out.trans ((below_regrown wt dq a5).mono hb.out.size)));clear r0 r1 r2 r3 r4 r5 r6 r7 q2 q3 q4 q5 q6 q7 u0 u1 u2 u3 u4 u5 v0 v1 v2 v3 v4 v5 x2 y2 KK;generalize grow (redrawn wt dq) a5=wz at *;go_wp2_with fail;go_ret;exact jG hP.out (by rw[aj.out];exact a7.out)
      ·obtain rfl:i=nc:=by omega
       have e3:decide ((i:Int)<(i:Int))=false:=aB (by omega)
       obtain⟨⟨x0,x1,x2⟩,y0,y1,y2⟩:=HC.out wt hb.out;have E:=hid (HE.out wt hb.out);have hP:Hid Q:=hid (a8.out hO.out hF.out (fun j Y h2=>hG.out j Y h2 (by rw[←ai.out]at Y;exact Y)))
       go_wp2_with fail;go_ret;exact zS hP.out (by rw[aj.out];exact E.out)
end sf
end Go.Proofs.YtdmmkjijgoiecaaGreatDoor
