import Derived.Test.YtdmmkjijgoiecaaGreatDoorY44
import Derived.Test.YtdmmkjijgoiecaaGreatDoorY29
set_option linter.all false
set_option maxHeartbeats 4000000
namespace Go.Proofs.YtdmmkjijgoiecaaGreatDoor
open Lib(hid)
set_option maxRecDepth 100000
namespace re
open RowKit Go.Sort Shelf mem sy
theorem aH9{α β:Type}(f:α→β){l m:List α}(h:l.map f=m.map f){k:Nat}(hk:k<l.length)(J:k<m.length):f l[k] = f m[k]:=by
 have Y:(l.map f)[k]? = (m.map f)[k]?:=by rw[h]
 rw[List.getElem?_map,List.getElem?_map,aN hk,aN J]at Y
 simpa using Y
theorem yM(a:Int):lV a a=0:=by
 unfold lV;rw[if_neg (Int.lt_irrefl a),if_neg (Int.lt_irrefl a)]
theorem uV(a:ByteArray):gV a a=0:=by
 have h:mX a a=false:=by
  unfold mX;rw[bytesLess_eq];simp[List.lt_irrefl]
 unfold gV;rw[h];rfl
theorem aBt:∀l:List ByteArray,kR (List.zipWith gV l l++[0])=0
 | []=>rfl
 | a :: l=>by
  rw[List.zipWith_cons_cons,uV];exact aBt l
theorem aGj(a:SC):wT a a=0:=by
 rw[aDe,yM,yM,yM,uV,uV,uV,aS];exact aBt a.args
theorem aDP(hm:aH0)(x y:MS)(w:World)(hx:zD w x)(hy:zD w y)(e:x.sys=y.sys)(ai:∀c∈x.sys.cons,c.args.length≤8796093022208) :
 Calls Tryz.prog 55 #[x.val,y.val] w (dA true w):=by
 have eo:x.os.map MO.o=y.os.map MO.o:=congrArg SS.objs e;have ef:x.fs=y.fs:=congrArg SS.fns e;have ec:x.cs.map MC.c=y.cs.map MC.c:=congrArg SS.cons e;have lo:x.os.length=y.os.length:=by have:=congrArg List.length eo;simpa using this
 have lc:x.cs.length=y.cs.length:=by have:=congrArg List.length ec;simpa using this
 obtain⟨no,a5⟩:∃n,Hid (n=x.os.length):=⟨_,hid rfl⟩;obtain⟨nf,aa⟩:∃n,Hid (n=x.fs.length):=⟨_,hid rfl⟩;obtain⟨nc,a4⟩:∃n,Hid (n=x.cs.length):=⟨_,hid rfl⟩;obtain⟨W,a9⟩:∃W,Hid (W=(w.alloc (.cells #[.slice x.oA no x.oc,.slice x.fA nf x.fc,.slice x.cA nc x.cc] 27)).alloc (.cells #[.slice y.oA no y.oc,.slice y.fA nf y.fc,.slice y.cA nc y.cc] 27)):=⟨_,hid rfl⟩;have b1:Below w.heap.size w (w.alloc (.cells #[.slice x.oA no x.oc,.slice x.fA nf x.fc,.slice x.cA nc x.cc] 27)):=(Below.refl _ _).alloc (aY _) _;have b0:Below w.heap.size w W:=by rw[a9.out];exact b1.alloc b1.size _
 have hz:(w.alloc (.cells #[.slice x.oA no x.oc,.slice x.fA nf x.fc,.slice x.cA nc x.cc] 27)).heap.size=w.heap.size+1:=bH _;have BX:bV W w.heap.size 27 #[.slice x.oA no x.oc,.slice x.fA nf x.fc,.slice x.cA nc x.cc]:=by rw[a9.out];exact(bV.new w _ _).kept ((Fr.refl [] _).alloc _) (by simp)
 have BY:bV W (w.heap.size+1) 27 #[.slice y.oA no y.oc,.slice y.fA nf y.fc,.slice y.cA nc y.cc]:=by rw[a9.out,←hz];exact bV.new _ _ _
 have HX:Hid (∀J,Below W.heap.size W J→zD J x∧zD J y):=hid (fun J b=>⟨(hx.below b0).below b,(hy.below b0).below b⟩)
 have HC:Hid (∀J,Below W.heap.size W J→(J.cell? ⟨w.heap.size,0,none⟩=some (.slice x.oA no x.oc)∧J.cell? ⟨w.heap.size,1,none⟩=some (.slice x.fA nf x.fc)∧J.cell? ⟨w.heap.size,2,none⟩=some (.slice x.cA nc x.cc))∧J.cell? ⟨w.heap.size+1,0,none⟩=some (.slice y.oA no y.oc)∧J.cell? ⟨w.heap.size+1,1,none⟩=some (.slice y.fA nf y.fc)∧J.cell? ⟨w.heap.size+1,2,none⟩=some (.slice y.cA nc y.cc)):=hid (fun J b=>by
  have p:=BX.kept (Fr.of_below b []) (by simp);have q:=BY.kept (Fr.of_below b []) (by simp)
  exact⟨⟨p.cell 0,p.cell 1,p.cell 2⟩,q.cell 0,q.cell 1,q.cell 2⟩)
 have HE:Hid (∀J,Below W.heap.size W J→Below w.heap.size w J):=hid (fun J b=>b0.trans (b.mono b0.size));have R0:=hid (Below.refl W.heap.size W)
 have KO:Hid (∀(k:Nat) (Y:k<x.os.length) (h2:k<y.os.length) (J:World),Below W.heap.size W J→Calls Tryz.prog 110 #[.agg #[.string x.os[k].o.name,.string x.os[k].o.kinds,.slice x.os[k].mA x.os[k].o.marks.length x.os[k].mc],.agg #[.string y.os[k].o.name,.string y.os[k].o.kinds,.slice y.os[k].mA y.os[k].o.marks.length y.os[k].mc]] J (dA true J)):=hid (fun k Y h2 J b=>by
  have q:=aH9 MO.o eo Y h2;have a1:=(HX.out J b).1.ok _ (aR Y);have a2:=(HX.out J b).2.ok _ (aR h2);generalize x.os[k] = p1 at *;generalize y.os[k] = p2 at *;obtain⟨o1,A1,c1⟩:=p1;obtain⟨o2,A2,c2⟩:=p2;dsimp only at q ⊢;subst q
  exact aCx hm o1 A1 A2 c1 c2 J a1 a2)
 have KC:Hid (∀(k:Nat) (Y:k<x.cs.length) (h2:k<y.cs.length) (J:World),Below W.heap.size W J→Calls Tryz.prog 111 #[.agg #[.int .i64 x.cs[k].c.op,.string x.cs[k].c.a,.string x.cs[k].c.b,.int .i64 x.cs[k].c.k,.string x.cs[k].c.tag,.slice x.cs[k].aA x.cs[k].c.args.length x.cs[k].ac],.agg #[.int .i64 y.cs[k].c.op,.string y.cs[k].c.a,.string y.cs[k].c.b,.int .i64 y.cs[k].c.k,.string y.cs[k].c.tag,.slice y.cs[k].aA y.cs[k].c.args.length y.cs[k].ac]] J (fun e w'=>e=.returned (.int .i64 0)∧Below J.heap.size J w')):=hid (fun k Y h2 J b=>by
  have q:=aH9 MC.c ec Y h2;have a1:=(HX.out J b).1.ck _ (aR Y);have a2:=(HX.out J b).2.ck _ (aR h2);have a3:=ai x.cs[k].c (List.mem_map.2 ⟨_,aR Y,rfl⟩);have h:=xL x.cs[k] y.cs[k] J a1 a2 a3 (by rw[←q];exact a3);unfold sy.dG at h;rw[←q,aGj]at h
  exact h)
 have HO:Hid (∀(k:Nat) (Y:k<x.os.length) (J:World),Below W.heap.size W J→∃h2:k<y.os.length,(∃b off,x.oA=some ⟨b,off,none⟩∧b<J.heap.size∧J.cell? ⟨b,off+k * 3,none⟩=some (.string x.os[k].o.name)∧J.cell? ⟨b,off+k * 3+1,none⟩=some (.string x.os[k].o.kinds)∧J.cell? ⟨b,off+k * 3+2,none⟩=some (.slice x.os[k].mA x.os[k].o.marks.length x.os[k].mc))∧(∃b off,y.oA=some ⟨b,off,none⟩∧b<J.heap.size∧J.cell? ⟨b,off+k * 3,none⟩=some (.string y.os[k].o.name)∧J.cell? ⟨b,off+k * 3+1,none⟩=some (.string y.os[k].o.kinds)∧J.cell? ⟨b,off+k * 3+2,none⟩=some (.slice y.os[k].mA y.os[k].o.marks.length y.os[k].mc))):=hid (fun k Y J b=>⟨by omega,kS (HX.out J b).1.o Y,kS (HX.out J b).2.o (by omega)⟩);have HF:Hid (∀(k:Nat) (Y:k<x.fs.length) (J:World),Below W.heap.size W J→(∃b off,x.fA=some ⟨b,off,none⟩∧b<J.heap.size∧J.cell? ⟨b,off+k * 3,none⟩=some (.string x.fs[k].name)∧J.cell? ⟨b,off+k * 3+1,none⟩=some (.string x.fs[k].kinds)∧J.cell? ⟨b,off+k * 3+2,none⟩=some (.string x.fs[k].ret))∧(∃b off,y.fA=some ⟨b,off,none⟩∧b<J.heap.size∧J.cell? ⟨b,off+k * 3,none⟩=some (.string x.fs[k].name)∧J.cell? ⟨b,off+k * 3+1,none⟩=some (.string x.fs[k].kinds)∧J.cell? ⟨b,off+k * 3+2,none⟩=some (.string x.fs[k].ret))):=hid (fun k Y J b=>⟨oC (HX.out J b).1.f Y,oC (fs:=x.fs) (by rw[ef];exact(HX.out J b).2.f) Y⟩)
 have HK:Hid (∀(k:Nat) (Y:k<x.cs.length) (J:World),Below W.heap.size W J→∃h2:k<y.cs.length,(∃b off,x.cA=some ⟨b,off,none⟩∧b<J.heap.size∧J.cell? ⟨b,off+k * 6,none⟩=some (.int .i64 x.cs[k].c.op)∧J.cell? ⟨b,off+k * 6+1,none⟩=some (.string x.cs[k].c.a)∧J.cell? ⟨b,off+k * 6+2,none⟩=some (.string x.cs[k].c.b)∧J.cell? ⟨b,off+k * 6+3,none⟩=some (.int .i64 x.cs[k].c.k)∧J.cell? ⟨b,off+k * 6+4,none⟩=some (.string x.cs[k].c.tag)∧J.cell? ⟨b,off+k * 6+5,none⟩=some (.slice x.cs[k].aA x.cs[k].c.args.length x.cs[k].ac))∧(∃b off,y.cA=some ⟨b,off,none⟩∧b<J.heap.size∧J.cell? ⟨b,off+k * 6,none⟩=some (.int .i64 y.cs[k].c.op)∧J.cell? ⟨b,off+k * 6+1,none⟩=some (.string y.cs[k].c.a)∧J.cell? ⟨b,off+k * 6+2,none⟩=some (.string y.cs[k].c.b)∧J.cell? ⟨b,off+k * 6+3,none⟩=some (.int .i64 y.cs[k].c.k)∧J.cell? ⟨b,off+k * 6+4,none⟩=some (.string y.cs[k].c.tag)∧J.cell? ⟨b,off+k * 6+5,none⟩=some (.slice y.cs[k].aA y.cs[k].c.args.length y.cs[k].ac))):=hid (fun k Y J b=>⟨by omega,nA (HX.out J b).1.c Y,nA (HX.out J b).2.c (by omega)⟩)
 obtain⟨⟨x0,x1,x2⟩,y0,y1,y2⟩:=HC.out W R0.out;have mo:=hx.ol;have mf:=hx.fl;have mc:=hx.cl;unfold maxLen at mo mf mc;have HM:=hid hm;unfold MS.val;rw[←lo,←lc,←ef,←a5.out,←aa.out,←a4.out];rw[←a5.out]at mo;rw[←aa.out]at mf;rw[←a4.out]at mc;clear hx hy e eo ef ec lo lc b1 b0 hz BX BY hm ai HX;unfold dA at KO ⊢;have s0:(((no:Nat):Int) != (no:Int))=false:=by simp
 have s1:(((nf:Nat):Int) != (nf:Int))=false:=by simp
 have s2:(((nc:Nat):Int) != (nc:Int))=false:=by simp
 go_enter Tryz.func55,Tryz.ntmps55;go_upto_region 1 with fail;rw[←a9.out];clear a9;generalize af:w.heap.size=bx at *;replace af:=hid af;go_wp2_with fail;clear x0 x1 x2 y0 y1 y2 s0 s1 s2;go_loopw [5] (fun i wr=>∃k:Nat,k≤no∧i=.int .i64 k∧Hid (Below W.heap.size W wr)) (fun i _=>no-(intOf i).toNat)
 case atStart=>exact⟨0,by omega,rfl,R0⟩
 case round=>
  obtain⟨k,hk,rfl,hb⟩:=hrel
  rename World=>wr
  by_cases ae:k<no
  ·have e1:decide ((k:Int)<(no:Int))=true:=aC (by omega)
   obtain⟨h2,⟨g1,o1,a1,_,u0,u1,u2⟩,⟨g2,o2,a2,_,v0,v1,v2⟩⟩:=HO.out k (by rw[←a5.out];exact ae) wr hb.out;have KK:=hid (fun(d:Nat) (os:Array Obj)=>Calls.regrown_of (KO.out k (by rw[←a5.out];exact ae) h2 (grow (redrawn wr d) os) (hb.out.trans ((below_regrown wr d os).mono hb.out.size))));obtain⟨⟨x0,x1,x2⟩,y0,y1,y2⟩:=HC.out wr hb.out;rw[a1]at x0;rw[a2]at y0;clear x1 x2 y1 y2 a1 a2;generalize x.os[k]'(by rw[←a5.out];exact ae)=p1 at *;generalize y.os[k] = p2 at *;have r0:=cell_regrown x0;have r1:=cell_regrown y0;have r2:=cell_regrown u0;have r3:=cell_regrown u1;have r4:=cell_regrown u2;have r5:=cell_regrown v0;have r6:=cell_regrown v1;have r7:=cell_regrown v2;go_wp2_with fail;refine wp_region_quiet_below (by kernel_rfl) (by kernel_rfl) ?_
   repeat (quiet_step (exact KK.out _ _))
   refine wpQuiet_nil ?_;intro _ ag;obtain⟨⟨dq,a8⟩,a7⟩:=ag;subst a7;have a6:=hid (hb.out.trans ((below_regrown wr dq a8).mono hb.out.size));clear r0 r1 r2 r3 r4 r5 r6 r7 u0 u1 u2 v0 v1 v2 x0 y0 KK;generalize grow (redrawn wr dq) a8=wz at *;go_wp2_with fail;go_roundw
   case rel=>exact⟨k+1,by omega,by go_num,a6⟩
   case measure=>simp[intOf];omega
  ·obtain rfl:k=no:=by omega
   have e1:decide ((k:Int)<(k:Int))=false:=aB (by omega);obtain⟨⟨x0,x1,x2⟩,y0,y1,y2⟩:=HC.out wr hb.out;go_wp2_with fail;clear x0 x1 x2 y0 y1 y2;have R1:=hb;go_loopw [6] (fun i wr=>∃k:Nat,k≤nf∧i=.int .i64 k∧Hid (Below W.heap.size W wr)) (fun i _=>nf-(intOf i).toNat)
   case atStart=>exact⟨0,by omega,rfl,R1⟩
   case round=>
    obtain⟨j,hj,rfl,a0⟩:=hrel;clear hb R1
    rename World=>ws
    by_cases ah:j<nf
    ·have e2:decide ((j:Int)<(nf:Int))=true:=aC (by omega)
     obtain⟨⟨g1,o1,a1,_,u0,u1,u2⟩,⟨g2,o2,a2,_,v0,v1,v2⟩⟩:=HF.out j (by rw[←aa.out];exact ah) ws a0.out;obtain⟨⟨x0,x1,x2⟩,y0,y1,y2⟩:=HC.out ws a0.out;rw[a1]at x1;rw[a2]at y1;clear x0 x2 y0 y2 a1 a2;generalize x.fs[j]'(by rw[←aa.out];exact ah)=a at *;have EQ:=HM.out.f a;have GU:=HM.out.gf;go_wp2_with fail;go_quiet (fail);have a6:=hid (below_drewN a0.out a0.out.size nq);go_wp2_with fail;go_roundw
     case rel=>exact⟨j+1,by omega,by go_num,a6⟩
     case measure=>simp[intOf];omega
    ·obtain rfl:j=nf:=by omega
     have e2:decide ((j:Int)<(j:Int))=false:=aB (by omega);obtain⟨⟨x0,x1,x2⟩,y0,y1,y2⟩:=HC.out ws a0.out;go_wp2_with fail;clear x0 x1 x2 y0 y1 y2;have R2:=a0;go_loopw [7] (fun i wr=>∃k:Nat,k≤nc∧i=.int .i64 k∧Hid (Below W.heap.size W wr)) (fun i _=>nc-(intOf i).toNat)
     case atStart=>exact⟨0,by omega,rfl,R2⟩
     case round=>
      obtain⟨i,hi,rfl,hb⟩:=hrel;clear a0 R2
      rename World=>wt
      by_cases ad:i<nc
      ·have e3:decide ((i:Int)<(nc:Int))=true:=aC (by omega)
       obtain⟨h2,⟨g1,o1,a1,_,u0,u1,u2,u3,u4,u5⟩,⟨g2,o2,a2,_,v0,v1,v2,v3,v4,v5⟩⟩:=HK.out i (by rw[←a4.out];exact ad) wt hb.out;have KK:=hid (fun(d:Nat) (os:Array Obj)=>Calls.regrown_of (KC.out i (by rw[←a4.out];exact ad) h2 (grow (redrawn wt d) os) (hb.out.trans ((below_regrown wt d os).mono hb.out.size))));obtain⟨⟨x0,x1,x2⟩,y0,y1,y2⟩:=HC.out wt hb.out;rw[a1]at x2;rw[a2]at y2;clear x0 x1 y0 y1 a1 a2;generalize x.cs[i]'(by rw[←a4.out];exact ad)=p1 at *;generalize y.cs[i] = p2 at *;have r0:=cell_regrown x2;have r1:=cell_regrown y2;have r2:=cell_regrown u0;have r3:=cell_regrown u1;have r4:=cell_regrown u2;have r5:=cell_regrown u3;have r6:=cell_regrown u4;have r7:=cell_regrown u5;have q2:=cell_regrown v0;have q3:=cell_regrown v1;have q4:=cell_regrown v2;have q5:=cell_regrown v3;have q6:=cell_regrown v4;have q7:=cell_regrown v5;go_wp2_with fail;refine wp_region_quiet_below (by kernel_rfl) (by kernel_rfl) ?_
       repeat (quiet_step (exact KK.out _ _))
       refine wpQuiet_nil ?_;intro _ ag;obtain⟨⟨dq,a8⟩,a7⟩:=ag;subst a7;have a6:=hid (hb.out.trans ((below_regrown wt dq a8).mono hb.out.size));clear r0 r1 r2 r3 r4 r5 r6 r7 q2 q3 q4 q5 q6 q7 u0 u1 u2 u3 u4 u5 v0 v1 v2 v3 v4 v5 x2 y2 KK;generalize grow (redrawn wt dq) a8=wz at *;go_wp2_with fail;go_roundw
       case rel=>exact⟨i+1,by omega,by go_num,a6⟩
       case measure=>simp[intOf];omega
      ·obtain rfl:i=nc:=by omega
       have e3:decide ((i:Int)<(i:Int))=false:=aB (by omega);obtain⟨⟨x0,x1,x2⟩,y0,y1,y2⟩:=HC.out wt hb.out;have E:=hid (HE.out wt hb.out);go_wp2_with fail;go_ret;exact⟨rfl,by rw[af.out];exact E.out⟩
end re
namespace re
open RowKit Shelf mem sy vx vr po inn
abbrev aCJ(J:List Ev):List (List UInt8):=jG ((nS J).map tx)
def RV(w0:World)(g:Nat)(Y:Option Addr)(pc:Nat)(m:List (List UInt8))(J:List Ev)(w:World):Prop:=RS w0 g Y pc m (aCJ J) (fQ m J) w
def RVP(w0:World)(g:Nat)(Y:Option Addr)(pc:Nat)(m:List (List UInt8))(J:List Ev)(w:World)(e:Ending)(w':World):Prop:=e=.returned (.tuple #[])∧RV w0 g Y pc m J w'∧Fr [g] w w'
theorem aHR(J:List Ev):(aCJ J).length≤J.length:=by
 have Y:=aBL ((nS J).map tx);rw[aH]at Y;exact aZ Y (vG J)
theorem aL0(J:List Ev)(k:Int):aCJ (J++[.n k])=aCJ J:=by
 unfold aCJ;rw[uX];show jG ((nS J++[]).map tx)=_;rw[List.append_nil]
theorem aLu(J:List Ev)(s:ByteArray):aCJ (J++[.t s])=oF (aCJ J) (tx s):=by
 unfold aCJ;rw[uX];show jG ((nS J++[s]).map tx)=_;rw[List.map_append];exact aBV _ _ _
section
variable {w0:World} {g:Nat} {pA:Option Addr} {pc:Nat} {m:List (List UInt8)} {evs:List Ev}
theorem RV.be{w:World}(h:RV w0 g pA pc m evs w):Below w0.heap.size w0 w:=RS.be h
theorem RV.bel{w w':World}(h:RV w0 g pA pc m evs w)(hb:Below w.heap.size w w'):RV w0 g pA pc m evs w':=RS.bel h hb
theorem aK8{w:World}(k:Int)(h:RV w0 g pA pc m evs w)(hl:evs.length≤1000000):Calls Tryz.prog 151 #[.pointer (some ⟨g,0,none⟩),.int .i64 k] w (RVP w0 g pA pc m (evs++[.n k]) w):=
 (aKP k h (by have:=nR m evs;omega)).mono fun e w' ⟨J,a,b⟩=>⟨J,by unfold RV;rw[rH,aL0];exact a,b⟩
theorem aKU{w:World}(hp:Rd w0 pA (m.map encStr))(Y:m.length≤1000000)(s:ByteArray)(h:RV w0 g pA pc m evs w)(hl:evs.length≤1000000):Calls Tryz.prog 149 #[.pointer (some ⟨g,0,none⟩),.string s] w (RVP w0 g pA pc m (evs++[.t s]) w):=
 (aMQ hp Y s h (by have:=nR m evs;omega) (by have:=aHR evs;omega)).mono fun e w' ⟨J,a,b⟩=>⟨J,by unfold RV;rw[rH,aLu];exact a,b⟩
theorem aLA{w:World}(hp:Rd w0 pA (m.map encStr))(hm:m.length≤1000000)(A:Option Addr)(c:Nat)(l:List ByteArray)(hr:Rd w0 A (l.map Value.string))(h:RV w0 g pA pc m evs w)(Y:evs.length+(fB l).length≤1000000) :
 Calls Tryz.prog 150 #[.pointer (some ⟨g,0,none⟩),.slice A l.length c] w (RVP w0 g pA pc m (evs++fB l) w):=by
 have hl:evs.length+l.length+1≤1000000:=by simpa[fB,Nat.add_assoc] using Y
 have KN:=hid (aK8 (l.length:Int) h (by omega));have HR:=hid hr;have HT:=hid (fun(w1:World) (e1:List Ev) (s:ByteArray) (x:RV w0 g pA pc m e1 w1) hh=>aKU hp hm s x hh);obtain⟨n,hn⟩:∃n,Hid (n=l.length):=⟨_,hid rfl⟩;have a4:n≤1000000:=by rw[hn.out];omega
 rw[←hn.out]at KN hl ⊢;unfold RVP at KN HT;clear hr h Y hp hm;go_enter Tryz.func150,Tryz.ntmps150;go_wp2_with fail;refine KN.out.mono ?_;rintro e w1 ⟨rfl,x1,f1⟩;have X1:Hid (RV w0 g pA pc m (evs++(Ev.n n :: (l.take 0).map Ev.t)) w1∧Fr [g] w w1):=hid ⟨x1,f1⟩;clear x1 f1 KN;go_wp2_with fail;go_loopw [4] (fun i wr=>∃(k:Nat),k≤n∧i=.int .i64 k∧Hid (RV w0 g pA pc m (evs++(Ev.n n :: (l.take k).map Ev.t)) wr∧Fr [g] w wr)) (fun i _=>n-(intOf i).toNat)
 case atStart=>exact⟨0,by omega,rfl,X1⟩
 case round=>
  obtain⟨k,hk,rfl,J⟩:=hrel;clear X1;by_cases a3:k<n
  ·have d1:decide ((k:Int)<(n:Int))=true:=aC (by omega)
   have a0:k<l.length:=by rw[←hn.out];exact a3
   obtain⟨b,off,rfl,a2,hc⟩:=HR.out (by rw[aH];omega);have c2:wr.cell? ⟨b,off+k,none⟩=some (.string l[k]):=by
    have e:=hc k (by rw[aH];exact a0);rw[List.getElem_map]at e;exact(J.out.1.be.cell a2).trans e
   have KT:=hid (HT.out wr _ l[k] J.out.1 (by rw[aF,aG,aH,List.length_take];omega));have a1:Hid (evs++(Ev.n n :: (l.take k).map Ev.t)++[Ev.t l[k]] = evs++(Ev.n n :: (l.take (k+1)).map Ev.t)):=hid (by rw[(List.take_append_getElem a0).symm];simp only[List.map_append,aV,aU,aS,aW]);rw[a1.out]at KT;clear hc a1;generalize l[k] = x at *;go_wp2_with fail;refine KT.out.mono ?_;rintro e w2 ⟨rfl,x2,f2⟩;have X2:=hid (And.intro x2 (nL J.out.2 f2));clear x2 f2 KT J c2;go_wp2_with fail;go_roundw
   case rel=>exact⟨k+1,by omega,by go_num,X2⟩
   case measure=>simp[intOf];omega
  ·obtain rfl:k=n:=by omega
   have d1:decide ((k:Int)<(k:Int))=false:=aB (by omega);have e1:Hid (Ev.n k :: (l.take k).map Ev.t=fB l):=hid (by rw[hn.out,bF];rfl);rw[e1.out]at J;go_wp2_with fail;go_end0;exact⟨rfl,J.out.1,J.out.2⟩
end
end re
set_option maxHeartbeats 8000000
namespace re
open RowKit Shelf mem sy vx vr po inn
structure SX(w0:World)(g:Nat)(pA:Option Addr)(pc:Nat)(m:List (List UInt8))(W:World)(bx:Nat)(row:Array Value)(evs:List Ev)(w:World):Prop where
 rv:RV w0 g pA pc m evs w
 fr:Fr [g] W w
 bx:bV w bx 29 row
theorem SX.step{w0:World}{g:Nat}{pA:Option Addr}{pc:Nat}{m:List (List UInt8)}{W:World}{bx:Nat}{row:Array Value}{Y e2:List Ev}{w w2:World}(h:SX w0 g pA pc m W bx row Y w)(J:bx≠g)(x:RV w0 g pA pc m e2 w2)(f:Fr [g] w w2):SX w0 g pA pc m W bx row e2 w2:=
 ⟨x,nL h.fr f,h.bx.kept f (by simpa using J)⟩
theorem SX.alloc{w0:World}{g:Nat}{Y:Option Addr}{pc:Nat}{m:List (List UInt8)}{W:World}{bx:Nat}{row:Array Value}{J:List Ev}{w:World}(h:SX w0 g Y pc m W bx row J w)(o:Obj):SX w0 g Y pc m W bx row J (w.alloc o):=
 ⟨h.rv.bel ((Below.refl _ _).alloc (aY _) _),h.fr.alloc o,h.bx.kept ((Fr.refl [] _).alloc _) (by simp)⟩
theorem SX.ev{w0:World}{g:Nat}{Y:Option Addr}{pc:Nat}{m:List (List UInt8)}{W:World}{bx:Nat}{row:Array Value}{J e2:List Ev}{w:World}(h:SX w0 g Y pc m W bx row J w)(e:J=e2):SX w0 g Y pc m W bx row e2 w:=e ▸ h
theorem aMC{w0:World}{g:Nat}{pA:Option Addr}{pc:Nat}{m:List (List UInt8)}{w:World}(hp:Rd w0 pA (m.map encStr))(hm:m.length≤1000000)(u:MU)(hu:gH w0 u)(h:RV w0 g pA pc m [] w)(hl:(dF u.su).length≤1000000) :
 Calls Tryz.prog 88 #[.pointer (some ⟨g,0,none⟩),u.val] w (RVP w0 g pA pc m (dF u.su) w):=by
 obtain⟨nm,gA,gc,gs,wA,wc,ws,kA,kc,ks,⟨oA,oc,os,fA,fc,fs,cA,cc,cs⟩⟩:=u;obtain⟨hg,hw,hk,ho⟩:=hu;have Ho:=hid ho.o;have Hf:=hid ho.f;have Hc:=hid ho.c;have am:=hid ho.ok;have ao:=hid ho.ck;have Hg:=hid hg;have Hw:=hid hw;have Hk:=hid hk;unfold MU.val MU.row MU.su MS.sys at *;dsimp only at *;have af:Hid (dF ⟨nm,gs,ws,ks,⟨os.map (·.o),fs,cs.map (·.c)⟩⟩=(((((([]++[Ev.t nm])++fB gs)++fB ws)++fB ks)++(Ev.n os.length :: os.flatMap (fun x=>iR x.o)))++(Ev.n fs.length :: fs.flatMap (fun x=>lW x)))++(Ev.n cs.length :: cs.flatMap (fun x=>mJ x.c))):=hid (by simp[dF,pY,qL,qU,List.flatMap_map]);rw[af.out]at hl ⊢;have ai:=hl;simp only[aF,aG,aI]at ai;have bo:os.length≤(os.flatMap (fun x=>iR x.o)).length:=jA _ (fun x=>by simp[iR]) os;have bf:fs.length≤(fs.flatMap (fun x=>lW x)).length:=jA _ (fun x=>by simp[lW]) fs;have bc:cs.length≤(cs.flatMap (fun x=>mJ x.c)).length:=jA _ (fun x=>by simp[mJ]) cs
 have VN:=hid (fun(w1:World) (e1:List Ev) (k:Int) (x:RV w0 g pA pc m e1 w1) hh=>aK8 k x hh);have VT:=hid (fun(w1:World) (e1:List Ev) (s:ByteArray) (x:RV w0 g pA pc m e1 w1) hh=>aKU hp hm s x hh);have VL:=hid (fun(w1:World) (e1:List Ev) A c l hr (x:RV w0 g pA pc m e1 w1) hh=>aLA hp hm A c l hr x hh);unfold RVP at VN VT VL;have ap:g<w.heap.size:=by
  obtain⟨A,cap,hx,hs⟩:=RS.x h;exact hx.lt
 obtain⟨W,a9⟩:∃W,Hid (W=w.alloc (.cells #[.string nm,.slice gA gs.length gc,.slice wA ws.length wc,.slice kA ks.length kc,.slice oA os.length oc,.slice fA fs.length fc,.slice cA cs.length cc] 29)):=⟨_,hid rfl⟩;have Y:w.heap.size≠g:=by omega
 have aa:Hid (Fr [g] w W):=hid (by rw[a9.out];exact(Fr.refl [g] w).alloc _)
 have J:Hid (SX w0 g pA pc m W w.heap.size #[.string nm,.slice gA gs.length gc,.slice wA ws.length wc,.slice kA ks.length kc,.slice oA os.length oc,.slice fA fs.length fc,.slice cA cs.length cc] [] W):=hid (by
  rw[a9.out]
  exact⟨h.bel ((Below.refl _ _).alloc (aY _) _),Fr.refl _ _,bV.new _ _ _⟩)
 have ag:Hid (∀e w2,SX w0 g pA pc m W w.heap.size #[.string nm,.slice gA gs.length gc,.slice wA ws.length wc,.slice kA ks.length kc,.slice oA os.length oc,.slice fA fs.length fc,.slice cA cs.length cc] e w2→RV w0 g pA pc m e w2∧Fr [g] w w2):=hid (fun e w2 s=>⟨s.rv,nL aa.out s.fr⟩);clear hp hm h hg hw hk ho hl af ap;go_enter Tryz.func88,Tryz.ntmps88;go_upto_region 1 with fail;rw[←a9.out];clear a9 aa;generalize w.heap.size=bx at *;have y0:W.cell? ⟨bx,0,none⟩=some (.string nm):=J.out.bx.cell 0;have K:=hid (VT.out _ _ nm J.out.rv (by simp only[aF,aG,aI];omega));go_wp2_with fail;refine K.out.mono ?_;rintro e w1 ⟨rfl,x,f⟩;have X1:=hid (J.out.step Y x f);clear x f K y0 J;have y0:w1.cell? ⟨bx,1,none⟩=some (.slice gA gs.length gc):=X1.out.bx.cell 1;have K:=hid (VL.out _ _ gA gc gs Hg.out X1.out.rv (by simp only[aF,aG,aI];omega))
 go_wp2_with fail;refine K.out.mono ?_;rintro e w2 ⟨rfl,x,f⟩;have X2:=hid (X1.out.step Y x f);clear x f K y0 X1;have y0:w2.cell? ⟨bx,2,none⟩=some (.slice wA ws.length wc):=X2.out.bx.cell 2;have K:=hid (VL.out _ _ wA wc ws Hw.out X2.out.rv (by simp only[aF,aG,aI];omega));go_wp2_with fail;refine K.out.mono ?_;rintro e w3 ⟨rfl,x,f⟩;have X3:=hid (X2.out.step Y x f);clear x f K y0 X2;have y0:w3.cell? ⟨bx,3,none⟩=some (.slice kA ks.length kc):=X3.out.bx.cell 3;have K:=hid (VL.out _ _ kA kc ks Hk.out X3.out.rv (by simp only[aF,aG,aI];omega));go_wp2_with fail;refine K.out.mono ?_;rintro e w4 ⟨rfl,x,f⟩;have X4:=hid (X3.out.step Y x f);clear x f K y0 X3;have y0:w4.cell? ⟨bx,4,none⟩=some (.slice oA os.length oc):=X4.out.bx.cell 4;have K:=hid (VN.out _ _ (os.length:Int) X4.out.rv (by simp only[aF,aG,aI];omega))
 go_wp2_with fail;refine K.out.mono ?_;rintro e w5 ⟨rfl,x,f⟩;have X5:=hid (X4.out.step Y x f);clear x f K y0 X4;have Yo:Hid (SX w0 g pA pc m W bx #[.string nm,.slice gA gs.length gc,.slice wA ws.length wc,.slice kA ks.length kc,.slice oA os.length oc,.slice fA fs.length fc,.slice cA cs.length cc] ((((([]++[Ev.t nm])++fB gs)++fB ws)++fB ks)++(Ev.n os.length :: (os.take 0).flatMap (fun x=>iR x.o))) w5):=hid (X5.out.ev (by simp));clear X5;have y0:w5.cell? ⟨bx,4,none⟩=some (.slice oA os.length oc):=Yo.out.bx.cell 4;go_wp2_with fail;clear y0;go_loopw [4] (fun i wr=>∃k:Nat,k≤os.length∧i=.int .i64 k∧Hid (SX w0 g pA pc m W bx #[.string nm,.slice gA gs.length gc,.slice wA ws.length wc,.slice kA ks.length kc,.slice oA os.length oc,.slice fA fs.length fc,.slice cA cs.length cc] ((((([]++[Ev.t nm])++fB gs)++fB ws)++fB ks)++(Ev.n os.length :: (os.take k).flatMap (fun x=>iR x.o))) wr)) (fun i _=>os.length-(intOf i).toNat)
 case atStart=>exact⟨0,by omega,rfl,Yo⟩
 case round=>
  obtain⟨k,hk,rfl,J⟩:=hrel;clear Yo;have y0:wr.cell? ⟨bx,4,none⟩=some (.slice oA os.length oc):=J.out.bx.cell 4;by_cases a3:k<os.length
  ·have d1:decide ((k:Int)<(os.length:Int))=true:=aC (by omega)
   obtain⟨b,off,rfl,a0,c0,c1,c2⟩:=kS Ho.out a3;replace c0:=(J.out.rv.be.cell (show b<w0.heap.size from a0)).trans c0;replace c1:=(J.out.rv.be.cell (show b<w0.heap.size from a0)).trans c1;replace c2:=(J.out.rv.be.cell (show b<w0.heap.size from a0)).trans c2;have a6:=pJ (fun x=>iR x.o) os k a3
   try dsimp only at a6
   have a8:Hid (((((([]++[Ev.t nm])++fB gs)++fB ws)++fB ks)++(Ev.n os.length :: (os.take k).flatMap (fun x=>iR x.o)))++iR os[k].o=((((([]++[Ev.t nm])++fB gs)++fB ws)++fB ks)++(Ev.n os.length :: (os.take (k+1)).flatMap (fun x=>iR x.o)))):=hid (by rw[kF _ _ _ a3];simp only[aS,aW]);have a5:=am.out os[k] (aR a3);generalize os[k] = x at *;obtain⟨⟨xn,xk,xm⟩,xA,xc⟩:=x;dsimp only at *;have HM:=hid a5.m;clear a5;have ad:(iR ⟨xn,xk,xm⟩).length=3+(xm.flatMap pV).length:=by simp[iR,rY];omega
   have aw:xm.length≤(xm.flatMap pV).length:=jA _ (fun x=>by simp[pV]) xm;obtain⟨W2,a2⟩:∃W2,Hid (W2=wr.alloc (.cells #[.string xn,.string xk,.slice xA xm.length xc] 99)):=⟨_,hid rfl⟩;have X1:Hid (SX w0 g pA pc m W bx #[.string nm,.slice gA gs.length gc,.slice wA ws.length wc,.slice kA ks.length kc,.slice (some ⟨b,off,none⟩) os.length oc,.slice fA fs.length fc,.slice cA cs.length cc] ((((([]++[Ev.t nm])++fB gs)++fB ws)++fB ks)++(Ev.n os.length :: (os.take k).flatMap (fun x=>iR x.o))) W2):=hid (by rw[a2.out];exact J.out.alloc _);have B1:Hid (bV W2 wr.heap.size 99 #[.string xn,.string xk,.slice xA xm.length xc]):=hid (by rw[a2.out];exact bV.new _ _ _);have a1:wr.heap.size≠g:=by
    obtain⟨A,cap,hx,hs⟩:=RS.x J.out.rv;have:=hx.lt;omega
   clear a0;go_upto_region 10 with fail;rw[←a2.out];generalize wr.heap.size=bm at *;clear y0 c0 c1 c2 J a2;have z0:W2.cell? ⟨bm,0,none⟩=some (.string xn):=B1.out.cell 0;have K:=hid (VT.out _ _ xn X1.out.rv (by simp only[aF,aG,aI];omega));go_wp2_with fail;refine K.out.mono ?_;rintro e w2 ⟨rfl,x,f⟩;have X2:=hid (X1.out.step Y x f);have B2:=hid (B1.out.kept f (by simpa using a1));clear x f K z0 X1 B1;have z0:w2.cell? ⟨bm,1,none⟩=some (.string xk):=B2.out.cell 1;have K:=hid (VT.out _ _ xk X2.out.rv (by simp only[aF,aG,aI];omega));go_wp2_with fail;refine K.out.mono ?_;rintro e w3 ⟨rfl,x,f⟩;have X3:=hid (X2.out.step Y x f);have B3:=hid (B2.out.kept f (by simpa using a1));clear x f K z0 X2 B2;have z0:w3.cell? ⟨bm,2,none⟩=some (.slice xA xm.length xc):=B3.out.cell 2;have K:=hid (VN.out _ _ (xm.length:Int) X3.out.rv (by simp only[aF,aG,aI];omega))
   go_wp2_with fail;refine K.out.mono ?_;rintro e w4 ⟨rfl,x,f⟩;have X4:=hid (X3.out.step Y x f);have B4:=hid (B3.out.kept f (by simpa using a1));clear x f K z0 X3 B3;have Y1:Hid (SX w0 g pA pc m W bx #[.string nm,.slice gA gs.length gc,.slice wA ws.length wc,.slice kA ks.length kc,.slice (some ⟨b,off,none⟩) os.length oc,.slice fA fs.length fc,.slice cA cs.length cc] (((((((([]++[Ev.t nm])++fB gs)++fB ws)++fB ks)++(Ev.n os.length :: (os.take k).flatMap (fun x=>iR x.o)))++[Ev.t xn])++[Ev.t xk])++(Ev.n xm.length :: (xm.take 0).flatMap pV)) w4):=hid (X4.out.ev (by simp));have z0:w4.cell? ⟨bm,2,none⟩=some (.slice xA xm.length xc):=B4.out.cell 2;go_wp2_with fail;clear z0 X4;go_loopw [6] (fun i wx=>∃q:Nat,q≤xm.length∧i=.int .i64 q∧Hid (SX w0 g pA pc m W bx #[.string nm,.slice gA gs.length gc,.slice wA ws.length wc,.slice kA ks.length kc,.slice (some ⟨b,off,none⟩) os.length oc,.slice fA fs.length fc,.slice cA cs.length cc] (((((((([]++[Ev.t nm])++fB gs)++fB ws)++fB ks)++(Ev.n os.length :: (os.take k).flatMap (fun x=>iR x.o)))++[Ev.t xn])++[Ev.t xk])++(Ev.n xm.length :: (xm.take q).flatMap pV)) wx)∧Hid (bV wx bm 99 #[.string xn,.string xk,.slice xA xm.length xc])) (fun i _=>xm.length-(intOf i).toNat)
   case atStart=>exact⟨0,by omega,rfl,Y1,B4⟩
   case round=>
    obtain⟨q,hq,rfl,J,B0⟩:=hrel;clear Y1 B4
    rename World=>wx
    have z0:wx.cell? ⟨bm,2,none⟩=some (.slice xA xm.length xc):=B0.out.cell 2;by_cases ae:q<xm.length
    ·have d1:decide ((q:Int)<(xm.length:Int))=true:=aC (by omega)
     obtain⟨b2,a4,rfl,a7,c0,c1⟩:=uI HM.out ae;have au:=pJ pV xm q ae;have aj:Hid ((((((((([]++[Ev.t nm])++fB gs)++fB ws)++fB ks)++(Ev.n os.length :: (os.take k).flatMap (fun x=>iR x.o)))++[Ev.t xn])++[Ev.t xk])++(Ev.n xm.length :: (xm.take q).flatMap pV))++pV xm[q] = (((((((([]++[Ev.t nm])++fB gs)++fB ws)++fB ks)++(Ev.n os.length :: (os.take k).flatMap (fun x=>iR x.o)))++[Ev.t xn])++[Ev.t xk])++(Ev.n xm.length :: (xm.take (q+1)).flatMap pV))):=hid (by rw[kF _ _ _ ae];simp only[aS,aW]);have ar:Hid (∀e w1,RV w0 g pA pc m e w1→w1.cell? ⟨b2,a4+q * 2,none⟩=some (.int .i64 xm[q].at_)):=hid (fun e w1 x=>(x.be.cell (show b2<w0.heap.size from a7)).trans c0);have ak:Hid (∀e w1,RV w0 g pA pc m e w1→w1.cell? ⟨b2,a4+q * 2+1,none⟩=some (.string xm[q].tag)):=hid (fun e w1 x=>(x.be.cell (show b2<w0.heap.size from a7)).trans c1)
     clear c0 c1 a7;have av:(pV xm[q]).length=2:=rfl;generalize xm[q] = y at *;have c0:=ar.out _ _ J.out.rv;have K:=hid (VN.out _ _ y.at_ J.out.rv (by simp only[aF,aG,aI];omega));go_wp2_with fail;refine K.out.mono ?_;rintro e w6 ⟨rfl,x,f⟩;have X1:=hid (J.out.step Y x f);have B1:=hid (B0.out.kept f (by simpa using a1));clear x f K c0 z0 J B0;have c1:=ak.out _ _ X1.out.rv;have z1:w6.cell? ⟨bm,2,none⟩=some (.slice (some ⟨b2,a4,none⟩) xm.length xc):=B1.out.cell 2;have K:=hid (VT.out _ _ y.tag X1.out.rv (by simp only[aF,aG,aI];omega));go_wp2_with fail;refine K.out.mono ?_;rintro e w7 ⟨rfl,x,f⟩;have X2:Hid (SX w0 g pA pc m W bx #[.string nm,.slice gA gs.length gc,.slice wA ws.length wc,.slice kA ks.length kc,.slice (some ⟨b,off,none⟩) os.length oc,.slice fA fs.length fc,.slice cA cs.length cc] (((((((([]++[Ev.t nm])++fB gs)++fB ws)++fB ks)++(Ev.n os.length :: (os.take k).flatMap (fun x=>iR x.o)))++[Ev.t xn])++[Ev.t xk])++(Ev.n xm.length :: (xm.take (q+1)).flatMap pV)) w7):=hid ((X1.out.step Y x f).ev (by rw[←aj.out];simp[pV]))
     have B2:=hid (B1.out.kept f (by simpa using a1));clear x f K c1 z1 X1 B1;go_wp2_with fail;go_roundw
     case rel=>exact⟨q+1,by omega,by go_num,X2,B2⟩
     case measure=>simp[intOf];omega
    ·obtain rfl:q=xm.length:=by omega
     have d1:decide ((xm.length:Int)<(xm.length:Int))=false:=aB (by omega);have X5:Hid (SX w0 g pA pc m W bx #[.string nm,.slice gA gs.length gc,.slice wA ws.length wc,.slice kA ks.length kc,.slice (some ⟨b,off,none⟩) os.length oc,.slice fA fs.length fc,.slice cA cs.length cc] ((((([]++[Ev.t nm])++fB gs)++fB ws)++fB ks)++(Ev.n os.length :: (os.take (k+1)).flatMap (fun x=>iR x.o))) wx):=hid (J.out.ev (by rw[←a8.out,bF];simp[iR,rY]));clear J;go_wp2_with fail;go_roundw
     case rel=>exact⟨k+1,by omega,by go_num,X5⟩
     case measure=>simp[intOf];omega
  ·obtain rfl:k=os.length:=by omega
   have d1:decide ((os.length:Int)<(os.length:Int))=false:=aB (by omega);have X6:Hid (SX w0 g pA pc m W bx #[.string nm,.slice gA gs.length gc,.slice wA ws.length wc,.slice kA ks.length kc,.slice oA os.length oc,.slice fA fs.length fc,.slice cA cs.length cc] ((((([]++[Ev.t nm])++fB gs)++fB ws)++fB ks)++(Ev.n os.length :: os.flatMap (fun x=>iR x.o))) wr):=hid (J.out.ev (by rw[bF]));clear J;have y0:wr.cell? ⟨bx,5,none⟩=some (.slice fA fs.length fc):=X6.out.bx.cell 5;have K:=hid (VN.out _ _ (fs.length:Int) X6.out.rv (by simp only[aF,aG,aI];omega));go_wp2_with fail;refine K.out.mono ?_;rintro e w7 ⟨rfl,x,f⟩;have X7:=hid (X6.out.step Y x f);clear x f K y0 X6;have Yf:Hid (SX w0 g pA pc m W bx #[.string nm,.slice gA gs.length gc,.slice wA ws.length wc,.slice kA ks.length kc,.slice oA os.length oc,.slice fA fs.length fc,.slice cA cs.length cc] (((((([]++[Ev.t nm])++fB gs)++fB ws)++fB ks)++(Ev.n os.length :: os.flatMap (fun x=>iR x.o)))++(Ev.n fs.length :: (fs.take 0).flatMap (fun x=>lW x))) w7):=hid (X7.out.ev (by simp))
   clear X7;have y0:w7.cell? ⟨bx,5,none⟩=some (.slice fA fs.length fc):=Yf.out.bx.cell 5;go_wp2_with fail;clear y0;go_loopw [7] (fun i wr=>∃k:Nat,k≤fs.length∧i=.int .i64 k∧Hid (SX w0 g pA pc m W bx #[.string nm,.slice gA gs.length gc,.slice wA ws.length wc,.slice kA ks.length kc,.slice oA os.length oc,.slice fA fs.length fc,.slice cA cs.length cc] (((((([]++[Ev.t nm])++fB gs)++fB ws)++fB ks)++(Ev.n os.length :: os.flatMap (fun x=>iR x.o)))++(Ev.n fs.length :: (fs.take k).flatMap (fun x=>lW x))) wr)) (fun i _=>fs.length-(intOf i).toNat)
   case atStart=>exact⟨0,by omega,rfl,Yf⟩
   case round=>
    obtain⟨k,hk,rfl,J⟩:=hrel;clear Yf;have y0:wr.cell? ⟨bx,5,none⟩=some (.slice fA fs.length fc):=J.out.bx.cell 5;by_cases a3:k<fs.length
    ·have d1:decide ((k:Int)<(fs.length:Int))=true:=aC (by omega)
     obtain⟨b,off,rfl,a0,c0,c1,c2⟩:=oC Hf.out a3;replace c0:=(J.out.rv.be.cell (show b<w0.heap.size from a0)).trans c0;replace c1:=(J.out.rv.be.cell (show b<w0.heap.size from a0)).trans c1;replace c2:=(J.out.rv.be.cell (show b<w0.heap.size from a0)).trans c2;have a6:=pJ (fun x=>lW x) fs k a3
     try dsimp only at a6
     have a8:Hid ((((((([]++[Ev.t nm])++fB gs)++fB ws)++fB ks)++(Ev.n os.length :: os.flatMap (fun x=>iR x.o)))++(Ev.n fs.length :: (fs.take k).flatMap (fun x=>lW x)))++lW fs[k] = (((((([]++[Ev.t nm])++fB gs)++fB ws)++fB ks)++(Ev.n os.length :: os.flatMap (fun x=>iR x.o)))++(Ev.n fs.length :: (fs.take (k+1)).flatMap (fun x=>lW x)))):=hid (by rw[kF _ _ _ a3];simp only[aS,aW]);generalize fs[k] = x at *;obtain⟨xn,xk,xr⟩:=x;dsimp only at *;have ad:(lW ⟨xn,xk,xr⟩).length=3:=rfl;obtain⟨W2,a2⟩:∃W2,Hid (W2=wr.alloc (.cells #[.string xn,.string xk,.string xr] 103)):=⟨_,hid rfl⟩;have X1:Hid (SX w0 g pA pc m W bx #[.string nm,.slice gA gs.length gc,.slice wA ws.length wc,.slice kA ks.length kc,.slice oA os.length oc,.slice (some ⟨b,off,none⟩) fs.length fc,.slice cA cs.length cc] (((((([]++[Ev.t nm])++fB gs)++fB ws)++fB ks)++(Ev.n os.length :: os.flatMap (fun x=>iR x.o)))++(Ev.n fs.length :: (fs.take k).flatMap (fun x=>lW x))) W2):=hid (by rw[a2.out];exact J.out.alloc _)
     have B1:Hid (bV W2 wr.heap.size 103 #[.string xn,.string xk,.string xr]):=hid (by rw[a2.out];exact bV.new _ _ _);have a1:wr.heap.size≠g:=by
      obtain⟨A,cap,hx,hs⟩:=RS.x J.out.rv;have:=hx.lt;omega
     clear a0;go_upto_region 23 with fail;rw[←a2.out];generalize wr.heap.size=bm at *;clear y0 c0 c1 c2 J a2;have z0:W2.cell? ⟨bm,0,none⟩=some (.string xn):=B1.out.cell 0;have K:=hid (VT.out _ _ xn X1.out.rv (by simp only[aF,aG,aI];omega));go_wp2_with fail;refine K.out.mono ?_;rintro e w2 ⟨rfl,x,f⟩;have X2:=hid (X1.out.step Y x f);have B2:=hid (B1.out.kept f (by simpa using a1));clear x f K z0 X1 B1;have z0:w2.cell? ⟨bm,1,none⟩=some (.string xk):=B2.out.cell 1;have K:=hid (VT.out _ _ xk X2.out.rv (by simp only[aF,aG,aI];omega));go_wp2_with fail;refine K.out.mono ?_;rintro e w3 ⟨rfl,x,f⟩;have X3:=hid (X2.out.step Y x f);have B3:=hid (B2.out.kept f (by simpa using a1));clear x f K z0 X2 B2;have z0:w3.cell? ⟨bm,2,none⟩=some (.string xr):=B3.out.cell 2;have K:=hid (VT.out _ _ xr X3.out.rv (by simp only[aF,aG,aI];omega))
     go_wp2_with fail;refine K.out.mono ?_;rintro e w4 ⟨rfl,x,f⟩;have X4:=hid (X3.out.step Y x f);have B4:=hid (B3.out.kept f (by simpa using a1));clear x f K z0 X3 B3;have Xe:Hid (SX w0 g pA pc m W bx #[.string nm,.slice gA gs.length gc,.slice wA ws.length wc,.slice kA ks.length kc,.slice oA os.length oc,.slice (some ⟨b,off,none⟩) fs.length fc,.slice cA cs.length cc] (((((([]++[Ev.t nm])++fB gs)++fB ws)++fB ks)++(Ev.n os.length :: os.flatMap (fun x=>iR x.o)))++(Ev.n fs.length :: (fs.take (k+1)).flatMap (fun x=>lW x))) w4):=hid (X4.out.ev (by rw[←a8.out];simp[lW,mJ]));clear X4 B4;go_wp2_with fail;go_roundw
     case rel=>exact⟨k+1,by omega,by go_num,Xe⟩
     case measure=>simp[intOf];omega
    ·obtain rfl:k=fs.length:=by omega
     have d1:decide ((fs.length:Int)<(fs.length:Int))=false:=aB (by omega);have X8:Hid (SX w0 g pA pc m W bx #[.string nm,.slice gA gs.length gc,.slice wA ws.length wc,.slice kA ks.length kc,.slice oA os.length oc,.slice fA fs.length fc,.slice cA cs.length cc] (((((([]++[Ev.t nm])++fB gs)++fB ws)++fB ks)++(Ev.n os.length :: os.flatMap (fun x=>iR x.o)))++(Ev.n fs.length :: fs.flatMap (fun x=>lW x))) wr):=hid (J.out.ev (by rw[bF]));clear J;have y0:wr.cell? ⟨bx,6,none⟩=some (.slice cA cs.length cc):=X8.out.bx.cell 6;have K:=hid (VN.out _ _ (cs.length:Int) X8.out.rv (by simp only[aF,aG,aI];omega));go_wp2_with fail;refine K.out.mono ?_;rintro e w9 ⟨rfl,x,f⟩;have X9:=hid (X8.out.step Y x f);clear x f K y0 X8;have Yc:Hid (SX w0 g pA pc m W bx #[.string nm,.slice gA gs.length gc,.slice wA ws.length wc,.slice kA ks.length kc,.slice oA os.length oc,.slice fA fs.length fc,.slice cA cs.length cc] ((((((([]++[Ev.t nm])++fB gs)++fB ws)++fB ks)++(Ev.n os.length :: os.flatMap (fun x=>iR x.o)))++(Ev.n fs.length :: fs.flatMap (fun x=>lW x)))++(Ev.n cs.length :: (cs.take 0).flatMap (fun x=>mJ x.c))) w9):=hid (X9.out.ev (by simp))
     clear X9;have y0:w9.cell? ⟨bx,6,none⟩=some (.slice cA cs.length cc):=Yc.out.bx.cell 6;go_wp2_with fail;clear y0;go_loopw [9] (fun i wr=>∃k:Nat,k≤cs.length∧i=.int .i64 k∧Hid (SX w0 g pA pc m W bx #[.string nm,.slice gA gs.length gc,.slice wA ws.length wc,.slice kA ks.length kc,.slice oA os.length oc,.slice fA fs.length fc,.slice cA cs.length cc] ((((((([]++[Ev.t nm])++fB gs)++fB ws)++fB ks)++(Ev.n os.length :: os.flatMap (fun x=>iR x.o)))++(Ev.n fs.length :: fs.flatMap (fun x=>lW x)))++(Ev.n cs.length :: (cs.take k).flatMap (fun x=>mJ x.c))) wr)) (fun i _=>cs.length-(intOf i).toNat)
     case atStart=>exact⟨0,by omega,rfl,Yc⟩
     case round=>
      obtain⟨k,hk,rfl,J⟩:=hrel;clear Yc;have y0:wr.cell? ⟨bx,6,none⟩=some (.slice cA cs.length cc):=J.out.bx.cell 6;by_cases a3:k<cs.length
      ·have d1:decide ((k:Int)<(cs.length:Int))=true:=aC (by omega)
       obtain⟨b,off,rfl,a0,c0,c1,c2,c3,c4,c5⟩:=nA Hc.out a3;replace c0:=(J.out.rv.be.cell (show b<w0.heap.size from a0)).trans c0;replace c1:=(J.out.rv.be.cell (show b<w0.heap.size from a0)).trans c1;replace c2:=(J.out.rv.be.cell (show b<w0.heap.size from a0)).trans c2;replace c3:=(J.out.rv.be.cell (show b<w0.heap.size from a0)).trans c3;replace c4:=(J.out.rv.be.cell (show b<w0.heap.size from a0)).trans c4;replace c5:=(J.out.rv.be.cell (show b<w0.heap.size from a0)).trans c5;have a6:=pJ (fun x=>mJ x.c) cs k a3
       try dsimp only at a6
       have a8:Hid (((((((([]++[Ev.t nm])++fB gs)++fB ws)++fB ks)++(Ev.n os.length :: os.flatMap (fun x=>iR x.o)))++(Ev.n fs.length :: fs.flatMap (fun x=>lW x)))++(Ev.n cs.length :: (cs.take k).flatMap (fun x=>mJ x.c)))++mJ cs[k].c=((((((([]++[Ev.t nm])++fB gs)++fB ws)++fB ks)++(Ev.n os.length :: os.flatMap (fun x=>iR x.o)))++(Ev.n fs.length :: fs.flatMap (fun x=>lW x)))++(Ev.n cs.length :: (cs.take (k+1)).flatMap (fun x=>mJ x.c)))):=hid (by rw[kF _ _ _ a3];simp only[aS,aW]);have a5:=ao.out cs[k] (aR a3);generalize cs[k] = x at *;obtain⟨⟨xo,xa,xb,xk,xt,xg⟩,xA,xc⟩:=x;dsimp only at *;have HM:=hid a5.g;clear a5;have ad:(mJ ⟨xo,xa,xb,xk,xt,xg⟩).length=5+(fB xg).length:=by simp[mJ];omega
       obtain⟨W2,a2⟩:∃W2,Hid (W2=wr.alloc (.cells #[.int .i64 xo,.string xa,.string xb,.int .i64 xk,.string xt,.slice xA xg.length xc] 105)):=⟨_,hid rfl⟩;have X1:Hid (SX w0 g pA pc m W bx #[.string nm,.slice gA gs.length gc,.slice wA ws.length wc,.slice kA ks.length kc,.slice oA os.length oc,.slice fA fs.length fc,.slice (some ⟨b,off,none⟩) cs.length cc] ((((((([]++[Ev.t nm])++fB gs)++fB ws)++fB ks)++(Ev.n os.length :: os.flatMap (fun x=>iR x.o)))++(Ev.n fs.length :: fs.flatMap (fun x=>lW x)))++(Ev.n cs.length :: (cs.take k).flatMap (fun x=>mJ x.c))) W2):=hid (by rw[a2.out];exact J.out.alloc _);have B1:Hid (bV W2 wr.heap.size 105 #[.int .i64 xo,.string xa,.string xb,.int .i64 xk,.string xt,.slice xA xg.length xc]):=hid (by rw[a2.out];exact bV.new _ _ _);have a1:wr.heap.size≠g:=by
        obtain⟨A,cap,hx,hs⟩:=RS.x J.out.rv;have:=hx.lt;omega
       clear a0;go_upto_region 31 with fail;rw[←a2.out];generalize wr.heap.size=bm at *;clear y0 c0 c1 c2 c3 c4 c5 J a2;have z0:W2.cell? ⟨bm,0,none⟩=some (.int .i64 xo):=B1.out.cell 0;have K:=hid (VN.out _ _ xo X1.out.rv (by simp only[aF,aG,aI];omega));go_wp2_with fail;refine K.out.mono ?_;rintro e w2 ⟨rfl,x,f⟩;have X2:=hid (X1.out.step Y x f);have B2:=hid (B1.out.kept f (by simpa using a1));clear x f K z0 X1 B1;have z0:w2.cell? ⟨bm,1,none⟩=some (.string xa):=B2.out.cell 1;have K:=hid (VT.out _ _ xa X2.out.rv (by simp only[aF,aG,aI];omega));go_wp2_with fail;refine K.out.mono ?_;rintro e w3 ⟨rfl,x,f⟩;have X3:=hid (X2.out.step Y x f);have B3:=hid (B2.out.kept f (by simpa using a1));clear x f K z0 X2 B2;have z0:w3.cell? ⟨bm,2,none⟩=some (.string xb):=B3.out.cell 2;have K:=hid (VT.out _ _ xb X3.out.rv (by simp only[aF,aG,aI];omega))
       go_wp2_with fail;refine K.out.mono ?_;rintro e w4 ⟨rfl,x,f⟩;have X4:=hid (X3.out.step Y x f);have B4:=hid (B3.out.kept f (by simpa using a1));clear x f K z0 X3 B3;have z0:w4.cell? ⟨bm,3,none⟩=some (.int .i64 xk):=B4.out.cell 3;have K:=hid (VN.out _ _ xk X4.out.rv (by simp only[aF,aG,aI];omega));go_wp2_with fail;refine K.out.mono ?_;rintro e w5 ⟨rfl,x,f⟩;have X5:=hid (X4.out.step Y x f);have B5:=hid (B4.out.kept f (by simpa using a1));clear x f K z0 X4 B4;have z0:w5.cell? ⟨bm,4,none⟩=some (.string xt):=B5.out.cell 4;have K:=hid (VT.out _ _ xt X5.out.rv (by simp only[aF,aG,aI];omega));go_wp2_with fail;refine K.out.mono ?_;rintro e w6 ⟨rfl,x,f⟩;have X6:=hid (X5.out.step Y x f);have B6:=hid (B5.out.kept f (by simpa using a1));clear x f K z0 X5 B5;have z0:w6.cell? ⟨bm,5,none⟩=some (.slice xA xg.length xc):=B6.out.cell 5
       have K:=hid (VL.out _ _ xA xc xg HM.out X6.out.rv (by simp only[aF,aG,aI];omega));go_wp2_with fail;refine K.out.mono ?_;rintro e w7 ⟨rfl,x,f⟩;have X7:=hid (X6.out.step Y x f);have B7:=hid (B6.out.kept f (by simpa using a1));clear x f K z0 X6 B6;have Xe:Hid (SX w0 g pA pc m W bx #[.string nm,.slice gA gs.length gc,.slice wA ws.length wc,.slice kA ks.length kc,.slice oA os.length oc,.slice fA fs.length fc,.slice (some ⟨b,off,none⟩) cs.length cc] ((((((([]++[Ev.t nm])++fB gs)++fB ws)++fB ks)++(Ev.n os.length :: os.flatMap (fun x=>iR x.o)))++(Ev.n fs.length :: fs.flatMap (fun x=>lW x)))++(Ev.n cs.length :: (cs.take (k+1)).flatMap (fun x=>mJ x.c))) w7):=hid (X7.out.ev (by rw[←a8.out];simp[lW,mJ]));clear X7 B7;go_wp2_with fail;go_roundw
       case rel=>exact⟨k+1,by omega,by go_num,Xe⟩
       case measure=>simp[intOf];omega
      ·obtain rfl:k=cs.length:=by omega
       have d1:decide ((cs.length:Int)<(cs.length:Int))=false:=aB (by omega);have ah:Hid (SX w0 g pA pc m W bx #[.string nm,.slice gA gs.length gc,.slice wA ws.length wc,.slice kA ks.length kc,.slice oA os.length oc,.slice fA fs.length fc,.slice cA cs.length cc] ((((((([]++[Ev.t nm])++fB gs)++fB ws)++fB ks)++(Ev.n os.length :: os.flatMap (fun x=>iR x.o)))++(Ev.n fs.length :: fs.flatMap (fun x=>lW x)))++(Ev.n cs.length :: cs.flatMap (fun x=>mJ x.c))) wr):=hid (J.out.ev (by rw[bF]));clear J;go_wp2_with fail;go_end0;exact⟨rfl,ag.out _ _ ah.out⟩
end re
namespace re
open RowKit Shelf mem sy vr po
structure wM(D:Nat→Int→World→Prop)(F:List Nat)(p:Nat)(er:Int)(W:World)(t:TypeId)(b:Nat)(cs:Array Value)(w:World):Prop where
 pd:D p er w
 fr:Fr F W w
 bx:bV w b t cs
 nw:W.heap.size≤b
 hF:∀x∈F,x<W.heap.size
section
variable {D:Nat→Int→World→Prop} {F:List Nat} {lo p q:Nat} {er e2:Int} {W w w2:World} {t:TypeId} {b:Nat} {cs:Array Value}
theorem wM.read(h:wM D F p er W t b cs w)(x:D q e2 w2)(f:Fr F w w2):wM D F q e2 W t b cs w2:=
 ⟨x,h.fr.trans f (fun x J=>Or.inl J) (fun x J=>Or.inl J),h.bx.kept f (fun hb=>by have:=h.hF b hb;have:=h.nw;omega),h.nw,h.hF⟩
theorem wM.put(R:Rdr lo D)(Y:lo≤W.heap.size)(h:wM D F p er W t b cs w)(i:Nat)(v:Value):wM D F p er W t b (cs.setIfInBounds i v) (w.setCell ⟨b,i,none⟩ v):=
 ⟨R.kept h.pd ((Fr.refl [b] w).setCell (p:=⟨b,i,none⟩) (Or.inl (by simp)) v) (fun x J=>by rw[aD]at J;have:=h.nw;omega),h.fr.setCell (p:=⟨b,i,none⟩) (Or.inr h.nw) v,h.bx.put i v,h.nw,h.hF⟩
theorem wM.new(R:Rdr lo D)(x:D p er w)(f:Fr F W w)(hF:∀x∈F,x<W.heap.size)(t:TypeId)(cs:Array Value):wM D F p er W t w.heap.size cs (w.alloc (.cells cs t)):=
 ⟨R.kept x ((Fr.refl [] w).alloc _) (by simp),f.alloc _,bV.new w t cs,f.size,hF⟩
end
theorem Fr.more{w w':World}{r:Nat}{F:List Nat}(f:Fr [r] w w')(hr:r∈F):Fr F w w':=(Fr.refl F w).trans f (fun x J=>Or.inl J) (fun x J=>Or.inl (by rw[aD]at J;subst J;exact hr))
theorem aDa{w W w6 wr:World}{r bx Y lo:Nat}{q:Nat}{eq:Int}{a b:ByteArray}{A:Option Addr}{cap:Nat}{xs:List Mk}{e:TypeId}{D:Nat→Int→World→Prop}{z0 z1 z2:Value}(R:Rdr lo D)(a4:w.heap.size=bx)(hf:Fr [] w W)(fw:Fr [r] W wr)(a5:lo≤W.heap.size∧r<W.heap.size)(a0:lo≤w6.heap.size∧lo≤Y∧r≠Y∧bx<Y)(sa:a.size≤maxLen)(sb:b.size≤maxLen)(J:jP EMk 2 [r,Y] D q eq w6 e A cap xs wr)(B:bV wr bx 99 #[z0,z1,z2])(a3:lo≤bx) :
 OP zG MO.o r D (⟨a,b,xs.map (fun m:Mk=>m)⟩:SO) q eq w (.returned (.agg #[.string a,.string b,.slice A xs.length cap])) (((wr.setCell ⟨bx,0,none⟩ (.string a)).setCell ⟨bx,1,none⟩ (.string b)).setCell ⟨bx,2,none⟩ (.slice A xs.length cap))∧bV (((wr.setCell ⟨bx,0,none⟩ (.string a)).setCell ⟨bx,1,none⟩ (.string b)).setCell ⟨bx,2,none⟩ (.slice A xs.length cap)) bx 99 #[.string a,.string b,.slice A xs.length cap]:=by
 have f:Fr [bx] wr (((wr.setCell ⟨bx,0,none⟩ (.string a)).setCell ⟨bx,1,none⟩ (.string b)).setCell ⟨bx,2,none⟩ (.slice A xs.length cap)):=
  (((Fr.refl [bx] wr).setCell (p:=⟨bx,0,none⟩) (Or.inl (by simp)) _).setCell (p:=⟨bx,1,none⟩) (Or.inl (by simp)) _).setCell (p:=⟨bx,2,none⟩) (Or.inl (by simp)) _
 refine⟨?_,((B.put 0 (.string a)).put 1 (.string b)).put 2 (.slice A xs.length cap)⟩;have f1:Fr [r] w wr:=hf.trans fw (by simp) (fun y hy=>Or.inl hy);have f2:=f1.trans (G:=[r]) f (fun y hy=>Or.inl hy) (fun y hy=>Or.inr (by rw[aD]at hy;omega));have hn:∀g∈blk A,g∉[bx]:=fun g hg h1=>by
  rw[aD]at h1;have:=J.nw g hg;have:=J.hr Y (by simp);omega
 have sg:=J.sg.kept f hn;refine⟨⟨⟨a,b,xs⟩,A,cap⟩,rfl,by simp,R.kept J.pd f (fun y hy=>by rw[aD]at hy;omega),f2,⟨⟨sa,sb,yC (f:=tZ) (fun _=>rfl) (by decide) sg,aZ sg.le sg.max,fun y hy=>(J.ok y hy).1.1,fun y hy=>(J.ok y hy).1.2,sg.le⟩,fun g hg=>sg.lt g hg⟩,fun y hy=>?_⟩;have a1:=J.nw y hy;have a2:=J.hr Y (by simp);omega
section
variable {w0:World} {x r:Nat} {pA:Option Addr} {pc:Nat} {m:List (List UInt8)} {s:ByteArray} {p:Nat} {er:Int}
theorem aJX{w:World}(hp:Rd w0 pA (m.map encStr))(hm:m.length≤1000000)(ai:∀x∈m,x.length≤maxLen)(hs:s.size≤maxLen)(au:p≤s.size)(ag:er≠6)(h:QD w0 x r pA pc m s p er w) :
 Calls Tryz.prog 107 #[.pointer (some ⟨x,0,none⟩)] w (OP zG MO.o r (QD w0 x r pA pc m s) (sV m s p er).1 (sV m s p er).2.1 (sV m s p er).2.2 w):=by
 have R:=aCa w0 x r pA pc m s;obtain⟨W,ad⟩:∃W,Hid (W=w.alloc (.cells #[.string ⟨#[]⟩,.string ⟨#[]⟩,.slice none 0 0] 99)):=⟨_,hid rfl⟩;have hW:QD w0 x r pA pc m s p er W:=by rw[ad.out];exact R.kept h ((Fr.refl [] w).alloc _) (by simp)
 have hf:Hid (Fr [] w W):=hid (by rw[ad.out];exact(Fr.refl [] w).alloc _);have B1:bV W w.heap.size 99 #[.string ⟨#[]⟩,.string ⟨#[]⟩,.slice none 0 0]:=by rw[ad.out];exact bV.new _ _ _
 have ay:=h.bx.lt;have bp:=h.lt;have bi:Hid (w.heap.size<W.heap.size):=hid B1.lt;have bo:Hid (x+1≤w.heap.size):=hid ay;have n1:w.heap.size≠r:=by omega
 have HB:Hid (∀w2,Fr [r] W w2→bV w2 w.heap.size 99 #[.string ⟨#[]⟩,.string ⟨#[]⟩,.slice none 0 0]):=hid (fun w2 f=>B1.kept f (by simpa using n1));have HR:=hid R;have HT:Hid (∀(w2:World) (q:Nat) (e:Int),q≤s.size→e≠6→QD w0 x r pA pc m s q e w2→Calls Tryz.prog 104 #[.pointer (some ⟨x,0,none⟩)] w2 (QPP (QD w0 x r pA pc m s) r (.string (tT m s q e)) (nP s q e) (tN m s q e) w2)):=hid (fun w2 q e hq he d=>yH hp hm hs hq he d);have HN:Hid (∀(w2:World) (q:Nat) (e:Int),q≤s.size→QD w0 x r pA pc m s q e w2→Calls Tryz.prog 48 #[.pointer (some ⟨r,0,none⟩)] w2 (QPP (QD w0 x r pA pc m s) r (.int .i64 (nV s q e)) (nP s q e) (nE s q e) w2)):=hid (fun w2 q e hq d=>(jZ w2 r s q e d.rr hs hq).mono (fun e w' k=>⟨k.1,d.of k.2.2 k.2.1,k.2.2⟩));have HM:Hid (∀(w2:World) (q:Nat) (e:Int),q≤s.size→QD w0 x r pA pc m s q e w2→Calls Tryz.prog 106 #[.pointer (some ⟨x,0,none⟩)] w2 (QPP (QD w0 x r pA pc m s) r (.int .i64 (nM s q e:Int)) (nP s q e) (eL s q e) w2)):=hid (fun w2 q e hq d=>yK hs hq d)
 have ak:=hid (aLs m s);unfold Okp at ak;have q1:=hid (eB s p er au);have q2:=hid (eB s (nP s p er) (tN m s p er) q1.out);have q3:=hid (eB s (nP s (nP s p er) (tN m s p er)) (tN m s (nP s p er) (tN m s p er)) q2.out);have E0:=hid ag;have E1:=hid (kX m s p er ag);have E2:=hid (kX m s (nP s p er) (tN m s p er) E1.out);have E3:=hid (sO s (nP s (nP s p er) (tN m s p er)) (tN m s (nP s p er) (tN m s p er)) E2.out);have bv:=aDx s (nP s (nP s p er) (tN m s p er)) (tN m s (nP s p er) (tN m s p er));have K1:=hid (HT.out W p er au ag hW);have sa:Hid ((tT m s p er).size≤maxLen):=hid (jO m s _ _ ai);have sb:Hid ((tT m s (nP s p er) (tN m s p er)).size≤maxLen):=hid (jO m s _ _ ai);have bq:Hid (∀q e,q≤s.size→∀w9:World,EMk.ok w9 (mO m s q e).1):=hid (fun q e hq _=>⟨jO m s _ _ ai,aK0 s q e hq⟩);have a9:Hid (x+1≤W.heap.size∧r<W.heap.size):=hid ⟨hW.bx.lt,hW.lt⟩
 unfold OP sV;dsimp only;have bb:=rA (mO m s) s (nP s (nP s p er) (tN m s p er)) (tN m s (nP s p er) (tN m s p er)) E2.out;rw[bb];have bj:Hid (∀q e,(mO m s q e).1=⟨(nV s q e:Nat),tT m s (nP s q e) (nE s q e)⟩∧(mO m s q e).2.1=nP s (nP s q e) (nE s q e)∧(mO m s q e).2.2=tN m s (nP s q e) (nE s q e)):=hid (fun q e=>⟨rfl,rfl,rfl⟩);have hQ:Hid (∀p e,p≤s.size→nP s p e≤s.size):=hid (fun p e hp=>eB s p e hp);have bm:Hid (∀p e,e≠6→nE s p e≠6):=hid (fun p e he=>pG s p e he);have ao:=hid (fun(w3:World) (d:QD w0 x r pA pc m s (nP s p er) (tN m s p er) w3)=>HT.out w3 _ _ q1.out E1.out d);have ap:=hid (fun(w3:World) (d:QD w0 x r pA pc m s (nP s (nP s p er) (tN m s p er)) (tN m s (nP s p er) (tN m s p er)) w3)=>HM.out w3 _ _ q2.out d);clear hp hm ai hs au h hW B1 ay bp n1 ag R bb E0 E1 E2 q1 q2 HM;unfold QPP at K1 HT HN ao ap;generalize tT m s p er=a at *;generalize nP s p er=p1 at *
 generalize tN m s p er=e1 at *;generalize tT m s p1 e1=b at *;generalize nP s p1 e1=p2 at *;generalize tN m s p1 e1=e2 at *;generalize nM s p2 e2=n at *;generalize nP s p2 e2=p3 at *;generalize eL s p2 e2=e3 at *;obtain⟨RR,am⟩:∃RR,Hid (RR=dX (mO m s) n p3 e3):=⟨_,hid rfl⟩;rw[←am.out];generalize mO m s=one at *;obtain⟨i0,b9,b1,bc,b7⟩:=aEX;have Hi:=hid b9;have bl:=hid b1;have bu:=hid bc;have bh:=hid b7;clear b9 b1 bc b7;go_enter Tryz.func107,Tryz.ntmps107;go_upto_region 1 with fail;rw[←ad.out];clear ad;generalize ah:w.heap.size=bx at *;replace ah:=hid ah;go_wp2_with fail;refine K1.out.mono ?_;rintro e w2 ⟨rfl,y2,f2⟩;have S3:=hid (wM.new HR.out y2 f2 (by simpa using a9.out.2) 99 #[.string a,.string ⟨#[]⟩,.slice none 0 0]);clear y2 f2 K1;go_upto_region 2 with fail;generalize w2.alloc (.cells #[.string a,.string ⟨#[]⟩,.slice none 0 0] 99)=w3 at *;generalize w2.heap.size=J at *
 have K2:=hid (ao.out w3 S3.out.pd);go_wp2_with fail;refine K2.out.mono ?_;rintro e w4 ⟨rfl,y4,f4⟩;have S4:=hid (S3.out.read y4 f4);have c4:=S4.out.bx.cell 1;have g4:=S4.out.bx.free 1;clear y4 f4 K2 S3 ao;go_upto_region 3 with fail;have S5:=hid (wM.put HR.out a9.out.1 S4.out 1 (.string b));generalize w4.setCell ⟨J,1,none⟩ (.string b)=w5 at *;clear c4 g4 S4;have K3:=hid (ap.out w5 S5.out.pd);go_wp2_with fail;refine K3.out.mono ?_;rintro e w6 ⟨rfl,y6,f6⟩;have S6:=hid (S5.out.read y6 f6);clear y6 f6 K3 S5 ap
 have hF:Hid (∀y∈[r,J],y<w6.heap.size):=hid (fun y hy=>by
  have a1:=S6.out.bx.lt;have a2:=S6.out.fr.size;have a3:=a9.out.2;simp only[aM,aT,or_false]at hy
  omega)
 have b2:Hid (x+1≤bx):=bo
 have a5:Hid (x+1≤w6.heap.size∧x+1≤J∧r≠J∧bx<J):=hid (by
  have a1:=S6.out.fr.size;have a2:=S6.out.nw;have a3:=a9.out;have a4:=bi.out
  omega)
 have L6:Hid (jP EMk 2 [r,J] (QD w0 x r pA pc m s) p3 e3 w6 101 none 0 [] w6):=hid (jP.start S6.out.pd (Fr.refl _ _) hF.out);have b5:Hid (RR=(([]:List Mk).map (fun m:Mk=>m)++(dX one (n-0) p3 e3).1,(dX one (n-0) p3 e3).2)):=hid am.out;have B6:Hid (bV w6 J 99 #[.string a,.string b,.slice none ([]:List Mk).length 0]):=hid S6.out.bx;have b4:Hid (Fr [r] W w6):=hid S6.out.fr;have b3:Hid (W.heap.size≤J):=hid S6.out.nw;clear am S6;go_wp2_with fail;go_loopw [5] (fun i wr=>∃(k:Nat) (A:Option Addr) (cap:Nat) (xs:List Mk) (q:Nat) (eq:Int),k≤n∧i=.int .i64 k∧xs.length≤k∧Hid (jP EMk 2 [r,J] (QD w0 x r pA pc m s) q eq w6 101 A cap xs wr)∧Hid (bV wr J 99 #[.string a,.string b,.slice A xs.length cap])∧Hid (q≤s.size)∧Hid (eq≠6)∧Hid (RR=(xs.map (fun m:Mk=>m)++(dX one (n-k) q eq).1,(dX one (n-k) q eq).2))) (fun i _=>n-(intOf i).toNat)
 case atStart=>exact⟨0,none,0,[],p3,e3,by omega,rfl,by simp,L6,B6,q3,E3,b5⟩
 case round=>
  obtain⟨k,A,cap,xs,q,eq,hk,rfl,ay,HL,a0,hq,a8,a7⟩:=hrel;clear L6 b5 B6 q3 E3;obtain⟨c0,c1,c2⟩:=HL.out.pd.cells;by_cases bf:k<n
  ·have d1:decide ((k:Int)<(n:Int))=true:=aC (by omega)
   by_cases h0:eq=0
   ·subst h0
    have a6:=hid (go_round one (fun m:Mk=>m) bf a7.out);obtain⟨aj,ae⟩:=ak.out q 0 hq.out a8.out;replace aj:=hid aj;replace ae:=hid ae;have bd:=hid (bq.out q 0 hq.out);obtain⟨m1,m2,m3⟩:=bj.out q 0;rw[m1,m2,m3]at a6;rw[m2]at aj;rw[m3]at ae;rw[m1]at bd;clear m1 m2 m3;have KN:=hid (HN.out wr q 0 hq.out HL.out.pd);have KT:=hid (fun w5 (d:QD w0 x r pA pc m s (nP s q 0) (nE s q 0) w5)=>HT.out w5 (nP s q 0) (nE s q 0) (hQ.out q 0 hq.out) (bm.out q 0 a8.out) d);clear a7;generalize nV s q 0=yO at *;generalize nP s q 0=q1 at *;generalize nE s q 0=aw at *;generalize tT m s q1 aw=tg at *;generalize nP s q1 aw=q2 at *;generalize tN m s q1 aw=af at *;go_wp2_with fail;refine KN.out.mono ?_;rintro e wa ⟨rfl,da,fa⟩;have Sa:=hid (wM.new HR.out da fa (fun y hy=>Nat.lt_of_lt_of_le (hF.out y (by rw[aD]at hy;subst hy;simp)) HL.out.fr.size) 101 #[.int .i64 (yO:Int),.string ⟨#[]⟩])
    clear da fa KN c0 c1 c2;go_upto_region 8 with fail;generalize wa.alloc (.cells #[.int .i64 (yO:Int),.string ⟨#[]⟩] 101)=wb at *;generalize wa.heap.size=mb at *;have b8:=hid (KT.out wb Sa.out.pd);go_wp2_with fail;refine b8.out.mono ?_;rintro e wc ⟨rfl,dc,fc⟩;have Sc:=hid (Sa.out.read dc fc);have c4:=Sc.out.bx.cell 1;have g4:=Sc.out.bx.free 1;clear dc fc b8 Sa KT;go_upto_region 9 with fail;have Sd:=hid (wM.put HR.out (aZ a5.out.1 HL.out.fr.size) Sc.out 1 (.string tg));have ar:Hid (Fr [r] wr (wc.setCell ⟨mb,1,none⟩ (.string tg))):=hid Sd.out.fr;generalize wc.setCell ⟨mb,1,none⟩ (.string tg)=wd at *;clear c4 g4 Sc;have L8:=hid (HL.out.read gMk Sd.out.pd (Fr.more ar.out (show r∈[r,J] by simp)));have ax:=hid (a0.out.kept ar.out (by have:=a5.out.2.2.1;simpa using this.symm))
    have bk:Hid (∀o w9,Fr (blk A) (wd.alloc o) w9→bV w9 J 99 #[.string a,.string b,.slice A xs.length cap]):=hid (fun o w9 f=>(ax.out.kept ((Fr.refl [] wd).alloc o) (by simp)).kept f (fun hx=>by
     have a1:=L8.out.nw J hx;have a2:=hF.out J (by simp)
     omega))
    have e0:wd.cell? ⟨mb,0,none⟩=some (.int .i64 (yO:Int)):=Sd.out.bx.cell 0;have e1:wd.cell? ⟨mb,1,none⟩=some (.string tg):=Sd.out.bx.cell 1;have e2:wd.cell? ⟨J,2,none⟩=some (.slice A xs.length cap):=ax.out.cell 2;clear HL a0 ar Sd ax hq a8
    go_wp2_with (at_builtin;refine iV (us:=[.int .i64 (yO:Int),.string tg]) rfl _ _ _ rfl (L8.out.sg.alloc _) Tryz.underlying97 Hi.out bl.out bu.out bh.out rfl rfl rfl rfl (iZ _ _ [.int .i64 (yO:Int),.string tg]) (gMk.one ⟨(yO:Int),tg⟩) (by omega) (by omega) ?_;intro A3 Y w9 b6 f6 ba;have L9:=hid (L8.out.push HR.out gMk a5.out.1 (b:=⟨(yO:Int),tg⟩) (bd.out _) (fun y hy=>by cases hy) b6 f6 ba);have B9:=hid (bk.out _ _ f6);have c9:=B9.out.cell 2;have v9:=B9.out.free 2;clear b6 f6 ba)
    have az:(xs++[(⟨(yO:Int),tg⟩:Mk)]).length=xs.length+1:=by simp
    have bg:Hid (RR=((xs++[(⟨(yO:Int),tg⟩:Mk)]).map (fun m:Mk=>m)++(dX one (n-(k+1)) q2 af).1,(dX one (n-(k+1)) q2 af).2)):=hid (by rw[List.map_append,List.map_singleton];exact a6.out);have fs:Fr [J] w9 (w9.setCell ⟨J,2,none⟩ (.slice A3 (xs.length+1) Y)):=(Fr.refl [J] w9).setCell (p:=⟨J,2,none⟩) (Or.inl (by simp)) _;have br:Hid (jP EMk 2 [r,J] (QD w0 x r pA pc m s) q2 af w6 101 A3 Y (xs++[(⟨(yO:Int),tg⟩:Mk)]) (w9.setCell ⟨J,2,none⟩ (.slice A3 (xs.length+1) Y))):=hid (L9.out.read gMk (HR.out.kept L9.out.pd fs (fun y hy=>by rw[aD]at hy;have:=a5.out.2.1;omega)) (Fr.more fs (show J∈[r,J] by simp)));have bn:Hid (bV (w9.setCell ⟨J,2,none⟩ (.slice A3 (xs.length+1) Y)) J 99 #[.string a,.string b,.slice A3 (xs++[(⟨(yO:Int),tg⟩:Mk)]).length Y]):=hid (by rw[az];exact B9.out.put 2 (.slice A3 (xs.length+1) Y));clear fs c9 v9;go_roundw
    case rel=>exact⟨k+1,A3,Y,xs++[(⟨(yO:Int),tg⟩:Mk)],q2,af,by omega,by go_num,by omega,br,bn,aj,ae,bg⟩
    case measure=>simp[intOf];omega
   ·have d2:(eq==0)=false:=by simpa using h0
    have a6:=hid (xC one (fun m:Mk=>m) a8.out h0 a7.out);have e0:wr.cell? ⟨J,0,none⟩=some (.string a):=a0.out.cell 0;have e1:wr.cell? ⟨J,1,none⟩=some (.string b):=a0.out.cell 1;have e2:wr.cell? ⟨J,2,none⟩=some (.slice A xs.length cap):=a0.out.cell 2
    have FW:Hid (Fr [r] W wr):=hid (b4.out.trans HL.out.fr (fun y hy=>Or.inl hy) (fun y hy=>by
     simp only[aM,aT,or_false]at hy;rcases hy with rfl | rfl
     ·exact Or.inl (by simp)
     ·exact Or.inr b3.out))
    have B7:=hid (HB.out wr FW.out);have z0:wr.cell? ⟨bx,0,none⟩=some (.string ⟨#[]⟩):=B7.out.cell 0;have z1:wr.cell? ⟨bx,1,none⟩=some (.string ⟨#[]⟩):=B7.out.cell 1;have z2:wr.cell? ⟨bx,2,none⟩=some (.slice none 0 0):=B7.out.cell 2;have v0:=B7.out.free 0;have v1:=B7.out.free 1;have v2:=B7.out.free 2;obtain⟨hX,aa⟩:=aDa (q:=q) (eq:=eq) (a:=a) (b:=b) HR.out ah.out hf.out FW.out a9.out a5.out sa.out sb.out HL.out B7.out b2.out;have av:=hid aa;have HX:=hid hX;clear HL a0 hq a8 FW B7 hX aa a7;go_wp2_with fail;refine bodyPost_ret (results_cell_row rfl _ _ _ _ _ _ _ rfl av.out uO rfl (by kernel_rfl)) rfl ?_;rw[a6.out];exact HX.out
  ·obtain rfl:k=n:=by omega
   have d1:decide ((k:Int)<(k:Int))=false:=aB (by omega);have a6:=hid (xH one (fun m:Mk=>m) a7.out);have e0:wr.cell? ⟨J,0,none⟩=some (.string a):=a0.out.cell 0;have e1:wr.cell? ⟨J,1,none⟩=some (.string b):=a0.out.cell 1;have e2:wr.cell? ⟨J,2,none⟩=some (.slice A xs.length cap):=a0.out.cell 2
   have FW:Hid (Fr [r] W wr):=hid (b4.out.trans HL.out.fr (fun y hy=>Or.inl hy) (fun y hy=>by
    simp only[aM,aT,or_false]at hy;rcases hy with rfl | rfl
    ·exact Or.inl (by simp)
    ·exact Or.inr b3.out))
   have B7:=hid (HB.out wr FW.out);have z0:wr.cell? ⟨bx,0,none⟩=some (.string ⟨#[]⟩):=B7.out.cell 0;have z1:wr.cell? ⟨bx,1,none⟩=some (.string ⟨#[]⟩):=B7.out.cell 1;have z2:wr.cell? ⟨bx,2,none⟩=some (.slice none 0 0):=B7.out.cell 2;have v0:=B7.out.free 0;have v1:=B7.out.free 1;have v2:=B7.out.free 2;obtain⟨hX,aa⟩:=aDa (q:=q) (eq:=eq) (a:=a) (b:=b) HR.out ah.out hf.out FW.out a9.out a5.out sa.out sb.out HL.out B7.out b2.out;have av:=hid aa;have HX:=hid hX;clear HL a0 hq a8 FW B7 hX aa a7;go_wp2_with fail;refine bodyPost_ret (results_cell_row rfl _ _ _ _ _ _ _ rfl av.out uO rfl (by kernel_rfl)) rfl ?_;rw[a6.out];exact HX.out
end
end re
end Go.Proofs.YtdmmkjijgoiecaaGreatDoor
