import Derived.Test.YtdmmkjijgoiecaaGreatDoorY23
set_option linter.all false
set_option maxHeartbeats 4000000
namespace Go.Proofs.YtdmmkjijgoiecaaGreatDoor
open Lib(hid)
set_option maxRecDepth 100000
namespace nm
open RowKit Go.Sort
def bV(w:World)(g:Nat)(t:TypeId)(cs:Array Value):Prop:=w.heap[g]? = some (.cells cs t (0,0))
theorem bV.lt{w:World}{g:Nat}{t:TypeId}{cs:Array Value}(h:bV w g t cs):g<w.heap.size:=by
 rcases Nat.lt_or_ge g w.heap.size with J | J
 ·exact J
 ·unfold bV at h;rw[Array.getElem?_eq_none J]at h;cases h
theorem bV.cell{w:World}{g:Nat}{t:TypeId}{cs:Array Value}(h:bV w g t cs)(i:Nat):w.cell? ⟨g,i,none⟩=cs[i]?:=cell_of_row w g i cs t (0,0) h
theorem bV.free{w:World}{g:Nat}{t:TypeId}{cs:Array Value}(h:bV w g t cs)(i:Nat):w.frozen? ⟨g,i,none⟩=false:=by
 unfold bV at h;simp[World.frozen?,h]
theorem bV.new(w:World)(t:TypeId)(cs:Array Value):bV (w.alloc (.cells cs t)) w.heap.size t cs:=heap_alloc_new w _
theorem bV.new'(w:World)(t:TypeId)(cs:Array Value)(n:Nat)(h:w.heap.size=n):bV (w.alloc (.cells cs t)) n t cs:=h ▸ bV.new w t cs
theorem bV.on{w w':World}{g:Nat}{t:TypeId}{cs:Array Value}(h:bV w g t cs)(hb:Below w.heap.size w w'):bV w' g t cs:=(hb.block g h.lt).trans h
def seven(f t:ByteArray)(c n l:Int):Array Value:=
 #[.int .i64 1,.string f,.int .i64 c,.string t,.int .i64 0,.int .i64 (-1),
  .int .i64 2,.string f,.int .i64 c,.string ⟨#[]⟩,.int .i64 n,.int .i64 (-1),
  .int .i64 3,.string f,.int .i64 c,.string ⟨#[]⟩,.int .i64 n,.int .i64 (-1),
  .int .i64 4,.string f,.int .i64 c,.string ⟨#[]⟩,.int .i64 0,.int .i64 (-1),
  .int .i64 5,.string ⟨#[]⟩,.int .i64 0,.string f,.int .i64 0,.int .i64 l,
  .int .i64 6,.string f,.int .i64 c,.string t,.int .i64 0,.int .i64 l,
  .int .i64 7,.string f,.int .i64 c,.string ⟨#[]⟩,.int .i64 n,.int .i64 l]
def RS(w wr:World)(f t:ByteArray)(c n l:Int):Prop:=
 (∃t1,bV wr w.heap.size t1 #[.int .i64 0,.string ⟨#[]⟩,.int .i64 0,.string ⟨#[]⟩,.int .i64 0,.int .i64 0])∧(∃t2,bV wr (w.heap.size+1) t2 (seven f t c n l))∧Below w.heap.size w wr
theorem RS.on{w wr w':World}{f t:ByteArray}{c n l:Int}(h:RS w wr f t c n l)(hb:Below wr.heap.size wr w'):RS w w' f t c n l:=by
 obtain⟨⟨t1,h1⟩,⟨t2,Y⟩,J⟩:=h;exact⟨⟨t1,h1.on hb⟩,⟨t2,Y.on hb⟩,bT J hb⟩
theorem RS.node{w wr:World}{f t:ByteArray}{c n l:Int}(h:RS w wr f t c n l)(j:Nat):wr.cell? ⟨w.heap.size+1,j,none⟩=(seven f t c n l)[j]?:=by
 obtain⟨_,⟨t2,J⟩,_⟩:=h;exact J.cell j
theorem RS.zero{w wr:World}{f t:ByteArray}{c n l:Int}(h:RS w wr f t c n l)(j:Nat):wr.cell? ⟨w.heap.size,j,none⟩=(#[.int .i64 0,.string ⟨#[]⟩,.int .i64 0,.string ⟨#[]⟩,.int .i64 0,.int .i64 0]:Array Value)[j]?:=by
 obtain⟨⟨t1,J⟩,_,_⟩:=h;exact J.cell j
theorem RS.lt{w wr:World}{f t:ByteArray}{c n l:Int}(h:RS w wr f t c n l):w.heap.size+1<wr.heap.size:=by
 obtain⟨_,⟨t2,J⟩,_⟩:=h;exact J.lt
theorem RS.free{w wr:World}{f t:ByteArray}{c n l:Int}(h:RS w wr f t c n l)(j:Nat):wr.frozen? ⟨w.heap.size,j,none⟩=false:=by
 obtain⟨⟨t1,J⟩,_,_⟩:=h;exact J.free j
theorem aFE(s:ByteArray)(d:Nd) :
 (isB s d=false∧lN d=11)∨(isB s d=false∧lN d=0∧((txt d).toList==s.toList)=false) ∨
 (isB s d=false∧lN d=0∧((txt d).toList==s.toList)=true∧jY s=⟨#[]⟩∧d.kind≠5) ∨
 (isB s d=true∧lN d=0∧((txt d).toList==s.toList)=true∧(d.kind=5∨(jY s).size≠0)):=by
 unfold isB;rcases iT d s with⟨h1,Y⟩ | ⟨h1,Y,J⟩ | ⟨h1,Y,J⟩
 ·exact Or.inl ⟨by rw[h1];rfl,Y⟩
 ·exact Or.inr (Or.inl ⟨by rw[J];simp,Y,J⟩)
 ·by_cases hk:d.kind=5
  ·exact Or.inr (Or.inr (Or.inr ⟨by rw[h1,J,hk];simp,Y,J,Or.inl hk⟩))
  ·by_cases hz:(jY s).size=0
   ·have e:jY s=⟨#[]⟩:=by
     have hl:=dg.cZ (jY s);have:(jY s).data.toList=[]:=List.eq_nil_of_length_eq_zero (by omega);exact eY this
    exact Or.inr (Or.inr (Or.inl ⟨by rw[h1,J,e,ByteArray.toList_eq];simp[hk],Y,J,e,hk⟩))
   ·refine Or.inr (Or.inr (Or.inr ⟨?_,Y,J,Or.inr hz⟩))
    rw[h1,J,dg.bU (jY s) hz];rfl
theorem aHO{s:ByteArray}{d:Nd}{w w':World}(h:isB s d=true)(hb:Below w.heap.size w w'):gL s w (.returned (.tuple #[d.val,.int .i64 0])) w':=by
 obtain⟨Y,J⟩:=aHh s d h;refine⟨?_,hb⟩;unfold wS xE;rw[Y,J];rfl
theorem aFZ{s:ByteArray}{w w':World}(h:∀k,k<7→isB s (iM s k)=false)(hb:Below w.heap.size w w'):gL s w (.returned (.tuple #[fU.val,.int .i64 11])) w':=by
 have J:=aJL s h;refine⟨?_,hb⟩;unfold wS xE;rw[J];rfl
theorem aC8{s:ByteArray}{k:Nat}(h:∀j,j<k→isB s (iM s j)=false)(J:isB s (iM s k)=false):∀j,j<k+1→isB s (iM s j)=false:=fun j Y=>by
 rcases Nat.lt_or_ge j k with g | g
 ·exact h j g
 ·obtain rfl:j=k:=by omega
  exact J
theorem aAF(s:ByteArray)(w:World)(hs:s.size≤maxLen):Calls Tryz.prog 117 #[.string s] w (gL s w):=by
 have K1:=hid (fun w=>aFM s w hs);unfold dU at K1;have lt:(iU s).size≤maxLen:=by
  unfold iU pM;split
  ·exact bA _
  ·refine aZ (gJ _) (aZ (fJ _) (aZ ?_ hs))
   unfold pC;split
   ·exact dR s
   ·exact aZ (dR _) (aZ (fJ _) (dR s))
 have lf:(fn0 s).size≤maxLen:=aZ (gJ s) hs;have K2:=hid (fun w=>jJ (iU s) w lt);have e1:(dg.rd (iU s)).1=uB s:=rfl;rw[e1]at K2;clear e1;generalize (dg.rd (iU s)).2=ne at *;have Hw:=hid (fun d=>aFE s d);have a6:=hid (fun d w' (h:isB s d=true) (hb:Below w.heap.size w w')=>aHO h hb);have a9:=hid (fun w' (h:∀k,k<7→isB s (iM s k)=false) (hb:Below w.heap.size w w')=>aFZ h hb);have a3:=hid (fun k (h:∀j,j<k→isB s (iM s j)=false) (h2:isB s (iM s k)=false)=>aC8 h h2);have C0:Hid (iM s 0=⟨1,fn0 s,iQ s,iU s,0,-1⟩):=hid (by unfold iM;rfl);have C1:Hid (iM s 1=⟨2,fn0 s,iQ s,⟨#[]⟩,uB s,-1⟩):=hid (by unfold iM;rfl);have C2:Hid (iM s 2=⟨3,fn0 s,iQ s,⟨#[]⟩,uB s,-1⟩):=hid (by unfold iM;rfl);have C3:Hid (iM s 3=⟨4,fn0 s,iQ s,⟨#[]⟩,0,-1⟩):=hid (by unfold iM;rfl);have C4:Hid (iM s 4=⟨5,⟨#[]⟩,0,fn0 s,0,kW s⟩):=hid (by unfold iM;rfl)
 have C5:Hid (iM s 5=⟨6,fn0 s,iQ s,iU s,0,kW s⟩):=hid (by unfold iM;rfl);have C6:Hid (iM s 6=⟨7,fn0 s,iQ s,⟨#[]⟩,uB s,kW s⟩):=hid (by unfold iM;rfl);have aa:=hid (fun(d:Nd) w (h1:d.name.size≤maxLen) (h2:d.fn.size≤maxLen)=>xZ d w h1 h2);unfold dD at aa;generalize af:iM s=cr at *;generalize ad:isB s=ae at *;generalize fn0 s=fn at *;generalize iQ s=cp at *;generalize iU s=tl at *;generalize uB s=nm at *;generalize kW s=ce at *;generalize jY s=mk at *;clear af ad;unfold fU at a9;unfold Nd.val Nd.cells at a9;go_enter Tryz.func117,Tryz.ntmps117;go_wp2_with fail;refine(K1.out _).mono ?_;rintro e w' ⟨rfl,q1,rfl⟩;go_wp2_with fail;refine(K2.out _).mono ?_;rintro e w' ⟨rfl,rfl⟩;clear K1 K2;go_wp2_with fail;go_loopw [12] (fun i wr=>∃k:Nat,k≤7∧i=.int .i64 k∧Hid (∀j,j<k→ae (cr j)=false)∧Hid (RS w wr fn tl cp nm ce)) (fun i _=>7-(intOf i).toNat)
 case atStart=>
  refine⟨0,by omega,rfl,hid (fun j hj=>absurd hj (Nat.not_lt_zero j)),hid ⟨?_,?_,?_⟩⟩
  ·exact⟨_,bV.on (bV.new w _ _) (Below.alloc (dt.below_drewN (Below.refl _ _) _) (by simp) _)⟩
  ·exact⟨_,bV.new' _ _ _ _ (by simp)⟩
  ·exact Below.alloc (dt.below_drewN (Below.alloc (Below.refl _ _) (by simp) _) _) (by simp) _
 case round=>
  obtain⟨k,hk,rfl,hj,hr⟩:=hrel;rename_i wr _;by_cases ag:k<7
  ·rcases k with _ | _ | _ | _ | _ | _ | _ | k
   ·have HC:=C0.out
    clear C0 C1 C2 C3 C4 C5 C6;have c0:wr.cell? ⟨w.heap.size+1,0,none⟩=some (.int .i64 (1)):=hr.out.node 0;have c1:wr.cell? ⟨w.heap.size+1,1,none⟩=some (.string fn):=hr.out.node 1;have c2:wr.cell? ⟨w.heap.size+1,2,none⟩=some (.int .i64 (cp)):=hr.out.node 2;have c3:wr.cell? ⟨w.heap.size+1,3,none⟩=some (.string tl):=hr.out.node 3;have c4:wr.cell? ⟨w.heap.size+1,4,none⟩=some (.int .i64 (0)):=hr.out.node 4;have c5:wr.cell? ⟨w.heap.size+1,5,none⟩=some (.int .i64 (-1)):=hr.out.node 5;have Tk:=hid (fun w=>aa.out ⟨1,fn,cp,tl,0,-1⟩ w (by show ByteArray.size _≤_;first | assumption | exact bA _) (by show ByteArray.size _≤_;first | assumption | exact bA _));have Wk:=Hw.out ⟨1,fn,cp,tl,0,-1⟩;have Hk:=hid (fun w'=>a6.out ⟨1,fn,cp,tl,0,-1⟩ w');unfold Nd.val Nd.cells at Tk Hk;have Nk:=hid (a3.out 0);rw[HC]at Nk;go_wp2_with fail;refine(Tk.out wr).mono ?_;rintro e Y ⟨rfl,b5⟩;have J:=hid (hr.out.on b5)
    clear b5 hr c0 c1 c2 c3 c4 c5 Tk;have g0:Y.cell? ⟨w.heap.size+1,0,none⟩=some (.int .i64 (1)):=J.out.node 0;have g1:Y.cell? ⟨w.heap.size+1,1,none⟩=some (.string fn):=J.out.node 1;have g2:Y.cell? ⟨w.heap.size+1,2,none⟩=some (.int .i64 (cp)):=J.out.node 2;have g3:Y.cell? ⟨w.heap.size+1,3,none⟩=some (.string tl):=J.out.node 3;have g4:Y.cell? ⟨w.heap.size+1,4,none⟩=some (.int .i64 (0)):=J.out.node 4;have g5:Y.cell? ⟨w.heap.size+1,5,none⟩=some (.int .i64 (-1)):=J.out.node 5;generalize lN ⟨1,fn,cp,tl,0,-1⟩=te at *;generalize txt ⟨1,fn,cp,tl,0,-1⟩=tt at *;rcases Wk with⟨hi,rfl⟩ | ⟨hi,rfl,a1⟩ | ⟨hi,rfl,a1,a5,a2⟩ | ⟨hi,rfl,a1,a2⟩
    ·go_wp2_with fail
     go_roundw
     case rel=>exact⟨1,by omega,rfl,hid (Nk.out hj.out hi),J⟩
     case measure=>simp[intOf]
    ·go_wp2_with fail
     go_roundw
     case rel=>exact⟨1,by omega,rfl,hid (Nk.out hj.out hi),J⟩
     case measure=>simp[intOf]
    ·subst a5
     have a7:((⟨#[]⟩:ByteArray).toList.isEmpty)=true:=by rw[ByteArray.toList_eq];rfl
     go_wp2_with fail;go_roundw
     case rel=>exact⟨1,by omega,rfl,hid (Nk.out hj.out hi),J⟩
     case measure=>simp[intOf]
    ·have a0:=hid (fun w'=>Hk.out w' hi)
     have a4:=J.out.2.2;have z0:Y.cell? ⟨w.heap.size,0,none⟩=some (.int .i64 0):=J.out.zero 0;have z1:Y.cell? ⟨w.heap.size,1,none⟩=some (.string ⟨#[]⟩):=J.out.zero 1;have z2:Y.cell? ⟨w.heap.size,2,none⟩=some (.int .i64 0):=J.out.zero 2;have z3:Y.cell? ⟨w.heap.size,3,none⟩=some (.string ⟨#[]⟩):=J.out.zero 3;have z4:Y.cell? ⟨w.heap.size,4,none⟩=some (.int .i64 0):=J.out.zero 4;have z5:Y.cell? ⟨w.heap.size,5,none⟩=some (.int .i64 0):=J.out.zero 5;have f0:=J.out.free 0;have f1:=J.out.free 1;have f2:=J.out.free 2;have f3:=J.out.free 3;have f4:=J.out.free 4;have f5:=J.out.free 5;have a8:w.heap.size+1<Y.heap.size:=J.out.lt;have a7:=dg.bU mk (a2.resolve_left (by show ¬((1:Int)=5);decide));go_wp2_with fail;refine bodyPost_ret ?_ rfl (a0.out _ ?_)
     ·simp only[results,Tryz.results117]
      clear a0;go_simp
     ·repeat (first | (with_reducible exact a4) | (with_reducible refine Below.setCell ?_ (by simp) _))
   ·have HC:=C1.out
    clear C0 C1 C2 C3 C4 C5 C6;have c0:wr.cell? ⟨w.heap.size+1,6,none⟩=some (.int .i64 (2)):=hr.out.node 6;have c1:wr.cell? ⟨w.heap.size+1,7,none⟩=some (.string fn):=hr.out.node 7;have c2:wr.cell? ⟨w.heap.size+1,8,none⟩=some (.int .i64 (cp)):=hr.out.node 8;have c3:wr.cell? ⟨w.heap.size+1,9,none⟩=some (.string ⟨#[]⟩):=hr.out.node 9;have c4:wr.cell? ⟨w.heap.size+1,10,none⟩=some (.int .i64 (nm)):=hr.out.node 10;have c5:wr.cell? ⟨w.heap.size+1,11,none⟩=some (.int .i64 (-1)):=hr.out.node 11;have Tk:=hid (fun w=>aa.out ⟨2,fn,cp,⟨#[]⟩,nm,-1⟩ w (by show ByteArray.size _≤_;first | assumption | exact bA _) (by show ByteArray.size _≤_;first | assumption | exact bA _));have Wk:=Hw.out ⟨2,fn,cp,⟨#[]⟩,nm,-1⟩;have Hk:=hid (fun w'=>a6.out ⟨2,fn,cp,⟨#[]⟩,nm,-1⟩ w');unfold Nd.val Nd.cells at Tk Hk;have Nk:=hid (a3.out 1);rw[HC]at Nk;go_wp2_with fail;refine(Tk.out wr).mono ?_;rintro e Y ⟨rfl,b5⟩
    have J:=hid (hr.out.on b5);clear b5 hr c0 c1 c2 c3 c4 c5 Tk;have g0:Y.cell? ⟨w.heap.size+1,6,none⟩=some (.int .i64 (2)):=J.out.node 6;have g1:Y.cell? ⟨w.heap.size+1,7,none⟩=some (.string fn):=J.out.node 7;have g2:Y.cell? ⟨w.heap.size+1,8,none⟩=some (.int .i64 (cp)):=J.out.node 8;have g3:Y.cell? ⟨w.heap.size+1,9,none⟩=some (.string ⟨#[]⟩):=J.out.node 9;have g4:Y.cell? ⟨w.heap.size+1,10,none⟩=some (.int .i64 (nm)):=J.out.node 10;have g5:Y.cell? ⟨w.heap.size+1,11,none⟩=some (.int .i64 (-1)):=J.out.node 11;generalize lN ⟨2,fn,cp,⟨#[]⟩,nm,-1⟩=te at *;generalize txt ⟨2,fn,cp,⟨#[]⟩,nm,-1⟩=tt at *;rcases Wk with⟨hi,rfl⟩ | ⟨hi,rfl,a1⟩ | ⟨hi,rfl,a1,a5,a2⟩ | ⟨hi,rfl,a1,a2⟩
    ·go_wp2_with fail
     go_roundw
     case rel=>exact⟨2,by omega,rfl,hid (Nk.out hj.out hi),J⟩
     case measure=>simp[intOf]
    ·go_wp2_with fail
     go_roundw
     case rel=>exact⟨2,by omega,rfl,hid (Nk.out hj.out hi),J⟩
     case measure=>simp[intOf]
    ·subst a5
     have a7:((⟨#[]⟩:ByteArray).toList.isEmpty)=true:=by rw[ByteArray.toList_eq];rfl
     go_wp2_with fail;go_roundw
     case rel=>exact⟨2,by omega,rfl,hid (Nk.out hj.out hi),J⟩
     case measure=>simp[intOf]
    ·have a0:=hid (fun w'=>Hk.out w' hi)
     have a4:=J.out.2.2;have z0:Y.cell? ⟨w.heap.size,0,none⟩=some (.int .i64 0):=J.out.zero 0;have z1:Y.cell? ⟨w.heap.size,1,none⟩=some (.string ⟨#[]⟩):=J.out.zero 1;have z2:Y.cell? ⟨w.heap.size,2,none⟩=some (.int .i64 0):=J.out.zero 2;have z3:Y.cell? ⟨w.heap.size,3,none⟩=some (.string ⟨#[]⟩):=J.out.zero 3;have z4:Y.cell? ⟨w.heap.size,4,none⟩=some (.int .i64 0):=J.out.zero 4;have z5:Y.cell? ⟨w.heap.size,5,none⟩=some (.int .i64 0):=J.out.zero 5;have f0:=J.out.free 0;have f1:=J.out.free 1;have f2:=J.out.free 2;have f3:=J.out.free 3;have f4:=J.out.free 4;have f5:=J.out.free 5;have a8:w.heap.size+1<Y.heap.size:=J.out.lt;have a7:=dg.bU mk (a2.resolve_left (by show ¬((2:Int)=5);decide));go_wp2_with fail;refine bodyPost_ret ?_ rfl (a0.out _ ?_)
     ·simp only[results,Tryz.results117]
      clear a0;go_simp
     ·repeat (first | (with_reducible exact a4) | (with_reducible refine Below.setCell ?_ (by simp) _))
   ·have HC:=C2.out
    clear C0 C1 C2 C3 C4 C5 C6;have c0:wr.cell? ⟨w.heap.size+1,12,none⟩=some (.int .i64 (3)):=hr.out.node 12;have c1:wr.cell? ⟨w.heap.size+1,13,none⟩=some (.string fn):=hr.out.node 13;have c2:wr.cell? ⟨w.heap.size+1,14,none⟩=some (.int .i64 (cp)):=hr.out.node 14;have c3:wr.cell? ⟨w.heap.size+1,15,none⟩=some (.string ⟨#[]⟩):=hr.out.node 15;have c4:wr.cell? ⟨w.heap.size+1,16,none⟩=some (.int .i64 (nm)):=hr.out.node 16;have c5:wr.cell? ⟨w.heap.size+1,17,none⟩=some (.int .i64 (-1)):=hr.out.node 17;have Tk:=hid (fun w=>aa.out ⟨3,fn,cp,⟨#[]⟩,nm,-1⟩ w (by show ByteArray.size _≤_;first | assumption | exact bA _) (by show ByteArray.size _≤_;first | assumption | exact bA _));have Wk:=Hw.out ⟨3,fn,cp,⟨#[]⟩,nm,-1⟩;have Hk:=hid (fun w'=>a6.out ⟨3,fn,cp,⟨#[]⟩,nm,-1⟩ w');unfold Nd.val Nd.cells at Tk Hk;have Nk:=hid (a3.out 2);rw[HC]at Nk;go_wp2_with fail;refine(Tk.out wr).mono ?_
    rintro e Y ⟨rfl,b5⟩;have J:=hid (hr.out.on b5);clear b5 hr c0 c1 c2 c3 c4 c5 Tk;have g0:Y.cell? ⟨w.heap.size+1,12,none⟩=some (.int .i64 (3)):=J.out.node 12;have g1:Y.cell? ⟨w.heap.size+1,13,none⟩=some (.string fn):=J.out.node 13;have g2:Y.cell? ⟨w.heap.size+1,14,none⟩=some (.int .i64 (cp)):=J.out.node 14;have g3:Y.cell? ⟨w.heap.size+1,15,none⟩=some (.string ⟨#[]⟩):=J.out.node 15;have g4:Y.cell? ⟨w.heap.size+1,16,none⟩=some (.int .i64 (nm)):=J.out.node 16;have g5:Y.cell? ⟨w.heap.size+1,17,none⟩=some (.int .i64 (-1)):=J.out.node 17;generalize lN ⟨3,fn,cp,⟨#[]⟩,nm,-1⟩=te at *;generalize txt ⟨3,fn,cp,⟨#[]⟩,nm,-1⟩=tt at *;rcases Wk with⟨hi,rfl⟩ | ⟨hi,rfl,a1⟩ | ⟨hi,rfl,a1,a5,a2⟩ | ⟨hi,rfl,a1,a2⟩
    ·go_wp2_with fail
     go_roundw
     case rel=>exact⟨3,by omega,rfl,hid (Nk.out hj.out hi),J⟩
     case measure=>simp[intOf]
    ·go_wp2_with fail
     go_roundw
     case rel=>exact⟨3,by omega,rfl,hid (Nk.out hj.out hi),J⟩
     case measure=>simp[intOf]
    ·subst a5
     have a7:((⟨#[]⟩:ByteArray).toList.isEmpty)=true:=by rw[ByteArray.toList_eq];rfl
     go_wp2_with fail;go_roundw
     case rel=>exact⟨3,by omega,rfl,hid (Nk.out hj.out hi),J⟩
     case measure=>simp[intOf]
    ·have a0:=hid (fun w'=>Hk.out w' hi)
     have a4:=J.out.2.2;have z0:Y.cell? ⟨w.heap.size,0,none⟩=some (.int .i64 0):=J.out.zero 0;have z1:Y.cell? ⟨w.heap.size,1,none⟩=some (.string ⟨#[]⟩):=J.out.zero 1;have z2:Y.cell? ⟨w.heap.size,2,none⟩=some (.int .i64 0):=J.out.zero 2;have z3:Y.cell? ⟨w.heap.size,3,none⟩=some (.string ⟨#[]⟩):=J.out.zero 3;have z4:Y.cell? ⟨w.heap.size,4,none⟩=some (.int .i64 0):=J.out.zero 4;have z5:Y.cell? ⟨w.heap.size,5,none⟩=some (.int .i64 0):=J.out.zero 5;have f0:=J.out.free 0;have f1:=J.out.free 1;have f2:=J.out.free 2;have f3:=J.out.free 3;have f4:=J.out.free 4;have f5:=J.out.free 5;have a8:w.heap.size+1<Y.heap.size:=J.out.lt;have a7:=dg.bU mk (a2.resolve_left (by show ¬((3:Int)=5);decide));go_wp2_with fail;refine bodyPost_ret ?_ rfl (a0.out _ ?_)
     ·simp only[results,Tryz.results117]
      clear a0;go_simp
     ·repeat (first | (with_reducible exact a4) | (with_reducible refine Below.setCell ?_ (by simp) _))
   ·have HC:=C3.out
    clear C0 C1 C2 C3 C4 C5 C6;have c0:wr.cell? ⟨w.heap.size+1,18,none⟩=some (.int .i64 (4)):=hr.out.node 18;have c1:wr.cell? ⟨w.heap.size+1,19,none⟩=some (.string fn):=hr.out.node 19;have c2:wr.cell? ⟨w.heap.size+1,20,none⟩=some (.int .i64 (cp)):=hr.out.node 20;have c3:wr.cell? ⟨w.heap.size+1,21,none⟩=some (.string ⟨#[]⟩):=hr.out.node 21;have c4:wr.cell? ⟨w.heap.size+1,22,none⟩=some (.int .i64 (0)):=hr.out.node 22;have c5:wr.cell? ⟨w.heap.size+1,23,none⟩=some (.int .i64 (-1)):=hr.out.node 23;have Tk:=hid (fun w=>aa.out ⟨4,fn,cp,⟨#[]⟩,0,-1⟩ w (by show ByteArray.size _≤_;first | assumption | exact bA _) (by show ByteArray.size _≤_;first | assumption | exact bA _));have Wk:=Hw.out ⟨4,fn,cp,⟨#[]⟩,0,-1⟩;have Hk:=hid (fun w'=>a6.out ⟨4,fn,cp,⟨#[]⟩,0,-1⟩ w');unfold Nd.val Nd.cells at Tk Hk;have Nk:=hid (a3.out 3);rw[HC]at Nk;go_wp2_with fail;refine(Tk.out wr).mono ?_;rintro e Y ⟨rfl,b5⟩
    have J:=hid (hr.out.on b5);clear b5 hr c0 c1 c2 c3 c4 c5 Tk;have g0:Y.cell? ⟨w.heap.size+1,18,none⟩=some (.int .i64 (4)):=J.out.node 18;have g1:Y.cell? ⟨w.heap.size+1,19,none⟩=some (.string fn):=J.out.node 19;have g2:Y.cell? ⟨w.heap.size+1,20,none⟩=some (.int .i64 (cp)):=J.out.node 20;have g3:Y.cell? ⟨w.heap.size+1,21,none⟩=some (.string ⟨#[]⟩):=J.out.node 21;have g4:Y.cell? ⟨w.heap.size+1,22,none⟩=some (.int .i64 (0)):=J.out.node 22;have g5:Y.cell? ⟨w.heap.size+1,23,none⟩=some (.int .i64 (-1)):=J.out.node 23;generalize lN ⟨4,fn,cp,⟨#[]⟩,0,-1⟩=te at *;generalize txt ⟨4,fn,cp,⟨#[]⟩,0,-1⟩=tt at *;rcases Wk with⟨hi,rfl⟩ | ⟨hi,rfl,a1⟩ | ⟨hi,rfl,a1,a5,a2⟩ | ⟨hi,rfl,a1,a2⟩
    ·go_wp2_with fail
     go_roundw
     case rel=>exact⟨4,by omega,rfl,hid (Nk.out hj.out hi),J⟩
     case measure=>simp[intOf]
    ·go_wp2_with fail
     go_roundw
     case rel=>exact⟨4,by omega,rfl,hid (Nk.out hj.out hi),J⟩
     case measure=>simp[intOf]
    ·subst a5
     have a7:((⟨#[]⟩:ByteArray).toList.isEmpty)=true:=by rw[ByteArray.toList_eq];rfl
     go_wp2_with fail;go_roundw
     case rel=>exact⟨4,by omega,rfl,hid (Nk.out hj.out hi),J⟩
     case measure=>simp[intOf]
    ·have a0:=hid (fun w'=>Hk.out w' hi)
     have a4:=J.out.2.2;have z0:Y.cell? ⟨w.heap.size,0,none⟩=some (.int .i64 0):=J.out.zero 0;have z1:Y.cell? ⟨w.heap.size,1,none⟩=some (.string ⟨#[]⟩):=J.out.zero 1;have z2:Y.cell? ⟨w.heap.size,2,none⟩=some (.int .i64 0):=J.out.zero 2;have z3:Y.cell? ⟨w.heap.size,3,none⟩=some (.string ⟨#[]⟩):=J.out.zero 3;have z4:Y.cell? ⟨w.heap.size,4,none⟩=some (.int .i64 0):=J.out.zero 4;have z5:Y.cell? ⟨w.heap.size,5,none⟩=some (.int .i64 0):=J.out.zero 5;have f0:=J.out.free 0;have f1:=J.out.free 1;have f2:=J.out.free 2;have f3:=J.out.free 3;have f4:=J.out.free 4;have f5:=J.out.free 5;have a8:w.heap.size+1<Y.heap.size:=J.out.lt;have a7:=dg.bU mk (a2.resolve_left (by show ¬((4:Int)=5);decide));go_wp2_with fail;refine bodyPost_ret ?_ rfl (a0.out _ ?_)
     ·simp only[results,Tryz.results117]
      clear a0;go_simp
     ·repeat (first | (with_reducible exact a4) | (with_reducible refine Below.setCell ?_ (by simp) _))
   ·have HC:=C4.out
    clear C0 C1 C2 C3 C4 C5 C6;have c0:wr.cell? ⟨w.heap.size+1,24,none⟩=some (.int .i64 (5)):=hr.out.node 24;have c1:wr.cell? ⟨w.heap.size+1,25,none⟩=some (.string ⟨#[]⟩):=hr.out.node 25;have c2:wr.cell? ⟨w.heap.size+1,26,none⟩=some (.int .i64 (0)):=hr.out.node 26;have c3:wr.cell? ⟨w.heap.size+1,27,none⟩=some (.string fn):=hr.out.node 27;have c4:wr.cell? ⟨w.heap.size+1,28,none⟩=some (.int .i64 (0)):=hr.out.node 28;have c5:wr.cell? ⟨w.heap.size+1,29,none⟩=some (.int .i64 (ce)):=hr.out.node 29;have Tk:=hid (fun w=>aa.out ⟨5,⟨#[]⟩,0,fn,0,ce⟩ w (by show ByteArray.size _≤_;first | assumption | exact bA _) (by show ByteArray.size _≤_;first | assumption | exact bA _));have Wk:=Hw.out ⟨5,⟨#[]⟩,0,fn,0,ce⟩;have Hk:=hid (fun w'=>a6.out ⟨5,⟨#[]⟩,0,fn,0,ce⟩ w');unfold Nd.val Nd.cells at Tk Hk;have Nk:=hid (a3.out 4);rw[HC]at Nk;go_wp2_with fail;refine(Tk.out wr).mono ?_;rintro e Y ⟨rfl,b5⟩
    have J:=hid (hr.out.on b5);clear b5 hr c0 c1 c2 c3 c4 c5 Tk;have g0:Y.cell? ⟨w.heap.size+1,24,none⟩=some (.int .i64 (5)):=J.out.node 24;have g1:Y.cell? ⟨w.heap.size+1,25,none⟩=some (.string ⟨#[]⟩):=J.out.node 25;have g2:Y.cell? ⟨w.heap.size+1,26,none⟩=some (.int .i64 (0)):=J.out.node 26;have g3:Y.cell? ⟨w.heap.size+1,27,none⟩=some (.string fn):=J.out.node 27;have g4:Y.cell? ⟨w.heap.size+1,28,none⟩=some (.int .i64 (0)):=J.out.node 28;have g5:Y.cell? ⟨w.heap.size+1,29,none⟩=some (.int .i64 (ce)):=J.out.node 29;generalize lN ⟨5,⟨#[]⟩,0,fn,0,ce⟩=te at *;generalize txt ⟨5,⟨#[]⟩,0,fn,0,ce⟩=tt at *;rcases Wk with⟨hi,rfl⟩ | ⟨hi,rfl,a1⟩ | ⟨hi,rfl,a1,a5,a2⟩ | ⟨hi,rfl,a1,a2⟩
    ·go_wp2_with fail
     go_roundw
     case rel=>exact⟨5,by omega,rfl,hid (Nk.out hj.out hi),J⟩
     case measure=>simp[intOf]
    ·go_wp2_with fail
     go_roundw
     case rel=>exact⟨5,by omega,rfl,hid (Nk.out hj.out hi),J⟩
     case measure=>simp[intOf]
    ·exact absurd rfl a2
    ·have a0:=hid (fun w'=>Hk.out w' hi)
     have a4:=J.out.2.2;have z0:Y.cell? ⟨w.heap.size,0,none⟩=some (.int .i64 0):=J.out.zero 0;have z1:Y.cell? ⟨w.heap.size,1,none⟩=some (.string ⟨#[]⟩):=J.out.zero 1;have z2:Y.cell? ⟨w.heap.size,2,none⟩=some (.int .i64 0):=J.out.zero 2;have z3:Y.cell? ⟨w.heap.size,3,none⟩=some (.string ⟨#[]⟩):=J.out.zero 3;have z4:Y.cell? ⟨w.heap.size,4,none⟩=some (.int .i64 0):=J.out.zero 4;have z5:Y.cell? ⟨w.heap.size,5,none⟩=some (.int .i64 0):=J.out.zero 5;have f0:=J.out.free 0;have f1:=J.out.free 1;have f2:=J.out.free 2;have f3:=J.out.free 3;have f4:=J.out.free 4;have f5:=J.out.free 5;have a8:w.heap.size+1<Y.heap.size:=J.out.lt;rcases a5:mk.toList.isEmpty with _ | _
     ·go_wp2_with fail
      refine bodyPost_ret ?_ rfl (a0.out _ ?_)
      ·simp only[results,Tryz.results117]
       clear a0;go_simp
      ·repeat (first | (with_reducible exact a4) | (with_reducible refine Below.setCell ?_ (by simp) _))
     ·go_wp2_with fail
      refine bodyPost_ret ?_ rfl (a0.out _ ?_)
      ·simp only[results,Tryz.results117]
       clear a0;go_simp
      ·repeat (first | (with_reducible exact a4) | (with_reducible refine Below.setCell ?_ (by simp) _))
   ·have HC:=C5.out
    clear C0 C1 C2 C3 C4 C5 C6;have c0:wr.cell? ⟨w.heap.size+1,30,none⟩=some (.int .i64 (6)):=hr.out.node 30;have c1:wr.cell? ⟨w.heap.size+1,31,none⟩=some (.string fn):=hr.out.node 31;have c2:wr.cell? ⟨w.heap.size+1,32,none⟩=some (.int .i64 (cp)):=hr.out.node 32;have c3:wr.cell? ⟨w.heap.size+1,33,none⟩=some (.string tl):=hr.out.node 33;have c4:wr.cell? ⟨w.heap.size+1,34,none⟩=some (.int .i64 (0)):=hr.out.node 34;have c5:wr.cell? ⟨w.heap.size+1,35,none⟩=some (.int .i64 (ce)):=hr.out.node 35;have Tk:=hid (fun w=>aa.out ⟨6,fn,cp,tl,0,ce⟩ w (by show ByteArray.size _≤_;first | assumption | exact bA _) (by show ByteArray.size _≤_;first | assumption | exact bA _));have Wk:=Hw.out ⟨6,fn,cp,tl,0,ce⟩;have Hk:=hid (fun w'=>a6.out ⟨6,fn,cp,tl,0,ce⟩ w');unfold Nd.val Nd.cells at Tk Hk;have Nk:=hid (a3.out 5);rw[HC]at Nk;go_wp2_with fail;refine(Tk.out wr).mono ?_;rintro e Y ⟨rfl,b5⟩
    have J:=hid (hr.out.on b5);clear b5 hr c0 c1 c2 c3 c4 c5 Tk;have g0:Y.cell? ⟨w.heap.size+1,30,none⟩=some (.int .i64 (6)):=J.out.node 30;have g1:Y.cell? ⟨w.heap.size+1,31,none⟩=some (.string fn):=J.out.node 31;have g2:Y.cell? ⟨w.heap.size+1,32,none⟩=some (.int .i64 (cp)):=J.out.node 32;have g3:Y.cell? ⟨w.heap.size+1,33,none⟩=some (.string tl):=J.out.node 33;have g4:Y.cell? ⟨w.heap.size+1,34,none⟩=some (.int .i64 (0)):=J.out.node 34;have g5:Y.cell? ⟨w.heap.size+1,35,none⟩=some (.int .i64 (ce)):=J.out.node 35;generalize lN ⟨6,fn,cp,tl,0,ce⟩=te at *;generalize txt ⟨6,fn,cp,tl,0,ce⟩=tt at *;rcases Wk with⟨hi,rfl⟩ | ⟨hi,rfl,a1⟩ | ⟨hi,rfl,a1,a5,a2⟩ | ⟨hi,rfl,a1,a2⟩
    ·go_wp2_with fail
     go_roundw
     case rel=>exact⟨6,by omega,rfl,hid (Nk.out hj.out hi),J⟩
     case measure=>simp[intOf]
    ·go_wp2_with fail
     go_roundw
     case rel=>exact⟨6,by omega,rfl,hid (Nk.out hj.out hi),J⟩
     case measure=>simp[intOf]
    ·subst a5
     have a7:((⟨#[]⟩:ByteArray).toList.isEmpty)=true:=by rw[ByteArray.toList_eq];rfl
     go_wp2_with fail;go_roundw
     case rel=>exact⟨6,by omega,rfl,hid (Nk.out hj.out hi),J⟩
     case measure=>simp[intOf]
    ·have a0:=hid (fun w'=>Hk.out w' hi)
     have a4:=J.out.2.2;have z0:Y.cell? ⟨w.heap.size,0,none⟩=some (.int .i64 0):=J.out.zero 0;have z1:Y.cell? ⟨w.heap.size,1,none⟩=some (.string ⟨#[]⟩):=J.out.zero 1;have z2:Y.cell? ⟨w.heap.size,2,none⟩=some (.int .i64 0):=J.out.zero 2;have z3:Y.cell? ⟨w.heap.size,3,none⟩=some (.string ⟨#[]⟩):=J.out.zero 3;have z4:Y.cell? ⟨w.heap.size,4,none⟩=some (.int .i64 0):=J.out.zero 4;have z5:Y.cell? ⟨w.heap.size,5,none⟩=some (.int .i64 0):=J.out.zero 5;have f0:=J.out.free 0;have f1:=J.out.free 1;have f2:=J.out.free 2;have f3:=J.out.free 3;have f4:=J.out.free 4;have f5:=J.out.free 5;have a8:w.heap.size+1<Y.heap.size:=J.out.lt;have a7:=dg.bU mk (a2.resolve_left (by show ¬((6:Int)=5);decide));go_wp2_with fail;refine bodyPost_ret ?_ rfl (a0.out _ ?_)
     ·simp only[results,Tryz.results117]
      clear a0;go_simp
     ·repeat (first | (with_reducible exact a4) | (with_reducible refine Below.setCell ?_ (by simp) _))
   ·have HC:=C6.out
    clear C0 C1 C2 C3 C4 C5 C6;have c0:wr.cell? ⟨w.heap.size+1,36,none⟩=some (.int .i64 (7)):=hr.out.node 36;have c1:wr.cell? ⟨w.heap.size+1,37,none⟩=some (.string fn):=hr.out.node 37;have c2:wr.cell? ⟨w.heap.size+1,38,none⟩=some (.int .i64 (cp)):=hr.out.node 38;have c3:wr.cell? ⟨w.heap.size+1,39,none⟩=some (.string ⟨#[]⟩):=hr.out.node 39;have c4:wr.cell? ⟨w.heap.size+1,40,none⟩=some (.int .i64 (nm)):=hr.out.node 40;have c5:wr.cell? ⟨w.heap.size+1,41,none⟩=some (.int .i64 (ce)):=hr.out.node 41;have Tk:=hid (fun w=>aa.out ⟨7,fn,cp,⟨#[]⟩,nm,ce⟩ w (by show ByteArray.size _≤_;first | assumption | exact bA _) (by show ByteArray.size _≤_;first | assumption | exact bA _));have Wk:=Hw.out ⟨7,fn,cp,⟨#[]⟩,nm,ce⟩;have Hk:=hid (fun w'=>a6.out ⟨7,fn,cp,⟨#[]⟩,nm,ce⟩ w');unfold Nd.val Nd.cells at Tk Hk;have Nk:=hid (a3.out 6);rw[HC]at Nk;go_wp2_with fail;refine(Tk.out wr).mono ?_
    rintro e Y ⟨rfl,b5⟩;have J:=hid (hr.out.on b5);clear b5 hr c0 c1 c2 c3 c4 c5 Tk;have g0:Y.cell? ⟨w.heap.size+1,36,none⟩=some (.int .i64 (7)):=J.out.node 36;have g1:Y.cell? ⟨w.heap.size+1,37,none⟩=some (.string fn):=J.out.node 37;have g2:Y.cell? ⟨w.heap.size+1,38,none⟩=some (.int .i64 (cp)):=J.out.node 38;have g3:Y.cell? ⟨w.heap.size+1,39,none⟩=some (.string ⟨#[]⟩):=J.out.node 39;have g4:Y.cell? ⟨w.heap.size+1,40,none⟩=some (.int .i64 (nm)):=J.out.node 40;have g5:Y.cell? ⟨w.heap.size+1,41,none⟩=some (.int .i64 (ce)):=J.out.node 41;generalize lN ⟨7,fn,cp,⟨#[]⟩,nm,ce⟩=te at *;generalize txt ⟨7,fn,cp,⟨#[]⟩,nm,ce⟩=tt at *;rcases Wk with⟨hi,rfl⟩ | ⟨hi,rfl,a1⟩ | ⟨hi,rfl,a1,a5,a2⟩ | ⟨hi,rfl,a1,a2⟩
    ·go_wp2_with fail
     go_roundw
     case rel=>exact⟨7,by omega,rfl,hid (Nk.out hj.out hi),J⟩
     case measure=>simp[intOf]
    ·go_wp2_with fail
     go_roundw
     case rel=>exact⟨7,by omega,rfl,hid (Nk.out hj.out hi),J⟩
     case measure=>simp[intOf]
    ·subst a5
     have a7:((⟨#[]⟩:ByteArray).toList.isEmpty)=true:=by rw[ByteArray.toList_eq];rfl
     go_wp2_with fail;go_roundw
     case rel=>exact⟨7,by omega,rfl,hid (Nk.out hj.out hi),J⟩
     case measure=>simp[intOf]
    ·have a0:=hid (fun w'=>Hk.out w' hi)
     have a4:=J.out.2.2;have z0:Y.cell? ⟨w.heap.size,0,none⟩=some (.int .i64 0):=J.out.zero 0;have z1:Y.cell? ⟨w.heap.size,1,none⟩=some (.string ⟨#[]⟩):=J.out.zero 1;have z2:Y.cell? ⟨w.heap.size,2,none⟩=some (.int .i64 0):=J.out.zero 2;have z3:Y.cell? ⟨w.heap.size,3,none⟩=some (.string ⟨#[]⟩):=J.out.zero 3;have z4:Y.cell? ⟨w.heap.size,4,none⟩=some (.int .i64 0):=J.out.zero 4;have z5:Y.cell? ⟨w.heap.size,5,none⟩=some (.int .i64 0):=J.out.zero 5;have f0:=J.out.free 0;have f1:=J.out.free 1;have f2:=J.out.free 2;have f3:=J.out.free 3;have f4:=J.out.free 4;have f5:=J.out.free 5;have a8:w.heap.size+1<Y.heap.size:=J.out.lt;have a7:=dg.bU mk (a2.resolve_left (by show ¬((7:Int)=5);decide));go_wp2_with fail;refine bodyPost_ret ?_ rfl (a0.out _ ?_)
     ·simp only[results,Tryz.results117]
      clear a0;go_simp
     ·repeat (first | (with_reducible exact a4) | (with_reducible refine Below.setCell ?_ (by simp) _))
   ·omega
  ·obtain rfl:k=7:=by omega
   have a4:=hr.out.2.2;have z0:wr.cell? ⟨w.heap.size,0,none⟩=some (.int .i64 0):=hr.out.zero 0;have z1:wr.cell? ⟨w.heap.size,1,none⟩=some (.string ⟨#[]⟩):=hr.out.zero 1;have z2:wr.cell? ⟨w.heap.size,2,none⟩=some (.int .i64 0):=hr.out.zero 2;have z3:wr.cell? ⟨w.heap.size,3,none⟩=some (.string ⟨#[]⟩):=hr.out.zero 3;have z4:wr.cell? ⟨w.heap.size,4,none⟩=some (.int .i64 0):=hr.out.zero 4;have z5:wr.cell? ⟨w.heap.size,5,none⟩=some (.int .i64 0):=hr.out.zero 5;have f0:=hr.out.free 0;have f1:=hr.out.free 1;have f2:=hr.out.free 2;have f3:=hr.out.free 3;have f4:=hr.out.free 4;have f5:=hr.out.free 5;have a0:=hid (fun w'=>a9.out w' hj.out);clear a9 a6 a3 Hw aa;go_wp2_with fail;refine bodyPost_ret (v:=.tuple #[.agg #[.int .i64 0,.string ⟨#[]⟩,.int .i64 0,.string ⟨#[]⟩,.int .i64 0,.int .i64 0],.int .i64 11]) ?_ rfl (a0.out _ ?_)
   ·simp only[results,Tryz.results117]
    clear a0;go_simp
   ·repeat (first | (with_reducible exact a4) | (with_reducible refine Below.setCell ?_ (by simp) _))
theorem iG(s:ByteArray)(w:World)(hs:s.size≤maxLen)(h:eU s=true):Calls Tryz.prog 117 #[.string s] w (kP s w):=by
 refine(aAF s w hs).mono ?_;rintro e w' ⟨rfl,hb⟩;refine⟨?_,hb⟩;unfold wS xE;rw[if_pos h,if_pos h]
theorem jK(s:ByteArray)(w:World)(hs:s.size≤maxLen)(h:eU s=false):Calls Tryz.prog 117 #[.string s] w (jS w):=by
 refine(aAF s w hs).mono ?_;rintro e w' ⟨rfl,hb⟩;refine⟨?_,hb⟩;unfold wS xE;rw[if_neg (by rw[h];decide),if_neg (by rw[h];decide)];rfl
end nm
namespace sy
open nm
def dO(s:ByteArray):Bool:=eU s&&(decide ((dV s).kind≤3)||decide (0≤(dV s).cell))
def mR(s:ByteArray):Bool:=eU s&&(decide ((dV s).kind=4)||decide (0≤(dV s).cell))
def aA0(s:ByteArray):Bool:=eU s&&(decide (5≤(dV s).kind)&&decide ((dV s).cell<0))
def aBc(s:ByteArray):Bool:=eU s&&decide ((dV s).kind=4)
def mY(s:ByteArray):Bool:=eU s&&decide ((dV s).kind=3)
theorem aGw{s:ByteArray}(h:mY s=true):dO s=true:=by
 unfold mY at h;unfold dO;simp only[Bool.and_eq_true,bJ]at h;rw[h.1,h.2];rfl
def ipB(s:ByteArray):Bool:=s.toList.all fun b=>b==105||b==112
def eD(s:ByteArray)(least most:Nat):Bool:=ipB s&&(decide (least≤s.size)&&decide (s.size≤most))
def sZ(s:ByteArray):Bool:=decide (1≤s.size)&&decide (s.size≤60)
structure Mk where
 at_:Int
 tag:ByteArray
structure SO where
 name:ByteArray
 kinds:ByteArray
 marks:List Mk
structure SF where
 name:ByteArray
 kinds:ByteArray
 ret:ByteArray
structure SC where
 op:Int
 a:ByteArray
 b:ByteArray
 k:Int
 tag:ByteArray
 args:List ByteArray
structure SS where
 objs:List SO
 fns:List SF
 cons:List SC
def xX(J:List Mk)(n i:Nat)(m:Mk):Prop:=0≤m.at_∧m.at_<n∧sZ m.tag=true∧(∀q,i=q+1→∀p,J[q]? = some p→p.at_≤m.at_)∧∀q,q<i→∀p,J[q]? = some p→¬(p.at_=m.at_∧p.tag=m.tag)
def qW(J:List Mk)(n k:Nat):Prop:=∀i m,i<k→J[i]? = some m→xX J n i m
open Classical in
noncomputable def jQ(o:SO):Int:=if aA0 o.name=false then 11 else if eD o.kinds 1 64=false then 5 else if qW o.marks o.kinds.size o.marks.length then 0 else 3
def yB(s:ByteArray):Bool:=s.toList==[105]||(s.toList==[112]||s.toList==[118])
def xY(f:SF):Int:=if aBc f.name=false then 11 else if eD f.kinds 0 6=false∨yB f.ret=false then 5 else 0
def cutAt(l:List UInt8):Option (List UInt8×List UInt8):=
 match l with
 | []=>none
 | b :: r=>if b=62 then some ([],r) else(cutAt r).map fun x=>(b :: x.1,x.2)
def aAZ(p:Bool)(s:ByteArray):Bool:=s.size==0||(p&&dO s)
def kH:List UInt8→List ByteArray→Bool
 | _,[]=>true
 | [],_ :: _=>true
 | k :: ks,a :: r=>aAZ (k==112) a&&kH ks r
def sP(tag:ByteArray)(args:List ByteArray):Bool:=
 match cutAt tag.toList with
 | none=>false
 | some (l,r)=>eD ⟨l.toArray⟩ 0 6&&((r==[]||(r==[105]||r==[112]))&&(decide (args.length=l.length+1)&&kH ((if r=[112] then 112 else 0) :: l) args))
def bP(c:SC):Bool:=
 if c.op=6 then decide (c.k=0)&&sP c.tag c.args
 else if c.op=5 then decide (0≤c.k)&&(decide (c.k≤64)&&(sZ c.tag&&decide (c.args.length=0)))
 else decide (c.k=0)&&(decide (c.tag.size=0)&&decide (c.args.length=0))
def aBY(c:SC):Bool:=(if c.op=6 then mY c.a else dO c.a)&&(if c.op=1 then mR c.b else dO c.b)
def iN(c:SC):Int:=if c.op<1∨6<c.op then 5 else if aBY c=false then 11 else if bP c then 0 else 3
end sy
end Go.Proofs.YtdmmkjijgoiecaaGreatDoor
