import Derived.Test.YtlkboeajkgbnaaaGreatDoorC15
set_option linter.all false
set_option maxHeartbeats 4000000
namespace Go.Proofs.YtlkboeajkgbnaaaGreatDoor
open Lib(hid)
set_option maxRecDepth 100000
namespace nm
open RowKit Go.Sort
def Box(w:World)(g:Nat)(t:TypeId)(cs:Array Value):Prop:=w.heap[g]? = some (.cells cs t (0,0))
theorem Box.lt{w:World}{g:Nat}{t:TypeId}{cs:Array Value}(h:Box w g t cs):g<w.heap.size:=by
 rcases Nat.lt_or_ge g w.heap.size with h1 | h1
 ·exact h1
 ·unfold Box at h;rw[Array.getElem?_eq_none h1]at h;cases h
theorem Box.cell{w:World}{g:Nat}{t:TypeId}{cs:Array Value}(h:Box w g t cs)(i:Nat):w.cell? ⟨g,i,none⟩=cs[i]?:=cell_of_row w g i cs t (0,0) h
theorem Box.free{w:World}{g:Nat}{t:TypeId}{cs:Array Value}(h:Box w g t cs)(i:Nat):w.frozen? ⟨g,i,none⟩=false:=by
 unfold Box at h;simp[World.frozen?,h]
theorem Box.new(w:World)(t:TypeId)(cs:Array Value):Box (w.alloc (.cells cs t)) w.heap.size t cs:=heap_alloc_new w _
theorem Box.new'(w:World)(t:TypeId)(cs:Array Value)(n:Nat)(h:w.heap.size=n):Box (w.alloc (.cells cs t)) n t cs:=h ▸ Box.new w t cs
theorem Box.on{w w':World}{g:Nat}{t:TypeId}{cs:Array Value}(h:Box w g t cs)(hb:Below w.heap.size w w'):Box w' g t cs:=(hb.block g h.lt).trans h
def seven(f t:ByteArray)(c n l:Int):Array Value:=
 #[.int .i64 1,.string f,.int .i64 c,.string t,.int .i64 0,.int .i64 (-1),
  .int .i64 2,.string f,.int .i64 c,.string ⟨#[]⟩,.int .i64 n,.int .i64 (-1),
  .int .i64 3,.string f,.int .i64 c,.string ⟨#[]⟩,.int .i64 n,.int .i64 (-1),
  .int .i64 4,.string f,.int .i64 c,.string ⟨#[]⟩,.int .i64 0,.int .i64 (-1),
  .int .i64 5,.string ⟨#[]⟩,.int .i64 0,.string f,.int .i64 0,.int .i64 l,
  .int .i64 6,.string f,.int .i64 c,.string t,.int .i64 0,.int .i64 l,
  .int .i64 7,.string f,.int .i64 c,.string ⟨#[]⟩,.int .i64 n,.int .i64 l]
def RS(w wr:World)(f t:ByteArray)(c n l:Int):Prop:=
 (∃t1,Box wr w.heap.size t1 #[.int .i64 0,.string ⟨#[]⟩,.int .i64 0,.string ⟨#[]⟩,.int .i64 0,.int .i64 0])∧(∃t2,Box wr (w.heap.size+1) t2 (seven f t c n l))∧Below w.heap.size w wr
theorem RS.on{w wr w':World}{f t:ByteArray}{c n l:Int}(h:RS w wr f t c n l)(hb:Below wr.heap.size wr w'):RS w w' f t c n l:=by
 obtain⟨⟨t1,h1⟩,⟨t2,h2⟩,h3⟩:=h;exact⟨⟨t1,h1.on hb⟩,⟨t2,h2.on hb⟩,below_on h3 hb⟩
theorem RS.node{w wr:World}{f t:ByteArray}{c n l:Int}(h:RS w wr f t c n l)(j:Nat):wr.cell? ⟨w.heap.size+1,j,none⟩=(seven f t c n l)[j]?:=by
 obtain⟨_,⟨t2,h2⟩,_⟩:=h;exact h2.cell j
theorem RS.zero{w wr:World}{f t:ByteArray}{c n l:Int}(h:RS w wr f t c n l)(j:Nat):wr.cell? ⟨w.heap.size,j,none⟩=(#[.int .i64 0,.string ⟨#[]⟩,.int .i64 0,.string ⟨#[]⟩,.int .i64 0,.int .i64 0]:Array Value)[j]?:=by
 obtain⟨⟨t1,h1⟩,_,_⟩:=h;exact h1.cell j
theorem RS.lt{w wr:World}{f t:ByteArray}{c n l:Int}(h:RS w wr f t c n l):w.heap.size+1<wr.heap.size:=by
 obtain⟨_,⟨t2,h2⟩,_⟩:=h;exact h2.lt
theorem RS.free{w wr:World}{f t:ByteArray}{c n l:Int}(h:RS w wr f t c n l)(j:Nat):wr.frozen? ⟨w.heap.size,j,none⟩=false:=by
 obtain⟨⟨t1,h1⟩,_,_⟩:=h;exact h1.free j
theorem four_ways(s:ByteArray)(d:Nd) :
 (isB s d=false∧terr d=11)∨(isB s d=false∧terr d=0∧((txt d).toList==s.toList)=false) ∨
 (isB s d=false∧terr d=0∧((txt d).toList==s.toList)=true∧rMark s=⟨#[]⟩∧d.kind≠5) ∨
 (isB s d=true∧terr d=0∧((txt d).toList==s.toList)=true∧(d.kind=5∨(rMark s).size≠0)):=by
 unfold isB;rcases three_ways d s with⟨h1,h2⟩ | ⟨h1,h2,h3⟩ | ⟨h1,h2,h3⟩
 ·exact Or.inl ⟨by rw[h1];rfl,h2⟩
 ·exact Or.inr (Or.inl ⟨by rw[h3];simp,h2,h3⟩)
 ·by_cases hk:d.kind=5
  ·exact Or.inr (Or.inr (Or.inr ⟨by rw[h1,h3,hk];simp,h2,h3,Or.inl hk⟩))
  ·by_cases hz:(rMark s).size=0
   ·have e:rMark s=⟨#[]⟩:=by
     have hl:=dg.size_list (rMark s);have:(rMark s).data.toList=[]:=List.eq_nil_of_length_eq_zero (by omega);exact same_bytes this
    exact Or.inr (Or.inr (Or.inl ⟨by rw[h1,h3,e,ByteArray.toList_eq];simp[hk],h2,h3,e,hk⟩))
   ·refine Or.inr (Or.inr (Or.inr ⟨?_,h2,h3,Or.inr hz⟩))
    rw[h1,h3,dg.not_empty (rMark s) hz];rfl
theorem hit_post{s:ByteArray}{d:Nd}{w w':World}(h:isB s d=true)(hb:Below w.heap.size w w'):ReadPost s w (.returned (.tuple #[d.val,.int .i64 0])) w':=by
 obtain⟨h1,h2⟩:=isB_cand s d h;refine⟨?_,hb⟩;unfold readN readE;rw[h1,h2];rfl
theorem miss_post{s:ByteArray}{w w':World}(h:∀k,k<7→isB s (candR s k)=false)(hb:Below w.heap.size w w'):ReadPost s w (.returned (.tuple #[zeroN.val,.int .i64 11])) w':=by
 have h1:=none_of s h;refine⟨?_,hb⟩;unfold readN readE;rw[h1];rfl
theorem before_next{s:ByteArray}{k:Nat}(h:∀j,j<k→isB s (candR s j)=false)(h2:isB s (candR s k)=false):∀j,j<k+1→isB s (candR s j)=false:=fun j hj=>by
 rcases Nat.lt_or_ge j k with g | g
 ·exact h j g
 ·obtain rfl:j=k:=by omega
  exact h2
theorem rread_node(s:ByteArray)(w:World)(hs:s.size≤maxLen):Calls Tryz.prog 83 #[.string s] w (ReadPost s w):=by
 have K1:=hid (fun w=>parts_any s w hs);unfold PartsPost at K1;have lt:(rTail s).size≤maxLen:=by
  unfold rTail pM;split
  ·exact Nat.zero_le _
  ·refine Nat.le_trans (fn0_le _) (Nat.le_trans (tailS_le _) (Nat.le_trans ?_ hs))
   unfold pC;split
   ·exact rest1_le s
   ·exact Nat.le_trans (rest1_le _) (Nat.le_trans (tailS_le _) (rest1_le s))
 have lf:(fn0 s).size≤maxLen:=Nat.le_trans (fn0_le s) hs;have K2:=hid (fun w=>rread_of (rTail s) w lt);have e1:(dg.rd (rTail s)).1=rNum s:=rfl;rw[e1]at K2;clear e1;generalize (dg.rd (rTail s)).2=ne at *;have Hw:=hid (fun d=>four_ways s d);have Hhit:=hid (fun d w' (h:isB s d=true) (hb:Below w.heap.size w w')=>hit_post h hb);have Hmiss:=hid (fun w' (h:∀k,k<7→isB s (candR s k)=false) (hb:Below w.heap.size w w')=>miss_post h hb);have Hnext:=hid (fun k (h:∀j,j<k→isB s (candR s j)=false) (h2:isB s (candR s k)=false)=>before_next h h2);have C0:Hid (candR s 0=⟨1,fn0 s,rCopy s,rTail s,0,-1⟩):=hid (by unfold candR;rfl);have C1:Hid (candR s 1=⟨2,fn0 s,rCopy s,⟨#[]⟩,rNum s,-1⟩):=hid (by unfold candR;rfl);have C2:Hid (candR s 2=⟨3,fn0 s,rCopy s,⟨#[]⟩,rNum s,-1⟩):=hid (by unfold candR;rfl);have C3:Hid (candR s 3=⟨4,fn0 s,rCopy s,⟨#[]⟩,0,-1⟩):=hid (by unfold candR;rfl);have C4:Hid (candR s 4=⟨5,⟨#[]⟩,0,fn0 s,0,rCell s⟩):=hid (by unfold candR;rfl)
 have C5:Hid (candR s 5=⟨6,fn0 s,rCopy s,rTail s,0,rCell s⟩):=hid (by unfold candR;rfl);have C6:Hid (candR s 6=⟨7,fn0 s,rCopy s,⟨#[]⟩,rNum s,rCell s⟩):=hid (by unfold candR;rfl);have Htx:=hid (fun(d:Nd) w (h1:d.name.size≤maxLen) (h2:d.fn.size≤maxLen)=>rtext_any d w h1 h2);unfold TextPost at Htx;generalize hcr:candR s=cr at *;generalize his:isB s=is_ at *;generalize fn0 s=fn at *;generalize rCopy s=cp at *;generalize rTail s=tl at *;generalize rNum s=nm at *;generalize rCell s=ce at *;generalize rMark s=mk at *;clear hcr his;unfold zeroN at Hmiss;unfold Nd.val Nd.cells at Hmiss;go_enter Tryz.func83,Tryz.ntmps83;go_wp2_with fail;refine(K1.out _).mono ?_;rintro e w' ⟨rfl,q1,rfl⟩;go_wp2_with fail;refine(K2.out _).mono ?_;rintro e w' ⟨rfl,rfl⟩;clear K1 K2;go_wp2_with fail;go_loopw [12] (fun i wr=>∃k:Nat,k≤7∧i=.int .i64 k∧Hid (∀j,j<k→is_ (cr j)=false)∧Hid (RS w wr fn tl cp nm ce)) (fun i _=>7-(intOf i).toNat)
 case atStart=>
  refine⟨0,by omega,rfl,hid (fun j hj=>absurd hj (Nat.not_lt_zero j)),hid ⟨?_,?_,?_⟩⟩
  ·exact⟨_,Box.on (Box.new w _ _) (Below.alloc (dt.below_drewN (Below.refl _ _) _) (by simp) _)⟩
  ·exact⟨_,Box.new' _ _ _ _ (by simp)⟩
  ·exact Below.alloc (dt.below_drewN (Below.alloc (Below.refl _ _) (by simp) _) _) (by simp) _
 case round=>
  obtain⟨k,hk,rfl,hj,hr⟩:=hrel;rename_i wr _;by_cases hkl:k<7
  ·rcases k with _ | _ | _ | _ | _ | _ | _ | k
   ·have HC:=C0.out
    clear C0 C1 C2 C3 C4 C5 C6;have c0:wr.cell? ⟨w.heap.size+1,0,none⟩=some (.int .i64 (1)):=hr.out.node 0;have c1:wr.cell? ⟨w.heap.size+1,1,none⟩=some (.string fn):=hr.out.node 1;have c2:wr.cell? ⟨w.heap.size+1,2,none⟩=some (.int .i64 (cp)):=hr.out.node 2;have c3:wr.cell? ⟨w.heap.size+1,3,none⟩=some (.string tl):=hr.out.node 3;have c4:wr.cell? ⟨w.heap.size+1,4,none⟩=some (.int .i64 (0)):=hr.out.node 4;have c5:wr.cell? ⟨w.heap.size+1,5,none⟩=some (.int .i64 (-1)):=hr.out.node 5;have Tk:=hid (fun w=>Htx.out ⟨1,fn,cp,tl,0,-1⟩ w (by show ByteArray.size _≤_;first | assumption | exact Nat.zero_le _) (by show ByteArray.size _≤_;first | assumption | exact Nat.zero_le _));have Wk:=Hw.out ⟨1,fn,cp,tl,0,-1⟩;have Hk:=hid (fun w'=>Hhit.out ⟨1,fn,cp,tl,0,-1⟩ w');unfold Nd.val Nd.cells at Tk Hk;have Nk:=hid (Hnext.out 0);rw[HC]at Nk;go_wp2_with fail;refine(Tk.out wr).mono ?_;rintro e w5 ⟨rfl,b5⟩;have hr5:=hid (hr.out.on b5)
    clear b5 hr c0 c1 c2 c3 c4 c5 Tk;have g0:w5.cell? ⟨w.heap.size+1,0,none⟩=some (.int .i64 (1)):=hr5.out.node 0;have g1:w5.cell? ⟨w.heap.size+1,1,none⟩=some (.string fn):=hr5.out.node 1;have g2:w5.cell? ⟨w.heap.size+1,2,none⟩=some (.int .i64 (cp)):=hr5.out.node 2;have g3:w5.cell? ⟨w.heap.size+1,3,none⟩=some (.string tl):=hr5.out.node 3;have g4:w5.cell? ⟨w.heap.size+1,4,none⟩=some (.int .i64 (0)):=hr5.out.node 4;have g5:w5.cell? ⟨w.heap.size+1,5,none⟩=some (.int .i64 (-1)):=hr5.out.node 5;generalize terr ⟨1,fn,cp,tl,0,-1⟩=te at *;generalize txt ⟨1,fn,cp,tl,0,-1⟩=tt at *;rcases Wk with⟨hi,rfl⟩ | ⟨hi,rfl,htt⟩ | ⟨hi,rfl,htt,hmk,hk5⟩ | ⟨hi,rfl,htt,hk5⟩
    ·go_wp2_with fail
     go_roundw
     case rel=>exact⟨1,by omega,rfl,hid (Nk.out hj.out hi),hr5⟩
     case measure=>simp[intOf]
    ·go_wp2_with fail
     go_roundw
     case rel=>exact⟨1,by omega,rfl,hid (Nk.out hj.out hi),hr5⟩
     case measure=>simp[intOf]
    ·subst hmk
     have hem:((⟨#[]⟩:ByteArray).toList.isEmpty)=true:=by rw[ByteArray.toList_eq];rfl
     go_wp2_with fail;go_roundw
     case rel=>exact⟨1,by omega,rfl,hid (Nk.out hj.out hi),hr5⟩
     case measure=>simp[intOf]
    ·have hkk:=hid (fun w'=>Hk.out w' hi)
     have hb5:=hr5.out.2.2;have z0:w5.cell? ⟨w.heap.size,0,none⟩=some (.int .i64 0):=hr5.out.zero 0;have z1:w5.cell? ⟨w.heap.size,1,none⟩=some (.string ⟨#[]⟩):=hr5.out.zero 1;have z2:w5.cell? ⟨w.heap.size,2,none⟩=some (.int .i64 0):=hr5.out.zero 2;have z3:w5.cell? ⟨w.heap.size,3,none⟩=some (.string ⟨#[]⟩):=hr5.out.zero 3;have z4:w5.cell? ⟨w.heap.size,4,none⟩=some (.int .i64 0):=hr5.out.zero 4;have z5:w5.cell? ⟨w.heap.size,5,none⟩=some (.int .i64 0):=hr5.out.zero 5;have f0:=hr5.out.free 0;have f1:=hr5.out.free 1;have f2:=hr5.out.free 2;have f3:=hr5.out.free 3;have f4:=hr5.out.free 4;have f5:=hr5.out.free 5;have hlt5:w.heap.size+1<w5.heap.size:=hr5.out.lt;have hem:=dg.not_empty mk (hk5.resolve_left (by show ¬((1:Int)=5);decide));go_wp2_with fail;refine bodyPost_ret ?_ rfl (hkk.out _ ?_)
     ·simp only[results,Tryz.results83]
      clear hkk;go_simp
     ·repeat (first | (with_reducible exact hb5) | (with_reducible refine Below.setCell ?_ (by simp) _))
   ·have HC:=C1.out
    clear C0 C1 C2 C3 C4 C5 C6;have c0:wr.cell? ⟨w.heap.size+1,6,none⟩=some (.int .i64 (2)):=hr.out.node 6;have c1:wr.cell? ⟨w.heap.size+1,7,none⟩=some (.string fn):=hr.out.node 7;have c2:wr.cell? ⟨w.heap.size+1,8,none⟩=some (.int .i64 (cp)):=hr.out.node 8;have c3:wr.cell? ⟨w.heap.size+1,9,none⟩=some (.string ⟨#[]⟩):=hr.out.node 9;have c4:wr.cell? ⟨w.heap.size+1,10,none⟩=some (.int .i64 (nm)):=hr.out.node 10;have c5:wr.cell? ⟨w.heap.size+1,11,none⟩=some (.int .i64 (-1)):=hr.out.node 11;have Tk:=hid (fun w=>Htx.out ⟨2,fn,cp,⟨#[]⟩,nm,-1⟩ w (by show ByteArray.size _≤_;first | assumption | exact Nat.zero_le _) (by show ByteArray.size _≤_;first | assumption | exact Nat.zero_le _));have Wk:=Hw.out ⟨2,fn,cp,⟨#[]⟩,nm,-1⟩;have Hk:=hid (fun w'=>Hhit.out ⟨2,fn,cp,⟨#[]⟩,nm,-1⟩ w');unfold Nd.val Nd.cells at Tk Hk;have Nk:=hid (Hnext.out 1);rw[HC]at Nk;go_wp2_with fail;refine(Tk.out wr).mono ?_;rintro e w5 ⟨rfl,b5⟩
    have hr5:=hid (hr.out.on b5);clear b5 hr c0 c1 c2 c3 c4 c5 Tk;have g0:w5.cell? ⟨w.heap.size+1,6,none⟩=some (.int .i64 (2)):=hr5.out.node 6;have g1:w5.cell? ⟨w.heap.size+1,7,none⟩=some (.string fn):=hr5.out.node 7;have g2:w5.cell? ⟨w.heap.size+1,8,none⟩=some (.int .i64 (cp)):=hr5.out.node 8;have g3:w5.cell? ⟨w.heap.size+1,9,none⟩=some (.string ⟨#[]⟩):=hr5.out.node 9;have g4:w5.cell? ⟨w.heap.size+1,10,none⟩=some (.int .i64 (nm)):=hr5.out.node 10;have g5:w5.cell? ⟨w.heap.size+1,11,none⟩=some (.int .i64 (-1)):=hr5.out.node 11;generalize terr ⟨2,fn,cp,⟨#[]⟩,nm,-1⟩=te at *;generalize txt ⟨2,fn,cp,⟨#[]⟩,nm,-1⟩=tt at *;rcases Wk with⟨hi,rfl⟩ | ⟨hi,rfl,htt⟩ | ⟨hi,rfl,htt,hmk,hk5⟩ | ⟨hi,rfl,htt,hk5⟩
    ·go_wp2_with fail
     go_roundw
     case rel=>exact⟨2,by omega,rfl,hid (Nk.out hj.out hi),hr5⟩
     case measure=>simp[intOf]
    ·go_wp2_with fail
     go_roundw
     case rel=>exact⟨2,by omega,rfl,hid (Nk.out hj.out hi),hr5⟩
     case measure=>simp[intOf]
    ·subst hmk
     have hem:((⟨#[]⟩:ByteArray).toList.isEmpty)=true:=by rw[ByteArray.toList_eq];rfl
     go_wp2_with fail;go_roundw
     case rel=>exact⟨2,by omega,rfl,hid (Nk.out hj.out hi),hr5⟩
     case measure=>simp[intOf]
    ·have hkk:=hid (fun w'=>Hk.out w' hi)
     have hb5:=hr5.out.2.2;have z0:w5.cell? ⟨w.heap.size,0,none⟩=some (.int .i64 0):=hr5.out.zero 0;have z1:w5.cell? ⟨w.heap.size,1,none⟩=some (.string ⟨#[]⟩):=hr5.out.zero 1;have z2:w5.cell? ⟨w.heap.size,2,none⟩=some (.int .i64 0):=hr5.out.zero 2;have z3:w5.cell? ⟨w.heap.size,3,none⟩=some (.string ⟨#[]⟩):=hr5.out.zero 3;have z4:w5.cell? ⟨w.heap.size,4,none⟩=some (.int .i64 0):=hr5.out.zero 4;have z5:w5.cell? ⟨w.heap.size,5,none⟩=some (.int .i64 0):=hr5.out.zero 5;have f0:=hr5.out.free 0;have f1:=hr5.out.free 1;have f2:=hr5.out.free 2;have f3:=hr5.out.free 3;have f4:=hr5.out.free 4;have f5:=hr5.out.free 5;have hlt5:w.heap.size+1<w5.heap.size:=hr5.out.lt;have hem:=dg.not_empty mk (hk5.resolve_left (by show ¬((2:Int)=5);decide));go_wp2_with fail;refine bodyPost_ret ?_ rfl (hkk.out _ ?_)
     ·simp only[results,Tryz.results83]
      clear hkk;go_simp
     ·repeat (first | (with_reducible exact hb5) | (with_reducible refine Below.setCell ?_ (by simp) _))
   ·have HC:=C2.out
    clear C0 C1 C2 C3 C4 C5 C6;have c0:wr.cell? ⟨w.heap.size+1,12,none⟩=some (.int .i64 (3)):=hr.out.node 12;have c1:wr.cell? ⟨w.heap.size+1,13,none⟩=some (.string fn):=hr.out.node 13;have c2:wr.cell? ⟨w.heap.size+1,14,none⟩=some (.int .i64 (cp)):=hr.out.node 14;have c3:wr.cell? ⟨w.heap.size+1,15,none⟩=some (.string ⟨#[]⟩):=hr.out.node 15;have c4:wr.cell? ⟨w.heap.size+1,16,none⟩=some (.int .i64 (nm)):=hr.out.node 16;have c5:wr.cell? ⟨w.heap.size+1,17,none⟩=some (.int .i64 (-1)):=hr.out.node 17;have Tk:=hid (fun w=>Htx.out ⟨3,fn,cp,⟨#[]⟩,nm,-1⟩ w (by show ByteArray.size _≤_;first | assumption | exact Nat.zero_le _) (by show ByteArray.size _≤_;first | assumption | exact Nat.zero_le _));have Wk:=Hw.out ⟨3,fn,cp,⟨#[]⟩,nm,-1⟩;have Hk:=hid (fun w'=>Hhit.out ⟨3,fn,cp,⟨#[]⟩,nm,-1⟩ w');unfold Nd.val Nd.cells at Tk Hk;have Nk:=hid (Hnext.out 2);rw[HC]at Nk;go_wp2_with fail;refine(Tk.out wr).mono ?_
    rintro e w5 ⟨rfl,b5⟩;have hr5:=hid (hr.out.on b5);clear b5 hr c0 c1 c2 c3 c4 c5 Tk;have g0:w5.cell? ⟨w.heap.size+1,12,none⟩=some (.int .i64 (3)):=hr5.out.node 12;have g1:w5.cell? ⟨w.heap.size+1,13,none⟩=some (.string fn):=hr5.out.node 13;have g2:w5.cell? ⟨w.heap.size+1,14,none⟩=some (.int .i64 (cp)):=hr5.out.node 14;have g3:w5.cell? ⟨w.heap.size+1,15,none⟩=some (.string ⟨#[]⟩):=hr5.out.node 15;have g4:w5.cell? ⟨w.heap.size+1,16,none⟩=some (.int .i64 (nm)):=hr5.out.node 16;have g5:w5.cell? ⟨w.heap.size+1,17,none⟩=some (.int .i64 (-1)):=hr5.out.node 17;generalize terr ⟨3,fn,cp,⟨#[]⟩,nm,-1⟩=te at *;generalize txt ⟨3,fn,cp,⟨#[]⟩,nm,-1⟩=tt at *;rcases Wk with⟨hi,rfl⟩ | ⟨hi,rfl,htt⟩ | ⟨hi,rfl,htt,hmk,hk5⟩ | ⟨hi,rfl,htt,hk5⟩
    ·go_wp2_with fail
     go_roundw
     case rel=>exact⟨3,by omega,rfl,hid (Nk.out hj.out hi),hr5⟩
     case measure=>simp[intOf]
    ·go_wp2_with fail
     go_roundw
     case rel=>exact⟨3,by omega,rfl,hid (Nk.out hj.out hi),hr5⟩
     case measure=>simp[intOf]
    ·subst hmk
     have hem:((⟨#[]⟩:ByteArray).toList.isEmpty)=true:=by rw[ByteArray.toList_eq];rfl
     go_wp2_with fail;go_roundw
     case rel=>exact⟨3,by omega,rfl,hid (Nk.out hj.out hi),hr5⟩
     case measure=>simp[intOf]
    ·have hkk:=hid (fun w'=>Hk.out w' hi)
     have hb5:=hr5.out.2.2;have z0:w5.cell? ⟨w.heap.size,0,none⟩=some (.int .i64 0):=hr5.out.zero 0;have z1:w5.cell? ⟨w.heap.size,1,none⟩=some (.string ⟨#[]⟩):=hr5.out.zero 1;have z2:w5.cell? ⟨w.heap.size,2,none⟩=some (.int .i64 0):=hr5.out.zero 2;have z3:w5.cell? ⟨w.heap.size,3,none⟩=some (.string ⟨#[]⟩):=hr5.out.zero 3;have z4:w5.cell? ⟨w.heap.size,4,none⟩=some (.int .i64 0):=hr5.out.zero 4;have z5:w5.cell? ⟨w.heap.size,5,none⟩=some (.int .i64 0):=hr5.out.zero 5;have f0:=hr5.out.free 0;have f1:=hr5.out.free 1;have f2:=hr5.out.free 2;have f3:=hr5.out.free 3;have f4:=hr5.out.free 4;have f5:=hr5.out.free 5;have hlt5:w.heap.size+1<w5.heap.size:=hr5.out.lt;have hem:=dg.not_empty mk (hk5.resolve_left (by show ¬((3:Int)=5);decide));go_wp2_with fail;refine bodyPost_ret ?_ rfl (hkk.out _ ?_)
     ·simp only[results,Tryz.results83]
      clear hkk;go_simp
     ·repeat (first | (with_reducible exact hb5) | (with_reducible refine Below.setCell ?_ (by simp) _))
   ·have HC:=C3.out
    clear C0 C1 C2 C3 C4 C5 C6;have c0:wr.cell? ⟨w.heap.size+1,18,none⟩=some (.int .i64 (4)):=hr.out.node 18;have c1:wr.cell? ⟨w.heap.size+1,19,none⟩=some (.string fn):=hr.out.node 19;have c2:wr.cell? ⟨w.heap.size+1,20,none⟩=some (.int .i64 (cp)):=hr.out.node 20;have c3:wr.cell? ⟨w.heap.size+1,21,none⟩=some (.string ⟨#[]⟩):=hr.out.node 21;have c4:wr.cell? ⟨w.heap.size+1,22,none⟩=some (.int .i64 (0)):=hr.out.node 22;have c5:wr.cell? ⟨w.heap.size+1,23,none⟩=some (.int .i64 (-1)):=hr.out.node 23;have Tk:=hid (fun w=>Htx.out ⟨4,fn,cp,⟨#[]⟩,0,-1⟩ w (by show ByteArray.size _≤_;first | assumption | exact Nat.zero_le _) (by show ByteArray.size _≤_;first | assumption | exact Nat.zero_le _));have Wk:=Hw.out ⟨4,fn,cp,⟨#[]⟩,0,-1⟩;have Hk:=hid (fun w'=>Hhit.out ⟨4,fn,cp,⟨#[]⟩,0,-1⟩ w');unfold Nd.val Nd.cells at Tk Hk;have Nk:=hid (Hnext.out 3);rw[HC]at Nk;go_wp2_with fail;refine(Tk.out wr).mono ?_;rintro e w5 ⟨rfl,b5⟩
    have hr5:=hid (hr.out.on b5);clear b5 hr c0 c1 c2 c3 c4 c5 Tk;have g0:w5.cell? ⟨w.heap.size+1,18,none⟩=some (.int .i64 (4)):=hr5.out.node 18;have g1:w5.cell? ⟨w.heap.size+1,19,none⟩=some (.string fn):=hr5.out.node 19;have g2:w5.cell? ⟨w.heap.size+1,20,none⟩=some (.int .i64 (cp)):=hr5.out.node 20;have g3:w5.cell? ⟨w.heap.size+1,21,none⟩=some (.string ⟨#[]⟩):=hr5.out.node 21;have g4:w5.cell? ⟨w.heap.size+1,22,none⟩=some (.int .i64 (0)):=hr5.out.node 22;have g5:w5.cell? ⟨w.heap.size+1,23,none⟩=some (.int .i64 (-1)):=hr5.out.node 23;generalize terr ⟨4,fn,cp,⟨#[]⟩,0,-1⟩=te at *;generalize txt ⟨4,fn,cp,⟨#[]⟩,0,-1⟩=tt at *;rcases Wk with⟨hi,rfl⟩ | ⟨hi,rfl,htt⟩ | ⟨hi,rfl,htt,hmk,hk5⟩ | ⟨hi,rfl,htt,hk5⟩
    ·go_wp2_with fail
     go_roundw
     case rel=>exact⟨4,by omega,rfl,hid (Nk.out hj.out hi),hr5⟩
     case measure=>simp[intOf]
    ·go_wp2_with fail
     go_roundw
     case rel=>exact⟨4,by omega,rfl,hid (Nk.out hj.out hi),hr5⟩
     case measure=>simp[intOf]
    ·subst hmk
     have hem:((⟨#[]⟩:ByteArray).toList.isEmpty)=true:=by rw[ByteArray.toList_eq];rfl
     go_wp2_with fail;go_roundw
     case rel=>exact⟨4,by omega,rfl,hid (Nk.out hj.out hi),hr5⟩
     case measure=>simp[intOf]
    ·have hkk:=hid (fun w'=>Hk.out w' hi)
     have hb5:=hr5.out.2.2;have z0:w5.cell? ⟨w.heap.size,0,none⟩=some (.int .i64 0):=hr5.out.zero 0;have z1:w5.cell? ⟨w.heap.size,1,none⟩=some (.string ⟨#[]⟩):=hr5.out.zero 1;have z2:w5.cell? ⟨w.heap.size,2,none⟩=some (.int .i64 0):=hr5.out.zero 2;have z3:w5.cell? ⟨w.heap.size,3,none⟩=some (.string ⟨#[]⟩):=hr5.out.zero 3;have z4:w5.cell? ⟨w.heap.size,4,none⟩=some (.int .i64 0):=hr5.out.zero 4;have z5:w5.cell? ⟨w.heap.size,5,none⟩=some (.int .i64 0):=hr5.out.zero 5;have f0:=hr5.out.free 0;have f1:=hr5.out.free 1;have f2:=hr5.out.free 2;have f3:=hr5.out.free 3;have f4:=hr5.out.free 4;have f5:=hr5.out.free 5;have hlt5:w.heap.size+1<w5.heap.size:=hr5.out.lt;have hem:=dg.not_empty mk (hk5.resolve_left (by show ¬((4:Int)=5);decide));go_wp2_with fail;refine bodyPost_ret ?_ rfl (hkk.out _ ?_)
     ·simp only[results,Tryz.results83]
      clear hkk;go_simp
     ·repeat (first | (with_reducible exact hb5) | (with_reducible refine Below.setCell ?_ (by simp) _))
   ·have HC:=C4.out
    clear C0 C1 C2 C3 C4 C5 C6;have c0:wr.cell? ⟨w.heap.size+1,24,none⟩=some (.int .i64 (5)):=hr.out.node 24;have c1:wr.cell? ⟨w.heap.size+1,25,none⟩=some (.string ⟨#[]⟩):=hr.out.node 25;have c2:wr.cell? ⟨w.heap.size+1,26,none⟩=some (.int .i64 (0)):=hr.out.node 26;have c3:wr.cell? ⟨w.heap.size+1,27,none⟩=some (.string fn):=hr.out.node 27;have c4:wr.cell? ⟨w.heap.size+1,28,none⟩=some (.int .i64 (0)):=hr.out.node 28;have c5:wr.cell? ⟨w.heap.size+1,29,none⟩=some (.int .i64 (ce)):=hr.out.node 29;have Tk:=hid (fun w=>Htx.out ⟨5,⟨#[]⟩,0,fn,0,ce⟩ w (by show ByteArray.size _≤_;first | assumption | exact Nat.zero_le _) (by show ByteArray.size _≤_;first | assumption | exact Nat.zero_le _));have Wk:=Hw.out ⟨5,⟨#[]⟩,0,fn,0,ce⟩;have Hk:=hid (fun w'=>Hhit.out ⟨5,⟨#[]⟩,0,fn,0,ce⟩ w');unfold Nd.val Nd.cells at Tk Hk;have Nk:=hid (Hnext.out 4);rw[HC]at Nk;go_wp2_with fail;refine(Tk.out wr).mono ?_;rintro e w5 ⟨rfl,b5⟩
    have hr5:=hid (hr.out.on b5);clear b5 hr c0 c1 c2 c3 c4 c5 Tk;have g0:w5.cell? ⟨w.heap.size+1,24,none⟩=some (.int .i64 (5)):=hr5.out.node 24;have g1:w5.cell? ⟨w.heap.size+1,25,none⟩=some (.string ⟨#[]⟩):=hr5.out.node 25;have g2:w5.cell? ⟨w.heap.size+1,26,none⟩=some (.int .i64 (0)):=hr5.out.node 26;have g3:w5.cell? ⟨w.heap.size+1,27,none⟩=some (.string fn):=hr5.out.node 27;have g4:w5.cell? ⟨w.heap.size+1,28,none⟩=some (.int .i64 (0)):=hr5.out.node 28;have g5:w5.cell? ⟨w.heap.size+1,29,none⟩=some (.int .i64 (ce)):=hr5.out.node 29;generalize terr ⟨5,⟨#[]⟩,0,fn,0,ce⟩=te at *;generalize txt ⟨5,⟨#[]⟩,0,fn,0,ce⟩=tt at *;rcases Wk with⟨hi,rfl⟩ | ⟨hi,rfl,htt⟩ | ⟨hi,rfl,htt,hmk,hk5⟩ | ⟨hi,rfl,htt,hk5⟩
    ·go_wp2_with fail
     go_roundw
     case rel=>exact⟨5,by omega,rfl,hid (Nk.out hj.out hi),hr5⟩
     case measure=>simp[intOf]
    ·go_wp2_with fail
     go_roundw
     case rel=>exact⟨5,by omega,rfl,hid (Nk.out hj.out hi),hr5⟩
     case measure=>simp[intOf]
    ·exact absurd rfl hk5
    ·have hkk:=hid (fun w'=>Hk.out w' hi)
     have hb5:=hr5.out.2.2;have z0:w5.cell? ⟨w.heap.size,0,none⟩=some (.int .i64 0):=hr5.out.zero 0;have z1:w5.cell? ⟨w.heap.size,1,none⟩=some (.string ⟨#[]⟩):=hr5.out.zero 1;have z2:w5.cell? ⟨w.heap.size,2,none⟩=some (.int .i64 0):=hr5.out.zero 2;have z3:w5.cell? ⟨w.heap.size,3,none⟩=some (.string ⟨#[]⟩):=hr5.out.zero 3;have z4:w5.cell? ⟨w.heap.size,4,none⟩=some (.int .i64 0):=hr5.out.zero 4;have z5:w5.cell? ⟨w.heap.size,5,none⟩=some (.int .i64 0):=hr5.out.zero 5;have f0:=hr5.out.free 0;have f1:=hr5.out.free 1;have f2:=hr5.out.free 2;have f3:=hr5.out.free 3;have f4:=hr5.out.free 4;have f5:=hr5.out.free 5;have hlt5:w.heap.size+1<w5.heap.size:=hr5.out.lt;rcases hmk:mk.toList.isEmpty with _ | _
     ·go_wp2_with fail
      refine bodyPost_ret ?_ rfl (hkk.out _ ?_)
      ·simp only[results,Tryz.results83]
       clear hkk;go_simp
      ·repeat (first | (with_reducible exact hb5) | (with_reducible refine Below.setCell ?_ (by simp) _))
     ·go_wp2_with fail
      refine bodyPost_ret ?_ rfl (hkk.out _ ?_)
      ·simp only[results,Tryz.results83]
       clear hkk;go_simp
      ·repeat (first | (with_reducible exact hb5) | (with_reducible refine Below.setCell ?_ (by simp) _))
   ·have HC:=C5.out
    clear C0 C1 C2 C3 C4 C5 C6;have c0:wr.cell? ⟨w.heap.size+1,30,none⟩=some (.int .i64 (6)):=hr.out.node 30;have c1:wr.cell? ⟨w.heap.size+1,31,none⟩=some (.string fn):=hr.out.node 31;have c2:wr.cell? ⟨w.heap.size+1,32,none⟩=some (.int .i64 (cp)):=hr.out.node 32;have c3:wr.cell? ⟨w.heap.size+1,33,none⟩=some (.string tl):=hr.out.node 33;have c4:wr.cell? ⟨w.heap.size+1,34,none⟩=some (.int .i64 (0)):=hr.out.node 34;have c5:wr.cell? ⟨w.heap.size+1,35,none⟩=some (.int .i64 (ce)):=hr.out.node 35;have Tk:=hid (fun w=>Htx.out ⟨6,fn,cp,tl,0,ce⟩ w (by show ByteArray.size _≤_;first | assumption | exact Nat.zero_le _) (by show ByteArray.size _≤_;first | assumption | exact Nat.zero_le _));have Wk:=Hw.out ⟨6,fn,cp,tl,0,ce⟩;have Hk:=hid (fun w'=>Hhit.out ⟨6,fn,cp,tl,0,ce⟩ w');unfold Nd.val Nd.cells at Tk Hk;have Nk:=hid (Hnext.out 5);rw[HC]at Nk;go_wp2_with fail;refine(Tk.out wr).mono ?_;rintro e w5 ⟨rfl,b5⟩
    have hr5:=hid (hr.out.on b5);clear b5 hr c0 c1 c2 c3 c4 c5 Tk;have g0:w5.cell? ⟨w.heap.size+1,30,none⟩=some (.int .i64 (6)):=hr5.out.node 30;have g1:w5.cell? ⟨w.heap.size+1,31,none⟩=some (.string fn):=hr5.out.node 31;have g2:w5.cell? ⟨w.heap.size+1,32,none⟩=some (.int .i64 (cp)):=hr5.out.node 32;have g3:w5.cell? ⟨w.heap.size+1,33,none⟩=some (.string tl):=hr5.out.node 33;have g4:w5.cell? ⟨w.heap.size+1,34,none⟩=some (.int .i64 (0)):=hr5.out.node 34;have g5:w5.cell? ⟨w.heap.size+1,35,none⟩=some (.int .i64 (ce)):=hr5.out.node 35;generalize terr ⟨6,fn,cp,tl,0,ce⟩=te at *;generalize txt ⟨6,fn,cp,tl,0,ce⟩=tt at *;rcases Wk with⟨hi,rfl⟩ | ⟨hi,rfl,htt⟩ | ⟨hi,rfl,htt,hmk,hk5⟩ | ⟨hi,rfl,htt,hk5⟩
    ·go_wp2_with fail
     go_roundw
     case rel=>exact⟨6,by omega,rfl,hid (Nk.out hj.out hi),hr5⟩
     case measure=>simp[intOf]
    ·go_wp2_with fail
     go_roundw
     case rel=>exact⟨6,by omega,rfl,hid (Nk.out hj.out hi),hr5⟩
     case measure=>simp[intOf]
    ·subst hmk
     have hem:((⟨#[]⟩:ByteArray).toList.isEmpty)=true:=by rw[ByteArray.toList_eq];rfl
     go_wp2_with fail;go_roundw
     case rel=>exact⟨6,by omega,rfl,hid (Nk.out hj.out hi),hr5⟩
     case measure=>simp[intOf]
    ·have hkk:=hid (fun w'=>Hk.out w' hi)
     have hb5:=hr5.out.2.2;have z0:w5.cell? ⟨w.heap.size,0,none⟩=some (.int .i64 0):=hr5.out.zero 0;have z1:w5.cell? ⟨w.heap.size,1,none⟩=some (.string ⟨#[]⟩):=hr5.out.zero 1;have z2:w5.cell? ⟨w.heap.size,2,none⟩=some (.int .i64 0):=hr5.out.zero 2;have z3:w5.cell? ⟨w.heap.size,3,none⟩=some (.string ⟨#[]⟩):=hr5.out.zero 3;have z4:w5.cell? ⟨w.heap.size,4,none⟩=some (.int .i64 0):=hr5.out.zero 4;have z5:w5.cell? ⟨w.heap.size,5,none⟩=some (.int .i64 0):=hr5.out.zero 5;have f0:=hr5.out.free 0;have f1:=hr5.out.free 1;have f2:=hr5.out.free 2;have f3:=hr5.out.free 3;have f4:=hr5.out.free 4;have f5:=hr5.out.free 5;have hlt5:w.heap.size+1<w5.heap.size:=hr5.out.lt;have hem:=dg.not_empty mk (hk5.resolve_left (by show ¬((6:Int)=5);decide));go_wp2_with fail;refine bodyPost_ret ?_ rfl (hkk.out _ ?_)
     ·simp only[results,Tryz.results83]
      clear hkk;go_simp
     ·repeat (first | (with_reducible exact hb5) | (with_reducible refine Below.setCell ?_ (by simp) _))
   ·have HC:=C6.out
    clear C0 C1 C2 C3 C4 C5 C6;have c0:wr.cell? ⟨w.heap.size+1,36,none⟩=some (.int .i64 (7)):=hr.out.node 36;have c1:wr.cell? ⟨w.heap.size+1,37,none⟩=some (.string fn):=hr.out.node 37;have c2:wr.cell? ⟨w.heap.size+1,38,none⟩=some (.int .i64 (cp)):=hr.out.node 38;have c3:wr.cell? ⟨w.heap.size+1,39,none⟩=some (.string ⟨#[]⟩):=hr.out.node 39;have c4:wr.cell? ⟨w.heap.size+1,40,none⟩=some (.int .i64 (nm)):=hr.out.node 40;have c5:wr.cell? ⟨w.heap.size+1,41,none⟩=some (.int .i64 (ce)):=hr.out.node 41;have Tk:=hid (fun w=>Htx.out ⟨7,fn,cp,⟨#[]⟩,nm,ce⟩ w (by show ByteArray.size _≤_;first | assumption | exact Nat.zero_le _) (by show ByteArray.size _≤_;first | assumption | exact Nat.zero_le _));have Wk:=Hw.out ⟨7,fn,cp,⟨#[]⟩,nm,ce⟩;have Hk:=hid (fun w'=>Hhit.out ⟨7,fn,cp,⟨#[]⟩,nm,ce⟩ w');unfold Nd.val Nd.cells at Tk Hk;have Nk:=hid (Hnext.out 6);rw[HC]at Nk;go_wp2_with fail;refine(Tk.out wr).mono ?_
    rintro e w5 ⟨rfl,b5⟩;have hr5:=hid (hr.out.on b5);clear b5 hr c0 c1 c2 c3 c4 c5 Tk;have g0:w5.cell? ⟨w.heap.size+1,36,none⟩=some (.int .i64 (7)):=hr5.out.node 36;have g1:w5.cell? ⟨w.heap.size+1,37,none⟩=some (.string fn):=hr5.out.node 37;have g2:w5.cell? ⟨w.heap.size+1,38,none⟩=some (.int .i64 (cp)):=hr5.out.node 38;have g3:w5.cell? ⟨w.heap.size+1,39,none⟩=some (.string ⟨#[]⟩):=hr5.out.node 39;have g4:w5.cell? ⟨w.heap.size+1,40,none⟩=some (.int .i64 (nm)):=hr5.out.node 40;have g5:w5.cell? ⟨w.heap.size+1,41,none⟩=some (.int .i64 (ce)):=hr5.out.node 41;generalize terr ⟨7,fn,cp,⟨#[]⟩,nm,ce⟩=te at *;generalize txt ⟨7,fn,cp,⟨#[]⟩,nm,ce⟩=tt at *;rcases Wk with⟨hi,rfl⟩ | ⟨hi,rfl,htt⟩ | ⟨hi,rfl,htt,hmk,hk5⟩ | ⟨hi,rfl,htt,hk5⟩
    ·go_wp2_with fail
     go_roundw
     case rel=>exact⟨7,by omega,rfl,hid (Nk.out hj.out hi),hr5⟩
     case measure=>simp[intOf]
    ·go_wp2_with fail
     go_roundw
     case rel=>exact⟨7,by omega,rfl,hid (Nk.out hj.out hi),hr5⟩
     case measure=>simp[intOf]
    ·subst hmk
     have hem:((⟨#[]⟩:ByteArray).toList.isEmpty)=true:=by rw[ByteArray.toList_eq];rfl
     go_wp2_with fail;go_roundw
     case rel=>exact⟨7,by omega,rfl,hid (Nk.out hj.out hi),hr5⟩
     case measure=>simp[intOf]
    ·have hkk:=hid (fun w'=>Hk.out w' hi)
     have hb5:=hr5.out.2.2;have z0:w5.cell? ⟨w.heap.size,0,none⟩=some (.int .i64 0):=hr5.out.zero 0;have z1:w5.cell? ⟨w.heap.size,1,none⟩=some (.string ⟨#[]⟩):=hr5.out.zero 1;have z2:w5.cell? ⟨w.heap.size,2,none⟩=some (.int .i64 0):=hr5.out.zero 2;have z3:w5.cell? ⟨w.heap.size,3,none⟩=some (.string ⟨#[]⟩):=hr5.out.zero 3;have z4:w5.cell? ⟨w.heap.size,4,none⟩=some (.int .i64 0):=hr5.out.zero 4;have z5:w5.cell? ⟨w.heap.size,5,none⟩=some (.int .i64 0):=hr5.out.zero 5;have f0:=hr5.out.free 0;have f1:=hr5.out.free 1;have f2:=hr5.out.free 2;have f3:=hr5.out.free 3;have f4:=hr5.out.free 4;have f5:=hr5.out.free 5;have hlt5:w.heap.size+1<w5.heap.size:=hr5.out.lt;have hem:=dg.not_empty mk (hk5.resolve_left (by show ¬((7:Int)=5);decide));go_wp2_with fail;refine bodyPost_ret ?_ rfl (hkk.out _ ?_)
     ·simp only[results,Tryz.results83]
      clear hkk;go_simp
     ·repeat (first | (with_reducible exact hb5) | (with_reducible refine Below.setCell ?_ (by simp) _))
   ·omega
  ·obtain rfl:k=7:=by omega
   have hb5:=hr.out.2.2;have z0:wr.cell? ⟨w.heap.size,0,none⟩=some (.int .i64 0):=hr.out.zero 0;have z1:wr.cell? ⟨w.heap.size,1,none⟩=some (.string ⟨#[]⟩):=hr.out.zero 1;have z2:wr.cell? ⟨w.heap.size,2,none⟩=some (.int .i64 0):=hr.out.zero 2;have z3:wr.cell? ⟨w.heap.size,3,none⟩=some (.string ⟨#[]⟩):=hr.out.zero 3;have z4:wr.cell? ⟨w.heap.size,4,none⟩=some (.int .i64 0):=hr.out.zero 4;have z5:wr.cell? ⟨w.heap.size,5,none⟩=some (.int .i64 0):=hr.out.zero 5;have f0:=hr.out.free 0;have f1:=hr.out.free 1;have f2:=hr.out.free 2;have f3:=hr.out.free 3;have f4:=hr.out.free 4;have f5:=hr.out.free 5;have hkk:=hid (fun w'=>Hmiss.out w' hj.out);clear Hmiss Hhit Hnext Hw Htx;go_wp2_with fail;refine bodyPost_ret (v:=.tuple #[.agg #[.int .i64 0,.string ⟨#[]⟩,.int .i64 0,.string ⟨#[]⟩,.int .i64 0,.int .i64 0],.int .i64 11]) ?_ rfl (hkk.out _ ?_)
   ·simp only[results,Tryz.results83]
    clear hkk;go_simp
   ·repeat (first | (with_reducible exact hb5) | (with_reducible refine Below.setCell ?_ (by simp) _))
theorem rread_yes(s:ByteArray)(w:World)(hs:s.size≤maxLen)(h:readB s=true):Calls Tryz.prog 83 #[.string s] w (ReadYes s w):=by
 refine(rread_node s w hs).mono ?_;rintro e w' ⟨rfl,hb⟩;refine⟨?_,hb⟩;unfold readN readE;rw[if_pos h,if_pos h]
theorem rread_no(s:ByteArray)(w:World)(hs:s.size≤maxLen)(h:readB s=false):Calls Tryz.prog 83 #[.string s] w (ReadNo w):=by
 refine(rread_node s w hs).mono ?_;rintro e w' ⟨rfl,hb⟩;refine⟨?_,hb⟩;unfold readN readE;rw[if_neg (by rw[h];decide),if_neg (by rw[h];decide)];rfl
end nm
end Go.Proofs.YtlkboeajkgbnaaaGreatDoor
