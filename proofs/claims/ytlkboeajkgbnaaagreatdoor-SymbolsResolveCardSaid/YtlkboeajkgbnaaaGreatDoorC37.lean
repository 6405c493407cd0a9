import Derived.Test.YtlkboeajkgbnaaaGreatDoorC33
set_option linter.all false
set_option maxHeartbeats 4000000
namespace Go.Proofs.YtlkboeajkgbnaaaGreatDoor
open Lib(hid)
set_option maxRecDepth 100000
set_option maxHeartbeats 8000000
namespace ym
open RowKit Go.Sort Shelf mem sy rng
open re (tx SU MU SumM)
attribute [local go_sem] Oper.semAt_some
theorem IB.drew{w W:World}{s:MS}{vo vf:Array Value}(h:IB w s vo vf W):IB w s vo vf W.drew:=⟨h.b0.kept ((Fr.refl [] W).drew) (by simp),h.b1.kept ((Fr.refl [] W).drew) (by simp),h.b2.kept ((Fr.refl [] W).drew) (by simp),h.on.trans (((Fr.refl [] W).drew).all.mono h.on.size)⟩
theorem IB.set1{w W:World}{s:MS}{x0 x1 x2:Value}{vf:Array Value}(h:IB w s #[x0,x1,x2] vf W)(v0 v1 v2:Value):IB w s #[v0,v1,v2] vf (((W.setCell ⟨w.heap.size+1,0,none⟩ v0).setCell ⟨w.heap.size+1,1,none⟩ v1).setCell ⟨w.heap.size+1,2,none⟩ v2):=by
 obtain⟨p1,p2⟩:=three_put h.b1 v0 v1 v2;exact⟨h.b0.kept p2 (by simp),p1,h.b2.kept p2 (by simp),h.on.trans (p2.below (by simp) h.on.size)⟩
theorem IB.set2{w W:World}{s:MS}{x0 x1 x2:Value}{vo:Array Value}(h:IB w s vo #[x0,x1,x2] W)(v0 v1 v2:Value):IB w s vo #[v0,v1,v2] (((W.setCell ⟨w.heap.size+2,0,none⟩ v0).setCell ⟨w.heap.size+2,1,none⟩ v1).setCell ⟨w.heap.size+2,2,none⟩ v2):=by
 obtain⟨p1,p2⟩:=three_put h.b2 v0 v1 v2;exact⟨h.b0.kept p2 (by simp),h.b1.kept p2 (by simp),p1,h.on.trans (p2.below (by simp) h.on.size)⟩
theorem cell_set3{W:World}{a b o:Nat}{x v0 v1 v2:Value}(h:W.cell? ⟨b,o,none⟩=some x)(hne:b≠a):(((W.setCell ⟨a,0,none⟩ v0).setCell ⟨a,1,none⟩ v1).setCell ⟨a,2,none⟩ v2).cell? ⟨b,o,none⟩=some x:=by
 have k:∀(W:World) (i:Nat) (v:Value),W.cell? ⟨b,o,none⟩=some x→(W.setCell ⟨a,i,none⟩ v).cell? ⟨b,o,none⟩=some x:=fun W i v h=>(World.cell?_of_block (w:=W) (a:=⟨b,o,none⟩) (Below.heap_setCell W ⟨a,i,none⟩ v b hne)).trans h
 exact k _ _ _ (k _ _ _ (k _ _ _ h))
theorem rin_any(w:World)(s:MS)(n:ByteArray)(hs:SysM w s):Calls Tryz.prog 52 #[s.val,.string n] w (INP w s (tx n)):=by
 obtain⟨W,hW⟩:∃W,Hid (W=((w.alloc (.cells #[.slice s.oA s.os.length s.oc,.slice s.fA s.fs.length s.fc,.slice s.cA s.cs.length s.cc] 41)).alloc (.cells #[.string ⟨#[]⟩,.string ⟨#[]⟩,.slice none 0 0] 70)).alloc (.cells #[.string ⟨#[]⟩,.string ⟨#[]⟩,.string ⟨#[]⟩] 72)):=⟨_,hid rfl⟩;have i0:=ib_new w s;rw[←hW.out]at i0;have I0:=hid i0;have HS:=hid (hs.below i0.on);have HS0:=hid hs;have y0:W.cell? ⟨w.heap.size,0,none⟩=some (.slice s.oA s.os.length s.oc):=i0.b0.cell 0;have y1:W.cell? ⟨w.heap.size,1,none⟩=some (.slice s.fA s.fs.length s.fc):=i0.b0.cell 1;obtain⟨Q,hQ⟩:∃Q:Ending→World→Prop,Hid (Q=INP w s (tx n)):=⟨_,hid rfl⟩;rw[←hQ.out];obtain⟨no,hno⟩:∃no,Hid (no=s.os.length):=⟨_,hid rfl⟩;obtain⟨nf,hnf⟩:∃nf,Hid (nf=s.fs.length):=⟨_,hid rfl⟩;have hol:=hs.ol;have hfl:=hs.fl;unfold maxLen at hol hfl;rw[←hno.out]at y0 hol;rw[←hnf.out]at y1 hfl;unfold MS.val;rw[←hno.out,←hnf.out]at hW ⊢;clear i0 hs;have hz1:(w.alloc (.cells #[.slice s.oA no s.oc,.slice s.fA nf s.fc,.slice s.cA s.cs.length s.cc] 41)).heap.size=w.heap.size+1:=Array.size_push _
 have hz2:((w.alloc (.cells #[.slice s.oA no s.oc,.slice s.fA nf s.fc,.slice s.cA s.cs.length s.cc] 41)).alloc (.cells #[.string ⟨#[]⟩,.string ⟨#[]⟩,.slice none 0 0] 70)).heap.size=w.heap.size+2:=by rw[World.size_alloc,hz1]
 go_enter Tryz.func52,Tryz.ntmps52;go_upto_region 1 with fail;rw[←hW.out]
 try rw[hz2]
 try rw[hz1]
 try simp only[show w.heap.size+1+1=w.heap.size+2 from rfl]
 clear hW hz1 hz2;go_wp2_with fail;go_loopw [7] (fun i wr=>∃k:Nat,k≤no∧i=.int .i64 k∧wr=W∧Hid (∀x∈s.os.take k,tx x.o.name≠tx n)) (fun i _=>no-(intOf i).toNat)
 case atStart=>exact⟨0,by omega,rfl,rfl,hid (by simp)⟩
 case round=>
  obtain⟨k,hk,rfl,rfl,HP⟩:=hrel;by_cases hkl:k<no
  ·have d2:decide ((k:Int)<(no:Int))=true:=decide_eq_true (by omega)
   have hki:(k:Int)<(no:Int):=by omega
   have hkx:k<s.os.length:=by rw[←hno.out];exact hkl
   obtain⟨b,o,hoA,hb,c0,c1,c2⟩:=tbl_obj HS.out.o hkx;rw[hoA]at y0;by_cases he:s.os[k].o.name=n
   ·have s1:=beq_yes n
    have HV:Hid (inM s (tx n)=some (s.os[k],fZ)):=hid (inM_obj hkx HP.out (by rw[he]));rw[he]at c0;generalize hx:s.os[k] = x at *;obtain⟨p1,p2⟩:=three_put I0.out.b1 (.string n) (.string x.o.kinds) (.slice x.mA x.o.marks.length x.mc);obtain⟨q1,q2⟩:=three_put (I0.out.b2.kept p2 (by simp)) (.string ⟨#[]⟩) (.string ⟨#[]⟩) (.string ⟨#[]⟩);have HX:=hid (p1.kept q2 (by simp));have HY:=hid q1;have hsz:=I0.out.on.size;have HB:=I0.out.on.trans ((p2.trans q2 (G:=[w.heap.size+1,w.heap.size+2]) (fun g hg=>Or.inl (by simp at hg ⊢;omega)) (fun g hg=>Or.inl (by simp at hg ⊢;omega))).below (by simp) hsz)
    have hfin:=hid (show Q (.returned (.tuple #[.agg #[.string n,.string x.o.kinds,.slice x.mA x.o.marks.length x.mc],.agg #[.string ⟨#[]⟩,.string ⟨#[]⟩,.string ⟨#[]⟩],.bool true])) _ by
     rw[hQ.out];refine⟨HB,?_⟩;rw[HV.out];dsimp only;unfold MO.row;rw[he]
     rfl)
    have z0:wr.cell? ⟨w.heap.size+1,0,none⟩=some (.string ⟨#[]⟩):=I0.out.b1.cell 0;have z1:wr.cell? ⟨w.heap.size+1,1,none⟩=some (.string ⟨#[]⟩):=I0.out.b1.cell 1;have z2:wr.cell? ⟨w.heap.size+1,2,none⟩=some (.slice none 0 0):=I0.out.b1.cell 2;have v0:wr.cell? ⟨w.heap.size+2,0,none⟩=some (.string ⟨#[]⟩):=I0.out.b2.cell 0;have v1:wr.cell? ⟨w.heap.size+2,1,none⟩=some (.string ⟨#[]⟩):=I0.out.b2.cell 1;have v2:wr.cell? ⟨w.heap.size+2,2,none⟩=some (.string ⟨#[]⟩):=I0.out.b2.cell 2;have f0:=I0.out.b1.free 0;have f1:=I0.out.b1.free 1;have f2:=I0.out.b1.free 2;have g0:=I0.out.b2.free 0;have g1:=I0.out.b2.free 1;have g2:=I0.out.b2.free 2;clear p1 p2 q1 q2 HB HV hQ he HP hb hoA hx I0 HS;go_wp2_with fail;refine bodyPost_ret (results_cct rfl _ _ _ _ _ _ _ _ _ _ _ _ _ rfl rfl rfl HX.out HY.out uOb rfl (by kernel_rfl) uFn rfl (by kernel_rfl)) rfl ?_;exact hfin.out
   ·have s1:=beq_no he
    have HN2:Hid (∀x∈s.os.take (k+1),tx x.o.name≠tx n):=hid (fun x hx=>by
     rw[List.take_succ_eq_append_getElem hkx]at hx;rcases List.mem_append.1 hx with h | h
     ·exact HP.out x h
     ·rw[List.mem_singleton]at h;subst h;exact fun e=>he (tx_eq e))
    clear he c1 c2 HP hb;generalize s.os[k].o.name=sx at *;go_wp2_with fail;go_roundw
    case rel=>exact⟨k+1,by omega,by go_num,trivial,HN2⟩
    case measure=>simp[intOf];omega
  ·obtain rfl:k=no:=by omega
   have d2:decide ((k:Int)<(k:Int))=false:=decide_eq_false (by omega)
   have HO:Hid (∀x∈s.os,tx x.o.name≠tx n):=hid (by
    have:=HP.out
    rwa[List.take_of_length_le (by rw[←hno.out];exact Nat.le_refl _)]at this)
   clear HP;go_wp2_with fail;go_loopw [8] (fun i wq=>∃q:Nat,q≤nf∧i=.int .i64 q∧wq=wr∧Hid (∀x∈s.fs.take q,tx x.name≠tx n)) (fun i _=>nf-(intOf i).toNat)
   case atStart=>exact⟨0,by omega,rfl,rfl,hid (by simp)⟩
   case round=>
    obtain⟨q,hq,rfl,rfl,HP⟩:=hrel
    rename World=>wr
    by_cases hql:q<nf
    ·have d3:decide ((q:Int)<(nf:Int))=true:=decide_eq_true (by omega)
     have hqi:(q:Int)<(nf:Int):=by omega
     have hqx:q<s.fs.length:=by rw[←hnf.out];exact hql
     obtain⟨b,o,hoA,hb,c0,c1,c2⟩:=tbl_fn HS.out.f hqx;obtain⟨b9,o9,hoA9,hb9,_⟩:=tbl_fn HS0.out.f hqx;obtain⟨rfl,rfl⟩:b9=b∧o9=o:=by rw[hoA]at hoA9;injection hoA9 with e;injection e with e1 e2;exact⟨e1.symm,e2.symm⟩
     have hn1:b9≠w.heap.size+1:=by omega
     have hn2:b9≠w.heap.size+2:=by omega
     clear hoA9;rw[hoA]at y1;by_cases he:s.fs[q].name=n
     ·have s1:=beq_yes n
      have HV:Hid (inM s (tx n)=some (⟨oZ,none,0⟩,s.fs[q])):=hid (inM_fn HO.out hqx HP.out (by rw[he]));rw[he]at c0;generalize hx:s.fs[q] = x at *;have ID0:Hid (IB w s #[.string ⟨#[]⟩,.string ⟨#[]⟩,.slice none 0 0] #[.string ⟨#[]⟩,.string ⟨#[]⟩,.string ⟨#[]⟩] wr.drew):=hid I0.out.drew;obtain⟨S,hSd⟩:∃S:World→Prop,Hid (∀W',S W'↔(W'.cell? ⟨w.heap.size,1,none⟩=some (.slice (some ⟨b9,o9,none⟩) nf s.fc)∧W'.cell? ⟨b9,o9+q * 3,none⟩=some (.string n)∧W'.cell? ⟨b9,o9+q * 3+1,none⟩=some (.string x.kinds)∧W'.cell? ⟨b9,o9+q * 3+2,none⟩=some (.string x.ret))):=⟨_,hid fun _=>Iff.rfl⟩;have hS0:S wr.drew:=(hSd.out _).2 ⟨y1,c0,c1,c2⟩;have hxn:Hid (x.name=n):=hid he;clear HP hb hoA hx I0 HS HO he y0;go_wp2_with fail;clear y1 c0 c1 c2;refine rng.wp_normal ?_;refine wp_region_held_drew (S:=S) (by kernel_rfl) hS0 (fun _=>?_);generalize hwz:wr.drew=wz at *;clear hwz;refine wpAnyH_take (i:=0) (v:=.agg #[.string ⟨#[]⟩,.string ⟨#[]⟩,.slice none 0 0]) rfl (by kernel_rfl) (by kernel_rfl) (by kernel_rfl) (fun _ _ _ h=>absurd h.1 (by simp)) (Or.inl ⟨by kernel_rfl,?_⟩) hS0 ?_
      ·intro W' hSw
       obtain⟨s0,s1,s2,s3⟩:=(hSd.out _).1 hSw;go_simp
      try change wpAnyH _ _ _ _ _ _ _ (Act.put _ (some 45) _) _
      try simp only[Act.put,List.setIfInBounds_toArray,List.set_cons_zero,List.set_cons_succ]
      refine wpAnyH_take (i:=1) (v:=.pointer (some ⟨w.heap.size,1,none⟩)) rfl (by kernel_rfl) (by kernel_rfl) (by kernel_rfl) (fun _ _ _ h=>absurd h.1 (by simp)) (Or.inl ⟨by kernel_rfl,?_⟩) hS0 ?_
      ·intro W' hSw
       obtain⟨s0,s1,s2,s3⟩:=(hSd.out _).1 hSw;go_simp
      try change wpAnyH _ _ _ _ _ _ _ (Act.put _ (some 46) _) _
      try simp only[Act.put,List.setIfInBounds_toArray,List.set_cons_zero,List.set_cons_succ]
      refine wpAnyH_take (i:=2) (v:=.slice (some ⟨b9,o9,none⟩) nf s.fc) rfl (by kernel_rfl) (by kernel_rfl) (by kernel_rfl) (fun _ _ _ h=>absurd h.1 (by simp)) (Or.inl ⟨by kernel_rfl,?_⟩) hS0 ?_
      ·intro W' hSw
       obtain⟨s0,s1,s2,s3⟩:=(hSd.out _).1 hSw;go_simp
      try change wpAnyH _ _ _ _ _ _ _ (Act.put _ (some 47) _) _
      try simp only[Act.put,List.setIfInBounds_toArray,List.set_cons_zero,List.set_cons_succ]
      refine wpAnyH_take (i:=3) (v:=.int .i64 q) rfl (by kernel_rfl) (by kernel_rfl) (by kernel_rfl) (fun _ _ _ h=>absurd h.1 (by simp)) (Or.inl ⟨by kernel_rfl,?_⟩) hS0 ?_
      ·intro W' hSw
       obtain⟨s0,s1,s2,s3⟩:=(hSd.out _).1 hSw;go_simp
      try change wpAnyH _ _ _ _ _ _ _ (Act.put _ (some 48) _) _
      try simp only[Act.put,List.setIfInBounds_toArray,List.set_cons_zero,List.set_cons_succ]
      refine wpAnyH_take (i:=4) (v:=.pointer (some ⟨b9,o9+q * 3,none⟩)) rfl (by kernel_rfl) (by kernel_rfl) (by kernel_rfl) (fun _ _ _ h=>absurd h.1 (by simp)) (Or.inl ⟨by kernel_rfl,?_⟩) hS0 ?_
      ·intro W' hSw
       obtain⟨s0,s1,s2,s3⟩:=(hSd.out _).1 hSw;go_simp
       try (intro hh;omega)
      try change wpAnyH _ _ _ _ _ _ _ (Act.put _ (some 49) _) _
      try simp only[Act.put,List.setIfInBounds_toArray,List.set_cons_zero,List.set_cons_succ]
      refine wpAnyH_take (i:=5) (v:=.agg #[.string n,.string x.kinds,.string x.ret]) rfl (by kernel_rfl) (by kernel_rfl) (by kernel_rfl) (fun _ _ _ h=>absurd h.1 (by simp)) (Or.inl ⟨by kernel_rfl,?_⟩) hS0 ?_
      ·intro W' hSw
       obtain⟨s0,s1,s2,s3⟩:=(hSd.out _).1 hSw;go_simp
      try change wpAnyH _ _ _ _ _ _ _ (Act.put _ (some 50) _) _
      try simp only[Act.put,List.setIfInBounds_toArray,List.set_cons_zero,List.set_cons_succ]
      refine wpAnyH_ready (rs:=[6]) (by kernel_rfl) (by simp) ?_;refine AllReadyH.cons rfl (fun K hK=>?_) AllReadyH.nil;have z0:=ID0.out.b1.cell 0;have z1:=ID0.out.b1.cell 1;have z2:=ID0.out.b1.cell 2;have f0:=ID0.out.b1.free 0;have f1:=ID0.out.b1.free 1;have f2:=ID0.out.b1.free 2;have zl:=ID0.out.b1.lt;obtain⟨s0,s1',s2,s3⟩:=(hSd.out _).1 hS0;have ID1:=hid (ID0.out.set1 (.string ⟨#[]⟩) (.string ⟨#[]⟩) (.slice none 0 0));have hS1:=(hSd.out _).2 ⟨cell_set3 (a:=w.heap.size+1) (v0:=.string ⟨#[]⟩) (v1:=.string ⟨#[]⟩) (v2:=.slice none 0 0) s0 (by omega),cell_set3 (a:=w.heap.size+1) (v0:=.string ⟨#[]⟩) (v1:=.string ⟨#[]⟩) (v2:=.slice none 0 0) s1' hn1,cell_set3 (a:=w.heap.size+1) (v0:=.string ⟨#[]⟩) (v1:=.string ⟨#[]⟩) (v2:=.slice none 0 0) s2 hn1,cell_set3 (a:=w.heap.size+1) (v0:=.string ⟨#[]⟩) (v1:=.string ⟨#[]⟩) (v2:=.slice none 0 0) s3 hn1⟩;clear s0 s1' s2 s3;go_simp;refine hK.out _ _ hS1 (fun _=>?_)
      clear hK z0 z1 z2 f0 f1 f2 zl hS0 ID0;generalize ((wz.setCell ⟨w.heap.size+1,0,none⟩ (.string ⟨#[]⟩)).setCell ⟨w.heap.size+1,1,none⟩ (.string ⟨#[]⟩)).setCell ⟨w.heap.size+1,2,none⟩ (.slice none 0 0)=wz1 at *
      try simp only[Act.put,List.setIfInBounds_toArray,List.set_cons_zero,List.set_cons_succ]
      refine wpAnyH_ready (rs:=[7]) (by kernel_rfl) (by simp) ?_;refine AllReadyH.cons rfl (fun K hK=>?_) AllReadyH.nil;have z0:=ID1.out.b2.cell 0;have z1:=ID1.out.b2.cell 1;have z2:=ID1.out.b2.cell 2;have f0:=ID1.out.b2.free 0;have f1:=ID1.out.b2.free 1;have f2:=ID1.out.b2.free 2;have zl:=ID1.out.b2.lt;obtain⟨s0,s1',s2,s3⟩:=(hSd.out _).1 hS1;have ID2:=hid (ID1.out.set2 (.string n) (.string x.kinds) (.string x.ret));have hS2:=(hSd.out _).2 ⟨cell_set3 (a:=w.heap.size+2) (v0:=.string n) (v1:=.string x.kinds) (v2:=.string x.ret) s0 (by omega),cell_set3 (a:=w.heap.size+2) (v0:=.string n) (v1:=.string x.kinds) (v2:=.string x.ret) s1' hn2,cell_set3 (a:=w.heap.size+2) (v0:=.string n) (v1:=.string x.kinds) (v2:=.string x.ret) s2 hn2,cell_set3 (a:=w.heap.size+2) (v0:=.string n) (v1:=.string x.kinds) (v2:=.string x.ret) s3 hn2⟩;clear s0 s1' s2 s3;go_simp;refine hK.out _ _ hS2 (fun _=>?_);clear hK z0 z1 z2 f0 f1 f2 zl hS1 ID1
      generalize ((wz1.setCell ⟨w.heap.size+2,0,none⟩ (.string n)).setCell ⟨w.heap.size+2,1,none⟩ (.string x.kinds)).setCell ⟨w.heap.size+2,2,none⟩ (.string x.ret)=wz2 at *
      try simp only[Act.put,List.setIfInBounds_toArray,List.set_cons_zero,List.set_cons_succ]
      refine wpAnyH_take (i:=8) (v:=.bool true) rfl (by kernel_rfl) (by kernel_rfl) (by kernel_rfl) (fun _ _ _ h=>absurd h.1 (by simp)) (Or.inl ⟨by kernel_rfl,?_⟩) hS2 ?_
      ·intro W' hSw
       obtain⟨s0,s1,s2,s3⟩:=(hSd.out _).1 hSw;go_simp
      try change wpAnyH _ _ _ _ _ _ _ (Act.put _ (some 6) _) _
      try simp only[Act.put,List.setIfInBounds_toArray,List.set_cons_zero,List.set_cons_succ]
      refine wpAnyH_done (by kernel_rfl) ?_ _;refine⟨rfl,?_⟩
      have hfin:=hid (show Q (.returned (.tuple #[.agg #[.string ⟨#[]⟩,.string ⟨#[]⟩,.slice none 0 0],.agg #[.string n,.string x.kinds,.string x.ret],.bool true])) wz2 by
       rw[hQ.out];refine⟨ID2.out.on,?_⟩;rw[HV.out];dsimp only;unfold fnRow;rw[hxn.out]
       rfl)
      clear hSd hS2 hQ HV;go_wp2_with fail
      (try simp only[Exit.inBlock,Exit.then])
      refine bodyPost_ret (results_cct rfl _ _ _ _ _ _ _ _ _ _ _ _ _ rfl rfl rfl ID2.out.b1 ID2.out.b2 uOb rfl (by kernel_rfl) uFn rfl (by kernel_rfl)) rfl ?_;exact hfin.out
     ·have s1:=beq_no he
      have HN2:Hid (∀x∈s.fs.take (q+1),tx x.name≠tx n):=hid (fun x hx=>by
       rw[List.take_succ_eq_append_getElem hqx]at hx;rcases List.mem_append.1 hx with h | h
       ·exact HP.out x h
       ·rw[List.mem_singleton]at h;subst h;exact fun e=>he (tx_eq e))
      clear he c1 c2 HP hb;generalize s.fs[q].name=sx at *;go_wp2_with fail;go_roundw
      case rel=>exact⟨q+1,by omega,by go_num,trivial,HN2⟩
      case measure=>simp[intOf];omega
    ·obtain rfl:q=nf:=by omega
     have d3:decide ((q:Int)<(q:Int))=false:=decide_eq_false (by omega)
     have HV:Hid (inM s (tx n)=none):=hid (inM_no HO.out (by
      have:=HP.out
      rwa[List.take_of_length_le (by rw[←hnf.out];exact Nat.le_refl _)]at this))
     obtain⟨p1,p2⟩:=three_put I0.out.b1 (.string ⟨#[]⟩) (.string ⟨#[]⟩) (.slice none 0 0);obtain⟨q1,q2⟩:=three_put (I0.out.b2.kept p2 (by simp)) (.string ⟨#[]⟩) (.string ⟨#[]⟩) (.string ⟨#[]⟩);have HX:=hid (p1.kept q2 (by simp));have HY:=hid q1;have hsz:=I0.out.on.size;have HB:=I0.out.on.trans ((p2.trans q2 (G:=[w.heap.size+1,w.heap.size+2]) (fun g hg=>Or.inl (by simp at hg ⊢;omega)) (fun g hg=>Or.inl (by simp at hg ⊢;omega))).below (by simp) hsz)
     have hfin:=hid (show Q (.returned (.tuple #[.agg #[.string ⟨#[]⟩,.string ⟨#[]⟩,.slice none 0 0],.agg #[.string ⟨#[]⟩,.string ⟨#[]⟩,.string ⟨#[]⟩],.bool false])) _ by
      rw[hQ.out];refine⟨HB,?_⟩
      rw[HV.out])
     have z0:wr.cell? ⟨w.heap.size+1,0,none⟩=some (.string ⟨#[]⟩):=I0.out.b1.cell 0;have z1:wr.cell? ⟨w.heap.size+1,1,none⟩=some (.string ⟨#[]⟩):=I0.out.b1.cell 1;have z2:wr.cell? ⟨w.heap.size+1,2,none⟩=some (.slice none 0 0):=I0.out.b1.cell 2;have v0:wr.cell? ⟨w.heap.size+2,0,none⟩=some (.string ⟨#[]⟩):=I0.out.b2.cell 0;have v1:wr.cell? ⟨w.heap.size+2,1,none⟩=some (.string ⟨#[]⟩):=I0.out.b2.cell 1;have v2:wr.cell? ⟨w.heap.size+2,2,none⟩=some (.string ⟨#[]⟩):=I0.out.b2.cell 2;have f0:=I0.out.b1.free 0;have f1:=I0.out.b1.free 1;have f2:=I0.out.b1.free 2;have g0:=I0.out.b2.free 0;have g1:=I0.out.b2.free 1;have g2:=I0.out.b2.free 2;clear p1 p2 q1 q2 HB HV hQ HP I0 HS HO;go_wp2_with fail;refine bodyPost_ret (results_cct rfl _ _ _ _ _ _ _ _ _ _ _ _ _ rfl rfl rfl HX.out HY.out uOb rfl (by kernel_rfl) uFn rfl (by kernel_rfl)) rfl ?_;exact hfin.out
end ym
namespace ym
open RowKit Go.Sort Shelf mem sy rng
open re (tx SU MU SumM)
open sf (enc_tx SumK namesL)
open inn (rsS intoS rs_len)
attribute [local go_sem] Oper.semAt_some
structure NS(w:World)(P:List (List UInt8))(B:Option Addr)(c:Nat)(wr:World):Prop where
 sg:Seg wr 9 B c ((rsS P).map encStr)
 on:Below w.heap.size w wr
theorem rs_app(P:List (List UInt8))(x:List UInt8):rsS (P++[x])=intoS (rsS P) x:=inn.intoAll_snoc _ P x
theorem NS.into{w wr:World}{P:List (List UInt8)}{B:Option Addr}{c:Nat}(h:NS w P B c wr)(x:ByteArray)(hP:P.length≤1000000):Calls Tryz.prog 51 #[.slice B (rsS P).length c,.string x] wr (fun e w'=>∃B2 c2,e=.returned (.slice B2 (rsS (P++[tx x])).length c2)∧NS w (P++[tx x]) B2 c2 w'∧Below wr.heap.size wr w'):=by
 have k:=inn.into_any wr B c (rsS P) (tx x) h.sg (Nat.le_trans (rs_len P) hP);rw[enc_tx]at k;refine k.mono ?_;rintro e w' ⟨B2,c2,rfl,hs,hb⟩;rw[←rs_app]at *;exact⟨B2,c2,rfl,⟨hs,h.on.trans (hb.mono h.on.size)⟩,hb⟩
def nmO(u:MU)(j:Nat):List (List UInt8):=(u.s.os.take j).map (fun o=>tx o.o.name)
def nmF(u:MU)(j:Nat):List (List UInt8):=(u.s.fs.take j).map (fun f=>tx f.name)
theorem nmO_snoc(u:MU){j:Nat}(h:j<u.s.os.length):nmO u (j+1)=nmO u j++[tx u.s.os[j].o.name]:=by
 unfold nmO;rw[List.take_succ_eq_append_getElem h,List.map_append];rfl
theorem nmF_snoc(u:MU){j:Nat}(h:j<u.s.fs.length):nmF u (j+1)=nmF u j++[tx u.s.fs[j].name]:=by
 unfold nmF;rw[List.take_succ_eq_append_getElem h,List.map_append];rfl
theorem nm_all(u:MU):nmO u u.s.os.length++nmF u u.s.fs.length=namesL u.su:=by
 unfold nmO nmF namesL MU.su MS.sys;rw[List.take_length,List.take_length,List.map_map];rfl
def nmS(l:List MU)(k:Nat):List (List UInt8):=((l.take k).map MU.su).flatMap namesL
theorem nmS_snoc(l:List MU){k:Nat}(h:k<l.length):nmS l (k+1)=nmS l k++namesL l[k].su:=by
 unfold nmS;rw[List.take_succ_eq_append_getElem h,List.map_append,List.flatMap_append];simp
theorem nmS_len{l:List MU}(h:∀u∈l,u.s.os.length+u.s.fs.length≤1000)(k:Nat):(nmS l k).length≤1000 * l.length:=by
 unfold nmS;have key:∀(l:List MU),(∀u∈l,u.s.os.length+u.s.fs.length≤1000)→((l.map MU.su).flatMap namesL).length≤1000 * l.length:=by
  intro l
  induction l with
  | nil=>intro _;simp
  | cons u t ih=>
   intro h;rw[List.map_cons,List.flatMap_cons,List.length_append,List.length_cons];have h1:=ih (fun x hx=>h x (List.mem_cons_of_mem _ hx));have h2:(namesL u.su).length≤1000:=by
    unfold namesL MU.su MS.sys;rw[List.length_append,List.length_map,List.length_map,List.length_map];exact h u List.mem_cons_self
   omega
 have h2:=key (l.take k) (fun u hu=>h u (List.mem_of_mem_take hu));have h3:(l.take k).length≤l.length:=by rw[List.length_take];omega
 omega
theorem rall_any(w:World)(A:Option Addr)(c:Nat)(l:List MU)(h:SusM w A l)(hl:l.length≤900) :
 Calls Tryz.prog 19 #[.slice A l.length c] w (fun e w'=>∃B c2,e=.returned (.slice B (rsS ((l.map MU.su).flatMap namesL)).length c2)∧NS w ((l.map MU.su).flatMap namesL) B c2 w'):=by
 have HS:=hid (fun(w2:World) (b:Below w.heap.size w w2)=>h.below b);have HL:=hid (fun k=>nmS_len h.n k);obtain⟨n,hN⟩:∃n,Hid (n=l.length):=⟨_,hid rfl⟩;have N0:Hid (NS w (nmS l 0) none 0 w):=hid ⟨Seg.nil _ _,Below.refl _ _⟩;have HA:Hid (nmS l n=(l.map MU.su).flatMap namesL):=hid (by unfold nmS;rw[hN.out,List.take_length]);rw[←HA.out];rw[←hN.out]at hl ⊢;clear h HA;go_enter Tryz.func19,Tryz.ntmps19;go_wp2_with fail;go_loopw [3,4] (fun o i wr=>∃(k:Nat) (B:Option Addr) (c2:Nat),k≤n∧i=.int .i64 k∧o=.slice B (rsS (nmS l k)).length c2∧Hid (NS w (nmS l k) B c2 wr)) (fun _ i _=>n-(intOf i).toNat)
 case atStart=>exact⟨0,none,0,by omega,rfl,rfl,N0⟩
 case round=>
  obtain⟨k,B,c2,hk,rfl,rfl,HP⟩:=hrel
  rename World=>wr
  clear N0;by_cases hkl:k<n
  ·have d2:decide ((k:Int)<(n:Int))=true:=decide_eq_true (by omega)
   have hkx:k<l.length:=by rw[←hN.out];exact hkl
   have hki:(k:Int)<(n:Int):=by omega
   obtain⟨g,off,rfl,hg,hc⟩:=(HS.out wr HP.out.on).at_ hkx;have HC:Hid (∀w2,Below wr.heap.size wr w2→(w2.cell? ⟨g,off+k * 7+4,none⟩=some (.slice l[k].s.oA l[k].s.os.length l[k].s.oc)∧w2.cell? ⟨g,off+k * 7+5,none⟩=some (.slice l[k].s.fA l[k].s.fs.length l[k].s.fc))∧SysM w2 l[k].s):=hid (fun w2 b=>⟨⟨World.cell?_of_block (w:=wr) (a:=⟨g,off+k * 7+4,none⟩) ((Fr.of_below b []).block g hg (by simp)) |>.trans (hc 4 _ rfl),World.cell?_of_block (w:=wr) (a:=⟨g,off+k * 7+5,none⟩) ((Fr.of_below b []).block g hg (by simp)) |>.trans (hc 5 _ rfl)⟩,(((HS.out wr HP.out.on).k _ (List.getElem_mem hkx)).m.sr).below b⟩);have hPl:=HL.out k;rw[←hN.out]at hPl;have hul:=(HS.out wr HP.out.on).n _ (List.getElem_mem hkx);have HK:Hid (nmS l (k+1)=nmS l k++namesL l[k].su):=hid (nmS_snoc l hkx);generalize l[k] = u at *;clear hc HS HL hg;obtain⟨P,hPe⟩:∃P,Hid (P=nmS l k):=⟨_,hid rfl⟩;rw[←hPe.out]at HP HK hPl ⊢;clear hPe;have HO:Hid (∀j,(nmO u j).length≤1000):=hid (fun j=>by unfold nmO;rw[List.length_map,List.length_take];omega)
   have HF:Hid (∀j,(nmF u j).length≤1000):=hid (fun j=>by unfold nmF;rw[List.length_map,List.length_take];omega);obtain⟨no,hno⟩:∃no,Hid (no=u.s.os.length):=⟨_,hid rfl⟩;obtain⟨nf,hnf⟩:∃nf,Hid (nf=u.s.fs.length):=⟨_,hid rfl⟩;rw[←hno.out,←hnf.out]at HC hul;have HK2:Hid (nmS l (k+1)=P++nmO u no++nmF u nf):=hid (by rw[HK.out,←nm_all,←hno.out,←hnf.out,List.append_assoc]);have hno1:no≤1000:=by omega
   have hnf1:nf≤1000:=by omega
   have N1:Hid (NS w (P++nmO u 0) B c2 wr):=hid (by rw[show nmO u 0=[] from rfl,List.append_nil];exact HP.out);rw[show rsS P=rsS (P++nmO u 0) by rw[show nmO u 0=[] from rfl,List.append_nil]];have R0:=hid (Below.refl wr.heap.size wr);clear HP HK;go_wp2_with fail;go_loopw [3,5] (fun o i wq=>∃(j:Nat) (B:Option Addr) (c2:Nat),j≤no∧i=.int .i64 j∧o=.slice B (rsS (P++nmO u j)).length c2∧Hid (NS w (P++nmO u j) B c2 wq)∧Hid (Below wr.heap.size wr wq)) (fun _ i _=>no-(intOf i).toNat)
   case atStart=>exact⟨0,B,c2,by omega,rfl,rfl,N1,R0⟩
   case round=>
    obtain⟨j,B1,c3,hj,rfl,rfl,HP1,HB1⟩:=hrel
    rename World=>wq
    clear N1 R0;obtain⟨⟨y4,y5⟩,hsy⟩:=HC.out wq HB1.out;by_cases hjo:j<no
    ·have d3:decide ((j:Int)<(no:Int))=true:=decide_eq_true (by omega)
     have hji:(j:Int)<(no:Int):=by omega
     have hjx:j<u.s.os.length:=by rw[←hno.out];exact hjo
     obtain⟨b,o,hoA,hb,cn,_,_⟩:=tbl_obj hsy.o hjx;rw[hoA]at y4;have HKs:=hid (nmO_snoc u hjx);have KI:=hid (HP1.out.into u.s.os[j].o.name (by have:=HO.out j;rw[List.length_append];omega));rw[List.append_assoc,←HKs.out]at KI;clear hsy hb hoA HKs y5;generalize (u.s.os[j]'hjx).o.name=sx at *;generalize hM:(rsS (P++nmO u j)).length=M at *;clear hM;go_wp2_with fail;refine KI.out.mono ?_;rintro e w2 ⟨B2,c4,rfl,hs2,hb2⟩;have N2:=hid hs2;have B2b:=hid (HB1.out.trans (hb2.mono HB1.out.size));clear hs2 hb2 KI y4 cn HP1 HB1;go_wp2_with fail;go_roundw
     case rel=>exact⟨j+1,B2,c4,by omega,by go_num,rfl,N2,B2b⟩
     case measure=>simp[intOf];omega
    ·obtain rfl:j=no:=by omega
     have d3:decide ((j:Int)<(j:Int))=false:=decide_eq_false (by omega);obtain⟨Q,hQe⟩:∃Q,Hid (Q=P++nmO u j):=⟨_,hid rfl⟩;rw[←hQe.out]at HP1 HK2 ⊢;have hQl:Q.length≤1000 * n+1000:=by
      rw[hQe.out,List.length_append];have:=HO.out j;omega
     clear hQe hsy;have N1:Hid (NS w (Q++nmF u 0) B1 c3 wq):=hid (by rw[show nmF u 0=[] from rfl,List.append_nil];exact HP1.out);rw[show rsS Q=rsS (Q++nmF u 0) by rw[show nmF u 0=[] from rfl,List.append_nil]];clear HP1;go_wp2_with fail;clear y4 y5;go_loopw [3,6] (fun o i wz=>∃(q:Nat) (B:Option Addr) (c2:Nat),q≤nf∧i=.int .i64 q∧o=.slice B (rsS (Q++nmF u q)).length c2∧Hid (NS w (Q++nmF u q) B c2 wz)∧Hid (Below wr.heap.size wr wz)) (fun _ i _=>nf-(intOf i).toNat)
     case atStart=>exact⟨0,B1,c3,by omega,rfl,rfl,N1,HB1⟩
     case round=>
      obtain⟨q,B2,c4,hq,rfl,rfl,HP2,HB2⟩:=hrel
      rename World=>wz
      clear N1 HB1;obtain⟨⟨y4,y5⟩,hsy⟩:=HC.out wz HB2.out;by_cases hqo:q<nf
      ·have d4:decide ((q:Int)<(nf:Int))=true:=decide_eq_true (by omega)
       have hqi:(q:Int)<(nf:Int):=by omega
       have hqx:q<u.s.fs.length:=by rw[←hnf.out];exact hqo
       obtain⟨b,o,hoA,hb,cn,_,_⟩:=tbl_fn hsy.f hqx;rw[hoA]at y5;have HKs:=hid (nmF_snoc u hqx);have KI:=hid (HP2.out.into u.s.fs[q].name (by have:=HF.out q;rw[List.length_append];omega));rw[List.append_assoc,←HKs.out]at KI;clear hsy hb hoA HKs y4;generalize (u.s.fs[q]'hqx).name=sx at *;generalize hM:(rsS (Q++nmF u q)).length=M at *;clear hM;go_wp2_with fail;refine KI.out.mono ?_;rintro e w2 ⟨B5,c5,rfl,hs2,hb2⟩;have N2:=hid hs2;have B2b:=hid (HB2.out.trans (hb2.mono HB2.out.size));clear hs2 hb2 KI y5 cn HP2 HB2;go_wp2_with fail;go_roundw
       case rel=>exact⟨q+1,B5,c5,by omega,by go_num,rfl,N2,B2b⟩
       case measure=>simp[intOf];omega
      ·obtain rfl:q=nf:=by omega
       have d4:decide ((q:Int)<(q:Int))=false:=decide_eq_false (by omega);rw[←HK2.out]at HP2 ⊢;clear hsy;go_wp2_with fail;go_roundw
       case rel=>exact⟨k+1,B2,c4,by omega,by go_num,rfl,HP2⟩
       case measure=>simp[intOf];omega
  ·obtain rfl:k=n:=by omega
   have d2:decide ((k:Int)<(k:Int))=false:=decide_eq_false (by omega);go_wp2_with fail;go_ret;exact⟨B,c2,rfl,HP.out⟩
end ym
namespace sf
open RowKit Go.Sort Shelf mem sy re
noncomputable def pB(P:Prop):Bool:=@decide P (Classical.propDecidable P)
theorem pB_iff{P:Prop}:pB P=true↔P:=by unfold pB;exact @decide_eq_true_iff P (Classical.propDecidable P)
theorem pB_no{P:Prop}(h:¬P):pB P=false:=by
 rcases hb:pB P with _ | _
 ·rfl
 ·exact absurd (pB_iff.1 hb) h
def EqP(P:Prop)(w:World)(e:Ending)(w':World):Prop:=e=.returned (.bool (pB P))∧Below w.heap.size w w'
theorem eqp_no{P:Prop}{w w':World}(h:¬P)(b:Below w.heap.size w w'):EqP P w (.returned (.bool false)) w':=⟨by rw[pB_no h],b⟩
theorem eqp_yes{P:Prop}{w w':World}(h:P)(b:Below w.heap.size w w'):EqP P w (.returned (.bool true)) w':=⟨by rw[pB_iff.2 h],b⟩
structure HeldS:Prop where
 m:∀(a b:Mk) (w:World),(binOp .neq 101 (.agg #[.int .i64 a.at_,.string a.tag]) (.agg #[.int .i64 b.at_,.string b.tag])).run Tryz.prog w=.ok (.bool (!sameMk a b)) w
 f:∀(a b:SF) (w:World),(binOp .neq 72 (.agg #[.string a.name,.string a.kinds,.string a.ret]) (.agg #[.string b.name,.string b.kinds,.string b.ret])).run Tryz.prog w=.ok (.bool (!sameF a b)) w
 gm:∀(op:BinOp) (x y:Operand) (xs ys:Array Value) (w:World),(eqGuard op 101 x y (.agg xs) (.agg ys)).run Tryz.prog w=.ok () w
 gf:∀(op:BinOp) (x y:Operand) (xs ys:Array Value) (w:World),(eqGuard op 72 x y (.agg xs) (.agg ys)).run Tryz.prog w=.ok () w
theorem ba_ne{a b:ByteArray}(h:¬a=b):(a.data != b.data)=true:=by
 rw[bne_iff_ne];exact fun e=>h (ByteArray.ext e)
theorem ba_ne2{a b:ByteArray}(h:¬a=b):(a.toList==b.toList)=false:=by
 rw[beq_eq_false_iff_ne];exact fun e=>h (ba_toList e)
theorem sameobj_g(hm:HeldS)(o p:SO)(xA yA:Option Addr)(xc yc:Nat)(w:World)(hx:MOk w ⟨o,xA,xc⟩)(hy:MOk w ⟨p,yA,yc⟩) :
 Calls Tryz.prog 53 #[.agg #[.string o.name,.string o.kinds,.slice xA o.marks.length xc],.agg #[.string p.name,.string p.kinds,.slice yA p.marks.length yc]] w (EqP (o=p) w):=by
 obtain⟨W,hWe⟩:∃W,Hid (W=(w.alloc (.cells #[.string o.name,.string o.kinds,.slice xA o.marks.length xc] 70)).alloc (.cells #[.string p.name,.string p.kinds,.slice yA p.marks.length yc] 70)):=⟨_,hid rfl⟩;have hz:(w.alloc (.cells #[.string o.name,.string o.kinds,.slice xA o.marks.length xc] 70)).heap.size=w.heap.size+1:=Array.size_push _;have b1:Below w.heap.size w (w.alloc (.cells #[.string o.name,.string o.kinds,.slice xA o.marks.length xc] 70)):=(Below.refl _ _).alloc (Nat.le_refl _) _;have b0:Below w.heap.size w W:=by rw[hWe.out];exact b1.alloc b1.size _
 have BX:Box W w.heap.size 70 #[.string o.name,.string o.kinds,.slice xA o.marks.length xc]:=by rw[hWe.out];exact(Box.new w _ _).kept ((Fr.refl [] _).alloc _) (by simp)
 have BY:Box W (w.heap.size+1) 70 #[.string p.name,.string p.kinds,.slice yA p.marks.length yc]:=by rw[hWe.out,←hz];exact Box.new _ _ _
 have HX:Hid (∀w2,Below W.heap.size W w2→Tbl w2 xA 2 (o.marks.map mkRow)∧Tbl w2 yA 2 (p.marks.map mkRow)):=hid (fun w2 b=>⟨(hx.m.below b0).below b,(hy.m.below b0).below b⟩);have HC:Hid (∀w2,Below W.heap.size W w2→w2.cell? ⟨w.heap.size,2,none⟩=some (.slice xA o.marks.length xc)∧w2.cell? ⟨w.heap.size+1,2,none⟩=some (.slice yA p.marks.length yc)):=hid (fun w2 b=>⟨(BX.kept (Fr.of_below b []) (by simp)).cell 2,(BY.kept (Fr.of_below b []) (by simp)).cell 2⟩);have HE:Hid (∀w2,Below W.heap.size W w2→Below w.heap.size w w2):=hid (fun w2 b=>b0.trans (b.mono b0.size));have R0:=hid (Below.refl W.heap.size W);have x0:W.cell? ⟨w.heap.size,0,none⟩=some (.string o.name):=BX.cell 0;have x1:W.cell? ⟨w.heap.size,1,none⟩=some (.string o.kinds):=BX.cell 1;have x2:W.cell? ⟨w.heap.size,2,none⟩=some (.slice xA o.marks.length xc):=BX.cell 2;have y0:W.cell? ⟨w.heap.size+1,0,none⟩=some (.string p.name):=BY.cell 0;have y1:W.cell? ⟨w.heap.size+1,1,none⟩=some (.string p.kinds):=BY.cell 1
 have y2:W.cell? ⟨w.heap.size+1,2,none⟩=some (.slice yA p.marks.length yc):=BY.cell 2;have hml:=hx.ml;have hmp:=hy.ml;unfold maxLen at hml hmp;dsimp only at hml hmp;have HM:=hid hm;have E0:=hid (HE.out W R0.out);clear hx hy b1 b0 BX BY hm;by_cases s1:o.name=p.name;rotate_left
 ·have hP:Hid (¬o=p):=hid (fun e=>s1 (congrArg SO.name e))
  have t0:=ba_ne s1;have t0b:=ba_ne2 s1;clear HX HC HE R0 HM s1;generalize hQ:(o=p)=Q at *;clear hQ;go_enter Tryz.func53,Tryz.ntmps53;go_upto_region 1 with fail;rw[←hWe.out]
  try rw[hz]
  go_wp2_with fail;go_ret;exact eqp_no hP.out E0.out
 have t0:(o.name.data != p.name.data)=false:=by rw[s1];simp
 have t0b:(o.name.toList==p.name.toList)=true:=by rw[s1];simp
 by_cases s2:o.kinds=p.kinds;rotate_left
 ·have hP:Hid (¬o=p):=hid (fun e=>s2 (congrArg SO.kinds e))
  have t1:=ba_ne s2;have t1b:=ba_ne2 s2;clear HX HC HE R0 HM s1 s2;generalize hQ:(o=p)=Q at *;clear hQ;go_enter Tryz.func53,Tryz.ntmps53;go_upto_region 1 with fail;rw[←hWe.out]
  try rw[hz]
  go_wp2_with fail;go_ret;exact eqp_no hP.out E0.out
 have t1:(o.kinds.data != p.kinds.data)=false:=by rw[s2];simp
 have t1b:(o.kinds.toList==p.kinds.toList)=true:=by rw[s2];simp
 by_cases s3:o.marks.length=p.marks.length;rotate_left
 ·have hP:Hid (¬o=p):=hid (fun e=>s3 (congrArg (fun z:SO=>z.marks.length) e))
  have t2:((o.marks.length:Int) != (p.marks.length:Int))=true:=by rw[bne_iff_ne];omega
  clear HX HC HE R0 HM s1 s2 s3;generalize hQ:(o=p)=Q at *;clear hQ;generalize o.marks.length=n at *;generalize p.marks.length=n2 at *;go_enter Tryz.func53,Tryz.ntmps53;go_upto_region 1 with fail;rw[←hWe.out]
  try rw[hz]
  go_wp2_with fail;go_ret;exact eqp_no hP.out E0.out
 have hYes:Hid ((∀j (h1:j<o.marks.length) (h2:j<p.marks.length),o.marks[j] = p.marks[j])→o=p):=hid (fun h=>by
  have e:o.marks=p.marks:=List.ext_getElem s3 (fun j h1 h2=>h j h1 h2);obtain⟨a,b,c⟩:=o;obtain⟨d,e',f⟩:=p;dsimp only at s1 s2 e
  rw[s1,s2,e])
 have hNo:Hid (∀j (h1:j<o.marks.length) (h2:j<p.marks.length),¬o.marks[j] = p.marks[j]→¬o=p):=hid (fun j h1 h2 h e=>h (by subst e;rfl));obtain⟨Q,hQ⟩:∃Q,Hid (Q=(o=p)):=⟨_,hid rfl⟩;rw[←hQ.out]at hYes hNo ⊢;rw[←s3]at hWe y2 HC ⊢;rw[s1]at x0 hWe hz t0 t0b;rw[s2]at x1 hWe hz t1 t1b;rw[s1,s2];clear hQ E0 s1 s2;obtain⟨n,hN⟩:∃n,Hid (n=o.marks.length):=⟨_,hid rfl⟩;rw[←hN.out]at hWe hz x2 y2 HC hml ⊢;replace s3:=hid s3;have t2:(((n:Nat):Int) != (n:Int))=false:=by simp
 go_enter Tryz.func53,Tryz.ntmps53;go_upto_region 1 with fail;rw[←hWe.out]
 try rw[hz]
 clear hz hWe;generalize hbx:w.heap.size=bx at *;replace hbx:=hid hbx;go_wp2_with fail;clear x0 x1 x2 y0 y1 y2 t0 t1 t2 t0b t1b;go_loopw [5] (fun i wr=>∃k:Nat,k≤n∧i=.int .i64 k∧Hid (∀j (h1:j<o.marks.length) (h2:j<p.marks.length),j<k→o.marks[j] = p.marks[j])∧Hid (Below W.heap.size W wr)) (fun i _=>n-(intOf i).toNat)
 case atStart=>exact⟨0,by omega,rfl,hid (fun j _ _ h=>by omega),R0⟩
 case round=>
  obtain⟨k,hk,rfl,hG,hb⟩:=hrel
  rename World=>wr
  obtain⟨x2,y2⟩:=HC.out wr hb.out;by_cases hkl:k<n
  ·have e1:decide ((k:Int)<(n:Int))=true:=decide_eq_true (by omega)
   have hkm:k<o.marks.length:=by rw[←hN.out];exact hkl
   have hkp:k<p.marks.length:=by rw[←s3.out];exact hkm
   obtain⟨t1,t2⟩:=HX.out wr hb.out;obtain⟨g1,o1,rfl,hg1,c0,c1⟩:=tbl_mk t1 hkm;obtain⟨g2,o2,rfl,hg2,d0,d1⟩:=tbl_mk t2 hkp
   have hY:Hid (o.marks[k] = p.marks[k]→∀j (h1:j<o.marks.length) (h2:j<p.marks.length),j<k+1→o.marks[j] = p.marks[j]):=hid (fun h j h1 h2 hj=>by
    by_cases e:j=k
    ·subst e;exact h
    ·exact hG.out j h1 h2 (by omega))
   have hZ:=hid (hNo.out k hkm hkp);generalize o.marks[k] = a at *;generalize p.marks[k] = b at *;have EQ:=HM.out.m a b;have GU:=HM.out.gm;clear t1 t2 hg1 hg2 hkm hkp hG;rcases hs:sameMk a b with _ | _
   ·rw[hs]at EQ
    have hP:Hid (¬Q):=hid (hZ.out (fun e=>by rw[sameMk_iff.2 e]at hs;cases hs));clear hY hZ;go_wp2_with fail;go_quiet (fail);have hb2:=hid (HE.out _ (re.below_drewN hb.out hb.out.size nq));go_wp2_with fail;go_ret;exact eqp_no hP.out (by rw[hbx.out];exact hb2.out)
   ·rw[hs]at EQ
    have hG2:=hid (hY.out (sameMk_iff.1 hs));clear hY hZ;go_wp2_with fail;go_quiet (fail);have hb2:=hid (re.below_drewN hb.out hb.out.size nq);go_wp2_with fail;go_roundw
    case rel=>exact⟨k+1,by omega,by go_num,hG2,hb2⟩
    case measure=>simp[intOf];omega
  ·obtain rfl:k=n:=by omega
   have e1:decide ((k:Int)<(k:Int))=false:=decide_eq_false (by omega);have E:=hid (HE.out wr hb.out);have hP:Hid Q:=hid (hYes.out (fun j h1 h2=>hG.out j h1 h2 (by rw[hN.out];exact h1)));go_wp2_with fail;go_ret;exact eqp_yes hP.out (by rw[hbx.out];exact E.out)
end sf
namespace ym
open RowKit Go.Sort Shelf mem sy rng
open re (tx SU MU SumM)
open inn (rsS intoS rs_len)
theorem results_ctt{P:Program}{fn:Func}{p q r:Tmp}{tp:TypeId}(h:fn.results=#[.cell p tp,.tmp q,.tmp r])(tmps:Array Value)(w:World)(gp:Nat)(t:TypeId)(cs:Array Value)(fr:Nat×Nat)(d:TypeDesc)(v u:Value)
 (hp:tmps.getD p undef=.pointer (some ⟨gp,0,none⟩)) (hq:tmps.getD q undef=v) (hr:tmps.getD r undef=u) (hg:w.heap[gp]? = some (.cells cs t fr))
 (hu:P.underlying tp=some d) (hd:(match d with | .struct _ | .array _ _=>true | _=>false)=true) (hi:(P.info? tp).map (·.size)=some cs.size) :
 (results fn tmps).run P w=.ok (.tuple #[.agg cs,v,u]) w:=by
 subst hq;subst hr;have hp':tmps[p]?.getD undef=.pointer (some ⟨gp,0,none⟩):=by simpa using hp
 simp[results,h,hp',asAddr,run_loadVar_row w gp t tp cs fr d hg hu hd hi]
theorem into_len(m:List (List UInt8))(x:List UInt8):(intoS m x).length≤m.length+1:=by
 have h:intoS m x=if m[inn.upS m x]? = some x then m else m.take (inn.upS m x)++[x]++m.drop (inn.upS m x):=rfl
 rw[h];split
 ·omega
 ·simp only[List.length_append,List.length_take,List.length_drop,List.length_singleton];omega
def usT(l:List MU)(n:List UInt8)(k:Nat):List Use:=(l.take k).filterMap (fun u=>inU u.su n)
theorem usT_succ(l:List MU)(n:List UInt8){k:Nat}(h:k<l.length):usT l n (k+1)=usT l n k++(inU l[k].su n).toList:=by
 unfold usT;rw[List.take_succ_eq_append_getElem h,List.filterMap_append];congr 1
theorem usT_all(l:List MU)(n:List UInt8):usT l n l.length=(l.map MU.su).filterMap (fun u=>inU u n):=by
 unfold usT;rw[List.take_length,List.filterMap_map];rfl
theorem inU_inM(u:MU)(n:ByteArray):inU u.su (tx n)=(inM u.s (tx n)).map (fun p=>mkUse u.su n p.1.o p.2):=by
 unfold inU inM MU.su MS.sys;dsimp only;rw[List.find?_map];have e1:u.s.os.find? ((fun o:SO=>decide (tx o.name=tx n)) ∘ fun x:MO=>x.o)=u.s.os.find? (fun x=>decide (tx x.o.name=tx n)):=rfl;rw[e1];cases h1:u.s.os.find? (fun x=>decide (tx x.o.name=tx n))with
 | some o=>
  have h2:=List.find?_some h1;have h3:o.o.name=n:=tx_eq (of_decide_eq_true h2);simp only[Option.map_some];rw[h3]
 | none=>
  simp only[Option.map_none];cases h2:u.s.fs.find? (fun f=>decide (tx f.name=tx n))with
  | some f=>
   have h3:=List.find?_some h2;have h4:f.name=n:=tx_eq (of_decide_eq_true h3);simp only[Option.map_some];rw[h4]
  | none=>rfl
structure OSt(U:List Use)(gv:ByteArray)(wl:List (List UInt8))(ng ns:Nat)(ow sm:Bool)(o:SO)(f:SF):Prop where
 gv:gv=giverFrom ⟨#[]⟩ U
 wl:wl=rsS ((wantL U).map tx)
 ng:ng=gCount U
 ns:ns=U.length
 ow:ow=U.any Use.alone
 sm:sm=sameFrom none U
 la:∀a,U.getLast? = some a→a.o=o∧a.f=f
theorem OSt.new:OSt [] ⟨#[]⟩ [] 0 0 false true oZ fZ:=⟨rfl,rfl,rfl,rfl,rfl,rfl,fun a h=>by cases h⟩
noncomputable def likeB(ns:Nat)(x:Use)(o:SO)(f:SF):Bool:=decide (ns=0)||(sf.pB (x.o=o)&&sameF x.f f)
theorem OSt.step{U:List Use}{gv:ByteArray}{wl:List (List UInt8)}{ng ns:Nat}{ow sm:Bool}{o:SO}{f:SF}(h:OSt U gv wl ng ns ow sm o f)(x:Use) :
 OSt (U++[x]) (if x.g then x.m else gv) (if x.w then intoS wl (tx x.m) else wl) (ng+if x.g then 1 else 0) (ns+1) (ow||(!x.g&&!x.w)) (sm&&likeB ns x o f) x.o x.f:=by
 refine⟨?_,?_,?_,?_,?_,?_,?_⟩
 ·rw[giver_snoc,h.gv]
 ·rw[wantL_snoc,h.wl]
  cases hw:x.w
  ·simp
  ·simp only[if_true]
   rw[List.map_append];exact(rs_app _ _).symm
 ·rw[gCount_snoc,h.ng]
 ·rw[List.length_append,h.ns];rfl
 ·rw[alone_snoc,h.ow];rfl
 ·rw[same_snoc,h.sm]
  congr 1;unfold likeB;cases hl:U.getLast? with
  | none=>
   have:U=[]:=by simpa using hl
   rw[h.ns,this];rfl
  | some a=>
   obtain⟨e1,e2⟩:=h.la a hl;have hne:U≠[]:=fun e=>by rw[e]at hl;cases hl
   have h0:decide (ns=0)=false:=by
    rw[decide_eq_false_iff_not,h.ns];intro e;exact hne (List.length_eq_zero_iff.1 e)
   rw[h0,Bool.false_or];show _=like x a;rw[←e1,←e2];rcases hb:like x a with _ | _
   ·rw[Bool.and_eq_false_iff]
    by_cases q:x.o=a.o
    ·right
     rcases hs:sameF x.f a.f with _ | _
     ·rfl
     ·rw[(like_iff x a).2 ⟨q,sameF_iff.1 hs⟩]at hb;cases hb
    ·left;exact sf.pB_no q
   ·obtain⟨q1,q2⟩:=(like_iff x a).1 hb
    rw[sf.pB_iff.2 q1,sameF_iff.2 q2];rfl
 ·intro a ha
  simp at ha;subst ha;exact⟨rfl,rfl⟩
theorem OSt.code{U:List Use}{gv:ByteArray}{wl:List (List UInt8)}{ng ns:Nat}{ow sm:Bool}{o:SO}{f:SF}(h:OSt U gv wl ng ns ow sm o f) :
 symE 12 U=if(decide (1<ng)||(decide (1<ns)&&ow))=true then 8 else if sm=false then 12 else if(decide (0<wl.length)&&decide (ng=0))=true then 7 else 0:=by
 unfold symE;rw[h.ng,h.ns,h.ow,h.sm];have e1:(2≤gCount U∨(1<U.length∧U.any Use.alone=true))↔(decide (1<gCount U)||(decide (1<U.length)&&U.any Use.alone))=true:=by
  rw[Bool.or_eq_true,Bool.and_eq_true,decide_eq_true_eq,decide_eq_true_eq];rfl
 have e2:(gCount U=0∧wantL U≠[])↔(decide (0<wl.length)&&decide (gCount U=0))=true:=by
  rw[Bool.and_eq_true,decide_eq_true_eq,decide_eq_true_eq,h.wl];have:0<(rsS ((wantL U).map tx)).length↔wantL U≠[]:=by
   constructor
   ·intro hp e
    rw[e]at hp;exact absurd hp (by decide)
   ·intro hp
    obtain⟨a,ha⟩:=List.exists_mem_of_ne_nil _ hp;exact List.length_pos_of_mem ((rsS_mem _ (tx a)).2 (List.mem_map.2 ⟨a,ha,rfl⟩))
  rw[this];exact And.comm
 by_cases c1:(2≤gCount U∨(1<U.length∧U.any Use.alone=true))
 ·rw[if_pos c1,if_pos (e1.1 c1)]
 ·rw[if_neg c1,if_neg (fun q=>c1 (e1.2 q))]
  by_cases c2:sameFrom none U=false
  ·rw[if_pos c2,if_pos c2]
  ·rw[if_neg c2,if_neg c2]
   by_cases c3:(gCount U=0∧wantL U≠[])
   ·rw[if_pos c3,if_pos (e2.1 c3)]
   ·rw[if_neg c3,if_neg (fun q=>c3 (e2.2 q))]
structure OM(w:World)(n gv:ByteArray)(wl:List (List UInt8))(B:Option Addr)(c:Nat)(o:MO)(f:SF)(W:World):Prop where
 b0:Box W w.heap.size 34 #[.string ⟨#[]⟩,.string ⟨#[]⟩,.slice none 0 0]
 b1:Box W (w.heap.size+1) 34 #[.string n,.string gv,.slice B wl.length c]
 b2:Box W (w.heap.size+2) 70 #[.string o.o.name,.string o.o.kinds,.slice o.mA o.o.marks.length o.mc]
 b3:Box W (w.heap.size+3) 72 #[.string f.name,.string f.kinds,.string f.ret]
 sg:Seg W 9 B c (wl.map encStr)
 on:Below w.heap.size w W
theorem om_new(w:World)(n:ByteArray):OM w n ⟨#[]⟩ [] none 0 ⟨oZ,none,0⟩ fZ ((((w.alloc (.cells #[.string ⟨#[]⟩,.string ⟨#[]⟩,.slice none 0 0] 34)).alloc (.cells #[.string n,.string ⟨#[]⟩,.slice none 0 0] 34)).alloc (.cells #[.string ⟨#[]⟩,.string ⟨#[]⟩,.slice none 0 0] 70)).alloc (.cells #[.string ⟨#[]⟩,.string ⟨#[]⟩,.string ⟨#[]⟩] 72)):=by
 refine⟨(((Box.new w _ _).kept ((Fr.refl [] _).alloc _) (by simp)).kept ((Fr.refl [] _).alloc _) (by simp)).kept ((Fr.refl [] _).alloc _) (by simp),?_,?_,?_,Seg.nil _ _,(((((Fr.refl [] w).alloc _).alloc _).alloc _).alloc _).all⟩
 ·have:=Box.new (w.alloc (.cells #[.string ⟨#[]⟩,.string ⟨#[]⟩,.slice none 0 0] 34)) 34 #[.string n,.string ⟨#[]⟩,.slice none 0 0]
  rw[World.size_alloc]at this;exact(this.kept ((Fr.refl [] _).alloc _) (by simp)).kept ((Fr.refl [] _).alloc _) (by simp)
 ·have:=Box.new ((w.alloc (.cells #[.string ⟨#[]⟩,.string ⟨#[]⟩,.slice none 0 0] 34)).alloc (.cells #[.string n,.string ⟨#[]⟩,.slice none 0 0] 34)) 70 #[.string ⟨#[]⟩,.string ⟨#[]⟩,.slice none 0 0]
  rw[World.size_alloc,World.size_alloc]at this;exact this.kept ((Fr.refl [] _).alloc _) (by simp)
 ·have:=Box.new (((w.alloc (.cells #[.string ⟨#[]⟩,.string ⟨#[]⟩,.slice none 0 0] 34)).alloc (.cells #[.string n,.string ⟨#[]⟩,.slice none 0 0] 34)).alloc (.cells #[.string ⟨#[]⟩,.string ⟨#[]⟩,.slice none 0 0] 70)) 72 #[.string ⟨#[]⟩,.string ⟨#[]⟩,.string ⟨#[]⟩]
  rw[World.size_alloc,World.size_alloc,World.size_alloc]at this;exact this
section
variable {w W W':World} {n gv:ByteArray} {wl:List (List UInt8)} {B:Option Addr} {c:Nat} {o:MO} {f:SF}
theorem OM.kept{F:List Nat}(h:OM w n gv wl B c o f W)(k:Fr F W W')(h0:w.heap.size∉F)(h1:w.heap.size+1∉F)(h2:w.heap.size+2∉F)(h3:w.heap.size+3∉F)(hB:∀g∈blk B,g∉F)(hw:∀g∈F,w.heap.size≤g):OM w n gv wl B c o f W':=
 ⟨h.b0.kept k h0,h.b1.kept k h1,h.b2.kept k h2,h.b3.kept k h3,h.sg.kept k hB,h.on.trans (k.below hw h.on.size)⟩
theorem OM.below(h:OM w n gv wl B c o f W)(b:Below W.heap.size W W'):OM w n gv wl B c o f W':=h.kept (Fr.of_below b []) (by simp) (by simp) (by simp) (by simp) (by simp) (by simp)
theorem OM.setO(h:OM w n gv wl B c o f W)(x:MO):OM w n gv wl B c x f (((W.setCell ⟨w.heap.size+2,0,none⟩ (.string x.o.name)).setCell ⟨w.heap.size+2,1,none⟩ (.string x.o.kinds)).setCell ⟨w.heap.size+2,2,none⟩ (.slice x.mA x.o.marks.length x.mc)):=by
 obtain⟨p1,p2⟩:=three_put h.b2 (.string x.o.name) (.string x.o.kinds) (.slice x.mA x.o.marks.length x.mc);have hB:=h.sg.ne_box h.b2 (by decide);exact⟨h.b0.kept p2 (by simp),h.b1.kept p2 (by simp),p1,h.b3.kept p2 (by simp),h.sg.kept p2 (fun g hg e=>hB (by rw[List.mem_singleton]at e;exact e ▸ hg)),h.on.trans (p2.below (by simp) h.on.size)⟩
theorem OM.setF(h:OM w n gv wl B c o f W)(x:SF):OM w n gv wl B c o x (((W.setCell ⟨w.heap.size+3,0,none⟩ (.string x.name)).setCell ⟨w.heap.size+3,1,none⟩ (.string x.kinds)).setCell ⟨w.heap.size+3,2,none⟩ (.string x.ret)):=by
 obtain⟨p1,p2⟩:=three_put h.b3 (.string x.name) (.string x.kinds) (.string x.ret);have hB:=h.sg.ne_box h.b3 (by decide);exact⟨h.b0.kept p2 (by simp),h.b1.kept p2 (by simp),h.b2.kept p2 (by simp),p1,h.sg.kept p2 (fun g hg e=>hB (by rw[List.mem_singleton]at e;exact e ▸ hg)),h.on.trans (p2.below (by simp) h.on.size)⟩
theorem OM.setG(h:OM w n gv wl B c o f W)(g:ByteArray):OM w n g wl B c o f (W.setCell ⟨w.heap.size+1,1,none⟩ (.string g)):=by
 have p2:Fr [w.heap.size+1] W (W.setCell ⟨w.heap.size+1,1,none⟩ (.string g)):=(Fr.refl _ W).setCell (Or.inl (by simp)) _;have hB:=h.sg.ne_box h.b1 (by decide);refine⟨h.b0.kept p2 (by simp),?_,h.b2.kept p2 (by simp),h.b3.kept p2 (by simp),h.sg.kept p2 (fun g hg e=>hB (by rw[List.mem_singleton]at e;exact e ▸ hg)),h.on.trans (p2.below (by simp) h.on.size)⟩;have:=h.b1.put 1 (.string g)
 simpa using this
theorem OM.setW(h:OM w n gv wl B c o f W){wl2:List (List UInt8)}{B2:Option Addr}{c2:Nat}(hs:Seg W 9 B2 c2 (wl2.map encStr)):OM w n gv wl2 B2 c2 o f (W.setCell ⟨w.heap.size+1,2,none⟩ (.slice B2 wl2.length c2)):=by
 have p2:Fr [w.heap.size+1] W (W.setCell ⟨w.heap.size+1,2,none⟩ (.slice B2 wl2.length c2)):=(Fr.refl _ W).setCell (Or.inl (by simp)) _;have hB:=hs.ne_box h.b1 (by decide);refine⟨h.b0.kept p2 (by simp),?_,h.b2.kept p2 (by simp),h.b3.kept p2 (by simp),hs.kept p2 (fun g hg e=>hB (by rw[List.mem_singleton]at e;exact e ▸ hg)),h.on.trans (p2.below (by simp) h.on.size)⟩;have:=h.b1.put 2 (.slice B2 wl2.length c2)
 simpa using this
end
def OneP(w:World)(n:ByteArray)(U:List Use)(e:Ending)(w':World):Prop:=
 Below w.heap.size w w'∧(symE 12 U=0→∃B c,e=.returned (.tuple #[.agg #[.string n,.string (giverFrom ⟨#[]⟩ U),.slice B (rsS ((wantL U).map tx)).length c],.bool (decide (gCount U=1)),.int .i64 0])∧Seg w' 9 B c ((rsS ((wantL U).map tx)).map encStr)) ∧
  (symE 12 U≠0→e=.returned (.tuple #[.agg #[.string ⟨#[]⟩,.string ⟨#[]⟩,.slice none 0 0],.bool false,.int .i64 (symE 12 U)]))
end ym
namespace sf
open RowKit mem sy
open re (tx SumM MU SU)
def thereB(s:MS)(x:ByteArray):Bool:=(s.os.any fun o=>o.o.name.toList==x.toList)||(s.fs.any fun f=>f.name.toList==x.toList)
theorem there_in(u:MU)(x:ByteArray):thereB u.s x=inD u.su x:=by
 unfold thereB inD namesL MU.su MS.sys;rw[Bool.eq_iff_iff];simp only[Bool.or_eq_true,List.any_eq_true,beq_iff_eq,decide_eq_true_eq,List.mem_append,List.mem_map,Lib.toList_data];constructor
 ·rintro(⟨o,ho,h⟩ | ⟨f,hf,h⟩)
  ·exact Or.inl ⟨o.o,⟨o,ho,rfl⟩,h⟩
  ·exact Or.inr ⟨f,hf,h⟩
 ·rintro(⟨o,⟨p,hp,rfl⟩,he⟩ | ⟨f,hf,he⟩)
  ·exact Or.inl ⟨p,hp,he⟩
  ·exact Or.inr ⟨f,hf,he⟩
theorem any_take{α:Type}(f:α→Bool)(l:List α){k:Nat}(hk:k<l.length):(l.take (k+1)).any f=((l.take k).any f||f l[k]):=by
 rw[List.take_succ_eq_append_getElem hk,List.any_append];simp
theorem there_any(w:World)(s:MS)(hs:SysM w s)(x:ByteArray):Calls Tryz.prog 49 #[s.val,.string x] w (BPost (thereB s x) w):=by
 have hol:=hs.ol;have hfl:=hs.fl;obtain⟨oA,oc,os,fA,fc,fs,cA,cc,cs⟩:=s;dsimp only at hol hfl;unfold MS.val thereB;dsimp only;obtain⟨V,hV⟩:∃V,Hid (V=((os.any fun o=>o.o.name.toList==x.toList)||(fs.any fun f=>f.name.toList==x.toList))):=⟨_,hid rfl⟩;rw[←hV.out];obtain⟨no,hno⟩:∃no,Hid (no=os.length):=⟨_,hid rfl⟩;obtain⟨nf,hnf⟩:∃nf,Hid (nf=fs.length):=⟨_,hid rfl⟩;rw[←hno.out]at hol ⊢;rw[←hnf.out]at hfl ⊢;generalize cs.length=nc at *;unfold maxLen at hol hfl;obtain⟨W,hW⟩:∃W,Hid (W=w.alloc (.cells #[.slice oA no oc,.slice fA nf fc,.slice cA nc cc] 41)):=⟨_,hid rfl⟩;have hB:=Box.new w 41 #[.slice oA no oc,.slice fA nf fc,.slice cA nc cc];have hb:Below w.heap.size w W:=by rw[hW.out];exact(Below.refl _ _).alloc (Nat.le_refl _) _
 rw[←hW.out]at hB;have y0:W.cell? ⟨w.heap.size,0,none⟩=some (.slice oA no oc):=hB.cell 0;have y1:W.cell? ⟨w.heap.size,1,none⟩=some (.slice fA nf fc):=hB.cell 1;have HO:=hid (hs.o.below hb);have HF:=hid (hs.f.below hb);have HB:=hid hb;clear hs hb hB;unfold BPost;go_enter Tryz.func49,Tryz.ntmps49;go_upto_region 2 with fail;rw[←hW.out];clear hW;go_loopw [5] (fun i wr=>∃k:Nat,k≤no∧i=.int .i64 k∧wr=W∧Hid (((os.take k).any fun o=>o.o.name.toList==x.toList)=false)) (fun i _=>no-(intOf i).toNat)
 case atStart=>exact⟨0,by omega,rfl,rfl,hid rfl⟩
 case round=>
  obtain⟨k,hk,rfl,rfl,hG⟩:=hrel;by_cases hkl:k<no
  ·have e1:decide ((k:Int)<(no:Int))=true:=decide_eq_true (by omega)
   have hkx:k<os.length:=by rw[←hno.out];exact hkl
   obtain⟨g,off,rfl,hg,c0,c1,c2⟩:=tbl_obj HO.out hkx;have hnx:=hid (any_take (fun o:MO=>o.o.name.toList==x.toList) os hkx);rw[hG.out,Bool.false_or]at hnx
   have hY:Hid ((os[k].o.name.toList==x.toList)=true→V=true):=hid (fun h=>by
    rw[hV.out,Bool.or_eq_true]
    exact Or.inl (List.any_eq_true.2 ⟨os[k],List.getElem_mem hkx,h⟩))
   generalize os[k].o.name=y at *;clear c1 c2 hg;rcases hq:(y.toList==x.toList)with _ | _
   ·rw[hq]at hnx
    clear hY;go_wp2_with fail;go_roundw
    case rel=>exact⟨k+1,by omega,by go_num,(by first | trivial | rfl),hnx⟩
    case measure=>simp[intOf];omega
   ·have hv:=hid (hY.out hq)
    go_wp2_with fail;go_ret;exact⟨by rw[hv.out];rfl,HB.out⟩
  ·obtain rfl:k=no:=by omega
   have e1:decide ((k:Int)<(k:Int))=false:=decide_eq_false (by omega)
   have hO:Hid ((os.any fun o=>o.o.name.toList==x.toList)=false):=hid (by
    have:=hG.out
    rwa[List.take_of_length_le (by rw[hno.out];exact Nat.le_refl _)]at this)
   clear hG;go_wp2_with fail
   rename World=>W
   go_loopw [6] (fun i wr=>∃j:Nat,j≤nf∧i=.int .i64 j∧wr=W∧Hid (((fs.take j).any fun f=>f.name.toList==x.toList)=false)) (fun i _=>nf-(intOf i).toNat)
   case atStart=>exact⟨0,by omega,rfl,rfl,hid rfl⟩
   case round=>
    obtain⟨j,hj,rfl,rfl,hG⟩:=hrel;by_cases hjl:j<nf
    ·have e1:decide ((j:Int)<(nf:Int))=true:=decide_eq_true (by omega)
     have hjx:j<fs.length:=by rw[←hnf.out];exact hjl
     obtain⟨g,off,rfl,hg,c0,c1,c2⟩:=tbl_fn HF.out hjx;have hnx:=hid (any_take (fun f:SF=>f.name.toList==x.toList) fs hjx);rw[hG.out,Bool.false_or]at hnx
     have hY:Hid ((fs[j].name.toList==x.toList)=true→V=true):=hid (fun h=>by
      rw[hV.out,Bool.or_eq_true]
      exact Or.inr (List.any_eq_true.2 ⟨fs[j],List.getElem_mem hjx,h⟩))
     generalize fs[j].name=y at *;clear c1 c2 hg;rcases hq:(y.toList==x.toList)with _ | _
     ·rw[hq]at hnx
      clear hY;go_wp2_with fail;go_roundw
      case rel=>exact⟨j+1,by omega,by go_num,(by first | trivial | rfl),hnx⟩
      case measure=>simp[intOf];omega
     ·have hv:=hid (hY.out hq)
      go_wp2_with fail;go_ret;exact⟨by rw[hv.out];rfl,HB.out⟩
    ·obtain rfl:j=nf:=by omega
     have e1:decide ((j:Int)<(j:Int))=false:=decide_eq_false (by omega)
     have hF:Hid ((fs.any fun f=>f.name.toList==x.toList)=false):=hid (by
      have:=hG.out
      rwa[List.take_of_length_le (by rw[hnf.out];exact Nat.le_refl _)]at this)
     have hv:Hid (V=false):=hid (by rw[hV.out,hO.out,hF.out];rfl);go_wp2_with fail;go_ret;exact⟨by rw[hv.out];rfl,HB.out⟩
end sf
namespace ym
open RowKit ChangeShapes WideShapes mem sy
open re (MU SumM SumB RB cSu fSu str_elB txts_el sys_el)
open nm (Tab)
theorem reach_RB:reachBytes=RB:=of_decide_eq_true (by kernel_rfl)
section
variable {H:Type} {enc:TypeId×Value→H} {W:World} {B:Nat}
theorem su_el(n:Nat)(cs:List Value)(y:DataW H×List MemPlace)(h:DataW.trod enc Tryz.prog W 0 (fun _=>true) true n 43 cs=some y)(hl:cs.length=7)(hw:∀m∈y.1.weights Tryz.prog 43,m≤B) :
 ∃u:MU,cs=rowS u∧SumM W u∧SumB B u:=by
 match cs,hl with
 | [c0,c1,c2,c3,c4,c5,c6],_=>
  obtain⟨ys,m,_,hx,_,hl2,hf⟩:=DataW.trod_struct re.uSu h;rw[hx]at hw;obtain⟨y0,h0,w0⟩:=fld fSu hl2 hf re.uSu hw 0 9 0 rfl;obtain⟨y1,h1,w1⟩:=fld fSu hl2 hf re.uSu hw 1 31 1 rfl;obtain⟨y2,h2,w2⟩:=fld fSu hl2 hf re.uSu hw 2 31 2 rfl;obtain⟨y3,h3,w3⟩:=fld fSu hl2 hf re.uSu hw 3 31 3 rfl;obtain⟨y4,h4,w4⟩:=fld fSu hl2 hf re.uSu hw 4 41 4 rfl;rw[cStr]at h0;rw[cSs]at h1 h2 h3;rw[sy.cSy]at h4;obtain⟨a0,rfl,s0,b0⟩:=str_elB (u:=c0) h0 w0;obtain⟨gA,gc,gl,rfl,gr,g1,_,g2,g3⟩:=txts_el (c:=c1) h1 w1;obtain⟨wA,wc,wl,rfl,wr,ww1,_,ww2,ww3⟩:=txts_el (c:=c2) h2 w2;obtain⟨kA,kc,kl,rfl,kr,k1,_,k2,k3⟩:=txts_el (c:=c3) h3 w3;obtain⟨s,hs,hm,so,sf,sc⟩:=sys_el (c0:=c4) (c1:=c5) (c2:=c6) h4 w4;simp only[List.cons.injEq,and_true]at hs;obtain⟨rfl,rfl,rfl⟩:=hs;exact⟨⟨a0,gA,gc,gl,wA,wc,wl,kA,kc,kl,s⟩,rfl,⟨gr,wr,kr,hm⟩,⟨b0,⟨g1,fun s hs=>(g2 s hs).2,g3⟩,⟨ww1,fun s hs=>(ww2 s hs).2,ww3⟩,⟨k1,fun s hs=>(k2 s hs).2,k3⟩,so,sf,sc⟩⟩
theorem sus_of{base:Nat}(v:Value)(d:DataW H)(p:List MemPlace)(k:DataW.Trod enc Tryz.prog W 0 (fun _=>true) true 22 v d p)(o:Value.okWide Tryz.prog W .any base 22 v)(hw:∀m∈d.weights Tryz.prog 22,m≤reachBytes) :
 ∃(A:Option Addr) (cap:Nat) (l:List MU),v=.slice A l.length cap∧SusB W A l∧l.length≤maxLen:=by
 obtain⟨a0,len,cap,rfl⟩:=okWide_slice Tryz.underlying22 o;obtain⟨fuel,hk⟩:=k;have i0:Inhabited MU:=⟨⟨⟨#[]⟩,none,0,[],none,0,[],none,0,[],⟨none,0,[],none,0,[],none,0,[]⟩⟩⟩;obtain⟨A,c,l,e,ht,hq,hle,hm,_⟩:=wide_of (u:=.slice a0 len cap) (x:=(d,p)) (B:=reachBytes) rowS (fun u=>SumM W u∧SumB reachBytes u) Tryz.underlying22 cSu (by decide) (fun _=>rfl) (fun n cs y=>su_el n cs y) hk hw;exact⟨A,c,l,e,⟨ht,fun u hu=>(hq u hu).1,fun u hu=>by rw[←reach_RB];exact(hq u hu).2⟩,Nat.le_trans hle hm⟩
end
end ym
namespace sf
open RowKit Go.Sort Shelf mem sy re
theorem neq_sfg(a b:SF)(w:World):(binOp .neq 72 (.agg #[.string a.name,.string a.kinds,.string a.ret]) (.agg #[.string b.name,.string b.kinds,.string b.ret])).run Tryz.prog w=.ok (.bool (!sameF a b)) w:=by
 rw[run_neq_struct,run_equalIn_struct _ _ _ _ _ under_sfr stood_sfr];have h:=fields_sfr;generalize (Tryz.prog.fieldsOf 72).toList=fs at *;rcases fs with _ | ⟨f0,_ | ⟨f1,_ | ⟨f2,_ | ⟨f3,fs⟩⟩⟩⟩
 all_goals first | (simp at h;done) | skip
 simp only[List.map_cons,List.map_nil,List.cons.injEq,Prod.mk.injEq,and_true]at h;obtain⟨⟨a0,b0,c0⟩,⟨a1,b1,c1⟩,⟨a2,b2,c2⟩⟩:=h;have p0:∀d:SF,(part f0.type #[.string d.name,.string d.kinds,.string d.ret] f0.offset).run Tryz.prog w=.ok (.string d.name) w:=fun d=>by rw[b0,c0];kernel_rfl
 have p1:∀d:SF,(part f1.type #[.string d.name,.string d.kinds,.string d.ret] f1.offset).run Tryz.prog w=.ok (.string d.kinds) w:=fun d=>by rw[b1,c1];kernel_rfl
 have p2:∀d:SF,(part f2.type #[.string d.name,.string d.kinds,.string d.ret] f2.offset).run Tryz.prog w=.ok (.string d.ret) w:=fun d=>by rw[b2,c2];kernel_rfl
 have i0:(Op.equalIn 9999 f0.type (.string a.name) (.string b.name)).run Tryz.prog w=.ok (a.name.toList==b.name.toList) w:=by rw[b0];exact run_equalIn_string w 9998 _ _ _ Tryz.underlying9
 have i1:(Op.equalIn 9999 f1.type (.string a.kinds) (.string b.kinds)).run Tryz.prog w=.ok (a.kinds.toList==b.kinds.toList) w:=by rw[b1];exact run_equalIn_string w 9998 _ _ _ Tryz.underlying9
 have i2:(Op.equalIn 9999 f2.type (.string a.ret) (.string b.ret)).run Tryz.prog w=.ok (a.ret.toList==b.ret.toList) w:=by rw[b2];exact run_equalIn_string w 9998 _ _ _ Tryz.underlying9
 rw[nm.eq_step 9999 _ _ f0 _ _ _ _ w a0 (p0 a) (p0 b) i0,nm.eq_step 9999 _ _ f1 _ _ _ _ w a1 (p1 a) (p1 b) i1,nm.eq_step 9999 _ _ f2 _ _ _ _ w a2 (p2 a) (p2 b) i2];unfold sameF;cases(a.name.toList==b.name.toList) <;> cases(a.kinds.toList==b.kinds.toList) <;> cases(a.ret.toList==b.ret.toList) <;> simp[Op.eqFields,Sem.run_pure,Result.andThen]
theorem heldS:HeldS:=⟨fun a b w=>neq_mk a b w,neq_sfg,fun op x y xs ys w=>run_eqGuard_agg w op _ x y xs ys guard_mkr,fun op x y xs ys w=>run_eqGuard_agg w op _ x y xs ys guard_sfr⟩
end sf
end Go.Proofs.YtlkboeajkgbnaaaGreatDoor
