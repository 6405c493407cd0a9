import Derived.Test.YtlkboeajkgbnaaaGreatDoorC14
set_option linter.all false
set_option maxHeartbeats 4000000
namespace Go.Proofs.YtlkboeajkgbnaaaGreatDoor
open Lib(hid)
set_option maxRecDepth 100000
namespace nm
open RowKit Go.Sort
def PartsPost(s:ByteArray)(w:World)(e:Ending)(w':World):Prop:=e=.returned (.tuple #[.string (fn0 s),.int .i64 (rCopy s),.string (rMark s),.string (rTail s),.int .i64 (rCell s)])∧∃n,w'=w.drewN n
theorem rsplit_of(s:ByteArray)(w:World)(hs:s.size≤maxLen):Calls Tryz.prog 132 #[.string s] w fun e w'=>e=.returned (.tuple #[.string (fn0 s),.string (rest1 s)])∧∃n,w'=w.drewN n:=dg.rsplit_any s w hs
theorem rsplit_tail(s:ByteArray)(w:World)(hs:s.size≤maxLen):Calls Tryz.prog 132 #[.string (s.extract 1 s.size)] w fun e w'=>e=.returned (.tuple #[.string (fn0 (tailS s)),.string (rest1 (tailS s))])∧∃n,w'=w.drewN n:=dg.rsplit_any (tailS s) w (Nat.le_trans (tailS_le s) hs)
theorem rread_of(s:ByteArray)(w:World)(hs:s.size≤maxLen):Calls Tryz.prog 107 #[.string s] w fun e w'=>e=.returned (.tuple #[.int .i64 (dg.rd s).1,.int .i64 (dg.rd s).2])∧w=w':=dg.rread_any s w hs
theorem rread_tail(s:ByteArray)(w:World)(hs:s.size≤maxLen):Calls Tryz.prog 107 #[.string (s.extract 1 s.size)] w fun e w'=>e=.returned (.tuple #[.int .i64 (dg.rd (tailS s)).1,.int .i64 (dg.rd (tailS s)).2])∧w=w':=dg.rread_any (tailS s) w (Nat.le_trans (tailS_le s) hs)
theorem vals{s:ByteArray}{c:Int}{r2 m t r3:ByteArray}{l:Int}(eC:pC (rest1 s)=(c,r2))(eM:pM r2=(m,t,r3))(eL:pL r3=l):rCopy s=c∧rMark s=m∧rTail s=t∧rCell s=l:=by
 unfold rCopy rMark rTail rCell;rw[eC];dsimp only;rw[eM];exact⟨rfl,rfl,rfl,eL⟩
theorem lens(s r:ByteArray):(rest1 s).size≤s.size∧(rest1 (tailS (rest1 s))).size≤(tailS (rest1 s)).size∧(tailS (rest1 s)).size≤(rest1 s).size∧(tailS r).size≤r.size∧(rest1 (tailS r)).size≤(tailS r).size∧(fn0 (tailS (rest1 s))).size≤(tailS (rest1 s)).size:=
 ⟨rest1_le s,rest1_le _,tailS_le _,tailS_le _,rest1_le _,fn0_le _⟩
theorem mark_open(r:ByteArray)(h:0<r.size):((r.extract 0 1).toList==[40])=decide (headI r=40):=by
 rw[ByteArray.toList_eq,list_extract];have hl:=dg.size_list r;rcases hr:r.data.toList with _ | ⟨c,t⟩
 ·rw[hr]at hl;simp at hl;omega
 ·unfold headI
  rw[hr,List.headD_cons];have e:((c :: t).drop 0).take (1-0)=[c]:=rfl;rw[e,Bool.eq_iff_iff,beq_iff_eq,decide_eq_true_eq];constructor
  ·intro h1
   have:c=40:=by simpa using h1
   rw[this];rfl
  ·intro h1
   have:c=40:=by apply UInt8.toNat_inj.1;show c.toNat=40;omega
   rw[this]
theorem rest_shut(r:ByteArray):(r.toList==[41])=decide (r=shutS):=by
 rw[ByteArray.toList_eq,Bool.eq_iff_iff,beq_iff_eq,decide_eq_true_eq];exact⟨fun h=>same_bytes h,fun h=>by rw[h];rfl⟩
theorem parts_nnx(s:ByteArray)(w:World)(hs:s.size≤maxLen)(hzr:(rest1 s).size=0):Calls Tryz.prog 106 #[.string s] w (PartsPost s w):=by
 have eC:pC (rest1 s)=((0:Int),(rest1 s)):=by unfold pC;rw[if_pos (Or.inl hzr)]
 have eM:pM (rest1 s)=(⟨#[]⟩,⟨#[]⟩,(rest1 s)):=by unfold pM;rw[if_pos (Or.inl hzr)]
 have eL:pL (rest1 s)=(-1:Int):=by unfold pL;rw[if_pos (Or.inl hzr)]
 have Hv:=hid (vals eC eM eL);clear eC eM eL;obtain⟨l1,l2,l3,l4,l5,l6⟩:=lens s (rest1 s);have K1:=hid (fun w=>rsplit_of s w hs);clear l2 l3 l4 l5 l6;generalize rest1 s=r at *;generalize hfv:fn0 s=fv at *;have Hf:=hid hfv;clear hfv;have her:=dg.empty_list r hzr;clear hzr;unfold maxLen at hs;go_enter Tryz.func106,Tryz.ntmps106;go_wp2_with fail;refine(K1.out _).mono ?_;rintro e w' ⟨rfl,q1,rfl⟩;go_wp2_with fail;refine bodyPost_ret (v:=.tuple #[.string fv,.int .i64 0,.string ⟨#[]⟩,.string ⟨#[]⟩,.int .i64 (-1)]) (by simp only[results,Tryz.results106];go_simp) rfl ?_;exact⟨by rw[Hf.out,Hv.out.1,Hv.out.2.1,Hv.out.2.2.1,Hv.out.2.2.2],_,rfl⟩
theorem parts_opx(s:ByteArray)(w:World)(hs:s.size≤maxLen)(hzr:¬(rest1 s).size=0)(hhr:headI (rest1 s)≠126)(hhp:headI (rest1 s)=43):Calls Tryz.prog 106 #[.string s] w (PartsPost s w):=by
 have eC:pC (rest1 s)=((0:Int),(rest1 s)):=by unfold pC;rw[if_pos (Or.inr hhr)]
 have eM:pM (rest1 s)=(⟨#[]⟩,⟨#[]⟩,(rest1 s)):=by unfold pM;rw[if_pos (Or.inr hhp)]
 have eL:pL (rest1 s)=(dg.rd (tailS (rest1 s))).1:=by unfold pL;rw[if_neg (by rintro(g | g);exact hzr g;exact g hhp)]
 have Hv:=hid (vals eC eM eL);clear eC eM eL;obtain⟨l1,l2,l3,l4,l5,l6⟩:=lens s (rest1 s);have K1:=hid (fun w=>rsplit_of s w hs);have K5:=hid (fun w=>rread_tail (rest1 s) w (by omega));clear l2 l3 l4 l5 l6;generalize (dg.rd (tailS (rest1 s))).1=lv at *;generalize (dg.rd (tailS (rest1 s))).2=le at *;generalize rest1 s=r at *;generalize hfv:fn0 s=fv at *;have Hf:=hid hfv;clear hfv;have er:0<r.size:=by omega
 have her:=dg.not_empty r hzr;have hxr:headI r=(r[0].toNat:Int):=by unfold headI;rw[dg.headD_zero r er]
 have h1r:((r[0].toNat:Int)==126)=false:=by rw[←hxr,beq_eq_false_iff_ne];exact hhr
 have h1p:((r[0].toNat:Int) != 43)=false:=by rw[←hxr,hhp];rfl
 have h2p:((r[0].toNat:Int)==43)=true:=by rw[←hxr,hhp];rfl
 clear hhr hzr;clear hhp;clear hxr;unfold maxLen at hs;go_enter Tryz.func106,Tryz.ntmps106;go_wp2_with fail;refine(K1.out _).mono ?_;rintro e w' ⟨rfl,q1,rfl⟩;go_wp2_with fail;refine(K5.out _).mono ?_;rintro e w' ⟨rfl,rfl⟩;go_wp2_with fail;refine bodyPost_ret (v:=.tuple #[.string fv,.int .i64 0,.string ⟨#[]⟩,.string ⟨#[]⟩,.int .i64 lv]) (by simp only[results,Tryz.results106];go_simp) rfl ?_;exact⟨by rw[Hf.out,Hv.out.1,Hv.out.2.1,Hv.out.2.2.1,Hv.out.2.2.2],_,rfl⟩
theorem parts_omn(s:ByteArray)(w:World)(hs:s.size≤maxLen)(hzr:¬(rest1 s).size=0)(hhr:headI (rest1 s)≠126)(hhp:headI (rest1 s)≠43)(hop:headI (rest1 s)≠40)(hzq:(rest1 (tailS (rest1 s))).size=0):Calls Tryz.prog 106 #[.string s] w (PartsPost s w):=by
 have eC:pC (rest1 s)=((0:Int),(rest1 s)):=by unfold pC;rw[if_pos (Or.inr hhr)]
 have eM:pM (rest1 s)=((rest1 s).extract 0 1,fn0 (tailS (rest1 s)),(rest1 (tailS (rest1 s)))):=by unfold pM;rw[if_neg (by rintro(g | g);exact hzr g;exact hhp g),if_neg (fun g=>hop g.1)]
 have eL:pL (rest1 (tailS (rest1 s)))=(-1:Int):=by unfold pL;rw[if_pos (Or.inl hzq)]
 have Hv:=hid (vals eC eM eL);clear eC eM eL;obtain⟨l1,l2,l3,l4,l5,l6⟩:=lens s (rest1 s);have K1:=hid (fun w=>rsplit_of s w hs);have K4:=hid (fun w=>rsplit_tail (rest1 s) w (by omega));clear l2 l3 l4 l5 l6;generalize (rest1 (tailS (rest1 s)))=r3 at *;generalize fn0 (tailS (rest1 s))=tv at *;generalize rest1 s=r at *;generalize hfv:fn0 s=fv at *;have Hf:=hid hfv;clear hfv;have er:0<r.size:=by omega
 have her:=dg.not_empty r hzr;have hxr:headI r=(r[0].toNat:Int):=by unfold headI;rw[dg.headD_zero r er]
 have h1r:((r[0].toNat:Int)==126)=false:=by rw[←hxr,beq_eq_false_iff_ne];exact hhr
 have h1p:((r[0].toNat:Int) != 43)=true:=by rw[←hxr,bne_iff_ne];exact hhp
 have hmk:=mark_open r er;rw[decide_eq_false hop]at hmk;clear hop;have heq:=dg.empty_list r3 hzq;clear hzq;clear hhr hzr;clear hhp;clear hxr;unfold maxLen at hs;go_enter Tryz.func106,Tryz.ntmps106;go_wp2_with fail;refine(K1.out _).mono ?_;rintro e w' ⟨rfl,q1,rfl⟩;go_wp2_with fail;refine(K4.out _).mono ?_;rintro e w' ⟨rfl,q2,rfl⟩;go_wp2_with fail;refine bodyPost_ret (v:=.tuple #[.string fv,.int .i64 0,.string (r.extract 0 1),.string tv,.int .i64 (-1)]) (by simp only[results,Tryz.results106];go_simp) rfl ?_;exact⟨by rw[Hf.out,Hv.out.1,Hv.out.2.1,Hv.out.2.2.1,Hv.out.2.2.2],_,rfl⟩
theorem parts_omo(s:ByteArray)(w:World)(hs:s.size≤maxLen)(hzr:¬(rest1 s).size=0)(hhr:headI (rest1 s)≠126)(hhp:headI (rest1 s)≠43)(hop:headI (rest1 s)≠40)(hzq:¬(rest1 (tailS (rest1 s))).size=0)(hhq:headI (rest1 (tailS (rest1 s)))≠43):Calls Tryz.prog 106 #[.string s] w (PartsPost s w):=by
 have eC:pC (rest1 s)=((0:Int),(rest1 s)):=by unfold pC;rw[if_pos (Or.inr hhr)]
 have eM:pM (rest1 s)=((rest1 s).extract 0 1,fn0 (tailS (rest1 s)),(rest1 (tailS (rest1 s)))):=by unfold pM;rw[if_neg (by rintro(g | g);exact hzr g;exact hhp g),if_neg (fun g=>hop g.1)]
 have eL:pL (rest1 (tailS (rest1 s)))=(-1:Int):=by unfold pL;rw[if_pos (Or.inr hhq)]
 have Hv:=hid (vals eC eM eL);clear eC eM eL;obtain⟨l1,l2,l3,l4,l5,l6⟩:=lens s (rest1 s);have K1:=hid (fun w=>rsplit_of s w hs);have K4:=hid (fun w=>rsplit_tail (rest1 s) w (by omega));clear l2 l3 l4 l5 l6;generalize (rest1 (tailS (rest1 s)))=r3 at *;generalize fn0 (tailS (rest1 s))=tv at *;generalize rest1 s=r at *;generalize hfv:fn0 s=fv at *;have Hf:=hid hfv;clear hfv;have er:0<r.size:=by omega
 have her:=dg.not_empty r hzr;have hxr:headI r=(r[0].toNat:Int):=by unfold headI;rw[dg.headD_zero r er]
 have h1r:((r[0].toNat:Int)==126)=false:=by rw[←hxr,beq_eq_false_iff_ne];exact hhr
 have h1p:((r[0].toNat:Int) != 43)=true:=by rw[←hxr,bne_iff_ne];exact hhp
 have hmk:=mark_open r er;rw[decide_eq_false hop]at hmk;clear hop;have eq:0<r3.size:=by omega
 have heq:=dg.not_empty r3 hzq;have hxq:headI r3=(r3[0].toNat:Int):=by unfold headI;rw[dg.headD_zero r3 eq]
 clear hzq;have h1q:((r3[0].toNat:Int)==43)=false:=by rw[←hxq,beq_eq_false_iff_ne];exact hhq
 clear hhq hxq;clear hhr hzr;clear hhp;clear hxr;unfold maxLen at hs;go_enter Tryz.func106,Tryz.ntmps106;go_wp2_with fail;refine(K1.out _).mono ?_;rintro e w' ⟨rfl,q1,rfl⟩;go_wp2_with fail;refine(K4.out _).mono ?_;rintro e w' ⟨rfl,q2,rfl⟩;go_wp2_with fail;refine bodyPost_ret (v:=.tuple #[.string fv,.int .i64 0,.string (r.extract 0 1),.string tv,.int .i64 (-1)]) (by simp only[results,Tryz.results106];go_simp) rfl ?_;exact⟨by rw[Hf.out,Hv.out.1,Hv.out.2.1,Hv.out.2.2.1,Hv.out.2.2.2],_,rfl⟩
theorem parts_omp(s:ByteArray)(w:World)(hs:s.size≤maxLen)(hzr:¬(rest1 s).size=0)(hhr:headI (rest1 s)≠126)(hhp:headI (rest1 s)≠43)(hop:headI (rest1 s)≠40)(hzq:¬(rest1 (tailS (rest1 s))).size=0)(hhq:headI (rest1 (tailS (rest1 s)))=43):Calls Tryz.prog 106 #[.string s] w (PartsPost s w):=by
 have eC:pC (rest1 s)=((0:Int),(rest1 s)):=by unfold pC;rw[if_pos (Or.inr hhr)]
 have eM:pM (rest1 s)=((rest1 s).extract 0 1,fn0 (tailS (rest1 s)),(rest1 (tailS (rest1 s)))):=by unfold pM;rw[if_neg (by rintro(g | g);exact hzr g;exact hhp g),if_neg (fun g=>hop g.1)]
 have eL:pL (rest1 (tailS (rest1 s)))=(dg.rd (tailS (rest1 (tailS (rest1 s))))).1:=by unfold pL;rw[if_neg (by rintro(g | g);exact hzq g;exact g hhq)]
 have Hv:=hid (vals eC eM eL);clear eC eM eL;obtain⟨l1,l2,l3,l4,l5,l6⟩:=lens s (rest1 s);have K1:=hid (fun w=>rsplit_of s w hs);have K4:=hid (fun w=>rsplit_tail (rest1 s) w (by omega));have K5:=hid (fun w=>rread_tail (rest1 (tailS (rest1 s))) w (by omega));clear l2 l3 l4 l5 l6;generalize (dg.rd (tailS (rest1 (tailS (rest1 s))))).1=lv at *;generalize (dg.rd (tailS (rest1 (tailS (rest1 s))))).2=le at *;generalize (rest1 (tailS (rest1 s)))=r3 at *;generalize fn0 (tailS (rest1 s))=tv at *;generalize rest1 s=r at *;generalize hfv:fn0 s=fv at *;have Hf:=hid hfv;clear hfv;have er:0<r.size:=by omega
 have her:=dg.not_empty r hzr;have hxr:headI r=(r[0].toNat:Int):=by unfold headI;rw[dg.headD_zero r er]
 have h1r:((r[0].toNat:Int)==126)=false:=by rw[←hxr,beq_eq_false_iff_ne];exact hhr
 have h1p:((r[0].toNat:Int) != 43)=true:=by rw[←hxr,bne_iff_ne];exact hhp
 have hmk:=mark_open r er;rw[decide_eq_false hop]at hmk;clear hop;have eq:0<r3.size:=by omega
 have heq:=dg.not_empty r3 hzq;have hxq:headI r3=(r3[0].toNat:Int):=by unfold headI;rw[dg.headD_zero r3 eq]
 clear hzq;have h1q:((r3[0].toNat:Int)==43)=true:=by rw[←hxq,hhq];rfl
 clear hhq hxq;clear hhr hzr;clear hhp;clear hxr;unfold maxLen at hs;go_enter Tryz.func106,Tryz.ntmps106;go_wp2_with fail;refine(K1.out _).mono ?_;rintro e w' ⟨rfl,q1,rfl⟩;go_wp2_with fail;refine(K4.out _).mono ?_;rintro e w' ⟨rfl,q2,rfl⟩;go_wp2_with fail;refine(K5.out _).mono ?_;rintro e w' ⟨rfl,rfl⟩;go_wp2_with fail;refine bodyPost_ret (v:=.tuple #[.string fv,.int .i64 0,.string (r.extract 0 1),.string tv,.int .i64 lv]) (by simp only[results,Tryz.results106];go_simp) rfl ?_;exact⟨by rw[Hf.out,Hv.out.1,Hv.out.2.1,Hv.out.2.2.1,Hv.out.2.2.2],_,rfl⟩
theorem parts_obn(s:ByteArray)(w:World)(hs:s.size≤maxLen)(hzr:¬(rest1 s).size=0)(hhr:headI (rest1 s)≠126)(hhp:headI (rest1 s)≠43)(hop:headI (rest1 s)=40)(hsh:(rest1 (tailS (rest1 s)))≠shutS)(hzq:(rest1 (tailS (rest1 s))).size=0):Calls Tryz.prog 106 #[.string s] w (PartsPost s w):=by
 have eC:pC (rest1 s)=((0:Int),(rest1 s)):=by unfold pC;rw[if_pos (Or.inr hhr)]
 have eM:pM (rest1 s)=((rest1 s).extract 0 1,fn0 (tailS (rest1 s)),(rest1 (tailS (rest1 s)))):=by unfold pM;rw[if_neg (by rintro(g | g);exact hzr g;exact hhp g),if_neg (fun g=>hsh g.2)]
 have eL:pL (rest1 (tailS (rest1 s)))=(-1:Int):=by unfold pL;rw[if_pos (Or.inl hzq)]
 have Hv:=hid (vals eC eM eL);clear eC eM eL;obtain⟨l1,l2,l3,l4,l5,l6⟩:=lens s (rest1 s);have K1:=hid (fun w=>rsplit_of s w hs);have K4:=hid (fun w=>rsplit_tail (rest1 s) w (by omega));clear l2 l3 l4 l5 l6;generalize (rest1 (tailS (rest1 s)))=r3 at *;generalize fn0 (tailS (rest1 s))=tv at *;generalize rest1 s=r at *;generalize hfv:fn0 s=fv at *;have Hf:=hid hfv;clear hfv;have er:0<r.size:=by omega
 have her:=dg.not_empty r hzr;have hxr:headI r=(r[0].toNat:Int):=by unfold headI;rw[dg.headD_zero r er]
 have h1r:((r[0].toNat:Int)==126)=false:=by rw[←hxr,beq_eq_false_iff_ne];exact hhr
 have h1p:((r[0].toNat:Int) != 43)=true:=by rw[←hxr,bne_iff_ne];exact hhp
 have hmk:=mark_open r er;rw[decide_eq_true hop]at hmk;clear hop;have hrs:=rest_shut r3;rw[decide_eq_false hsh]at hrs;clear hsh;have heq:=dg.empty_list r3 hzq;clear hzq;clear hhr hzr;clear hhp;clear hxr;unfold maxLen at hs;go_enter Tryz.func106,Tryz.ntmps106;go_wp2_with fail;refine(K1.out _).mono ?_;rintro e w' ⟨rfl,q1,rfl⟩;go_wp2_with fail;refine(K4.out _).mono ?_;rintro e w' ⟨rfl,q2,rfl⟩;go_wp2_with fail;refine bodyPost_ret (v:=.tuple #[.string fv,.int .i64 0,.string (r.extract 0 1),.string tv,.int .i64 (-1)]) (by simp only[results,Tryz.results106];go_simp) rfl ?_;exact⟨by rw[Hf.out,Hv.out.1,Hv.out.2.1,Hv.out.2.2.1,Hv.out.2.2.2],_,rfl⟩
theorem parts_obo(s:ByteArray)(w:World)(hs:s.size≤maxLen)(hzr:¬(rest1 s).size=0)(hhr:headI (rest1 s)≠126)(hhp:headI (rest1 s)≠43)(hop:headI (rest1 s)=40)(hsh:(rest1 (tailS (rest1 s)))≠shutS)(hzq:¬(rest1 (tailS (rest1 s))).size=0)(hhq:headI (rest1 (tailS (rest1 s)))≠43):Calls Tryz.prog 106 #[.string s] w (PartsPost s w):=by
 have eC:pC (rest1 s)=((0:Int),(rest1 s)):=by unfold pC;rw[if_pos (Or.inr hhr)]
 have eM:pM (rest1 s)=((rest1 s).extract 0 1,fn0 (tailS (rest1 s)),(rest1 (tailS (rest1 s)))):=by unfold pM;rw[if_neg (by rintro(g | g);exact hzr g;exact hhp g),if_neg (fun g=>hsh g.2)]
 have eL:pL (rest1 (tailS (rest1 s)))=(-1:Int):=by unfold pL;rw[if_pos (Or.inr hhq)]
 have Hv:=hid (vals eC eM eL);clear eC eM eL;obtain⟨l1,l2,l3,l4,l5,l6⟩:=lens s (rest1 s);have K1:=hid (fun w=>rsplit_of s w hs);have K4:=hid (fun w=>rsplit_tail (rest1 s) w (by omega));clear l2 l3 l4 l5 l6;generalize (rest1 (tailS (rest1 s)))=r3 at *;generalize fn0 (tailS (rest1 s))=tv at *;generalize rest1 s=r at *;generalize hfv:fn0 s=fv at *;have Hf:=hid hfv;clear hfv;have er:0<r.size:=by omega
 have her:=dg.not_empty r hzr;have hxr:headI r=(r[0].toNat:Int):=by unfold headI;rw[dg.headD_zero r er]
 have h1r:((r[0].toNat:Int)==126)=false:=by rw[←hxr,beq_eq_false_iff_ne];exact hhr
 have h1p:((r[0].toNat:Int) != 43)=true:=by rw[←hxr,bne_iff_ne];exact hhp
 have hmk:=mark_open r er;rw[decide_eq_true hop]at hmk;clear hop;have hrs:=rest_shut r3;rw[decide_eq_false hsh]at hrs;clear hsh;have eq:0<r3.size:=by omega
 have heq:=dg.not_empty r3 hzq;have hxq:headI r3=(r3[0].toNat:Int):=by unfold headI;rw[dg.headD_zero r3 eq]
 clear hzq;have h1q:((r3[0].toNat:Int)==43)=false:=by rw[←hxq,beq_eq_false_iff_ne];exact hhq
 clear hhq hxq;clear hhr hzr;clear hhp;clear hxr;unfold maxLen at hs;go_enter Tryz.func106,Tryz.ntmps106;go_wp2_with fail;refine(K1.out _).mono ?_;rintro e w' ⟨rfl,q1,rfl⟩;go_wp2_with fail;refine(K4.out _).mono ?_;rintro e w' ⟨rfl,q2,rfl⟩;go_wp2_with fail;refine bodyPost_ret (v:=.tuple #[.string fv,.int .i64 0,.string (r.extract 0 1),.string tv,.int .i64 (-1)]) (by simp only[results,Tryz.results106];go_simp) rfl ?_;exact⟨by rw[Hf.out,Hv.out.1,Hv.out.2.1,Hv.out.2.2.1,Hv.out.2.2.2],_,rfl⟩
theorem parts_obp(s:ByteArray)(w:World)(hs:s.size≤maxLen)(hzr:¬(rest1 s).size=0)(hhr:headI (rest1 s)≠126)(hhp:headI (rest1 s)≠43)(hop:headI (rest1 s)=40)(hsh:(rest1 (tailS (rest1 s)))≠shutS)(hzq:¬(rest1 (tailS (rest1 s))).size=0)(hhq:headI (rest1 (tailS (rest1 s)))=43):Calls Tryz.prog 106 #[.string s] w (PartsPost s w):=by
 have eC:pC (rest1 s)=((0:Int),(rest1 s)):=by unfold pC;rw[if_pos (Or.inr hhr)]
 have eM:pM (rest1 s)=((rest1 s).extract 0 1,fn0 (tailS (rest1 s)),(rest1 (tailS (rest1 s)))):=by unfold pM;rw[if_neg (by rintro(g | g);exact hzr g;exact hhp g),if_neg (fun g=>hsh g.2)]
 have eL:pL (rest1 (tailS (rest1 s)))=(dg.rd (tailS (rest1 (tailS (rest1 s))))).1:=by unfold pL;rw[if_neg (by rintro(g | g);exact hzq g;exact g hhq)]
 have Hv:=hid (vals eC eM eL);clear eC eM eL;obtain⟨l1,l2,l3,l4,l5,l6⟩:=lens s (rest1 s);have K1:=hid (fun w=>rsplit_of s w hs);have K4:=hid (fun w=>rsplit_tail (rest1 s) w (by omega));have K5:=hid (fun w=>rread_tail (rest1 (tailS (rest1 s))) w (by omega));clear l2 l3 l4 l5 l6;generalize (dg.rd (tailS (rest1 (tailS (rest1 s))))).1=lv at *;generalize (dg.rd (tailS (rest1 (tailS (rest1 s))))).2=le at *;generalize (rest1 (tailS (rest1 s)))=r3 at *;generalize fn0 (tailS (rest1 s))=tv at *;generalize rest1 s=r at *;generalize hfv:fn0 s=fv at *;have Hf:=hid hfv;clear hfv;have er:0<r.size:=by omega
 have her:=dg.not_empty r hzr;have hxr:headI r=(r[0].toNat:Int):=by unfold headI;rw[dg.headD_zero r er]
 have h1r:((r[0].toNat:Int)==126)=false:=by rw[←hxr,beq_eq_false_iff_ne];exact hhr
 have h1p:((r[0].toNat:Int) != 43)=true:=by rw[←hxr,bne_iff_ne];exact hhp
 have hmk:=mark_open r er;rw[decide_eq_true hop]at hmk;clear hop;have hrs:=rest_shut r3;rw[decide_eq_false hsh]at hrs;clear hsh;have eq:0<r3.size:=by omega
 have heq:=dg.not_empty r3 hzq;have hxq:headI r3=(r3[0].toNat:Int):=by unfold headI;rw[dg.headD_zero r3 eq]
 clear hzq;have h1q:((r3[0].toNat:Int)==43)=true:=by rw[←hxq,hhq];rfl
 clear hhq hxq;clear hhr hzr;clear hhp;clear hxr;unfold maxLen at hs;go_enter Tryz.func106,Tryz.ntmps106;go_wp2_with fail;refine(K1.out _).mono ?_;rintro e w' ⟨rfl,q1,rfl⟩;go_wp2_with fail;refine(K4.out _).mono ?_;rintro e w' ⟨rfl,q2,rfl⟩;go_wp2_with fail;refine(K5.out _).mono ?_;rintro e w' ⟨rfl,rfl⟩;go_wp2_with fail;refine bodyPost_ret (v:=.tuple #[.string fv,.int .i64 0,.string (r.extract 0 1),.string tv,.int .i64 lv]) (by simp only[results,Tryz.results106];go_simp) rfl ?_;exact⟨by rw[Hf.out,Hv.out.1,Hv.out.2.1,Hv.out.2.2.1,Hv.out.2.2.2],_,rfl⟩
theorem parts_osx(s:ByteArray)(w:World)(hs:s.size≤maxLen)(hzr:¬(rest1 s).size=0)(hhr:headI (rest1 s)≠126)(hhp:headI (rest1 s)≠43)(hop:headI (rest1 s)=40)(hsh:(rest1 (tailS (rest1 s)))=shutS):Calls Tryz.prog 106 #[.string s] w (PartsPost s w):=by
 have eC:pC (rest1 s)=((0:Int),(rest1 s)):=by unfold pC;rw[if_pos (Or.inr hhr)]
 have eM:pM (rest1 s)=((rest1 s).extract 0 1,fn0 (tailS (rest1 s)),⟨#[]⟩):=by unfold pM;rw[if_neg (by rintro(g | g);exact hzr g;exact hhp g),if_pos ⟨hop,hsh⟩]
 have eL:pL (⟨#[]⟩:ByteArray)=(-1:Int):=by unfold pL;rw[if_pos (Or.inl (show(⟨#[]⟩:ByteArray).size=0 from rfl))]
 have Hv:=hid (vals eC eM eL);clear eC eM eL;obtain⟨l1,l2,l3,l4,l5,l6⟩:=lens s (rest1 s);have K1:=hid (fun w=>rsplit_of s w hs);have K4:=hid (fun w=>rsplit_tail (rest1 s) w (by omega));clear l2 l3 l4 l5 l6;generalize (rest1 (tailS (rest1 s)))=r3 at *;generalize fn0 (tailS (rest1 s))=tv at *;generalize rest1 s=r at *;generalize hfv:fn0 s=fv at *;have Hf:=hid hfv;clear hfv;have er:0<r.size:=by omega
 have her:=dg.not_empty r hzr;have hxr:headI r=(r[0].toNat:Int):=by unfold headI;rw[dg.headD_zero r er]
 have h1r:((r[0].toNat:Int)==126)=false:=by rw[←hxr,beq_eq_false_iff_ne];exact hhr
 have h1p:((r[0].toNat:Int) != 43)=true:=by rw[←hxr,bne_iff_ne];exact hhp
 have hmk:=mark_open r er;rw[decide_eq_true hop]at hmk;clear hop;have hrs:=rest_shut r3;rw[decide_eq_true hsh]at hrs;clear hsh;clear hhr hzr;clear hhp;clear hxr;unfold maxLen at hs;go_enter Tryz.func106,Tryz.ntmps106;go_wp2_with fail;refine(K1.out _).mono ?_;rintro e w' ⟨rfl,q1,rfl⟩;go_wp2_with fail;refine(K4.out _).mono ?_;rintro e w' ⟨rfl,q2,rfl⟩;go_wp2_with fail;refine bodyPost_ret (v:=.tuple #[.string fv,.int .i64 0,.string (r.extract 0 1),.string tv,.int .i64 (-1)]) (by simp only[results,Tryz.results106];go_simp) rfl ?_;exact⟨by rw[Hf.out,Hv.out.1,Hv.out.2.1,Hv.out.2.2.1,Hv.out.2.2.2],_,rfl⟩
theorem parts_tnx(s:ByteArray)(w:World)(hs:s.size≤maxLen)(hzr:¬(rest1 s).size=0)(hhr:headI (rest1 s)=126)(hzp:(rest1 (tailS (rest1 s))).size=0):Calls Tryz.prog 106 #[.string s] w (PartsPost s w):=by
 obtain⟨cv,hcv⟩:∃cv,(dg.rd (fn0 (tailS (rest1 s)))).1=cv:=⟨_,rfl⟩;have K3:∀w,Calls Tryz.prog 107 #[.string (fn0 (tailS (rest1 s)))] w fun e w'=>e=.returned (.tuple #[.int .i64 cv,.int .i64 (dg.rd (fn0 (tailS (rest1 s)))).2])∧w=w':=fun w=>by
  have:=rread_of (fn0 (tailS (rest1 s))) w (by have:=rest1_le s;have:=tailS_le (rest1 s);have:=fn0_le (tailS (rest1 s));omega);rw[hcv]at this;exact this
 have K3:=hid K3;have eC:pC (rest1 s)=(cv,(rest1 (tailS (rest1 s)))):=by unfold pC;rw[if_neg (by rintro(g | g);exact hzr g;exact g hhr),hcv]
 clear hcv;have eM:pM (rest1 (tailS (rest1 s)))=(⟨#[]⟩,⟨#[]⟩,(rest1 (tailS (rest1 s)))):=by unfold pM;rw[if_pos (Or.inl hzp)]
 have eL:pL (rest1 (tailS (rest1 s)))=(-1:Int):=by unfold pL;rw[if_pos (Or.inl hzp)]
 have Hv:=hid (vals eC eM eL);clear eC eM eL;obtain⟨l1,l2,l3,l4,l5,l6⟩:=lens s (rest1 (tailS (rest1 s)));have K1:=hid (fun w=>rsplit_of s w hs);have K2:=hid (fun w=>rsplit_tail (rest1 s) w (by omega));clear l2 l3 l4 l5 l6;generalize (dg.rd (fn0 (tailS (rest1 s)))).2=ce at *;generalize fn0 (tailS (rest1 s))=ct at *;generalize rest1 (tailS (rest1 s))=r2 at *;generalize rest1 s=r at *;generalize hfv:fn0 s=fv at *;have Hf:=hid hfv;clear hfv;have er:0<r.size:=by omega
 have her:=dg.not_empty r hzr;have hxr:headI r=(r[0].toNat:Int):=by unfold headI;rw[dg.headD_zero r er]
 have h1r:((r[0].toNat:Int)==126)=true:=by rw[←hxr,hhr];rfl
 have hep:=dg.empty_list r2 hzp;clear hzp;clear hhr hzr;clear hxr;unfold maxLen at hs;go_enter Tryz.func106,Tryz.ntmps106;go_wp2_with fail;refine(K1.out _).mono ?_;rintro e w' ⟨rfl,q1,rfl⟩;go_wp2_with fail;refine(K2.out _).mono ?_;rintro e w' ⟨rfl,q2,rfl⟩;go_wp2_with fail;refine(K3.out _).mono ?_;rintro e w' ⟨rfl,rfl⟩;go_wp2_with fail;refine bodyPost_ret (v:=.tuple #[.string fv,.int .i64 cv,.string ⟨#[]⟩,.string ⟨#[]⟩,.int .i64 (-1)]) (by simp only[results,Tryz.results106];go_simp) rfl ?_;exact⟨by rw[Hf.out,Hv.out.1,Hv.out.2.1,Hv.out.2.2.1,Hv.out.2.2.2],_,rfl⟩
theorem parts_tpx(s:ByteArray)(w:World)(hs:s.size≤maxLen)(hzr:¬(rest1 s).size=0)(hhr:headI (rest1 s)=126)(hzp:¬(rest1 (tailS (rest1 s))).size=0)(hhp:headI (rest1 (tailS (rest1 s)))=43):Calls Tryz.prog 106 #[.string s] w (PartsPost s w):=by
 obtain⟨cv,hcv⟩:∃cv,(dg.rd (fn0 (tailS (rest1 s)))).1=cv:=⟨_,rfl⟩;have K3:∀w,Calls Tryz.prog 107 #[.string (fn0 (tailS (rest1 s)))] w fun e w'=>e=.returned (.tuple #[.int .i64 cv,.int .i64 (dg.rd (fn0 (tailS (rest1 s)))).2])∧w=w':=fun w=>by
  have:=rread_of (fn0 (tailS (rest1 s))) w (by have:=rest1_le s;have:=tailS_le (rest1 s);have:=fn0_le (tailS (rest1 s));omega);rw[hcv]at this;exact this
 have K3:=hid K3;have eC:pC (rest1 s)=(cv,(rest1 (tailS (rest1 s)))):=by unfold pC;rw[if_neg (by rintro(g | g);exact hzr g;exact g hhr),hcv]
 clear hcv;have eM:pM (rest1 (tailS (rest1 s)))=(⟨#[]⟩,⟨#[]⟩,(rest1 (tailS (rest1 s)))):=by unfold pM;rw[if_pos (Or.inr hhp)]
 have eL:pL (rest1 (tailS (rest1 s)))=(dg.rd (tailS (rest1 (tailS (rest1 s))))).1:=by unfold pL;rw[if_neg (by rintro(g | g);exact hzp g;exact g hhp)]
 have Hv:=hid (vals eC eM eL);clear eC eM eL;obtain⟨l1,l2,l3,l4,l5,l6⟩:=lens s (rest1 (tailS (rest1 s)));have K1:=hid (fun w=>rsplit_of s w hs);have K2:=hid (fun w=>rsplit_tail (rest1 s) w (by omega));have K5:=hid (fun w=>rread_tail (rest1 (tailS (rest1 s))) w (by omega));clear l2 l3 l4 l5 l6;generalize (dg.rd (fn0 (tailS (rest1 s)))).2=ce at *;generalize fn0 (tailS (rest1 s))=ct at *;generalize (dg.rd (tailS (rest1 (tailS (rest1 s))))).1=lv at *;generalize (dg.rd (tailS (rest1 (tailS (rest1 s))))).2=le at *;generalize rest1 (tailS (rest1 s))=r2 at *;generalize rest1 s=r at *;generalize hfv:fn0 s=fv at *;have Hf:=hid hfv;clear hfv;have er:0<r.size:=by omega
 have her:=dg.not_empty r hzr;have hxr:headI r=(r[0].toNat:Int):=by unfold headI;rw[dg.headD_zero r er]
 have h1r:((r[0].toNat:Int)==126)=true:=by rw[←hxr,hhr];rfl
 have ep:0<r2.size:=by omega
 have hep:=dg.not_empty r2 hzp;have hxp:headI r2=(r2[0].toNat:Int):=by unfold headI;rw[dg.headD_zero r2 ep]
 clear hzp;have h1p:((r2[0].toNat:Int) != 43)=false:=by rw[←hxp,hhp];rfl
 have h2p:((r2[0].toNat:Int)==43)=true:=by rw[←hxp,hhp];rfl
 clear hhr hzr;clear hhp;clear hxr;clear hxp;unfold maxLen at hs;go_enter Tryz.func106,Tryz.ntmps106;go_wp2_with fail;refine(K1.out _).mono ?_;rintro e w' ⟨rfl,q1,rfl⟩;go_wp2_with fail;refine(K2.out _).mono ?_;rintro e w' ⟨rfl,q2,rfl⟩;go_wp2_with fail;refine(K3.out _).mono ?_;rintro e w' ⟨rfl,rfl⟩;go_wp2_with fail;refine(K5.out _).mono ?_;rintro e w' ⟨rfl,rfl⟩;go_wp2_with fail;refine bodyPost_ret (v:=.tuple #[.string fv,.int .i64 cv,.string ⟨#[]⟩,.string ⟨#[]⟩,.int .i64 lv]) (by simp only[results,Tryz.results106];go_simp) rfl ?_;exact⟨by rw[Hf.out,Hv.out.1,Hv.out.2.1,Hv.out.2.2.1,Hv.out.2.2.2],_,rfl⟩
theorem parts_tmn(s:ByteArray)(w:World)(hs:s.size≤maxLen)(hzr:¬(rest1 s).size=0)(hhr:headI (rest1 s)=126)(hzp:¬(rest1 (tailS (rest1 s))).size=0)(hhp:headI (rest1 (tailS (rest1 s)))≠43)(hop:headI (rest1 (tailS (rest1 s)))≠40)(hzq:(rest1 (tailS (rest1 (tailS (rest1 s))))).size=0):Calls Tryz.prog 106 #[.string s] w (PartsPost s w):=by
 obtain⟨cv,hcv⟩:∃cv,(dg.rd (fn0 (tailS (rest1 s)))).1=cv:=⟨_,rfl⟩;have K3:∀w,Calls Tryz.prog 107 #[.string (fn0 (tailS (rest1 s)))] w fun e w'=>e=.returned (.tuple #[.int .i64 cv,.int .i64 (dg.rd (fn0 (tailS (rest1 s)))).2])∧w=w':=fun w=>by
  have:=rread_of (fn0 (tailS (rest1 s))) w (by have:=rest1_le s;have:=tailS_le (rest1 s);have:=fn0_le (tailS (rest1 s));omega);rw[hcv]at this;exact this
 have K3:=hid K3;have eC:pC (rest1 s)=(cv,(rest1 (tailS (rest1 s)))):=by unfold pC;rw[if_neg (by rintro(g | g);exact hzr g;exact g hhr),hcv]
 clear hcv;have eM:pM (rest1 (tailS (rest1 s)))=((rest1 (tailS (rest1 s))).extract 0 1,fn0 (tailS (rest1 (tailS (rest1 s)))),(rest1 (tailS (rest1 (tailS (rest1 s)))))):=by unfold pM;rw[if_neg (by rintro(g | g);exact hzp g;exact hhp g),if_neg (fun g=>hop g.1)]
 have eL:pL (rest1 (tailS (rest1 (tailS (rest1 s)))))=(-1:Int):=by unfold pL;rw[if_pos (Or.inl hzq)]
 have Hv:=hid (vals eC eM eL);clear eC eM eL;obtain⟨l1,l2,l3,l4,l5,l6⟩:=lens s (rest1 (tailS (rest1 s)));have K1:=hid (fun w=>rsplit_of s w hs);have K2:=hid (fun w=>rsplit_tail (rest1 s) w (by omega));have K4:=hid (fun w=>rsplit_tail (rest1 (tailS (rest1 s))) w (by omega));clear l2 l3 l4 l5 l6;generalize (dg.rd (fn0 (tailS (rest1 s)))).2=ce at *;generalize fn0 (tailS (rest1 s))=ct at *;generalize (rest1 (tailS (rest1 (tailS (rest1 s)))))=r3 at *;generalize fn0 (tailS (rest1 (tailS (rest1 s))))=tv at *;generalize rest1 (tailS (rest1 s))=r2 at *;generalize rest1 s=r at *;generalize hfv:fn0 s=fv at *;have Hf:=hid hfv;clear hfv;have er:0<r.size:=by omega
 have her:=dg.not_empty r hzr;have hxr:headI r=(r[0].toNat:Int):=by unfold headI;rw[dg.headD_zero r er]
 have h1r:((r[0].toNat:Int)==126)=true:=by rw[←hxr,hhr];rfl
 have ep:0<r2.size:=by omega
 have hep:=dg.not_empty r2 hzp;have hxp:headI r2=(r2[0].toNat:Int):=by unfold headI;rw[dg.headD_zero r2 ep]
 clear hzp;have h1p:((r2[0].toNat:Int) != 43)=true:=by rw[←hxp,bne_iff_ne];exact hhp
 have hmk:=mark_open r2 ep;rw[decide_eq_false hop]at hmk;clear hop;have heq:=dg.empty_list r3 hzq;clear hzq;clear hhr hzr;clear hhp;clear hxr;clear hxp;unfold maxLen at hs;go_enter Tryz.func106,Tryz.ntmps106;go_wp2_with fail;refine(K1.out _).mono ?_;rintro e w' ⟨rfl,q1,rfl⟩;go_wp2_with fail;refine(K2.out _).mono ?_;rintro e w' ⟨rfl,q2,rfl⟩;go_wp2_with fail;refine(K3.out _).mono ?_;rintro e w' ⟨rfl,rfl⟩;go_wp2_with fail;refine(K4.out _).mono ?_;rintro e w' ⟨rfl,q3,rfl⟩;go_wp2_with fail;refine bodyPost_ret (v:=.tuple #[.string fv,.int .i64 cv,.string (r2.extract 0 1),.string tv,.int .i64 (-1)]) (by simp only[results,Tryz.results106];go_simp) rfl ?_;exact⟨by rw[Hf.out,Hv.out.1,Hv.out.2.1,Hv.out.2.2.1,Hv.out.2.2.2],_,rfl⟩
theorem parts_tmo(s:ByteArray)(w:World)(hs:s.size≤maxLen)(hzr:¬(rest1 s).size=0)(hhr:headI (rest1 s)=126)(hzp:¬(rest1 (tailS (rest1 s))).size=0)(hhp:headI (rest1 (tailS (rest1 s)))≠43)(hop:headI (rest1 (tailS (rest1 s)))≠40)(hzq:¬(rest1 (tailS (rest1 (tailS (rest1 s))))).size=0)(hhq:headI (rest1 (tailS (rest1 (tailS (rest1 s)))))≠43):Calls Tryz.prog 106 #[.string s] w (PartsPost s w):=by
 obtain⟨cv,hcv⟩:∃cv,(dg.rd (fn0 (tailS (rest1 s)))).1=cv:=⟨_,rfl⟩;have K3:∀w,Calls Tryz.prog 107 #[.string (fn0 (tailS (rest1 s)))] w fun e w'=>e=.returned (.tuple #[.int .i64 cv,.int .i64 (dg.rd (fn0 (tailS (rest1 s)))).2])∧w=w':=fun w=>by
  have:=rread_of (fn0 (tailS (rest1 s))) w (by have:=rest1_le s;have:=tailS_le (rest1 s);have:=fn0_le (tailS (rest1 s));omega);rw[hcv]at this;exact this
 have K3:=hid K3;have eC:pC (rest1 s)=(cv,(rest1 (tailS (rest1 s)))):=by unfold pC;rw[if_neg (by rintro(g | g);exact hzr g;exact g hhr),hcv]
 clear hcv;have eM:pM (rest1 (tailS (rest1 s)))=((rest1 (tailS (rest1 s))).extract 0 1,fn0 (tailS (rest1 (tailS (rest1 s)))),(rest1 (tailS (rest1 (tailS (rest1 s)))))):=by unfold pM;rw[if_neg (by rintro(g | g);exact hzp g;exact hhp g),if_neg (fun g=>hop g.1)]
 have eL:pL (rest1 (tailS (rest1 (tailS (rest1 s)))))=(-1:Int):=by unfold pL;rw[if_pos (Or.inr hhq)]
 have Hv:=hid (vals eC eM eL);clear eC eM eL;obtain⟨l1,l2,l3,l4,l5,l6⟩:=lens s (rest1 (tailS (rest1 s)));have K1:=hid (fun w=>rsplit_of s w hs);have K2:=hid (fun w=>rsplit_tail (rest1 s) w (by omega));have K4:=hid (fun w=>rsplit_tail (rest1 (tailS (rest1 s))) w (by omega));clear l2 l3 l4 l5 l6;generalize (dg.rd (fn0 (tailS (rest1 s)))).2=ce at *;generalize fn0 (tailS (rest1 s))=ct at *;generalize (rest1 (tailS (rest1 (tailS (rest1 s)))))=r3 at *;generalize fn0 (tailS (rest1 (tailS (rest1 s))))=tv at *;generalize rest1 (tailS (rest1 s))=r2 at *;generalize rest1 s=r at *;generalize hfv:fn0 s=fv at *;have Hf:=hid hfv;clear hfv;have er:0<r.size:=by omega
 have her:=dg.not_empty r hzr;have hxr:headI r=(r[0].toNat:Int):=by unfold headI;rw[dg.headD_zero r er]
 have h1r:((r[0].toNat:Int)==126)=true:=by rw[←hxr,hhr];rfl
 have ep:0<r2.size:=by omega
 have hep:=dg.not_empty r2 hzp;have hxp:headI r2=(r2[0].toNat:Int):=by unfold headI;rw[dg.headD_zero r2 ep]
 clear hzp;have h1p:((r2[0].toNat:Int) != 43)=true:=by rw[←hxp,bne_iff_ne];exact hhp
 have hmk:=mark_open r2 ep;rw[decide_eq_false hop]at hmk;clear hop;have eq:0<r3.size:=by omega
 have heq:=dg.not_empty r3 hzq;have hxq:headI r3=(r3[0].toNat:Int):=by unfold headI;rw[dg.headD_zero r3 eq]
 clear hzq;have h1q:((r3[0].toNat:Int)==43)=false:=by rw[←hxq,beq_eq_false_iff_ne];exact hhq
 clear hhq hxq;clear hhr hzr;clear hhp;clear hxr;clear hxp;unfold maxLen at hs;go_enter Tryz.func106,Tryz.ntmps106;go_wp2_with fail;refine(K1.out _).mono ?_;rintro e w' ⟨rfl,q1,rfl⟩;go_wp2_with fail;refine(K2.out _).mono ?_;rintro e w' ⟨rfl,q2,rfl⟩;go_wp2_with fail;refine(K3.out _).mono ?_;rintro e w' ⟨rfl,rfl⟩;go_wp2_with fail;refine(K4.out _).mono ?_;rintro e w' ⟨rfl,q3,rfl⟩;go_wp2_with fail;refine bodyPost_ret (v:=.tuple #[.string fv,.int .i64 cv,.string (r2.extract 0 1),.string tv,.int .i64 (-1)]) (by simp only[results,Tryz.results106];go_simp) rfl ?_;exact⟨by rw[Hf.out,Hv.out.1,Hv.out.2.1,Hv.out.2.2.1,Hv.out.2.2.2],_,rfl⟩
theorem parts_tmp(s:ByteArray)(w:World)(hs:s.size≤maxLen)(hzr:¬(rest1 s).size=0)(hhr:headI (rest1 s)=126)(hzp:¬(rest1 (tailS (rest1 s))).size=0)(hhp:headI (rest1 (tailS (rest1 s)))≠43)(hop:headI (rest1 (tailS (rest1 s)))≠40)(hzq:¬(rest1 (tailS (rest1 (tailS (rest1 s))))).size=0)(hhq:headI (rest1 (tailS (rest1 (tailS (rest1 s)))))=43):Calls Tryz.prog 106 #[.string s] w (PartsPost s w):=by
 obtain⟨cv,hcv⟩:∃cv,(dg.rd (fn0 (tailS (rest1 s)))).1=cv:=⟨_,rfl⟩;have K3:∀w,Calls Tryz.prog 107 #[.string (fn0 (tailS (rest1 s)))] w fun e w'=>e=.returned (.tuple #[.int .i64 cv,.int .i64 (dg.rd (fn0 (tailS (rest1 s)))).2])∧w=w':=fun w=>by
  have:=rread_of (fn0 (tailS (rest1 s))) w (by have:=rest1_le s;have:=tailS_le (rest1 s);have:=fn0_le (tailS (rest1 s));omega);rw[hcv]at this;exact this
 have K3:=hid K3;have eC:pC (rest1 s)=(cv,(rest1 (tailS (rest1 s)))):=by unfold pC;rw[if_neg (by rintro(g | g);exact hzr g;exact g hhr),hcv]
 clear hcv;have eM:pM (rest1 (tailS (rest1 s)))=((rest1 (tailS (rest1 s))).extract 0 1,fn0 (tailS (rest1 (tailS (rest1 s)))),(rest1 (tailS (rest1 (tailS (rest1 s)))))):=by unfold pM;rw[if_neg (by rintro(g | g);exact hzp g;exact hhp g),if_neg (fun g=>hop g.1)]
 have eL:pL (rest1 (tailS (rest1 (tailS (rest1 s)))))=(dg.rd (tailS (rest1 (tailS (rest1 (tailS (rest1 s))))))).1:=by unfold pL;rw[if_neg (by rintro(g | g);exact hzq g;exact g hhq)]
 have Hv:=hid (vals eC eM eL);clear eC eM eL;obtain⟨l1,l2,l3,l4,l5,l6⟩:=lens s (rest1 (tailS (rest1 s)));have K1:=hid (fun w=>rsplit_of s w hs);have K2:=hid (fun w=>rsplit_tail (rest1 s) w (by omega));have K4:=hid (fun w=>rsplit_tail (rest1 (tailS (rest1 s))) w (by omega));have K5:=hid (fun w=>rread_tail (rest1 (tailS (rest1 (tailS (rest1 s))))) w (by omega));clear l2 l3 l4 l5 l6;generalize (dg.rd (fn0 (tailS (rest1 s)))).2=ce at *;generalize fn0 (tailS (rest1 s))=ct at *;generalize (dg.rd (tailS (rest1 (tailS (rest1 (tailS (rest1 s))))))).1=lv at *;generalize (dg.rd (tailS (rest1 (tailS (rest1 (tailS (rest1 s))))))).2=le at *;generalize (rest1 (tailS (rest1 (tailS (rest1 s)))))=r3 at *;generalize fn0 (tailS (rest1 (tailS (rest1 s))))=tv at *;generalize rest1 (tailS (rest1 s))=r2 at *;generalize rest1 s=r at *;generalize hfv:fn0 s=fv at *;have Hf:=hid hfv;clear hfv;have er:0<r.size:=by omega
 have her:=dg.not_empty r hzr;have hxr:headI r=(r[0].toNat:Int):=by unfold headI;rw[dg.headD_zero r er]
 have h1r:((r[0].toNat:Int)==126)=true:=by rw[←hxr,hhr];rfl
 have ep:0<r2.size:=by omega
 have hep:=dg.not_empty r2 hzp;have hxp:headI r2=(r2[0].toNat:Int):=by unfold headI;rw[dg.headD_zero r2 ep]
 clear hzp;have h1p:((r2[0].toNat:Int) != 43)=true:=by rw[←hxp,bne_iff_ne];exact hhp
 have hmk:=mark_open r2 ep;rw[decide_eq_false hop]at hmk;clear hop;have eq:0<r3.size:=by omega
 have heq:=dg.not_empty r3 hzq;have hxq:headI r3=(r3[0].toNat:Int):=by unfold headI;rw[dg.headD_zero r3 eq]
 clear hzq;have h1q:((r3[0].toNat:Int)==43)=true:=by rw[←hxq,hhq];rfl
 clear hhq hxq;clear hhr hzr;clear hhp;clear hxr;clear hxp;unfold maxLen at hs;go_enter Tryz.func106,Tryz.ntmps106;go_wp2_with fail;refine(K1.out _).mono ?_;rintro e w' ⟨rfl,q1,rfl⟩;go_wp2_with fail;refine(K2.out _).mono ?_;rintro e w' ⟨rfl,q2,rfl⟩;go_wp2_with fail;refine(K3.out _).mono ?_;rintro e w' ⟨rfl,rfl⟩;go_wp2_with fail;refine(K4.out _).mono ?_;rintro e w' ⟨rfl,q3,rfl⟩;go_wp2_with fail;refine(K5.out _).mono ?_;rintro e w' ⟨rfl,rfl⟩;go_wp2_with fail;refine bodyPost_ret (v:=.tuple #[.string fv,.int .i64 cv,.string (r2.extract 0 1),.string tv,.int .i64 lv]) (by simp only[results,Tryz.results106];go_simp) rfl ?_;exact⟨by rw[Hf.out,Hv.out.1,Hv.out.2.1,Hv.out.2.2.1,Hv.out.2.2.2],_,rfl⟩
theorem parts_tbn(s:ByteArray)(w:World)(hs:s.size≤maxLen)(hzr:¬(rest1 s).size=0)(hhr:headI (rest1 s)=126)(hzp:¬(rest1 (tailS (rest1 s))).size=0)(hhp:headI (rest1 (tailS (rest1 s)))≠43)(hop:headI (rest1 (tailS (rest1 s)))=40)(hsh:(rest1 (tailS (rest1 (tailS (rest1 s)))))≠shutS)(hzq:(rest1 (tailS (rest1 (tailS (rest1 s))))).size=0):Calls Tryz.prog 106 #[.string s] w (PartsPost s w):=by
 obtain⟨cv,hcv⟩:∃cv,(dg.rd (fn0 (tailS (rest1 s)))).1=cv:=⟨_,rfl⟩;have K3:∀w,Calls Tryz.prog 107 #[.string (fn0 (tailS (rest1 s)))] w fun e w'=>e=.returned (.tuple #[.int .i64 cv,.int .i64 (dg.rd (fn0 (tailS (rest1 s)))).2])∧w=w':=fun w=>by
  have:=rread_of (fn0 (tailS (rest1 s))) w (by have:=rest1_le s;have:=tailS_le (rest1 s);have:=fn0_le (tailS (rest1 s));omega);rw[hcv]at this;exact this
 have K3:=hid K3;have eC:pC (rest1 s)=(cv,(rest1 (tailS (rest1 s)))):=by unfold pC;rw[if_neg (by rintro(g | g);exact hzr g;exact g hhr),hcv]
 clear hcv;have eM:pM (rest1 (tailS (rest1 s)))=((rest1 (tailS (rest1 s))).extract 0 1,fn0 (tailS (rest1 (tailS (rest1 s)))),(rest1 (tailS (rest1 (tailS (rest1 s)))))):=by unfold pM;rw[if_neg (by rintro(g | g);exact hzp g;exact hhp g),if_neg (fun g=>hsh g.2)]
 have eL:pL (rest1 (tailS (rest1 (tailS (rest1 s)))))=(-1:Int):=by unfold pL;rw[if_pos (Or.inl hzq)]
 have Hv:=hid (vals eC eM eL);clear eC eM eL;obtain⟨l1,l2,l3,l4,l5,l6⟩:=lens s (rest1 (tailS (rest1 s)));have K1:=hid (fun w=>rsplit_of s w hs);have K2:=hid (fun w=>rsplit_tail (rest1 s) w (by omega));have K4:=hid (fun w=>rsplit_tail (rest1 (tailS (rest1 s))) w (by omega));clear l2 l3 l4 l5 l6;generalize (dg.rd (fn0 (tailS (rest1 s)))).2=ce at *;generalize fn0 (tailS (rest1 s))=ct at *;generalize (rest1 (tailS (rest1 (tailS (rest1 s)))))=r3 at *;generalize fn0 (tailS (rest1 (tailS (rest1 s))))=tv at *;generalize rest1 (tailS (rest1 s))=r2 at *;generalize rest1 s=r at *;generalize hfv:fn0 s=fv at *;have Hf:=hid hfv;clear hfv;have er:0<r.size:=by omega
 have her:=dg.not_empty r hzr;have hxr:headI r=(r[0].toNat:Int):=by unfold headI;rw[dg.headD_zero r er]
 have h1r:((r[0].toNat:Int)==126)=true:=by rw[←hxr,hhr];rfl
 have ep:0<r2.size:=by omega
 have hep:=dg.not_empty r2 hzp;have hxp:headI r2=(r2[0].toNat:Int):=by unfold headI;rw[dg.headD_zero r2 ep]
 clear hzp;have h1p:((r2[0].toNat:Int) != 43)=true:=by rw[←hxp,bne_iff_ne];exact hhp
 have hmk:=mark_open r2 ep;rw[decide_eq_true hop]at hmk;clear hop;have hrs:=rest_shut r3;rw[decide_eq_false hsh]at hrs;clear hsh;have heq:=dg.empty_list r3 hzq;clear hzq;clear hhr hzr;clear hhp;clear hxr;clear hxp;unfold maxLen at hs;go_enter Tryz.func106,Tryz.ntmps106;go_wp2_with fail;refine(K1.out _).mono ?_;rintro e w' ⟨rfl,q1,rfl⟩;go_wp2_with fail;refine(K2.out _).mono ?_;rintro e w' ⟨rfl,q2,rfl⟩;go_wp2_with fail;refine(K3.out _).mono ?_;rintro e w' ⟨rfl,rfl⟩;go_wp2_with fail;refine(K4.out _).mono ?_;rintro e w' ⟨rfl,q3,rfl⟩;go_wp2_with fail;refine bodyPost_ret (v:=.tuple #[.string fv,.int .i64 cv,.string (r2.extract 0 1),.string tv,.int .i64 (-1)]) (by simp only[results,Tryz.results106];go_simp) rfl ?_;exact⟨by rw[Hf.out,Hv.out.1,Hv.out.2.1,Hv.out.2.2.1,Hv.out.2.2.2],_,rfl⟩
theorem parts_tbo(s:ByteArray)(w:World)(hs:s.size≤maxLen)(hzr:¬(rest1 s).size=0)(hhr:headI (rest1 s)=126)(hzp:¬(rest1 (tailS (rest1 s))).size=0)(hhp:headI (rest1 (tailS (rest1 s)))≠43)(hop:headI (rest1 (tailS (rest1 s)))=40)(hsh:(rest1 (tailS (rest1 (tailS (rest1 s)))))≠shutS)(hzq:¬(rest1 (tailS (rest1 (tailS (rest1 s))))).size=0)(hhq:headI (rest1 (tailS (rest1 (tailS (rest1 s)))))≠43):Calls Tryz.prog 106 #[.string s] w (PartsPost s w):=by
 obtain⟨cv,hcv⟩:∃cv,(dg.rd (fn0 (tailS (rest1 s)))).1=cv:=⟨_,rfl⟩;have K3:∀w,Calls Tryz.prog 107 #[.string (fn0 (tailS (rest1 s)))] w fun e w'=>e=.returned (.tuple #[.int .i64 cv,.int .i64 (dg.rd (fn0 (tailS (rest1 s)))).2])∧w=w':=fun w=>by
  have:=rread_of (fn0 (tailS (rest1 s))) w (by have:=rest1_le s;have:=tailS_le (rest1 s);have:=fn0_le (tailS (rest1 s));omega);rw[hcv]at this;exact this
 have K3:=hid K3;have eC:pC (rest1 s)=(cv,(rest1 (tailS (rest1 s)))):=by unfold pC;rw[if_neg (by rintro(g | g);exact hzr g;exact g hhr),hcv]
 clear hcv;have eM:pM (rest1 (tailS (rest1 s)))=((rest1 (tailS (rest1 s))).extract 0 1,fn0 (tailS (rest1 (tailS (rest1 s)))),(rest1 (tailS (rest1 (tailS (rest1 s)))))):=by unfold pM;rw[if_neg (by rintro(g | g);exact hzp g;exact hhp g),if_neg (fun g=>hsh g.2)]
 have eL:pL (rest1 (tailS (rest1 (tailS (rest1 s)))))=(-1:Int):=by unfold pL;rw[if_pos (Or.inr hhq)]
 have Hv:=hid (vals eC eM eL);clear eC eM eL;obtain⟨l1,l2,l3,l4,l5,l6⟩:=lens s (rest1 (tailS (rest1 s)));have K1:=hid (fun w=>rsplit_of s w hs);have K2:=hid (fun w=>rsplit_tail (rest1 s) w (by omega));have K4:=hid (fun w=>rsplit_tail (rest1 (tailS (rest1 s))) w (by omega));clear l2 l3 l4 l5 l6;generalize (dg.rd (fn0 (tailS (rest1 s)))).2=ce at *;generalize fn0 (tailS (rest1 s))=ct at *;generalize (rest1 (tailS (rest1 (tailS (rest1 s)))))=r3 at *;generalize fn0 (tailS (rest1 (tailS (rest1 s))))=tv at *;generalize rest1 (tailS (rest1 s))=r2 at *;generalize rest1 s=r at *;generalize hfv:fn0 s=fv at *;have Hf:=hid hfv;clear hfv;have er:0<r.size:=by omega
 have her:=dg.not_empty r hzr;have hxr:headI r=(r[0].toNat:Int):=by unfold headI;rw[dg.headD_zero r er]
 have h1r:((r[0].toNat:Int)==126)=true:=by rw[←hxr,hhr];rfl
 have ep:0<r2.size:=by omega
 have hep:=dg.not_empty r2 hzp;have hxp:headI r2=(r2[0].toNat:Int):=by unfold headI;rw[dg.headD_zero r2 ep]
 clear hzp;have h1p:((r2[0].toNat:Int) != 43)=true:=by rw[←hxp,bne_iff_ne];exact hhp
 have hmk:=mark_open r2 ep;rw[decide_eq_true hop]at hmk;clear hop;have hrs:=rest_shut r3;rw[decide_eq_false hsh]at hrs;clear hsh;have eq:0<r3.size:=by omega
 have heq:=dg.not_empty r3 hzq;have hxq:headI r3=(r3[0].toNat:Int):=by unfold headI;rw[dg.headD_zero r3 eq]
 clear hzq;have h1q:((r3[0].toNat:Int)==43)=false:=by rw[←hxq,beq_eq_false_iff_ne];exact hhq
 clear hhq hxq;clear hhr hzr;clear hhp;clear hxr;clear hxp;unfold maxLen at hs;go_enter Tryz.func106,Tryz.ntmps106;go_wp2_with fail;refine(K1.out _).mono ?_;rintro e w' ⟨rfl,q1,rfl⟩;go_wp2_with fail;refine(K2.out _).mono ?_;rintro e w' ⟨rfl,q2,rfl⟩;go_wp2_with fail;refine(K3.out _).mono ?_;rintro e w' ⟨rfl,rfl⟩;go_wp2_with fail;refine(K4.out _).mono ?_;rintro e w' ⟨rfl,q3,rfl⟩;go_wp2_with fail;refine bodyPost_ret (v:=.tuple #[.string fv,.int .i64 cv,.string (r2.extract 0 1),.string tv,.int .i64 (-1)]) (by simp only[results,Tryz.results106];go_simp) rfl ?_;exact⟨by rw[Hf.out,Hv.out.1,Hv.out.2.1,Hv.out.2.2.1,Hv.out.2.2.2],_,rfl⟩
theorem parts_tbp(s:ByteArray)(w:World)(hs:s.size≤maxLen)(hzr:¬(rest1 s).size=0)(hhr:headI (rest1 s)=126)(hzp:¬(rest1 (tailS (rest1 s))).size=0)(hhp:headI (rest1 (tailS (rest1 s)))≠43)(hop:headI (rest1 (tailS (rest1 s)))=40)(hsh:(rest1 (tailS (rest1 (tailS (rest1 s)))))≠shutS)(hzq:¬(rest1 (tailS (rest1 (tailS (rest1 s))))).size=0)(hhq:headI (rest1 (tailS (rest1 (tailS (rest1 s)))))=43):Calls Tryz.prog 106 #[.string s] w (PartsPost s w):=by
 obtain⟨cv,hcv⟩:∃cv,(dg.rd (fn0 (tailS (rest1 s)))).1=cv:=⟨_,rfl⟩;have K3:∀w,Calls Tryz.prog 107 #[.string (fn0 (tailS (rest1 s)))] w fun e w'=>e=.returned (.tuple #[.int .i64 cv,.int .i64 (dg.rd (fn0 (tailS (rest1 s)))).2])∧w=w':=fun w=>by
  have:=rread_of (fn0 (tailS (rest1 s))) w (by have:=rest1_le s;have:=tailS_le (rest1 s);have:=fn0_le (tailS (rest1 s));omega);rw[hcv]at this;exact this
 have K3:=hid K3;have eC:pC (rest1 s)=(cv,(rest1 (tailS (rest1 s)))):=by unfold pC;rw[if_neg (by rintro(g | g);exact hzr g;exact g hhr),hcv]
 clear hcv;have eM:pM (rest1 (tailS (rest1 s)))=((rest1 (tailS (rest1 s))).extract 0 1,fn0 (tailS (rest1 (tailS (rest1 s)))),(rest1 (tailS (rest1 (tailS (rest1 s)))))):=by unfold pM;rw[if_neg (by rintro(g | g);exact hzp g;exact hhp g),if_neg (fun g=>hsh g.2)]
 have eL:pL (rest1 (tailS (rest1 (tailS (rest1 s)))))=(dg.rd (tailS (rest1 (tailS (rest1 (tailS (rest1 s))))))).1:=by unfold pL;rw[if_neg (by rintro(g | g);exact hzq g;exact g hhq)]
 have Hv:=hid (vals eC eM eL);clear eC eM eL;obtain⟨l1,l2,l3,l4,l5,l6⟩:=lens s (rest1 (tailS (rest1 s)));have K1:=hid (fun w=>rsplit_of s w hs);have K2:=hid (fun w=>rsplit_tail (rest1 s) w (by omega));have K4:=hid (fun w=>rsplit_tail (rest1 (tailS (rest1 s))) w (by omega));have K5:=hid (fun w=>rread_tail (rest1 (tailS (rest1 (tailS (rest1 s))))) w (by omega));clear l2 l3 l4 l5 l6;generalize (dg.rd (fn0 (tailS (rest1 s)))).2=ce at *;generalize fn0 (tailS (rest1 s))=ct at *;generalize (dg.rd (tailS (rest1 (tailS (rest1 (tailS (rest1 s))))))).1=lv at *;generalize (dg.rd (tailS (rest1 (tailS (rest1 (tailS (rest1 s))))))).2=le at *;generalize (rest1 (tailS (rest1 (tailS (rest1 s)))))=r3 at *;generalize fn0 (tailS (rest1 (tailS (rest1 s))))=tv at *;generalize rest1 (tailS (rest1 s))=r2 at *;generalize rest1 s=r at *;generalize hfv:fn0 s=fv at *;have Hf:=hid hfv;clear hfv;have er:0<r.size:=by omega
 have her:=dg.not_empty r hzr;have hxr:headI r=(r[0].toNat:Int):=by unfold headI;rw[dg.headD_zero r er]
 have h1r:((r[0].toNat:Int)==126)=true:=by rw[←hxr,hhr];rfl
 have ep:0<r2.size:=by omega
 have hep:=dg.not_empty r2 hzp;have hxp:headI r2=(r2[0].toNat:Int):=by unfold headI;rw[dg.headD_zero r2 ep]
 clear hzp;have h1p:((r2[0].toNat:Int) != 43)=true:=by rw[←hxp,bne_iff_ne];exact hhp
 have hmk:=mark_open r2 ep;rw[decide_eq_true hop]at hmk;clear hop;have hrs:=rest_shut r3;rw[decide_eq_false hsh]at hrs;clear hsh;have eq:0<r3.size:=by omega
 have heq:=dg.not_empty r3 hzq;have hxq:headI r3=(r3[0].toNat:Int):=by unfold headI;rw[dg.headD_zero r3 eq]
 clear hzq;have h1q:((r3[0].toNat:Int)==43)=true:=by rw[←hxq,hhq];rfl
 clear hhq hxq;clear hhr hzr;clear hhp;clear hxr;clear hxp;unfold maxLen at hs;go_enter Tryz.func106,Tryz.ntmps106;go_wp2_with fail;refine(K1.out _).mono ?_;rintro e w' ⟨rfl,q1,rfl⟩;go_wp2_with fail;refine(K2.out _).mono ?_;rintro e w' ⟨rfl,q2,rfl⟩;go_wp2_with fail;refine(K3.out _).mono ?_;rintro e w' ⟨rfl,rfl⟩;go_wp2_with fail;refine(K4.out _).mono ?_;rintro e w' ⟨rfl,q3,rfl⟩;go_wp2_with fail;refine(K5.out _).mono ?_;rintro e w' ⟨rfl,rfl⟩;go_wp2_with fail;refine bodyPost_ret (v:=.tuple #[.string fv,.int .i64 cv,.string (r2.extract 0 1),.string tv,.int .i64 lv]) (by simp only[results,Tryz.results106];go_simp) rfl ?_;exact⟨by rw[Hf.out,Hv.out.1,Hv.out.2.1,Hv.out.2.2.1,Hv.out.2.2.2],_,rfl⟩
theorem parts_tsx(s:ByteArray)(w:World)(hs:s.size≤maxLen)(hzr:¬(rest1 s).size=0)(hhr:headI (rest1 s)=126)(hzp:¬(rest1 (tailS (rest1 s))).size=0)(hhp:headI (rest1 (tailS (rest1 s)))≠43)(hop:headI (rest1 (tailS (rest1 s)))=40)(hsh:(rest1 (tailS (rest1 (tailS (rest1 s)))))=shutS):Calls Tryz.prog 106 #[.string s] w (PartsPost s w):=by
 obtain⟨cv,hcv⟩:∃cv,(dg.rd (fn0 (tailS (rest1 s)))).1=cv:=⟨_,rfl⟩;have K3:∀w,Calls Tryz.prog 107 #[.string (fn0 (tailS (rest1 s)))] w fun e w'=>e=.returned (.tuple #[.int .i64 cv,.int .i64 (dg.rd (fn0 (tailS (rest1 s)))).2])∧w=w':=fun w=>by
  have:=rread_of (fn0 (tailS (rest1 s))) w (by have:=rest1_le s;have:=tailS_le (rest1 s);have:=fn0_le (tailS (rest1 s));omega);rw[hcv]at this;exact this
 have K3:=hid K3;have eC:pC (rest1 s)=(cv,(rest1 (tailS (rest1 s)))):=by unfold pC;rw[if_neg (by rintro(g | g);exact hzr g;exact g hhr),hcv]
 clear hcv;have eM:pM (rest1 (tailS (rest1 s)))=((rest1 (tailS (rest1 s))).extract 0 1,fn0 (tailS (rest1 (tailS (rest1 s)))),⟨#[]⟩):=by unfold pM;rw[if_neg (by rintro(g | g);exact hzp g;exact hhp g),if_pos ⟨hop,hsh⟩]
 have eL:pL (⟨#[]⟩:ByteArray)=(-1:Int):=by unfold pL;rw[if_pos (Or.inl (show(⟨#[]⟩:ByteArray).size=0 from rfl))]
 have Hv:=hid (vals eC eM eL);clear eC eM eL;obtain⟨l1,l2,l3,l4,l5,l6⟩:=lens s (rest1 (tailS (rest1 s)));have K1:=hid (fun w=>rsplit_of s w hs);have K2:=hid (fun w=>rsplit_tail (rest1 s) w (by omega));have K4:=hid (fun w=>rsplit_tail (rest1 (tailS (rest1 s))) w (by omega));clear l2 l3 l4 l5 l6;generalize (dg.rd (fn0 (tailS (rest1 s)))).2=ce at *;generalize fn0 (tailS (rest1 s))=ct at *;generalize (rest1 (tailS (rest1 (tailS (rest1 s)))))=r3 at *;generalize fn0 (tailS (rest1 (tailS (rest1 s))))=tv at *;generalize rest1 (tailS (rest1 s))=r2 at *;generalize rest1 s=r at *;generalize hfv:fn0 s=fv at *;have Hf:=hid hfv;clear hfv;have er:0<r.size:=by omega
 have her:=dg.not_empty r hzr;have hxr:headI r=(r[0].toNat:Int):=by unfold headI;rw[dg.headD_zero r er]
 have h1r:((r[0].toNat:Int)==126)=true:=by rw[←hxr,hhr];rfl
 have ep:0<r2.size:=by omega
 have hep:=dg.not_empty r2 hzp;have hxp:headI r2=(r2[0].toNat:Int):=by unfold headI;rw[dg.headD_zero r2 ep]
 clear hzp;have h1p:((r2[0].toNat:Int) != 43)=true:=by rw[←hxp,bne_iff_ne];exact hhp
 have hmk:=mark_open r2 ep;rw[decide_eq_true hop]at hmk;clear hop;have hrs:=rest_shut r3;rw[decide_eq_true hsh]at hrs;clear hsh;clear hhr hzr;clear hhp;clear hxr;clear hxp;unfold maxLen at hs;go_enter Tryz.func106,Tryz.ntmps106;go_wp2_with fail;refine(K1.out _).mono ?_;rintro e w' ⟨rfl,q1,rfl⟩;go_wp2_with fail;refine(K2.out _).mono ?_;rintro e w' ⟨rfl,q2,rfl⟩;go_wp2_with fail;refine(K3.out _).mono ?_;rintro e w' ⟨rfl,rfl⟩;go_wp2_with fail;refine(K4.out _).mono ?_;rintro e w' ⟨rfl,q3,rfl⟩;go_wp2_with fail;refine bodyPost_ret (v:=.tuple #[.string fv,.int .i64 cv,.string (r2.extract 0 1),.string tv,.int .i64 (-1)]) (by simp only[results,Tryz.results106];go_simp) rfl ?_;exact⟨by rw[Hf.out,Hv.out.1,Hv.out.2.1,Hv.out.2.2.1,Hv.out.2.2.2],_,rfl⟩
theorem parts_any(s:ByteArray)(w:World)(hs:s.size≤maxLen):Calls Tryz.prog 106 #[.string s] w (PartsPost s w):=by
 by_cases hzr:(rest1 s).size=0
 ·exact parts_nnx s w hs hzr
 by_cases hhr:headI (rest1 s)=126
 ·by_cases hzp:(rest1 (tailS (rest1 s))).size=0
  ·exact parts_tnx s w hs hzr hhr hzp
  by_cases hhp:headI (rest1 (tailS (rest1 s)))=43
  ·exact parts_tpx s w hs hzr hhr hzp hhp
  by_cases hop:headI (rest1 (tailS (rest1 s)))=40
  ·by_cases hsh:(rest1 (tailS (rest1 (tailS (rest1 s)))))=shutS
   ·exact parts_tsx s w hs hzr hhr hzp hhp hop hsh
   by_cases hzq:(rest1 (tailS (rest1 (tailS (rest1 s))))).size=0
   ·exact parts_tbn s w hs hzr hhr hzp hhp hop hsh hzq
   by_cases hhq:headI (rest1 (tailS (rest1 (tailS (rest1 s)))))=43
   ·exact parts_tbp s w hs hzr hhr hzp hhp hop hsh hzq hhq
   exact parts_tbo s w hs hzr hhr hzp hhp hop hsh hzq hhq
  by_cases hzq:(rest1 (tailS (rest1 (tailS (rest1 s))))).size=0
  ·exact parts_tmn s w hs hzr hhr hzp hhp hop hzq
  by_cases hhq:headI (rest1 (tailS (rest1 (tailS (rest1 s)))))=43
  ·exact parts_tmp s w hs hzr hhr hzp hhp hop hzq hhq
  exact parts_tmo s w hs hzr hhr hzp hhp hop hzq hhq
 by_cases hhp:headI (rest1 s)=43
 ·exact parts_opx s w hs hzr hhr hhp
 by_cases hop:headI (rest1 s)=40
 ·by_cases hsh:(rest1 (tailS (rest1 s)))=shutS
  ·exact parts_osx s w hs hzr hhr hhp hop hsh
  by_cases hzq:(rest1 (tailS (rest1 s))).size=0
  ·exact parts_obn s w hs hzr hhr hhp hop hsh hzq
  by_cases hhq:headI (rest1 (tailS (rest1 s)))=43
  ·exact parts_obp s w hs hzr hhr hhp hop hsh hzq hhq
  exact parts_obo s w hs hzr hhr hhp hop hsh hzq hhq
 by_cases hzq:(rest1 (tailS (rest1 s))).size=0
 ·exact parts_omn s w hs hzr hhr hhp hop hzq
 by_cases hhq:headI (rest1 (tailS (rest1 s)))=43
 ·exact parts_omp s w hs hzr hhr hhp hop hzq hhq
 exact parts_omo s w hs hzr hhr hhp hop hzq hhq
end nm
end Go.Proofs.YtlkboeajkgbnaaaGreatDoor
