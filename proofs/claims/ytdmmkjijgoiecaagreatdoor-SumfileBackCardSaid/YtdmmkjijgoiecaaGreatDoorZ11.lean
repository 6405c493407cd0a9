import Derived.Test.YtdmmkjijgoiecaaGreatDoorZ10
import Derived.Test.YtdmmkjijgoiecaaGreatDoorZ05
import Derived.Test.YtdmmkjijgoiecaaGreatDoorZ08
set_option linter.all false
set_option maxHeartbeats 4000000
namespace Go.Proofs.YtdmmkjijgoiecaaGreatDoor
open Lib(hid)
namespace sf
open RowKit Go.Sort Shelf mem vr po inn sy
open re (MU)
theorem EK.ac{w:World}{u:MU}(h:EK w u):∀x∈u.s.cs,x.c.args.length≤8796093022208:=fun x J=>h.a _ (List.mem_map.2 ⟨x,J,rfl⟩)
end sf
set_option maxRecDepth 100000
namespace sf
open RowKit Go.Sort Shelf mem sy re inn
theorem aD3(w:World)(A B:Option Addr)(c d:Nat)(l m:List (List UInt8))(hA:Rd w A (l.map encStr))(hB:Rd w B (m.map encStr))(a5:l.length≤maxLen)(a6:m.length≤maxLen) :
 Calls Tryz.prog 53 #[.slice A l.length c,.slice B m.length d] w (EqP (l=m) w):=by
 by_cases hlen:l.length=m.length
 rotate_left
 ·have hP:Hid (¬l=m):=hid (fun e=>hlen (by rw[e]))
  have d0:(((l.length:Nat):Int) != (m.length:Int))=true:=by rw[bne_iff_ne];omega
  clear hA hB hlen;generalize l.length=n1 at *;generalize m.length=n2 at *;generalize (l=m)=Q at *;go_enter Tryz.func53,Tryz.ntmps53;go_wp2_with fail;go_ret;exact jG hP.out (Below.refl _ _)
 rcases Nat.eq_zero_or_pos l.length with hz | hz
 ·obtain rfl:=List.eq_nil_of_length_eq_zero hz
  obtain rfl:=List.eq_nil_of_length_eq_zero (hlen.symm.trans hz);refine(inn.aBd w A B c d).mono ?_;rintro e w' ⟨rfl,b⟩;exact zS rfl b
 obtain⟨g1,o1,rfl,a2,J⟩:=uE hA hz;obtain⟨g2,o2,rfl,a3,h2⟩:=uE hB (by omega)
 have H1:=hid J;have H2:=hid h2;have L1:=hid a2;have L2:=hid a3;have a0:Hid ((∀j (J:j<l.length) (h2:j<m.length),l[j] = m[j])→l=m):=hid (fun h=>List.ext_getElem hlen (fun j a b=>h j a b))
 have a4:Hid (∀j (J:j<l.length) (h2:j<m.length),¬l[j] = m[j]→¬l=m):=hid (fun j J h2 h e=>h (by subst e;rfl))
 unfold maxLen at a5;clear J h2 hA hB a2 a3 a6 hz;obtain⟨Q,hQ⟩:∃Q,Hid (Q=(l=m)):=⟨_,hid rfl⟩;rw[←hQ.out]at a0 a4 ⊢;clear hQ;rw[←hlen];replace hlen:=hid hlen;obtain⟨n,hn⟩:∃n,Hid (n=l.length):=⟨_,hid rfl⟩;rw[←hn.out]at a5 ⊢;have d0:(((n:Nat):Int) != (n:Int))=false:=by simp
 go_enter Tryz.func53,Tryz.ntmps53;go_wp2_with fail
 go_loopw [5] (fun i wr=>∃k:Nat,k≤n∧i=.int .i64 k∧Hid (∀j (J:j<l.length) (h2:j<m.length),j<k→l[j] = m[j])∧Hid (Below w.heap.size w wr)) (fun i _=>n-(intOf i).toNat)
 case atStart=>exact⟨0,by omega,rfl,hid (fun j _ _ h=>by omega),hid (Below.refl _ _)⟩
 case round=>
  obtain⟨k,hk,rfl,hG,hb⟩:=hrel;rename_i wr _
  by_cases a7:k<n
  ·have e1:decide ((k:Int)<(n:Int))=true:=aC (by omega)
   have k1:k<l.length:=by rw[←hn.out];exact a7
   have k2:k<m.length:=by rw[←hlen.out];exact k1
   have ck:wr.cell? ⟨g1,o1+k,none⟩=some (encStr l[k]):=(hb.out.cell (p:=⟨g1,o1+k,none⟩) L1.out).trans (H1.out k k1);have cm:wr.cell? ⟨g2,o2+k,none⟩=some (encStr m[k]):=(hb.out.cell (p:=⟨g2,o2+k,none⟩) L2.out).trans (H2.out k k2)
   have hY:Hid (l[k] = m[k]→∀j (J:j<l.length) (h2:j<m.length),j<k+1→l[j] = m[j]):=hid (fun h j J h2 hj=>by
    by_cases e:j=k
    ·subst e;exact h
    ·exact hG.out j J h2 (by omega))
   have hZ:=hid (a4.out k k1 k2);clear hG;unfold encStr at ck cm;generalize l[k] = x at *;generalize m[k] = y at *
   by_cases Y:x=y
   ·subst Y
    have a8:=hid (hY.out rfl);clear hY hZ;generalize (ByteArray.mk x.toArray)=z at *;have e2:(z.data != z.data)=false:=by simp
    have a1:=hid hb.out.drew;clear hb;go_wp2_with fail
    go_region
    go_wp2_with fail
    go_roundw
    case rel=>exact⟨k+1,by omega,by go_num,a8,a1⟩
    case measure=>simp[intOf];omega
   ·have hP:=hid (hZ.out Y)
    have e2:((ByteArray.mk x.toArray).data != (ByteArray.mk y.toArray).data)=true:=by
     rw[bne_iff_ne];intro e
     apply Y
     have:=congrArg Array.toList e
     simpa using this
    have e3:((ByteArray.mk x.toArray).toList==(ByteArray.mk y.toArray).toList)=false:=aBq (fun e=>Y (by have:=congrArg (fun z:ByteArray=>z.data.toList) e;simpa using this))
    have a1:=hid hb.out.drew;clear hb hY hZ Y;generalize (ByteArray.mk x.toArray)=z1 at *;generalize (ByteArray.mk y.toArray)=z2 at *;go_wp2_with fail
    go_region
    go_wp2_with fail;go_ret;exact jG hP.out a1.out
  ·obtain rfl:k=n:=by omega
   have e1:decide ((k:Int)<(k:Int))=false:=aB (by omega)
   have hP:Hid Q:=hid (a0.out (fun j J h2=>hG.out j J h2 (by rw[←hn.out]at J;exact J)))
   go_wp2_with fail;go_ret;exact zS hP.out hb.out
theorem aNc{a b:ByteArray}(h:tx a=tx b):a=b:=by
 obtain⟨⟨l⟩⟩:=a;obtain⟨⟨m⟩⟩:=b;have h:l=m:=h;rw[h]
theorem aBu:∀{l m:List ByteArray},l.map tx=m.map tx→l=m
 | [],[],_=>rfl
 | [],_ :: _,h=>by simp at h
 | _ :: _,[],h=>by simp at h
 | a :: l,b :: m,h=>by
  rw[aV,aV]at h;injection h with h1 h2;rw[aNc h1,aBu h2]
theorem yL(w:World)(A B:Option Addr)(c d:Nat)(l m:List ByteArray)(hA:Rd w A (l.map Value.string))(hB:Rd w B (m.map Value.string))(Y:l.length≤maxLen)(J:m.length≤maxLen) :
 Calls Tryz.prog 53 #[.slice A l.length c,.slice B m.length d] w (EqP (l=m) w):=by
 have k:=aD3 w A B c d (l.map tx) (m.map tx) (by rw[nY];exact hA) (by rw[nY];exact hB) (by rw[aH];exact Y) (by rw[aH];exact J)
 rw[aH,aH]at k;have e:(l.map tx=m.map tx)=(l=m):=propext ⟨aBu,fun h=>by rw[h]⟩
 rw[e]at k;exact k
structure SuG(s:SU):Prop where
 g:s.gives.length≤maxLen
 w:s.wants.length≤maxLen
 k:s.keeps.length≤maxLen
 a:∀c∈s.sys.cons,c.args.length≤8796093022208
theorem aMw(a b:SF)(w:World):(binOp .neq 103 (.agg #[.string a.name,.string a.kinds,.string a.ret]) (.agg #[.string b.name,.string b.kinds,.string b.ret])).run Tryz.prog w=.ok (.bool (!aCA a b)) w:=by
 rw[run_neq_struct,run_equalIn_struct _ _ _ _ _ aCz aCM];have h:=aBA;generalize (Tryz.prog.fieldsOf 103).toList=fs at *
 rcases fs with _ | ⟨J,_ | ⟨f1,_ | ⟨Y,_ | ⟨f3,fs⟩⟩⟩⟩
 all_goals first | (simp at h;done) | skip
 simp only[aV,aU,List.cons.injEq,Prod.mk.injEq,and_true]at h;obtain⟨⟨a0,b0,c0⟩,⟨a1,b1,c1⟩,⟨a2,b2,c2⟩⟩:=h;have p0:∀d:SF,(part J.type #[.string d.name,.string d.kinds,.string d.ret] J.offset).run Tryz.prog w=.ok (.string d.name) w:=fun d=>by rw[b0,c0];kernel_rfl
 have p1:∀d:SF,(part f1.type #[.string d.name,.string d.kinds,.string d.ret] f1.offset).run Tryz.prog w=.ok (.string d.kinds) w:=fun d=>by rw[b1,c1];kernel_rfl
 have p2:∀d:SF,(part Y.type #[.string d.name,.string d.kinds,.string d.ret] Y.offset).run Tryz.prog w=.ok (.string d.ret) w:=fun d=>by rw[b2,c2];kernel_rfl
 have i0:(Op.equalIn 9999 J.type (.string a.name) (.string b.name)).run Tryz.prog w=.ok (a.name.toList==b.name.toList) w:=by rw[b0];exact run_equalIn_string w 9998 _ _ _ Tryz.underlying9
 have i1:(Op.equalIn 9999 f1.type (.string a.kinds) (.string b.kinds)).run Tryz.prog w=.ok (a.kinds.toList==b.kinds.toList) w:=by rw[b1];exact run_equalIn_string w 9998 _ _ _ Tryz.underlying9
 have i2:(Op.equalIn 9999 Y.type (.string a.ret) (.string b.ret)).run Tryz.prog w=.ok (a.ret.toList==b.ret.toList) w:=by rw[b2];exact run_equalIn_string w 9998 _ _ _ Tryz.underlying9
 rw[nm.gX 9999 _ _ J _ _ _ _ w a0 (p0 a) (p0 b) i0,nm.gX 9999 _ _ f1 _ _ _ _ w a1 (p1 a) (p1 b) i1,nm.gX 9999 _ _ Y _ _ _ _ w a2 (p2 a) (p2 b) i2];unfold aCA;cases(a.name.toList==b.name.toList) <;> cases(a.kinds.toList==b.kinds.toList) <;> cases(a.ret.toList==b.ret.toList) <;> simp[Op.eqFields,Sem.run_pure,Result.andThen]
theorem aOo:aKU:=⟨fun a b w=>aFk a b w,aMw,fun op x y xs ys w=>run_eqGuard_agg w op _ x y xs ys aCl,fun op x y xs ys w=>run_eqGuard_agg w op _ x y xs ys aCT⟩
theorem aKe(u v:MU)(w:World)(hu:eY w u)(hv:eY w v)(hl:SuG u.su)(ah:SuG v.su) :
 Calls Tryz.prog 16 #[u.val,v.val] w (EqP (u.su=v.su) w):=by
 obtain⟨un,a2,a4,ug,Y,a3,uw,a1,a0,uk,us⟩:=u;obtain⟨vn,a6,a7,vg,a8,a5,vw,aa,a9,vk,vs⟩:=v;obtain⟨W,ag⟩:∃W,Hid (W=(w.alloc (.cells #[.string un,.slice a2 ug.length a4,.slice Y uw.length a3,.slice a1 uk.length a0,.slice us.oA us.os.length us.oc,.slice us.fA us.fs.length us.fc,.slice us.cA us.cs.length us.cc] 29)).alloc (.cells #[.string vn,.slice a6 vg.length a7,.slice a8 vw.length a5,.slice aa vk.length a9,.slice vs.oA vs.os.length vs.oc,.slice vs.fA vs.fs.length vs.fc,.slice vs.cA vs.cs.length vs.cc] 29)):=⟨_,hid rfl⟩;have b1:Below w.heap.size w (w.alloc (.cells #[.string un,.slice a2 ug.length a4,.slice Y uw.length a3,.slice a1 uk.length a0,.slice us.oA us.os.length us.oc,.slice us.fA us.fs.length us.fc,.slice us.cA us.cs.length us.cc] 29)):=(Below.refl _ _).alloc (aY _) _;have b0:Below w.heap.size w W:=by rw[ag.out];exact b1.alloc b1.size _
 have hz:(w.alloc (.cells #[.string un,.slice a2 ug.length a4,.slice Y uw.length a3,.slice a1 uk.length a0,.slice us.oA us.os.length us.oc,.slice us.fA us.fs.length us.fc,.slice us.cA us.cs.length us.cc] 29)).heap.size=w.heap.size+1:=bH _;have BX:bT W w.heap.size 29 #[.string un,.slice a2 ug.length a4,.slice Y uw.length a3,.slice a1 uk.length a0,.slice us.oA us.os.length us.oc,.slice us.fA us.fs.length us.fc,.slice us.cA us.cs.length us.cc]:=by rw[ag.out];exact(bT.new w _ _).kept ((Fr.refl [] _).alloc _) (by simp)
 have BY:bT W (w.heap.size+1) 29 #[.string vn,.slice a6 vg.length a7,.slice a8 vw.length a5,.slice aa vk.length a9,.slice vs.oA vs.os.length vs.oc,.slice vs.fA vs.fs.length vs.fc,.slice vs.cA vs.cs.length vs.cc]:=by rw[ag.out,←hz];exact bT.new _ _ _
 have HC:Hid (∀J,Below W.heap.size W J→(J.cell? ⟨w.heap.size,0,none⟩=some (.string un)∧J.cell? ⟨w.heap.size,1,none⟩=some (.slice a2 ug.length a4)∧J.cell? ⟨w.heap.size,2,none⟩=some (.slice Y uw.length a3)∧J.cell? ⟨w.heap.size,3,none⟩=some (.slice a1 uk.length a0)∧J.cell? ⟨w.heap.size,4,none⟩=some (.slice us.oA us.os.length us.oc)∧J.cell? ⟨w.heap.size,5,none⟩=some (.slice us.fA us.fs.length us.fc)∧J.cell? ⟨w.heap.size,6,none⟩=some (.slice us.cA us.cs.length us.cc))∧J.cell? ⟨w.heap.size+1,0,none⟩=some (.string vn)∧J.cell? ⟨w.heap.size+1,1,none⟩=some (.slice a6 vg.length a7)∧J.cell? ⟨w.heap.size+1,2,none⟩=some (.slice a8 vw.length a5)∧J.cell? ⟨w.heap.size+1,3,none⟩=some (.slice aa vk.length a9)∧J.cell? ⟨w.heap.size+1,4,none⟩=some (.slice vs.oA vs.os.length vs.oc)∧J.cell? ⟨w.heap.size+1,5,none⟩=some (.slice vs.fA vs.fs.length vs.fc)∧J.cell? ⟨w.heap.size+1,6,none⟩=some (.slice vs.cA vs.cs.length vs.cc)):=hid (fun J b=>by
  have p:=BX.kept (Fr.of_below b []) (by simp)
  have q:=BY.kept (Fr.of_below b []) (by simp)
  exact⟨⟨p.cell 0,p.cell 1,p.cell 2,p.cell 3,p.cell 4,p.cell 5,p.cell 6⟩,q.cell 0,q.cell 1,q.cell 2,q.cell 3,q.cell 4,q.cell 5,q.cell 6⟩)
 have HE:Hid (∀J,Below W.heap.size W J→Below w.heap.size w J):=hid (fun J b=>b0.trans (b.mono b0.size))
 have R0:=hid (Below.refl W.heap.size W);have HX:∀J,Below W.heap.size W J→eY J ⟨un,a2,a4,ug,Y,a3,uw,a1,a0,uk,us⟩∧eY J ⟨vn,a6,a7,vg,a8,a5,vw,aa,a9,vk,vs⟩:=fun J b=>⟨(hu.below b0).below b,(hv.below b0).below b⟩
 have K1:=hid (fun(J:World) (b:Below W.heap.size W J)=>yL J a2 a6 a4 a7 ug vg (HX J b).1.gr (HX J b).2.gr hl.g ah.g)
 have K2:=hid (fun(J:World) (b:Below W.heap.size W J)=>yL J Y a8 a3 a5 uw vw (HX J b).1.wr (HX J b).2.wr hl.w ah.w)
 have K3:=hid (fun(J:World) (b:Below W.heap.size W J)=>yL J a1 aa a0 a9 uk vk (HX J b).1.kr (HX J b).2.kr hl.k ah.k)
 have K4:=hid (fun(J:World) (b:Below W.heap.size W J)=>aJo aOo us vs J (HX J b).1.sr (HX J b).2.sr hl.a ah.a)
 have ai:Hid (un=vn→ug=vg→uw=vw→uk=vk→us.sys=vs.sys→(MU.su ⟨un,a2,a4,ug,Y,a3,uw,a1,a0,uk,us⟩=MU.su ⟨vn,a6,a7,vg,a8,a5,vw,aa,a9,vk,vs⟩)):=hid (fun h1 h2 h3 h4 h5=>by unfold MU.su;dsimp only;rw[h1,h2,h3,h4,h5])
 have ae:Hid ((MU.su ⟨un,a2,a4,ug,Y,a3,uw,a1,a0,uk,us⟩=MU.su ⟨vn,a6,a7,vg,a8,a5,vw,aa,a9,vk,vs⟩)→un=vn∧ug=vg∧uw=vw∧uk=vk∧us.sys=vs.sys):=hid (fun e=>⟨congrArg SU.name e,congrArg SU.gives e,congrArg SU.wants e,congrArg SU.keeps e,congrArg SU.sys e⟩)
 obtain⟨Q,hQ⟩:∃Q,Hid (Q=(MU.su ⟨un,a2,a4,ug,Y,a3,uw,a1,a0,uk,us⟩=MU.su ⟨vn,a6,a7,vg,a8,a5,vw,aa,a9,vk,vs⟩)):=⟨_,hid rfl⟩;rw[←hQ.out]at ai ae ⊢;have h2:Hid (pB (ug=vg)=true↔ug=vg):=hid rY;have h3:Hid (pB (uw=vw)=true↔uw=vw):=hid rY;have h4:Hid (pB (uk=vk)=true↔uk=vk):=hid rY;have h5:Hid (pB (us.sys=vs.sys)=true↔us.sys=vs.sys):=hid rY;unfold EqP at K1 K2 K3 K4;generalize pB (ug=vg)=q2 at *;generalize pB (uw=vw)=q3 at *;generalize pB (uk=vk)=q4 at *;generalize pB (us.sys=vs.sys)=q5 at *;unfold MS.val at K4;unfold MU.val MU.row;dsimp only;obtain⟨⟨x0,x1,x2,x3,x4,x5,x6⟩,y0,y1,y2,y3,y4,y5,y6⟩:=HC.out W R0.out;have E0:=hid (HE.out W R0.out);clear hu hv b1 b0 hz BX BY HX hl ah hQ
 by_cases hn:un=vn
 rotate_left
 ·have hP:Hid (¬Q):=hid (fun q=>hn (ae.out q).1)
  have s0:(un.data==vn.data)=false:=by rw[bI];exact fun e=>hn (ByteArray.ext e)
  have s1:=aBq hn;clear K1 K2 K3 K4 HC HE R0 ai ae h2 h3 h4 h5 hn;go_enter Tryz.func16,Tryz.ntmps16;go_upto_region 1 with fail;rw[←ag.out];go_wp2_with fail;go_ret;exact jG hP.out E0.out
 subst hn;clear E0;have s0:(un.data==un.data)=true:=by simp
 go_enter Tryz.func16,Tryz.ntmps16;go_upto_region 1 with fail;rw[←ag.out];clear ag;generalize af:w.heap.size=bx at *;replace af:=hid af;have KA:=hid (K1.out W R0.out);go_wp2_with fail;refine KA.out.mono ?_;rintro e J ⟨rfl,b2⟩;have B2:=hid (R0.out.trans (b2.mono R0.out.size));clear b2 KA x0 x1 x2 x3 x4 x5 x6 y0 y1 y2 y3 y4 y5 y6
 rcases q2 with _ | _
 ·have hP:Hid (¬Q):=hid (fun q=>by have:=h2.out.2 (ae.out q).2.1;cases this)
  have E:=hid (HE.out _ B2.out);go_wp2_with fail;go_ret;exact jG hP.out (by rw[af.out];exact E.out)
 obtain⟨⟨x0,x1,x2,x3,x4,x5,x6⟩,y0,y1,y2,y3,y4,y5,y6⟩:=HC.out J B2.out;have KA:=hid (K2.out J B2.out);go_wp2_with fail;refine KA.out.mono ?_;rintro e w3 ⟨rfl,b2⟩;have B3:=hid (B2.out.trans (b2.mono B2.out.size));clear b2 KA x0 x1 x2 x3 x4 x5 x6 y0 y1 y2 y3 y4 y5 y6
 rcases q3 with _ | _
 ·have hP:Hid (¬Q):=hid (fun q=>by have:=h3.out.2 (ae.out q).2.2.1;cases this)
  have E:=hid (HE.out _ B3.out);go_wp2_with fail;go_ret;exact jG hP.out (by rw[af.out];exact E.out)
 obtain⟨⟨x0,x1,x2,x3,x4,x5,x6⟩,y0,y1,y2,y3,y4,y5,y6⟩:=HC.out w3 B3.out;have KA:=hid (K3.out w3 B3.out);go_wp2_with fail;refine KA.out.mono ?_;rintro e w4 ⟨rfl,b2⟩;have B4:=hid (B3.out.trans (b2.mono B3.out.size));clear b2 KA x0 x1 x2 x3 x4 x5 x6 y0 y1 y2 y3 y4 y5 y6
 rcases q4 with _ | _
 ·have hP:Hid (¬Q):=hid (fun q=>by have:=h4.out.2 (ae.out q).2.2.2.1;cases this)
  have E:=hid (HE.out _ B4.out);go_wp2_with fail;go_ret;exact jG hP.out (by rw[af.out];exact E.out)
 obtain⟨⟨x0,x1,x2,x3,x4,x5,x6⟩,y0,y1,y2,y3,y4,y5,y6⟩:=HC.out w4 B4.out;have KA:=hid (K4.out w4 B4.out);go_wp2_with fail;refine KA.out.mono ?_;rintro e w5 ⟨rfl,b2⟩;have E:=hid (HE.out w5 (B4.out.trans (b2.mono B4.out.size)));clear b2 KA x0 x1 x2 x3 x4 x5 x6 y0 y1 y2 y3 y4 y5 y6
 rcases q5 with _ | _
 ·have hP:Hid (¬Q):=hid (fun q=>by have:=h5.out.2 (ae.out q).2.2.2.2;cases this)
  go_wp2_with fail;go_ret;exact jG hP.out (by rw[af.out];exact E.out)
 ·have hP:Hid Q:=hid (ai.out (by first | rfl | trivial) (h2.out.1 (by first | rfl | trivial)) (h3.out.1 (by first | rfl | trivial)) (h4.out.1 (by first | rfl | trivial)) (h5.out.1 (by first | rfl | trivial)))
  go_wp2_with fail;go_ret;exact zS hP.out (by rw[af.out];exact E.out)
end sf
set_option maxRecDepth 100000
set_option maxHeartbeats 8000000
namespace sf
open RowKit Go.Sort Shelf mem vr po inn sy
open re (MU SU eY aAq mR RB WkP GSP pV RDP SuL aG5 mM dB Ev mu0 aAL su0 nQ pG)
open nm (iE bQ)
theorem aJ3{w:World}{u:MU}{b:ByteArray}(hm:eY w u)(h:fQ b=0)(e:u.su=jV b):EK w u:=by
 have h1:=(yX h).1;have Y:=tH h;have J:=vY Y.1;rw[←e]at Y J
 exact aKm hm (by omega) (fun s hs=>by
  have:=J.2.2.1 _ (aGk hs);rw[show(re.tx s).length=s.size from re.aFT s]at this
  unfold maxLen;omega)
theorem aMJ{s:SU}(h:SuL s):SuG s:=⟨aZ h.g (by decide),aZ h.w (by decide),aZ h.k (by decide),h.a⟩
theorem aDm{s:SU}(h:mR s):SuL s:=⟨aZ h.g.1 (by decide),aZ h.w.1 (by decide),aZ h.k.1 (by decide),fun c hc=>aZ (h.s.a c hc) (by decide)⟩
theorem aMv{s t:SU}(hs:mR s)(J:mR t)(Y:fV s=0)(h2:fV t=0):jT s=jT t↔s=t:=by
 refine⟨fun e=>?_,fun e=>by rw[e]⟩
 unfold jT at e;rw[if_pos Y,if_pos h2]at e;have a1:=(uB Y (pG hs) (nQ hs)).2;have a2:=(uB h2 (pG J) (nQ J)).2;rw[←a1,←a2,e]
theorem aE0{b:ByteArray}(h:fQ b≠0):jV b=su0:=by
 unfold jV;rw[if_neg h]
theorem aI8{b:ByteArray}(h:fQ b=0):jT (jV b)=b:=by
 have J:=tH h;unfold jT;rw[if_pos J.1];exact J.2.1
theorem aIv{s:SU}(hs:mR s)(h:fV s=0):(jT s).size+3≤maxLen∧fQ (jT s)=0∧jV (jT s)=s:=by
 unfold jT;rw[if_pos h];refine⟨?_,uB h (pG hs) (nQ hs)⟩;have:=(vY h).2.2.2;rw[xN];unfold maxLen;omega
def aOL(b:ByteArray)(w:World)(e:Ending)(w':World):Prop:=e=.returned (.tuple #[.string b,.int .i64 0])∧Below w.heap.size w w'
theorem aJH(a c:MU)(b:ByteArray)(w:World)(hs:eY w a)(hb:aAq RB a)(ae:eY w c)(ah:aAq RB c)(hr:b.size≤140737488355328)(ag:iE w):Calls Tryz.prog 5 #[a.val,c.val,.string b] w (WkP w):=by
 obtain⟨W,aa⟩:∃W,Hid (W=(w.alloc (.cells a.row 29)).alloc (.cells c.row 29)):=⟨_,hid rfl⟩;have b1:Below w.heap.size w (w.alloc (.cells a.row 29)):=(Below.refl _ _).alloc (aY _) _;have b0:Below w.heap.size w W:=by rw[aa.out];exact b1.alloc b1.size _
 have hz:(w.alloc (.cells a.row 29)).heap.size=w.heap.size+1:=bH _;have BX:bT W w.heap.size 29 a.row:=by rw[aa.out];exact(bT.new w _ _).kept ((Fr.refl [] _).alloc _) (by simp)
 have BY:bT W (w.heap.size+1) 29 c.row:=by rw[aa.out,←hz];exact bT.new _ _ _
 have HC:Hid (∀J,Below W.heap.size W J→(J.cell? ⟨w.heap.size,0,none⟩=some (.string a.name)∧J.cell? ⟨w.heap.size,1,none⟩=some (.slice a.gA a.gives.length a.gc)∧J.cell? ⟨w.heap.size,2,none⟩=some (.slice a.wA a.wants.length a.wc)∧J.cell? ⟨w.heap.size,3,none⟩=some (.slice a.kA a.keeps.length a.kc)∧J.cell? ⟨w.heap.size,4,none⟩=some (.slice a.s.oA a.s.os.length a.s.oc)∧J.cell? ⟨w.heap.size,5,none⟩=some (.slice a.s.fA a.s.fs.length a.s.fc)∧J.cell? ⟨w.heap.size,6,none⟩=some (.slice a.s.cA a.s.cs.length a.s.cc))∧J.cell? ⟨w.heap.size+1,0,none⟩=some (.string c.name)∧J.cell? ⟨w.heap.size+1,1,none⟩=some (.slice c.gA c.gives.length c.gc)∧J.cell? ⟨w.heap.size+1,2,none⟩=some (.slice c.wA c.wants.length c.wc)∧J.cell? ⟨w.heap.size+1,3,none⟩=some (.slice c.kA c.keeps.length c.kc)∧J.cell? ⟨w.heap.size+1,4,none⟩=some (.slice c.s.oA c.s.os.length c.s.oc)∧J.cell? ⟨w.heap.size+1,5,none⟩=some (.slice c.s.fA c.s.fs.length c.s.fc)∧J.cell? ⟨w.heap.size+1,6,none⟩=some (.slice c.s.cA c.s.cs.length c.s.cc)):=hid (fun J b=>by
  have p:=BX.kept (Fr.of_below b []) (by simp)
  have q:=BY.kept (Fr.of_below b []) (by simp)
  exact⟨⟨p.cell 0,p.cell 1,p.cell 2,p.cell 3,p.cell 4,p.cell 5,p.cell 6⟩,q.cell 0,q.cell 1,q.cell 2,q.cell 3,q.cell 4,q.cell 5,q.cell 6⟩)
 have HE:Hid (∀J,Below W.heap.size W J→Below w.heap.size w J):=hid (fun J b=>b0.trans (b.mono b0.size))
 have R0:=hid (Below.refl W.heap.size W);have HT:∀J,Below W.heap.size W J→iE J:=fun J b=>bQ (bQ ag b0) b
 have KG:=hid (fun(J:World) (x:Below W.heap.size W J)=>pV a J ((hs.below b0).below x) hb)
 have a8:=hid (fun(J:World) (x:Below W.heap.size W J)=>pV c J ((ae.below b0).below x) ah)
 have KW:=hid (xH W (HT W (Below.refl _ _)));have KE:=hid (fun(h:mR a.su) (J:World) (x:Below W.heap.size W J)=>mP J a (aBn ((hs.below b0).below x) hb h) (HT J x))
 have KF:=hid (fun(h:mR c.su) (J:World) (x:Below W.heap.size W J)=>mP J c (aBn ((ae.below b0).below x) ah h) (HT J x))
 have MD:Hid (mR a.su→fV a.su=0→∀J,Below W.heap.size W J→Calls Tryz.prog 12 #[.string (jT a.su)] J (RDP a.su 0 J)):=hid (fun h h0 J x=>by
  have k:=aIv h h0;have z:=qQ (jT a.su) J k.1 (HT J x);rw[k.2.1,k.2.2]at z
  exact z)
 have MS:Hid (mR a.su→∀J (u:MU),eY J u→Below W.heap.size W J→u.su=a.su→Calls Tryz.prog 16 #[u.val,a.val] J (cZ true J)):=hid (fun h J u hu x e=>mM u a J hu ((hs.below b0).below x) e (by rw[e];exact aDm h))
 have MQ:Hid (mR a.su→mR c.su→∀J,Below W.heap.size W J→Calls Tryz.prog 16 #[a.val,c.val] J (EqP (a.su=c.su) J)):=hid (fun h h2 J x=>aKe a c J ((hs.below b0).below x) ((ae.below b0).below x) (aMJ (aDm h)) (aMJ (aDm h2)))
 have a2:Hid (mR a.su→mR c.su→fV a.su=0→fV c.su=0→(jT a.su=jT c.su↔pB (a.su=c.su)=true)):=hid (fun h h2 e1 e2=>(aMv h h2 e1 e2).trans rY.symm)
 have TD:Hid (b.size≤8000→∀J,Below W.heap.size W J→Calls Tryz.prog 12 #[.string b] J (RDP (jV b) (fQ b) J)):=hid (fun h J x=>qQ b J (by unfold maxLen;omega) (HT J x))
 have TS:Hid (fQ b≠0→∀J (v:MU),eY J v→v.su=jV b→Calls Tryz.prog 16 #[v.val,.agg #[.string ⟨#[]⟩,.slice none 0 0,.slice none 0 0,.slice none 0 0,.slice none 0 0,.slice none 0 0,.slice none 0 0]] J (cZ true J)):=hid (fun h J v hv e=>mM v mu0 J hv (aAL J) (by rw[e,aE0 h];rfl) (by rw[e,aE0 h];exact aG5))
 have TE:Hid (fQ b=0→∀J (v:MU),eY J v→Below W.heap.size W J→v.su=jV b→Calls Tryz.prog 9 #[v.val] J (aOL b J)):=hid (fun h J v hv x e=>by
  have k:=mP J v (aJ3 hv h e) (HT J x);unfold aAd at k;rw[e,aI8 h,(tH h).1]at k
  exact k)
 have TC:Hid (fQ b=0→∀J (v:MU),eY J v→v.su=jV b→Calls Tryz.prog 17 #[v.val] J (sy.dD 0 J)):=hid (fun h J v hv e=>by
  have k:=aJ3 hv h e;have z:=wD J v k.k k.ac;rw[e,(vY (tH h).1).1]at z
  exact z)
 unfold GSP at KG a8;unfold aAd at KE KF;unfold WkP at KW ⊢;unfold RDP at MD TD;unfold cZ at MS TS;unfold aOL at TE;unfold sy.dD at TC;unfold EqP at MQ;unfold MU.val at KG a8 KE KF MS MQ ⊢;unfold MU.row at *
 have h8:Hid (decide ((8000:Int)<(b.size:Int))=true∨(decide ((8000:Int)<(b.size:Int))=false∧b.size≤8000)):=hid (by
  by_cases h:8000<b.size
  ·exact Or.inl (aC (by omega))
  ·exact Or.inr ⟨aB (by omega),by omega⟩)
 clear hs hb ae ah hr ag HT b0 b1 hz BX BY;generalize jT a.su=FA at *;generalize jT c.su=FC at *;generalize fV a.su=EA at *;generalize fV c.su=EC at *;generalize jV b=DS at *;generalize fQ b=E at *;generalize ap:pB (a.su=c.su)=q at *;clear ap;have s1:(b.data==b.data)=true:=by simp
 have s2:(b.toList==b.toList)=true:=by simp
 obtain⟨⟨x0,x1,x2,x3,x4,x5,x6⟩,y0,y1,y2,y3,y4,y5,y6⟩:=HC.out W R0.out;go_enter Tryz.func5,Tryz.ntmps5;go_upto_region 1 with fail;rw[←aa.out];clear aa;generalize a4:w.heap.size=bx at *;replace a4:=hid a4;clear x0 x1 x2 x3 x4 x5 x6 y0 y1 y2 y3 y4 y5 y6;go_wp2_with fail;refine KW.out.mono ?_;rintro e J ⟨rfl,b2⟩;have B2:=hid b2;have KA:=hid (KG.out J B2.out);clear b2 KW KG R0;obtain⟨⟨x0,x1,x2,x3,x4,x5,x6⟩,y0,y1,y2,y3,y4,y5,y6⟩:=HC.out J B2.out;go_wp2_with fail;refine KA.out.mono ?_;rintro e w3 ⟨r,rfl,b3,hr⟩;have B3:=hid (B2.out.trans (b3.mono B2.out.size));replace hr:=hid hr;clear b3 KA x0 x1 x2 x3 x4 x5 x6 y0 y1 y2 y3 y4 y5 y6
 rcases r with _ | _
 rotate_left
 ·have T:=hid (HE.out _ B3.out)
  clear a8 KE KF MD MS MQ a2 TD TS TE TC HC HE B2 B3 hr h8;go_wp2_with fail;go_ret;exact⟨rfl,by rw[a4.out];exact T.out⟩
 have a5:=hid (hr.out rfl);have KA:=hid (a8.out w3 B3.out);clear hr a8 B2;obtain⟨⟨x0,x1,x2,x3,x4,x5,x6⟩,y0,y1,y2,y3,y4,y5,y6⟩:=HC.out w3 B3.out;go_wp2_with fail;refine KA.out.mono ?_;rintro e w4 ⟨r,rfl,b4,hr⟩;have B4:=hid (B3.out.trans (b4.mono B3.out.size));replace hr:=hid hr;clear b4 KA B3 x0 x1 x2 x3 x4 x5 x6 y0 y1 y2 y3 y4 y5 y6
 rcases r with _ | _
 rotate_left
 ·have T:=hid (HE.out _ B4.out)
  clear KE KF MD MS MQ a2 TD TS TE TC HC HE B4 hr h8 a5;go_wp2_with fail;go_ret;exact⟨rfl,by rw[a4.out];exact T.out⟩
 have a9:=hid (hr.out rfl);clear hr
 rcases h8.out with q8 | ⟨q8,af⟩
 ·have T:=hid (HE.out _ B4.out)
  clear KE KF MD MS MQ a2 TD TS TE TC HC HE B4 h8 a5 a9;go_wp2_with fail;go_ret;exact⟨rfl,by rw[a4.out];exact T.out⟩
 clear h8;replace af:=hid af;replace TD:=hid (TD.out af.out);have KA:=hid (KE.out a5.out w4 B4.out);replace KF:=hid (KF.out a9.out);replace MD:=hid (MD.out a5.out);replace MS:=hid (MS.out a5.out);replace MQ:=hid (MQ.out a5.out a9.out);replace a2:=hid (a2.out a5.out a9.out);clear KE a5 a9 af;obtain⟨⟨x0,x1,x2,x3,x4,x5,x6⟩,y0,y1,y2,y3,y4,y5,y6⟩:=HC.out w4 B4.out;go_wp2_with fail;refine KA.out.mono ?_;rintro e w5 ⟨rfl,b5⟩;have B5:=hid (B4.out.trans (b5.mono B4.out.size));have ak:=hid (KF.out w5 B5.out);clear b5 KA KF B4 x0 x1 x2 x3 x4 x5 x6 y0 y1 y2 y3 y4 y5 y6;obtain⟨⟨x0,x1,x2,x3,x4,x5,x6⟩,y0,y1,y2,y3,y4,y5,y6⟩:=HC.out w5 B5.out;go_wp2_with fail;refine ak.out.mono ?_;rintro e w6 ⟨rfl,b6⟩;have B6:=hid (B5.out.trans (b6.mono B5.out.size));clear b6 ak B5 x0 x1 x2 x3 x4 x5 x6 y0 y1 y2 y3 y4 y5 y6
 by_cases hA:EA=0
 rotate_left
 ·have p1:(EA==0)=false:=by simpa using hA
  have p2:(EA != 0)=true:=by simpa using hA
  clear MD MS MQ a2 HC hA;have KA:=hid (TD.out w6 B6.out);clear TD;go_wp2_with fail;refine KA.out.mono ?_;rintro e w8 ⟨v,rfl,hv,sv,b8⟩;have B8:=hid (B6.out.trans (b8.mono B6.out.size));have SV:=hid sv;have hV:=hid hv;clear sv hv b8 KA;unfold MU.val MU.row;go_upto_region 14 with fail;have By:=bT.new w8 29 #[.string v.name,.slice v.gA v.gives.length v.gc,.slice v.wA v.wants.length v.wc,.slice v.kA v.keeps.length v.kc,.slice v.s.oA v.s.os.length v.s.oc,.slice v.s.fA v.s.fs.length v.s.fc,.slice v.s.cA v.s.cs.length v.s.cc];have fa:=(Below.refl w8.heap.size w8).alloc (aY _) (.cells #[.string v.name,.slice v.gA v.gives.length v.gc,.slice v.wA v.wants.length v.wc,.slice v.kA v.keeps.length v.kc,.slice v.s.oA v.s.os.length v.s.oc,.slice v.s.fA v.s.fs.length v.s.fc,.slice v.s.cA v.s.cs.length v.s.cc] 29);have B9:=hid (B8.out.trans (fa.mono B8.out.size));have a0:=hid (SV.out.below fa);clear fa SV B8
  generalize w8.alloc (.cells #[.string v.name,.slice v.gA v.gives.length v.gc,.slice v.wA v.wants.length v.wc,.slice v.kA v.keeps.length v.kc,.slice v.s.oA v.s.os.length v.s.oc,.slice v.s.fA v.s.fs.length v.s.fc,.slice v.s.cA v.s.cs.length v.s.cc] 29)=w9 at *;generalize w8.heap.size=yb at *;have z0:w9.cell? ⟨yb,0,none⟩=some (.string v.name):=By.cell 0;have z1:w9.cell? ⟨yb,1,none⟩=some (.slice v.gA v.gives.length v.gc):=By.cell 1;have z2:w9.cell? ⟨yb,2,none⟩=some (.slice v.wA v.wants.length v.wc):=By.cell 2;have z3:w9.cell? ⟨yb,3,none⟩=some (.slice v.kA v.keeps.length v.kc):=By.cell 3;have z4:w9.cell? ⟨yb,4,none⟩=some (.slice v.s.oA v.s.os.length v.s.oc):=By.cell 4;have z5:w9.cell? ⟨yb,5,none⟩=some (.slice v.s.fA v.s.fs.length v.s.fc):=By.cell 5;have z6:w9.cell? ⟨yb,6,none⟩=some (.slice v.s.cA v.s.cs.length v.s.cc):=By.cell 6;have a1:=hid By;clear By
  by_cases hE:E=0
  rotate_left
  ·have q1:(E==0)=false:=by simpa using hE
   have q2:(E != 0)=true:=by simpa using hE
   have KS:=hid (TS.out hE w9 v a0.out hV.out);unfold MU.val MU.row at KS;clear TE TC TS a1 hV a0;go_wp2_with fail;refine KS.out.mono ?_;rintro e wa ⟨rfl,ba⟩;have T:=hid (HE.out _ (B9.out.trans (ba.mono B9.out.size)));clear ba KS B9 z0 z1 z2 z3 z4 z5 z6;go_wp2_with fail;go_ret;exact⟨rfl,by rw[a4.out];exact T.out⟩
  have q1:(E==0)=true:=by simpa using hE
  have q2:(E != 0)=false:=by simpa using hE
  have a3:=hid (TE.out hE w9 v a0.out B9.out hV.out);have KC:=hid (TC.out hE);unfold MU.val MU.row at a3 KC;clear TE TC TS;go_wp2_with fail;refine a3.out.mono ?_;rintro e wa ⟨rfl,ba⟩;have Ba:=hid (B9.out.trans (ba.mono B9.out.size));have a6:=hid (KC.out wa v (a0.out.below ba) hV.out);have Y:=a1.out.kept (Fr.of_below ba []) (by simp)
  clear KC a3 a0 hV a1 B9 ba z0 z1 z2 z3 z4 z5 z6;have z0:wa.cell? ⟨yb,0,none⟩=some (.string v.name):=Y.cell 0;have z1:wa.cell? ⟨yb,1,none⟩=some (.slice v.gA v.gives.length v.gc):=Y.cell 1;have z2:wa.cell? ⟨yb,2,none⟩=some (.slice v.wA v.wants.length v.wc):=Y.cell 2;have z3:wa.cell? ⟨yb,3,none⟩=some (.slice v.kA v.keeps.length v.kc):=Y.cell 3;have z4:wa.cell? ⟨yb,4,none⟩=some (.slice v.s.oA v.s.os.length v.s.oc):=Y.cell 4;have z5:wa.cell? ⟨yb,5,none⟩=some (.slice v.s.fA v.s.fs.length v.s.fc):=Y.cell 5;have z6:wa.cell? ⟨yb,6,none⟩=some (.slice v.s.cA v.s.cs.length v.s.cc):=Y.cell 6;clear Y;go_wp2_with fail;refine a6.out.mono ?_;rintro e wb ⟨rfl,bb⟩;have T:=hid (HE.out _ (Ba.out.trans (bb.mono Ba.out.size)));clear bb a6 Ba z0 z1 z2 z3 z4 z5 z6;go_wp2_with fail;go_ret;exact⟨rfl,by rw[a4.out];exact T.out⟩
 have p1:(EA==0)=true:=by simpa using hA
 have p2:(EA != 0)=false:=by simpa using hA
 have KA:=hid (MD.out hA w6 B6.out);replace a2:=hid (a2.out hA);clear MD hA;go_wp2_with fail;refine KA.out.mono ?_;rintro e w7 ⟨u,rfl,hu,su,b7⟩;have B7:=hid (B6.out.trans (b7.mono B6.out.size));have SU:=hid su;have hU:=hid hu;clear su hu b7 KA B6;unfold MU.val MU.row;go_upto_region 9 with fail;have Bu:=bT.new w7 29 #[.string u.name,.slice u.gA u.gives.length u.gc,.slice u.wA u.wants.length u.wc,.slice u.kA u.keeps.length u.kc,.slice u.s.oA u.s.os.length u.s.oc,.slice u.s.fA u.s.fs.length u.s.fc,.slice u.s.cA u.s.cs.length u.s.cc];have fa:=(Below.refl w7.heap.size w7).alloc (aY _) (.cells #[.string u.name,.slice u.gA u.gives.length u.gc,.slice u.wA u.wants.length u.wc,.slice u.kA u.keeps.length u.kc,.slice u.s.oA u.s.os.length u.s.oc,.slice u.s.fA u.s.fs.length u.s.fc,.slice u.s.cA u.s.cs.length u.s.cc] 29);have Bz:=hid (B7.out.trans (fa.mono B7.out.size));have am:=hid (SU.out.below fa)
 clear fa SU B7;generalize w7.alloc (.cells #[.string u.name,.slice u.gA u.gives.length u.gc,.slice u.wA u.wants.length u.wc,.slice u.kA u.keeps.length u.kc,.slice u.s.oA u.s.os.length u.s.oc,.slice u.s.fA u.s.fs.length u.s.fc,.slice u.s.cA u.s.cs.length u.s.cc] 29)=wz at *;generalize w7.heap.size=ub at *;have KS:=hid (MS.out wz u am.out Bz.out hU.out);clear MS hU am;have z0:wz.cell? ⟨ub,0,none⟩=some (.string u.name):=Bu.cell 0;have z1:wz.cell? ⟨ub,1,none⟩=some (.slice u.gA u.gives.length u.gc):=Bu.cell 1;have z2:wz.cell? ⟨ub,2,none⟩=some (.slice u.wA u.wants.length u.wc):=Bu.cell 2;have z3:wz.cell? ⟨ub,3,none⟩=some (.slice u.kA u.keeps.length u.kc):=Bu.cell 3;have z4:wz.cell? ⟨ub,4,none⟩=some (.slice u.s.oA u.s.os.length u.s.oc):=Bu.cell 4;have z5:wz.cell? ⟨ub,5,none⟩=some (.slice u.s.fA u.s.fs.length u.s.fc):=Bu.cell 5;have z6:wz.cell? ⟨ub,6,none⟩=some (.slice u.s.cA u.s.cs.length u.s.cc):=Bu.cell 6
 obtain⟨⟨x0,x1,x2,x3,x4,x5,x6⟩,y0,y1,y2,y3,y4,y5,y6⟩:=HC.out wz Bz.out;clear Bu;go_wp2_with fail;refine KS.out.mono ?_;rintro e wy ⟨rfl,ao⟩;have a7:=hid (Bz.out.trans (ao.mono Bz.out.size));clear ao KS Bz z0 z1 z2 z3 z4 z5 z6 x0 x1 x2 x3 x4 x5 x6 y0 y1 y2 y3 y4 y5 y6
 by_cases hC:EC=0
 rotate_left
 ·have p3:(EC==0)=false:=by simpa using hC
  have p4:(EC != 0)=true:=by simpa using hC
  clear MQ a2 HC hC;have KA:=hid (TD.out wy a7.out);clear TD;go_wp2_with fail;refine KA.out.mono ?_;rintro e w8 ⟨v,rfl,hv,sv,b8⟩;have B8:=hid (a7.out.trans (b8.mono a7.out.size));have SV:=hid sv;have hV:=hid hv;clear sv hv b8 KA;unfold MU.val MU.row;go_upto_region 14 with fail;have By:=bT.new w8 29 #[.string v.name,.slice v.gA v.gives.length v.gc,.slice v.wA v.wants.length v.wc,.slice v.kA v.keeps.length v.kc,.slice v.s.oA v.s.os.length v.s.oc,.slice v.s.fA v.s.fs.length v.s.fc,.slice v.s.cA v.s.cs.length v.s.cc];have fa:=(Below.refl w8.heap.size w8).alloc (aY _) (.cells #[.string v.name,.slice v.gA v.gives.length v.gc,.slice v.wA v.wants.length v.wc,.slice v.kA v.keeps.length v.kc,.slice v.s.oA v.s.os.length v.s.oc,.slice v.s.fA v.s.fs.length v.s.fc,.slice v.s.cA v.s.cs.length v.s.cc] 29);have B9:=hid (B8.out.trans (fa.mono B8.out.size));have a0:=hid (SV.out.below fa);clear fa SV B8
  generalize w8.alloc (.cells #[.string v.name,.slice v.gA v.gives.length v.gc,.slice v.wA v.wants.length v.wc,.slice v.kA v.keeps.length v.kc,.slice v.s.oA v.s.os.length v.s.oc,.slice v.s.fA v.s.fs.length v.s.fc,.slice v.s.cA v.s.cs.length v.s.cc] 29)=w9 at *;generalize w8.heap.size=yb at *;have z0:w9.cell? ⟨yb,0,none⟩=some (.string v.name):=By.cell 0;have z1:w9.cell? ⟨yb,1,none⟩=some (.slice v.gA v.gives.length v.gc):=By.cell 1;have z2:w9.cell? ⟨yb,2,none⟩=some (.slice v.wA v.wants.length v.wc):=By.cell 2;have z3:w9.cell? ⟨yb,3,none⟩=some (.slice v.kA v.keeps.length v.kc):=By.cell 3;have z4:w9.cell? ⟨yb,4,none⟩=some (.slice v.s.oA v.s.os.length v.s.oc):=By.cell 4;have z5:w9.cell? ⟨yb,5,none⟩=some (.slice v.s.fA v.s.fs.length v.s.fc):=By.cell 5;have z6:w9.cell? ⟨yb,6,none⟩=some (.slice v.s.cA v.s.cs.length v.s.cc):=By.cell 6;have a1:=hid By;clear By
  by_cases hE:E=0
  rotate_left
  ·have q1:(E==0)=false:=by simpa using hE
   have q2:(E != 0)=true:=by simpa using hE
   have KS:=hid (TS.out hE w9 v a0.out hV.out);unfold MU.val MU.row at KS;clear TE TC TS a1 hV a0;go_wp2_with fail;refine KS.out.mono ?_;rintro e wa ⟨rfl,ba⟩;have T:=hid (HE.out _ (B9.out.trans (ba.mono B9.out.size)));clear ba KS B9 z0 z1 z2 z3 z4 z5 z6;go_wp2_with fail;go_ret;exact⟨rfl,by rw[a4.out];exact T.out⟩
  have q1:(E==0)=true:=by simpa using hE
  have q2:(E != 0)=false:=by simpa using hE
  have a3:=hid (TE.out hE w9 v a0.out B9.out hV.out);have KC:=hid (TC.out hE);unfold MU.val MU.row at a3 KC;clear TE TC TS;go_wp2_with fail;refine a3.out.mono ?_;rintro e wa ⟨rfl,ba⟩;have Ba:=hid (B9.out.trans (ba.mono B9.out.size));have a6:=hid (KC.out wa v (a0.out.below ba) hV.out);have Y:=a1.out.kept (Fr.of_below ba []) (by simp)
  clear KC a3 a0 hV a1 B9 ba z0 z1 z2 z3 z4 z5 z6;have z0:wa.cell? ⟨yb,0,none⟩=some (.string v.name):=Y.cell 0;have z1:wa.cell? ⟨yb,1,none⟩=some (.slice v.gA v.gives.length v.gc):=Y.cell 1;have z2:wa.cell? ⟨yb,2,none⟩=some (.slice v.wA v.wants.length v.wc):=Y.cell 2;have z3:wa.cell? ⟨yb,3,none⟩=some (.slice v.kA v.keeps.length v.kc):=Y.cell 3;have z4:wa.cell? ⟨yb,4,none⟩=some (.slice v.s.oA v.s.os.length v.s.oc):=Y.cell 4;have z5:wa.cell? ⟨yb,5,none⟩=some (.slice v.s.fA v.s.fs.length v.s.fc):=Y.cell 5;have z6:wa.cell? ⟨yb,6,none⟩=some (.slice v.s.cA v.s.cs.length v.s.cc):=Y.cell 6;clear Y;go_wp2_with fail;refine a6.out.mono ?_;rintro e wb ⟨rfl,bb⟩;have T:=hid (HE.out _ (Ba.out.trans (bb.mono Ba.out.size)));clear bb a6 Ba z0 z1 z2 z3 z4 z5 z6;go_wp2_with fail;go_ret;exact⟨rfl,by rw[a4.out];exact T.out⟩
 have p3:(EC==0)=true:=by simpa using hC
 have p4:(EC != 0)=false:=by simpa using hC
 have KQ:=hid (MQ.out wy a7.out);obtain⟨⟨x0,x1,x2,x3,x4,x5,x6⟩,y0,y1,y2,y3,y4,y5,y6⟩:=HC.out wy a7.out;have f1:(FA.data==FC.data)=q∧(FA.toList==FC.toList)=q:=by
  have h:=a2.out hC
  by_cases e:FA=FC
  ·rw[h.1 e,e];exact⟨by simp,by simp⟩
  ·have:q=false:=by
    cases q with
    | false=>rfl
    | true=>exact absurd (h.2 rfl) e
   rw[this];exact⟨by rw[bI];exact fun x=>e (ByteArray.ext x),aBq e⟩
 obtain⟨f1,f2⟩:=f1;clear MQ a2 HC hC;cases q
 all_goals
  go_wp2_with fail;refine KQ.out.mono ?_;rintro e wx ⟨rfl,aj⟩;have ai:=hid (a7.out.trans (aj.mono a7.out.size));clear KQ aj a7 x0 x1 x2 x3 x4 x5 x6 y0 y1 y2 y3 y4 y5 y6;have KA:=hid (TD.out wx ai.out);clear TD;go_wp2_with fail;refine KA.out.mono ?_;rintro e w8 ⟨v,rfl,hv,sv,b8⟩;have B8:=hid (ai.out.trans (b8.mono ai.out.size));have SV:=hid sv;have hV:=hid hv;clear sv hv b8 KA;unfold MU.val MU.row;go_upto_region 14 with fail;have By:=bT.new w8 29 #[.string v.name,.slice v.gA v.gives.length v.gc,.slice v.wA v.wants.length v.wc,.slice v.kA v.keeps.length v.kc,.slice v.s.oA v.s.os.length v.s.oc,.slice v.s.fA v.s.fs.length v.s.fc,.slice v.s.cA v.s.cs.length v.s.cc];have fa:=(Below.refl w8.heap.size w8).alloc (aY _) (.cells #[.string v.name,.slice v.gA v.gives.length v.gc,.slice v.wA v.wants.length v.wc,.slice v.kA v.keeps.length v.kc,.slice v.s.oA v.s.os.length v.s.oc,.slice v.s.fA v.s.fs.length v.s.fc,.slice v.s.cA v.s.cs.length v.s.cc] 29)
  have B9:=hid (B8.out.trans (fa.mono B8.out.size));have a0:=hid (SV.out.below fa);clear fa SV B8;generalize w8.alloc (.cells #[.string v.name,.slice v.gA v.gives.length v.gc,.slice v.wA v.wants.length v.wc,.slice v.kA v.keeps.length v.kc,.slice v.s.oA v.s.os.length v.s.oc,.slice v.s.fA v.s.fs.length v.s.fc,.slice v.s.cA v.s.cs.length v.s.cc] 29)=w9 at *;generalize w8.heap.size=yb at *;have z0:w9.cell? ⟨yb,0,none⟩=some (.string v.name):=By.cell 0;have z1:w9.cell? ⟨yb,1,none⟩=some (.slice v.gA v.gives.length v.gc):=By.cell 1;have z2:w9.cell? ⟨yb,2,none⟩=some (.slice v.wA v.wants.length v.wc):=By.cell 2;have z3:w9.cell? ⟨yb,3,none⟩=some (.slice v.kA v.keeps.length v.kc):=By.cell 3;have z4:w9.cell? ⟨yb,4,none⟩=some (.slice v.s.oA v.s.os.length v.s.oc):=By.cell 4;have z5:w9.cell? ⟨yb,5,none⟩=some (.slice v.s.fA v.s.fs.length v.s.fc):=By.cell 5;have z6:w9.cell? ⟨yb,6,none⟩=some (.slice v.s.cA v.s.cs.length v.s.cc):=By.cell 6
  have a1:=hid By;clear By
  by_cases hE:E=0
  rotate_left
  ·have q1:(E==0)=false:=by simpa using hE
   have q2:(E != 0)=true:=by simpa using hE
   have KS:=hid (TS.out hE w9 v a0.out hV.out);unfold MU.val MU.row at KS;clear TE TC TS a1 hV a0;go_wp2_with fail;refine KS.out.mono ?_;rintro e wa ⟨rfl,ba⟩;have T:=hid (HE.out _ (B9.out.trans (ba.mono B9.out.size)));clear ba KS B9 z0 z1 z2 z3 z4 z5 z6;go_wp2_with fail;go_ret;exact⟨rfl,by rw[a4.out];exact T.out⟩
  have q1:(E==0)=true:=by simpa using hE
  have q2:(E != 0)=false:=by simpa using hE
  have a3:=hid (TE.out hE w9 v a0.out B9.out hV.out);have KC:=hid (TC.out hE);unfold MU.val MU.row at a3 KC;clear TE TC TS;go_wp2_with fail;refine a3.out.mono ?_;rintro e wa ⟨rfl,ba⟩;have Ba:=hid (B9.out.trans (ba.mono B9.out.size));have a6:=hid (KC.out wa v (a0.out.below ba) hV.out);have Y:=a1.out.kept (Fr.of_below ba []) (by simp)
  clear KC a3 a0 hV a1 B9 ba z0 z1 z2 z3 z4 z5 z6;have z0:wa.cell? ⟨yb,0,none⟩=some (.string v.name):=Y.cell 0;have z1:wa.cell? ⟨yb,1,none⟩=some (.slice v.gA v.gives.length v.gc):=Y.cell 1;have z2:wa.cell? ⟨yb,2,none⟩=some (.slice v.wA v.wants.length v.wc):=Y.cell 2;have z3:wa.cell? ⟨yb,3,none⟩=some (.slice v.kA v.keeps.length v.kc):=Y.cell 3;have z4:wa.cell? ⟨yb,4,none⟩=some (.slice v.s.oA v.s.os.length v.s.oc):=Y.cell 4;have z5:wa.cell? ⟨yb,5,none⟩=some (.slice v.s.fA v.s.fs.length v.s.fc):=Y.cell 5;have z6:wa.cell? ⟨yb,6,none⟩=some (.slice v.s.cA v.s.cs.length v.s.cc):=Y.cell 6;clear Y;go_wp2_with fail;refine a6.out.mono ?_;rintro e wb ⟨rfl,bb⟩;have T:=hid (HE.out _ (Ba.out.trans (bb.mono Ba.out.size)));clear bb a6 Ba z0 z1 z2 z3 z4 z5 z6;go_wp2_with fail;go_ret;exact⟨rfl,by rw[a4.out];exact T.out⟩
end sf
set_option maxRecDepth 100000
namespace sf
open RowKit ChangeShapes WideShapes mem sy
open re (yG RB qH WkP)
open nm (iE)
theorem pf_back(H:Type)(enc:TypeId×Value→H)(W:World){base J:Nat}(v:Value)(d:DataW H)(p:List MemPlace)(k:DataW.Trod enc Tryz.prog W 0 (fun _=>true) true 29 v d p)(o:Value.okWide Tryz.prog W .any base 29 v)(hw:∀n∈d.weights Tryz.prog 29,n≤reachBytes)
 (v2:Value) (d2:DataW H) (p2:List MemPlace) (k2:DataW.Trod enc Tryz.prog W 0 (fun _=>true) true 29 v2 d2 p2) (o2:Value.okWide Tryz.prog W .any J 29 v2) (a0:∀n∈d2.weights Tryz.prog 29,n≤reachBytes)
 (a:ByteArray) (wa:a.size≤maxLen) (ra:a.size≤reachBytes) (Y:iE W) :
 Calls Tryz.prog 5 #[v,v2,.string a] W (WkP W):=by
 have hr:reachBytes≤140737488355328:=of_decide_eq_true (by kernel_rfl)
 obtain⟨u,rfl,hs,hb⟩:=yG (B:=RB) v d p k o (fun n hn=>by rw[←qH];exact hw n hn)
 obtain⟨c,rfl,a2,a1⟩:=yG (B:=RB) v2 d2 p2 k2 o2 (fun n hn=>by rw[←qH];exact a0 n hn)
 exact aJH u c a W hs hb a2 a1 (aZ ra hr) Y
end sf
end Go.Proofs.YtdmmkjijgoiecaaGreatDoor
