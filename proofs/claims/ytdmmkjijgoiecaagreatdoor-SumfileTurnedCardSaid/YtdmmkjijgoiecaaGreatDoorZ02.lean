import Derived.Test.YtdmmkjijgoiecaaGreatDoorZ01
import Derived.Test.YtdmmkjijgoiecaaGreatDoorB09
import Derived.Test.YtdmmkjijgoiecaaGreatDoorB27
set_option linter.all false
set_option maxHeartbeats 4000000
namespace Go.Proofs.YtdmmkjijgoiecaaGreatDoor
namespace re
open RowKit Go.Sort Shelf mem sy vr po inn
def uJ:SU:=⟨⟨#[97]⟩,[],[],[],⟨[],[],[]⟩⟩
def muA:MU:=⟨⟨#[97]⟩,none,0,[],none,0,[],none,0,[],⟨none,0,[],none,0,[],none,0,[]⟩⟩
theorem aOQ:jP [[97]] = [[97]]:=by kernel_rfl
theorem aOm:fM [[97]] (dB uJ)=([0,0,0,0,0,0,0],0):=by kernel_rfl
theorem aGx(w:World):eY w muA:=⟨fun h=>by simp[muA]at h,fun h=>by simp[muA]at h,fun h=>by simp[muA]at h,⟨fun h=>by simp[muA]at h,fun h=>by simp[muA]at h,fun h=>by simp[muA]at h,by simp[muA],by simp[muA],by simp[muA],by simp[muA],by simp[muA],by simp[muA]⟩⟩
def WkP(w:World)(e:Ending)(w':World):Prop:=e=.returned (.bool true)∧Below w.heap.size w w'
end re
open Lib(hid)
set_option maxRecDepth 100000
namespace re
open RowKit Shelf mem sy
theorem box_on_alloc{w W:World}{c:Nat}{T:TypeId}{row:Array Value}{o:Obj}(h:bT w c T row)(e:W=w.alloc o):bT W c T row:=by rw[e];exact h.kept ((Fr.refl [] _).alloc _) (by simp)
def SK(T:TypeId)(a b:FuncId):Prop:=(T=125∧a=291∧b=292)∨(T=121∧a=289∧b=290)
theorem SK.both{T:TypeId}{a b:FuncId}(h:SK T a b):(SK T a b∧T=125∧a=291∧b=292)∨(SK T a b∧T=121∧a=289∧b=290):=h.imp (fun x=>⟨.inl x,x⟩) (fun x=>⟨.inr x,x⟩)
theorem zD{T:TypeId}{fa fb:FuncId}(hT:SK T fa fb){w0:World}{g:Nat}{I:List Nat→List Ev→World→Prop}(S:pX fa fb g w0 I){F:List Nat}{J:List Ev}{w:World}(h:I F J w)(A:Option Addr)(c:Nat)(l:List ByteArray)(hr:Rd w0 A (l.map Value.string))(a0:J.length+(fD l).length≤MX) :
 Calls Tryz.prog 137 #[.iface T (.pointer (some ⟨g,0,none⟩)),.slice A l.length c,.func (.method "weft/record.text") #[.iface T (.pointer (some ⟨g,0,none⟩))] #[]] w (gP I F (J++fD l) w):=by
 have hl:J.length+l.length+1≤MX:=by simpa[fD,Nat.add_assoc] using a0
 have hm:l.length≤20000000:=by unfold MX at hl;omega
 have KN:=hid (S.num (l.length:Int) h (by omega))
 have S0:=hid S;have HR:=hid hr;obtain⟨n,hn⟩:∃n,Hid (n=l.length):=⟨_,hid rfl⟩;rw[←hn.out]at KN hl hm ⊢;clear S hr h a0
 rcases hT with⟨rfl,rfl,rfl⟩ | ⟨rfl,rfl,rfl⟩
 all_goals
  go_enter Tryz.func137,Tryz.ntmps137;go_wp2_with fail;refine KN.out.mono ?_;rintro e w1 ⟨rfl,F1,s1⟩;have S1:Hid (St I w F F1 (J++(Ev.n n :: (l.take 0).map Ev.t)) w1):=hid s1;clear s1 KN;go_wp2_with fail
  go_loopw [7,14] (fun a i wr=>∃(k:Nat) (F':List Nat),k≤n∧i=.int .i64 k∧Hid (St I w F F' (J++(Ev.n n :: (l.take k).map Ev.t)) wr)) (fun _ i _=>n-(intOf i).toNat)
  case atStart=>exact⟨0,F1,by omega,rfl,S1⟩
  case round=>
   obtain⟨k,Fk,hk,rfl,Y⟩:=hrel;clear S1
   by_cases a4:k<n
   ·have d1:decide ((k:Int)<(n:Int))=true:=aC (by omega)
    have a2:k<l.length:=by rw[←hn.out];exact a4
    obtain⟨b,off,rfl,a3,hc⟩:=HR.out (by rw[aH];omega)
    have c2:wr.cell? ⟨b,off+k,none⟩=some (.string l[k]):=by
     have e:=hc k (by rw[aH];exact a2)
     rw[List.getElem_map]at e;exact S0.out.cell Y.out.i a3 e
    have KT:=hid (S0.out.txt l[k] Y.out.i (by rw[aF,aG,aH,List.length_take];omega))
    have a1:Hid (J++(Ev.n n :: (l.take k).map Ev.t)++[Ev.t l[k]] = J++(Ev.n n :: (l.take (k+1)).map Ev.t)):=hid (by rw[(List.take_append_getElem a2).symm];simp only[List.map_append,aV,aU,aS,aW])
    rw[a1.out]at KT;clear hc a1;generalize l[k] = x at *;go_wp2_with fail;refine KT.out.mono ?_;rintro e w2 ⟨rfl,F2,s2⟩;have S2:=hid (Y.out.trans s2);clear s2 KT Y c2;go_wp2_with fail
    go_roundw
    case rel=>exact⟨k+1,F2,by omega,by go_num,S2⟩
    case measure=>simp[intOf];omega
   ·obtain rfl:k=n:=by omega
    have d1:decide ((k:Int)<(k:Int))=false:=aB (by omega)
    have e1:Hid (Ev.n k :: (l.take k).map Ev.t=fD l):=hid (by rw[hn.out,bF];rfl)
    rw[e1.out]at Y;go_wp2_with fail
    go_end0
    exact⟨rfl,Fk,Y.out⟩
theorem aM5{T:TypeId}{fa fb:FuncId}(hT:SK T fa fb){w0:World}{g:Nat}{I:List Nat→List Ev→World→Prop}(S:pX fa fb g w0 I){F:List Nat}{J:List Ev}{w:World}(h:I F J w)(m:Mk)(c:Nat)(hb:bT w c 178 #[.iface T (.pointer (some ⟨g,0,none⟩))])(hc:c∉F)(hl:J.length+(rE m).length≤MX) :
 Calls Tryz.prog 141 #[.agg #[.int .i64 m.at_,.string m.tag],.pointer (some ⟨c,0,none⟩)] w (gP I F (J++rE m) w):=by
 have e0:J++rE m=((J++[Ev.n m.at_])++[Ev.t m.tag]):=by simp[rE,jC,mE,mQ]
 have a1:((J++[Ev.n m.at_])++[Ev.t m.tag]).length≤MX:=by rw[←e0,aF];exact hl
 rw[e0];have hW:=S.alloc h (.cells #[.int .i64 m.at_,.string m.tag] 101);have B1:=bT.new w 101 #[.int .i64 m.at_,.string m.tag];have a3:w.heap.size∉F:=fun hx=>by have:=S.lt h _ hx;omega
 have B0:bT (w.alloc (.cells #[.int .i64 m.at_,.string m.tag] 101)) c 178 #[.iface T (.pointer (some ⟨g,0,none⟩))]:=hb.kept ((Fr.refl [] w).alloc _) (by simp)
 have S0:=hid S;obtain⟨W,a0⟩:∃W,Hid (W=w.alloc (.cells #[.int .i64 m.at_,.string m.tag] 101)):=⟨_,hid rfl⟩;have a2:Hid (∀Y e w',St I W F Y e w'→St I w F Y e w'):=hid (by rw[a0.out];exact fun _ _ _=>St.from_alloc)
 rw[←a0.out]at hW B0 B1;have HN:Hid (∀Y e w',St I W F Y e w'→c∉Y):=hid (fun _ _ _ s=>s.nin hc B0.lt)
 have HB:Hid (∀Y e w',St I W F Y e w'→bT w' c 178 #[.iface T (.pointer (some ⟨g,0,none⟩))]∧bT w' w.heap.size 101 #[.int .i64 m.at_,.string m.tag]):=hid (fun _ _ _ s=>⟨s.box B0 hc,s.box B1 a3⟩)
 have T0:=hid (St.start hW);have E0:=hid e0;clear hW B0 B1 S h hb e0
 rcases hT with⟨rfl,rfl,rfl⟩ | ⟨rfl,rfl,rfl⟩
 all_goals
  go_enter Tryz.func141,Tryz.ntmps141;go_upto_region 1 with fail;rw[←a0.out];generalize w.heap.size=bm at *;have y0:W.cell? ⟨c,0,none⟩=some (.iface _ (.pointer (some ⟨g,0,none⟩))):=(HB.out _ _ _ T0.out).1.cell 0;have y1:W.cell? ⟨bm,0,none⟩=some (.int .i64 m.at_):=(HB.out _ _ _ T0.out).2.cell 0;have K1:=hid (S0.out.num m.at_ T0.out.i (by clear E0;simp only[aF,aG,aI]at a1 ⊢;omega))
  go_wp2_with fail;refine K1.out.mono ?_;rintro e w1 ⟨rfl,F1,s1⟩;have T1:=hid (T0.out.trans s1);clear s1 y0 y1 K1 T0;have y0:w1.cell? ⟨c,0,none⟩=some (.iface _ (.pointer (some ⟨g,0,none⟩))):=(HB.out _ _ _ T1.out).1.cell 0;have y1:w1.cell? ⟨bm,1,none⟩=some (.string m.tag):=(HB.out _ _ _ T1.out).2.cell 1;have K2:=hid (S0.out.txt m.tag T1.out.i (by clear E0;simp only[aF,aG,aI]at a1 ⊢;omega))
  go_wp2_with fail;refine K2.out.mono ?_;rintro e w2 ⟨rfl,F2,s2⟩;have T2:=hid (T1.out.trans s2);clear s2 y0 y1 K2 T1;go_wp2_with fail
  go_end0
  exact⟨rfl,F2,a2.out _ _ _ T2.out⟩
theorem aMh{T:TypeId}{fa fb:FuncId}(hT:SK T fa fb){w0:World}{g:Nat}{I:List Nat→List Ev→World→Prop}(S:pX fa fb g w0 I){F:List Nat}{J:List Ev}{w:World}(h:I F J w)(A:Option Addr)(ac:Nat)(l:List Mk)(hr:zW w0 A 2 (l.map oI))(c:Nat)(hb:bT w c 178 #[.iface T (.pointer (some ⟨g,0,none⟩))])(hc:c∉F)(a3:J.length+(tQ l).length≤MX) :
 Calls Tryz.prog 140 #[.iface T (.pointer (some ⟨g,0,none⟩)),.slice A l.length ac,.func (.func 141) #[] #[.pointer (some ⟨c,0,none⟩)]] w (gP I F (J++tQ l) w):=by
 have a7:J.length+(l.flatMap (fun x=>rE x)).length+1≤MX:=by simpa[tQ,qU,qV,qW,Nat.add_assoc,List.flatMap_map] using a3
 have hm:l.length≤20000000:=by
  have e1:l.length≤(l.flatMap (fun x=>rE x)).length:=jK _ (fun x=>by simp[rE,jC,mE,mQ]) l
  unfold MX at a7;omega
 have KN:=hid (S.num (l.length:Int) h (by omega))
 have S0:=hid S;have HR:=hid hr;have HB:=hid (fun F' e w' (s:St I w F F' e w')=>s.box hb hc)
 have HN:=hid (fun F' e w' (s:St I w F F' e w')=>s.nin hc hb.lt)
 obtain⟨n,hn⟩:∃n,Hid (n=l.length):=⟨_,hid rfl⟩;rw[←hn.out]at KN hm ⊢;clear S hr h a3 hb hc
 rcases hT.both with⟨hT,rfl,rfl,rfl⟩ | ⟨hT,rfl,rfl,rfl⟩
 all_goals
  go_enter Tryz.func140,Tryz.ntmps140;go_wp2_with fail;refine KN.out.mono ?_;rintro e w1 ⟨rfl,F1,s1⟩;have S1:Hid (St I w F F1 (J++(Ev.n n :: (l.take 0).flatMap (fun x=>rE x))) w1):=hid s1
  clear s1 KN;go_wp2_with fail
  go_loopw [7,14] (fun a i wr=>∃(k:Nat) (F':List Nat),k≤n∧i=.int .i64 k∧Hid (St I w F F' (J++(Ev.n n :: (l.take k).flatMap (fun x=>rE x))) wr)) (fun _ i _=>n-(intOf i).toNat)
  case atStart=>exact⟨0,F1,by omega,rfl,S1⟩
  case round=>
   obtain⟨k,Fk,hk,rfl,Y⟩:=hrel;clear S1
   by_cases aa:k<n
   ·have d1:decide ((k:Int)<(n:Int))=true:=aC (by omega)
    have a2:k<l.length:=by rw[←hn.out];exact aa
    obtain⟨b,off,rfl,a1,c0,c1⟩:=qJ HR.out a2;replace HB:=HB.out _ _ _ Y.out;replace HN:=HN.out _ _ _ Y.out;have a8:(J++(Ev.n n :: (l.take k).flatMap (fun x=>rE x))).length+(rE l[k]).length≤MX:=by
     have:=rP (fun x=>rE x) l k a2
     rw[aF,aG]
     try dsimp only at this
     omega
    have a4:Hid (J++(Ev.n n :: (l.take k).flatMap (fun x=>rE x))++rE l[k] = J++(Ev.n n :: (l.take (k+1)).flatMap (fun x=>rE x))):=hid (by rw[kX _ _ _ a2];simp only[aS,aW])
    replace c0:=S0.out.cell Y.out.i (show b<w0.heap.size from a1) c0;replace c1:=S0.out.cell Y.out.i (show b<w0.heap.size from a1) c1;clear a1;generalize l[k] = m at *;obtain⟨W,a0⟩:∃W,Hid (W=wr.alloc (.cells #[.int .i64 m.at_,.string m.tag] 101)):=⟨_,hid rfl⟩;have BW:bT W wr.heap.size 101 #[.int .i64 m.at_,.string m.tag]:=by rw[a0.out];exact bT.new _ _ _
    have a9:Hid (∀F' e w',St I W Fk F' e w'→St I wr Fk F' e w'):=hid (by rw[a0.out];exact fun _ _ _=>St.from_alloc)
    have a6:I Fk (J++(Ev.n n :: (l.take k).flatMap (fun x=>rE x))) W:=by rw[a0.out];exact S0.out.alloc Y.out.i _
    have a5:=box_on_alloc HB a0.out;have KT:=aM5 hT S0.out a6 m c a5 HN a8;rw[a4.out]at KT;replace KT:=hid KT;clear a4 a6 a5 HB;go_upto_region 4 with fail;rw[←a0.out];generalize wr.heap.size=bm at *;have z0:W.cell? ⟨bm,0,none⟩=_:=BW.cell 0;have z1:W.cell? ⟨bm,1,none⟩=_:=BW.cell 1;go_wp2_with fail;refine KT.out.mono ?_;rintro e w2 ⟨rfl,F2,s2⟩;have S2:=hid (Y.out.trans (a9.out _ _ _ s2));clear s2 KT Y;go_wp2_with fail
    go_roundw
    case rel=>exact⟨k+1,F2,by omega,by go_num,S2⟩
    case measure=>simp[intOf];omega
   ·obtain rfl:k=n:=by omega
    have d1:decide ((k:Int)<(k:Int))=false:=aB (by omega)
    have e1:Hid (Ev.n k :: (l.take k).flatMap (fun x=>rE x)=tQ l):=hid (by rw[hn.out,bF];simp only[tQ,qU,qV,qW,List.flatMap_map,aH])
    rw[e1.out]at Y;go_wp2_with fail
    go_end0
    exact⟨rfl,Fk,Y.out⟩
theorem aK7{T:TypeId}{fa fb:FuncId}(hT:SK T fa fb){w0:World}{g:Nat}{I:List Nat→List Ev→World→Prop}(S:pX fa fb g w0 I){F:List Nat}{J:List Ev}{w:World}(h:I F J w)(o:SO)(mA:Option Addr)(mc:Nat)(hr:zW w0 mA 2 (o.marks.map oI))(c:Nat)(hb:bT w c 178 #[.iface T (.pointer (some ⟨g,0,none⟩))])(hc:c∉F)(hl:J.length+(jC o).length≤MX) :
 Calls Tryz.prog 139 #[.agg #[.string o.name,.string o.kinds,.slice mA o.marks.length mc],.pointer (some ⟨c,0,none⟩)] w (gP I F (J++jC o) w):=by
 have e0:J++jC o=(((J++[Ev.t o.name])++[Ev.t o.kinds])++tQ o.marks):=by simp[rE,jC,mE,mQ]
 have a0:(((J++[Ev.t o.name])++[Ev.t o.kinds])++tQ o.marks).length≤MX:=by rw[←e0,aF];exact hl
 rw[e0];have hW:=S.alloc h (.cells #[.string o.name,.string o.kinds,.slice mA o.marks.length mc] 99);have B1:=bT.new w 99 #[.string o.name,.string o.kinds,.slice mA o.marks.length mc];have a3:w.heap.size∉F:=fun hx=>by have:=S.lt h _ hx;omega
 have B0:bT (w.alloc (.cells #[.string o.name,.string o.kinds,.slice mA o.marks.length mc] 99)) c 178 #[.iface T (.pointer (some ⟨g,0,none⟩))]:=hb.kept ((Fr.refl [] w).alloc _) (by simp)
 have S0:=hid S;obtain⟨W,a1⟩:∃W,Hid (W=w.alloc (.cells #[.string o.name,.string o.kinds,.slice mA o.marks.length mc] 99)):=⟨_,hid rfl⟩;have a2:Hid (∀Y e w',St I W F Y e w'→St I w F Y e w'):=hid (by rw[a1.out];exact fun _ _ _=>St.from_alloc)
 rw[←a1.out]at hW B0 B1;have HN:Hid (∀Y e w',St I W F Y e w'→c∉Y):=hid (fun _ _ _ s=>s.nin hc B0.lt)
 have HB:Hid (∀Y e w',St I W F Y e w'→bT w' c 178 #[.iface T (.pointer (some ⟨g,0,none⟩))]∧bT w' w.heap.size 99 #[.string o.name,.string o.kinds,.slice mA o.marks.length mc]):=hid (fun _ _ _ s=>⟨s.box B0 hc,s.box B1 a3⟩)
 have T0:=hid (St.start hW);have E0:=hid e0;clear hW B0 B1 S h hb e0
 rcases hT.both with⟨hT,rfl,rfl,rfl⟩ | ⟨hT,rfl,rfl,rfl⟩
 all_goals
  go_enter Tryz.func139,Tryz.ntmps139;go_upto_region 1 with fail;rw[←a1.out];generalize w.heap.size=bm at *;have y0:W.cell? ⟨c,0,none⟩=some (.iface _ (.pointer (some ⟨g,0,none⟩))):=(HB.out _ _ _ T0.out).1.cell 0;have y1:W.cell? ⟨bm,0,none⟩=some (.string o.name):=(HB.out _ _ _ T0.out).2.cell 0;have K1:=hid (S0.out.txt o.name T0.out.i (by clear E0;simp only[aF,aG,aI]at a0 ⊢;omega))
  go_wp2_with fail;refine K1.out.mono ?_;rintro e w1 ⟨rfl,F1,s1⟩;have T1:=hid (T0.out.trans s1);clear s1 y0 y1 K1 T0;have y0:w1.cell? ⟨c,0,none⟩=some (.iface _ (.pointer (some ⟨g,0,none⟩))):=(HB.out _ _ _ T1.out).1.cell 0;have y1:w1.cell? ⟨bm,1,none⟩=some (.string o.kinds):=(HB.out _ _ _ T1.out).2.cell 1;have K2:=hid (S0.out.txt o.kinds T1.out.i (by clear E0;simp only[aF,aG,aI]at a0 ⊢;omega))
  go_wp2_with fail;refine K2.out.mono ?_;rintro e w2 ⟨rfl,F2,s2⟩;have T2:=hid (T1.out.trans s2);clear s2 y0 y1 K2 T1;have y0:w2.cell? ⟨c,0,none⟩=some (.iface _ (.pointer (some ⟨g,0,none⟩))):=(HB.out _ _ _ T2.out).1.cell 0;have y1:w2.cell? ⟨bm,2,none⟩=some (.slice mA o.marks.length mc):=(HB.out _ _ _ T2.out).2.cell 2;have K3:=hid (aMh hT S0.out T2.out.i mA mc o.marks hr c (HB.out _ _ _ T2.out).1 (HN.out _ _ _ T2.out) (by clear E0;simp only[aF,aG,aI]at a0 ⊢;omega))
  go_wp2_with fail;refine K3.out.mono ?_;rintro e w3 ⟨rfl,F3,s3⟩;have T3:=hid (T2.out.trans s3);clear s3 y0 y1 K3 T2;go_wp2_with fail
  go_end0
  exact⟨rfl,F3,a2.out _ _ _ T3.out⟩
theorem aI3{T:TypeId}{fa fb:FuncId}(hT:SK T fa fb){w0:World}{g:Nat}{I:List Nat→List Ev→World→Prop}(S:pX fa fb g w0 I){F:List Nat}{Y:List Ev}{w:World}(h:I F Y w)(A:Option Addr)(ac:Nat)(l:List MO)(hr:zW w0 A 3 (l.map MO.row))(c:Nat)(hb:bT w c 178 #[.iface T (.pointer (some ⟨g,0,none⟩))])(hc:c∉F)(aa:∀x∈l,MOk w0 x)(a3:Y.length+(qU (l.map (·.o))).length≤MX) :
 Calls Tryz.prog 138 #[.iface T (.pointer (some ⟨g,0,none⟩)),.slice A l.length ac,.func (.func 139) #[] #[.pointer (some ⟨c,0,none⟩)]] w (gP I F (Y++qU (l.map (·.o))) w):=by
 have a7:Y.length+(l.flatMap (fun x=>jC x.o)).length+1≤MX:=by simpa[tQ,qU,qV,qW,Nat.add_assoc,List.flatMap_map] using a3
 have hm:l.length≤20000000:=by
  have e1:l.length≤(l.flatMap (fun x=>jC x.o)).length:=jK _ (fun x=>by simp[rE,jC,mE,mQ]) l
  unfold MX at a7;omega
 have KN:=hid (S.num (l.length:Int) h (by omega))
 have S0:=hid S;have HR:=hid hr;have HB:=hid (fun F' e w' (s:St I w F F' e w')=>s.box hb hc)
 have HN:=hid (fun F' e w' (s:St I w F F' e w')=>s.nin hc hb.lt)
 obtain⟨n,hn⟩:∃n,Hid (n=l.length):=⟨_,hid rfl⟩;rw[←hn.out]at KN hm ⊢;clear S hr h a3 hb hc
 rcases hT.both with⟨hT,rfl,rfl,rfl⟩ | ⟨hT,rfl,rfl,rfl⟩
 all_goals
  go_enter Tryz.func138,Tryz.ntmps138;go_wp2_with fail;refine KN.out.mono ?_;rintro e w1 ⟨rfl,F1,s1⟩;have S1:Hid (St I w F F1 (Y++(Ev.n n :: (l.take 0).flatMap (fun x=>jC x.o))) w1):=hid s1
  clear s1 KN;go_wp2_with fail
  go_loopw [7,14] (fun a i wr=>∃(k:Nat) (F':List Nat),k≤n∧i=.int .i64 k∧Hid (St I w F F' (Y++(Ev.n n :: (l.take k).flatMap (fun x=>jC x.o))) wr)) (fun _ i _=>n-(intOf i).toNat)
  case atStart=>exact⟨0,F1,by omega,rfl,S1⟩
  case round=>
   obtain⟨k,Fk,hk,rfl,J⟩:=hrel;clear S1
   by_cases ae:k<n
   ·have d1:decide ((k:Int)<(n:Int))=true:=aC (by omega)
    have a2:k<l.length:=by rw[←hn.out];exact ae
    obtain⟨b,off,rfl,a1,c0,c1,c2⟩:=iK HR.out a2;replace HB:=HB.out _ _ _ J.out;replace HN:=HN.out _ _ _ J.out;have a8:(Y++(Ev.n n :: (l.take k).flatMap (fun x=>jC x.o))).length+(jC l[k].o).length≤MX:=by
     have:=rP (fun x=>jC x.o) l k a2
     rw[aF,aG]
     try dsimp only at this
     omega
    have a4:Hid (Y++(Ev.n n :: (l.take k).flatMap (fun x=>jC x.o))++jC l[k].o=Y++(Ev.n n :: (l.take (k+1)).flatMap (fun x=>jC x.o))):=hid (by rw[kX _ _ _ a2];simp only[aS,aW])
    have af:=aa l[k] (aR a2);replace c0:=S0.out.cell J.out.i (show b<w0.heap.size from a1) c0;replace c1:=S0.out.cell J.out.i (show b<w0.heap.size from a1) c1;replace c2:=S0.out.cell J.out.i (show b<w0.heap.size from a1) c2;clear a1;generalize l[k] = x at *;obtain⟨⟨xn,xk,xm⟩,xA,xc⟩:=x;dsimp only at *;obtain⟨W,a0⟩:∃W,Hid (W=wr.alloc (.cells #[.string xn,.string xk,.slice xA xm.length xc] 99)):=⟨_,hid rfl⟩;have BW:bT W wr.heap.size 99 #[.string xn,.string xk,.slice xA xm.length xc]:=by rw[a0.out];exact bT.new _ _ _
    have a9:Hid (∀F' e w',St I W Fk F' e w'→St I wr Fk F' e w'):=hid (by rw[a0.out];exact fun _ _ _=>St.from_alloc)
    have a6:I Fk (Y++(Ev.n n :: (l.take k).flatMap (fun x=>jC x.o))) W:=by rw[a0.out];exact S0.out.alloc J.out.i _
    have a5:=box_on_alloc HB a0.out;have KT:=aK7 hT S0.out a6 ⟨xn,xk,xm⟩ xA xc af.m c a5 HN a8;rw[a4.out]at KT;replace KT:=hid KT;clear a4 a6 a5 HB;go_upto_region 4 with fail;rw[←a0.out];generalize wr.heap.size=bm at *;have z0:W.cell? ⟨bm,0,none⟩=_:=BW.cell 0;have z1:W.cell? ⟨bm,1,none⟩=_:=BW.cell 1;have z2:W.cell? ⟨bm,2,none⟩=_:=BW.cell 2;go_wp2_with fail;refine KT.out.mono ?_;rintro e w2 ⟨rfl,F2,s2⟩;have S2:=hid (J.out.trans (a9.out _ _ _ s2));clear s2 KT J;go_wp2_with fail
    go_roundw
    case rel=>exact⟨k+1,F2,by omega,by go_num,S2⟩
    case measure=>simp[intOf];omega
   ·obtain rfl:k=n:=by omega
    have d1:decide ((k:Int)<(k:Int))=false:=aB (by omega)
    have e1:Hid (Ev.n k :: (l.take k).flatMap (fun x=>jC x.o)=qU (l.map (·.o))):=hid (by rw[hn.out,bF];simp only[tQ,qU,qV,qW,List.flatMap_map,aH])
    rw[e1.out]at J;go_wp2_with fail
    go_end0
    exact⟨rfl,Fk,J.out⟩
theorem aNy{T:TypeId}{fa fb:FuncId}(hT:SK T fa fb){w0:World}{g:Nat}{I:List Nat→List Ev→World→Prop}(S:pX fa fb g w0 I){F:List Nat}{J:List Ev}{w:World}(h:I F J w)(o:SF)(c:Nat)(hb:bT w c 178 #[.iface T (.pointer (some ⟨g,0,none⟩))])(hc:c∉F)(hl:J.length+(mE o).length≤MX) :
 Calls Tryz.prog 143 #[.agg #[.string o.name,.string o.kinds,.string o.ret],.pointer (some ⟨c,0,none⟩)] w (gP I F (J++mE o) w):=by
 have e0:J++mE o=(((J++[Ev.t o.name])++[Ev.t o.kinds])++[Ev.t o.ret]):=by simp[rE,jC,mE,mQ]
 have a0:(((J++[Ev.t o.name])++[Ev.t o.kinds])++[Ev.t o.ret]).length≤MX:=by rw[←e0,aF];exact hl
 rw[e0];have hW:=S.alloc h (.cells #[.string o.name,.string o.kinds,.string o.ret] 103);have B1:=bT.new w 103 #[.string o.name,.string o.kinds,.string o.ret];have a3:w.heap.size∉F:=fun hx=>by have:=S.lt h _ hx;omega
 have B0:bT (w.alloc (.cells #[.string o.name,.string o.kinds,.string o.ret] 103)) c 178 #[.iface T (.pointer (some ⟨g,0,none⟩))]:=hb.kept ((Fr.refl [] w).alloc _) (by simp)
 have S0:=hid S;obtain⟨W,a1⟩:∃W,Hid (W=w.alloc (.cells #[.string o.name,.string o.kinds,.string o.ret] 103)):=⟨_,hid rfl⟩;have a2:Hid (∀Y e w',St I W F Y e w'→St I w F Y e w'):=hid (by rw[a1.out];exact fun _ _ _=>St.from_alloc)
 rw[←a1.out]at hW B0 B1;have HN:Hid (∀Y e w',St I W F Y e w'→c∉Y):=hid (fun _ _ _ s=>s.nin hc B0.lt)
 have HB:Hid (∀Y e w',St I W F Y e w'→bT w' c 178 #[.iface T (.pointer (some ⟨g,0,none⟩))]∧bT w' w.heap.size 103 #[.string o.name,.string o.kinds,.string o.ret]):=hid (fun _ _ _ s=>⟨s.box B0 hc,s.box B1 a3⟩)
 have T0:=hid (St.start hW);have E0:=hid e0;clear hW B0 B1 S h hb e0
 rcases hT with⟨rfl,rfl,rfl⟩ | ⟨rfl,rfl,rfl⟩
 all_goals
  go_enter Tryz.func143,Tryz.ntmps143;go_upto_region 1 with fail;rw[←a1.out];generalize w.heap.size=bm at *;have y0:W.cell? ⟨c,0,none⟩=some (.iface _ (.pointer (some ⟨g,0,none⟩))):=(HB.out _ _ _ T0.out).1.cell 0;have y1:W.cell? ⟨bm,0,none⟩=some (.string o.name):=(HB.out _ _ _ T0.out).2.cell 0;have K1:=hid (S0.out.txt o.name T0.out.i (by clear E0;simp only[aF,aG,aI]at a0 ⊢;omega))
  go_wp2_with fail;refine K1.out.mono ?_;rintro e w1 ⟨rfl,F1,s1⟩;have T1:=hid (T0.out.trans s1);clear s1 y0 y1 K1 T0;have y0:w1.cell? ⟨c,0,none⟩=some (.iface _ (.pointer (some ⟨g,0,none⟩))):=(HB.out _ _ _ T1.out).1.cell 0;have y1:w1.cell? ⟨bm,1,none⟩=some (.string o.kinds):=(HB.out _ _ _ T1.out).2.cell 1;have K2:=hid (S0.out.txt o.kinds T1.out.i (by clear E0;simp only[aF,aG,aI]at a0 ⊢;omega))
  go_wp2_with fail;refine K2.out.mono ?_;rintro e w2 ⟨rfl,F2,s2⟩;have T2:=hid (T1.out.trans s2);clear s2 y0 y1 K2 T1;have y0:w2.cell? ⟨c,0,none⟩=some (.iface _ (.pointer (some ⟨g,0,none⟩))):=(HB.out _ _ _ T2.out).1.cell 0;have y1:w2.cell? ⟨bm,2,none⟩=some (.string o.ret):=(HB.out _ _ _ T2.out).2.cell 2;have K3:=hid (S0.out.txt o.ret T2.out.i (by clear E0;simp only[aF,aG,aI]at a0 ⊢;omega))
  go_wp2_with fail;refine K3.out.mono ?_;rintro e w3 ⟨rfl,F3,s3⟩;have T3:=hid (T2.out.trans s3);clear s3 y0 y1 K3 T2;go_wp2_with fail
  go_end0
  exact⟨rfl,F3,a2.out _ _ _ T3.out⟩
theorem aMD{T:TypeId}{fa fb:FuncId}(hT:SK T fa fb){w0:World}{g:Nat}{I:List Nat→List Ev→World→Prop}(S:pX fa fb g w0 I){F:List Nat}{Y:List Ev}{w:World}(h:I F Y w)(A:Option Addr)(ac:Nat)(l:List SF)(hr:zW w0 A 3 (l.map kW))(c:Nat)(hb:bT w c 178 #[.iface T (.pointer (some ⟨g,0,none⟩))])(hc:c∉F)(a3:Y.length+(qV l).length≤MX) :
 Calls Tryz.prog 142 #[.iface T (.pointer (some ⟨g,0,none⟩)),.slice A l.length ac,.func (.func 143) #[] #[.pointer (some ⟨c,0,none⟩)]] w (gP I F (Y++qV l) w):=by
 have a7:Y.length+(l.flatMap (fun x=>mE x)).length+1≤MX:=by simpa[tQ,qU,qV,qW,Nat.add_assoc,List.flatMap_map] using a3
 have hm:l.length≤20000000:=by
  have e1:l.length≤(l.flatMap (fun x=>mE x)).length:=jK _ (fun x=>by simp[rE,jC,mE,mQ]) l
  unfold MX at a7;omega
 have KN:=hid (S.num (l.length:Int) h (by omega))
 have S0:=hid S;have HR:=hid hr;have HB:=hid (fun F' e w' (s:St I w F F' e w')=>s.box hb hc)
 have HN:=hid (fun F' e w' (s:St I w F F' e w')=>s.nin hc hb.lt)
 obtain⟨n,hn⟩:∃n,Hid (n=l.length):=⟨_,hid rfl⟩;rw[←hn.out]at KN hm ⊢;clear S hr h a3 hb hc
 rcases hT.both with⟨hT,rfl,rfl,rfl⟩ | ⟨hT,rfl,rfl,rfl⟩
 all_goals
  go_enter Tryz.func142,Tryz.ntmps142;go_wp2_with fail;refine KN.out.mono ?_;rintro e w1 ⟨rfl,F1,s1⟩;have S1:Hid (St I w F F1 (Y++(Ev.n n :: (l.take 0).flatMap (fun x=>mE x))) w1):=hid s1
  clear s1 KN;go_wp2_with fail
  go_loopw [7,14] (fun a i wr=>∃(k:Nat) (F':List Nat),k≤n∧i=.int .i64 k∧Hid (St I w F F' (Y++(Ev.n n :: (l.take k).flatMap (fun x=>mE x))) wr)) (fun _ i _=>n-(intOf i).toNat)
  case atStart=>exact⟨0,F1,by omega,rfl,S1⟩
  case round=>
   obtain⟨k,Fk,hk,rfl,J⟩:=hrel;clear S1
   by_cases aa:k<n
   ·have d1:decide ((k:Int)<(n:Int))=true:=aC (by omega)
    have a2:k<l.length:=by rw[←hn.out];exact aa
    obtain⟨b,off,rfl,a1,c0,c1,c2⟩:=lS HR.out a2;replace HB:=HB.out _ _ _ J.out;replace HN:=HN.out _ _ _ J.out;have a8:(Y++(Ev.n n :: (l.take k).flatMap (fun x=>mE x))).length+(mE l[k]).length≤MX:=by
     have:=rP (fun x=>mE x) l k a2
     rw[aF,aG]
     try dsimp only at this
     omega
    have a4:Hid (Y++(Ev.n n :: (l.take k).flatMap (fun x=>mE x))++mE l[k] = Y++(Ev.n n :: (l.take (k+1)).flatMap (fun x=>mE x))):=hid (by rw[kX _ _ _ a2];simp only[aS,aW])
    replace c0:=S0.out.cell J.out.i (show b<w0.heap.size from a1) c0;replace c1:=S0.out.cell J.out.i (show b<w0.heap.size from a1) c1;replace c2:=S0.out.cell J.out.i (show b<w0.heap.size from a1) c2;clear a1;generalize l[k] = m at *;obtain⟨W,a0⟩:∃W,Hid (W=wr.alloc (.cells #[.string m.name,.string m.kinds,.string m.ret] 103)):=⟨_,hid rfl⟩;have BW:bT W wr.heap.size 103 #[.string m.name,.string m.kinds,.string m.ret]:=by rw[a0.out];exact bT.new _ _ _
    have a9:Hid (∀F' e w',St I W Fk F' e w'→St I wr Fk F' e w'):=hid (by rw[a0.out];exact fun _ _ _=>St.from_alloc)
    have a6:I Fk (Y++(Ev.n n :: (l.take k).flatMap (fun x=>mE x))) W:=by rw[a0.out];exact S0.out.alloc J.out.i _
    have a5:=box_on_alloc HB a0.out;have KT:=aNy hT S0.out a6 m c a5 HN a8;rw[a4.out]at KT;replace KT:=hid KT;clear a4 a6 a5 HB;go_upto_region 4 with fail;rw[←a0.out];generalize wr.heap.size=bm at *;have z0:W.cell? ⟨bm,0,none⟩=_:=BW.cell 0;have z1:W.cell? ⟨bm,1,none⟩=_:=BW.cell 1;have z2:W.cell? ⟨bm,2,none⟩=_:=BW.cell 2;go_wp2_with fail;refine KT.out.mono ?_;rintro e w2 ⟨rfl,F2,s2⟩;have S2:=hid (J.out.trans (a9.out _ _ _ s2));clear s2 KT J;go_wp2_with fail
    go_roundw
    case rel=>exact⟨k+1,F2,by omega,by go_num,S2⟩
    case measure=>simp[intOf];omega
   ·obtain rfl:k=n:=by omega
    have d1:decide ((k:Int)<(k:Int))=false:=aB (by omega)
    have e1:Hid (Ev.n k :: (l.take k).flatMap (fun x=>mE x)=qV l):=hid (by rw[hn.out,bF];simp only[tQ,qU,qV,qW,List.flatMap_map,aH])
    rw[e1.out]at J;go_wp2_with fail
    go_end0
    exact⟨rfl,Fk,J.out⟩
end re
set_option maxRecDepth 100000
namespace re
open RowKit Shelf mem sy
theorem aL4{T:TypeId}{fa fb:FuncId}(hT:SK T fa fb){w0:World}{g:Nat}{I:List Nat→List Ev→World→Prop}(S:pX fa fb g w0 I){F:List Nat}{Y:List Ev}{w:World}(h:I F Y w)(o:SC)(aA:Option Addr)(ac:Nat)(hr:Rd w0 aA (o.args.map Value.string))(c:Nat)(hb:bT w c 178 #[.iface T (.pointer (some ⟨g,0,none⟩))])(hc:c∉F)(hl:Y.length+(mQ o).length≤MX) :
 Calls Tryz.prog 145 #[.agg #[.int .i64 o.op,.string o.a,.string o.b,.int .i64 o.k,.string o.tag,.slice aA o.args.length ac],.pointer (some ⟨c,0,none⟩)] w (gP I F (Y++mQ o) w):=by
 have e0:Y++mQ o=((((((Y++[Ev.n o.op])++[Ev.t o.a])++[Ev.t o.b])++[Ev.n o.k])++[Ev.t o.tag])++fD o.args):=by simp[rE,jC,mE,mQ]
 have J:((((((Y++[Ev.n o.op])++[Ev.t o.a])++[Ev.t o.b])++[Ev.n o.k])++[Ev.t o.tag])++fD o.args).length≤MX:=by rw[←e0,aF];exact hl
 rw[e0];have hW:=S.alloc h (.cells #[.int .i64 o.op,.string o.a,.string o.b,.int .i64 o.k,.string o.tag,.slice aA o.args.length ac] 105);have B1:=bT.new w 105 #[.int .i64 o.op,.string o.a,.string o.b,.int .i64 o.k,.string o.tag,.slice aA o.args.length ac];have a2:w.heap.size∉F:=fun hx=>by have:=S.lt h _ hx;omega
 have B0:bT (w.alloc (.cells #[.int .i64 o.op,.string o.a,.string o.b,.int .i64 o.k,.string o.tag,.slice aA o.args.length ac] 105)) c 178 #[.iface T (.pointer (some ⟨g,0,none⟩))]:=hb.kept ((Fr.refl [] w).alloc _) (by simp)
 have S0:=hid S;obtain⟨W,a0⟩:∃W,Hid (W=w.alloc (.cells #[.int .i64 o.op,.string o.a,.string o.b,.int .i64 o.k,.string o.tag,.slice aA o.args.length ac] 105)):=⟨_,hid rfl⟩;have a1:Hid (∀F' e w',St I W F F' e w'→St I w F F' e w'):=hid (by rw[a0.out];exact fun _ _ _=>St.from_alloc)
 rw[←a0.out]at hW B0 B1;have HN:Hid (∀F' e w',St I W F F' e w'→c∉F'):=hid (fun _ _ _ s=>s.nin hc B0.lt)
 have HB:Hid (∀F' e w',St I W F F' e w'→bT w' c 178 #[.iface T (.pointer (some ⟨g,0,none⟩))]∧bT w' w.heap.size 105 #[.int .i64 o.op,.string o.a,.string o.b,.int .i64 o.k,.string o.tag,.slice aA o.args.length ac]):=hid (fun _ _ _ s=>⟨s.box B0 hc,s.box B1 a2⟩)
 have T0:=hid (St.start hW);have E0:=hid e0;clear hW B0 B1 S h hb e0
 rcases hT.both with⟨hT,rfl,rfl,rfl⟩ | ⟨hT,rfl,rfl,rfl⟩
 all_goals
  go_enter Tryz.func145,Tryz.ntmps145;go_upto_region 1 with fail;rw[←a0.out];generalize w.heap.size=bm at *;have y0:W.cell? ⟨c,0,none⟩=some (.iface _ (.pointer (some ⟨g,0,none⟩))):=(HB.out _ _ _ T0.out).1.cell 0;have y1:W.cell? ⟨bm,0,none⟩=some (.int .i64 o.op):=(HB.out _ _ _ T0.out).2.cell 0;have K1:=hid (S0.out.num o.op T0.out.i (by clear E0;simp only[aF,aG,aI]at J ⊢;omega))
  go_wp2_with fail;refine K1.out.mono ?_;rintro e w1 ⟨rfl,F1,s1⟩;have T1:=hid (T0.out.trans s1);clear s1 y0 y1 K1 T0;have y0:w1.cell? ⟨c,0,none⟩=some (.iface _ (.pointer (some ⟨g,0,none⟩))):=(HB.out _ _ _ T1.out).1.cell 0;have y1:w1.cell? ⟨bm,1,none⟩=some (.string o.a):=(HB.out _ _ _ T1.out).2.cell 1;have K2:=hid (S0.out.txt o.a T1.out.i (by clear E0;simp only[aF,aG,aI]at J ⊢;omega))
  go_wp2_with fail;refine K2.out.mono ?_;rintro e w2 ⟨rfl,F2,s2⟩;have T2:=hid (T1.out.trans s2);clear s2 y0 y1 K2 T1;have y0:w2.cell? ⟨c,0,none⟩=some (.iface _ (.pointer (some ⟨g,0,none⟩))):=(HB.out _ _ _ T2.out).1.cell 0;have y1:w2.cell? ⟨bm,2,none⟩=some (.string o.b):=(HB.out _ _ _ T2.out).2.cell 2;have K3:=hid (S0.out.txt o.b T2.out.i (by clear E0;simp only[aF,aG,aI]at J ⊢;omega))
  go_wp2_with fail;refine K3.out.mono ?_;rintro e w3 ⟨rfl,F3,s3⟩;have T3:=hid (T2.out.trans s3);clear s3 y0 y1 K3 T2;have y0:w3.cell? ⟨c,0,none⟩=some (.iface _ (.pointer (some ⟨g,0,none⟩))):=(HB.out _ _ _ T3.out).1.cell 0;have y1:w3.cell? ⟨bm,3,none⟩=some (.int .i64 o.k):=(HB.out _ _ _ T3.out).2.cell 3;have K4:=hid (S0.out.num o.k T3.out.i (by clear E0;simp only[aF,aG,aI]at J ⊢;omega))
  go_wp2_with fail;refine K4.out.mono ?_;rintro e w4 ⟨rfl,F4,s4⟩;have T4:=hid (T3.out.trans s4);clear s4 y0 y1 K4 T3;have y0:w4.cell? ⟨c,0,none⟩=some (.iface _ (.pointer (some ⟨g,0,none⟩))):=(HB.out _ _ _ T4.out).1.cell 0;have y1:w4.cell? ⟨bm,4,none⟩=some (.string o.tag):=(HB.out _ _ _ T4.out).2.cell 4;have K5:=hid (S0.out.txt o.tag T4.out.i (by clear E0;simp only[aF,aG,aI]at J ⊢;omega))
  go_wp2_with fail;refine K5.out.mono ?_;rintro e w5 ⟨rfl,F5,s5⟩;have T5:=hid (T4.out.trans s5);clear s5 y0 y1 K5 T4;have y0:w5.cell? ⟨c,0,none⟩=some (.iface _ (.pointer (some ⟨g,0,none⟩))):=(HB.out _ _ _ T5.out).1.cell 0;have y1:w5.cell? ⟨bm,5,none⟩=some (.slice aA o.args.length ac):=(HB.out _ _ _ T5.out).2.cell 5;have Td:=hid (St.drew S0.out T5.out);have a4:w5.drew.cell? ⟨c,0,none⟩=some (.iface _ (.pointer (some ⟨g,0,none⟩))):=y0;have a3:w5.drew.cell? ⟨bm,5,none⟩=some (.slice aA o.args.length ac):=y1;have K6:=hid (zD hT S0.out Td.out.i aA ac o.args hr (by clear E0;simp only[aF,aG,aI]at J ⊢;omega))
  go_wp2_with fail
  go_region_with ((go_at_call 137;refine K6.out.mono ?_;rintro e w6 ⟨rfl,F6,s6⟩;have T6:=hid (Td.out.trans s6);clear s6))
  all_goals go_wp2_with fail
  all_goals go_end0
  all_goals exact⟨rfl,F6,a1.out _ _ _ T6.out⟩
theorem aJv{T:TypeId}{fa fb:FuncId}(hT:SK T fa fb){w0:World}{g:Nat}{I:List Nat→List Ev→World→Prop}(S:pX fa fb g w0 I){F:List Nat}{Y:List Ev}{w:World}(h:I F Y w)(A:Option Addr)(ac:Nat)(l:List MC)(hr:zW w0 A 6 (l.map MC.row))(c:Nat)(hb:bT w c 178 #[.iface T (.pointer (some ⟨g,0,none⟩))])(hc:c∉F)(aa:∀x∈l,COk w0 x)(a3:Y.length+(qW (l.map (·.c))).length≤MX) :
 Calls Tryz.prog 144 #[.iface T (.pointer (some ⟨g,0,none⟩)),.slice A l.length ac,.func (.func 145) #[] #[.pointer (some ⟨c,0,none⟩)]] w (gP I F (Y++qW (l.map (·.c))) w):=by
 have a7:Y.length+(l.flatMap (fun x=>mQ x.c)).length+1≤MX:=by simpa[tQ,qU,qV,qW,Nat.add_assoc,List.flatMap_map] using a3
 have hm:l.length≤20000000:=by
  have e1:l.length≤(l.flatMap (fun x=>mQ x.c)).length:=jK _ (fun x=>by simp[rE,jC,mE,mQ]) l
  unfold MX at a7;omega
 have KN:=hid (S.num (l.length:Int) h (by omega))
 have S0:=hid S;have HR:=hid hr;have HB:=hid (fun F' e w' (s:St I w F F' e w')=>s.box hb hc)
 have HN:=hid (fun F' e w' (s:St I w F F' e w')=>s.nin hc hb.lt)
 obtain⟨n,hn⟩:∃n,Hid (n=l.length):=⟨_,hid rfl⟩;rw[←hn.out]at KN hm ⊢;clear S hr h a3 hb hc
 rcases hT.both with⟨hT,rfl,rfl,rfl⟩ | ⟨hT,rfl,rfl,rfl⟩
 all_goals
  go_enter Tryz.func144,Tryz.ntmps144;go_wp2_with fail;refine KN.out.mono ?_;rintro e w1 ⟨rfl,F1,s1⟩;have S1:Hid (St I w F F1 (Y++(Ev.n n :: (l.take 0).flatMap (fun x=>mQ x.c))) w1):=hid s1
  clear s1 KN;go_wp2_with fail
  go_loopw [7,14] (fun a i wr=>∃(k:Nat) (F':List Nat),k≤n∧i=.int .i64 k∧Hid (St I w F F' (Y++(Ev.n n :: (l.take k).flatMap (fun x=>mQ x.c))) wr)) (fun _ i _=>n-(intOf i).toNat)
  case atStart=>exact⟨0,F1,by omega,rfl,S1⟩
  case round=>
   obtain⟨k,Fk,hk,rfl,J⟩:=hrel;clear S1
   by_cases ae:k<n
   ·have d1:decide ((k:Int)<(n:Int))=true:=aC (by omega)
    have a2:k<l.length:=by rw[←hn.out];exact ae
    obtain⟨b,off,rfl,a0,c0,c1,c2,c3,c4,c5⟩:=kH HR.out a2;replace HB:=HB.out _ _ _ J.out;replace HN:=HN.out _ _ _ J.out;have a8:(Y++(Ev.n n :: (l.take k).flatMap (fun x=>mQ x.c))).length+(mQ l[k].c).length≤MX:=by
     have:=rP (fun x=>mQ x.c) l k a2
     rw[aF,aG]
     try dsimp only at this
     omega
    have a4:Hid (Y++(Ev.n n :: (l.take k).flatMap (fun x=>mQ x.c))++mQ l[k].c=Y++(Ev.n n :: (l.take (k+1)).flatMap (fun x=>mQ x.c))):=hid (by rw[kX _ _ _ a2];simp only[aS,aW])
    have af:=aa l[k] (aR a2);replace c0:=S0.out.cell J.out.i (show b<w0.heap.size from a0) c0;replace c1:=S0.out.cell J.out.i (show b<w0.heap.size from a0) c1;replace c2:=S0.out.cell J.out.i (show b<w0.heap.size from a0) c2;replace c3:=S0.out.cell J.out.i (show b<w0.heap.size from a0) c3;replace c4:=S0.out.cell J.out.i (show b<w0.heap.size from a0) c4;replace c5:=S0.out.cell J.out.i (show b<w0.heap.size from a0) c5;clear a0;generalize l[k] = x at *;obtain⟨⟨xo,xa,xb,xk,xt,xg⟩,xA,xc⟩:=x;dsimp only at *;obtain⟨W,a1⟩:∃W,Hid (W=wr.alloc (.cells #[.int .i64 xo,.string xa,.string xb,.int .i64 xk,.string xt,.slice xA xg.length xc] 105)):=⟨_,hid rfl⟩;have BW:bT W wr.heap.size 105 #[.int .i64 xo,.string xa,.string xb,.int .i64 xk,.string xt,.slice xA xg.length xc]:=by rw[a1.out];exact bT.new _ _ _
    have a9:Hid (∀F' e w',St I W Fk F' e w'→St I wr Fk F' e w'):=hid (by rw[a1.out];exact fun _ _ _=>St.from_alloc)
    have a6:I Fk (Y++(Ev.n n :: (l.take k).flatMap (fun x=>mQ x.c))) W:=by rw[a1.out];exact S0.out.alloc J.out.i _
    have a5:=box_on_alloc HB a1.out;have KT:=aL4 hT S0.out a6 ⟨xo,xa,xb,xk,xt,xg⟩ xA xc af.g c a5 HN a8;rw[a4.out]at KT;replace KT:=hid KT;clear a4 a6 a5 HB;go_upto_region 4 with fail;rw[←a1.out];generalize wr.heap.size=bm at *;have z0:W.cell? ⟨bm,0,none⟩=_:=BW.cell 0;have z1:W.cell? ⟨bm,1,none⟩=_:=BW.cell 1;have z2:W.cell? ⟨bm,2,none⟩=_:=BW.cell 2;have z3:W.cell? ⟨bm,3,none⟩=_:=BW.cell 3;have z4:W.cell? ⟨bm,4,none⟩=_:=BW.cell 4;have z5:W.cell? ⟨bm,5,none⟩=_:=BW.cell 5;go_wp2_with fail;refine KT.out.mono ?_;rintro e w2 ⟨rfl,F2,s2⟩;have S2:=hid (J.out.trans (a9.out _ _ _ s2));clear s2 KT J;go_wp2_with fail
    go_roundw
    case rel=>exact⟨k+1,F2,by omega,by go_num,S2⟩
    case measure=>simp[intOf];omega
   ·obtain rfl:k=n:=by omega
    have d1:decide ((k:Int)<(k:Int))=false:=aB (by omega)
    have e1:Hid (Ev.n k :: (l.take k).flatMap (fun x=>mQ x.c)=qW (l.map (·.c))):=hid (by rw[hn.out,bF];simp only[tQ,qU,qV,qW,List.flatMap_map,aH])
    rw[e1.out]at J;go_wp2_with fail
    go_end0
    exact⟨rfl,Fk,J.out⟩
end re
set_option maxRecDepth 100000
namespace re
open RowKit Shelf mem sy
theorem aAP{T:TypeId}{fa fb:FuncId}(hT:SK T fa fb){w0:World}{g:Nat}{I:List Nat→List Ev→World→Prop}(S:pX fa fb g w0 I){F:List Nat}{Y:List Ev}{w:World}(h:I F Y w)(u:MU)(hu:eY w0 u)(hl:Y.length+(dB u.su).length≤MX) :
 Calls Tryz.prog 83 #[.iface T (.pointer (some ⟨g,0,none⟩)),u.val] w (gP I F (Y++dB u.su) w):=by
 obtain⟨nm,gA,gc,gs,wA,wc,ws,kA,kc,ks,⟨oA,oc,os,fA,fc,fs,cA,cc,cs⟩⟩:=u;obtain⟨hg,hw,hk,ho⟩:=hu;have a7:=ho.o;have a3:=ho.f;have a6:=ho.c;have a8:=ho.ok;have a0:=ho.ck;unfold MU.val MU.row MU.su MS.sys at *;dsimp only at *;have e0:Y++dB ⟨nm,gs,ws,ks,⟨os.map (·.o),fs,cs.map (·.c)⟩⟩=((((((Y++[Ev.t nm])++fD gs)++fD ws)++fD ks)++qU (os.map (·.o)))++qV fs)++qW (cs.map (·.c)):=by simp[dB]
 have aa:(((((((Y++[Ev.t nm])++fD gs)++fD ws)++fD ks)++qU (os.map (·.o)))++qV fs)++qW (cs.map (·.c))).length≤MX:=by rw[←e0,aF];exact hl
 rw[e0];simp only[aF,aG,aI]at aa;clear hl e0 ho;have hW:=S.alloc (S.alloc h (.cells #[.iface T (.pointer (some ⟨g,0,none⟩))] 178)) (.cells #[.string nm,.slice gA gs.length gc,.slice wA ws.length wc,.slice kA ks.length kc,.slice oA os.length oc,.slice fA fs.length fc,.slice cA cs.length cc] 29);have a5:w.heap.size∉F:=fun hx=>by have:=S.lt h _ hx;omega
 have hz:(w.alloc (.cells #[.iface T (.pointer (some ⟨g,0,none⟩))] 178)).heap.size=w.heap.size+1:=bH _;have B0:bT ((w.alloc (.cells #[.iface T (.pointer (some ⟨g,0,none⟩))] 178)).alloc (.cells #[.string nm,.slice gA gs.length gc,.slice wA ws.length wc,.slice kA ks.length kc,.slice oA os.length oc,.slice fA fs.length fc,.slice cA cs.length cc] 29)) w.heap.size 178 #[.iface T (.pointer (some ⟨g,0,none⟩))]:=(bT.new w _ _).kept ((Fr.refl [] _).alloc _) (by simp)
 have B1:=bT.new (w.alloc (.cells #[.iface T (.pointer (some ⟨g,0,none⟩))] 178)) 29 #[.string nm,.slice gA gs.length gc,.slice wA ws.length wc,.slice kA ks.length kc,.slice oA os.length oc,.slice fA fs.length fc,.slice cA cs.length cc];rw[hz]at B1;have ag:w.heap.size+1∉F:=fun hx=>by have:=S.lt h _ hx;omega
 have S0:=hid S;obtain⟨W,a1⟩:∃W,Hid (W=(w.alloc (.cells #[.iface T (.pointer (some ⟨g,0,none⟩))] 178)).alloc (.cells #[.string nm,.slice gA gs.length gc,.slice wA ws.length wc,.slice kA ks.length kc,.slice oA os.length oc,.slice fA fs.length fc,.slice cA cs.length cc] 29)):=⟨_,hid rfl⟩;have a2:Hid (∀F' e w',St I W F F' e w'→St I w F F' e w'):=hid (by rw[a1.out];exact fun _ _ _ s=>St.from_alloc (St.from_alloc s))
 rw[←a1.out]at hW B0 B1;have HN:Hid (∀F' e w',St I W F F' e w'→w.heap.size∉F'):=hid (fun _ _ _ s=>s.nin a5 B0.lt)
 have HB:Hid (∀F' e w',St I W F F' e w'→bT w' w.heap.size 178 #[.iface T (.pointer (some ⟨g,0,none⟩))]∧bT w' (w.heap.size+1) 29 #[.string nm,.slice gA gs.length gc,.slice wA ws.length wc,.slice kA ks.length kc,.slice oA os.length oc,.slice fA fs.length fc,.slice cA cs.length cc]):=hid (fun _ _ _ s=>⟨s.box B0 a5,s.box B1 ag⟩)
 have T0:=hid (St.start hW);have Hg:=hid hg;have Hw:=hid hw;have Hk:=hid hk;have Ho:=hid a7;have Hf:=hid a3;have Hc:=hid a6;have ae:=hid a8;have af:=hid a0;clear hW B0 B1 S h hg hw hk a7 a3 a6 a8 a0
 rcases hT.both with⟨hT,rfl,rfl,rfl⟩ | ⟨hT,rfl,rfl,rfl⟩
 all_goals
  go_enter Tryz.func83,Tryz.ntmps83;go_upto_region 1 with fail
  try rw[hz]
  rw[←a1.out];clear hz;generalize w.heap.size=J at *;have y0:W.cell? ⟨J,0,none⟩=some (.iface _ (.pointer (some ⟨g,0,none⟩))):=(HB.out _ _ _ T0.out).1.cell 0;have y1:W.cell? ⟨J+1,0,none⟩=some (.string nm):=(HB.out _ _ _ T0.out).2.cell 0;have K1:=hid (S0.out.txt nm T0.out.i (by omega))
  go_wp2_with fail;refine K1.out.mono ?_;rintro e w1 ⟨rfl,F1,s1⟩;have T1:=hid (T0.out.trans s1);clear s1 y0 y1 K1 T0;go_upto_region 2 with fail
  go_cut [14] (fun _ wx=>∃F',Hid (St I W F F' ((Y++[Ev.t nm])++fD gs) wx))
  case first=>
   have y0:w1.cell? ⟨J,0,none⟩=some (.iface _ (.pointer (some ⟨g,0,none⟩))):=(HB.out _ _ _ T1.out).1.cell 0;have y1:w1.cell? ⟨J+1,1,none⟩=some (.slice gA gs.length gc):=(HB.out _ _ _ T1.out).2.cell 1;have Td:=hid (St.drew S0.out T1.out);have a9:w1.drew.cell? ⟨J,0,none⟩=some (.iface _ (.pointer (some ⟨g,0,none⟩))):=y0;have a4:w1.drew.cell? ⟨J+1,1,none⟩=some (.slice gA gs.length gc):=y1;have K:=hid (zD hT S0.out Td.out.i gA gc gs Hg.out (by simp only[aF,aG,aI];omega))
   go_region_with ((go_at_call 137;refine K.out.mono ?_;rintro e w2 ⟨rfl,F2,s2⟩;have T2:=hid (Td.out.trans s2);clear s2))
   all_goals (go_wp2_with fail;go_meet;exact⟨F2,T2⟩)
  obtain⟨F2,T2⟩:=hcut
  rename World=>w2
  clear T1;go_upto_region 3 with fail
  go_cut [21] (fun _ wx=>∃F',Hid (St I W F F' (((Y++[Ev.t nm])++fD gs)++fD ws) wx))
  case first=>
   have y0:w2.cell? ⟨J,0,none⟩=some (.iface _ (.pointer (some ⟨g,0,none⟩))):=(HB.out _ _ _ T2.out).1.cell 0;have y1:w2.cell? ⟨J+1,2,none⟩=some (.slice wA ws.length wc):=(HB.out _ _ _ T2.out).2.cell 2;have Td:=hid (St.drew S0.out T2.out);have a9:w2.drew.cell? ⟨J,0,none⟩=some (.iface _ (.pointer (some ⟨g,0,none⟩))):=y0;have a4:w2.drew.cell? ⟨J+1,2,none⟩=some (.slice wA ws.length wc):=y1;have K:=hid (zD hT S0.out Td.out.i wA wc ws Hw.out (by simp only[aF,aG,aI];omega))
   go_region_with ((go_at_call 137;refine K.out.mono ?_;rintro e w3 ⟨rfl,F3,s3⟩;have T3:=hid (Td.out.trans s3);clear s3))
   all_goals (go_wp2_with fail;go_meet;exact⟨F3,T3⟩)
  obtain⟨F3,T3⟩:=hcut
  rename World=>w3
  clear T2;go_upto_region 4 with fail
  go_cut [28] (fun _ wx=>∃F',Hid (St I W F F' ((((Y++[Ev.t nm])++fD gs)++fD ws)++fD ks) wx))
  case first=>
   have y0:w3.cell? ⟨J,0,none⟩=some (.iface _ (.pointer (some ⟨g,0,none⟩))):=(HB.out _ _ _ T3.out).1.cell 0;have y1:w3.cell? ⟨J+1,3,none⟩=some (.slice kA ks.length kc):=(HB.out _ _ _ T3.out).2.cell 3;have Td:=hid (St.drew S0.out T3.out);have a9:w3.drew.cell? ⟨J,0,none⟩=some (.iface _ (.pointer (some ⟨g,0,none⟩))):=y0;have a4:w3.drew.cell? ⟨J+1,3,none⟩=some (.slice kA ks.length kc):=y1;have K:=hid (zD hT S0.out Td.out.i kA kc ks Hk.out (by simp only[aF,aG,aI];omega))
   go_region_with ((go_at_call 137;refine K.out.mono ?_;rintro e w4 ⟨rfl,F4,s4⟩;have T4:=hid (Td.out.trans s4);clear s4))
   all_goals (go_wp2_with fail;go_meet;exact⟨F4,T4⟩)
  obtain⟨F4,T4⟩:=hcut
  rename World=>w4
  clear T3;have y0:w4.cell? ⟨J,0,none⟩=some (.iface _ (.pointer (some ⟨g,0,none⟩))):=(HB.out _ _ _ T4.out).1.cell 0;have y1:w4.cell? ⟨J+1,4,none⟩=some (.slice oA os.length oc):=(HB.out _ _ _ T4.out).2.cell 4;have K:=hid (aI3 hT S0.out T4.out.i oA oc os Ho.out J (HB.out _ _ _ T4.out).1 (HN.out _ _ _ T4.out) ae.out (by simp only[aF,aG,aI];omega))
  go_wp2_with fail;refine K.out.mono ?_;rintro e w5 ⟨rfl,F5,s5⟩;have T5:=hid (T4.out.trans s5);clear s5 y0 y1 K T4;have y0:w5.cell? ⟨J,0,none⟩=some (.iface _ (.pointer (some ⟨g,0,none⟩))):=(HB.out _ _ _ T5.out).1.cell 0;have y1:w5.cell? ⟨J+1,5,none⟩=some (.slice fA fs.length fc):=(HB.out _ _ _ T5.out).2.cell 5;have K:=hid (aMD hT S0.out T5.out.i fA fc fs Hf.out J (HB.out _ _ _ T5.out).1 (HN.out _ _ _ T5.out) (by simp only[aF,aG,aI];omega))
  go_wp2_with fail;refine K.out.mono ?_;rintro e w6 ⟨rfl,F6,s6⟩;have T6:=hid (T5.out.trans s6);clear s6 y0 y1 K T5;have y0:w6.cell? ⟨J,0,none⟩=some (.iface _ (.pointer (some ⟨g,0,none⟩))):=(HB.out _ _ _ T6.out).1.cell 0;have y1:w6.cell? ⟨J+1,6,none⟩=some (.slice cA cs.length cc):=(HB.out _ _ _ T6.out).2.cell 6;have K:=hid (aJv hT S0.out T6.out.i cA cc cs Hc.out J (HB.out _ _ _ T6.out).1 (HN.out _ _ _ T6.out) af.out (by simp only[aF,aG,aI];omega))
  go_wp2_with fail;refine K.out.mono ?_;rintro e w7 ⟨rfl,F7,s7⟩;have T7:=hid (T6.out.trans s7);clear s7 y0 y1 K T6;go_wp2_with fail
  go_end0
  exact⟨rfl,F7,a2.out _ _ _ T7.out⟩
end re
set_option maxRecDepth 100000
namespace re
open RowKit Shelf mem sy vx vr po inn
def RP(st:List UInt8×Int)(w:World)(e:Ending)(w':World):Prop:=e=.returned (.tuple #[.string (bs (oF st)),.int .i64 st.2])∧Below w.heap.size w w'
theorem aCr(w:World)(pb:Nat)(pA:Option Addr)(pc:Nat)(m:List (List UInt8))(hp:Pl w pb pA pc m)(hs:m.Pairwise (fun a b=>a<b))(hm:m.length≤1000000)(u:MU)(hu:eY w u)(hl:(dB u.su).length≤MX) :
 Calls Tryz.prog 31 #[.pointer (some ⟨pb,0,none⟩),u.val] w (RP (fM m (dB u.su)) w):=by
 have S:=aNk (w.heap.size+1) hp hs hm;obtain⟨W,a0⟩:∃W,Hid (W=(w.alloc (.cells u.row 29)).alloc (.cells #[.slice none 0 0,.int .i64 0,.pointer (some ⟨pb,0,none⟩),.int .i64 0] 127)):=⟨_,hid rfl⟩;have hz:(w.alloc (.cells u.row 29)).heap.size=w.heap.size+1:=bH _;have a3:Fr [] w W:=by rw[a0.out];exact((Fr.refl [] w).alloc _).alloc _
 have B0:bT W w.heap.size 29 u.row:=by rw[a0.out];exact(bT.new w _ _).kept ((Fr.refl [] _).alloc _) (by simp)
 have B1:bT W (w.heap.size+1) 127 #[.slice none 0 0,.int .i64 0,.pointer (some ⟨pb,0,none⟩),.int .i64 0]:=by
  rw[a0.out,←hz];exact bT.new _ _ _
 have h0:IW w (w.heap.size+1) pb m [w.heap.size+1] [] W:=⟨a3.all,fun x hx=>by rw[aD]at hx;omega,none,0,rfl,B1,Seg.nil _ _,by decide,by decide⟩
 have KP:=hid (aAP (.inl ⟨rfl,rfl,rfl⟩) S h0 u hu (by simpa using hl))
 rw[aX]at KP;have hlen:=mW m (dB u.su);obtain⟨Y,a2⟩:∃e,e=dB u.su:=⟨_,rfl⟩;rw[←a2]at KP hlen ⊢;have a1:Hid (∀F' w',St (IW w (w.heap.size+1) pb m) W [w.heap.size+1] F' Y w'→Below w.heap.size w w'):=hid (fun F' w' s=>S.be s.i)
 have hcell:Hid (∀F' w',St (IW w (w.heap.size+1) pb m) W [w.heap.size+1] F' Y w'→w'.cell? ⟨w.heap.size+1,3,none⟩=some (.int .i64 (fM m Y).2)):=hid (fun F' w' s=>(WS.cells s.i).2.1)
 have J:Hid (∀F' w',St (IW w (w.heap.size+1) pb m) W [w.heap.size+1] F' Y w'→Calls Tryz.prog 35 #[.pointer (some ⟨w.heap.size+1,0,none⟩)] w' fun e a5=>e=.returned (.tuple #[.string (bs (fM m Y).1),.int .i64 0])∧Below w'.heap.size w' a5):=hid (fun F' w' s=>by
  obtain⟨A,cap,_,hx⟩:=s.i.x
  exact aDc w' (w.heap.size+1) A cap ((fM m Y).1,0) hx)
 have a6:Hid (u.val=.agg u.row):=hid rfl;have x0:W.cell? ⟨w.heap.size,0,none⟩=_:=B0.cell 0;have x1:W.cell? ⟨w.heap.size,1,none⟩=_:=B0.cell 1;have x2:W.cell? ⟨w.heap.size,2,none⟩=_:=B0.cell 2;have x3:W.cell? ⟨w.heap.size,3,none⟩=_:=B0.cell 3;have x4:W.cell? ⟨w.heap.size,4,none⟩=_:=B0.cell 4;have x5:W.cell? ⟨w.heap.size,5,none⟩=_:=B0.cell 5;have x6:W.cell? ⟨w.heap.size,6,none⟩=_:=B0.cell 6;clear S h0 hp hs hu hl B0 B1 a2 hlen a3;obtain⟨nm,gA,gc,gs,wA,wc,ws,kA,kc,ks,⟨oA,oc,os,fA,fc,fs,cA,cc,cs⟩⟩:=u;unfold MU.val MU.row at *;dsimp only at *;simp only[aL,aJ,aK]at x0 x1 x2 x3 x4 x5 x6;generalize fM m Y=st at *;obtain⟨R,E⟩:=st;dsimp only at hcell J;go_enter Tryz.func31,Tryz.ntmps31;go_upto_region 2 with fail;rw[←a0.out]
 try rw[hz]
 clear hz;go_wp2_with fail;refine KP.out.mono ?_;rintro e w2 ⟨rfl,F2,s2⟩;have S2:=hid s2;have c3:=hcell.out _ _ s2;have K3:=hid (J.out _ _ s2);have hb:=hid (a1.out _ _ s2);clear s2 x0 x1 x2 x3 x4 x5 x6 KP hcell J a1
 by_cases hE:E=0
 ·subst hE
  go_wp2_with fail;refine K3.out.mono ?_;rintro e w3 ⟨rfl,b3⟩;have h3:=hid (hb.out.trans (b3.mono hb.out.size));clear b3;go_wp2_with fail;refine bodyPost_ret (results_tmp2 rfl _ _ _) rfl ?_;exact⟨rfl,h3.out⟩
 ·have d0:(E != 0)=true:=by simpa using hE
  have a7:w2.drew.cell? ⟨w.heap.size+1,3,none⟩=some (.int .i64 E):=c3;have a4:=hid hb.out.drew;have hv:Hid (bs (oF (R,E))=⟨#[]⟩):=hid (by unfold oF;rw[if_pos hE];rfl)
  go_wp2_with fail
  go_region
  all_goals go_wp2_with fail
  all_goals (refine bodyPost_ret (results_tmp2 rfl _ _ _) rfl ?_;exact⟨by rw[hv.out];rfl,a4.out⟩)
def TP(R:List (List UInt8))(w:World)(e:Ending)(w':World):Prop:=∃Y J,e=.returned (.slice Y R.length J)∧Rd w' Y (R.map encStr)∧Below w.heap.size w w'
theorem nY(l:List ByteArray):(l.map tx).map encStr=l.map Value.string:=by
 rw[List.map_map];rfl
theorem xK(w:World)(u:MU)(hu:eY w u)(hl:(dB u.su).length≤1000000) :
 Calls Tryz.prog 27 #[u.val] w (TP (jP ((oM (dB u.su)).map tx)) w):=by
 have S:=aNP w (w.heap.size+1);obtain⟨W,J⟩:∃W,Hid (W=(w.alloc (.cells u.row 29)).alloc (.cells #[.slice none 0 0] 119)):=⟨_,hid rfl⟩;have hz:(w.alloc (.cells u.row 29)).heap.size=w.heap.size+1:=bH _;have a2:Fr [] w W:=by rw[J.out];exact((Fr.refl [] w).alloc _).alloc _
 have Y:bT W w.heap.size 29 u.row:=by rw[J.out];exact(bT.new w _ _).kept ((Fr.refl [] _).alloc _) (by simp)
 have B1:bT W (w.heap.size+1) 119 #[.slice none 0 0]:=by
  rw[J.out,←hz];exact bT.new _ _ _
 have h0:IT w (w.heap.size+1) [w.heap.size+1] [] W:=⟨a2.all,fun x hx=>by rw[aD]at hx;omega,none,0,rfl,B1,Seg.nil _ _⟩
 have KP:=hid (aAP (.inr ⟨rfl,rfl,rfl⟩) S h0 u hu (by unfold MX;simp;omega))
 rw[aX]at KP;have hlen:=wZ (dB u.su);have a0:(oM (dB u.su)).length≤1000000:=by omega
 unfold gP at KP
 have hX:Hid (∀F' w',St (IT w (w.heap.size+1)) W [w.heap.size+1] F' (dB u.su) w'→∃A cap,w'.cell? ⟨w.heap.size+1,0,none⟩=some (.slice A ((oM (dB u.su)).map tx).length cap)∧Rd w' A (((oM (dB u.su)).map tx).map encStr)∧Below w.heap.size w w'):=hid (fun F' w' s=>by
  obtain⟨A,cap,_,hb,hs⟩:=s.i.x;refine⟨A,cap,?_,?_,S.be s.i⟩
  ·rw[aH];exact hb.cell 0
  ·rw[nY];exact hs.rd)
 have a3:((oM (dB u.su)).map tx).length≤1000000:=by rw[aH];exact a0
 generalize (oM (dB u.su)).map tx=L at *;generalize dB u.su=a4 at *;have x0:W.cell? ⟨w.heap.size,0,none⟩=_:=Y.cell 0;have x1:W.cell? ⟨w.heap.size,1,none⟩=_:=Y.cell 1;have x2:W.cell? ⟨w.heap.size,2,none⟩=_:=Y.cell 2;have x3:W.cell? ⟨w.heap.size,3,none⟩=_:=Y.cell 3;have x4:W.cell? ⟨w.heap.size,4,none⟩=_:=Y.cell 4;have x5:W.cell? ⟨w.heap.size,5,none⟩=_:=Y.cell 5;have x6:W.cell? ⟨w.heap.size,6,none⟩=_:=Y.cell 6;clear S h0 hu hl Y B1 hlen a2 a0;obtain⟨nm,gA,gc,gs,wA,wc,ws,kA,kc,ks,⟨oA,oc,os,fA,fc,fs,cA,cc,cs⟩⟩:=u;unfold MU.val MU.row at *;dsimp only at *;simp only[aL,aJ,aK]at x0 x1 x2 x3 x4 x5 x6;go_enter Tryz.func27,Tryz.ntmps27;go_upto_region 2 with fail;rw[←J.out]
 try rw[hz]
 clear hz;go_wp2_with fail;refine KP.out.mono ?_;rintro e w2 ⟨rfl,F2,s2⟩;obtain⟨A,cap,c3,r3,b3⟩:=hX.out _ _ s2;have K3:=hid (xW w2 A cap L r3 a3);have hb:=hid b3;clear s2 x0 x1 x2 x3 x4 x5 x6 KP hX r3 b3;unfold inn.gP at K3;go_wp2_with fail;refine K3.out.mono ?_;rintro e w3 ⟨A3,a1,rfl,b3,r3⟩;have h3:=hid (hb.out.trans (b3.mono hb.out.size));have R3:=hid r3;clear b3 r3;go_wp2_with fail;go_ret;exact⟨A3,a1,rfl,R3.out,h3.out⟩
end re
set_option maxRecDepth 100000
namespace re
open RowKit Go.Sort Shelf mem vr po inn
def aBV(w:World)(m:List (List UInt8))(e:Ending)(w':World):Prop:=∃b B cap,e=.returned (.pointer (some ⟨b,0,none⟩))∧Pl w' b B cap m∧Below w.heap.size w w'
theorem aN4{w J:World}{Y:List (List UInt8)}{B:Option Addr}{cap:Nat}(b1:Below w.heap.size w J)(r1:Rd J B ((jP Y).map encStr)):aBV w (jP Y) (.returned (.pointer (some ⟨J.heap.size,0,none⟩))) (J.alloc (.cells #[.slice B (jP Y).length cap] 124)):=
 ⟨_,B,cap,rfl,⟨bT.new J _ _,r1.alloc _⟩,b1.alloc b1.size _⟩
theorem aMc(w:World)(A:Option Addr)(c:Nat)(J:List (List UInt8))(h:Rd w A (J.map encStr))(hm:J.length≤1000000) :
 Calls Tryz.prog 30 #[.slice A J.length c] w (aBV w (jP J)):=by
 have K:=hid (inn.xW w A c J h hm);have E:=hid (fun(w1:World) B cap (Y:Below w.heap.size w w1) (r1:Rd w1 B ((jP J).map encStr))=>aN4 (cap:=cap) Y r1)
 clear h;go_enter Tryz.func30,Tryz.ntmps30;go_wp2_with fail;refine K.out.mono ?_;rintro e w1 ⟨B,cap,rfl,Y,r1⟩;have E1:=hid (E.out w1 B cap Y r1);clear K Y r1 E;go_wp2_with fail;go_ret;exact E1.out
def aBo(w:World)(l:List (List UInt8))(N:Nat)(e:Ending)(w':World):Prop:=∃r,e=.returned (.bool r)∧w=w'∧(r=false→l.length≤N∧∀s∈l,s.length≤100)
theorem aEo{l:List (List UInt8)}{k:Nat}(J:k<l.length)(h:∀s∈l.take k,s.length≤100)(Y:l[k].length≤100):∀s∈l.take (k+1),s.length≤100:=fun s hs=>by
 rw[bC J,List.mem_append,aD]at hs
 rcases hs with hs | rfl
 ·exact h s hs
 ·exact Y
theorem aJn{w:World}{A:Option Addr}{l:List (List UInt8)}(h:Rd w A (l.map encStr)){k:Nat}(J:k<l.length):∃g o,A=some ⟨g,o,none⟩∧g<w.heap.size∧w.cell? ⟨g,o+k,none⟩=some (encStr l[k]):=by
 obtain⟨g,o,e,hl,hc⟩:=h (by rw[aH];omega)
 refine⟨g,o,e,hl,?_⟩;rw[hc k (by rw[aH];exact J),List.getElem_map]
theorem aFm(w:World)(A:Option Addr)(cap:Nat)(l:List (List UInt8))(h:Rd w A (l.map encStr))(hm:l.length≤maxLen) :
 Calls Tryz.prog 24 #[.slice A l.length cap] w (aBo w l 60):=by
 have Hh:=hid h;unfold maxLen at hm;clear h;unfold aBo;obtain⟨n,hN⟩:∃n,Hid (n=l.length):=⟨_,hid rfl⟩;rw[←hN.out]at hm ⊢;go_enter Tryz.func24,Tryz.ntmps24;go_wp2_with fail
 go_loopw [3] (fun i wr=>∃k:Nat,k≤n∧k≤60∧i=.int .i64 k∧Hid (∀s∈l.take k,s.length≤100)∧w=wr) (fun i _=>n-(intOf i).toNat)
 case atStart=>exact⟨0,by omega,by omega,rfl,hid (fun s hs=>by simp at hs),rfl⟩
 case round=>
  obtain⟨k,hk,a3,rfl,hG,rfl⟩:=hrel
  by_cases a1:k<n
  ·have e1:decide ((k:Int)<(n:Int))=true:=aC (by omega)
   have a0:k<l.length:=by rw[←hN.out];exact a1
   by_cases h6:60≤k
   ·have e2:decide ((60:Int)≤(k:Int))=true:=aC (by omega)
    go_wp2_with fail;go_ret;exact⟨true,rfl,rfl,fun h=>by cases h⟩
   ·have e2:decide ((60:Int)≤(k:Int))=false:=aB (by omega)
    obtain⟨g,o,rfl,hg,c3⟩:=aJn Hh.out a0;have J:=hid (aEo a0 hG.out);clear hG;unfold encStr at c3;generalize l[k] = tx at *
    by_cases a4:100<tx.length
    ·have e3:decide ((100:Int)<(tx.length:Int))=true:=aC (by omega)
     go_wp2_with fail;go_ret;exact⟨true,rfl,rfl,fun h=>by cases h⟩
    ·have e3:decide ((100:Int)<(tx.length:Int))=false:=aB (by omega)
     have a2:=hid (J.out (by omega))
     clear J;go_wp2_with fail
     go_roundw
     case rel=>exact⟨k+1,by omega,by omega,by go_num,a2,trivial⟩
     case measure=>simp[intOf];omega
  ·obtain rfl:k=n:=by omega
   have e1:decide ((k:Int)<(k:Int))=false:=aB (by omega)
   have Y:Hid (∀s∈l,s.length≤100):=hid (by
    have:=hG.out
    rwa[bE (by rw[hN.out];exact aY _)]at this)
   go_wp2_with fail;go_ret;exact⟨false,rfl,rfl,fun _=>⟨a3,Y.out⟩⟩
theorem aF4(w:World)(A:Option Addr)(cap:Nat)(l:List (List UInt8))(h:Rd w A (l.map encStr))(hm:l.length≤maxLen)(h2:l.length≤200) :
 Calls Tryz.prog 25 #[.slice A l.length cap] w (aBo w l 200):=by
 have Hh:=hid h;unfold maxLen at hm;clear h;unfold aBo;obtain⟨n,hN⟩:∃n,Hid (n=l.length):=⟨_,hid rfl⟩;rw[←hN.out]at hm h2 ⊢;go_enter Tryz.func25,Tryz.ntmps25;go_wp2_with fail
 go_loopw [3] (fun i wr=>∃k:Nat,k≤n∧i=.int .i64 k∧Hid (∀s∈l.take k,s.length≤100)∧w=wr) (fun i _=>n-(intOf i).toNat)
 case atStart=>exact⟨0,by omega,rfl,hid (fun s hs=>by simp at hs),rfl⟩
 case round=>
  obtain⟨k,hk,rfl,hG,rfl⟩:=hrel
  by_cases a1:k<n
  ·have e1:decide ((k:Int)<(n:Int))=true:=aC (by omega)
   have a0:k<l.length:=by rw[←hN.out];exact a1
   obtain⟨g,o,rfl,hg,c3⟩:=aJn Hh.out a0;have J:=hid (aEo a0 hG.out);clear hG;unfold encStr at c3;generalize l[k] = tx at *
   by_cases a3:100<tx.length
   ·have e3:decide ((100:Int)<(tx.length:Int))=true:=aC (by omega)
    go_wp2_with fail;go_ret;exact⟨true,rfl,rfl,fun h=>by cases h⟩
   ·have e3:decide ((100:Int)<(tx.length:Int))=false:=aB (by omega)
    have a2:=hid (J.out (by omega))
    clear J;go_wp2_with fail
    go_roundw
    case rel=>exact⟨k+1,by omega,by go_num,a2,trivial⟩
    case measure=>simp[intOf];omega
  ·obtain rfl:k=n:=by omega
   have e1:decide ((k:Int)<(k:Int))=false:=aB (by omega)
   have Y:Hid (∀s∈l,s.length≤100):=hid (by
    have:=hG.out
    rwa[bE (by rw[hN.out];exact aY _)]at this)
   go_wp2_with fail;go_ret;exact⟨false,rfl,rfl,fun _=>⟨h2,Y.out⟩⟩
end re
set_option maxRecDepth 100000
namespace re
open RowKit ChangeShapes WideShapes mem sy
theorem cSu:Tryz.prog.cellsOf 29=7:=by kernel_rfl
theorem uSu:Tryz.prog.underlying 29=some (.struct (Tryz.prog.fieldsOf 29)):=by kernel_rfl
theorem fSu:(Tryz.prog.fieldsOf 29).toList.map (fun f=>(f.type,f.offset))=[(9,0),(22,1),(22,2),(22,3),(27,4)]:=by kernel_rfl
structure MB(B:Nat)(x:Mk):Prop where
 t:x.tag.size≤B
structure OB(B:Nat)(x:SO):Prop where
 n:x.name.size≤B
 k:x.kinds.size≤B
 l:x.marks.length * 24≤B
 m:∀y∈x.marks,y.tag.size≤B
structure FB(B:Nat)(x:SF):Prop where
 n:x.name.size≤B
 k:x.kinds.size≤B
 r:x.ret.size≤B
structure CB(B:Nat)(x:SC):Prop where
 a:x.a.size≤B
 b:x.b.size≤B
 t:x.tag.size≤B
 l:x.args.length * 16≤B
 g:∀y∈x.args,y.size≤B
structure aAq(B:Nat)(u:MU):Prop where
 n:u.name.size≤B
 g:u.gives.length≤maxLen∧(∀s∈u.gives,s.size≤B)∧u.gives.length * 16≤B
 w:u.wants.length≤maxLen∧(∀s∈u.wants,s.size≤B)∧u.wants.length * 16≤B
 k:u.keeps.length≤maxLen∧(∀s∈u.keeps,s.size≤B)∧u.keeps.length * 16≤B
 os:∀x∈u.s.os,OB B x.o
 fs:∀x∈u.s.fs,FB B x
 cs:∀x∈u.s.cs,CB B x.c
section
variable {H:Type} {enc:TypeId×Value→H} {W:World} {B:Nat}
theorem bMk:Tryz.prog.bytesOf 101=24:=by kernel_rfl
theorem lJ{n:Nat}{u:Value}{y:DataW H×List MemPlace}(h:DataW.trod enc Tryz.prog W 0 (fun _=>true) true n 9 [u] = some y)(J:∀m∈y.1.weights Tryz.prog 9,m≤B):∃a:ByteArray,u=.string a∧a.size≤maxLen∧a.size≤B:=by
 obtain⟨a,e,hd,hs⟩:=DataW.trod_string Tryz.underlying9 h;simp only[List.cons.injEq,and_true]at e;refine⟨a,e,hs,?_⟩;rw[hd]at J;have:=J a.data.toList.length (by simp[DataW.weights])
 rw[Array.length_toList]at this;exact this
theorem aNH(n:Nat)(cs:List Value)(y:DataW H×List MemPlace)(h:DataW.trod enc Tryz.prog W 0 (fun _=>true) true n 101 cs=some y)(hl:cs.length=2)(Y:∀m∈y.1.weights Tryz.prog 101,m≤B) :
 ∃x:Mk,cs=oI x∧(x.tag.size≤maxLen∧(Lit.int .i64 x.at_).wf=true)∧MB B x:=by
 match cs,hl with
 | [c0,c1],_=>
  obtain⟨ys,m,_,hx,_,J,hf⟩:=DataW.trod_struct sy.uMk h;rw[hx]at Y;obtain⟨y0,h0,w0⟩:=fld fMk J hf sy.uMk Y 0 3 0 rfl;obtain⟨y1,h1,w1⟩:=fld fMk J hf sy.uMk Y 1 9 1 rfl;rw[aOI]at h0;rw[aIJ]at h1;obtain⟨a0,rfl,s0⟩:=aFh (u:=c0) h0;obtain⟨a1,rfl,s1,b1⟩:=lJ (u:=c1) h1 w1;exact⟨⟨a0,a1⟩,rfl,⟨s1,s0⟩,⟨b1⟩⟩
theorem aLf(n:Nat)(cs:List Value)(y:DataW H×List MemPlace)(h:DataW.trod enc Tryz.prog W 0 (fun _=>true) true n 99 cs=some y)(hl:cs.length=3)(hw:∀m∈y.1.weights Tryz.prog 99,m≤B) :
 ∃x:MO,cs=x.row∧MOk W x∧OB B x.o:=by
 match cs,hl with
 | [c0,c1,c2],_=>
  obtain⟨ys,m,_,Y,_,J,hf⟩:=DataW.trod_struct uOb h;rw[Y]at hw;obtain⟨y0,h0,w0⟩:=fld fOb J hf uOb hw 0 9 0 rfl;obtain⟨y1,h1,w1⟩:=fld fOb J hf uOb hw 1 9 1 rfl;obtain⟨y2,h2,w2⟩:=fld fOb J hf uOb hw 2 97 2 rfl;rw[aIJ]at h0 h1;rw[cMs]at h2;obtain⟨a0,rfl,s0,b0⟩:=lJ (u:=c0) h0 w0;obtain⟨a1,rfl,s1,b1⟩:=lJ (u:=c1) h1 w1;have:Inhabited Mk:=⟨⟨0,⟨#[]⟩⟩⟩;obtain⟨A,cap,ms,rfl,ht,hq,a4,a2,a3⟩:=zC (u:=c2) (B:=B) oI _ Tryz.underlying97 cMk (by decide) (fun _=>rfl) (fun n cs y=>aNH n cs y) h2 w2
  rw[bMk]at a3;exact⟨⟨⟨a0,a1,ms⟩,A,cap⟩,rfl,⟨s0,s1,ht,aZ a4 a2,fun x Y=>(hq x Y).1.1,fun x Y=>(hq x Y).1.2,a4⟩,⟨b0,b1,a3,fun x Y=>(hq x Y).2.t⟩⟩
theorem aOb(n:Nat)(cs:List Value)(y:DataW H×List MemPlace)(h:DataW.trod enc Tryz.prog W 0 (fun _=>true) true n 103 cs=some y)(hl:cs.length=3)(Y:∀m∈y.1.weights Tryz.prog 103,m≤B) :
 ∃x:SF,cs=kW x∧FOk x∧FB B x:=by
 match cs,hl with
 | [c0,c1,c2],_=>
  obtain⟨ys,m,_,hx,_,J,hf⟩:=DataW.trod_struct uFn h;rw[hx]at Y;obtain⟨y0,h0,w0⟩:=fld fFn J hf uFn Y 0 9 0 rfl;obtain⟨y1,h1,w1⟩:=fld fFn J hf uFn Y 1 9 1 rfl;obtain⟨y2,h2,w2⟩:=fld fFn J hf uFn Y 2 9 2 rfl;rw[aIJ]at h0 h1 h2;obtain⟨a0,rfl,s0,b0⟩:=lJ (u:=c0) h0 w0;obtain⟨a1,rfl,s1,b1⟩:=lJ (u:=c1) h1 w1;obtain⟨a2,rfl,s2,b2⟩:=lJ (u:=c2) h2 w2;exact⟨⟨a0,a1,a2⟩,rfl,⟨s0,s1,s2⟩,⟨b0,b1,b2⟩⟩
theorem aLi(n:Nat)(cs:List Value)(y:DataW H×List MemPlace)(h:DataW.trod enc Tryz.prog W 0 (fun _=>true) true n 9 cs=some y)(hl:cs.length=1)(Y:∀m∈y.1.weights Tryz.prog 9,m≤B) :
 ∃x:ByteArray,cs=[.string x]∧x.size≤maxLen∧x.size≤B:=by
 match cs,hl with
 | [c0],_=>
  obtain⟨a0,rfl,J,b0⟩:=lJ (u:=c0) h Y;exact⟨a0,rfl,J,b0⟩
theorem aAH{n:Nat}{c:Value}{y:DataW H×List MemPlace}(h:DataW.trod enc Tryz.prog W 0 (fun _=>true) true n 22 [c] = some y)(hw:∀m∈y.1.weights Tryz.prog 22,m≤B) :
 ∃(A:Option Addr) (cap:Nat) (l:List ByteArray),c=.slice A l.length cap∧Rd W A (l.map Value.string)∧l.length≤maxLen∧l.length≤cap∧(∀s∈l,s.size≤maxLen∧s.size≤B)∧l.length * 16≤B:=by
 have:Inhabited ByteArray:=⟨⟨#[]⟩⟩;obtain⟨A,cap,l,rfl,ht,hq,Y,a0,J⟩:=zC (u:=c) (B:=B) (fun s:ByteArray=>[Value.string s]) _ Tryz.underlying22 aIJ (by decide) (fun _=>rfl) (fun n cs y=>aLi n cs y) h hw
 rw[aO6]at J;exact⟨A,cap,l,rfl,aJy ht,aZ Y a0,Y,hq,J⟩
theorem aL0(n:Nat)(cs:List Value)(y:DataW H×List MemPlace)(h:DataW.trod enc Tryz.prog W 0 (fun _=>true) true n 105 cs=some y)(hl:cs.length=6)(Y:∀m∈y.1.weights Tryz.prog 105,m≤B) :
 ∃x:MC,cs=x.row∧COk W x∧CB B x.c:=by
 match cs,hl with
 | [c0,c1,c2,c3,c4,c5],_=>
  obtain⟨ys,m,_,hx,_,J,hf⟩:=DataW.trod_struct uCo h;rw[hx]at Y;obtain⟨y0,h0,w0⟩:=fld fCo J hf uCo Y 0 3 0 rfl;obtain⟨y1,h1,w1⟩:=fld fCo J hf uCo Y 1 9 1 rfl;obtain⟨y2,h2,w2⟩:=fld fCo J hf uCo Y 2 9 2 rfl;obtain⟨y3,h3,w3⟩:=fld fCo J hf uCo Y 3 3 3 rfl;obtain⟨y4,h4,w4⟩:=fld fCo J hf uCo Y 4 9 4 rfl;obtain⟨y5,h5,w5⟩:=fld fCo J hf uCo Y 5 22 5 rfl;rw[aIJ]at h1 h2 h4;rw[aOI]at h0 h3;rw[cSs]at h5;obtain⟨a0,rfl,s0⟩:=aFh (u:=c0) h0;obtain⟨a1,rfl,s1,b1⟩:=lJ (u:=c1) h1 w1;obtain⟨a2,rfl,s2,b2⟩:=lJ (u:=c2) h2 w2;obtain⟨a3,rfl,s3⟩:=aFh (u:=c3) h3;obtain⟨a4,rfl,s4,b4⟩:=lJ (u:=c4) h4 w4;obtain⟨A,cap,l,rfl,hr,hl,a5,hq,a6⟩:=aAH (c:=c5) h5 w5;exact⟨⟨⟨a0,a1,a2,a3,a4,l⟩,A,cap⟩,rfl,⟨s1,s2,s4,hr,hl,a5,fun s hs=>(hq s hs).1⟩,⟨b1,b2,b4,a6,fun s hs=>(hq s hs).2⟩⟩
theorem aM8{n:Nat}{c0 c1 c2:Value}{y:DataW H×List MemPlace}(h:DataW.trod enc Tryz.prog W 0 (fun _=>true) true n 27 [c0,c1,c2] = some y)(hw:∀m∈y.1.weights Tryz.prog 27,m≤B) :
 ∃s:MS,[c0,c1,c2] = [.slice s.oA s.os.length s.oc,.slice s.fA s.fs.length s.fc,.slice s.cA s.cs.length s.cc]∧vO W s∧(∀x∈s.os,OB B x.o)∧(∀x∈s.fs,FB B x)∧∀x∈s.cs,CB B x.c:=by
 obtain⟨ys,m,_,J,_,Y,hf⟩:=DataW.trod_struct uSy h;rw[J]at hw;obtain⟨y0,h0,w0⟩:=fld fSy Y hf uSy hw 0 23 0 rfl;obtain⟨y1,h1,w1⟩:=fld fSy Y hf uSy hw 1 24 1 rfl;obtain⟨y2,h2,w2⟩:=fld fSy Y hf uSy hw 2 25 2 rfl;rw[cOs]at h0;rw[cFs]at h1;rw[cCs]at h2;have i0:Inhabited MO:=⟨⟨⟨⟨#[]⟩,⟨#[]⟩,[]⟩,none,0⟩⟩;have i1:Inhabited SF:=⟨⟨⟨#[]⟩,⟨#[]⟩,⟨#[]⟩⟩⟩;have i2:Inhabited MC:=⟨⟨⟨0,⟨#[]⟩,⟨#[]⟩,0,⟨#[]⟩,[]⟩,none,0⟩⟩;obtain⟨A0,a0,l0,rfl,t0,q0,a3,m0,_⟩:=zC (u:=c0) (B:=B) MO.row _ Tryz.underlying23 cOb (by decide) (fun _=>rfl) (fun n cs y=>aLf n cs y) h0 w0
 obtain⟨A1,a1,l1,rfl,t1,q1,a5,m1,_⟩:=zC (u:=c1) (B:=B) kW _ Tryz.underlying24 cFn (by decide) (fun _=>rfl) (fun n cs y=>aOb n cs y) h1 w1
 obtain⟨A2,a2,l2,rfl,t2,q2,a4,m2,_⟩:=zC (u:=c2) (B:=B) MC.row _ Tryz.underlying25 cCo (by decide) (fun _=>rfl) (fun n cs y=>aL0 n cs y) h2 w2
 exact⟨⟨A0,a0,l0,A1,a1,l1,A2,a2,l2⟩,rfl,⟨t0,t1,t2,fun x J=>(q0 x J).1,fun x J=>(q1 x J).1,fun x J=>(q2 x J).1,aZ a3 m0,aZ a5 m1,aZ a4 m2⟩,fun x J=>(q0 x J).2,fun x J=>(q1 x J).2,fun x J=>(q2 x J).2⟩
theorem yG{base:Nat}(v:Value)(d:DataW H)(p:List MemPlace)(k:DataW.Trod enc Tryz.prog W 0 (fun _=>true) true 29 v d p)(o:Value.okWide Tryz.prog W .any base 29 v)(Y:∀m∈d.weights Tryz.prog 29,m≤B) :
 ∃u:MU,v=u.val∧eY W u∧aAq B u:=by
 obtain⟨cs,rfl,hcs⟩:=okWide_struct uSu o;have h3:cs.size=7:=hcs.trans cSu;obtain⟨l⟩:=cs
 match l,h3 with
 | [c0,c1,c2,c3,c4,c5,c6],_=>
  obtain⟨fuel,hk⟩:=k;obtain⟨ys,m,_,hx,_,J,hf⟩:=DataW.trod_struct uSu hk;have hd:d=.agg (ys.map (·.1)):=congrArg Prod.fst hx
  rw[hd]at Y;obtain⟨y0,h0,w0⟩:=fld fSu J hf uSu Y 0 9 0 rfl;obtain⟨y1,h1,w1⟩:=fld fSu J hf uSu Y 1 22 1 rfl;obtain⟨y2,h2,w2⟩:=fld fSu J hf uSu Y 2 22 2 rfl;obtain⟨y3,h3,w3⟩:=fld fSu J hf uSu Y 3 22 3 rfl;obtain⟨y4,h4,w4⟩:=fld fSu J hf uSu Y 4 27 4 rfl;rw[aIJ]at h0;rw[cSs]at h1 h2 h3;rw[cSy]at h4;obtain⟨a0,rfl,s0,b0⟩:=lJ (u:=c0) h0 w0;obtain⟨gA,gc,gl,rfl,gr,g1,_,g2,g3⟩:=aAH (c:=c1) h1 w1;obtain⟨wA,wc,wl,rfl,wr,a1,_,a2,a3⟩:=aAH (c:=c2) h2 w2;obtain⟨kA,kc,kl,rfl,kr,k1,_,k2,k3⟩:=aAH (c:=c3) h3 w3;obtain⟨s,hs,hm,so,sf,sc⟩:=aM8 (c0:=c4) (c1:=c5) (c2:=c6) h4 w4;simp only[List.cons.injEq,and_true]at hs;obtain⟨rfl,rfl,rfl⟩:=hs;exact⟨⟨a0,gA,gc,gl,wA,wc,wl,kA,kc,kl,s⟩,rfl,⟨gr,wr,kr,hm⟩,⟨b0,⟨g1,fun s hs=>(g2 s hs).2,g3⟩,⟨a1,fun s hs=>(a2 s hs).2,a3⟩,⟨k1,fun s hs=>(k2 s hs).2,k3⟩,so,sf,sc⟩⟩
end
end re
namespace re
open RowKit mem sy
def RB:Nat:=140737488351232
theorem wF{a b:Int}(Y:0≤a)(h2:a≤1000000000000000000)(J:0≤b)(h4:b≤1000000000000000000):ad a b=a+b:=by unfold ad wrap64;omega
theorem aI0{a:Int}(J:0≤a)(Y:a≤140737488351232):ten a=10 * a:=by unfold ten wrap64;omega
theorem aDj:∀(l:List ByteArray) (k:Nat) (n:Int),0≤n→n+((100-k:Nat):Int) * 140737488351232≤1000000000000000000→(∀s∈l,s.size≤RB)→n≤vK l k n
 | [],k,n,_,_,_=>by unfold vK;omega
 | m :: r,k,n,h0,h1,hs=>by
  unfold vK;split
  ·have J:=hs m (List.mem_cons_self ..)
   unfold RB at J;have e:ad n m.size=n+m.size:=wF h0 (by omega) (by omega) (by omega)
   have:=aDj r (k+1) (ad n m.size) (by omega) (by rw[e];omega) (fun s h=>hs s (bG _ h))
   omega
  ·omega
theorem aMU{o:SO}{n:Int}(h:OB RB o)(h0:0≤n)(h1:n≤60000):n+10 * o.marks.length≤oN o n:=by
 have hn:=h.n;have hk:=h.k;have hl:=h.l;unfold RB at hn hk hl;unfold oN;have J:ad n o.name.size=n+o.name.size:=wF h0 (by omega) (by omega) (by omega)
 have Y:ad (n+o.name.size) o.kinds.size=n+o.name.size+o.kinds.size:=wF (by omega) (by omega) (by omega) (by omega)
 have e3:ten o.marks.length=10 * o.marks.length:=aI0 (by omega) (by omega)
 have e4:ad (n+o.name.size+o.kinds.size) (10 * o.marks.length)=n+o.name.size+o.kinds.size+10 * o.marks.length:=wF (by omega) (by omega) (by omega) (by omega)
 have e:o1 o n=n+o.name.size+o.kinds.size+10 * o.marks.length:=by unfold o1;rw[J,Y,e3,e4]
 have:=aDj (o.marks.map (·.tag)) 0 (o1 o n) (by omega) (by omega) (fun s hs=>by
  obtain⟨m,hm,rfl⟩:=List.mem_map.1 hs
  exact h.m m hm)
 omega
theorem aOx{f:SF}{n:Int}(h:FB RB f)(h0:0≤n)(h1:n≤60000):n≤f1 f n:=by
 have hn:=h.n;have hk:=h.k;have hr:=h.r;unfold RB at hn hk hr;have J:ad n f.name.size=n+f.name.size:=wF h0 (by omega) (by omega) (by omega)
 have Y:ad (n+f.name.size) f.kinds.size=n+f.name.size+f.kinds.size:=wF (by omega) (by omega) (by omega) (by omega)
 have e3:ad (n+f.name.size+f.kinds.size) f.ret.size=n+f.name.size+f.kinds.size+f.ret.size:=wF (by omega) (by omega) (by omega) (by omega)
 unfold f1;rw[J,Y,e3];omega
theorem aMG{c:SC}{n:Int}(h:CB RB c)(h0:0≤n)(h1:n≤60000):n+10 * c.args.length≤cN c n:=by
 have ha:=h.a;have hb:=h.b;have ht:=h.t;have hl:=h.l;unfold RB at ha hb ht hl;unfold cN;have J:ad n c.a.size=n+c.a.size:=wF h0 (by omega) (by omega) (by omega)
 have Y:ad (n+c.a.size) c.b.size=n+c.a.size+c.b.size:=wF (by omega) (by omega) (by omega) (by omega)
 have e3:ad (n+c.a.size+c.b.size) c.tag.size=n+c.a.size+c.b.size+c.tag.size:=wF (by omega) (by omega) (by omega) (by omega)
 have e4:ten c.args.length=10 * c.args.length:=aI0 (by omega) (by omega)
 have e5:ad (n+c.a.size+c.b.size+c.tag.size) (10 * c.args.length)=n+c.a.size+c.b.size+c.tag.size+10 * c.args.length:=wF (by omega) (by omega) (by omega) (by omega)
 have e:c1 c n=n+c.a.size+c.b.size+c.tag.size+10 * c.args.length:=by unfold c1;rw[J,Y,e3,e4,e5]
 have:=aDj c.args 0 (c1 c n) (by omega) (by omega) (fun s hs=>h.g s hs)
 omega
theorem aAG{α:Type}{f:α→Int→Int}{B:Int}{Q:α→Prop}(hf:∀x n,Q x→0≤n→n≤60000→n≤f x n)(Y:B≤60000):∀(l:List α) (n z:Int),(∀x∈l,Q x)→0≤n→n≤60000→iQ f B l n=some z→(0≤z∧z≤60000)∧∀x∈l,∃k:Int,0≤k∧k≤60000∧f x k≤B
 | [],n,z,_,h0,h1,h=>by
  unfold iQ at h;obtain rfl:=Option.some.inj h;exact⟨⟨h0,h1⟩,fun x J=>by cases J⟩
 | x :: r,n,z,hq,h0,h1,h=>by
  unfold iQ at h;split at h
  ·cases h
  ·have J:=hf x n (hq x (List.mem_cons_self ..)) h0 h1
   obtain⟨a,b⟩:=aAG hf Y r (f x n) z (fun y hy=>hq y (bG _ hy)) (by omega) (by omega) h
   refine⟨a,fun y hy=>?_⟩
   rcases aM.1 hy with rfl | hy
   ·exact⟨n,h0,h1,by omega⟩
   ·exact b y hy
structure Sml(s:SS):Prop where
 o:s.objs.length≤80
 f:s.fns.length≤80
 c:s.cons.length≤80
 m:∀x∈s.objs,x.marks.length≤3000
 a:∀x∈s.cons,x.args.length≤6000
theorem aNX{s:SS}(ho:∀x∈s.objs,OB RB x)(hf:∀x∈s.fns,FB RB x)(hc:∀x∈s.cons,CB RB x)(h:vU s 80=false):Sml s:=by
 unfold vU at h;simp only[Bool.or_eq_false_iff,decide_eq_false_iff_not,Int.not_lt]at h;obtain⟨Y,h2,h3,J⟩:=h
 rcases e1:iQ oN 30000 s.objs 0 with _ | n1
 ·rw[e1]at J;simp at J
 rw[e1]at J;simp only[Option.bind_some]at J
 rcases e2:iQ f1 30000 s.fns n1 with _ | n2
 ·rw[e2]at J;simp at J
 rw[e2]at J;simp only[Option.bind_some]at J
 rcases e3:iQ cN 60000 s.cons n2 with _ | n3
 ·rw[e3]at J;simp at J
 obtain⟨a1,b1⟩:=aAG (Q:=OB RB) (fun x n q h0 Y=>by have:=aMU q h0 Y;omega) (by omega) s.objs 0 n1 ho (by omega) (by omega) e1
 obtain⟨a2,b2⟩:=aAG (Q:=FB RB) (fun x n q h0 Y=>aOx q h0 Y) (by omega) s.fns n1 n2 hf a1.1 a1.2 e2
 obtain⟨a3,b3⟩:=aAG (Q:=CB RB) (fun x n q h0 Y=>by have:=aMG q h0 Y;omega) (by omega) s.cons n2 n3 hc a2.1 a2.2 e3
 refine⟨by omega,by omega,by omega,fun x hx=>?_,fun x hx=>?_⟩
 ·obtain⟨k,k0,k1,k2⟩:=b1 x hx
  have:=aMU (ho x hx) k0 k1;omega
 ·obtain⟨k,k0,k1,k2⟩:=b3 x hx
  have:=aMG (hc x hx) k0 k1;omega
theorem zU{α β:Type}(f:α→List β)(C:Nat):∀l:List α,(∀x∈l,(f x).length≤C)→(l.flatMap f).length≤l.length * C
 | [],_=>by simp
 | x :: l,h=>by
  rw[List.flatMap_cons,aF,aG,Nat.add_mul,Nat.one_mul];have:=zU f C l (fun y hy=>h y (bG _ hy))
  have:=h x (List.mem_cons_self ..);omega
structure mR(u:SU):Prop where
 n:u.name.size≤100
 s:Sml u.sys
 g:u.gives.length≤60∧∀x∈u.gives,x.size≤100
 w:u.wants.length≤60∧∀x∈u.wants,x.size≤100
 k:u.keeps.length≤200∧∀x∈u.keeps,x.size≤100
theorem zG(l:List ByteArray):(fD l).length=l.length+1:=by simp[fD]
theorem nQ{u:SU}(h:mR u):(dB u).length≤999000:=by
 have h1:=h.g.1;have h2:=h.w.1;have h3:=h.k.1;have h4:=h.s.o;have h5:=h.s.f;have h6:=h.s.c;have l1:(qU u.sys.objs).length≤1+u.sys.objs.length * 6003:=by
  unfold qU
  have:=zU jC 6003 u.sys.objs (fun x J=>by
   have a:=h.s.m x J;have b:=zU rE 2 x.marks (fun y _=>by simp[rE])
   simp only[jC,tQ,aG]
   omega)
  rw[aG];omega
 have Y:(qV u.sys.fns).length≤1+u.sys.fns.length * 3:=by
  unfold qV;have:=zU mE 3 u.sys.fns (fun x J=>by simp[mE])
  rw[aG];omega
 have l3:(qW u.sys.cons).length≤1+u.sys.cons.length * 6006:=by
  unfold qW
  have:=zU mQ 6006 u.sys.cons (fun x J=>by
   have a:=h.s.a x J;have b:=zG x.args;simp only[mQ,aG]
   omega)
  rw[aG];omega
 unfold dB;simp only[aG,aF,zG];omega
end re
set_option maxRecDepth 100000
namespace re
open RowKit Shelf mem sy
def GTB(w:World)(l:List ByteArray)(N:Nat)(e:Ending)(w':World):Prop:=∃r,e=.returned (.bool r)∧w=w'∧(r=false→l.length≤N∧∀s∈l,s.size≤100)
theorem aFT(s:ByteArray):(tx s).length=s.size:=by
 exact Array.length_toList
theorem gtb{w:World}{l:List ByteArray}{N:Nat}{e:Ending}{w':World}(h:aBo w (l.map tx) N e w'):GTB w l N e w':=by
 obtain⟨r,h1,h2,h3⟩:=h;refine⟨r,h1,h2,fun hr=>?_⟩
 obtain⟨J,Y⟩:=h3 hr;rw[aH]at J;exact⟨J,fun s hs=>by have:=Y (tx s) (List.mem_map.2 ⟨s,hs,rfl⟩);rwa[aFT]at this⟩
theorem aDP(w:World)(A:Option Addr)(cap:Nat)(l:List ByteArray)(h:Rd w A (l.map Value.string))(J:l.length≤maxLen) :
 Calls Tryz.prog 24 #[.slice A l.length cap] w (GTB w l 60):=by
 have k:=aFm w A cap (l.map tx) (by rw[nY];exact h) (by rw[aH];exact J)
 rw[aH]at k;exact k.mono (fun e w' h=>gtb h)
theorem aKw(w:World)(A:Option Addr)(cap:Nat)(l:List ByteArray)(h:Rd w A (l.map Value.string))(J:l.length≤maxLen)(Y:l.length≤200) :
 Calls Tryz.prog 25 #[.slice A l.length cap] w (GTB w l 200):=by
 have k:=aF4 w A cap (l.map tx) (by rw[nY];exact h) (by rw[aH];exact J) (by rw[aH];exact Y)
 rw[aH]at k;exact k.mono (fun e w' h=>gtb h)
def GSP(u:MU)(w:World)(e:Ending)(w':World):Prop:=∃r,e=.returned (.bool r)∧Below w.heap.size w w'∧(r=false→mR u.su)
theorem aAq.small{u:MU}(h:aAq RB u)(Y:vU u.s.sys 80=false):Sml u.s.sys:=
 aNX (fun x J=>by
  obtain⟨y,hy,rfl⟩:=List.mem_map.1 J;exact h.os y hy) (fun x J=>h.fs x J) (fun x J=>by
  obtain⟨y,hy,rfl⟩:=List.mem_map.1 J
  exact h.cs y hy) Y
theorem pV(u:MU)(w:World)(hs:eY w u)(hb:aAq RB u):Calls Tryz.prog 8 #[u.val] w (GSP u w):=by
 obtain⟨W,a3⟩:∃W,Hid (W=w.alloc (.cells u.row 29)):=⟨_,hid rfl⟩;have B:bT W w.heap.size 29 u.row:=by rw[a3.out];exact bT.new _ _ _
 have b0:Below w.heap.size w W:=by rw[a3.out];exact(Below.refl _ _).alloc (aY _) _
 have a8:w.heap.size<W.heap.size:=B.lt;have a6:eY W u:=hs.below b0;have HB:Hid (∀J,Below W.heap.size W J→eY J u∧bT J w.heap.size 29 u.row∧Below w.heap.size w J):=hid (fun J b=>⟨a6.below b,B.kept (Fr.of_below b []) (by simp),b0.trans (b.mono b0.size)⟩)
 have KG:=hid (aIl u.s 80 W a6.sr);have a1:=hid (fun(J:World) (b:Below W.heap.size W J)=>aDP J u.gA u.gc u.gives (HB.out J b).1.gr hb.g.1)
 have Y:=hid (fun(J:World) (b:Below W.heap.size W J)=>aDP J u.wA u.wc u.wants (HB.out J b).1.wr hb.w.1)
 have a0:=hid (fun(J:World) (b:Below W.heap.size W J) (h2:u.keeps.length≤200)=>aKw J u.kA u.kc u.keeps (HB.out J b).1.kr hb.k.1 h2)
 have HS:Hid (u.name.size≤100→vU u.s.sys 80=false→(u.gives.length≤60∧∀s∈u.gives,s.size≤100)→(u.wants.length≤60∧∀s∈u.wants,s.size≤100)→(u.keeps.length≤200∧∀s∈u.keeps,s.size≤100)→mR u.su):=hid (fun h1 h2 h3 h4 h5=>⟨h1,hb.small h2,h3,h4,h5⟩)
 have HC:Hid (∀J,Below W.heap.size W J→J.cell? ⟨w.heap.size,0,none⟩=some (.string u.name)∧J.cell? ⟨w.heap.size,1,none⟩=some (.slice u.gA u.gives.length u.gc)∧J.cell? ⟨w.heap.size,2,none⟩=some (.slice u.wA u.wants.length u.wc)∧J.cell? ⟨w.heap.size,3,none⟩=some (.slice u.kA u.keeps.length u.kc)∧J.cell? ⟨w.heap.size,4,none⟩=some (.slice u.s.oA u.s.os.length u.s.oc)∧J.cell? ⟨w.heap.size,5,none⟩=some (.slice u.s.fA u.s.fs.length u.s.fc)∧J.cell? ⟨w.heap.size,6,none⟩=some (.slice u.s.cA u.s.cs.length u.s.cc)):=hid (fun J b=>by
  have x:=(HB.out J b).2.1
  exact⟨x.cell 0,x.cell 1,x.cell 2,x.cell 3,x.cell 4,x.cell 5,x.cell 6⟩)
 have HE:Hid (∀J,Below W.heap.size W J→Below w.heap.size w J):=hid (fun J b=>(HB.out J b).2.2)
 have R0:=hid (Below.refl W.heap.size W);have a2:Hid (∀J w3,Below W.heap.size W J→Below J.heap.size J w3→Below W.heap.size W w3):=hid (fun J w3 a b=>a.trans (b.mono a.size))
 have Bd:=hid hb;obtain⟨x0,x1,x2,x3,x4,x5,x6⟩:=HC.out W R0.out;unfold cZ at KG;unfold MS.val at KG;clear hs hb a6 HB B b0 a8;generalize vU u.s.sys 80=g at *;unfold GSP MU.val;unfold MU.row at a3 ⊢
 by_cases h1:100<u.name.size
 ·have d1:decide ((100:Int)<(u.name.size:Int))=true:=aC (by omega)
  have E:=hid (HE.out W R0.out);clear KG a1 Y a0 HS HC HE a2 Bd;go_enter Tryz.func8,Tryz.ntmps8;go_upto_region 1 with fail;rw[←a3.out];go_wp2_with fail;go_ret;exact⟨true,rfl,E.out,fun h=>by cases h⟩
 ·have d1:decide ((100:Int)<(u.name.size:Int))=false:=aB (by omega)
  have a7:=hid (Nat.le_of_not_lt h1);clear h1;go_enter Tryz.func8,Tryz.ntmps8;go_upto_region 1 with fail;rw[←a3.out];go_wp2_with fail;refine KG.out.mono ?_;rintro e J ⟨rfl,b2⟩;have B2:=hid b2;clear b2 x0 x1 x2 x3 x4 x5 x6 KG;obtain⟨x0,x1,x2,x3,x4,x5,x6⟩:=HC.out J B2.out
  rcases hg:g with _ | _
  ·subst hg
   have K1:=hid (a1.out J B2.out);unfold GTB at K1;go_wp2_with fail;refine K1.out.mono ?_;rintro e w3 ⟨r1,rfl,rfl,p1⟩;replace p1:=hid p1;clear K1
   rcases a5:r1 with _ | _
   ·replace p1:=hid (p1.out a5)
    subst a5;have K1:=hid (Y.out J B2.out);unfold GTB at K1;go_wp2_with fail;refine K1.out.mono ?_;rintro e w3 ⟨r2,rfl,rfl,p2⟩;replace p2:=hid p2;clear K1
    rcases a4:r2 with _ | _
    ·replace p2:=hid (p2.out a4)
     subst a4
     by_cases h5:200<u.keeps.length
     ·have d5:decide ((200:Int)<(u.keeps.length:Int))=true:=aC (by omega)
      have E:=hid (HE.out J B2.out);clear a1 Y a0 HS HC HE a2 Bd;go_wp2_with fail;go_ret;exact⟨true,rfl,E.out,fun h=>by cases h⟩
     ·have d5:decide ((200:Int)<(u.keeps.length:Int))=false:=aB (by omega)
      have K1:=hid (a0.out J B2.out (by omega))
      unfold GTB at K1;go_wp2_with fail;refine K1.out.mono ?_;rintro e w3 ⟨r3,rfl,rfl,p3⟩;have E:=hid (HE.out J B2.out);replace p3:=hid p3;clear K1 a1 Y a0 HC HE a2 Bd;go_wp2_with fail;go_ret;exact⟨r3,rfl,E.out,fun h=>HS.out a7.out (by simp) p1.out p2.out (p3.out h)⟩
    ·subst a4
     have E:=hid (HE.out J B2.out);clear a1 Y a0 HS HC HE a2 Bd p1 p2;go_wp2_with fail;go_ret;exact⟨true,rfl,E.out,fun h=>by cases h⟩
   ·subst a5
    have E:=hid (HE.out J B2.out);clear a1 Y a0 HS HC HE a2 Bd p1;go_wp2_with fail;go_ret;exact⟨true,rfl,E.out,fun h=>by cases h⟩
  ·subst hg
   have E:=hid (HE.out J B2.out);clear a1 Y a0 HS HC HE a2 Bd;go_wp2_with fail;go_ret;exact⟨true,rfl,E.out,fun h=>by cases h⟩
end re
end Go.Proofs.YtdmmkjijgoiecaaGreatDoor
