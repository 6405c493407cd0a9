import Derived.Test.YtdmmkjijgoiecaaGreatDoorY26
import Derived.Test.YtdmmkjijgoiecaaGreatDoorY31
set_option linter.all false
set_option maxHeartbeats 4000000
namespace Go.Proofs.YtdmmkjijgoiecaaGreatDoor
namespace re
open RowKit Go.Sort Shelf mem sy vr po inn
def sH:SU:=⟨⟨#[97]⟩,[],[],[],⟨[],[],[]⟩⟩
def muA:MU:=⟨⟨#[97]⟩,none,0,[],none,0,[],none,0,[],⟨none,0,[],none,0,[],none,0,[]⟩⟩
theorem aMn:jG [[97]] = [[97]]:=by kernel_rfl
theorem aME:fQ [[97]] (dF sH)=([0,0,0,0,0,0,0],0):=by kernel_rfl
theorem aE3(w:World):gH w muA:=⟨fun h=>by simp[muA]at h,fun h=>by simp[muA]at h,fun h=>by simp[muA]at h,⟨fun h=>by simp[muA]at h,fun h=>by simp[muA]at h,fun h=>by simp[muA]at h,by simp[muA],by simp[muA],by simp[muA],by simp[muA],by simp[muA],by simp[muA]⟩⟩
def WkP(w:World)(e:Ending)(w':World):Prop:=e=.returned (.bool true)∧Below w.heap.size w w'
end re
namespace re
open RowKit Shelf mem sy
theorem aLq(s:ByteArray):(tx s).length=s.size:=by
 exact Array.length_toList
end re
namespace re
open RowKit mem sy
theorem aBK(l:List ByteArray):(fB l).length=l.length+1:=by simp[fB]
end re
open Lib(hid)
set_option maxRecDepth 100000
namespace re
open RowKit Shelf mem sy
theorem nI{w W:World}{c:Nat}{T:TypeId}{row:Array Value}{o:Obj}(h:bV w c T row)(e:W=w.alloc o):bV W c T row:=by rw[e];exact h.kept ((Fr.refl [] _).alloc _) (by simp)
def SK(T:TypeId)(a b:FuncId):Prop:=(T=125∧a=291∧b=292)∨(T=121∧a=289∧b=290)
theorem SK.both{T:TypeId}{a b:FuncId}(h:SK T a b):(SK T a b∧T=125∧a=291∧b=292)∨(SK T a b∧T=121∧a=289∧b=290):=h.imp (fun x=>⟨.inl x,x⟩) (fun x=>⟨.inr x,x⟩)
theorem wU{T:TypeId}{fa fb:FuncId}(hT:SK T fa fb){w0:World}{g:Nat}{I:List Nat→List Ev→World→Prop}(S:sI fa fb g w0 I){F:List Nat}{J:List Ev}{w:World}(h:I F J w)(A:Option Addr)(c:Nat)(l:List ByteArray)(hr:Rd w0 A (l.map Value.string))(a0:J.length+(fB l).length≤MX) :
 Calls Tryz.prog 137 #[.iface T (.pointer (some ⟨g,0,none⟩)),.slice A l.length c,.func (.method "weft/record.text") #[.iface T (.pointer (some ⟨g,0,none⟩))] #[]] w (gD I F (J++fB l) w):=by
 have hl:J.length+l.length+1≤MX:=by simpa[fB,Nat.add_assoc] using a0
 have hm:l.length≤20000000:=by unfold MX at hl;omega
 have KN:=hid (S.num (l.length:Int) h (by omega));have S0:=hid S;have HR:=hid hr;obtain⟨n,hn⟩:∃n,Hid (n=l.length):=⟨_,hid rfl⟩;rw[←hn.out]at KN hl hm ⊢;clear S hr h a0;rcases hT with⟨rfl,rfl,rfl⟩ | ⟨rfl,rfl,rfl⟩
 all_goals
  go_enter Tryz.func137,Tryz.ntmps137;go_wp2_with fail;refine KN.out.mono ?_;rintro e w1 ⟨rfl,F1,s1⟩;have S1:Hid (St I w F F1 (J++(Ev.n n :: (l.take 0).map Ev.t)) w1):=hid s1;clear s1 KN;go_wp2_with fail;go_loopw [7,14] (fun a i wr=>∃(k:Nat) (F':List Nat),k≤n∧i=.int .i64 k∧Hid (St I w F F' (J++(Ev.n n :: (l.take k).map Ev.t)) wr)) (fun _ i _=>n-(intOf i).toNat)
  case atStart=>exact⟨0,F1,by omega,rfl,S1⟩
  case round=>
   obtain⟨k,Fk,hk,rfl,Y⟩:=hrel;clear S1;by_cases a4:k<n
   ·have d1:decide ((k:Int)<(n:Int))=true:=aC (by omega)
    have a1:k<l.length:=by rw[←hn.out];exact a4
    obtain⟨b,off,rfl,a3,hc⟩:=HR.out (by rw[aH];omega);have c2:wr.cell? ⟨b,off+k,none⟩=some (.string l[k]):=by
     have e:=hc k (by rw[aH];exact a1);rw[List.getElem_map]at e;exact S0.out.cell Y.out.i a3 e
    have KT:=hid (S0.out.txt l[k] Y.out.i (by rw[aF,aG,aH,List.length_take];omega));have a2:Hid (J++(Ev.n n :: (l.take k).map Ev.t)++[Ev.t l[k]] = J++(Ev.n n :: (l.take (k+1)).map Ev.t)):=hid (by rw[(List.take_append_getElem a1).symm];simp only[List.map_append,aV,aU,aS,aW]);rw[a2.out]at KT;clear hc a2;generalize l[k] = x at *;go_wp2_with fail;refine KT.out.mono ?_;rintro e w2 ⟨rfl,F2,s2⟩;have S2:=hid (Y.out.trans s2);clear s2 KT Y c2;go_wp2_with fail;go_roundw
    case rel=>exact⟨k+1,F2,by omega,by go_num,S2⟩
    case measure=>simp[intOf];omega
   ·obtain rfl:k=n:=by omega
    have d1:decide ((k:Int)<(k:Int))=false:=aB (by omega);have e1:Hid (Ev.n k :: (l.take k).map Ev.t=fB l):=hid (by rw[hn.out,bF];rfl);rw[e1.out]at Y;go_wp2_with fail;go_end0;exact⟨rfl,Fk,Y.out⟩
theorem aMf{T:TypeId}{fa fb:FuncId}(hT:SK T fa fb){w0:World}{g:Nat}{I:List Nat→List Ev→World→Prop}(S:sI fa fb g w0 I){F:List Nat}{J:List Ev}{w:World}(h:I F J w)(m:Mk)(c:Nat)(hb:bV w c 178 #[.iface T (.pointer (some ⟨g,0,none⟩))])(hc:c∉F)(hl:J.length+(pV m).length≤MX) :
 Calls Tryz.prog 141 #[.agg #[.int .i64 m.at_,.string m.tag],.pointer (some ⟨c,0,none⟩)] w (gD I F (J++pV m) w):=by
 have e0:J++pV m=((J++[Ev.n m.at_])++[Ev.t m.tag]):=by simp[pV,iR,lW,mJ]
 have a1:((J++[Ev.n m.at_])++[Ev.t m.tag]).length≤MX:=by rw[←e0,aF];exact hl
 rw[e0];have hW:=S.alloc h (.cells #[.int .i64 m.at_,.string m.tag] 101);have B1:=bV.new w 101 #[.int .i64 m.at_,.string m.tag];have a2:w.heap.size∉F:=fun hx=>by have:=S.lt h _ hx;omega
 have B0:bV (w.alloc (.cells #[.int .i64 m.at_,.string m.tag] 101)) c 178 #[.iface T (.pointer (some ⟨g,0,none⟩))]:=hb.kept ((Fr.refl [] w).alloc _) (by simp);have S0:=hid S;obtain⟨W,Y⟩:∃W,Hid (W=w.alloc (.cells #[.int .i64 m.at_,.string m.tag] 101)):=⟨_,hid rfl⟩;have a0:Hid (∀F' e w',St I W F F' e w'→St I w F F' e w'):=hid (by rw[Y.out];exact fun _ _ _=>St.from_alloc);rw[←Y.out]at hW B0 B1;have HN:Hid (∀F' e w',St I W F F' e w'→c∉F'):=hid (fun _ _ _ s=>s.nin hc B0.lt);have HB:Hid (∀F' e w',St I W F F' e w'→bV w' c 178 #[.iface T (.pointer (some ⟨g,0,none⟩))]∧bV w' w.heap.size 101 #[.int .i64 m.at_,.string m.tag]):=hid (fun _ _ _ s=>⟨s.box B0 hc,s.box B1 a2⟩);have T0:=hid (St.start hW);have E0:=hid e0;clear hW B0 B1 S h hb e0;rcases hT with⟨rfl,rfl,rfl⟩ | ⟨rfl,rfl,rfl⟩
 all_goals
  go_enter Tryz.func141,Tryz.ntmps141;go_upto_region 1 with fail;rw[←Y.out];generalize w.heap.size=bm at *;have y0:W.cell? ⟨c,0,none⟩=some (.iface _ (.pointer (some ⟨g,0,none⟩))):=(HB.out _ _ _ T0.out).1.cell 0;have y1:W.cell? ⟨bm,0,none⟩=some (.int .i64 m.at_):=(HB.out _ _ _ T0.out).2.cell 0;have K1:=hid (S0.out.num m.at_ T0.out.i (by clear E0;simp only[aF,aG,aI]at a1 ⊢;omega));go_wp2_with fail;refine K1.out.mono ?_;rintro e w1 ⟨rfl,F1,s1⟩;have T1:=hid (T0.out.trans s1);clear s1 y0 y1 K1 T0;have y0:w1.cell? ⟨c,0,none⟩=some (.iface _ (.pointer (some ⟨g,0,none⟩))):=(HB.out _ _ _ T1.out).1.cell 0;have y1:w1.cell? ⟨bm,1,none⟩=some (.string m.tag):=(HB.out _ _ _ T1.out).2.cell 1;have K2:=hid (S0.out.txt m.tag T1.out.i (by clear E0;simp only[aF,aG,aI]at a1 ⊢;omega));go_wp2_with fail;refine K2.out.mono ?_
  rintro e w2 ⟨rfl,F2,s2⟩;have T2:=hid (T1.out.trans s2);clear s2 y0 y1 K2 T1;go_wp2_with fail;go_end0;exact⟨rfl,F2,a0.out _ _ _ T2.out⟩
theorem aJs{T:TypeId}{fa fb:FuncId}(hT:SK T fa fb){w0:World}{g:Nat}{I:List Nat→List Ev→World→Prop}(S:sI fa fb g w0 I){F:List Nat}{J:List Ev}{w:World}(h:I F J w)(A:Option Addr)(ac:Nat)(l:List Mk)(hr:zW w0 A 2 (l.map tZ))(c:Nat)(hb:bV w c 178 #[.iface T (.pointer (some ⟨g,0,none⟩))])(hc:c∉F)(a3:J.length+(rY l).length≤MX) :
 Calls Tryz.prog 140 #[.iface T (.pointer (some ⟨g,0,none⟩)),.slice A l.length ac,.func (.func 141) #[] #[.pointer (some ⟨c,0,none⟩)]] w (gD I F (J++rY l) w):=by
 have a9:J.length+(l.flatMap (fun x=>pV x)).length+1≤MX:=by simpa[rY,pY,qL,qU,Nat.add_assoc,List.flatMap_map] using a3
 have hm:l.length≤20000000:=by
  have e1:l.length≤(l.flatMap (fun x=>pV x)).length:=jA _ (fun x=>by simp[pV,iR,lW,mJ]) l;unfold MX at a9;omega
 have KN:=hid (S.num (l.length:Int) h (by omega));have S0:=hid S;have HR:=hid hr;have HB:=hid (fun F' e w' (s:St I w F F' e w')=>s.box hb hc);have HN:=hid (fun F' e w' (s:St I w F F' e w')=>s.nin hc hb.lt);obtain⟨n,hn⟩:∃n,Hid (n=l.length):=⟨_,hid rfl⟩;rw[←hn.out]at KN hm ⊢;clear S hr h a3 hb hc;rcases hT.both with⟨hT,rfl,rfl,rfl⟩ | ⟨hT,rfl,rfl,rfl⟩
 all_goals
  go_enter Tryz.func140,Tryz.ntmps140;go_wp2_with fail;refine KN.out.mono ?_;rintro e w1 ⟨rfl,F1,s1⟩;have S1:Hid (St I w F F1 (J++(Ev.n n :: (l.take 0).flatMap (fun x=>pV x))) w1):=hid s1;clear s1 KN;go_wp2_with fail;go_loopw [7,14] (fun a i wr=>∃(k:Nat) (F':List Nat),k≤n∧i=.int .i64 k∧Hid (St I w F F' (J++(Ev.n n :: (l.take k).flatMap (fun x=>pV x))) wr)) (fun _ i _=>n-(intOf i).toNat)
  case atStart=>exact⟨0,F1,by omega,rfl,S1⟩
  case round=>
   obtain⟨k,Fk,hk,rfl,Y⟩:=hrel;clear S1;by_cases aa:k<n
   ·have d1:decide ((k:Int)<(n:Int))=true:=aC (by omega)
    have a2:k<l.length:=by rw[←hn.out];exact aa
    obtain⟨b,off,rfl,a1,c0,c1⟩:=uI HR.out a2;replace HB:=HB.out _ _ _ Y.out;replace HN:=HN.out _ _ _ Y.out;have a8:(J++(Ev.n n :: (l.take k).flatMap (fun x=>pV x))).length+(pV l[k]).length≤MX:=by
     have:=pJ (fun x=>pV x) l k a2;rw[aF,aG]
     try dsimp only at this
     omega
    have a5:Hid (J++(Ev.n n :: (l.take k).flatMap (fun x=>pV x))++pV l[k] = J++(Ev.n n :: (l.take (k+1)).flatMap (fun x=>pV x))):=hid (by rw[kF _ _ _ a2];simp only[aS,aW]);replace c0:=S0.out.cell Y.out.i (show b<w0.heap.size from a1) c0;replace c1:=S0.out.cell Y.out.i (show b<w0.heap.size from a1) c1;clear a1;generalize l[k] = m at *;obtain⟨W,a0⟩:∃W,Hid (W=wr.alloc (.cells #[.int .i64 m.at_,.string m.tag] 101)):=⟨_,hid rfl⟩;have BW:bV W wr.heap.size 101 #[.int .i64 m.at_,.string m.tag]:=by rw[a0.out];exact bV.new _ _ _
    have a7:Hid (∀F' e w',St I W Fk F' e w'→St I wr Fk F' e w'):=hid (by rw[a0.out];exact fun _ _ _=>St.from_alloc);have a4:I Fk (J++(Ev.n n :: (l.take k).flatMap (fun x=>pV x))) W:=by rw[a0.out];exact S0.out.alloc Y.out.i _
    have a6:=nI HB a0.out;have KT:=aMf hT S0.out a4 m c a6 HN a8;rw[a5.out]at KT;replace KT:=hid KT;clear a5 a4 a6 HB;go_upto_region 4 with fail;rw[←a0.out];generalize wr.heap.size=bm at *;have z0:W.cell? ⟨bm,0,none⟩=_:=BW.cell 0;have z1:W.cell? ⟨bm,1,none⟩=_:=BW.cell 1;go_wp2_with fail;refine KT.out.mono ?_;rintro e w2 ⟨rfl,F2,s2⟩;have S2:=hid (Y.out.trans (a7.out _ _ _ s2));clear s2 KT Y;go_wp2_with fail;go_roundw
    case rel=>exact⟨k+1,F2,by omega,by go_num,S2⟩
    case measure=>simp[intOf];omega
   ·obtain rfl:k=n:=by omega
    have d1:decide ((k:Int)<(k:Int))=false:=aB (by omega);have e1:Hid (Ev.n k :: (l.take k).flatMap (fun x=>pV x)=rY l):=hid (by rw[hn.out,bF];simp only[rY,pY,qL,qU,List.flatMap_map,aH]);rw[e1.out]at Y;go_wp2_with fail;go_end0;exact⟨rfl,Fk,Y.out⟩
theorem aJp{T:TypeId}{fa fb:FuncId}(hT:SK T fa fb){w0:World}{g:Nat}{I:List Nat→List Ev→World→Prop}(S:sI fa fb g w0 I){F:List Nat}{J:List Ev}{w:World}(h:I F J w)(o:SO)(mA:Option Addr)(mc:Nat)(hr:zW w0 mA 2 (o.marks.map tZ))(c:Nat)(hb:bV w c 178 #[.iface T (.pointer (some ⟨g,0,none⟩))])(hc:c∉F)(hl:J.length+(iR o).length≤MX) :
 Calls Tryz.prog 139 #[.agg #[.string o.name,.string o.kinds,.slice mA o.marks.length mc],.pointer (some ⟨c,0,none⟩)] w (gD I F (J++iR o) w):=by
 have e0:J++iR o=(((J++[Ev.t o.name])++[Ev.t o.kinds])++rY o.marks):=by simp[pV,iR,lW,mJ]
 have a1:(((J++[Ev.t o.name])++[Ev.t o.kinds])++rY o.marks).length≤MX:=by rw[←e0,aF];exact hl
 rw[e0];have hW:=S.alloc h (.cells #[.string o.name,.string o.kinds,.slice mA o.marks.length mc] 99);have B1:=bV.new w 99 #[.string o.name,.string o.kinds,.slice mA o.marks.length mc];have a3:w.heap.size∉F:=fun hx=>by have:=S.lt h _ hx;omega
 have B0:bV (w.alloc (.cells #[.string o.name,.string o.kinds,.slice mA o.marks.length mc] 99)) c 178 #[.iface T (.pointer (some ⟨g,0,none⟩))]:=hb.kept ((Fr.refl [] w).alloc _) (by simp);have S0:=hid S;obtain⟨W,a0⟩:∃W,Hid (W=w.alloc (.cells #[.string o.name,.string o.kinds,.slice mA o.marks.length mc] 99)):=⟨_,hid rfl⟩;have a2:Hid (∀F' e w',St I W F F' e w'→St I w F F' e w'):=hid (by rw[a0.out];exact fun _ _ _=>St.from_alloc);rw[←a0.out]at hW B0 B1;have HN:Hid (∀F' e w',St I W F F' e w'→c∉F'):=hid (fun _ _ _ s=>s.nin hc B0.lt);have Y:Hid (∀F' e w',St I W F F' e w'→bV w' c 178 #[.iface T (.pointer (some ⟨g,0,none⟩))]∧bV w' w.heap.size 99 #[.string o.name,.string o.kinds,.slice mA o.marks.length mc]):=hid (fun _ _ _ s=>⟨s.box B0 hc,s.box B1 a3⟩);have T0:=hid (St.start hW);have E0:=hid e0;clear hW B0 B1 S h hb e0;rcases hT.both with⟨hT,rfl,rfl,rfl⟩ | ⟨hT,rfl,rfl,rfl⟩
 all_goals
  go_enter Tryz.func139,Tryz.ntmps139;go_upto_region 1 with fail;rw[←a0.out];generalize w.heap.size=bm at *;have y0:W.cell? ⟨c,0,none⟩=some (.iface _ (.pointer (some ⟨g,0,none⟩))):=(Y.out _ _ _ T0.out).1.cell 0;have y1:W.cell? ⟨bm,0,none⟩=some (.string o.name):=(Y.out _ _ _ T0.out).2.cell 0;have K1:=hid (S0.out.txt o.name T0.out.i (by clear E0;simp only[aF,aG,aI]at a1 ⊢;omega));go_wp2_with fail;refine K1.out.mono ?_;rintro e w1 ⟨rfl,F1,s1⟩;have T1:=hid (T0.out.trans s1);clear s1 y0 y1 K1 T0;have y0:w1.cell? ⟨c,0,none⟩=some (.iface _ (.pointer (some ⟨g,0,none⟩))):=(Y.out _ _ _ T1.out).1.cell 0;have y1:w1.cell? ⟨bm,1,none⟩=some (.string o.kinds):=(Y.out _ _ _ T1.out).2.cell 1;have K2:=hid (S0.out.txt o.kinds T1.out.i (by clear E0;simp only[aF,aG,aI]at a1 ⊢;omega));go_wp2_with fail;refine K2.out.mono ?_
  rintro e w2 ⟨rfl,F2,s2⟩;have T2:=hid (T1.out.trans s2);clear s2 y0 y1 K2 T1;have y0:w2.cell? ⟨c,0,none⟩=some (.iface _ (.pointer (some ⟨g,0,none⟩))):=(Y.out _ _ _ T2.out).1.cell 0;have y1:w2.cell? ⟨bm,2,none⟩=some (.slice mA o.marks.length mc):=(Y.out _ _ _ T2.out).2.cell 2;have K3:=hid (aJs hT S0.out T2.out.i mA mc o.marks hr c (Y.out _ _ _ T2.out).1 (HN.out _ _ _ T2.out) (by clear E0;simp only[aF,aG,aI]at a1 ⊢;omega));go_wp2_with fail;refine K3.out.mono ?_;rintro e w3 ⟨rfl,F3,s3⟩;have T3:=hid (T2.out.trans s3);clear s3 y0 y1 K3 T2;go_wp2_with fail;go_end0;exact⟨rfl,F3,a2.out _ _ _ T3.out⟩
theorem aHM{T:TypeId}{fa fb:FuncId}(hT:SK T fa fb){w0:World}{g:Nat}{I:List Nat→List Ev→World→Prop}(S:sI fa fb g w0 I){F:List Nat}{Y:List Ev}{w:World}(h:I F Y w)(A:Option Addr)(ac:Nat)(l:List MO)(hr:zW w0 A 3 (l.map MO.row))(c:Nat)(hb:bV w c 178 #[.iface T (.pointer (some ⟨g,0,none⟩))])(hc:c∉F)(a8:∀x∈l,MOk w0 x)(a3:Y.length+(pY (l.map (·.o))).length≤MX) :
 Calls Tryz.prog 138 #[.iface T (.pointer (some ⟨g,0,none⟩)),.slice A l.length ac,.func (.func 139) #[] #[.pointer (some ⟨c,0,none⟩)]] w (gD I F (Y++pY (l.map (·.o))) w):=by
 have ae:Y.length+(l.flatMap (fun x=>iR x.o)).length+1≤MX:=by simpa[rY,pY,qL,qU,Nat.add_assoc,List.flatMap_map] using a3
 have hm:l.length≤20000000:=by
  have e1:l.length≤(l.flatMap (fun x=>iR x.o)).length:=jA _ (fun x=>by simp[pV,iR,lW,mJ]) l;unfold MX at ae;omega
 have KN:=hid (S.num (l.length:Int) h (by omega));have S0:=hid S;have HR:=hid hr;have HB:=hid (fun F' e w' (s:St I w F F' e w')=>s.box hb hc);have HN:=hid (fun F' e w' (s:St I w F F' e w')=>s.nin hc hb.lt);obtain⟨n,hn⟩:∃n,Hid (n=l.length):=⟨_,hid rfl⟩;rw[←hn.out]at KN hm ⊢;clear S hr h a3 hb hc;rcases hT.both with⟨hT,rfl,rfl,rfl⟩ | ⟨hT,rfl,rfl,rfl⟩
 all_goals
  go_enter Tryz.func138,Tryz.ntmps138;go_wp2_with fail;refine KN.out.mono ?_;rintro e w1 ⟨rfl,F1,s1⟩;have S1:Hid (St I w F F1 (Y++(Ev.n n :: (l.take 0).flatMap (fun x=>iR x.o))) w1):=hid s1;clear s1 KN;go_wp2_with fail;go_loopw [7,14] (fun a i wr=>∃(k:Nat) (F':List Nat),k≤n∧i=.int .i64 k∧Hid (St I w F F' (Y++(Ev.n n :: (l.take k).flatMap (fun x=>iR x.o))) wr)) (fun _ i _=>n-(intOf i).toNat)
  case atStart=>exact⟨0,F1,by omega,rfl,S1⟩
  case round=>
   obtain⟨k,Fk,hk,rfl,J⟩:=hrel;clear S1;by_cases ad:k<n
   ·have d1:decide ((k:Int)<(n:Int))=true:=aC (by omega)
    have a2:k<l.length:=by rw[←hn.out];exact ad
    obtain⟨b,off,rfl,a1,c0,c1,c2⟩:=kS HR.out a2;replace HB:=HB.out _ _ _ J.out;replace HN:=HN.out _ _ _ J.out;have a9:(Y++(Ev.n n :: (l.take k).flatMap (fun x=>iR x.o))).length+(iR l[k].o).length≤MX:=by
     have:=pJ (fun x=>iR x.o) l k a2;rw[aF,aG]
     try dsimp only at this
     omega
    have a5:Hid (Y++(Ev.n n :: (l.take k).flatMap (fun x=>iR x.o))++iR l[k].o=Y++(Ev.n n :: (l.take (k+1)).flatMap (fun x=>iR x.o))):=hid (by rw[kF _ _ _ a2];simp only[aS,aW]);have aa:=a8 l[k] (aR a2);replace c0:=S0.out.cell J.out.i (show b<w0.heap.size from a1) c0;replace c1:=S0.out.cell J.out.i (show b<w0.heap.size from a1) c1;replace c2:=S0.out.cell J.out.i (show b<w0.heap.size from a1) c2;clear a1;generalize l[k] = x at *;obtain⟨⟨xn,xk,xm⟩,xA,xc⟩:=x;dsimp only at *;obtain⟨W,a0⟩:∃W,Hid (W=wr.alloc (.cells #[.string xn,.string xk,.slice xA xm.length xc] 99)):=⟨_,hid rfl⟩;have BW:bV W wr.heap.size 99 #[.string xn,.string xk,.slice xA xm.length xc]:=by rw[a0.out];exact bV.new _ _ _
    have a7:Hid (∀F' e w',St I W Fk F' e w'→St I wr Fk F' e w'):=hid (by rw[a0.out];exact fun _ _ _=>St.from_alloc);have a4:I Fk (Y++(Ev.n n :: (l.take k).flatMap (fun x=>iR x.o))) W:=by rw[a0.out];exact S0.out.alloc J.out.i _
    have a6:=nI HB a0.out;have KT:=aJp hT S0.out a4 ⟨xn,xk,xm⟩ xA xc aa.m c a6 HN a9;rw[a5.out]at KT;replace KT:=hid KT;clear a5 a4 a6 HB;go_upto_region 4 with fail;rw[←a0.out];generalize wr.heap.size=bm at *;have z0:W.cell? ⟨bm,0,none⟩=_:=BW.cell 0;have z1:W.cell? ⟨bm,1,none⟩=_:=BW.cell 1;have z2:W.cell? ⟨bm,2,none⟩=_:=BW.cell 2;go_wp2_with fail;refine KT.out.mono ?_;rintro e w2 ⟨rfl,F2,s2⟩;have S2:=hid (J.out.trans (a7.out _ _ _ s2));clear s2 KT J;go_wp2_with fail;go_roundw
    case rel=>exact⟨k+1,F2,by omega,by go_num,S2⟩
    case measure=>simp[intOf];omega
   ·obtain rfl:k=n:=by omega
    have d1:decide ((k:Int)<(k:Int))=false:=aB (by omega);have e1:Hid (Ev.n k :: (l.take k).flatMap (fun x=>iR x.o)=pY (l.map (·.o))):=hid (by rw[hn.out,bF];simp only[rY,pY,qL,qU,List.flatMap_map,aH]);rw[e1.out]at J;go_wp2_with fail;go_end0;exact⟨rfl,Fk,J.out⟩
theorem aLJ{T:TypeId}{fa fb:FuncId}(hT:SK T fa fb){w0:World}{g:Nat}{I:List Nat→List Ev→World→Prop}(S:sI fa fb g w0 I){F:List Nat}{J:List Ev}{w:World}(h:I F J w)(o:SF)(c:Nat)(hb:bV w c 178 #[.iface T (.pointer (some ⟨g,0,none⟩))])(hc:c∉F)(hl:J.length+(lW o).length≤MX) :
 Calls Tryz.prog 143 #[.agg #[.string o.name,.string o.kinds,.string o.ret],.pointer (some ⟨c,0,none⟩)] w (gD I F (J++lW o) w):=by
 have e0:J++lW o=(((J++[Ev.t o.name])++[Ev.t o.kinds])++[Ev.t o.ret]):=by simp[pV,iR,lW,mJ]
 have a0:(((J++[Ev.t o.name])++[Ev.t o.kinds])++[Ev.t o.ret]).length≤MX:=by rw[←e0,aF];exact hl
 rw[e0];have hW:=S.alloc h (.cells #[.string o.name,.string o.kinds,.string o.ret] 103);have B1:=bV.new w 103 #[.string o.name,.string o.kinds,.string o.ret];have a2:w.heap.size∉F:=fun hx=>by have:=S.lt h _ hx;omega
 have B0:bV (w.alloc (.cells #[.string o.name,.string o.kinds,.string o.ret] 103)) c 178 #[.iface T (.pointer (some ⟨g,0,none⟩))]:=hb.kept ((Fr.refl [] w).alloc _) (by simp);have S0:=hid S;obtain⟨W,Y⟩:∃W,Hid (W=w.alloc (.cells #[.string o.name,.string o.kinds,.string o.ret] 103)):=⟨_,hid rfl⟩;have a1:Hid (∀F' e w',St I W F F' e w'→St I w F F' e w'):=hid (by rw[Y.out];exact fun _ _ _=>St.from_alloc);rw[←Y.out]at hW B0 B1;have HN:Hid (∀F' e w',St I W F F' e w'→c∉F'):=hid (fun _ _ _ s=>s.nin hc B0.lt);have HB:Hid (∀F' e w',St I W F F' e w'→bV w' c 178 #[.iface T (.pointer (some ⟨g,0,none⟩))]∧bV w' w.heap.size 103 #[.string o.name,.string o.kinds,.string o.ret]):=hid (fun _ _ _ s=>⟨s.box B0 hc,s.box B1 a2⟩);have T0:=hid (St.start hW);have E0:=hid e0;clear hW B0 B1 S h hb e0;rcases hT with⟨rfl,rfl,rfl⟩ | ⟨rfl,rfl,rfl⟩
 all_goals
  go_enter Tryz.func143,Tryz.ntmps143;go_upto_region 1 with fail;rw[←Y.out];generalize w.heap.size=bm at *;have y0:W.cell? ⟨c,0,none⟩=some (.iface _ (.pointer (some ⟨g,0,none⟩))):=(HB.out _ _ _ T0.out).1.cell 0;have y1:W.cell? ⟨bm,0,none⟩=some (.string o.name):=(HB.out _ _ _ T0.out).2.cell 0;have K1:=hid (S0.out.txt o.name T0.out.i (by clear E0;simp only[aF,aG,aI]at a0 ⊢;omega));go_wp2_with fail;refine K1.out.mono ?_;rintro e w1 ⟨rfl,F1,s1⟩;have T1:=hid (T0.out.trans s1);clear s1 y0 y1 K1 T0;have y0:w1.cell? ⟨c,0,none⟩=some (.iface _ (.pointer (some ⟨g,0,none⟩))):=(HB.out _ _ _ T1.out).1.cell 0;have y1:w1.cell? ⟨bm,1,none⟩=some (.string o.kinds):=(HB.out _ _ _ T1.out).2.cell 1;have K2:=hid (S0.out.txt o.kinds T1.out.i (by clear E0;simp only[aF,aG,aI]at a0 ⊢;omega));go_wp2_with fail;refine K2.out.mono ?_
  rintro e w2 ⟨rfl,F2,s2⟩;have T2:=hid (T1.out.trans s2);clear s2 y0 y1 K2 T1;have y0:w2.cell? ⟨c,0,none⟩=some (.iface _ (.pointer (some ⟨g,0,none⟩))):=(HB.out _ _ _ T2.out).1.cell 0;have y1:w2.cell? ⟨bm,2,none⟩=some (.string o.ret):=(HB.out _ _ _ T2.out).2.cell 2;have K3:=hid (S0.out.txt o.ret T2.out.i (by clear E0;simp only[aF,aG,aI]at a0 ⊢;omega));go_wp2_with fail;refine K3.out.mono ?_;rintro e w3 ⟨rfl,F3,s3⟩;have T3:=hid (T2.out.trans s3);clear s3 y0 y1 K3 T2;go_wp2_with fail;go_end0;exact⟨rfl,F3,a1.out _ _ _ T3.out⟩
theorem aJv{T:TypeId}{fa fb:FuncId}(hT:SK T fa fb){w0:World}{g:Nat}{I:List Nat→List Ev→World→Prop}(S:sI fa fb g w0 I){F:List Nat}{Y:List Ev}{w:World}(h:I F Y w)(A:Option Addr)(ac:Nat)(l:List SF)(hr:zW w0 A 3 (l.map lF))(c:Nat)(hb:bV w c 178 #[.iface T (.pointer (some ⟨g,0,none⟩))])(hc:c∉F)(a3:Y.length+(qL l).length≤MX) :
 Calls Tryz.prog 142 #[.iface T (.pointer (some ⟨g,0,none⟩)),.slice A l.length ac,.func (.func 143) #[] #[.pointer (some ⟨c,0,none⟩)]] w (gD I F (Y++qL l) w):=by
 have aa:Y.length+(l.flatMap (fun x=>lW x)).length+1≤MX:=by simpa[rY,pY,qL,qU,Nat.add_assoc,List.flatMap_map] using a3
 have hm:l.length≤20000000:=by
  have e1:l.length≤(l.flatMap (fun x=>lW x)).length:=jA _ (fun x=>by simp[pV,iR,lW,mJ]) l;unfold MX at aa;omega
 have KN:=hid (S.num (l.length:Int) h (by omega));have S0:=hid S;have HR:=hid hr;have HB:=hid (fun F' e w' (s:St I w F F' e w')=>s.box hb hc);have HN:=hid (fun F' e w' (s:St I w F F' e w')=>s.nin hc hb.lt);obtain⟨n,hn⟩:∃n,Hid (n=l.length):=⟨_,hid rfl⟩;rw[←hn.out]at KN hm ⊢;clear S hr h a3 hb hc;rcases hT.both with⟨hT,rfl,rfl,rfl⟩ | ⟨hT,rfl,rfl,rfl⟩
 all_goals
  go_enter Tryz.func142,Tryz.ntmps142;go_wp2_with fail;refine KN.out.mono ?_;rintro e w1 ⟨rfl,F1,s1⟩;have S1:Hid (St I w F F1 (Y++(Ev.n n :: (l.take 0).flatMap (fun x=>lW x))) w1):=hid s1;clear s1 KN;go_wp2_with fail;go_loopw [7,14] (fun a i wr=>∃(k:Nat) (F':List Nat),k≤n∧i=.int .i64 k∧Hid (St I w F F' (Y++(Ev.n n :: (l.take k).flatMap (fun x=>lW x))) wr)) (fun _ i _=>n-(intOf i).toNat)
  case atStart=>exact⟨0,F1,by omega,rfl,S1⟩
  case round=>
   obtain⟨k,Fk,hk,rfl,J⟩:=hrel;clear S1;by_cases a9:k<n
   ·have d1:decide ((k:Int)<(n:Int))=true:=aC (by omega)
    have a2:k<l.length:=by rw[←hn.out];exact a9
    obtain⟨b,off,rfl,a1,c0,c1,c2⟩:=oC HR.out a2;replace HB:=HB.out _ _ _ J.out;replace HN:=HN.out _ _ _ J.out;have a8:(Y++(Ev.n n :: (l.take k).flatMap (fun x=>lW x))).length+(lW l[k]).length≤MX:=by
     have:=pJ (fun x=>lW x) l k a2;rw[aF,aG]
     try dsimp only at this
     omega
    have a5:Hid (Y++(Ev.n n :: (l.take k).flatMap (fun x=>lW x))++lW l[k] = Y++(Ev.n n :: (l.take (k+1)).flatMap (fun x=>lW x))):=hid (by rw[kF _ _ _ a2];simp only[aS,aW]);replace c0:=S0.out.cell J.out.i (show b<w0.heap.size from a1) c0;replace c1:=S0.out.cell J.out.i (show b<w0.heap.size from a1) c1;replace c2:=S0.out.cell J.out.i (show b<w0.heap.size from a1) c2;clear a1;generalize l[k] = m at *;obtain⟨W,a0⟩:∃W,Hid (W=wr.alloc (.cells #[.string m.name,.string m.kinds,.string m.ret] 103)):=⟨_,hid rfl⟩;have BW:bV W wr.heap.size 103 #[.string m.name,.string m.kinds,.string m.ret]:=by rw[a0.out];exact bV.new _ _ _
    have a7:Hid (∀F' e w',St I W Fk F' e w'→St I wr Fk F' e w'):=hid (by rw[a0.out];exact fun _ _ _=>St.from_alloc);have a4:I Fk (Y++(Ev.n n :: (l.take k).flatMap (fun x=>lW x))) W:=by rw[a0.out];exact S0.out.alloc J.out.i _
    have a6:=nI HB a0.out;have KT:=aLJ hT S0.out a4 m c a6 HN a8;rw[a5.out]at KT;replace KT:=hid KT;clear a5 a4 a6 HB;go_upto_region 4 with fail;rw[←a0.out];generalize wr.heap.size=bm at *;have z0:W.cell? ⟨bm,0,none⟩=_:=BW.cell 0;have z1:W.cell? ⟨bm,1,none⟩=_:=BW.cell 1;have z2:W.cell? ⟨bm,2,none⟩=_:=BW.cell 2;go_wp2_with fail;refine KT.out.mono ?_;rintro e w2 ⟨rfl,F2,s2⟩;have S2:=hid (J.out.trans (a7.out _ _ _ s2));clear s2 KT J;go_wp2_with fail;go_roundw
    case rel=>exact⟨k+1,F2,by omega,by go_num,S2⟩
    case measure=>simp[intOf];omega
   ·obtain rfl:k=n:=by omega
    have d1:decide ((k:Int)<(k:Int))=false:=aB (by omega);have e1:Hid (Ev.n k :: (l.take k).flatMap (fun x=>lW x)=qL l):=hid (by rw[hn.out,bF];simp only[rY,pY,qL,qU,List.flatMap_map,aH]);rw[e1.out]at J;go_wp2_with fail;go_end0;exact⟨rfl,Fk,J.out⟩
theorem aJ7{T:TypeId}{fa fb:FuncId}(hT:SK T fa fb){w0:World}{g:Nat}{I:List Nat→List Ev→World→Prop}(S:sI fa fb g w0 I){F:List Nat}{Y:List Ev}{w:World}(h:I F Y w)(o:SC)(aA:Option Addr)(ac:Nat)(hr:Rd w0 aA (o.args.map Value.string))(c:Nat)(hb:bV w c 178 #[.iface T (.pointer (some ⟨g,0,none⟩))])(hc:c∉F)(hl:Y.length+(mJ o).length≤MX) :
 Calls Tryz.prog 145 #[.agg #[.int .i64 o.op,.string o.a,.string o.b,.int .i64 o.k,.string o.tag,.slice aA o.args.length ac],.pointer (some ⟨c,0,none⟩)] w (gD I F (Y++mJ o) w):=by
 have e0:Y++mJ o=((((((Y++[Ev.n o.op])++[Ev.t o.a])++[Ev.t o.b])++[Ev.n o.k])++[Ev.t o.tag])++fB o.args):=by simp[pV,iR,lW,mJ]
 have J:((((((Y++[Ev.n o.op])++[Ev.t o.a])++[Ev.t o.b])++[Ev.n o.k])++[Ev.t o.tag])++fB o.args).length≤MX:=by rw[←e0,aF];exact hl
 rw[e0];have hW:=S.alloc h (.cells #[.int .i64 o.op,.string o.a,.string o.b,.int .i64 o.k,.string o.tag,.slice aA o.args.length ac] 105);have B1:=bV.new w 105 #[.int .i64 o.op,.string o.a,.string o.b,.int .i64 o.k,.string o.tag,.slice aA o.args.length ac];have a2:w.heap.size∉F:=fun hx=>by have:=S.lt h _ hx;omega
 have B0:bV (w.alloc (.cells #[.int .i64 o.op,.string o.a,.string o.b,.int .i64 o.k,.string o.tag,.slice aA o.args.length ac] 105)) c 178 #[.iface T (.pointer (some ⟨g,0,none⟩))]:=hb.kept ((Fr.refl [] w).alloc _) (by simp);have S0:=hid S;obtain⟨W,a0⟩:∃W,Hid (W=w.alloc (.cells #[.int .i64 o.op,.string o.a,.string o.b,.int .i64 o.k,.string o.tag,.slice aA o.args.length ac] 105)):=⟨_,hid rfl⟩;have a1:Hid (∀F' e w',St I W F F' e w'→St I w F F' e w'):=hid (by rw[a0.out];exact fun _ _ _=>St.from_alloc);rw[←a0.out]at hW B0 B1;have HN:Hid (∀F' e w',St I W F F' e w'→c∉F'):=hid (fun _ _ _ s=>s.nin hc B0.lt);have HB:Hid (∀F' e w',St I W F F' e w'→bV w' c 178 #[.iface T (.pointer (some ⟨g,0,none⟩))]∧bV w' w.heap.size 105 #[.int .i64 o.op,.string o.a,.string o.b,.int .i64 o.k,.string o.tag,.slice aA o.args.length ac]):=hid (fun _ _ _ s=>⟨s.box B0 hc,s.box B1 a2⟩);have T0:=hid (St.start hW);have E0:=hid e0
 clear hW B0 B1 S h hb e0;rcases hT.both with⟨hT,rfl,rfl,rfl⟩ | ⟨hT,rfl,rfl,rfl⟩
 all_goals
  go_enter Tryz.func145,Tryz.ntmps145;go_upto_region 1 with fail;rw[←a0.out];generalize w.heap.size=bm at *;have y0:W.cell? ⟨c,0,none⟩=some (.iface _ (.pointer (some ⟨g,0,none⟩))):=(HB.out _ _ _ T0.out).1.cell 0;have y1:W.cell? ⟨bm,0,none⟩=some (.int .i64 o.op):=(HB.out _ _ _ T0.out).2.cell 0;have K1:=hid (S0.out.num o.op T0.out.i (by clear E0;simp only[aF,aG,aI]at J ⊢;omega));go_wp2_with fail;refine K1.out.mono ?_;rintro e w1 ⟨rfl,F1,s1⟩;have T1:=hid (T0.out.trans s1);clear s1 y0 y1 K1 T0;have y0:w1.cell? ⟨c,0,none⟩=some (.iface _ (.pointer (some ⟨g,0,none⟩))):=(HB.out _ _ _ T1.out).1.cell 0;have y1:w1.cell? ⟨bm,1,none⟩=some (.string o.a):=(HB.out _ _ _ T1.out).2.cell 1;have K2:=hid (S0.out.txt o.a T1.out.i (by clear E0;simp only[aF,aG,aI]at J ⊢;omega));go_wp2_with fail;refine K2.out.mono ?_;rintro e w2 ⟨rfl,F2,s2⟩
  have T2:=hid (T1.out.trans s2);clear s2 y0 y1 K2 T1;have y0:w2.cell? ⟨c,0,none⟩=some (.iface _ (.pointer (some ⟨g,0,none⟩))):=(HB.out _ _ _ T2.out).1.cell 0;have y1:w2.cell? ⟨bm,2,none⟩=some (.string o.b):=(HB.out _ _ _ T2.out).2.cell 2;have K3:=hid (S0.out.txt o.b T2.out.i (by clear E0;simp only[aF,aG,aI]at J ⊢;omega));go_wp2_with fail;refine K3.out.mono ?_;rintro e w3 ⟨rfl,F3,s3⟩;have T3:=hid (T2.out.trans s3);clear s3 y0 y1 K3 T2;have y0:w3.cell? ⟨c,0,none⟩=some (.iface _ (.pointer (some ⟨g,0,none⟩))):=(HB.out _ _ _ T3.out).1.cell 0;have y1:w3.cell? ⟨bm,3,none⟩=some (.int .i64 o.k):=(HB.out _ _ _ T3.out).2.cell 3;have K4:=hid (S0.out.num o.k T3.out.i (by clear E0;simp only[aF,aG,aI]at J ⊢;omega));go_wp2_with fail;refine K4.out.mono ?_;rintro e w4 ⟨rfl,F4,s4⟩;have T4:=hid (T3.out.trans s4);clear s4 y0 y1 K4 T3
  have y0:w4.cell? ⟨c,0,none⟩=some (.iface _ (.pointer (some ⟨g,0,none⟩))):=(HB.out _ _ _ T4.out).1.cell 0;have y1:w4.cell? ⟨bm,4,none⟩=some (.string o.tag):=(HB.out _ _ _ T4.out).2.cell 4;have K5:=hid (S0.out.txt o.tag T4.out.i (by clear E0;simp only[aF,aG,aI]at J ⊢;omega));go_wp2_with fail;refine K5.out.mono ?_;rintro e w5 ⟨rfl,F5,s5⟩;have T5:=hid (T4.out.trans s5);clear s5 y0 y1 K5 T4;have y0:w5.cell? ⟨c,0,none⟩=some (.iface _ (.pointer (some ⟨g,0,none⟩))):=(HB.out _ _ _ T5.out).1.cell 0;have y1:w5.cell? ⟨bm,5,none⟩=some (.slice aA o.args.length ac):=(HB.out _ _ _ T5.out).2.cell 5;have Td:=hid (St.drew S0.out T5.out);have a4:w5.drew.cell? ⟨c,0,none⟩=some (.iface _ (.pointer (some ⟨g,0,none⟩))):=y0;have a3:w5.drew.cell? ⟨bm,5,none⟩=some (.slice aA o.args.length ac):=y1;have K6:=hid (wU hT S0.out Td.out.i aA ac o.args hr (by clear E0;simp only[aF,aG,aI]at J ⊢;omega))
  go_wp2_with fail
  go_region_with ((go_at_call 137;refine K6.out.mono ?_;rintro e w6 ⟨rfl,F6,s6⟩;have T6:=hid (Td.out.trans s6);clear s6))
  all_goals go_wp2_with fail
  all_goals go_end0
  all_goals exact⟨rfl,F6,a1.out _ _ _ T6.out⟩
theorem aIk{T:TypeId}{fa fb:FuncId}(hT:SK T fa fb){w0:World}{g:Nat}{I:List Nat→List Ev→World→Prop}(S:sI fa fb g w0 I){F:List Nat}{Y:List Ev}{w:World}(h:I F Y w)(A:Option Addr)(ac:Nat)(l:List MC)(hr:zW w0 A 6 (l.map MC.row))(c:Nat)(hb:bV w c 178 #[.iface T (.pointer (some ⟨g,0,none⟩))])(hc:c∉F)(a8:∀x∈l,COk w0 x)(a3:Y.length+(qU (l.map (·.c))).length≤MX) :
 Calls Tryz.prog 144 #[.iface T (.pointer (some ⟨g,0,none⟩)),.slice A l.length ac,.func (.func 145) #[] #[.pointer (some ⟨c,0,none⟩)]] w (gD I F (Y++qU (l.map (·.c))) w):=by
 have ae:Y.length+(l.flatMap (fun x=>mJ x.c)).length+1≤MX:=by simpa[rY,pY,qL,qU,Nat.add_assoc,List.flatMap_map] using a3
 have hm:l.length≤20000000:=by
  have e1:l.length≤(l.flatMap (fun x=>mJ x.c)).length:=jA _ (fun x=>by simp[pV,iR,lW,mJ]) l;unfold MX at ae;omega
 have KN:=hid (S.num (l.length:Int) h (by omega));have S0:=hid S;have HR:=hid hr;have HB:=hid (fun F' e w' (s:St I w F F' e w')=>s.box hb hc);have HN:=hid (fun F' e w' (s:St I w F F' e w')=>s.nin hc hb.lt);obtain⟨n,hn⟩:∃n,Hid (n=l.length):=⟨_,hid rfl⟩;rw[←hn.out]at KN hm ⊢;clear S hr h a3 hb hc;rcases hT.both with⟨hT,rfl,rfl,rfl⟩ | ⟨hT,rfl,rfl,rfl⟩
 all_goals
  go_enter Tryz.func144,Tryz.ntmps144;go_wp2_with fail;refine KN.out.mono ?_;rintro e w1 ⟨rfl,F1,s1⟩;have S1:Hid (St I w F F1 (Y++(Ev.n n :: (l.take 0).flatMap (fun x=>mJ x.c))) w1):=hid s1;clear s1 KN;go_wp2_with fail;go_loopw [7,14] (fun a i wr=>∃(k:Nat) (F':List Nat),k≤n∧i=.int .i64 k∧Hid (St I w F F' (Y++(Ev.n n :: (l.take k).flatMap (fun x=>mJ x.c))) wr)) (fun _ i _=>n-(intOf i).toNat)
  case atStart=>exact⟨0,F1,by omega,rfl,S1⟩
  case round=>
   obtain⟨k,Fk,hk,rfl,J⟩:=hrel;clear S1;by_cases ad:k<n
   ·have d1:decide ((k:Int)<(n:Int))=true:=aC (by omega)
    have a2:k<l.length:=by rw[←hn.out];exact ad
    obtain⟨b,off,rfl,a0,c0,c1,c2,c3,c4,c5⟩:=nA HR.out a2;replace HB:=HB.out _ _ _ J.out;replace HN:=HN.out _ _ _ J.out;have a9:(Y++(Ev.n n :: (l.take k).flatMap (fun x=>mJ x.c))).length+(mJ l[k].c).length≤MX:=by
     have:=pJ (fun x=>mJ x.c) l k a2;rw[aF,aG]
     try dsimp only at this
     omega
    have a5:Hid (Y++(Ev.n n :: (l.take k).flatMap (fun x=>mJ x.c))++mJ l[k].c=Y++(Ev.n n :: (l.take (k+1)).flatMap (fun x=>mJ x.c))):=hid (by rw[kF _ _ _ a2];simp only[aS,aW]);have aa:=a8 l[k] (aR a2);replace c0:=S0.out.cell J.out.i (show b<w0.heap.size from a0) c0;replace c1:=S0.out.cell J.out.i (show b<w0.heap.size from a0) c1;replace c2:=S0.out.cell J.out.i (show b<w0.heap.size from a0) c2;replace c3:=S0.out.cell J.out.i (show b<w0.heap.size from a0) c3;replace c4:=S0.out.cell J.out.i (show b<w0.heap.size from a0) c4;replace c5:=S0.out.cell J.out.i (show b<w0.heap.size from a0) c5;clear a0;generalize l[k] = x at *;obtain⟨⟨xo,xa,xb,xk,xt,xg⟩,xA,xc⟩:=x;dsimp only at *;obtain⟨W,a1⟩:∃W,Hid (W=wr.alloc (.cells #[.int .i64 xo,.string xa,.string xb,.int .i64 xk,.string xt,.slice xA xg.length xc] 105)):=⟨_,hid rfl⟩
    have BW:bV W wr.heap.size 105 #[.int .i64 xo,.string xa,.string xb,.int .i64 xk,.string xt,.slice xA xg.length xc]:=by rw[a1.out];exact bV.new _ _ _
    have a7:Hid (∀F' e w',St I W Fk F' e w'→St I wr Fk F' e w'):=hid (by rw[a1.out];exact fun _ _ _=>St.from_alloc);have a4:I Fk (Y++(Ev.n n :: (l.take k).flatMap (fun x=>mJ x.c))) W:=by rw[a1.out];exact S0.out.alloc J.out.i _
    have a6:=nI HB a1.out;have KT:=aJ7 hT S0.out a4 ⟨xo,xa,xb,xk,xt,xg⟩ xA xc aa.g c a6 HN a9;rw[a5.out]at KT;replace KT:=hid KT;clear a5 a4 a6 HB;go_upto_region 4 with fail;rw[←a1.out];generalize wr.heap.size=bm at *;have z0:W.cell? ⟨bm,0,none⟩=_:=BW.cell 0;have z1:W.cell? ⟨bm,1,none⟩=_:=BW.cell 1;have z2:W.cell? ⟨bm,2,none⟩=_:=BW.cell 2;have z3:W.cell? ⟨bm,3,none⟩=_:=BW.cell 3;have z4:W.cell? ⟨bm,4,none⟩=_:=BW.cell 4;have z5:W.cell? ⟨bm,5,none⟩=_:=BW.cell 5;go_wp2_with fail;refine KT.out.mono ?_;rintro e w2 ⟨rfl,F2,s2⟩;have S2:=hid (J.out.trans (a7.out _ _ _ s2));clear s2 KT J;go_wp2_with fail;go_roundw
    case rel=>exact⟨k+1,F2,by omega,by go_num,S2⟩
    case measure=>simp[intOf];omega
   ·obtain rfl:k=n:=by omega
    have d1:decide ((k:Int)<(k:Int))=false:=aB (by omega);have e1:Hid (Ev.n k :: (l.take k).flatMap (fun x=>mJ x.c)=qU (l.map (·.c))):=hid (by rw[hn.out,bF];simp only[rY,pY,qL,qU,List.flatMap_map,aH]);rw[e1.out]at J;go_wp2_with fail;go_end0;exact⟨rfl,Fk,J.out⟩
theorem zY{T:TypeId}{fa fb:FuncId}(hT:SK T fa fb){w0:World}{g:Nat}{I:List Nat→List Ev→World→Prop}(S:sI fa fb g w0 I){F:List Nat}{Y:List Ev}{w:World}(h:I F Y w)(u:MU)(hu:gH w0 u)(hl:Y.length+(dF u.su).length≤MX) :
 Calls Tryz.prog 83 #[.iface T (.pointer (some ⟨g,0,none⟩)),u.val] w (gD I F (Y++dF u.su) w):=by
 obtain⟨nm,gA,gc,gs,wA,wc,ws,kA,kc,ks,⟨oA,oc,os,fA,fc,fs,cA,cc,cs⟩⟩:=u;obtain⟨hg,hw,hk,ho⟩:=hu;have a3:=ho.o;have a8:=ho.f;have a6:=ho.c;have a2:=ho.ok;have a0:=ho.ck;unfold MU.val MU.row MU.su MS.sys at *;dsimp only at *;have e0:Y++dF ⟨nm,gs,ws,ks,⟨os.map (·.o),fs,cs.map (·.c)⟩⟩=((((((Y++[Ev.t nm])++fB gs)++fB ws)++fB ks)++pY (os.map (·.o)))++qL fs)++qU (cs.map (·.c)):=by simp[dF]
 have af:(((((((Y++[Ev.t nm])++fB gs)++fB ws)++fB ks)++pY (os.map (·.o)))++qL fs)++qU (cs.map (·.c))).length≤MX:=by rw[←e0,aF];exact hl
 rw[e0];simp only[aF,aG,aI]at af;clear hl e0 ho;have hW:=S.alloc (S.alloc h (.cells #[.iface T (.pointer (some ⟨g,0,none⟩))] 178)) (.cells #[.string nm,.slice gA gs.length gc,.slice wA ws.length wc,.slice kA ks.length kc,.slice oA os.length oc,.slice fA fs.length fc,.slice cA cs.length cc] 29);have a9:w.heap.size∉F:=fun hx=>by have:=S.lt h _ hx;omega
 have hz:(w.alloc (.cells #[.iface T (.pointer (some ⟨g,0,none⟩))] 178)).heap.size=w.heap.size+1:=bH _;have B0:bV ((w.alloc (.cells #[.iface T (.pointer (some ⟨g,0,none⟩))] 178)).alloc (.cells #[.string nm,.slice gA gs.length gc,.slice wA ws.length wc,.slice kA ks.length kc,.slice oA os.length oc,.slice fA fs.length fc,.slice cA cs.length cc] 29)) w.heap.size 178 #[.iface T (.pointer (some ⟨g,0,none⟩))]:=(bV.new w _ _).kept ((Fr.refl [] _).alloc _) (by simp);have B1:=bV.new (w.alloc (.cells #[.iface T (.pointer (some ⟨g,0,none⟩))] 178)) 29 #[.string nm,.slice gA gs.length gc,.slice wA ws.length wc,.slice kA ks.length kc,.slice oA os.length oc,.slice fA fs.length fc,.slice cA cs.length cc];rw[hz]at B1;have ad:w.heap.size+1∉F:=fun hx=>by have:=S.lt h _ hx;omega
 have S0:=hid S;obtain⟨W,a1⟩:∃W,Hid (W=(w.alloc (.cells #[.iface T (.pointer (some ⟨g,0,none⟩))] 178)).alloc (.cells #[.string nm,.slice gA gs.length gc,.slice wA ws.length wc,.slice kA ks.length kc,.slice oA os.length oc,.slice fA fs.length fc,.slice cA cs.length cc] 29)):=⟨_,hid rfl⟩;have a5:Hid (∀F' e w',St I W F F' e w'→St I w F F' e w'):=hid (by rw[a1.out];exact fun _ _ _ s=>St.from_alloc (St.from_alloc s));rw[←a1.out]at hW B0 B1;have HN:Hid (∀F' e w',St I W F F' e w'→w.heap.size∉F'):=hid (fun _ _ _ s=>s.nin a9 B0.lt);have HB:Hid (∀F' e w',St I W F F' e w'→bV w' w.heap.size 178 #[.iface T (.pointer (some ⟨g,0,none⟩))]∧bV w' (w.heap.size+1) 29 #[.string nm,.slice gA gs.length gc,.slice wA ws.length wc,.slice kA ks.length kc,.slice oA os.length oc,.slice fA fs.length fc,.slice cA cs.length cc]):=hid (fun _ _ _ s=>⟨s.box B0 a9,s.box B1 ad⟩);have T0:=hid (St.start hW);have Hg:=hid hg
 have Hw:=hid hw;have Hk:=hid hk;have Ho:=hid a3;have Hf:=hid a8;have Hc:=hid a6;have aa:=hid a2;have ae:=hid a0;clear hW B0 B1 S h hg hw hk a3 a8 a6 a2 a0;rcases hT.both with⟨hT,rfl,rfl,rfl⟩ | ⟨hT,rfl,rfl,rfl⟩
 all_goals
  go_enter Tryz.func83,Tryz.ntmps83;go_upto_region 1 with fail
  try rw[hz]
  rw[←a1.out];clear hz;generalize w.heap.size=J at *;have y0:W.cell? ⟨J,0,none⟩=some (.iface _ (.pointer (some ⟨g,0,none⟩))):=(HB.out _ _ _ T0.out).1.cell 0;have y1:W.cell? ⟨J+1,0,none⟩=some (.string nm):=(HB.out _ _ _ T0.out).2.cell 0;have K1:=hid (S0.out.txt nm T0.out.i (by omega));go_wp2_with fail;refine K1.out.mono ?_;rintro e w1 ⟨rfl,F1,s1⟩;have T1:=hid (T0.out.trans s1);clear s1 y0 y1 K1 T0;go_upto_region 2 with fail
  go_cut [14] (fun _ wx=>∃F',Hid (St I W F F' ((Y++[Ev.t nm])++fB gs) wx))
  case first=>
   have y0:w1.cell? ⟨J,0,none⟩=some (.iface _ (.pointer (some ⟨g,0,none⟩))):=(HB.out _ _ _ T1.out).1.cell 0;have y1:w1.cell? ⟨J+1,1,none⟩=some (.slice gA gs.length gc):=(HB.out _ _ _ T1.out).2.cell 1;have Td:=hid (St.drew S0.out T1.out);have a7:w1.drew.cell? ⟨J,0,none⟩=some (.iface _ (.pointer (some ⟨g,0,none⟩))):=y0;have a4:w1.drew.cell? ⟨J+1,1,none⟩=some (.slice gA gs.length gc):=y1;have K:=hid (wU hT S0.out Td.out.i gA gc gs Hg.out (by simp only[aF,aG,aI];omega))
   go_region_with ((go_at_call 137;refine K.out.mono ?_;rintro e w2 ⟨rfl,F2,s2⟩;have T2:=hid (Td.out.trans s2);clear s2))
   all_goals (go_wp2_with fail;go_meet;exact⟨F2,T2⟩)
  obtain⟨F2,T2⟩:=hcut
  rename World=>w2
  clear T1;go_upto_region 3 with fail
  go_cut [21] (fun _ wx=>∃F',Hid (St I W F F' (((Y++[Ev.t nm])++fB gs)++fB ws) wx))
  case first=>
   have y0:w2.cell? ⟨J,0,none⟩=some (.iface _ (.pointer (some ⟨g,0,none⟩))):=(HB.out _ _ _ T2.out).1.cell 0;have y1:w2.cell? ⟨J+1,2,none⟩=some (.slice wA ws.length wc):=(HB.out _ _ _ T2.out).2.cell 2;have Td:=hid (St.drew S0.out T2.out);have a7:w2.drew.cell? ⟨J,0,none⟩=some (.iface _ (.pointer (some ⟨g,0,none⟩))):=y0;have a4:w2.drew.cell? ⟨J+1,2,none⟩=some (.slice wA ws.length wc):=y1;have K:=hid (wU hT S0.out Td.out.i wA wc ws Hw.out (by simp only[aF,aG,aI];omega))
   go_region_with ((go_at_call 137;refine K.out.mono ?_;rintro e w3 ⟨rfl,F3,s3⟩;have T3:=hid (Td.out.trans s3);clear s3))
   all_goals (go_wp2_with fail;go_meet;exact⟨F3,T3⟩)
  obtain⟨F3,T3⟩:=hcut
  rename World=>w3
  clear T2;go_upto_region 4 with fail
  go_cut [28] (fun _ wx=>∃F',Hid (St I W F F' ((((Y++[Ev.t nm])++fB gs)++fB ws)++fB ks) wx))
  case first=>
   have y0:w3.cell? ⟨J,0,none⟩=some (.iface _ (.pointer (some ⟨g,0,none⟩))):=(HB.out _ _ _ T3.out).1.cell 0;have y1:w3.cell? ⟨J+1,3,none⟩=some (.slice kA ks.length kc):=(HB.out _ _ _ T3.out).2.cell 3;have Td:=hid (St.drew S0.out T3.out);have a7:w3.drew.cell? ⟨J,0,none⟩=some (.iface _ (.pointer (some ⟨g,0,none⟩))):=y0;have a4:w3.drew.cell? ⟨J+1,3,none⟩=some (.slice kA ks.length kc):=y1;have K:=hid (wU hT S0.out Td.out.i kA kc ks Hk.out (by simp only[aF,aG,aI];omega))
   go_region_with ((go_at_call 137;refine K.out.mono ?_;rintro e w4 ⟨rfl,F4,s4⟩;have T4:=hid (Td.out.trans s4);clear s4))
   all_goals (go_wp2_with fail;go_meet;exact⟨F4,T4⟩)
  obtain⟨F4,T4⟩:=hcut
  rename World=>w4
  clear T3;have y0:w4.cell? ⟨J,0,none⟩=some (.iface _ (.pointer (some ⟨g,0,none⟩))):=(HB.out _ _ _ T4.out).1.cell 0;have y1:w4.cell? ⟨J+1,4,none⟩=some (.slice oA os.length oc):=(HB.out _ _ _ T4.out).2.cell 4;have K:=hid (aHM hT S0.out T4.out.i oA oc os Ho.out J (HB.out _ _ _ T4.out).1 (HN.out _ _ _ T4.out) aa.out (by simp only[aF,aG,aI];omega));go_wp2_with fail;refine K.out.mono ?_;rintro e w5 ⟨rfl,F5,s5⟩;have T5:=hid (T4.out.trans s5);clear s5 y0 y1 K T4;have y0:w5.cell? ⟨J,0,none⟩=some (.iface _ (.pointer (some ⟨g,0,none⟩))):=(HB.out _ _ _ T5.out).1.cell 0;have y1:w5.cell? ⟨J+1,5,none⟩=some (.slice fA fs.length fc):=(HB.out _ _ _ T5.out).2.cell 5;have K:=hid (aJv hT S0.out T5.out.i fA fc fs Hf.out J (HB.out _ _ _ T5.out).1 (HN.out _ _ _ T5.out) (by simp only[aF,aG,aI];omega));go_wp2_with fail
  refine K.out.mono ?_;rintro e w6 ⟨rfl,F6,s6⟩;have T6:=hid (T5.out.trans s6);clear s6 y0 y1 K T5;have y0:w6.cell? ⟨J,0,none⟩=some (.iface _ (.pointer (some ⟨g,0,none⟩))):=(HB.out _ _ _ T6.out).1.cell 0;have y1:w6.cell? ⟨J+1,6,none⟩=some (.slice cA cs.length cc):=(HB.out _ _ _ T6.out).2.cell 6;have K:=hid (aIk hT S0.out T6.out.i cA cc cs Hc.out J (HB.out _ _ _ T6.out).1 (HN.out _ _ _ T6.out) ae.out (by simp only[aF,aG,aI];omega));go_wp2_with fail;refine K.out.mono ?_;rintro e w7 ⟨rfl,F7,s7⟩;have T7:=hid (T6.out.trans s7);clear s7 y0 y1 K T6;go_wp2_with fail;go_end0;exact⟨rfl,F7,a5.out _ _ _ T7.out⟩
end re
namespace re
open RowKit Shelf mem sy vx vr po inn
def RP(st:List UInt8×Int)(w:World)(e:Ending)(w':World):Prop:=e=.returned (.tuple #[.string (bs (qJ st)),.int .i64 st.2])∧Below w.heap.size w w'
theorem aA5(w:World)(pb:Nat)(pA:Option Addr)(pc:Nat)(m:List (List UInt8))(hp:Pl w pb pA pc m)(hs:m.Pairwise (fun a b=>a<b))(hm:m.length≤1000000)(u:MU)(hu:gH w u)(hl:(dF u.su).length≤MX) :
 Calls Tryz.prog 31 #[.pointer (some ⟨pb,0,none⟩),u.val] w (RP (fQ m (dF u.su)) w):=by
 have S:=aLb (w.heap.size+1) hp hs hm;obtain⟨W,a0⟩:∃W,Hid (W=(w.alloc (.cells u.row 29)).alloc (.cells #[.slice none 0 0,.int .i64 0,.pointer (some ⟨pb,0,none⟩),.int .i64 0] 127)):=⟨_,hid rfl⟩;have hz:(w.alloc (.cells u.row 29)).heap.size=w.heap.size+1:=bH _;have a3:Fr [] w W:=by rw[a0.out];exact((Fr.refl [] w).alloc _).alloc _
 have B0:bV W w.heap.size 29 u.row:=by rw[a0.out];exact(bV.new w _ _).kept ((Fr.refl [] _).alloc _) (by simp)
 have B1:bV W (w.heap.size+1) 127 #[.slice none 0 0,.int .i64 0,.pointer (some ⟨pb,0,none⟩),.int .i64 0]:=by
  rw[a0.out,←hz];exact bV.new _ _ _
 have h0:IW w (w.heap.size+1) pb m [w.heap.size+1] [] W:=⟨a3.all,fun x hx=>by rw[aD]at hx;omega,none,0,rfl,B1,Seg.nil _ _,by decide,by decide⟩;have KP:=hid (zY (.inl ⟨rfl,rfl,rfl⟩) S h0 u hu (by simpa using hl));rw[aX]at KP;have hlen:=nR m (dF u.su);obtain⟨Y,a1⟩:∃e,e=dF u.su:=⟨_,rfl⟩;rw[←a1]at KP hlen ⊢;have a2:Hid (∀F' w',St (IW w (w.heap.size+1) pb m) W [w.heap.size+1] F' Y w'→Below w.heap.size w w'):=hid (fun F' w' s=>S.be s.i);have hcell:Hid (∀F' w',St (IW w (w.heap.size+1) pb m) W [w.heap.size+1] F' Y w'→w'.cell? ⟨w.heap.size+1,3,none⟩=some (.int .i64 (fQ m Y).2)):=hid (fun F' w' s=>(WS.cells s.i).2.1)
 have J:Hid (∀F' w',St (IW w (w.heap.size+1) pb m) W [w.heap.size+1] F' Y w'→Calls Tryz.prog 35 #[.pointer (some ⟨w.heap.size+1,0,none⟩)] w' fun e a4=>e=.returned (.tuple #[.string (bs (fQ m Y).1),.int .i64 0])∧Below w'.heap.size w' a4):=hid (fun F' w' s=>by
  obtain⟨A,cap,_,hx⟩:=s.i.x
  exact aBM w' (w.heap.size+1) A cap ((fQ m Y).1,0) hx)
 have a6:Hid (u.val=.agg u.row):=hid rfl;have x0:W.cell? ⟨w.heap.size,0,none⟩=_:=B0.cell 0;have x1:W.cell? ⟨w.heap.size,1,none⟩=_:=B0.cell 1;have x2:W.cell? ⟨w.heap.size,2,none⟩=_:=B0.cell 2;have x3:W.cell? ⟨w.heap.size,3,none⟩=_:=B0.cell 3;have x4:W.cell? ⟨w.heap.size,4,none⟩=_:=B0.cell 4;have x5:W.cell? ⟨w.heap.size,5,none⟩=_:=B0.cell 5;have x6:W.cell? ⟨w.heap.size,6,none⟩=_:=B0.cell 6;clear S h0 hp hs hu hl B0 B1 a1 hlen a3;obtain⟨nm,gA,gc,gs,wA,wc,ws,kA,kc,ks,⟨oA,oc,os,fA,fc,fs,cA,cc,cs⟩⟩:=u;unfold MU.val MU.row at *;dsimp only at *;simp only[aL,aJ,aK]at x0 x1 x2 x3 x4 x5 x6;generalize fQ m Y=st at *;obtain⟨R,E⟩:=st;dsimp only at hcell J;go_enter Tryz.func31,Tryz.ntmps31;go_upto_region 2 with fail;rw[←a0.out]
 try rw[hz]
 clear hz;go_wp2_with fail;refine KP.out.mono ?_;rintro e w2 ⟨rfl,F2,s2⟩;have S2:=hid s2;have c3:=hcell.out _ _ s2;have K3:=hid (J.out _ _ s2);have hb:=hid (a2.out _ _ s2);clear s2 x0 x1 x2 x3 x4 x5 x6 KP hcell J a2;by_cases hE:E=0
 ·subst hE
  go_wp2_with fail;refine K3.out.mono ?_;rintro e w3 ⟨rfl,b3⟩;have h3:=hid (hb.out.trans (b3.mono hb.out.size));clear b3;go_wp2_with fail;refine bodyPost_ret (results_tmp2 rfl _ _ _) rfl ?_;exact⟨rfl,h3.out⟩
 ·have d0:(E != 0)=true:=by simpa using hE
  have a7:w2.drew.cell? ⟨w.heap.size+1,3,none⟩=some (.int .i64 E):=c3;have a5:=hid hb.out.drew;have hv:Hid (bs (qJ (R,E))=⟨#[]⟩):=hid (by unfold qJ;rw[if_pos hE];rfl);go_wp2_with fail;go_region
  all_goals go_wp2_with fail
  all_goals (refine bodyPost_ret (results_tmp2 rfl _ _ _) rfl ?_;exact⟨by rw[hv.out];rfl,a5.out⟩)
def TP(R:List (List UInt8))(w:World)(e:Ending)(w':World):Prop:=∃Y J,e=.returned (.slice Y R.length J)∧Rd w' Y (R.map encStr)∧Below w.heap.size w w'
theorem uU(l:List ByteArray):(l.map tx).map encStr=l.map Value.string:=by
 rw[List.map_map];rfl
theorem uZ(w:World)(u:MU)(hu:gH w u)(hl:(dF u.su).length≤1000000) :
 Calls Tryz.prog 27 #[u.val] w (TP (jG ((nS (dF u.su)).map tx)) w):=by
 have S:=aMi w (w.heap.size+1);obtain⟨W,J⟩:∃W,Hid (W=(w.alloc (.cells u.row 29)).alloc (.cells #[.slice none 0 0] 119)):=⟨_,hid rfl⟩;have hz:(w.alloc (.cells u.row 29)).heap.size=w.heap.size+1:=bH _;have a1:Fr [] w W:=by rw[J.out];exact((Fr.refl [] w).alloc _).alloc _
 have Y:bV W w.heap.size 29 u.row:=by rw[J.out];exact(bV.new w _ _).kept ((Fr.refl [] _).alloc _) (by simp)
 have B1:bV W (w.heap.size+1) 119 #[.slice none 0 0]:=by
  rw[J.out,←hz];exact bV.new _ _ _
 have h0:IT w (w.heap.size+1) [w.heap.size+1] [] W:=⟨a1.all,fun x hx=>by rw[aD]at hx;omega,none,0,rfl,B1,Seg.nil _ _⟩;have KP:=hid (zY (.inr ⟨rfl,rfl,rfl⟩) S h0 u hu (by unfold MX;simp;omega));rw[aX]at KP;have hlen:=vG (dF u.su);have a2:(nS (dF u.su)).length≤1000000:=by omega
 unfold gD at KP
 have hX:Hid (∀F' w',St (IT w (w.heap.size+1)) W [w.heap.size+1] F' (dF u.su) w'→∃A cap,w'.cell? ⟨w.heap.size+1,0,none⟩=some (.slice A ((nS (dF u.su)).map tx).length cap)∧Rd w' A (((nS (dF u.su)).map tx).map encStr)∧Below w.heap.size w w'):=hid (fun F' w' s=>by
  obtain⟨A,cap,_,hb,hs⟩:=s.i.x;refine⟨A,cap,?_,?_,S.be s.i⟩
  ·rw[aH];exact hb.cell 0
  ·rw[uU];exact hs.rd)
 have a3:((nS (dF u.su)).map tx).length≤1000000:=by rw[aH];exact a2
 generalize (nS (dF u.su)).map tx=L at *;generalize dF u.su=a4 at *;have x0:W.cell? ⟨w.heap.size,0,none⟩=_:=Y.cell 0;have x1:W.cell? ⟨w.heap.size,1,none⟩=_:=Y.cell 1;have x2:W.cell? ⟨w.heap.size,2,none⟩=_:=Y.cell 2;have x3:W.cell? ⟨w.heap.size,3,none⟩=_:=Y.cell 3;have x4:W.cell? ⟨w.heap.size,4,none⟩=_:=Y.cell 4;have x5:W.cell? ⟨w.heap.size,5,none⟩=_:=Y.cell 5;have x6:W.cell? ⟨w.heap.size,6,none⟩=_:=Y.cell 6;clear S h0 hu hl Y B1 hlen a1 a2;obtain⟨nm,gA,gc,gs,wA,wc,ws,kA,kc,ks,⟨oA,oc,os,fA,fc,fs,cA,cc,cs⟩⟩:=u;unfold MU.val MU.row at *;dsimp only at *;simp only[aL,aJ,aK]at x0 x1 x2 x3 x4 x5 x6;go_enter Tryz.func27,Tryz.ntmps27;go_upto_region 2 with fail;rw[←J.out]
 try rw[hz]
 clear hz;go_wp2_with fail;refine KP.out.mono ?_;rintro e w2 ⟨rfl,F2,s2⟩;obtain⟨A,cap,c3,r3,b3⟩:=hX.out _ _ s2;have K3:=hid (vX w2 A cap L r3 a3);have hb:=hid b3;clear s2 x0 x1 x2 x3 x4 x5 x6 KP hX r3 b3;unfold inn.gD at K3;go_wp2_with fail;refine K3.out.mono ?_;rintro e w3 ⟨A3,a0,rfl,b3,r3⟩;have h3:=hid (hb.out.trans (b3.mono hb.out.size));have R3:=hid r3;clear b3 r3;go_wp2_with fail;go_ret;exact⟨A3,a0,rfl,R3.out,h3.out⟩
end re
namespace re
open RowKit Go.Sort Shelf mem vr po inn
def aAR(w:World)(m:List (List UInt8))(e:Ending)(w':World):Prop:=∃b B cap,e=.returned (.pointer (some ⟨b,0,none⟩))∧Pl w' b B cap m∧Below w.heap.size w w'
theorem aL5{w J:World}{Y:List (List UInt8)}{B:Option Addr}{cap:Nat}(b1:Below w.heap.size w J)(r1:Rd J B ((jG Y).map encStr)):aAR w (jG Y) (.returned (.pointer (some ⟨J.heap.size,0,none⟩))) (J.alloc (.cells #[.slice B (jG Y).length cap] 124)):=
 ⟨_,B,cap,rfl,⟨bV.new J _ _,r1.alloc _⟩,b1.alloc b1.size _⟩
theorem aJo(w:World)(A:Option Addr)(c:Nat)(J:List (List UInt8))(h:Rd w A (J.map encStr))(hm:J.length≤1000000) :
 Calls Tryz.prog 30 #[.slice A J.length c] w (aAR w (jG J)):=by
 have K:=hid (inn.vX w A c J h hm);have E:=hid (fun(w1:World) B cap (Y:Below w.heap.size w w1) (r1:Rd w1 B ((jG J).map encStr))=>aL5 (cap:=cap) Y r1);clear h;go_enter Tryz.func30,Tryz.ntmps30;go_wp2_with fail;refine K.out.mono ?_;rintro e w1 ⟨B,cap,rfl,Y,r1⟩;have E1:=hid (E.out w1 B cap Y r1);clear K Y r1 E;go_wp2_with fail;go_ret;exact E1.out
end re
end Go.Proofs.YtdmmkjijgoiecaaGreatDoor
