import Derived.Test.YtlkboeajkgbnaaaGreatDoorC31
set_option linter.all false
set_option maxHeartbeats 4000000
namespace Go.Proofs.YtlkboeajkgbnaaaGreatDoor
open Lib(hid)
set_option maxRecDepth 100000
set_option maxHeartbeats 16000000
namespace ym
open RowKit mem sy
open re (tx SU MU SumM)
open sf (map_tx enc_tx)
open inn (rsS)
theorem symbol_any(hf:HeldF)(hm:HeldM)(w:World)(nm:ByteArray)(A:Option Addr)(c:Nat)(l:List MUs)(h:UsL w A l)(hlm:l.length≤900000)(hl0:0<l.length) :
 Calls Tryz.prog 16 #[.string nm,.slice A l.length c] w (SymQ w nm (psT l l.length)):=by
 obtain⟨W,hWe⟩:∃W,Hid (W=((w.alloc (.cells #[.string ⟨#[]⟩,.string ⟨#[]⟩,.slice none 0 0] 33)).alloc (.cells #[.string nm,.string ⟨#[]⟩,.slice none 0 0] 33)).alloc (.cells #[.bool false,.bool false,.bool false] 90)):=⟨_,hid rfl⟩;have hz1:(w.alloc (.cells #[.string ⟨#[]⟩,.string ⟨#[]⟩,.slice none 0 0] 33)).heap.size=w.heap.size+1:=Array.size_push _;have hz2:((w.alloc (.cells #[.string ⟨#[]⟩,.string ⟨#[]⟩,.slice none 0 0] 33)).alloc (.cells #[.string nm,.string ⟨#[]⟩,.slice none 0 0] 33)).heap.size=w.heap.size+2:=by rw[World.size_alloc,hz1]
 have S00:=sy_new w nm;rw[←hWe.out]at S00;have S0:=hid S00;have HU:=hid (fun(w2:World) (b:Below w.heap.size w w2)=>h.below b);have HF:=hid hf;have HM:=hid hm;obtain⟨P,hP⟩:∃P,Hid (P=psT l):=⟨_,hid rfl⟩;have hP0:Hid (P 0=⟨⟨#[]⟩,[],false,false⟩):=hid (by rw[hP.out];rfl);rw[←hP.out];obtain⟨n,hN⟩:∃n,Hid (n=l.length):=⟨_,hid rfl⟩
 have hPs:Hid (∀k (hk:k<l.length),P (k+1)=psStep n l[0].u (P k) l[k].u):=hid (fun k hk=>by
  rw[hN.out,hP.out,psT_succ l hk];cases l with
  | nil=>cases hk
  | cons a t=>rfl)
 rw[←hN.out]at hlm hl0 ⊢;obtain⟨Q,hQ⟩:∃Q:Ending→World→Prop,Hid (Q=SymQ w nm (P n)):=⟨_,hid rfl⟩;rw[←hQ.out];obtain⟨i0,hi0,hy0,hy1,hy2⟩:=info_parts inn.info_str;have Hi:=hid hi0;have Hz0:=hid hy0;have Hz1:=hid hy1;have Hz2:=hid hy2;clear hi0 hy0 hy1 hy2 S00 h hf hm hP;go_enter Tryz.func16,Tryz.ntmps16;go_upto_region 3 with fail;rw[←hWe.out]
 try rw[hz2]
 try rw[hz1]
 try simp only[show w.heap.size+1+1=w.heap.size+2 from rfl]
 clear hWe hz1 hz2;go_wp2_with fail;go_loopw [9,16] (fun _ i wr=>∃(k:Nat) (B:Option Addr) (cap:Nat) (giver:ByteArray) (wants:List ByteArray) (e0 e1:Bool),k≤n∧wants.length≤k∧i=.int .i64 k∧Hid (P k=⟨giver,wants,e0,e1⟩)∧Hid (SY w nm giver B cap wants e0 e1 wr)) (fun _ i _=>n-(intOf i).toNat)
 case atStart=>exact⟨0,none,0,⟨#[]⟩,[],false,false,by omega,by simp,rfl,hP0,S0⟩
 case round=>
  obtain⟨k,B,cap,giver,wants,e0,e1,hk,hwk,rfl,hPk,hS⟩:=hrel
  rename World=>wr
  clear S0 hP0;by_cases hkl:k<n
  ·have d1:decide ((k:Int)<(n:Int))=true:=decide_eq_true (by omega)
   have hkx:k<l.length:=by rw[←hN.out];exact hkl
   have h0x:0<l.length:=by omega
   obtain⟨g,off,rfl,hg,hc⟩:=(HU.out wr hS.out.on).at_ hkx
   have HL0:Hid (∀w2,Below w.heap.size w w2→∀i v,l[0].row[i]? = some v→w2.cell? ⟨g,off+i,none⟩=some v):=hid (fun w2 b i v hv=>by
    obtain⟨g',off',e,_,hc'⟩:=(HU.out w2 b).at_ h0x;cases e;have:=hc' i v hv
    rwa[Nat.zero_mul,Nat.add_zero]at this)
   have hok:Hid (∀w2,Below w.heap.size w w2→UOk w2 l[k]):=hid (fun w2 b=>(HU.out w2 b).ok _ (List.getElem_mem hkx));have hok0:Hid (∀w2,Below w.heap.size w w2→UOk w2 l[0]):=hid (fun w2 b=>(HU.out w2 b).ok _ (List.getElem_mem h0x));have hst:=hPs.out k hkx;rw[hPk.out]at hst;replace hst:=hid hst;generalize l[k] = x at *;generalize l[0] = x0 at *;clear hkx h0x hPk;have HLK:Hid (∀w2,Below w.heap.size w w2→Calls Tryz.prog 44 #[x0.val,x.val] w2 (BPost (like x0.u x.u) w2)):=hid (fun w2 b=>like_any HF.out HM.out w2 x0 x (hok0.out w2 b) (hok.out w2 b));have HAL:Hid (∀w2,Calls Tryz.prog 43 #[x.val] w2 (BPost x.u.alone w2)):=hid (fun w2=>alone_any w2 x);clear hok hok0;unfold psStep at hst;generalize like x0.u x.u=lk at *;generalize x.u.alone=al at *;obtain⟨⟨um,ug,uw,⟨on,okd,oms⟩,⟨fnm,fk,fr⟩⟩,uA,uc⟩:=x;unfold MUs.val at HLK HAL;unfold MUs.row at hc;unfold BPost at HLK HAL;dsimp only at *;generalize oms.length=ml at *
   have c0:wr.cell? ⟨g,off+k * 9,none⟩=some (.string um):=hc 0 _ rfl;have c1:wr.cell? ⟨g,off+k * 9+1,none⟩=some (.bool ug):=hc 1 _ rfl;have c2:wr.cell? ⟨g,off+k * 9+2,none⟩=some (.bool uw):=hc 2 _ rfl;have c3:wr.cell? ⟨g,off+k * 9+3,none⟩=some (.string on):=hc 3 _ rfl;have c4:wr.cell? ⟨g,off+k * 9+4,none⟩=some (.string okd):=hc 4 _ rfl;have c5:wr.cell? ⟨g,off+k * 9+5,none⟩=some (.slice uA ml uc):=hc 5 _ rfl;have c6:wr.cell? ⟨g,off+k * 9+6,none⟩=some (.string fnm):=hc 6 _ rfl;have c7:wr.cell? ⟨g,off+k * 9+7,none⟩=some (.string fk):=hc 7 _ rfl;have c8:wr.cell? ⟨g,off+k * 9+8,none⟩=some (.string fr):=hc 8 _ rfl;clear hc;have hu2:w.heap.size+2<wr.heap.size:=hS.out.b2.lt;obtain⟨w1,hw1⟩:∃w1,Hid (w1=wr.alloc (.cells #[.string um,.bool ug,.bool uw,.string on,.string okd,.slice uA ml uc,.string fnm,.string fk,.string fr] 83)):=⟨_,hid rfl⟩;have BU:Box w1 wr.heap.size 83 #[.string um,.bool ug,.bool uw,.string on,.string okd,.slice uA ml uc,.string fnm,.string fk,.string fr]:=by rw[hw1.out];exact Box.new wr _ _
   have HS1:Hid (SY w nm giver B cap wants e0 e1 w1):=by rw[hw1.out];exact hid (hS.out.below ((Fr.refl [] wr).alloc _).all)
   have HBU:=hid BU;go_upto_region 6 with fail;rw[←hw1.out];clear hw1 c0 c1 c2 c3 c4 c5 c6 c7 c8 hg hS;generalize wr.heap.size=gu at *;have y1:w1.cell? ⟨gu,1,none⟩=some (.bool ug):=BU.cell 1;clear BU
   go_upto_if 21 with fail
   clear y1
   go_cut [16] from 17 to 65 (fun i wx=>i=.int .i64 (k:Int)∧Hid (SY w nm (if ug then um else giver) B cap wants (e0||(ug&&decide (giver.size≠0))) e1 wx)∧Hid (Box wx gu 83 #[.string um,.bool ug,.bool uw,.string on,.string okd,.slice uA ml uc,.string fnm,.string fk,.string fr]))
   case first=>
    clear HLK HAL HL0 hst HU hPs;have y0:w1.cell? ⟨gu,0,none⟩=some (.string um):=HBU.out.cell 0;have s0:w1.cell? ⟨w.heap.size+2,0,none⟩=some (.bool e0):=HS1.out.b2.cell 0;have s1:w1.cell? ⟨w.heap.size+1,1,none⟩=some (.string giver):=HS1.out.b1.cell 1;have v0:=HS1.out.b2.free 0;have l0:=HS1.out.b2.lt;rcases ug with _ | _
    ·go_wp2_with fail
     go_meet
     exact⟨rfl,by simpa using HS1,HBU⟩
    ·have HQ:Hid (∀q,SY w nm giver B cap wants q e1 (w1.setCell ⟨w.heap.size+2,0,none⟩ (.bool q))∧Box (w1.setCell ⟨w.heap.size+2,0,none⟩ (.bool q)) gu 83 #[.string um,.bool true,.bool uw,.string on,.string okd,.slice uA ml uc,.string fnm,.string fk,.string fr]):=hid (fun q=>⟨HS1.out.set0 q,HBU.out.kept ((Fr.refl [w.heap.size+2] w1).setCell (Or.inl (by simp)) _) (by simp;omega)⟩)
     obtain⟨z,hz⟩:∃z,Hid (z=decide (giver.size≠0)):=⟨_,hid rfl⟩;have d2:giver.toList.isEmpty=!z:=by rw[hz.out,emp_isE];simp
     rcases e0 with _ | _;rotate_left
     ·go_upto_region 8 with fail
      obtain⟨k1,k2⟩:=HQ.out true;generalize w1.setCell ⟨w.heap.size+2,0,none⟩ (.bool true)=w2 at *;have y0:w2.cell? ⟨gu,0,none⟩=some (.string um):=k2.cell 0;have s1:w2.cell? ⟨w.heap.size+1,1,none⟩=some (.string giver):=k1.b1.cell 1;have v1:=k1.b1.free 1;have l1:=k1.b1.lt;have hG:=hid (k1.setG um);have hB:=hid (k2.kept ((Fr.refl [w.heap.size+1] w2).setCell (p:=⟨w.heap.size+1,1,none⟩) (Or.inl (by simp)) (.string um)) (by simp;omega));clear k1 k2 HQ d2;go_wp2_with fail
      go_meet
      exact⟨rfl,by simpa using hG,hB⟩
     ·rcases z with _ | _
      all_goals
       go_upto_region 8 with fail
      ·obtain⟨k1,k2⟩:=HQ.out false
       generalize w1.setCell ⟨w.heap.size+2,0,none⟩ (.bool false)=w2 at *;have y0:w2.cell? ⟨gu,0,none⟩=some (.string um):=k2.cell 0;have s1:w2.cell? ⟨w.heap.size+1,1,none⟩=some (.string giver):=k1.b1.cell 1;have v1:=k1.b1.free 1;have l1:=k1.b1.lt;have hG:=hid (k1.setG um);have hB:=hid (k2.kept ((Fr.refl [w.heap.size+1] w2).setCell (p:=⟨w.heap.size+1,1,none⟩) (Or.inl (by simp)) (.string um)) (by simp;omega));clear k1 k2 HQ d2;go_wp2_with fail
       go_meet
       exact⟨rfl,by rw[←hz.out];exact hG,hB⟩
      ·obtain⟨k1,k2⟩:=HQ.out true
       generalize w1.setCell ⟨w.heap.size+2,0,none⟩ (.bool true)=w2 at *;have y0:w2.cell? ⟨gu,0,none⟩=some (.string um):=k2.cell 0;have s1:w2.cell? ⟨w.heap.size+1,1,none⟩=some (.string giver):=k1.b1.cell 1;have v1:=k1.b1.free 1;have l1:=k1.b1.lt;have hG:=hid (k1.setG um);have hB:=hid (k2.kept ((Fr.refl [w.heap.size+1] w2).setCell (p:=⟨w.heap.size+1,1,none⟩) (Or.inl (by simp)) (.string um)) (by simp;omega));clear k1 k2 HQ d2;go_wp2_with fail
       go_meet
       exact⟨rfl,by rw[←hz.out];exact hG,hB⟩
   case rest=>
    obtain⟨rfl,HS2,HB2⟩:=hcut;clear HS1 HBU
    rename World=>w2
    obtain⟨giver2,hg2⟩:∃y,Hid (y=if ug then um else giver):=⟨_,hid rfl⟩;obtain⟨e02,he2⟩:∃y,Hid (y=(e0||(ug&&decide (giver.size≠0)))):=⟨_,hid rfl⟩;rw[←hg2.out,←he2.out]at HS2 hst;clear hg2 he2;have y2:w2.cell? ⟨gu,2,none⟩=some (.bool uw):=HB2.out.cell 2
    go_upto_if 34 with fail
    clear y2
    go_cut [16] from 17 to 65 (fun i wx=>i=.int .i64 (k:Int)∧∃(C:Option Addr) (cap2:Nat),Hid (SY w nm giver2 C cap2 (if uw then wants++[um] else wants) e02 e1 wx)∧Hid (Box wx gu 83 #[.string um,.bool ug,.bool uw,.string on,.string okd,.slice uA ml uc,.string fnm,.string fk,.string fr]))
    case first=>
     clear HLK HAL HL0 hst HU hPs;have y0:w2.cell? ⟨gu,0,none⟩=some (.string um):=HB2.out.cell 0;rcases uw with _ | _
     ·go_wp2_with fail
      go_meet
      exact⟨rfl,B,cap,by simpa using HS2,HB2⟩
     ·have s2:w2.cell? ⟨w.heap.size+1,2,none⟩=some (.slice B wants.length cap):=HS2.out.b1.cell 2
      obtain⟨nw,hnw⟩:∃nw,Hid (nw=wants.length):=⟨_,hid rfl⟩;rw[←hnw.out]at s2 hwk;have hgB:Hid (gu∉blk B):=hid (HS2.out.sg.ne_box HB2.out (by decide))
      go_wp2_with (at_builtin
                   refine wpList_push (n:=nw) rfl _ _ _ rfl (HS2.out.sg.alloc _) (by rw[List.length_map];exact hnw.out) Tryz.underlying31 Hi.out Hz0.out Hz1.out Hz2.out rfl rfl rfl (new_cell _ _ _) rfl (by omega) (by omega) ?_;intro A3 cap3 w3 hs3 f3 hf3;obtain⟨⟨k1,k2,k3⟩,k4,k5⟩:=HS2.out.push hnw.out hs3 f3 hf3;have hG:=hid k4;have hB:=hid (show Box _ gu 83 #[.string um,.bool ug,.bool true,.string on,.string okd,.slice uA ml uc,.string fnm,.string fk,.string fr] from(k5 gu HB2.out.lt hgB.out (by omega)).trans HB2.out)
                   clear k4 k5 hs3 f3 hf3)
      go_meet
      exact⟨rfl,A3,cap3,by simpa using hG,hB⟩
    case rest=>
     obtain⟨rfl,C,cap2,HS3,HB3⟩:=hcut;clear HS2 HB2
     rename World=>w3
     obtain⟨wants2,hg2⟩:∃y,Hid (y=if uw then wants++[um] else wants):=⟨_,hid rfl⟩;have hst3:Hid (P (k+1)=⟨giver2,wants2,e02||(decide (1<n)&&al),e1||!lk⟩):=hid (by rw[hst.out,hg2.out]);have hwk2:wants2.length≤k+1:=by
      rw[hg2.out];split
      ·simp only[List.length_append,List.length_singleton];omega
      ·omega
     rw[←hg2.out]at HS3;clear hg2 hst;go_upto_region 11 with fail
     go_cut [16] from 17 to 65 (fun i wx=>i=.int .i64 (k:Int)∧Hid (SY w nm giver2 C cap2 wants2 (e02||(decide (1<n)&&al)) e1 wx)∧Hid (Box wx gu 83 #[.string um,.bool ug,.bool uw,.string on,.string okd,.slice uA ml uc,.string fnm,.string fk,.string fr]))
     case first=>
      clear HLK HL0 hst3 HU hPs;have s0:w3.cell? ⟨w.heap.size+2,0,none⟩=some (.bool e02):=HS3.out.b2.cell 0;have v0:=HS3.out.b2.free 0;have l0:=HS3.out.b2.lt
      have HQ:Hid (∀w4,Below w3.heap.size w3 w4→(w4.cell? ⟨w.heap.size+2,0,none⟩=some (.bool e02)∧w4.frozen? ⟨w.heap.size+2,0,none⟩=false∧w.heap.size+2<w4.heap.size)∧∀q,Hid (SY w nm giver2 C cap2 wants2 q e1 (w4.setCell ⟨w.heap.size+2,0,none⟩ (.bool q)))∧Hid (Box (w4.setCell ⟨w.heap.size+2,0,none⟩ (.bool q)) gu 83 #[.string um,.bool ug,.bool uw,.string on,.string okd,.slice uA ml uc,.string fnm,.string fk,.string fr])):=hid (fun w4 b=>by
       have z:=HS3.out.below b
       exact⟨⟨z.b2.cell 0,z.b2.free 0,z.b2.lt⟩,fun q=>⟨hid (z.set0 q),hid ((HB3.out.kept (Fr.of_below b []) (by simp)).kept ((Fr.refl [w.heap.size+2] w4).setCell (p:=⟨w.heap.size+2,0,none⟩) (Or.inl (by simp)) (.bool q)) (by simp;omega))⟩⟩)
      obtain⟨_,hq3⟩:=HQ.out w3 (Below.refl _ _);rcases e02 with _ | _;rotate_left
      ·obtain⟨t1,t2⟩:=hq3 true
       clear hq3 HQ HAL;go_wp2_with fail
       go_meet
       exact⟨rfl,by simpa using t1,t2⟩
      ·by_cases hn1:1<n
       rotate_left
       ·have g1:decide ((1:Int)<(n:Int))=false:=decide_eq_false (by omega)
        have g2:decide (1<n)=false:=decide_eq_false hn1;obtain⟨t1,t2⟩:=hq3 false;clear hq3 HQ HAL;go_wp2_with fail
        go_meet
        exact⟨rfl,by simpa[g2] using t1,t2⟩
       ·have g1:decide ((1:Int)<(n:Int))=true:=decide_eq_true (by omega)
        have g2:decide (1<n)=true:=decide_eq_true hn1;have g3:=hid g2;clear hq3 s0 v0 l0;have K:=hid (HAL.out w3);have s0:w3.cell? ⟨w.heap.size+2,0,none⟩=some (.bool false):=HS3.out.b2.cell 0;have y0:w3.cell? ⟨gu,0,none⟩=some (.string um):=HB3.out.cell 0;have y1:w3.cell? ⟨gu,1,none⟩=some (.bool ug):=HB3.out.cell 1;have y2:w3.cell? ⟨gu,2,none⟩=some (.bool uw):=HB3.out.cell 2;have y3:w3.cell? ⟨gu,3,none⟩=some (.string on):=HB3.out.cell 3;have y4:w3.cell? ⟨gu,4,none⟩=some (.string okd):=HB3.out.cell 4;have y5:w3.cell? ⟨gu,5,none⟩=some (.slice uA ml uc):=HB3.out.cell 5;have y6:w3.cell? ⟨gu,6,none⟩=some (.string fnm):=HB3.out.cell 6;have y7:w3.cell? ⟨gu,7,none⟩=some (.string fk):=HB3.out.cell 7;have y8:w3.cell? ⟨gu,8,none⟩=some (.string fr):=HB3.out.cell 8;clear HAL;go_wp2_with fail;refine K.out.mono ?_;rintro e w4 ⟨rfl,b4⟩;obtain⟨⟨s0,v0,l0⟩,hq4⟩:=HQ.out w4 b4;obtain⟨t1,t2⟩:=hq4 al;clear K HQ hq4 b4 y0 y1 y2 y3 y4 y5 y6 y7 y8
        rcases al with _ | _
        all_goals
         go_wp2_with fail
         go_meet
         exact⟨rfl,by simpa[g3.out] using t1,t2⟩
     case rest=>
      obtain⟨rfl,HS4,HB4⟩:=hcut;clear HS3 HB3 HAL
      rename World=>w4
      obtain⟨e04,hg2⟩:∃y,Hid (y=(e02||(decide (1<n)&&al))):=⟨_,hid rfl⟩;rw[←hg2.out]at HS4 hst3;clear hg2;go_upto_region 12 with fail;obtain⟨⟨xm,xg,xw,⟨yon,yok,yms⟩,⟨yfn,yfk,yfr⟩⟩,xA,xc⟩:=x0;unfold MUs.row at HL0;dsimp only at HL0 HLK;generalize yms.length=yl at *;have hS5:Hid (SY w nm giver2 C cap2 wants2 e04 e1 w4.drew):=hid (HS4.out.below ((Fr.refl [] w4).drew.all));have hB5:Hid (Box w4.drew gu 83 #[.string um,.bool ug,.bool uw,.string on,.string okd,.slice uA ml uc,.string fnm,.string fk,.string fr]):=hid HB4.out;obtain⟨S,hSd⟩:∃S:World→Prop,Hid (∀W',S W'↔((∀(i:Nat) (v:Value),([.string xm,.bool xg,.bool xw,.string yon,.string yok,.slice xA yl xc,.string yfn,.string yfk,.string yfr]:List Value)[i]? = some v→W'.cell? ⟨g,off+i,none⟩=some v)∧Box W' gu 83 #[.string um,.bool ug,.bool uw,.string on,.string okd,.slice uA ml uc,.string fnm,.string fk,.string fr])):=⟨_,hid fun _=>Iff.rfl⟩;have keepS:Hid (∀W',Below w.heap.size w W'→Box W' gu 83 #[.string um,.bool ug,.bool uw,.string on,.string okd,.slice uA ml uc,.string fnm,.string fk,.string fr]→S W'):=hid (fun W' b hb=>(hSd.out _).2 ⟨HL0.out W' b,hb⟩)
      have hS1:S w4.drew:=keepS.out _ hS5.out.on hB5.out
      have HT:Hid (∀w5,Below w4.drew.heap.size w4.drew w5→(w5.cell? ⟨w.heap.size+2,1,none⟩=some (.bool e1)∧w5.frozen? ⟨w.heap.size+2,1,none⟩=false∧w.heap.size+2<w5.heap.size)∧S w5∧Below w.heap.size w w5∧∀q,S (w5.setCell ⟨w.heap.size+2,1,none⟩ (.bool q))∧Hid (SY w nm giver2 C cap2 wants2 e04 q (w5.setCell ⟨w.heap.size+2,1,none⟩ (.bool q)))):=hid (fun w5 b=>by
       have z:=hS5.out.below b;have zb:=hB5.out.kept (Fr.of_below b []) (by simp)
       refine⟨⟨z.b2.cell 1,z.b2.free 1,z.b2.lt⟩,keepS.out _ z.on zb,z.on,fun q=>⟨keepS.out _ (z.set1 q).on (zb.kept ((Fr.refl [w.heap.size+2] w5).setCell (p:=⟨w.heap.size+2,1,none⟩) (Or.inl (by simp)) (.bool q)) (by simp;omega)),hid (z.set1 q)⟩⟩)
      clear HS4 HB4 hB5 HL0 keepS hS5 HU hPs;rcases e1 with _ | _
      all_goals
       refine rng.wp_normal ?_;refine wp_region_held_drew (S:=S) (by kernel_rfl) hS1 (fun _=>?_);generalize hwz:w4.drew=wz at *;clear hwz
      ·refine wpAnyH_take (i:=0) (v:=.pointer (some ⟨w.heap.size+2,1,none⟩)) rfl (by kernel_rfl) (by kernel_rfl) (by kernel_rfl) (fun _ _ _ h=>absurd h.1 (by simp)) (Or.inl ⟨by kernel_rfl,?_⟩) hS1 ?_
       ·intro W' hSw
        obtain⟨s0,s2⟩:=(hSd.out _).1 hSw;go_simp
       try change wpAnyH _ _ _ _ _ _ _ (Act.put _ (some 54) _) _
       try simp only[Act.put,List.setIfInBounds_toArray,List.set_cons_zero,List.set_cons_succ]
       refine wpAnyH_ready (rs:=[1]) (by kernel_rfl) (by simp) ?_;refine AllReadyH.cons rfl (fun K hK=>?_) AllReadyH.nil;obtain⟨⟨k1,k2,k3⟩,_,_,_⟩:=HT.out wz (Below.refl _ _);go_simp;refine hK.out _ _ hS1 (fun _=>?_);clear hK k1 k2 k3
       try simp only[Act.put,List.setIfInBounds_toArray,List.set_cons_zero,List.set_cons_succ]
       refine wpAnyH_take (i:=2) (v:=.bool false) rfl (by kernel_rfl) (by kernel_rfl) (by kernel_rfl) (fun _ _ _ h=>absurd h.1 (by simp)) (Or.inl ⟨by kernel_rfl,?_⟩) hS1 ?_
       ·intro W' hSw
        obtain⟨s0,s2⟩:=(hSd.out _).1 hSw;go_simp
       try change wpAnyH _ _ _ _ _ _ _ (Act.put _ (some 56) _) _
       try simp only[Act.put,List.setIfInBounds_toArray,List.set_cons_zero,List.set_cons_succ]
       refine wpAnyH_take (i:=3) (v:=.slice (some ⟨g,off,none⟩) n c) rfl (by kernel_rfl) (by kernel_rfl) (by kernel_rfl) (fun _ _ _ h=>absurd h.1 (by simp)) (Or.inl ⟨by kernel_rfl,?_⟩) hS1 ?_
       ·intro W' hSw
        obtain⟨s0,s2⟩:=(hSd.out _).1 hSw;go_simp
       try change wpAnyH _ _ _ _ _ _ _ (Act.put _ (some 57) _) _
       try simp only[Act.put,List.setIfInBounds_toArray,List.set_cons_zero,List.set_cons_succ]
       refine wpAnyH_take (i:=4) (v:=.pointer (some ⟨g,off,none⟩)) rfl (by kernel_rfl) (by kernel_rfl) (by kernel_rfl) (fun _ _ _ h=>absurd h.1 (by simp)) (Or.inl ⟨by kernel_rfl,?_⟩) hS1 ?_
       ·intro W' hSw
        obtain⟨s0,s2⟩:=(hSd.out _).1 hSw;go_simp
        try (intro hh;omega)
       try change wpAnyH _ _ _ _ _ _ _ (Act.put _ (some 58) _) _
       try simp only[Act.put,List.setIfInBounds_toArray,List.set_cons_zero,List.set_cons_succ]
       refine wpAnyH_take (i:=5) (v:=.agg #[.string xm,.bool xg,.bool xw,.string yon,.string yok,.slice xA yl xc,.string yfn,.string yfk,.string yfr]) rfl (by kernel_rfl) (by kernel_rfl) (by kernel_rfl) (fun _ _ _ h=>absurd h.1 (by simp)) (Or.inl ⟨by kernel_rfl,?_⟩) hS1 ?_
       ·intro W' hSw
        obtain⟨s0,s2⟩:=(hSd.out _).1 hSw;have q0:=s0 0 _ rfl;have q1:=s0 1 _ rfl;have q2:=s0 2 _ rfl;have q3:=s0 3 _ rfl;have q4:=s0 4 _ rfl;have q5:=s0 5 _ rfl;have q6:=s0 6 _ rfl;have q7:=s0 7 _ rfl;have q8:=s0 8 _ rfl;simp only[Nat.add_zero]at q0;go_simp
       try change wpAnyH _ _ _ _ _ _ _ (Act.put _ (some 59) _) _
       try simp only[Act.put,List.setIfInBounds_toArray,List.set_cons_zero,List.set_cons_succ]
       refine wpAnyH_take (i:=6) (v:=.agg #[.string um,.bool ug,.bool uw,.string on,.string okd,.slice uA ml uc,.string fnm,.string fk,.string fr]) rfl (by kernel_rfl) (by kernel_rfl) (by kernel_rfl) (fun _ _ _ h=>absurd h.1 (by simp)) (Or.inl ⟨by kernel_rfl,?_⟩) hS1 ?_
       ·intro W' hSw
        obtain⟨s0,s2⟩:=(hSd.out _).1 hSw;have q0:=s2.cell 0;have q1:=s2.cell 1;have q2:=s2.cell 2;have q3:=s2.cell 3;have q4:=s2.cell 4;have q5:=s2.cell 5;have q6:=s2.cell 6;have q7:=s2.cell 7;have q8:=s2.cell 8;simp only[List.getElem?_toArray,List.getElem?_cons_zero,List.getElem?_cons_succ]at q0 q1 q2 q3 q4 q5 q6 q7 q8;go_simp
       try change wpAnyH _ _ _ _ _ _ _ (Act.put _ (some 60) _) _
       try simp only[Act.put,List.setIfInBounds_toArray,List.set_cons_zero,List.set_cons_succ]
       refine wpAnyH_ready (rs:=[7]) (by kernel_rfl) (by simp) ?_;refine AllReadyH.cons rfl (fun K hK=>?_) AllReadyH.nil;have KL:=HLK.out wz (HT.out wz (Below.refl _ _)).2.2.1;go_simp;refine KL.mono ?_;rintro e w5 ⟨rfl,b5⟩;have T5:=hid (HT.out w5 b5);have hS2:=T5.out.2.1;refine hK.out _ _ hS2 (fun _=>?_);clear hK KL b5
       try simp only[Act.put,List.setIfInBounds_toArray,List.set_cons_zero,List.set_cons_succ]
       refine wpAnyH_take (i:=8) (v:=.bool (!lk)) rfl (by kernel_rfl) (by kernel_rfl) (by kernel_rfl) (fun _ _ _ h=>absurd h.1 (by simp)) (Or.inl ⟨by kernel_rfl,?_⟩) hS2 ?_
       ·intro W' hSw
        obtain⟨s0,s2⟩:=(hSd.out _).1 hSw;go_simp
       try change wpAnyH _ _ _ _ _ _ _ (Act.put _ (some 62) _) _
       try simp only[Act.put,List.setIfInBounds_toArray,List.set_cons_zero,List.set_cons_succ]
       refine wpAnyH_take (i:=9) (v:=.bool !lk) rfl (by kernel_rfl) (by kernel_rfl) (by kernel_rfl) (fun _ _ _ h=>absurd h.1 (by simp)) (Or.inl ⟨by kernel_rfl,?_⟩) hS2 ?_
       ·intro W' hSw
        obtain⟨s0,s2⟩:=(hSd.out _).1 hSw;go_simp
       try change wpAnyH _ _ _ _ _ _ _ (Act.put _ (some 63) _) _
       try simp only[Act.put,List.setIfInBounds_toArray,List.set_cons_zero,List.set_cons_succ]
       refine wpAnyH_take (i:=10) (v:=.pointer (some ⟨w.heap.size+2,1,none⟩)) rfl (by kernel_rfl) (by kernel_rfl) (by kernel_rfl) (fun _ _ _ h=>absurd h.1 (by simp)) (Or.inl ⟨by kernel_rfl,?_⟩) hS2 ?_
       ·intro W' hSw
        obtain⟨s0,s2⟩:=(hSd.out _).1 hSw;go_simp
       try change wpAnyH _ _ _ _ _ _ _ (Act.put _ (some 64) _) _
       try simp only[Act.put,List.setIfInBounds_toArray,List.set_cons_zero,List.set_cons_succ]
       refine wpAnyH_ready (rs:=[11]) (by kernel_rfl) (by simp) ?_;refine AllReadyH.cons rfl (fun K hK=>?_) AllReadyH.nil;obtain⟨⟨k1,k2,k3⟩,_,_,kq⟩:=T5.out;obtain⟨q1,q2⟩:=kq (!lk);clear kq;go_simp;refine hK.out _ _ q1 (fun _=>?_);clear hK k1 k2 k3 q1 hS1
       try simp only[Act.put,List.setIfInBounds_toArray,List.set_cons_zero,List.set_cons_succ]
       refine wpAnyH_done (by kernel_rfl) ?_ _;refine⟨rfl,?_⟩;clear HT hSd HLK;go_wp2_with fail;go_roundw
       case rel=>exact⟨k+1,C,cap2,giver2,wants2,e04,!lk,by omega,hwk2,by go_num,by simpa using hst3,q2⟩
       case measure=>simp[intOf];omega
      ·refine wpAnyH_take (i:=0) (v:=.pointer (some ⟨w.heap.size+2,1,none⟩)) rfl (by kernel_rfl) (by kernel_rfl) (by kernel_rfl) (fun _ _ _ h=>absurd h.1 (by simp)) (Or.inl ⟨by kernel_rfl,?_⟩) hS1 ?_
       ·intro W' hSw
        obtain⟨s0,s2⟩:=(hSd.out _).1 hSw;go_simp
       try change wpAnyH _ _ _ _ _ _ _ (Act.put _ (some 54) _) _
       try simp only[Act.put,List.setIfInBounds_toArray,List.set_cons_zero,List.set_cons_succ]
       refine wpAnyH_ready (rs:=[1]) (by kernel_rfl) (by simp) ?_;refine AllReadyH.cons rfl (fun K hK=>?_) AllReadyH.nil;obtain⟨⟨k1,k2,k3⟩,_,_,_⟩:=HT.out wz (Below.refl _ _);go_simp;refine hK.out _ _ hS1 (fun _=>?_);clear hK k1 k2 k3
       try simp only[Act.put,List.setIfInBounds_toArray,List.set_cons_zero,List.set_cons_succ]
       refine wpAnyH_take (i:=2) (v:=.bool true) rfl (by kernel_rfl) (by kernel_rfl) (by kernel_rfl) (fun _ _ _ h=>absurd h.1 (by simp)) (Or.inl ⟨by kernel_rfl,?_⟩) hS1 ?_
       ·intro W' hSw
        obtain⟨s0,s2⟩:=(hSd.out _).1 hSw;go_simp
       try change wpAnyH _ _ _ _ _ _ _ (Act.put _ (some 56) _) _
       try simp only[Act.put,List.setIfInBounds_toArray,List.set_cons_zero,List.set_cons_succ]
       refine wpAnyH_take (i:=3) (v:=undef) rfl (by kernel_rfl) (by kernel_rfl) (by kernel_rfl) (fun _ _ _ h=>absurd h.1 (by simp)) (Or.inr ⟨by kernel_rfl,rfl⟩) hS1 ?_
       try change wpAnyH _ _ _ _ _ _ _ (Act.put _ (some 57) _) _
       try simp only[Act.put,List.setIfInBounds_toArray,List.set_cons_zero,List.set_cons_succ]
       refine wpAnyH_take (i:=4) (v:=undef) rfl (by kernel_rfl) (by kernel_rfl) (by kernel_rfl) (fun _ _ _ h=>absurd h.1 (by simp)) (Or.inr ⟨by kernel_rfl,rfl⟩) hS1 ?_
       try change wpAnyH _ _ _ _ _ _ _ (Act.put _ (some 58) _) _
       try simp only[Act.put,List.setIfInBounds_toArray,List.set_cons_zero,List.set_cons_succ]
       refine wpAnyH_take (i:=5) (v:=undef) rfl (by kernel_rfl) (by kernel_rfl) (by kernel_rfl) (fun _ _ _ h=>absurd h.1 (by simp)) (Or.inr ⟨by kernel_rfl,rfl⟩) hS1 ?_
       try change wpAnyH _ _ _ _ _ _ _ (Act.put _ (some 59) _) _
       try simp only[Act.put,List.setIfInBounds_toArray,List.set_cons_zero,List.set_cons_succ]
       refine wpAnyH_take (i:=6) (v:=undef) rfl (by kernel_rfl) (by kernel_rfl) (by kernel_rfl) (fun _ _ _ h=>absurd h.1 (by simp)) (Or.inr ⟨by kernel_rfl,rfl⟩) hS1 ?_
       try change wpAnyH _ _ _ _ _ _ _ (Act.put _ (some 60) _) _
       try simp only[Act.put,List.setIfInBounds_toArray,List.set_cons_zero,List.set_cons_succ]
       refine wpAnyH_take (i:=7) (v:=undef) rfl (by kernel_rfl) (by kernel_rfl) (by kernel_rfl) (fun _ _ _ h=>absurd h.1 (by simp)) (Or.inr ⟨by kernel_rfl,rfl⟩) hS1 ?_
       try change wpAnyH _ _ _ _ _ _ _ (Act.put _ (some 61) _) _
       try simp only[Act.put,List.setIfInBounds_toArray,List.set_cons_zero,List.set_cons_succ]
       refine wpAnyH_take (i:=8) (v:=undef) rfl (by kernel_rfl) (by kernel_rfl) (by kernel_rfl) (fun _ _ _ h=>absurd h.1 (by simp)) (Or.inr ⟨by kernel_rfl,rfl⟩) hS1 ?_
       try change wpAnyH _ _ _ _ _ _ _ (Act.put _ (some 62) _) _
       try simp only[Act.put,List.setIfInBounds_toArray,List.set_cons_zero,List.set_cons_succ]
       refine wpAnyH_take (i:=9) (v:=.bool true) rfl (by kernel_rfl) (by kernel_rfl) (by kernel_rfl) (fun _ _ _ h=>absurd h.1 (by simp)) (Or.inl ⟨by kernel_rfl,?_⟩) hS1 ?_
       ·intro W' hSw
        obtain⟨s0,s2⟩:=(hSd.out _).1 hSw;go_simp
       try change wpAnyH _ _ _ _ _ _ _ (Act.put _ (some 63) _) _
       try simp only[Act.put,List.setIfInBounds_toArray,List.set_cons_zero,List.set_cons_succ]
       refine wpAnyH_take (i:=10) (v:=.pointer (some ⟨w.heap.size+2,1,none⟩)) rfl (by kernel_rfl) (by kernel_rfl) (by kernel_rfl) (fun _ _ _ h=>absurd h.1 (by simp)) (Or.inl ⟨by kernel_rfl,?_⟩) hS1 ?_
       ·intro W' hSw
        obtain⟨s0,s2⟩:=(hSd.out _).1 hSw;go_simp
       try change wpAnyH _ _ _ _ _ _ _ (Act.put _ (some 64) _) _
       try simp only[Act.put,List.setIfInBounds_toArray,List.set_cons_zero,List.set_cons_succ]
       refine wpAnyH_ready (rs:=[11]) (by kernel_rfl) (by simp) ?_;refine AllReadyH.cons rfl (fun K hK=>?_) AllReadyH.nil;obtain⟨⟨k1,k2,k3⟩,_,_,kq⟩:=HT.out wz (Below.refl _ _);obtain⟨q1,q2⟩:=kq (true);clear kq;go_simp;refine hK.out _ _ q1 (fun _=>?_);clear hK k1 k2 k3 q1 hS1
       try simp only[Act.put,List.setIfInBounds_toArray,List.set_cons_zero,List.set_cons_succ]
       refine wpAnyH_done (by kernel_rfl) ?_ _;refine⟨rfl,?_⟩;clear HT hSd HLK;go_wp2_with fail;go_roundw
       case rel=>exact⟨k+1,C,cap2,giver2,wants2,e04,true,by omega,hwk2,by go_num,by simpa using hst3,q2⟩
       case measure=>simp[intOf];omega
  ·obtain rfl:k=n:=by omega
   have d1:decide ((k:Int)<(k:Int))=false:=decide_eq_false (by omega);have s1:wr.cell? ⟨w.heap.size+1,1,none⟩=some (.string giver):=hS.out.b1.cell 1;have s2:wr.cell? ⟨w.heap.size+1,2,none⟩=some (.slice B wants.length cap):=hS.out.b1.cell 2;have v3:=hS.out.b2.free 2;have l3:=hS.out.b2.lt;have s3:wr.cell? ⟨w.heap.size+2,2,none⟩=some (.bool false):=hS.out.b2.cell 2;have hQ2:Hid (Q=SymQ w nm ⟨giver,wants,e0,e1⟩):=hid (by rw[hQ.out,hPk.out]);obtain⟨z,hz⟩:∃z,Hid (z=decide (giver.size=0)):=⟨_,hid rfl⟩;have d2:(giver.toList==[])=z:=by rw[hz.out,emp_size]
   have d3:giver.toList.isEmpty=z:=by rw[hz.out,emp_isE]
   obtain⟨nw,hnw⟩:∃nw,Hid (nw=wants.length):=⟨_,hid rfl⟩;rw[←hnw.out]at s2 hwk;obtain⟨e2,he2⟩:∃e2,Hid (e2=(z&&decide (0<nw))):=⟨_,hid rfl⟩
   have hC:Hid (symC ⟨giver,wants,e0,e1⟩=if e0 then 8 else if e1 then 12 else if e2 then 7 else 0):=hid (by
    unfold symC;dsimp only;have e:(decide (giver.size=0)&&decide (wants≠[]))=e2:=by
     rw[he2.out,hz.out,hnw.out];congr 1;rw[decide_eq_decide];rw[List.length_pos_iff]
    rw[e])
   clear hQ hPk HU hPs HF HM;go_upto_region 14 with fail
   go_cut [74] (fun _ wx=>Hid (wx=wr.setCell ⟨w.heap.size+2,2,none⟩ (.bool e2)))
   case first=>
    rcases z with _ | _
    ·have he:Hid (e2=false):=hid (by rw[he2.out];rfl)
     go_wp2_with fail
     go_meet
     exact hid (by rw[he.out])
    ·by_cases hw0:0<nw
     ·have g1:decide ((0:Int)<(nw:Int))=true:=decide_eq_true (by omega)
      have g2:decide (0<nw)=true:=decide_eq_true hw0;have he:Hid (e2=true):=hid (by rw[he2.out,g2];rfl);go_wp2_with fail
      go_meet
      exact hid (by rw[he.out])
     ·have g1:decide ((0:Int)<(nw:Int))=false:=decide_eq_false (by omega)
      have g2:decide (0<nw)=false:=decide_eq_false hw0;have he:Hid (e2=false):=hid (by rw[he2.out,g2];rfl);go_wp2_with fail
      go_meet
      exact hid (by rw[he.out])
   case rest=>
    rename World=>w6
    have f6:Fr [w.heap.size+2] wr w6:=by rw[hcut.out];exact(Fr.refl _ wr).setCell (Or.inl (by simp)) _
    have b26:Box w6 (w.heap.size+2) 90 #[.bool e0,.bool e1,.bool e2]:=by
     have:=hS.out.b2.put 2 (.bool e2);rw[hcut.out]
     simpa using this
    have b16:=hS.out.b1.kept f6 (by simp);have b06:=hS.out.b0.kept f6 (by simp);have sg6:=hS.out.sg.kept f6 (fun g hg e=>by rw[List.mem_singleton]at e;subst e;exact hS.out.n2 hg);have on6:Below w.heap.size w w6:=hS.out.on.trans (f6.below (by simp) hS.out.on.size);obtain⟨w7,hw7⟩:∃w7,Hid (w7=w6.alloc (.cells #[.int .i64 8,.int .i64 12,.int .i64 7] 25)):=⟨_,hid rfl⟩;have f7:Below w6.heap.size w6 w7:=by rw[hw7.out];exact((Fr.refl [] w6).alloc _).all
    have b37:Box w7 w6.heap.size 25 #[.int .i64 8,.int .i64 12,.int .i64 7]:=by rw[hw7.out];exact Box.new w6 _ _
    have q:=Fr.of_below f7 [];have HB2:=hid (b26.kept q (by simp));have HB1:=hid (b16.kept q (by simp));have HB0:=hid (b06.kept q (by simp));have HSG:=hid (sg6.kept q (by simp));have HON:=hid (on6.trans (f7.mono on6.size));have HB3:=hid b37;have h7lt:Hid (w.heap.size+2<w7.heap.size):=hid HB2.out.lt;clear hcut f6 b26 b16 b06 sg6 on6 f7 b37 q hS s1 s2 s3 v3 l3 d2 d3 hz;go_wp2_with fail;rw[←hw7.out];clear hw7;go_loopw [10,11,78] (fun _ _ i w8=>∃j:Nat,j≤3∧i=.int .i64 j∧(0<j→e0=false)∧(1<j→e1=false)∧(2<j→e2=false)∧w7=w8) (fun _ _ i _=>3-(intOf i).toNat)
    case atStart=>exact⟨0,by omega,rfl,fun h=>absurd h (by omega),fun h=>absurd h (by omega),fun h=>absurd h (by omega),rfl⟩
    case round=>
     obtain⟨j,hj,rfl,hj0,hj1,hj2,rfl⟩:=hrel;rcases(by omega:j=0∨j=1∨j=2∨j=3)with rfl | rfl | rfl | rfl
     ·have e3:decide ((0:Int)<(3:Int))=true:=by decide
      have r3:w7.cell? ⟨w6.heap.size,0,none⟩=some (.int .i64 8):=HB3.out.cell 0;have r2:w7.cell? ⟨w.heap.size+2,0,none⟩=some (.bool e0):=HB2.out.cell 0;rcases he:e0 with _ | _
      ·rw[he]at r2
       go_wp2_with fail;go_roundw
       case rel=>exact⟨1,by omega,by go_num,fun _=>by first | exact he | trivial,fun h=>absurd h (by omega),fun h=>absurd h (by omega),trivial⟩
       case measure=>simp[intOf]
      ·rw[he]at r2
       have z0:w7.cell? ⟨w.heap.size,0,none⟩=some (.string ⟨#[]⟩):=HB0.out.cell 0;have z1:w7.cell? ⟨w.heap.size,1,none⟩=some (.string ⟨#[]⟩):=HB0.out.cell 1;have z2:w7.cell? ⟨w.heap.size,2,none⟩=some (.slice none 0 0):=HB0.out.cell 2;have u0:=HB0.out.free 0;have u1:=HB0.out.free 1;have u2:=HB0.out.free 2;obtain⟨q1,q2⟩:=three_put HB0.out (.string ⟨#[]⟩) (.string ⟨#[]⟩) (.slice none 0 0);have HX:=hid q1
       have hfin:Hid (Q (.returned (.tuple #[.agg #[.string ⟨#[]⟩,.string ⟨#[]⟩,.slice none 0 0],.int .i64 8])) (((w7.setCell ⟨w.heap.size,0,none⟩ (.string ⟨#[]⟩)).setCell ⟨w.heap.size,1,none⟩ (.string ⟨#[]⟩)).setCell ⟨w.heap.size,2,none⟩ (.slice none 0 0))):=hid (by
        rw[hQ2.out];refine symQ_bad (HON.out.trans (q2.below (by simp) HON.out.size)) ?_ (by decide);rw[hC.out]
        simp[he])
       clear q1 q2 HB3 HSG HB1 HB2 hC;go_wp2_with fail
       (try simp only[Exit.inBlock,Exit.then])
       refine bodyPost_ret (results_cell_tmp rfl _ _ _ _ _ _ _ _ rfl rfl HX.out cSy rfl (by kernel_rfl)) rfl ?_;exact hfin.out
     ·have e3:decide ((1:Int)<(3:Int))=true:=by decide
      have r3:w7.cell? ⟨w6.heap.size,1,none⟩=some (.int .i64 12):=HB3.out.cell 1;have r2:w7.cell? ⟨w.heap.size+2,1,none⟩=some (.bool e1):=HB2.out.cell 1;rcases he:e1 with _ | _
      ·rw[he]at r2
       go_wp2_with fail;go_roundw
       case rel=>exact⟨2,by omega,by go_num,fun _=>hj0 (by omega),fun _=>by first | exact he | trivial,fun h=>absurd h (by omega),trivial⟩
       case measure=>simp[intOf]
      ·rw[he]at r2
       have z0:w7.cell? ⟨w.heap.size,0,none⟩=some (.string ⟨#[]⟩):=HB0.out.cell 0;have z1:w7.cell? ⟨w.heap.size,1,none⟩=some (.string ⟨#[]⟩):=HB0.out.cell 1;have z2:w7.cell? ⟨w.heap.size,2,none⟩=some (.slice none 0 0):=HB0.out.cell 2;have u0:=HB0.out.free 0;have u1:=HB0.out.free 1;have u2:=HB0.out.free 2;obtain⟨q1,q2⟩:=three_put HB0.out (.string ⟨#[]⟩) (.string ⟨#[]⟩) (.slice none 0 0);have HX:=hid q1
       have hfin:Hid (Q (.returned (.tuple #[.agg #[.string ⟨#[]⟩,.string ⟨#[]⟩,.slice none 0 0],.int .i64 12])) (((w7.setCell ⟨w.heap.size,0,none⟩ (.string ⟨#[]⟩)).setCell ⟨w.heap.size,1,none⟩ (.string ⟨#[]⟩)).setCell ⟨w.heap.size,2,none⟩ (.slice none 0 0))):=hid (by
        rw[hQ2.out];refine symQ_bad (HON.out.trans (q2.below (by simp) HON.out.size)) ?_ (by decide);rw[hC.out]
        simp[he,hj0 (by omega)])
       clear q1 q2 HB3 HSG HB1 HB2 hC;go_wp2_with fail
       (try simp only[Exit.inBlock,Exit.then])
       refine bodyPost_ret (results_cell_tmp rfl _ _ _ _ _ _ _ _ rfl rfl HX.out cSy rfl (by kernel_rfl)) rfl ?_;exact hfin.out
     ·have e3:decide ((2:Int)<(3:Int))=true:=by decide
      have r3:w7.cell? ⟨w6.heap.size,2,none⟩=some (.int .i64 7):=HB3.out.cell 2;have r2:w7.cell? ⟨w.heap.size+2,2,none⟩=some (.bool e2):=HB2.out.cell 2;rcases he:e2 with _ | _
      ·rw[he]at r2
       go_wp2_with fail;go_roundw
       case rel=>exact⟨3,by omega,by go_num,fun _=>hj0 (by omega),fun _=>hj1 (by omega),fun _=>by first | exact he | trivial,trivial⟩
       case measure=>simp[intOf]
      ·rw[he]at r2
       have z0:w7.cell? ⟨w.heap.size,0,none⟩=some (.string ⟨#[]⟩):=HB0.out.cell 0;have z1:w7.cell? ⟨w.heap.size,1,none⟩=some (.string ⟨#[]⟩):=HB0.out.cell 1;have z2:w7.cell? ⟨w.heap.size,2,none⟩=some (.slice none 0 0):=HB0.out.cell 2;have u0:=HB0.out.free 0;have u1:=HB0.out.free 1;have u2:=HB0.out.free 2;obtain⟨q1,q2⟩:=three_put HB0.out (.string ⟨#[]⟩) (.string ⟨#[]⟩) (.slice none 0 0);have HX:=hid q1
       have hfin:Hid (Q (.returned (.tuple #[.agg #[.string ⟨#[]⟩,.string ⟨#[]⟩,.slice none 0 0],.int .i64 7])) (((w7.setCell ⟨w.heap.size,0,none⟩ (.string ⟨#[]⟩)).setCell ⟨w.heap.size,1,none⟩ (.string ⟨#[]⟩)).setCell ⟨w.heap.size,2,none⟩ (.slice none 0 0))):=hid (by
        rw[hQ2.out];refine symQ_bad (HON.out.trans (q2.below (by simp) HON.out.size)) ?_ (by decide);rw[hC.out]
        simp[he,hj0 (by omega),hj1 (by omega)])
       clear q1 q2 HB3 HSG HB1 HB2 hC;go_wp2_with fail
       (try simp only[Exit.inBlock,Exit.then])
       refine bodyPost_ret (results_cell_tmp rfl _ _ _ _ _ _ _ _ rfl rfl HX.out cSy rfl (by kernel_rfl)) rfl ?_;exact hfin.out
     ·have e3:decide ((3:Int)<(3:Int))=false:=by decide
      obtain rfl:e0=false:=hj0 (by omega);obtain rfl:e1=false:=hj1 (by omega);obtain rfl:e2=false:=hj2 (by omega);have r2:w7.cell? ⟨w.heap.size+1,2,none⟩=some (.slice B nw cap):=by rw[hnw.out];exact HB1.out.cell 2
      have KS:Hid (Calls Tryz.prog 45 #[.slice B nw cap] w7 (inn.SPostF w7 (wants.map tx))):=hid (by
       have q:=inn.sorted_fresh w7 B cap (wants.map tx) (by rw[map_tx];exact HSG.out.rd) (by rw[List.length_map,←hnw.out];omega)
       rwa[List.length_map,←hnw.out]at q)
      unfold inn.SPostF at KS;clear HB3 HB2 hj0 hj1 hj2;go_wp2_with fail;refine KS.out.mono ?_;rintro e w8 ⟨SA,sc,rfl,b8,hr8,hf8⟩;have q:=Fr.of_below b8 [];have c1:=HB1.out.kept q (by simp);have c0:=HB0.out.kept q (by simp);have y2:w8.cell? ⟨w.heap.size+1,2,none⟩=some (.slice B wants.length cap):=c1.cell 2;have x2:=c1.free 2;have m2:=c1.lt;have f9:Fr [w.heap.size+1] w8 (w8.setCell ⟨w.heap.size+1,2,none⟩ (.slice SA (rsS (wants.map tx)).length sc)):=(Fr.refl _ w8).setCell (Or.inl (by simp)) _;have c19:Box (w8.setCell ⟨w.heap.size+1,2,none⟩ (.slice SA (rsS (wants.map tx)).length sc)) (w.heap.size+1) 33 #[.string nm,.string giver,.slice SA (rsS (wants.map tx)).length sc]:=by
       have:=c1.put 2 (.slice SA (rsS (wants.map tx)).length sc)
       simpa using this
      have c09:=c0.kept f9 (by simp);have on8:Below w.heap.size w w8:=HON.out.trans (b8.mono HON.out.size);have on9:=on8.trans (f9.below (by simp) on8.size)
      have hgs:Hid (∀g∈blk SA,w.heap.size+2<g∧g<(w8.setCell ⟨w.heap.size+1,2,none⟩ (.slice SA (rsS (wants.map tx)).length sc)).heap.size):=hid (fun g hg=>by
       have h1:=hf8 g hg;have h2:=HB1.out.lt;have h3:=h7lt.out;have h4:=f9.size
       omega)
      have hr9:=hr8.kept f9 (fun g hg e=>by have:=hgs.out g hg;rw[List.mem_singleton]at e;omega);have H19:=hid c19;have H09:=hid c09;have HO9:=hid on9;have HR9:=hid hr9;clear c19 c09 on9 hr9 c1 c0 on8 b8 hr8 hf8 q f9 KS HSG HB1 HB0 HON r2;go_upto_region 22 with fail;generalize w8.setCell ⟨w.heap.size+1,2,none⟩ (.slice SA (rsS (wants.map tx)).length sc)=w9 at *;clear y2 x2 m2;have a0:w9.cell? ⟨w.heap.size+1,0,none⟩=some (.string nm):=H19.out.cell 0;have a1:w9.cell? ⟨w.heap.size+1,1,none⟩=some (.string giver):=H19.out.cell 1;have a2:w9.cell? ⟨w.heap.size+1,2,none⟩=some (.slice SA (rsS (wants.map tx)).length sc):=H19.out.cell 2;have z0:w9.cell? ⟨w.heap.size,0,none⟩=some (.string ⟨#[]⟩):=H09.out.cell 0;have z1:w9.cell? ⟨w.heap.size,1,none⟩=some (.string ⟨#[]⟩):=H09.out.cell 1;have z2:w9.cell? ⟨w.heap.size,2,none⟩=some (.slice none 0 0):=H09.out.cell 2;have u0:=H09.out.free 0;have u1:=H09.out.free 1
      have u2:=H09.out.free 2;obtain⟨q1,q2⟩:=three_put H09.out (.string nm) (.string giver) (.slice SA (rsS (wants.map tx)).length sc);have HX:=hid q1
      have hfin:Hid (Q (.returned (.tuple #[.agg #[.string nm,.string giver,.slice SA (rsS (wants.map tx)).length sc],.int .i64 0])) (((w9.setCell ⟨w.heap.size,0,none⟩ (.string nm)).setCell ⟨w.heap.size,1,none⟩ (.string giver)).setCell ⟨w.heap.size,2,none⟩ (.slice SA (rsS (wants.map tx)).length sc))):=hid (by
       rw[hQ2.out]
       refine⟨HO9.out.trans (q2.below (by simp) HO9.out.size),Or.inl ⟨by rw[hC.out];rfl,SA,sc,rfl,HR9.out.kept q2 (fun g hg e=>by have:=hgs.out g hg;rw[List.mem_singleton]at e;omega),fun g hg=>by have:=hgs.out g hg;have:=q2.size;omega⟩⟩)
      clear q1 q2 hC HO9 HR9 hgs H19;go_wp2_with fail
      (try simp only[Exit.inBlock,Exit.then])
      refine bodyPost_ret (results_cell_tmp rfl _ _ _ _ _ _ _ _ rfl rfl HX.out cSy rfl (by kernel_rfl)) rfl ?_;exact hfin.out
end ym
namespace ym
open RowKit mem sy rng
open re (tx SU MU SumM)
open sf (map_tx enc_tx SumK putL esC fst0)
open inn (rsS)
open ins (noOf WF)
structure SyR where
 nm:ByteArray
 giver:ByteArray
 A:Option Addr
 c:Nat
 wanted:List (List UInt8)
def SyR.row(r:SyR):List Value:=[.string r.nm,.string r.giver,.slice r.A r.wanted.length r.c]
def SyR.sym(r:SyR):Sym:=⟨tx r.nm,r.giver,r.wanted⟩
theorem syrow_one(x:SyR):∀u∈x.row,u.oneCell'=true:=by
 intro u hu;unfold SyR.row at hu;simp only[List.mem_cons,List.not_mem_nil,or_false]at hu;rcases hu with rfl | rfl | rfl <;> rfl
structure SLv(te:TypeId)(w:World)(rows:List SyR)(A:Option Addr)(cap:Nat)(W:World):Prop where
 sg:Sg 3 W te A cap rows.length (rows.flatMap SyR.row)
 ge:∀q∈blk A,w.heap.size≤q
 rd:∀r∈rows,Rd W r.A (r.wanted.map encStr)
 rg:∀r∈rows,∀g∈blk r.A,w.heap.size≤g∧g<W.heap.size∧g∉blk A
section
variable {te:TypeId} {w W W':World} {rows:List SyR} {A:Option Addr} {cap:Nat}
theorem SLv.new(te:TypeId)(w W:World):SLv te w [] none 0 W:=⟨Sg.new 3 _ _,(fun q hq=>by cases hq),(fun r hr=>by cases hr),(fun r hr=>by cases hr)⟩
theorem SLv.kept{F:List Nat}(h:SLv te w rows A cap W)(hf:Fr F W W')(hn:∀g∈blk A,g∉F)(hr:∀r∈rows,∀g∈blk r.A,g∉F):SLv te w rows A cap W':=
 ⟨h.sg.kept hf hn,h.ge,fun r hm=>(h.rd r hm).kept hf (hr r hm),fun r hm g hg=>⟨(h.rg r hm g hg).1,Nat.lt_of_lt_of_le (h.rg r hm g hg).2.1 hf.size,(h.rg r hm g hg).2.2⟩⟩
theorem SLv.below(h:SLv te w rows A cap W)(hb:Below W.heap.size W W'):SLv te w rows A cap W':=h.kept (Fr.of_below hb []) (by simp) (by simp)
theorem sgg{sz:Nat}{row:Option Nat}{e:TypeId}{n:Nat}{xs:List Value}(h:Sg sz W e A cap n xs)(hg:W.grownBy W' row)(hr:∀r,row=some r→∃o:Obj,W.heap[r]? = some o∧o.isCells=false):Sg sz W' e A cap n xs:=by
 refine⟨h.len,h.le,h.max,h.nil,fun a ha=>?_⟩;obtain⟨hs,cur,hc,r⟩:=h.ex a ha;refine⟨hs,cur,(hg.block _ (Array.getElem?_eq_some_iff.1 hc).1 (fun e=>?_)).trans hc,r⟩;obtain⟨o,ho,hn⟩:=hr _ e.symm;rw[hc]at ho;cases ho;cases hn
theorem rdg{row:Option Nat}{xs:List Value}(h:Rd W A xs)(hg:W.grownBy W' row)(hr:∀r,row=some r→∃o:Obj,W.heap[r]? = some o∧o.isCells=false):Rd W' A xs:=fun hz=>by
 obtain⟨g,off,rfl,hl,hc⟩:=h hz;exact⟨g,off,rfl,Nat.lt_of_lt_of_le hl hg.size,fun j hj=>cell_kept (hc j hj) hg hr⟩
theorem SLv.grown{row:Option Nat}(h:SLv te w rows A cap W)(hg:W.grownBy W' row)(hr:∀r,row=some r→∃o:Obj,W.heap[r]? = some o∧o.isCells=false):SLv te w rows A cap W':=
 ⟨sgg h.sg hg hr,h.ge,fun r hm=>rdg (h.rd r hm) hg hr,fun r hm g hg2=>⟨(h.rg r hm g hg2).1,Nat.lt_of_lt_of_le (h.rg r hm g hg2).2.1 hg.size,(h.rg r hm g hg2).2.2⟩⟩
theorem SLv.push(h:SLv te w rows A cap W)(hw:w.heap.size≤W.heap.size){A3:Option Addr}{cap3 n:Nat}{r:SyR}{w3:World}{ob:Obj}(hn:n=rows.length)(hs3:Sg 3 w3 te A3 cap3 (n+1) (rows.flatMap SyR.row++r.row))(f3:Fr (blk A) (W.alloc ob) w3)(hf3:blk A3=blk A∨blk A3=[(W.alloc ob).heap.size])
 (hrd:Rd W r.A (r.wanted.map encStr)) (hrg:∀g∈blk r.A,w.heap.size≤g∧g<W.heap.size∧g∉blk A):SLv te w (rows++[r]) A3 cap3 w3∧Fr (blk A) W w3∧∀g∈blk A3,g∈blk A∨W.heap.size≤g:=by
 subst hn;have hF:Fr (blk A) W w3:=((Fr.refl [] W).alloc ob).trans f3 (by simp) (fun g hg=>Or.inl hg);have hA3:∀q∈blk A3,q∈blk A∨W.heap.size≤q:=fun q hq=>by
  rcases hf3 with e | e
  ·exact Or.inl (e ▸ hq)
  ·rw[e,List.mem_singleton]at hq
   subst hq;right;simp
 have hall:∀x∈rows++[r],Rd W x.A (x.wanted.map encStr)∧∀g∈blk x.A,w.heap.size≤g∧g<W.heap.size∧g∉blk A:=fun x hx=>by
  rcases List.mem_append.1 hx with h1 | h1
  ·exact⟨h.rd x h1,h.rg x h1⟩
  ·rw[List.mem_singleton]at h1;subst h1;exact⟨hrd,hrg⟩
 refine⟨⟨?_,fun q hq=>?_,fun x hx=>(hall x hx).1.kept hF (fun g hg=>((hall x hx).2 g hg).2.2),fun x hx g hg=>⟨((hall x hx).2 g hg).1,Nat.lt_of_lt_of_le ((hall x hx).2 g hg).2.1 hF.size,fun hm=>?_⟩⟩,hF,hA3⟩
 ·rw[List.length_append,List.flatMap_append]
  have e:([r]:List SyR).flatMap SyR.row=r.row:=by simp
  rw[e];exact hs3
 ·rcases hA3 q hq with h1 | h1
  ·exact h.ge q h1
  ·exact Nat.le_trans hw h1
 ·rcases hA3 g hm with h1 | h1
  ·exact((hall x hx).2 g hg).2.2 h1
  ·have:=((hall x hx).2 g hg).2.1;omega
end
def ResP(te:TypeId)(w:World)(R:List Sym×List UInt8×Int)(e:Ending)(w':World):Prop:=
 ∃(A:Option Addr) (cap:Nat) (rows:List SyR),e=.returned (.tuple #[.slice A rows.length cap,encStr R.2.1,.int .i64 R.2.2])∧rows.map SyR.sym=R.1∧Tbl w' A 3 (rows.map SyR.row)∧(∀r∈rows,Rd w' r.A (r.wanted.map encStr))∧Below w.heap.size w w'
theorem tbl_sg{sz:Nat}{w:World}{e:TypeId}{A:Option Addr}{cap:Nat}{α:Type}(f:α→List Value)(hf:∀x,(f x).length=sz){xs:List α}(hsz:0<sz)(h:Sg sz w e A cap xs.length (xs.flatMap f)):Tbl w A sz (xs.map f):=fun hz=>by
 have hl:0<(xs.flatMap f).length:=by
  rw[h.len];rw[List.length_map]at hz;exact Nat.mul_pos hz hsz
 obtain⟨g,off,rfl,hlt,hc⟩:=h.rd hsz hl;refine⟨g,off,rfl,hlt,fun j hj i v hv=>?_⟩;rw[List.length_map]at hj;rw[List.getElem_map]at hv;have hi:i<sz:=by
  have:=(List.getElem?_eq_some_iff.1 hv).1
  rwa[hf]at this
 have key:∀(l:List α) (j:Nat) (hj:j<l.length),(l.flatMap f)[j * sz+i]? = (f l[j])[i]?:=by
  intro l
  induction l with
  | nil=>intro j hj;cases hj
  | cons a t ih=>
   intro j hj;rw[List.flatMap_cons];cases j with
   | zero=>
    rw[Nat.zero_mul,Nat.zero_add,List.getElem?_append_left (by rw[hf];exact hi)];rfl
   | succ j=>
    rw[List.getElem?_append_right (by rw[hf,Nat.succ_mul];omega),hf];have e:(j+1) * sz+i-sz=j * sz+i:=by rw[Nat.succ_mul];omega
    rw[e];have hj2:j<t.length:=by simpa using hj
    rw[ih j hj2];rfl
 have e2:=key xs j hj;rw[hv]at e2;obtain⟨h3,h4⟩:=List.getElem?_eq_some_iff.1 e2;have:=hc (j * sz+i) h3;rw[h4]at this
 rwa[←Nat.add_assoc]at this
theorem resP_of{te:TypeId}{w w':World}{rows:List SyR}{A:Option Addr}{cap:Nat}{R:List Sym×List UInt8×Int}(h:SLv te w rows A cap w')(hr:rows.map SyR.sym=R.1)(hb:Below w.heap.size w w'):ResP te w R (.returned (.tuple #[.slice A rows.length cap,encStr R.2.1,.int .i64 R.2.2])) w':=
 ⟨A,cap,rows,rfl,hr,tbl_sg SyR.row (fun x=>rfl) (by decide) h.sg,h.rd,hb⟩
theorem resP_nil{te:TypeId}{w w':World}{R:List Sym×List UInt8×Int}(hr:R.1=[])(hb:Below w.heap.size w w'):ResP te w R (.returned (.tuple #[.slice none 0 0,encStr R.2.1,.int .i64 R.2.2])) w':=
 ⟨none,0,[],rfl,by rw[hr];rfl,(fun h=>by simp at h),(fun r hr=>by cases hr),hb⟩
theorem fold_flat:∀(l:List MU),plainU ((l.flatMap usesM).foldl putM ([],[]))=putAll (usesL (l.map MU.su)):=by
 intro l;rw[fold_plain];unfold putAll usesL;have e:(l.flatMap usesM).map (fun p=>(p.1,p.2.u))=(l.map MU.su).flatMap usesOf:=by
  induction l with
  | nil=>rfl
  | cons u t ih=>rw[List.flatMap_cons,List.map_append,List.map_cons,List.flatMap_cons,ih,usesM_plain]
 rw[e];rfl
theorem putM_ok(P:MUs→Prop)(s:List (List UInt8)×List (List MUs))(p:List UInt8×MUs)(hs:∀l∈s.2,∀x∈l,P x)(hp:P p.2):∀l∈(putM s p).2,∀x∈l,P x:=by
 intro l hl x hx;unfold putM at hl;split at hl
 ·obtain⟨i,hi,e⟩:=List.getElem_of_mem hl
  rw[List.getElem_modify]at e;rw[List.length_modify]at hi;split at e
  ·rw[←e]at hx
   rcases List.mem_append.1 hx with h | h
   ·exact hs _ (List.getElem_mem hi) x h
   ·rw[List.mem_singleton]at h;subst h;exact hp
  ·rw[←e]at hx
   exact hs _ (List.getElem_mem hi) x hx
 ·rcases List.mem_append.1 hl with h | h
  ·exact hs l h x hx
  ·rw[List.mem_singleton]at h;subst h
   rw[List.mem_singleton]at hx;subst hx;exact hp
theorem fold_ok(P:MUs→Prop):∀(L:List (List UInt8×MUs)) (s:List (List UInt8)×List (List MUs)),(∀l∈s.2,∀x∈l,P x)→(∀p∈L,P p.2)→∀l∈(L.foldl putM s).2,∀x∈l,P x
 | [],s,hs,_=>hs
 | p :: L,s,hs,hp=>fold_ok P L (putM s p) (putM_ok P s p hs (hp p List.mem_cons_self)) (fun q hq=>hp q (List.mem_cons_of_mem _ hq))
theorem uok_f(w:World)(u:MU)(f:SF):UOk w (useF u f):=⟨Nat.zero_le _,Nat.zero_le _,(fun h=>by simp[useF,mkUse,oZ]at h),Nat.zero_le _,(fun m hm=>by cases hm),(fun m hm=>by cases hm),Nat.le_refl _⟩
theorem uses_ok{w:World}{l:List MU}(h:∀u∈l,SumK w u):∀p∈l.flatMap usesM,UOk w p.2:=by
 intro p hp;obtain⟨u,hu,hp⟩:=List.mem_flatMap.1 hp;unfold usesM at hp;rcases List.mem_append.1 hp with h1 | h1
 ·obtain⟨o,ho,rfl⟩:=List.mem_map.1 h1
  exact(h u hu).m.sr.ok o ho
 ·obtain⟨f,hf,rfl⟩:=List.mem_map.1 h1
  exact uok_f w u f
structure TabD(w:World)(L:List SU)(s:List (List UInt8)×List (List MUs)):Prop where
 nod:s.1.Nodup
 len:s.2.length=s.1.length
 mem:∀n,n∈s.1↔n∈(usesL L).map (·.1)
 row:∀i (h1:i<s.1.length) (h2:i<s.2.length),s.2[i].map MUs.u=usesN (usesL L) s.1[i]
 ok:∀l∈s.2,∀x∈l,UOk w x
theorem tabD_of{w:World}{l:List MU}(h:∀u∈l,SumK w u):TabD w (l.map MU.su) ((l.flatMap usesM).foldl putM ([],[])):=by
 have e:=fold_flat l;obtain⟨p1,p2,p3⟩:=put_all (usesL (l.map MU.su));rw[←e]at p1 p2 p3;unfold plainU at p1 p2 p3;dsimp only at p1 p2 p3;have hl:=congrArg List.length p3;rw[List.length_map,List.length_map]at hl;refine⟨p1,hl,p2,fun i h1 h2=>?_,fold_ok _ _ _ (by simp) (uses_ok h)⟩;have:=congrArg (fun q:List (List Use)=>q[i]?) p3;simp only[List.getElem?_map,List.getElem?_eq_getElem h2,List.getElem?_eq_getElem h1,Option.map_some,Option.some.injEq]at this;exact this
theorem row_pos{w:World}{L:List SU}{s:List (List UInt8)×List (List MUs)}(h:TabD w L s){i:Nat}(h1:i<s.1.length)(h2:i<s.2.length):0<s.2[i].length:=by
 have e:=h.row i h1 h2;have hm:=(h.mem s.1[i]).1 (List.getElem_mem h1);obtain⟨p,hp,hpn⟩:=List.mem_map.1 hm;have:p.2∈usesN (usesL L) s.1[i]:=by
  unfold usesN;exact List.mem_map.2 ⟨p,List.mem_filter.2 ⟨hp,decide_eq_true hpn⟩,rfl⟩
 rw[←e]at this;have:=List.length_pos_of_mem this
 rwa[List.length_map]at this
end ym
namespace ym
open RowKit Go.Sort mem sy
open re (tx SU MU SumM)
open sf (esC fst0)
open inn (rsS)
open ins (noOf WF)
theorem noOf_at{xs:List (List UInt8)}{x:List UInt8}(h:x∈xs):∃hl:noOf xs x<xs.length,xs[noOf xs x] = x:=by
 unfold noOf;rw[if_pos h];exact⟨List.idxOf_lt_length_of_mem h,List.getElem_idxOf _⟩
theorem noOf_lt{xs:List (List UInt8)}(h:0<xs.length)(x:List UInt8):noOf xs x<xs.length:=by
 unfold noOf;split
 ·rename_i hm;exact List.idxOf_lt_length_of_mem hm
 ·exact h
def rowF(s:List (List UInt8)×List (List MUs))(x:List UInt8):List MUs:=(s.2[noOf s.1 x]?).getD []
noncomputable def stF(s:List (List UInt8)×List (List MUs))(x:List UInt8):PS:=psT (rowF s x) (rowF s x).length
noncomputable def codeF(s:List (List UInt8)×List (List MUs))(x:List UInt8):Int:=symC (stF s x)
noncomputable def symF(s:List (List UInt8)×List (List MUs))(x:List UInt8):Sym:=⟨x,(stF s x).giver,rsS ((stF s x).wanted.map tx)⟩
noncomputable def accF(s:List (List UInt8)×List (List MUs))(pre:List (List UInt8)):List Sym:=(pre.filter (fun x=>decide ((stF s x).giver.size≠0))).map (symF s)
theorem accF_snoc(s:List (List UInt8)×List (List MUs))(pre:List (List UInt8))(x:List UInt8):accF s (pre++[x])=accF s pre++if(stF s x).giver.size=0 then [] else [symF s x]:=by
 unfold accF;rw[List.filter_append,List.map_append];congr 1;by_cases h:(stF s x).giver.size=0
 ·rw[if_pos h,List.filter_cons,if_neg (by rw[decide_eq_true_eq];exact fun k=>k h)];rfl
 ·rw[if_neg h,List.filter_cons,if_pos (by rw[decide_eq_true_eq];exact h)];rfl
theorem row_eq{w:World}{L:List SU}{s:List (List UInt8)×List (List MUs)}(hT:TabD w L s){x:List UInt8}(hx:x∈s.1):(rowF s x).map MUs.u=usesN (usesL L) x∧0<(rowF s x).length:=by
 obtain⟨hl,he⟩:=noOf_at hx;have h2:noOf s.1 x<s.2.length:=by rw[hT.len];exact hl
 have e:rowF s x=s.2[noOf s.1 x]:=by unfold rowF;rw[List.getElem?_eq_getElem h2];rfl
 rw[e];exact⟨by rw[hT.row _ hl h2,he],row_pos hT hl h2⟩
theorem st_eq{w:World}{L:List SU}{s:List (List UInt8)×List (List MUs)}(hT:TabD w L s)(hc:chkFrom [] L=none){x:List UInt8}(hx:x∈s.1) :
 codeF s x=symE 12 (usesN (usesL L) x)∧(stF s x).giver=giverFrom ⟨#[]⟩ (usesN (usesL L) x)∧(stF s x).wanted=wantL (usesN (usesL L) x)∧((stF s x).giver.size=0↔gCount (usesN (usesL L) x)=0):=by
 obtain⟨h1,h2⟩:=row_eq hT hx;have hm:=uses_m L hc x;rw[←h1]at hm ⊢;unfold codeF;have e:stF s x=psAll ((rowF s x).map MUs.u).length (fstU (rowF s x)) ((rowF s x).map MUs.u):=psT_all _;rw[e];rcases hr:rowF s x with _ | ⟨a,t⟩
 ·rw[hr]at h2;cases h2
 rw[hr]at hm;have hs:=symE_prog 12 a.u (t.map MUs.u) hm;have hp:=ps_all ((a :: t).map MUs.u).length a.u ((a :: t).map MUs.u) hm;have hg:=giver_empty ((a :: t).map MUs.u) hm;show symC (psAll ((a :: t).map MUs.u).length a.u ((a :: t).map MUs.u))=_∧(psAll ((a :: t).map MUs.u).length a.u ((a :: t).map MUs.u)).giver=_∧(psAll ((a :: t).map MUs.u).length a.u ((a :: t).map MUs.u)).wanted=_∧((psAll ((a :: t).map MUs.u).length a.u ((a :: t).map MUs.u)).giver.size=0↔_);refine⟨hs,?_,?_,?_⟩
 ·rw[hp]
 ·rw[hp]
 ·rw[hp];exact hg
theorem res_stop(U:List UInt8→List Use):∀(p:List (List UInt8)) (acc:List Sym) (x:List UInt8) (t:List (List UInt8)),(∀n∈p,symE 12 (U n)=0)→symE 12 (U x)≠0→resFrom U acc (p++x :: t)=([],x,symE 12 (U x)):=by
 intro p
 induction p with
 | nil=>
  intro acc x t _ hx;show resFrom U acc (x :: t)=_;unfold resFrom;rw[if_neg hx]
 | cons a p ih=>
  intro acc x t hp hx;show resFrom U acc (a :: (p++x :: t))=_;unfold resFrom;rw[if_pos (hp a List.mem_cons_self)];exact ih _ x t (fun n hn=>hp n (List.mem_cons_of_mem _ hn)) hx
theorem names_tab{w:World}{L:List SU}{s:List (List UInt8)×List (List MUs)}(hT:TabD w L s):rsS s.1=rsS ((usesL L).map (·.1)):=rsS_ext hT.mem
theorem acc_done{w:World}{L:List SU}{s:List (List UInt8)×List (List MUs)}(hT:TabD w L s)(hc:chkFrom [] L=none)(h8:L.length≤8)(hz:∀y∈rsS s.1,codeF s y=0):resP L=(accF s (rsS s.1),[],0):=by
 have hin:∀y∈rsS s.1,y∈s.1:=fun y hy=>(rsS_mem _ y).1 hy
 unfold resP;rw[if_neg (by omega),hc];dsimp only;rw[←names_tab hT,res_list _ _ _ (fun n hn=>by rw[←(st_eq hT hc (hin n hn)).1];exact hz n hn)];rw[List.nil_append];congr 1;unfold accF;have e:(rsS s.1).filter (fun x=>decide ((stF s x).giver.size≠0))=(rsS s.1).filter (fun n=>decide (0<gCount (usesN (usesL L) n))):=by
  apply List.filter_congr
  intro n hn;rw[decide_eq_decide];have:=(st_eq hT hc (hin n hn)).2.2.2;constructor
  ·intro h;have:gCount (usesN (usesL L) n)≠0:=fun e=>h (this.2 e);omega
  ·intro h e;have:=this.1 e;omega
 rw[e]
 apply List.map_congr_left
 intro n hn;have hn2:=hin n (List.mem_filter.1 hn).1;obtain⟨_,h2,h3,_⟩:=st_eq hT hc hn2;unfold symF symOf;rw[h2,h3]
theorem acc_stop{w:World}{L:List SU}{s:List (List UInt8)×List (List MUs)}(hT:TabD w L s)(hc:chkFrom [] L=none)(h8:L.length≤8){p:List (List UInt8)}{x:List UInt8}(hp:p++[x] <+: rsS s.1)(hz:∀y∈p,codeF s y=0)(hx:codeF s x≠0):resP L=([],x,codeF s x):=by
 obtain⟨t,ht⟩:=hp;have hin:∀y∈rsS s.1,y∈s.1:=fun y hy=>(rsS_mem _ y).1 hy
 have hxm:x∈s.1:=hin x (by rw[←ht];simp);have hpm:∀y∈p,y∈s.1:=fun y hy=>hin y (by rw[←ht];simp[hy])
 have ex:=(st_eq hT hc hxm).1;unfold resP;rw[if_neg (by omega),hc];dsimp only;rw[←names_tab hT,←ht,List.append_assoc];show resFrom _ [] (p++x :: t)=_;rw[res_stop _ p [] x t (fun n hn=>by rw[←(st_eq hT hc (hpm n hn)).1];exact hz n hn) (by rw[←ex];exact hx),ex]
theorem chk_step(L:List SU){k:Nat}(hk:k<L.length)(seen:List (List UInt8)):chkFrom seen (L.drop k)=if fst0 (esC L[k])=0 then(if tx L[k].name∈seen then some (tx L[k].name,8) else chkFrom (seen++[tx L[k].name]) (L.drop (k+1))) else some (tx L[k].name,fst0 (esC L[k])):=by
 rw[List.drop_eq_getElem_cons hk];rfl
theorem res_chk{L:List SU}{n:List UInt8}{e:Int}(h8:L.length≤8)(hc:chkFrom [] L=some (n,e)):resP L=([],n,e):=by
 unfold resP;rw[if_neg (by omega),hc]
theorem res_full{L:List SU}(h8:8<L.length):resP L=([],[],4):=by
 unfold resP;rw[if_pos h8]
theorem um_row{w0 w:World}{b N:Nat}{s:List (List UInt8)×List (List MUs)}{F:List Nat}(h:UM w0 b N s F w)(hz:0<s.1.length)(x:List UInt8):∃(gH oH hc:Nat) (rA:Option Addr) (rc:Nat),w.cell? ⟨b,2,none⟩=some (.slice (some ⟨gH,oH,none⟩) s.1.length hc)∧noOf s.1 x<s.1.length∧w.cell? ⟨gH,oH+noOf s.1 x,none⟩=some (.slice rA (rowF s x).length rc)∧Tbl w rA 9 ((rowF s x).map MUs.row)∧(rowF s x).length≤N∧b∈F∧gH∈F∧(∀g∈blk rA,g∈F):=by
 obtain⟨f,A,cap,m,H,hc,h,e,rfl⟩:=h;have hi:=noOf_lt hz x;have er:rowF s x=(f (noOf s.1 x)).us:=by
  unfold rowF;rw[e];unfold contU;rw[List.getElem?_map,List.getElem?_range hi];rfl
 obtain⟨gH,oH,rfl,hlt,hcl⟩:=h.hs.at_ (by rw[hdrs_len];exact hz);have c:=hcl (noOf s.1 x) (by rw[hdrs_len];exact hi);rw[hdrs_at _ hi]at c;rw[er];exact⟨gH,oH,hc,(f (noOf s.1 x)).A,(f (noOf s.1 x)).cap,h.tb.box.cell 2,hi,c,tbl_sg MUs.row (fun x=>rfl) (by decide) (h.sg _ hi),h.ln _ hi,mem_footU.2 (Or.inl (by simp[ins.foot])),mem_footU.2 (Or.inr (Or.inl (by simp[blk]))),fun g hg=>mem_footU.2 (Or.inr (Or.inr ⟨_,hi,hg⟩))⟩
end ym
namespace ym
open RowKit Go.Sort Shelf mem sy rng
open re (tx SU MU SumM)
open sf (map_tx enc_tx SumK putL esC fst0 scheck_any wf_tx)
open inn (rsS mem_rsS)
open ins (noOf WF)
open nm (Tab tab_below)
attribute [local go_sem] Oper.semAt_some
theorem run_loadVar_one{P:Program}(w:World)(g:Nat)(ty:TypeId)(v:Value)(hA:∀w,(isAgg ty).run P w=.ok false w)(hc:w.cell? ⟨g,0,none⟩=some v):(loadVar ty ⟨g,0,none⟩).run P w=.ok v w:=by
 simp[loadVar,Sem.run_bind,hA,hc]
theorem results_cells3{P:Program}{fn:Func}{p q r:Tmp}{tp tq tr:TypeId}(h:fn.results=#[.cell p tp,.cell q tq,.cell r tr])(tmps:Array Value)(w:World)(gp gq gr:Nat)(vp vq vr:Value)
 (hp:tmps.getD p undef=.pointer (some ⟨gp,0,none⟩)) (hq:tmps.getD q undef=.pointer (some ⟨gq,0,none⟩)) (hr:tmps.getD r undef=.pointer (some ⟨gr,0,none⟩))
 (ap:∀w,(isAgg tp).run P w=.ok false w) (aq:∀w,(isAgg tq).run P w=.ok false w) (ar:∀w,(isAgg tr).run P w=.ok false w)
 (cp:w.cell? ⟨gp,0,none⟩=some vp) (cq:w.cell? ⟨gq,0,none⟩=some vq) (cr:w.cell? ⟨gr,0,none⟩=some vr) :
 (results fn tmps).run P w=.ok (.tuple #[vp,vq,vr]) w:=by
 have hp':tmps[p]?.getD undef=.pointer (some ⟨gp,0,none⟩):=by simpa using hp
 have hq':tmps[q]?.getD undef=.pointer (some ⟨gq,0,none⟩):=by simpa using hq
 have hr':tmps[r]?.getD undef=.pointer (some ⟨gr,0,none⟩):=by simpa using hr
 simp[results,h,hp',hq',hr',asAddr,run_loadVar_one w gp tp vp ap cp,run_loadVar_one w gq tq vq aq cq,run_loadVar_one w gr tr vr ar cr]
theorem agg24:∀w,(isAgg 24).run Tryz.prog w=.ok false w:=fun w=>by kernel_rfl
theorem agg9:∀w,(isAgg 9).run Tryz.prog w=.ok false w:=fun w=>by kernel_rfl
theorem agg25:∀w,(isAgg 25).run Tryz.prog w=.ok false w:=fun w=>by kernel_rfl
structure R3(w:World)(v:Value)(s:ByteArray)(e:Int)(W:World):Prop where
 b0:Box W w.heap.size 24 #[v]
 b1:Box W (w.heap.size+1) 9 #[.string s]
 b2:Box W (w.heap.size+2) 25 #[.int .i64 e]
theorem R3.same{w W W':World}{v:Value}{s:ByteArray}{e:Int}(h:R3 w v s e W)(hs:∀q∈[w.heap.size,w.heap.size+1,w.heap.size+2],W'.heap[q]? = W.heap[q]?):R3 w v s e W':=
 ⟨box_same h.b0 (hs _ (by simp)),box_same h.b1 (hs _ (by simp)),box_same h.b2 (hs _ (by simp))⟩
theorem R3.kept{F:List Nat}{w W W':World}{v:Value}{s:ByteArray}{e:Int}(h:R3 w v s e W)(hf:Fr F W W')(h0:w.heap.size∉F)(h1:w.heap.size+1∉F)(h2:w.heap.size+2∉F):R3 w v s e W':=⟨h.b0.kept hf h0,h.b1.kept hf h1,h.b2.kept hf h2⟩
theorem R3.set{w W:World}{v:Value}{s:ByteArray}{e:Int}(h:R3 w v s e W)(v2:Value)(s2:ByteArray)(e2:Int) :
 R3 w v2 s2 e2 (((W.setCell ⟨w.heap.size,0,none⟩ v2).setCell ⟨w.heap.size+1,0,none⟩ (.string s2)).setCell ⟨w.heap.size+2,0,none⟩ (.int .i64 e2)) ∧
 Fr [w.heap.size,w.heap.size+1,w.heap.size+2] W (((W.setCell ⟨w.heap.size,0,none⟩ v2).setCell ⟨w.heap.size+1,0,none⟩ (.string s2)).setCell ⟨w.heap.size+2,0,none⟩ (.int .i64 e2)):=by
 have f1:Fr [w.heap.size] W (W.setCell ⟨w.heap.size,0,none⟩ v2):=(Fr.refl _ W).setCell (Or.inl (by simp)) _;have f2:Fr [w.heap.size+1] (W.setCell ⟨w.heap.size,0,none⟩ v2) ((W.setCell ⟨w.heap.size,0,none⟩ v2).setCell ⟨w.heap.size+1,0,none⟩ (.string s2)):=(Fr.refl _ _).setCell (Or.inl (by simp)) _;have f3:Fr [w.heap.size+2] ((W.setCell ⟨w.heap.size,0,none⟩ v2).setCell ⟨w.heap.size+1,0,none⟩ (.string s2)) (((W.setCell ⟨w.heap.size,0,none⟩ v2).setCell ⟨w.heap.size+1,0,none⟩ (.string s2)).setCell ⟨w.heap.size+2,0,none⟩ (.int .i64 e2)):=(Fr.refl _ _).setCell (Or.inl (by simp)) _;have c0:Box (W.setCell ⟨w.heap.size,0,none⟩ v2) w.heap.size 24 #[v2]:=by have:=h.b0.put 0 v2;simpa using this
 have c1:Box ((W.setCell ⟨w.heap.size,0,none⟩ v2).setCell ⟨w.heap.size+1,0,none⟩ (.string s2)) (w.heap.size+1) 9 #[.string s2]:=by have:=(h.b1.kept f1 (by simp)).put 0 (.string s2);simpa using this
 have c2:Box (((W.setCell ⟨w.heap.size,0,none⟩ v2).setCell ⟨w.heap.size+1,0,none⟩ (.string s2)).setCell ⟨w.heap.size+2,0,none⟩ (.int .i64 e2)) (w.heap.size+2) 25 #[.int .i64 e2]:=by have:=((h.b2.kept f1 (by simp)).kept f2 (by simp)).put 0 (.int .i64 e2);simpa using this
 exact⟨⟨(c0.kept f2 (by simp)).kept f3 (by simp),c1.kept f3 (by simp),c2⟩,(f1.trans f2 (G:=[w.heap.size,w.heap.size+1,w.heap.size+2]) (by simp) (by simp)).trans f3 (fun g hg=>Or.inl hg) (by simp)⟩
theorem r3_new(w:World):R3 w (.slice none 0 0) ⟨#[]⟩ 0 (((w.alloc (.cells #[.slice none 0 0] 24)).alloc (.cells #[.string ⟨#[]⟩] 9)).alloc (.cells #[.int .i64 0] 25)):=by
 have z1:(w.alloc (.cells #[.slice none 0 0] 24)).heap.size=w.heap.size+1:=Array.size_push _;have z2:((w.alloc (.cells #[.slice none 0 0] 24)).alloc (.cells #[.string ⟨#[]⟩] 9)).heap.size=w.heap.size+2:=by rw[World.size_alloc,z1]
 have b0:=Box.new w 24 #[.slice none 0 0];have b1:=Box.new (w.alloc (.cells #[.slice none 0 0] 24)) 9 #[.string ⟨#[]⟩];have b2:=Box.new ((w.alloc (.cells #[.slice none 0 0] 24)).alloc (.cells #[.string ⟨#[]⟩] 9)) 25 #[.int .i64 0];rw[z1]at b1;rw[z2]at b2;exact⟨(b0.kept ((Fr.refl [] _).alloc (.cells #[.string ⟨#[]⟩] 9)) (by simp)).kept ((Fr.refl [] _).alloc (.cells #[.int .i64 0] 25)) (by simp),b1.kept ((Fr.refl [] _).alloc (.cells #[.int .i64 0] 25)) (by simp),b2⟩
theorem resolve_full(w:World)(A:Option Addr)(c:Nat)(l:List MU)(h8:8<l.length)(hl:l.length≤maxLen) :
 Calls Tryz.prog 6 #[.slice A l.length c] w (ResP 33 w (resP (l.map MU.su))):=by
 rw[res_full (by rw[List.length_map];exact h8)];obtain⟨n,hN⟩:∃n,Hid (n=l.length):=⟨_,hid rfl⟩;rw[←hN.out]at h8 hl ⊢;unfold maxLen at hl;have d1:decide ((8:Int)<(n:Int))=true:=decide_eq_true (by omega);obtain⟨W,hWe⟩:∃W,Hid (W=((w.alloc (.cells #[.slice none 0 0] 24)).alloc (.cells #[.string ⟨#[]⟩] 9)).alloc (.cells #[.int .i64 0] 25)):=⟨_,hid rfl⟩;have hz1:(w.alloc (.cells #[.slice none 0 0] 24)).heap.size=w.heap.size+1:=Array.size_push _;have hz2:((w.alloc (.cells #[.slice none 0 0] 24)).alloc (.cells #[.string ⟨#[]⟩] 9)).heap.size=w.heap.size+2:=by rw[World.size_alloc,hz1]
 have R0:=r3_new w;rw[←hWe.out]at R0;have b0:Below w.heap.size w W:=by rw[hWe.out];exact((((Fr.refl [] w).alloc _).alloc _).alloc _).all
 have z0:W.cell? ⟨w.heap.size,0,none⟩=some (.slice none 0 0):=R0.b0.cell 0;have z1:W.cell? ⟨w.heap.size+1,0,none⟩=some (.string ⟨#[]⟩):=R0.b1.cell 0;have z2:W.cell? ⟨w.heap.size+2,0,none⟩=some (.int .i64 0):=R0.b2.cell 0;have v0:=R0.b0.free 0;have v1:=R0.b1.free 0;have v2:=R0.b2.free 0;obtain⟨q1,q2⟩:=R0.set (.slice none 0 0) ⟨#[]⟩ 4;have HX:=hid q1;have HY:=hid (resP_nil (te:=33) (R:=(([]:List Sym),([]:List UInt8),(4:Int))) rfl (b0.trans (q2.below (by simp) b0.size)));clear q1 q2 R0 b0;go_enter Tryz.func6,Tryz.ntmps6;go_upto_region 1 with fail;rw[←hWe.out]
 try rw[hz2]
 try rw[hz1]
 try simp only[show w.heap.size+1+1=w.heap.size+2 from rfl]
 clear hWe hz1 hz2;go_wp2_with fail
 (try simp only[Exit.inBlock,Exit.then])
 refine bodyPost_ret (results_cells3 rfl _ _ _ _ _ _ _ _ rfl rfl rfl agg24 agg9 agg25 (HX.out.b0.cell 0) (HX.out.b1.cell 0) (HX.out.b2.cell 0)) rfl ?_;exact HY.out
end ym
namespace ym
open RowKit Go.Sort Shelf mem sy rng
open re (tx SU MU)
open sf (enc_tx)
attribute [local go_sem] Oper.semAt_some
structure Syms(w:World)(A:Option Addr)(rows:List SyR):Prop where
 t:Tbl w A 3 (rows.map SyR.row)
 r:∀r∈rows,Rd w r.A (r.wanted.map encStr)
theorem Syms.below{w w':World}{A:Option Addr}{rows:List SyR}(h:Syms w A rows)(hb:Below w.heap.size w w'):Syms w' A rows:=⟨h.t.below hb,fun r hr=>(h.r r hr).below hb⟩
theorem Syms.at_{w:World}{A:Option Addr}{rows:List SyR}(h:Syms w A rows){k:Nat}(hk:k<rows.length):∃g off,A=some ⟨g,off,none⟩∧g<w.heap.size∧∀i v,(rows[k].row)[i]? = some v→w.cell? ⟨g,off+k * 3+i,none⟩=some v:=by
 obtain⟨b,off,e,hl,hc⟩:=h.t (by rw[List.length_map];omega);exact⟨b,off,e,hl,fun i v hv=>hc k (by rw[List.length_map];exact hk) i v (by rw[List.getElem_map];exact hv)⟩
theorem num_mem{xs:List (List UInt8)}{x:List UInt8}:(0≤ins.numV xs x↔x∈xs):=by
 unfold ins.numV;split
 ·rename_i h
  exact⟨fun _=>h,fun _=>by omega⟩
 ·rename_i h
  exact⟨fun h2=>absurd h2 (by decide),fun h2=>absurd h2 h⟩
theorem tx_eq{a b:ByteArray}(h:tx a=tx b):a=b:=ByteArray.ext (Array.ext' h)
theorem beq_no{a b:ByteArray}(h:a≠b):(a.toList==b.toList)=false:=by
 rw[beq_eq_false_iff_ne];intro e
 apply h
 rw[ByteArray.toList_eq,ByteArray.toList_eq]at e;exact ByteArray.ext (Array.ext' e)
theorem beq_yes(a:ByteArray):(a.toList==a.toList)=true:=by simp
end ym
namespace ym
open RowKit Go.Sort Shelf mem sy
open re (tx SU MU SumM)
attribute [local go_sem] Oper.semAt_some
def INP(w:World)(s:MS)(n:List UInt8)(e:Ending)(w':World):Prop:=
 Below w.heap.size w w'∧match inM s n with
  | some (x,f)=>e=.returned (.tuple #[.agg x.row.toArray,.agg (fnRow f).toArray,.bool true])
  | none=>e=.returned (.tuple #[.agg #[.string ⟨#[]⟩,.string ⟨#[]⟩,.slice none 0 0],.agg #[.string ⟨#[]⟩,.string ⟨#[]⟩,.string ⟨#[]⟩],.bool false])
structure IB(w:World)(s:MS)(vo vf:Array Value)(W:World):Prop where
 b0:Box W w.heap.size 41 #[.slice s.oA s.os.length s.oc,.slice s.fA s.fs.length s.fc,.slice s.cA s.cs.length s.cc]
 b1:Box W (w.heap.size+1) 70 vo
 b2:Box W (w.heap.size+2) 72 vf
 on:Below w.heap.size w W
theorem ib_new(w:World)(s:MS):IB w s #[.string ⟨#[]⟩,.string ⟨#[]⟩,.slice none 0 0] #[.string ⟨#[]⟩,.string ⟨#[]⟩,.string ⟨#[]⟩] (((w.alloc (.cells #[.slice s.oA s.os.length s.oc,.slice s.fA s.fs.length s.fc,.slice s.cA s.cs.length s.cc] 41)).alloc (.cells #[.string ⟨#[]⟩,.string ⟨#[]⟩,.slice none 0 0] 70)).alloc (.cells #[.string ⟨#[]⟩,.string ⟨#[]⟩,.string ⟨#[]⟩] 72)):=by
 refine⟨((Box.new w _ _).kept ((Fr.refl [] _).alloc _) (by simp)).kept ((Fr.refl [] _).alloc _) (by simp),?_,?_,((((Fr.refl [] w).alloc _).alloc _).alloc _).all⟩
 ·have:=Box.new (w.alloc (.cells #[.slice s.oA s.os.length s.oc,.slice s.fA s.fs.length s.fc,.slice s.cA s.cs.length s.cc] 41)) 70 #[.string ⟨#[]⟩,.string ⟨#[]⟩,.slice none 0 0]
  rw[World.size_alloc]at this;exact this.kept ((Fr.refl [] _).alloc _) (by simp)
 ·have:=Box.new ((w.alloc (.cells #[.slice s.oA s.os.length s.oc,.slice s.fA s.fs.length s.fc,.slice s.cA s.cs.length s.cc] 41)).alloc (.cells #[.string ⟨#[]⟩,.string ⟨#[]⟩,.slice none 0 0] 70)) 72 #[.string ⟨#[]⟩,.string ⟨#[]⟩,.string ⟨#[]⟩]
  rw[World.size_alloc,World.size_alloc]at this;exact this
theorem find_at{α:Type}(p:α→Bool){l:List α}{k:Nat}(hk:k<l.length)(h1:∀x∈l.take k,p x=false)(h2:p l[k] = true):l.find? p=some l[k]:=by
 have e:l=l.take k++l[k] :: l.drop (k+1):=by rw[←List.drop_eq_getElem_cons hk,List.take_append_drop]
 have h3:(l.take k++l[k] :: l.drop (k+1)).find? p=some l[k]:=by
  rw[List.find?_append,List.find?_eq_none.2 (fun x hx=>by rw[h1 x hx];decide),Option.none_or];exact List.find?_cons_of_pos h2
 rwa[←e]at h3
theorem inM_obj{s:MS}{n:List UInt8}{k:Nat}(hk:k<s.os.length)(h1:∀x∈s.os.take k,tx x.o.name≠n)(h2:tx s.os[k].o.name=n):inM s n=some (s.os[k],fZ):=by
 unfold inM;rw[find_at (fun x=>decide (tx x.o.name=n)) hk (fun x hx=>decide_eq_false (h1 x hx)) (decide_eq_true h2)]
theorem inM_fn{s:MS}{n:List UInt8}{k:Nat}(h0:∀x∈s.os,tx x.o.name≠n)(hk:k<s.fs.length)(h1:∀x∈s.fs.take k,tx x.name≠n)(h2:tx s.fs[k].name=n):inM s n=some (⟨oZ,none,0⟩,s.fs[k]):=by
 unfold inM;rw[List.find?_eq_none.2 (fun x hx=>by rw[decide_eq_true_eq];exact h0 x hx)];dsimp only;rw[find_at (fun x=>decide (tx x.name=n)) hk (fun x hx=>decide_eq_false (h1 x hx)) (decide_eq_true h2)];rfl
theorem inM_no{s:MS}{n:List UInt8}(h0:∀x∈s.os,tx x.o.name≠n)(h1:∀x∈s.fs,tx x.name≠n):inM s n=none:=by
 unfold inM;rw[List.find?_eq_none.2 (fun x hx=>by rw[decide_eq_true_eq];exact h0 x hx)];dsimp only;rw[List.find?_eq_none.2 (fun x hx=>by rw[decide_eq_true_eq];exact h1 x hx)];rfl
end ym
end Go.Proofs.YtlkboeajkgbnaaaGreatDoor
