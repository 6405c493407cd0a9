import Derived.Test.YtlkboeajkgbnaaaGreatDoorC37
import Derived.Test.YtlkboeajkgbnaaaGreatDoorC40
import Derived.Test.YtlkboeajkgbnaaaGreatDoorC36
set_option linter.all false
set_option maxHeartbeats 4000000
namespace Go.Proofs.YtlkboeajkgbnaaaGreatDoor
open Lib(hid)
set_option maxRecDepth 100000
set_option maxHeartbeats 16000000
namespace ym
open RowKit Go.Sort Shelf mem sy rng
open re (tx SU MU SumM)
open sf (map_tx enc_tx SumK)
open inn (rsS intoS rs_len)
attribute [local go_sem] Oper.semAt_some
theorem INP.no{w w':World}{s:MS}{n:List UInt8}{e:Ending}(hI:inM s n=none)(h:INP w s n e w'):Below w.heap.size w w'∧e=.returned (.tuple #[.agg #[.string ⟨#[]⟩,.string ⟨#[]⟩,.slice none 0 0],.agg #[.string ⟨#[]⟩,.string ⟨#[]⟩,.string ⟨#[]⟩],.bool false]):=by
 unfold INP at h;rw[hI]at h;exact h
theorem INP.yes{w w':World}{s:MS}{n:List UInt8}{e:Ending}{x:MO}{f:SF}(hI:inM s n=some (x,f))(h:INP w s n e w'):Below w.heap.size w w'∧e=.returned (.tuple #[.agg #[.string x.o.name,.string x.o.kinds,.slice x.mA x.o.marks.length x.mc],.agg #[.string f.name,.string f.kinds,.string f.ret],.bool true]):=by
 unfold INP at h;rw[hI]at h;exact h
theorem inM_ok{w:World}{s:MS}{n:List UInt8}{x:MO}{f:SF}(hI:inM s n=some (x,f))(h:SysM w s):MOk w x:=by
 unfold inM at hI;split at hI
 ·rename_i y hy
  injection hI with e;injection e with e1 e2;subst e1;exact h.ok _ (List.mem_of_find?_eq_some hy)
 ·cases hf:s.fs.find? (fun f=>decide (tx f.name=n))with
  | none=>rw[hf]at hI;cases hI
  | some y=>
   rw[hf]at hI;injection hI with e;injection e with e1 e2;subst e1;exact⟨Nat.zero_le _,Nat.zero_le _,(fun h=>by simp[oZ]at h),Nat.zero_le _,(fun m hm=>by cases hm),(fun m hm=>by cases hm),Nat.le_refl _⟩
theorem uSymR:Tryz.prog.underlying 34=some (.struct (Tryz.prog.fieldsOf 34)):=by kernel_rfl
noncomputable def sR:Code→Code
 | .seq _ b=>b
 | c=>c
noncomputable def oneRest:Code:=match (Tryz.f20).body with
 | some b=>sR (sR (sR (sR (sR (sR (sR b))))))
 | none=>.ret
theorem one_end(w:World)(n:ByteArray)(l:List MU)(A:Option Addr)(c:Nat)(k g s:Nat)(gv:ByteArray)(wl:List (List UInt8))(B:Option Addr)(cB:Nat)(ob:MO)(fb:SF)(owb smb:Bool)(wr:World)(Q:Ending→World→Prop)(hl:k≤900)(hg1:g≤k)(hs1:s≤k)(hw1:wl.length≤k)
 (hQ:Hid (Q=OneP w n (usT l (tx n) k))) (HO:Hid (OM w n gv wl B cB ob fb wr)) (HT:Hid (OSt (usT l (tx n) k) gv wl g s owb smb ob.o fb)) (u2 u3 u15 u16 u17 u18 u19 u20 u21 u22 u23 u24 u25 u26 u27 u28 u29 u30 u31 u32 u33 u34 u35 u36 u37 u38 u39 u40 u41 u42 u43 u44 u45 u46 u47 u48 u49 u50 u51 u52 u53 u54 u55 u56 u57 u58 u59 u60 u61 u62 u63 u64 u65 u66 u67 u68 u69 u70 u71 u72 u73 u74 u75 u76 u77 u78 u79 u80 u81 u82 u83 u84 u85 u86 u87 u88 u89 u90 u91 u92 u93 u94 u95 u96 u97 u98 u99 u100 u101 u102 u103 u104 u105 u106 u107 u108 u109 u110 u111 u112 u113 u114 u115 u116 u117 u118 u119 u120 u121 u122 u123 u124 u125 u126 u127 u128 u129:Value) :
 Code.wp Tryz.prog oneRest (bodyPost Tryz.prog Tryz.f20 Q) { tmps:=#[.slice A k c,.string n,u2,u3,.pointer (some ⟨w.heap.size,0,none⟩),.bool false,.int .i64 0,.pointer (some ⟨w.heap.size+1,0,none⟩),.int .i64 g,.int .i64 s,.bool owb,.bool smb,.pointer (some ⟨w.heap.size+2,0,none⟩),.pointer (some ⟨w.heap.size+3,0,none⟩),.int .i64 k,u15,u16,u17,u18,u19,u20,u21,u22,u23,u24,u25,u26,u27,u28,u29,u30,u31,u32,u33,u34,u35,u36,u37,u38,u39,u40,u41,u42,u43,u44,u45,u46,u47,u48,u49,u50,u51,u52,u53,u54,u55,u56,u57,u58,u59,u60,u61,u62,u63,u64,u65,u66,u67,u68,u69,u70,u71,u72,u73,u74,u75,u76,u77,u78,u79,u80,u81,u82,u83,u84,u85,u86,u87,u88,u89,u90,u91,u92,u93,u94,u95,u96,u97,u98,u99,u100,u101,u102,u103,u104,u105,u106,u107,u108,u109,u110,u111,u112,u113,u114,u115,u116,u117,u118,u119,u120,u121,u122,u123,u124,u125,u126,u127,u128,u129],defers:=[] } wr:=by
 dsimp only[oneRest,sR,Tryz.f20];have hdummy:True:=trivial;obtain⟨wn,hwn⟩:∃wn,Hid (wn=wl.length):=⟨_,hid rfl⟩;obtain⟨E1,hE1⟩:∃b,Hid (b=(decide (1<g)||(decide (1<s)&&owb))):=⟨_,hid rfl⟩;obtain⟨E3,hE3⟩:∃b,Hid (b=(decide (0<wl.length)&&decide (g=0))):=⟨_,hid rfl⟩;have HE:=hid HT.out.code;rw[←hE1.out,←hE3.out]at HE;rw[←hwn.out]at hw1 hE3;have r2:wr.cell? ⟨w.heap.size+1,2,none⟩=some (.slice B wn cB):=by rw[hwn.out];exact HO.out.b1.cell 2
 clear hdummy;go_upto_region 24 with fail
 go_cut [102] from 103 to 129 (fun z wx=>z=.bool E1∧wr=wx)
 case first=>
  clear HE HT r2 hE3;by_cases h1:1<g
  ·have q1:decide ((1:Int)<(g:Int))=true:=decide_eq_true (by omega)
   have q2:E1=true:=by rw[hE1.out,decide_eq_true h1];rfl
   clear hE1;go_wp2_with fail
   go_meet
   exact⟨by rw[q2],rfl⟩
  ·have q1:decide ((1:Int)<(g:Int))=false:=decide_eq_false (by omega)
   by_cases h2:1<s
   ·have q3:decide ((1:Int)<(s:Int))=true:=decide_eq_true (by omega)
    have q2:owb=E1:=by rw[hE1.out,decide_eq_false h1,decide_eq_true h2];simp
    clear hE1;go_wp2_with fail
    go_meet
    exact⟨by rw[←q2],rfl⟩
   ·have q3:decide ((1:Int)<(s:Int))=false:=decide_eq_false (by omega)
    have q2:E1=false:=by rw[hE1.out,decide_eq_false h1,decide_eq_false h2];rfl
    clear hE1;go_wp2_with fail
    go_meet
    exact⟨by rw[q2],rfl⟩
 case rest=>
  obtain⟨rfl,rfl⟩:=hcut;clear hE1;rcases E1 with _ | _;rotate_left
  ·have z0:=HO.out.b0.cell 0
   have z1:=HO.out.b0.cell 1;have z2:=HO.out.b0.cell 2;have f0:=HO.out.b0.free 0;have f1:=HO.out.b0.free 1;have f2:=HO.out.b0.free 2;have zl:=HO.out.b0.lt;obtain⟨q1,q2⟩:=three_put HO.out.b0 (.string ⟨#[]⟩) (.string ⟨#[]⟩) (.slice none 0 0);have HX:=hid q1
   have hfin:Hid (Q (.returned (.tuple #[.agg #[.string ⟨#[]⟩,.string ⟨#[]⟩,.slice none 0 0],.bool false,.int .i64 8])) (((wr.setCell ⟨w.heap.size,0,none⟩ (.string ⟨#[]⟩)).setCell ⟨w.heap.size,1,none⟩ (.string ⟨#[]⟩)).setCell ⟨w.heap.size,2,none⟩ (.slice none 0 0))):=hid (by
    rw[hQ.out];have he:symE 12 (usT l (tx n) k)=8:=by rw[HE.out];simp
    exact⟨HO.out.on.trans (q2.below (by simp) HO.out.on.size),fun h=>absurd (he.symm.trans h) (by decide),fun _=>by rw[he]⟩)
   clear q1 q2 hQ HE HT;go_wp2_with fail
   (try simp only[Exit.inBlock,Exit.then])
   refine bodyPost_ret (results_ctt rfl _ _ _ _ _ _ _ _ _ rfl rfl rfl HX.out uSymR rfl (by kernel_rfl)) rfl ?_;exact hfin.out
  rcases smb with _ | _
  ·have z0:=HO.out.b0.cell 0
   have z1:=HO.out.b0.cell 1;have z2:=HO.out.b0.cell 2;have f0:=HO.out.b0.free 0;have f1:=HO.out.b0.free 1;have f2:=HO.out.b0.free 2;have zl:=HO.out.b0.lt;obtain⟨q1,q2⟩:=three_put HO.out.b0 (.string ⟨#[]⟩) (.string ⟨#[]⟩) (.slice none 0 0);have HX:=hid q1
   have hfin:Hid (Q (.returned (.tuple #[.agg #[.string ⟨#[]⟩,.string ⟨#[]⟩,.slice none 0 0],.bool false,.int .i64 12])) (((wr.setCell ⟨w.heap.size,0,none⟩ (.string ⟨#[]⟩)).setCell ⟨w.heap.size,1,none⟩ (.string ⟨#[]⟩)).setCell ⟨w.heap.size,2,none⟩ (.slice none 0 0))):=hid (by
    rw[hQ.out];have he:symE 12 (usT l (tx n) k)=12:=by rw[HE.out];simp
    exact⟨HO.out.on.trans (q2.below (by simp) HO.out.on.size),fun h=>absurd (he.symm.trans h) (by decide),fun _=>by rw[he]⟩)
   clear q1 q2 hQ HE HT;go_wp2_with fail
   (try simp only[Exit.inBlock,Exit.then])
   refine bodyPost_ret (results_ctt rfl _ _ _ _ _ _ _ _ _ rfl rfl rfl HX.out uSymR rfl (by kernel_rfl)) rfl ?_;exact hfin.out
  go_upto_region 28 with fail
  go_cut [117] from 118 to 129 (fun z wx=>z=.bool E3∧wr=wx)
  case first=>
   clear HE HT;by_cases h1:0<wn
   ·have q1:decide ((0:Int)<(wn:Int))=true:=decide_eq_true (by omega)
    by_cases h2:g=0
    ·have q3:((g:Int)==0)=true:=by rw[h2];rfl
     have q2:E3=true:=by rw[hE3.out,decide_eq_true h1,decide_eq_true h2];rfl
     clear hE3 h2;go_wp2_with fail
     go_meet
     exact⟨by rw[q2],rfl⟩
    ·have q3:((g:Int)==0)=false:=by rw[beq_eq_false_iff_ne];omega
     have q2:E3=false:=by rw[hE3.out,decide_eq_true h1,decide_eq_false h2];rfl
     clear hE3 h2;go_wp2_with fail
     go_meet
     exact⟨by rw[q2],rfl⟩
   ·have q1:decide ((0:Int)<(wn:Int))=false:=decide_eq_false (by omega)
    have q2:E3=false:=by rw[hE3.out,decide_eq_false h1];rfl
    clear hE3;go_wp2_with fail
    go_meet
    exact⟨by rw[q2],rfl⟩
  case rest=>
   obtain⟨rfl,rfl⟩:=hcut;clear hE3;rcases E3 with _ | _;rotate_left
   ·have z0:=HO.out.b0.cell 0
    have z1:=HO.out.b0.cell 1;have z2:=HO.out.b0.cell 2;have f0:=HO.out.b0.free 0;have f1:=HO.out.b0.free 1;have f2:=HO.out.b0.free 2;have zl:=HO.out.b0.lt;obtain⟨q1,q2⟩:=three_put HO.out.b0 (.string ⟨#[]⟩) (.string ⟨#[]⟩) (.slice none 0 0);have HX:=hid q1
    have hfin:Hid (Q (.returned (.tuple #[.agg #[.string ⟨#[]⟩,.string ⟨#[]⟩,.slice none 0 0],.bool false,.int .i64 7])) (((wr.setCell ⟨w.heap.size,0,none⟩ (.string ⟨#[]⟩)).setCell ⟨w.heap.size,1,none⟩ (.string ⟨#[]⟩)).setCell ⟨w.heap.size,2,none⟩ (.slice none 0 0))):=hid (by
     rw[hQ.out];have he:symE 12 (usT l (tx n) k)=7:=by rw[HE.out];simp
     exact⟨HO.out.on.trans (q2.below (by simp) HO.out.on.size),fun h=>absurd (he.symm.trans h) (by decide),fun _=>by rw[he]⟩)
    clear q1 q2 hQ HE HT;go_wp2_with fail
    (try simp only[Exit.inBlock,Exit.then])
    refine bodyPost_ret (results_ctt rfl _ _ _ _ _ _ _ _ _ rfl rfl rfl HX.out uSymR rfl (by kernel_rfl)) rfl ?_;exact hfin.out
   have h0:symE 12 (usT l (tx n) k)=0:=by rw[HE.out];simp
   have HN1:Hid (∀w2,Below w.heap.size w w2→Seg w2 9 B cB (wl.map encStr)→Q (.returned (.tuple #[.agg #[.string n,.string gv,.slice B wn cB],.bool ((g:Int)==1),.int .i64 0])) w2):=hid (fun w2 b hs=>by
    rw[hQ.out];refine⟨b,fun _=>⟨B,cB,?_,?_⟩,fun h=>absurd h0 h⟩
    ·rw[←HT.out.gv,←HT.out.wl,←HT.out.ng,←hwn.out]
     have e:((g:Int)==1)=decide (g=1):=by
      rw[Bool.eq_iff_iff,beq_iff_eq,decide_eq_true_eq];omega
     rw[e]
    ·rw[←HT.out.wl];exact hs)
   clear h0 HE hQ HT;have z0:=HO.out.b0.cell 0;have z1:=HO.out.b0.cell 1;have z2:=HO.out.b0.cell 2;have f0:=HO.out.b0.free 0;have f1:=HO.out.b0.free 1;have f2:=HO.out.b0.free 2;have zl:=HO.out.b0.lt;have y0:wr.cell? ⟨w.heap.size+1,0,none⟩=some (.string n):=HO.out.b1.cell 0;have y1:wr.cell? ⟨w.heap.size+1,1,none⟩=some (.string gv):=HO.out.b1.cell 1;obtain⟨q1,q2⟩:=three_put HO.out.b0 (.string n) (.string gv) (.slice B wn cB);have HX:=hid q1;have hB:=HO.out.sg.ne_box HO.out.b0 (by decide);have hfin:=hid (HN1.out _ (HO.out.on.trans (q2.below (by simp) HO.out.on.size)) (HO.out.sg.kept q2 (fun g hg e=>hB (by rw[List.mem_singleton]at e;exact e ▸ hg))));clear q1 q2 hB HN1 HO hwn;go_wp2_with fail
   (try simp only[Exit.inBlock,Exit.then])
   refine bodyPost_ret (results_ctt rfl _ _ _ _ _ _ _ _ _ rfl rfl rfl HX.out uSymR rfl (by kernel_rfl)) rfl ?_;exact hfin.out
theorem one_any(hm:sf.HeldS)(w:World)(A:Option Addr)(c:Nat)(l:List MU)(n:ByteArray)(h:SusM w A l)(hl:l.length≤900) :
 Calls Tryz.prog 20 #[.slice A l.length c,.string n] w (OneP w n ((l.map MU.su).filterMap (fun u=>inU u (tx n)))):=by
 obtain⟨W,hW⟩:∃W,Hid (W=(((w.alloc (.cells #[.string ⟨#[]⟩,.string ⟨#[]⟩,.slice none 0 0] 34)).alloc (.cells #[.string n,.string ⟨#[]⟩,.slice none 0 0] 34)).alloc (.cells #[.string ⟨#[]⟩,.string ⟨#[]⟩,.slice none 0 0] 70)).alloc (.cells #[.string ⟨#[]⟩,.string ⟨#[]⟩,.string ⟨#[]⟩] 72)):=⟨_,hid rfl⟩;have O00:=om_new w n;rw[←hW.out]at O00;have O0:=hid O00;have hz1:(w.alloc (.cells #[.string ⟨#[]⟩,.string ⟨#[]⟩,.slice none 0 0] 34)).heap.size=w.heap.size+1:=Array.size_push _;have hz2:((w.alloc (.cells #[.string ⟨#[]⟩,.string ⟨#[]⟩,.slice none 0 0] 34)).alloc (.cells #[.string n,.string ⟨#[]⟩,.slice none 0 0] 34)).heap.size=w.heap.size+2:=by rw[World.size_alloc,hz1]
 have hz3:(((w.alloc (.cells #[.string ⟨#[]⟩,.string ⟨#[]⟩,.slice none 0 0] 34)).alloc (.cells #[.string n,.string ⟨#[]⟩,.slice none 0 0] 34)).alloc (.cells #[.string ⟨#[]⟩,.string ⟨#[]⟩,.slice none 0 0] 70)).heap.size=w.heap.size+3:=by rw[World.size_alloc,hz2]
 have HS:=hid (fun(w2:World) (b:Below w.heap.size w w2)=>h.below b);have HS0:=hid h;have HM:=hid hm;obtain⟨N,hN⟩:∃N,Hid (N=l.length):=⟨_,hid rfl⟩;have HA:Hid (usT l (tx n) N=(l.map MU.su).filterMap (fun u=>inU u (tx n))):=hid (by rw[hN.out,usT_all]);rw[←HA.out];rw[←hN.out]at hl ⊢;obtain⟨Q,hQ⟩:∃Q:Ending→World→Prop,Hid (Q=OneP w n (usT l (tx n) N)):=⟨_,hid rfl⟩;rw[←hQ.out];have T0:Hid (OSt (usT l (tx n) 0) ⟨#[]⟩ [] 0 0 false true oZ fZ):=hid OSt.new;have K0:Hid (MOk w ⟨oZ,none,0⟩):=hid ⟨Nat.zero_le _,Nat.zero_le _,(fun h=>by simp[oZ]at h),Nat.zero_le _,(fun m hm=>by cases hm),(fun m hm=>by cases hm),Nat.le_refl _⟩;clear h O00 hm HA;go_enter Tryz.func20,Tryz.ntmps20;go_upto_region 6 with fail;rw[←hW.out]
 try rw[hz3]
 try rw[hz2]
 try rw[hz1]
 try simp only[show w.heap.size+1+1=w.heap.size+2 from rfl,show w.heap.size+1+1+1=w.heap.size+3 from rfl,show w.heap.size+2+1=w.heap.size+3 from rfl]
 clear hW hz1 hz2 hz3;go_wp2_with fail;go_loopw [8,9,10,11,14] (fun ng ns ow sm i wr=>∃(k g s:Nat) (gv:ByteArray) (wl:List (List UInt8)) (B:Option Addr) (cB:Nat) (ob:MO) (fb:SF) (owb smb:Bool),k≤N∧g≤k∧s≤k∧wl.length≤k∧ng=.int .i64 g∧ns=.int .i64 s∧ow=.bool owb∧sm=.bool smb∧i=.int .i64 k∧Hid (OM w n gv wl B cB ob fb wr)∧Hid (MOk w ob)∧Hid (OSt (usT l (tx n) k) gv wl g s owb smb ob.o fb)) (fun _ _ _ _ i _=>N-(intOf i).toNat)
 case atStart=>exact⟨0,0,0,⟨#[]⟩,[],none,0,⟨oZ,none,0⟩,fZ,false,true,by omega,by omega,by omega,by simp,rfl,rfl,rfl,rfl,rfl,O0,K0,T0⟩
 case round=>
  obtain⟨k,g,s,gv,wl,B,cB,ob,fb,owb,smb,hk,hg1,hs1,hw1,rfl,rfl,rfl,rfl,rfl,HO,HK,HT⟩:=hrel
  rename World=>wr
  clear O0 K0 T0;by_cases hkl:k<N
  ·have d2:decide ((k:Int)<(N:Int))=true:=decide_eq_true (by omega)
   have hki:(k:Int)<(N:Int):=by omega
   have hkx:k<l.length:=by rw[←hN.out];exact hkl
   obtain⟨ga,off,rfl,hga,hc⟩:=(HS.out wr HO.out.on).at_ hkx;have HC:Hid (∀w2,Below wr.heap.size wr w2→(∀i v,(rowS l[k])[i]? = some v→w2.cell? ⟨ga,off+k * 7+i,none⟩=some v)∧SumK w2 l[k]):=hid (fun w2 b=>⟨fun i v hv=>World.cell?_of_block (w:=wr) (a:=⟨ga,off+k * 7+i,none⟩) ((Fr.of_below b []).block ga hga (by simp)) |>.trans (hc i v hv),((HS.out wr HO.out.on).k _ (List.getElem_mem hkx)).below b⟩);have HK1:Hid (SumK w l[k]):=hid (HS0.out.k _ (List.getElem_mem hkx));have HUk:Hid (usT l (tx n) (k+1)=usT l (tx n) k++((inM l[k].s (tx n)).map (fun p=>mkUse l[k].su n p.1.o p.2)).toList):=hid (by rw[usT_succ l (tx n) hkx,inU_inM])
   have HN0:Hid (∀w2,Below w.heap.size w w2→w2.cell? ⟨ga,off+k * 7,none⟩=some (.string l[k].name)):=hid (fun w2 b=>by
    obtain⟨g',o',e,_,hc'⟩:=(HS.out w2 b).at_ hkx;cases e
    exact hc' 0 _ rfl)
   generalize l[k] = u at *;clear hc hga;obtain⟨U,hU⟩:∃U,Hid (U=usT l (tx n) k):=⟨_,hid rfl⟩;rw[←hU.out]at HT HUk;clear hU;have KI:=hid (rin_any wr u.s n (HC.out wr (Below.refl _ _)).2.m.sr);unfold MS.val at KI
   have KG:Hid (∀w2,Below wr.heap.size wr w2→Calls Tryz.prog 18 #[.slice u.gA u.gives.length u.gc,.string n] w2 (fun e w'=>e=.returned (.int .i64 (ins.numV (u.gives.map tx) (tx n)))∧w2=w')):=hid (fun w2 b=>by
    have q:=ins.number_any w2 u.gA u.gc (u.gives.map tx) (tx n) (by rw[map_tx];exact(HC.out w2 b).2.m.gr) (by rw[List.length_map];exact(HC.out w2 b).2.gl);rw[enc_tx,List.length_map]at q
    exact q)
   have KW:Hid (∀w2,Below wr.heap.size wr w2→Calls Tryz.prog 18 #[.slice u.wA u.wants.length u.wc,.string n] w2 (fun e w'=>e=.returned (.int .i64 (ins.numV (u.wants.map tx) (tx n)))∧w2=w')):=hid (fun w2 b=>by
    have q:=ins.number_any w2 u.wA u.wc (u.wants.map tx) (tx n) (by rw[map_tx];exact(HC.out w2 b).2.m.wr) (by rw[List.length_map];have:=(HC.out w2 b).2.wl;omega);rw[enc_tx,List.length_map]at q
    exact q)
   have HC0:=(HC.out wr (Below.refl _ _)).1;unfold rowS at HC0;have c4:wr.cell? ⟨ga,off+k * 7+4,none⟩=some (.slice u.s.oA u.s.os.length u.s.oc):=HC0 4 _ rfl;have c5:wr.cell? ⟨ga,off+k * 7+5,none⟩=some (.slice u.s.fA u.s.fs.length u.s.fc):=HC0 5 _ rfl;have c6:wr.cell? ⟨ga,off+k * 7+6,none⟩=some (.slice u.s.cA u.s.cs.length u.s.cc):=HC0 6 _ rfl;clear HC0;rcases hI:inM u.s (tx n)with _ | ⟨mo,mf⟩
   ·have HI:=hid hI
    rw[hI]at HUk;have HT2:Hid (OSt (usT l (tx n) (k+1)) gv wl g s owb smb ob.o fb):=hid (by rw[HUk.out];simpa using HT.out);clear hI HUk HT KG KW HK1;go_wp2_with fail;refine KI.out.mono ?_;rintro e w2 hin;obtain⟨b2,rfl⟩:=INP.no HI.out hin;obtain⟨w3,hw3⟩:∃w3,Hid (w3=(w2.alloc (.cells #[.string ⟨#[]⟩,.string ⟨#[]⟩,.slice none 0 0] 70)).alloc (.cells #[.string ⟨#[]⟩,.string ⟨#[]⟩,.string ⟨#[]⟩] 72)):=⟨_,hid rfl⟩;have HO3:Hid (OM w n gv wl B cB ob fb w3):=hid (by rw[hw3.out];exact(HO.out.below b2).below ((((Fr.refl [] w2).alloc _).alloc _).all));clear hin KI HI HC c4 c5 c6;go_upto_region 10 with fail;rw[←hw3.out];clear hw3 HO b2;go_wp2_with fail;go_roundw
    case rel=>exact⟨k+1,g,s,gv,wl,B,cB,ob,fb,owb,smb,by omega,by omega,by omega,by omega,rfl,rfl,rfl,rfl,by go_num,HO3,HK,HT2⟩
    case measure=>simp[intOf];omega
   ·have HI:=hid hI
    rw[hI]at HUk;have HK2:Hid (MOk w mo):=hid (inM_ok HI.out HK1.out.m.sr);have HT2:=hid (HT.out.step (mkUse u.su n mo.o mf));have HUk2:Hid (usT l (tx n) (k+1)=U++[mkUse u.su n mo.o mf]):=hid (by rw[HUk.out];rfl);rw[←HUk2.out]at HT2;have e1:(mkUse u.su n mo.o mf).g=decide (tx n∈u.gives.map tx):=rfl;have e2:(mkUse u.su n mo.o mf).w=decide (tx n∈u.wants.map tx):=rfl;have e3:(mkUse u.su n mo.o mf).m=u.name:=rfl;have e4:(mkUse u.su n mo.o mf).o=mo.o:=rfl;have e5:(mkUse u.su n mo.o mf).f=mf:=rfl;have e6:likeB s (mkUse u.su n mo.o mf) ob.o fb=(decide (s=0)||(sf.pB (mo.o=ob.o)&&sameF mf fb)):=rfl;rw[e1,e2,e3,e4,e5,e6]at HT2;clear e1 e2 e3 e4 e5 e6 HUk2 HUk HT hI HK1;obtain⟨gb,hgb⟩:∃gb,Hid (gb=decide (tx n∈u.gives.map tx)):=⟨_,hid rfl⟩;obtain⟨wb,hwb⟩:∃wb,Hid (wb=decide (tx n∈u.wants.map tx)):=⟨_,hid rfl⟩;have Dg:Hid (decide ((0:Int)≤ins.numV (u.gives.map tx) (tx n))=gb):=hid (by rw[hgb.out];exact decide_eq_decide.2 num_mem)
    have Dw:Hid (decide ((0:Int)≤ins.numV (u.wants.map tx) (tx n))=wb):=hid (by rw[hwb.out];exact decide_eq_decide.2 num_mem);rw[←hgb.out,←hwb.out]at HT2;clear hgb hwb;go_wp2_with fail;refine KI.out.mono ?_;rintro e w2 hin;obtain⟨b2,rfl⟩:=INP.yes HI.out hin;obtain⟨w3,hw3⟩:∃w3,Hid (w3=(w2.alloc (.cells #[.string mo.o.name,.string mo.o.kinds,.slice mo.mA mo.o.marks.length mo.mc] 70)).alloc (.cells #[.string mf.name,.string mf.kinds,.string mf.ret] 72)):=⟨_,hid rfl⟩;have b23:Below w2.heap.size w2 w3:=by rw[hw3.out];exact((((Fr.refl [] w2).alloc _).alloc _).all)
    have B13:=hid (b2.trans (b23.mono b2.size));have HO3:Hid (OM w n gv wl B cB ob fb w3):=hid ((HO.out.below b2).below b23);have XA:Hid (Box w3 w2.heap.size 70 #[.string mo.o.name,.string mo.o.kinds,.slice mo.mA mo.o.marks.length mo.mc]):=hid (by rw[hw3.out];exact(Box.new w2 _ _).kept ((Fr.refl [] _).alloc _) (by simp))
    have XB:Hid (Box w3 (w2.heap.size+1) 72 #[.string mf.name,.string mf.kinds,.string mf.ret]):=hid (by
     have q:=Box.new (w2.alloc (.cells #[.string mo.o.name,.string mo.o.kinds,.slice mo.mA mo.o.marks.length mo.mc] 70)) 72 #[.string mf.name,.string mf.kinds,.string mf.ret];rw[World.size_alloc]at q
     rw[hw3.out];exact q)
    have hsz:w.heap.size+4≤w2.heap.size:=by
     have h1:=HO.out.b3.lt;have h2:=b2.size;omega
    clear hin KI HI c4 c5 c6;go_upto_region 11 with fail;rw[←hw3.out]
    try simp only[World.size_alloc]
    clear hw3 HO b2 b23;generalize w2.heap.size=ba at *;have c1:w3.cell? ⟨ga,off+k * 7+1,none⟩=some (.slice u.gA u.gives.length u.gc):=(HC.out w3 B13.out).1 1 _ rfl;have c2:w3.cell? ⟨ga,off+k * 7+2,none⟩=some (.slice u.wA u.wants.length u.wc):=(HC.out w3 B13.out).1 2 _ rfl;have K1:=hid (KG.out w3 B13.out);have K2:=hid (KW.out w3 B13.out);clear KG KW;go_wp2_with fail;refine K1.out.mono ?_;rintro e w4 ⟨rfl,rfl⟩;have dg:=Dg.out;generalize ins.numV (u.gives.map tx) (tx n)=vg at *;go_upto_region 12 with fail
    try rw[dg]
    clear dg Dg K1 c1;go_wp2_with fail;refine K2.out.mono ?_;rintro e w4 ⟨rfl,rfl⟩;have dw:=Dw.out;generalize ins.numV (u.wants.map tx) (tx n)=vw at *;go_upto_region 13 with fail
    try rw[dw]
    clear dw Dw K2 c2;obtain⟨lb,hlb⟩:∃lb,Hid (lb=(decide (s=0)||(sf.pB (mo.o=ob.o)&&sameF mf fb))):=⟨_,hid rfl⟩;rw[←hlb.out]at HT2
    go_cut [69] from 22 to 101 (fun z wx=>z=.bool (!lb)∧Hid (Below w3.heap.size w3 wx))
    case first=>
     clear HT2;by_cases hs0:s=0
     ·have q1:decide ((0:Int)<(s:Int))=false:=decide_eq_false (by omega)
      have q2:lb=true:=by rw[hlb.out,hs0];simp
      subst hs0;go_wp2_with fail
      go_meet
      exact⟨by rw[q2];rfl,hid (Below.refl _ _)⟩
     ·have q1:decide ((0:Int)<(s:Int))=true:=decide_eq_true (by omega)
      have KS:=sf.sameobj_g HM.out mo.o ob.o mo.mA ob.mA mo.mc ob.mc w3 (HK2.out.below HO3.out.on) (HK.out.below HO3.out.on);replace KS:=hid KS;unfold sf.EqP at KS;have hlb2:Hid (lb=(sf.pB (mo.o=ob.o)&&sameF mf fb)):=hid (by rw[hlb.out,decide_eq_false hs0,Bool.false_or]);clear hlb;have x0:w3.cell? ⟨ba,0,none⟩=some (.string mo.o.name):=XA.out.cell 0;have x1:w3.cell? ⟨ba,1,none⟩=some (.string mo.o.kinds):=XA.out.cell 1;have x2:w3.cell? ⟨ba,2,none⟩=some (.slice mo.mA mo.o.marks.length mo.mc):=XA.out.cell 2;have y0:w3.cell? ⟨w.heap.size+2,0,none⟩=some (.string ob.o.name):=HO3.out.b2.cell 0;have y1:w3.cell? ⟨w.heap.size+2,1,none⟩=some (.string ob.o.kinds):=HO3.out.b2.cell 1;have y2:w3.cell? ⟨w.heap.size+2,2,none⟩=some (.slice ob.mA ob.o.marks.length ob.mc):=HO3.out.b2.cell 2;go_wp2_with fail;refine KS.out.mono ?_;rintro e w4 ⟨rfl,b4⟩;have B4:=hid b4;have u0:w4.cell? ⟨ba+1,0,none⟩=some (.string mf.name):=(XB.out.kept (Fr.of_below b4 []) (by simp)).cell 0
      have u1:w4.cell? ⟨ba+1,1,none⟩=some (.string mf.kinds):=(XB.out.kept (Fr.of_below b4 []) (by simp)).cell 1;have u2:w4.cell? ⟨ba+1,2,none⟩=some (.string mf.ret):=(XB.out.kept (Fr.of_below b4 []) (by simp)).cell 2;have v0:w4.cell? ⟨w.heap.size+3,0,none⟩=some (.string fb.name):=(HO3.out.below b4).b3.cell 0;have v1:w4.cell? ⟨w.heap.size+3,1,none⟩=some (.string fb.kinds):=(HO3.out.below b4).b3.cell 1;have v2:w4.cell? ⟨w.heap.size+3,2,none⟩=some (.string fb.ret):=(HO3.out.below b4).b3.cell 2;clear KS x0 x1 x2 y0 y1 y2 b4;generalize sf.pB (mo.o=ob.o)=pb at *;have EQ:=HM.out.f mf fb;have GU:=HM.out.gf;rcases pb with _ | _
      ·go_wp2_with fail
       go_meet
       exact⟨by rw[hlb2.out];rfl,B4⟩
      ·rcases hsf:sameF mf fb with _ | _
       ·rw[hsf]at EQ hlb2
        go_wp2_with fail
        go_meet
        exact⟨by rw[hlb2.out];rfl,B4⟩
       ·rw[hsf]at EQ hlb2
        go_wp2_with fail
        go_meet
        exact⟨by rw[hlb2.out];rfl,B4⟩
    case rest=>
     obtain⟨rfl,HB4⟩:=hcut
     rename World=>w4
     have HO4:=hid (HO3.out.below HB4.out);have HB14:=hid (B13.out.trans (HB4.out.mono B13.out.size));have XA4:=hid (XA.out.kept (Fr.of_below HB4.out []) (by simp));have XB4:=hid (XB.out.kept (Fr.of_below HB4.out []) (by simp));clear HO3 B13 XA XB HB4 hlb HM
     go_upto_if 69 with fail
     go_cut [11] from 22 to 101 (fun z wx=>z=.bool (smb&&lb)∧w4=wx)
     case first=>
      clear HT2;rcases lb with _ | _
      ·go_wp2_with fail
       go_meet
       exact⟨by simp,rfl⟩
      ·go_wp2_with fail
       go_meet
       exact⟨by simp,rfl⟩
     case rest=>
      obtain⟨rfl,rfl⟩:=hcut;have x0:w4.cell? ⟨ba,0,none⟩=some (.string mo.o.name):=XA4.out.cell 0;have x1:w4.cell? ⟨ba,1,none⟩=some (.string mo.o.kinds):=XA4.out.cell 1;have x2:w4.cell? ⟨ba,2,none⟩=some (.slice mo.mA mo.o.marks.length mo.mc):=XA4.out.cell 2;have z0:=HO4.out.b2.cell 0;have z1:=HO4.out.b2.cell 1;have z2:=HO4.out.b2.cell 2;have f0:=HO4.out.b2.free 0;have f1:=HO4.out.b2.free 1;have f2:=HO4.out.b2.free 2;have zl:=HO4.out.b2.lt;have HO5:=hid (HO4.out.setO mo);have XB5:=hid (XB4.out.kept (three_put HO4.out.b2 (.string mo.o.name) (.string mo.o.kinds) (.slice mo.mA mo.o.marks.length mo.mc)).2 (by simp;omega));clear HC HK HB14;go_upto_region 16 with fail;clear x0 x1 x2 z0 z1 z2 f0 f1 f2 zl HO4 XA4 XB4;generalize ((w4.setCell ⟨w.heap.size+2,0,none⟩ (.string mo.o.name)).setCell ⟨w.heap.size+2,1,none⟩ (.string mo.o.kinds)).setCell ⟨w.heap.size+2,2,none⟩ (.slice mo.mA mo.o.marks.length mo.mc)=w5 at *
      have x0:w5.cell? ⟨ba+1,0,none⟩=some (.string mf.name):=XB5.out.cell 0;have x1:w5.cell? ⟨ba+1,1,none⟩=some (.string mf.kinds):=XB5.out.cell 1;have x2:w5.cell? ⟨ba+1,2,none⟩=some (.string mf.ret):=XB5.out.cell 2;have z0:=HO5.out.b3.cell 0;have z1:=HO5.out.b3.cell 1;have z2:=HO5.out.b3.cell 2;have f0:=HO5.out.b3.free 0;have f1:=HO5.out.b3.free 1;have f2:=HO5.out.b3.free 2;have zl:=HO5.out.b3.lt;have HO6:=hid (HO5.out.setF mf);go_upto_region 17 with fail;clear x0 x1 x2 z0 z1 z2 f0 f1 f2 zl HO5 XB5;generalize ((w5.setCell ⟨w.heap.size+3,0,none⟩ (.string mf.name)).setCell ⟨w.heap.size+3,1,none⟩ (.string mf.kinds)).setCell ⟨w.heap.size+3,2,none⟩ (.string mf.ret)=w6 at *;have n0:=HN0.out w6 HO6.out.on;have t1:w6.cell? ⟨w.heap.size+1,1,none⟩=some (.string gv):=HO6.out.b1.cell 1;have ft1:=HO6.out.b1.free 1;have tl1:=HO6.out.b1.lt
      go_upto_if 74 with fail
      go_cut [8] from 22 to 101 (fun z wx=>z=.int .i64 ((g+if gb=true then 1 else 0:Nat):Int)∧Hid (OM w n (if gb=true then u.name else gv) wl B cB mo mf wx))
      case first=>
       clear HT2;rcases gb with _ | _
       ·go_wp2_with fail
        go_meet
        exact⟨by simp,by simpa using HO6⟩
       ·have HG:=hid (HO6.out.setG u.name)
        go_wp2_with fail
        go_meet
        exact⟨by simp,by simpa using HG⟩
      case rest=>
       obtain⟨rfl,HO7⟩:=hcut
       rename World=>w7
       clear n0 t1 ft1 tl1 HO6;obtain⟨gv2,hgv2⟩:∃y,Hid (y=if gb=true then u.name else gv):=⟨_,hid rfl⟩;obtain⟨g2,hg2⟩:∃y,Hid (y=g+if gb=true then 1 else 0):=⟨_,hid rfl⟩;have hg2k:g2≤k+1:=by rw[hg2.out];split <;> omega
       rw[←hgv2.out,←hg2.out]at HT2;rw[←hgv2.out]at HO7;rw[←hg2.out];clear hgv2 hg2
       go_upto_if 83 with fail
       go_cut [14] from 22 to 101 (fun z wx=>z=.int .i64 (k:Int)∧∃(B2:Option Addr) (c2:Nat),Hid (OM w n gv2 (if wb=true then intoS wl (tx u.name) else wl) B2 c2 mo mf wx))
       case first=>
        clear HT2;rcases wb with _ | _
        ·go_wp2_with fail
         go_meet
         exact⟨rfl,B,cB,by simpa using HO7⟩
        ·go_upto_region 22 with fail
         have HOd:Hid (OM w n gv2 wl B cB mo mf w7.drew):=hid (HO7.out.below ((Fr.refl [] w7).drew.all));obtain⟨S,hSd⟩:∃S:World→Prop,Hid (∀W',S W'↔W'.cell? ⟨ga,off+k * 7,none⟩=some (.string u.name)):=⟨_,hid fun _=>Iff.rfl⟩;have hS0:S w7.drew:=(hSd.out _).2 (HN0.out _ HOd.out.on);obtain⟨wn,hwn⟩:∃wn,Hid (wn=wl.length):=⟨_,hid rfl⟩;clear HO7;refine rng.wp_normal ?_;refine wp_region_held_drew (S:=S) (by kernel_rfl) hS0 (fun _=>?_);generalize hwz:w7.drew=wz at *;clear hwz;refine wpAnyH_take (i:=0) (v:=.pointer (some ⟨w.heap.size+1,2,none⟩)) rfl (by kernel_rfl) (by kernel_rfl) (by kernel_rfl) (fun _ _ _ h=>absurd h.1 (by simp)) (Or.inl ⟨by kernel_rfl,?_⟩) hS0 ?_
         ·intro W' hSw
          obtain s0:=(hSd.out _).1 hSw;go_simp
         try change wpAnyH _ _ _ _ _ _ _ (Act.put _ (some 84) _) _
         try simp only[Act.put,List.setIfInBounds_toArray,List.set_cons_zero,List.set_cons_succ]
         refine wpAnyH_take (i:=2) (v:=.slice (some ⟨ga,off,none⟩) N c) rfl (by kernel_rfl) (by kernel_rfl) (by kernel_rfl) (fun _ _ _ h=>absurd h.1 (by simp)) (Or.inl ⟨by kernel_rfl,?_⟩) hS0 ?_
         ·intro W' hSw
          obtain s0:=(hSd.out _).1 hSw;go_simp
         try change wpAnyH _ _ _ _ _ _ _ (Act.put _ (some 86) _) _
         try simp only[Act.put,List.setIfInBounds_toArray,List.set_cons_zero,List.set_cons_succ]
         refine wpAnyH_take (i:=3) (v:=.int .i64 k) rfl (by kernel_rfl) (by kernel_rfl) (by kernel_rfl) (fun _ _ _ h=>absurd h.1 (by simp)) (Or.inl ⟨by kernel_rfl,?_⟩) hS0 ?_
         ·intro W' hSw
          obtain s0:=(hSd.out _).1 hSw;go_simp
         try change wpAnyH _ _ _ _ _ _ _ (Act.put _ (some 87) _) _
         try simp only[Act.put,List.setIfInBounds_toArray,List.set_cons_zero,List.set_cons_succ]
         refine wpAnyH_take (i:=4) (v:=.pointer (some ⟨ga,off+k * 7,none⟩)) rfl (by kernel_rfl) (by kernel_rfl) (by kernel_rfl) (fun _ _ _ h=>absurd h.1 (by simp)) (Or.inl ⟨by kernel_rfl,?_⟩) hS0 ?_
         ·intro W' hSw
          obtain s0:=(hSd.out _).1 hSw;go_simp
          try (intro hh;omega)
         try change wpAnyH _ _ _ _ _ _ _ (Act.put _ (some 88) _) _
         try simp only[Act.put,List.setIfInBounds_toArray,List.set_cons_zero,List.set_cons_succ]
         refine wpAnyH_take (i:=5) (v:=.pointer (some ⟨ga,off+k * 7,none⟩)) rfl (by kernel_rfl) (by kernel_rfl) (by kernel_rfl) (fun _ _ _ h=>absurd h.1 (by simp)) (Or.inl ⟨by kernel_rfl,?_⟩) hS0 ?_
         ·intro W' hSw
          obtain s0:=(hSd.out _).1 hSw;go_simp
         try change wpAnyH _ _ _ _ _ _ _ (Act.put _ (some 89) _) _
         try simp only[Act.put,List.setIfInBounds_toArray,List.set_cons_zero,List.set_cons_succ]
         refine wpAnyH_take (i:=6) (v:=.string u.name) rfl (by kernel_rfl) (by kernel_rfl) (by kernel_rfl) (fun _ _ _ h=>absurd h.1 (by simp)) (Or.inl ⟨by kernel_rfl,?_⟩) hS0 ?_
         ·intro W' hSw
          obtain s0:=(hSd.out _).1 hSw;go_simp
         try change wpAnyH _ _ _ _ _ _ _ (Act.put _ (some 90) _) _
         try simp only[Act.put,List.setIfInBounds_toArray,List.set_cons_zero,List.set_cons_succ]
         refine wpAnyH_ready (rs:=[1]) (by kernel_rfl) (by simp) ?_;refine AllReadyH.cons rfl (fun K hK=>?_) AllReadyH.nil;have zc:wz.cell? ⟨w.heap.size+1,2,none⟩=some (.slice B wn cB):=by rw[hwn.out];exact HOd.out.b1.cell 2
         go_simp;refine hK.out _ _ hS0 (fun _=>?_);clear hK zc
         try simp only[Act.put,List.setIfInBounds_toArray,List.set_cons_zero,List.set_cons_succ]
         refine wpAnyH_ready (rs:=[7]) (by kernel_rfl) (by simp) ?_;refine AllReadyH.cons rfl (fun K hK=>?_) AllReadyH.nil;have KI:=inn.into_any wz B cB wl (tx u.name) HOd.out.sg (by omega);rw[enc_tx,←hwn.out]at KI;go_simp;refine KI.mono ?_;rintro e w8 ⟨B2,c2,rfl,hs8,b8⟩;have HO8:=hid (HOd.out.below b8);have HS8:=hid hs8;have hS1:S w8:=(hSd.out _).2 (HN0.out _ HO8.out.on);refine hK.out _ _ hS1 (fun _=>?_);clear hK KI b8 hs8 hS0 HOd
         try simp only[Act.put,List.setIfInBounds_toArray,List.set_cons_zero,List.set_cons_succ]
         refine wpAnyH_take (i:=8) (v:=.pointer (some ⟨w.heap.size+1,2,none⟩)) rfl (by kernel_rfl) (by kernel_rfl) (by kernel_rfl) (fun _ _ _ h=>absurd h.1 (by simp)) (Or.inl ⟨by kernel_rfl,?_⟩) hS1 ?_
         ·intro W' hSw
          obtain s0:=(hSd.out _).1 hSw;go_simp
         try change wpAnyH _ _ _ _ _ _ _ (Act.put _ (some 92) _) _
         try simp only[Act.put,List.setIfInBounds_toArray,List.set_cons_zero,List.set_cons_succ]
         refine wpAnyH_ready (rs:=[9]) (by kernel_rfl) (by simp) ?_;refine AllReadyH.cons rfl (fun K hK=>?_) AllReadyH.nil;have zc:=HO8.out.b1.cell 2;have zv:=HO8.out.b1.free 2;have zl:=HO8.out.b1.lt;have HO9:=hid (HO8.out.setW HS8.out);have hS2:=(hSd.out _).2 (HN0.out _ HO9.out.on);go_simp;refine hK.out _ _ hS2 (fun _=>?_);clear hK zc zv zl HO8 HS8 hS1
         try simp only[Act.put,List.setIfInBounds_toArray,List.set_cons_zero,List.set_cons_succ]
         refine wpAnyH_done (by kernel_rfl) ?_ _;refine⟨rfl,?_⟩;clear hSd hS2 hwn;go_wp2_with fail
         go_meet
         exact⟨rfl,B2,c2,by simpa using HO9⟩
       case rest=>
        obtain⟨rfl,B2,c2,HO8⟩:=hcut
        rename World=>w8
        clear HO7;obtain⟨wl2,hwl2⟩:∃y,Hid (y=if wb=true then intoS wl (tx u.name) else wl):=⟨_,hid rfl⟩;rw[←hwl2.out]at HT2 HO8;have hw2:wl2.length≤k+1:=by
         rw[hwl2.out];split
         ·have:=into_len wl (tx u.name);omega
         ·omega
        clear hwl2 HN0;rcases owb with _ | _
        all_goals
         rcases gb with _ | _
         all_goals
          rcases wb with _ | _
          all_goals
           go_wp2_with fail;go_roundw
           case rel=>exact⟨k+1,g2,s+1,gv2,wl2,B2,c2,mo,mf,_,_,by omega,by omega,by omega,by omega,rfl,by go_num,rfl,rfl,by go_num,HO8,HK2,HT2⟩
           case measure=>simp[intOf];omega
  ·obtain rfl:k=N:=by omega
   have d2:decide ((k:Int)<(k:Int))=false:=decide_eq_false (by omega)
   rename (∀(a:Act) (w:World),Code.wp _ _ _ a w→_)=>hcont
   replace hcont:=hid hcont;clear HS HS0 HK;go_wp2_with fail;refine hcont.out _ _ ?_;exact one_end w n l A c k g s gv wl B cB ob fb owb smb wr Q hl hg1 hs1 hw1 hQ HO HT _ _ _ _ _ _ _ _ _ _ _ _ _ _ _ _ _ _ _ _ _ _ _ _ _ _ _ _ _ _ _ _ _ _ _ _ _ _ _ _ _ _ _ _ _ _ _ _ _ _ _ _ _ _ _ _ _ _ _ _ _ _ _ _ _ _ _ _ _ _ _ _ _ _ _ _ _ _ _ _ _ _ _ _ _ _ _ _ _ _ _ _ _ _ _ _ _ _ _ _ _ _ _ _ _ _ _ _ _ _ _ _ _ _ _ _ _
end ym
namespace sf
open RowKit Go.Sort mem sy dg
open re (tx SumM MU SU)
theorem fst0_or{b:Bool}{c:Int}{r:List Int}(hc:c≠0):fst0 (orE b c :: r)=if b then fst0 r else c:=by
 unfold orE;cases b
 ·show(if(c=0) then _ else c)=c
  rw[if_neg hc]
 ·rfl
theorem all_take{α:Type}(f:α→Bool)(l:List α){k:Nat}(hk:k<l.length):(l.take (k+1)).all f=((l.take k).all f&&f l[k]):=by
 rw[List.take_succ_eq_append_getElem hk,List.all_append];simp
theorem all_bad{α:Type}{f:α→Bool}{l:List α}{k:Nat}(hk:k<l.length)(h:f l[k] = false):l.all f=false:=by
 rcases hr:l.all f with _ | _
 ·rfl
 ·rw[List.all_eq_true.1 hr _ (List.getElem_mem hk)]at h
  cases h
theorem rscheck_any(w:World)(u:MU)(hu:SumK w u)(hcl:∀x∈u.s.cs,x.c.args.length≤8796093022208):Calls Tryz.prog 17 #[u.val] w (IPost (fst0 (esC u.su)) w):=by
 obtain⟨W1,hW1⟩:∃W1,Hid (W1=w.alloc (.cells u.row 43)):=⟨_,hid rfl⟩;have bW:Below w.heap.size w W1:=by rw[hW1.out];exact(Below.refl _ _).alloc (Nat.le_refl _) _
 have B0:Box W1 w.heap.size 43 u.row:=by rw[hW1.out];exact Box.new w _ _
 have HB:=hid (fun w2 (b:Below W1.heap.size W1 w2)=>B0.kept (Fr.of_below b []) (by simp));have HU:=hid (fun w2 (b:Below W1.heap.size W1 w2)=>(hu.below bW).below b);have HP:=hid (fun(w2:World) (b:Below W1.heap.size W1 w2)=>bW.trans (b.mono bW.size));have HNm:=hid (fun w2=>dg.rname_any u.name w2 hu.n);have HCk:=hid (fun w2 b=>rcheck_any u.s w2 (HU.out w2 b).m.sr held_mk hcl);have HTh:Hid (∀w2,Below W1.heap.size W1 w2→∀x,Calls Tryz.prog 49 #[u.s.val,.string x] w2 (BPost (inD u.su x) w2)):=hid (fun w2 b x=>by rw[←there_in];exact there_any w2 u.s (HU.out w2 b).m.sr x)
 have HRi:Hid (∀w2,Below W1.heap.size W1 w2→∀A c (l:List ByteArray),Rd w2 A (l.map Value.string)→l.length≤maxLen→Calls Tryz.prog 48 #[.slice A l.length c] w2 (BPost (risB (l.map tx)) w2)):=hid (fun w2 b A c l hr hl=>by
  have k:=rises_any w2 A c (l.map tx) (by rw[map_tx];exact hr) (by rw[List.length_map];exact hl);rw[List.length_map]at k
  exact k)
 have hwl:=hu.wl;have hgl:=hu.gl;have hkl:=hu.kl;obtain⟨V,hV⟩:∃V,Hid (V=fst0 (esC u.su)):=⟨_,hid rfl⟩;rw[←hV.out];have hVe:V=fst0 [orE (nameB u.name) 11,checkE u.s.sys,orE (risB (u.gives.map tx)) 13,orE (u.gives.all (inD u.su)) 7,orE (risB (u.wants.map tx)) 13,orE (u.wants.all (inD u.su)) 7,orE (u.gives.all (fun s=>!inW u.su s)) 8,orE (decide (u.keeps.length≤6000)) 4,orE (risB (u.keeps.map tx)) 13,orE (u.keeps.all nodeB) 11]:=hV.out;have HV:=hid hVe;have HI:Hid (∀s,inW u.su s=decide (tx s∈u.wants.map tx)):=hid (fun s=>rfl);obtain⟨D,hD⟩:∃D,Hid (D=inD u.su):=⟨_,hid rfl⟩;obtain⟨I,hI⟩:∃I,Hid (I=inW u.su):=⟨_,hid rfl⟩;rw[←hD.out]at HTh HV;rw[←hI.out]at HV HI;clear hu bW B0 hcl hV hVe hD hI;obtain⟨nm,gA,gc,gs,wA,wc,ws,kA,kc,ks,⟨oA,oc,os,fA,fc,fs,cA,cc,cs⟩⟩:=u;dsimp only at *;have y0:=fun w2 b=>(HB.out w2 b).cell 0
 have y1:=fun w2 b=>(HB.out w2 b).cell 1
 have y2:=fun w2 b=>(HB.out w2 b).cell 2
 have y3:=fun w2 b=>(HB.out w2 b).cell 3
 have y4:=fun w2 b=>(HB.out w2 b).cell 4
 have y5:=fun w2 b=>(HB.out w2 b).cell 5
 have y6:=fun w2 b=>(HB.out w2 b).cell 6
 unfold MU.val MU.row at *;dsimp only at *;simp only[List.getElem?_toArray,List.getElem?_cons_zero,List.getElem?_cons_succ]at y0 y1 y2 y3 y4 y5 y6;have Y0:=hid y0;have Y1:=hid y1;have Y2:=hid y2;have Y3:=hid y3;have Y4:=hid y4;have Y5:=hid y5;have Y6:=hid y6;clear y0 y1 y2 y3 y4 y5 y6;unfold MS.val at *;dsimp only at *;have z0:=Y0.out W1 (Below.refl _ _);have z4:=Y4.out W1 (Below.refl _ _);have z5:=Y5.out W1 (Below.refl _ _);have z6:=Y6.out W1 (Below.refl _ _);unfold IPost at *;go_enter Tryz.func17,Tryz.ntmps17;go_upto_region 1 with fail;rw[←hW1.out];clear hW1;have HCk0:=hid (HCk.out W1 (Below.refl _ _));have HP1:=hid (HP.out W1 (Below.refl _ _));generalize nameB nm=nB at *;rcases nB with _ | _
 ·have hv:Hid (V=11):=hid HV.out
  go_wp2_with fail;refine(HNm.out _).mono ?_;rintro e w2 ⟨rfl,rfl⟩;go_wp2_with fail;go_ret;exact⟨by rw[hv.out];rfl,HP1.out⟩
 rw[fst0_or (by decide),if_pos rfl]at HV;go_wp2_with fail;refine(HNm.out _).mono ?_;rintro e w2 ⟨rfl,rfl⟩;clear HNm;go_wp2_with fail;generalize checkE _=ce at *;refine HCk0.out.mono ?_;rintro e w2 ⟨rfl,b2⟩;have HB2:=hid b2;clear b2 HCk0 HCk z0 z4 z5 z6;by_cases hce:ce=0;rotate_left
 ·have q0:(ce != 0)=true:=by simpa using hce
  have hv:Hid (V=ce):=hid (by rw[HV.out];exact if_neg hce);have HP2:=hid (HP.out w2 HB2.out);go_wp2_with fail;go_ret;exact⟨by rw[hv.out];rfl,HP2.out⟩
 subst hce;have hES0:=HV.out;rw[show ∀r,fst0 ((0:Int) :: r)=fst0 r from fun r=>if_pos rfl]at hES0;obtain⟨ES,hES⟩:∃ES,Hid (ES=[orE (risB (gs.map tx)) 13,orE (gs.all D) 7,orE (risB (ws.map tx)) 13,orE (ws.all D) 7,orE (gs.all (fun s=>!I s)) 8,orE (decide (ks.length≤6000)) 4,orE (risB (ks.map tx)) 13,orE (ks.all nodeB) 11]):=⟨_,hid rfl⟩;have F0':Hid (V=fst0 (ES.drop (2 * 0))):=hid (by rw[hES0,hES.out];rfl);clear hES0 HV;go_wp2_with fail;go_loopw [4] (fun i wr=>∃k:Nat,k≤2∧i=.int .i64 k∧Hid (V=fst0 (ES.drop (2 * k)))∧Hid (Below W1.heap.size W1 wr)) (fun i _=>2-(intOf i).toNat)
 case atStart=>exact⟨0,by omega,rfl,F0',HB2⟩
 case round=>
  obtain⟨k,hk,rfl,hF,hb⟩:=hrel;clear F0' HB2
  rename World=>wr
  have z1:=Y1.out wr hb.out;have z2:=Y2.out wr hb.out;have hb':Hid (Below W1.heap.size W1 (wr.alloc (.cells #[.slice gA gs.length gc,.slice wA ws.length wc] 31))):=hid (hb.out.alloc hb.out.size _);rcases(show k=0∨k=1∨k=2 by omega)with rfl | rfl | rfl
  ·have e1:decide (((0:Nat):Int)<2)=true:=by decide
   have hV2:=hF.out;rw[hES.out]at hV2;rw[show ∀(x0 x1 x2 x3 x4 x5 x6 x7:Int),List.drop (2 * 0) [x0,x1,x2,x3,x4,x5,x6,x7] = [x0,x1,x2,x3,x4,x5,x6,x7] from fun _ _ _ _ _ _ _ _=>rfl,fst0_or (by decide)]at hV2
   have hN:Hid (V=fst0 (ES.drop (2 * (0+1)))∨¬(risB (gs.map tx)=true∧gs.all D=true)):=hid (by
    by_cases h1:risB (gs.map tx)=true
    ·by_cases h2:gs.all D=true
     ·refine Or.inl ?_
      rw[hV2,if_pos h1,fst0_or (by decide),if_pos h2,hES.out];rfl
     ·exact Or.inr (fun h=>h2 h.2)
    ·exact Or.inr (fun h=>h1 h.1))
   have hBad1:Hid (risB (gs.map tx)=false→V=13):=hid (fun h=>by rw[hV2,h];rfl);have hBad2:Hid (risB (gs.map tx)=true→gs.all D=false→V=7):=hid (fun h1 h2=>by rw[hV2,if_pos h1,fst0_or (by decide),h2];rfl);clear hV2 hF;have K:=hid (HRi.out _ hb'.out gA gc gs (HU.out _ hb'.out).m.gr (Nat.le_trans hgl (by decide)));rcases hr:risB (gs.map tx)with _ | _
   ·have hv:=hid (hBad1.out hr)
    rw[hr]at K;go_wp2_with fail;refine K.out.mono ?_;rintro e w3 ⟨rfl,b3⟩;have HP3:=hid (HP.out w3 (hb'.out.trans (b3.mono hb'.out.size)));go_wp2_with fail;go_ret;exact⟨by rw[hv.out];rfl,HP3.out⟩
   ·rw[hr]at K
    have hBad3:=hid (hBad2.out hr);go_wp2_with fail;refine K.out.mono ?_;rintro e w3 ⟨rfl,b3⟩;have HB3:=hid (hb'.out.trans (b3.mono hb'.out.size));clear b3 K hBad1 hBad2;go_wp2_with fail;have hl0:Hid ((gs.take 0).all D=true):=hid rfl;go_loopw [6] (fun i wx=>∃j:Nat,j≤gs.length∧i=.int .i64 j∧Hid ((gs.take j).all D=true)∧Hid (Below W1.heap.size W1 wx)) (fun i _=>gs.length-(intOf i).toNat)
    case atStart=>exact⟨0,by omega,rfl,hl0,HB3⟩
    case round=>
     obtain⟨j,hj,rfl,hG,hx⟩:=hrel;clear HB3 hb' hb z1 z2 hl0
     rename World=>wx
     by_cases hjl:j<gs.length
     ·have e2:decide ((j:Int)<(gs.length:Int))=true:=decide_eq_true (by omega)
      obtain⟨g,off,rfl,hgl2,hc⟩:=(HU.out wx hx.out).m.gr (by rw[List.length_map];exact Nat.lt_of_le_of_lt (Nat.zero_le _) hjl);have c0:=hc j (by rw[List.length_map];exact hjl);rw[List.getElem_map]at c0;have hnx:=hid (all_take D gs hjl);rw[hG.out,Bool.true_and]at hnx;have hbx:Hid (D gs[j] = false→V=7):=hid (fun h=>hBad3.out (all_bad hjl h));have hxd:Hid (Below W1.heap.size W1 wx.drew):=hid hx.out.drew;have z4:=Y4.out wx hx.out;have z5:=Y5.out wx hx.out;have z6:=Y6.out wx hx.out;have d4:=Y4.out wx.drew hxd.out;have d5:=Y5.out wx.drew hxd.out;have d6:=Y6.out wx.drew hxd.out;have KT:=hid (HTh.out wx.drew hxd.out gs[j]);unfold BPost at KT;clear hgl2 hc hG;generalize gs[j] = x at *;have c0d:wx.drew.cell? ⟨g,off+j,none⟩=some (.string x):=c0;rcases hq:D x with _ | _
      ·have hv:=hid (hbx.out hq)
       rw[hq]at KT;go_wp2_with fail
       go_region_with (go_at_call 49;refine KT.out.mono ?_;rintro e w4 ⟨rfl,b4⟩;have HB4:=hid (hxd.out.trans (b4.mono hxd.out.size));clear b4)
       all_goals (go_wp2_with fail;go_ret;exact⟨by rw[hv.out];rfl,HP.out _ HB4.out⟩)
      ·rw[hq]at KT hnx
       go_wp2_with fail
       go_region_with (go_at_call 49;refine KT.out.mono ?_;rintro e w4 ⟨rfl,b4⟩;have HB4:=hid (hxd.out.trans (b4.mono hxd.out.size));clear b4)
       all_goals (go_wp2_with fail;go_roundw)
       all_goals first | exact⟨j+1,by omega,by go_num,hnx,HB4⟩ | (simp[intOf];omega)
     ·obtain rfl:j=gs.length:=by omega
      have e2:decide ((gs.length:Int)<(gs.length:Int))=false:=decide_eq_false (by omega)
      have hvv:Hid (V=fst0 (ES.drop (2 * (0+1)))):=hid (by
       rcases hN.out with h | h
       ·exact h
       ·exfalso
        refine h ⟨hr,?_⟩;have:=hG.out
        rwa[List.take_length]at this)
      go_wp2_with fail;go_roundw
      case rel=>exact⟨0+1,by omega,by go_num,hvv,hx⟩
      case measure=>simp[intOf]
  ·have e1:decide (((1:Nat):Int)<2)=true:=by decide
   have hV2:=hF.out;rw[hES.out]at hV2;rw[show ∀(x0 x1 x2 x3 x4 x5 x6 x7:Int),List.drop (2 * 1) [x0,x1,x2,x3,x4,x5,x6,x7] = [x2,x3,x4,x5,x6,x7] from fun _ _ _ _ _ _ _ _=>rfl,fst0_or (by decide)]at hV2
   have hN:Hid (V=fst0 (ES.drop (2 * (1+1)))∨¬(risB (ws.map tx)=true∧ws.all D=true)):=hid (by
    by_cases h1:risB (ws.map tx)=true
    ·by_cases h2:ws.all D=true
     ·refine Or.inl ?_
      rw[hV2,if_pos h1,fst0_or (by decide),if_pos h2,hES.out];rfl
     ·exact Or.inr (fun h=>h2 h.2)
    ·exact Or.inr (fun h=>h1 h.1))
   have hBad1:Hid (risB (ws.map tx)=false→V=13):=hid (fun h=>by rw[hV2,h];rfl);have hBad2:Hid (risB (ws.map tx)=true→ws.all D=false→V=7):=hid (fun h1 h2=>by rw[hV2,if_pos h1,fst0_or (by decide),h2];rfl);clear hV2 hF;have K:=hid (HRi.out _ hb'.out wA wc ws (HU.out _ hb'.out).m.wr (Nat.le_trans hwl (by decide)));rcases hr:risB (ws.map tx)with _ | _
   ·have hv:=hid (hBad1.out hr)
    rw[hr]at K;go_wp2_with fail;refine K.out.mono ?_;rintro e w3 ⟨rfl,b3⟩;have HP3:=hid (HP.out w3 (hb'.out.trans (b3.mono hb'.out.size)));go_wp2_with fail;go_ret;exact⟨by rw[hv.out];rfl,HP3.out⟩
   ·rw[hr]at K
    have hBad3:=hid (hBad2.out hr);go_wp2_with fail;refine K.out.mono ?_;rintro e w3 ⟨rfl,b3⟩;have HB3:=hid (hb'.out.trans (b3.mono hb'.out.size));clear b3 K hBad1 hBad2;go_wp2_with fail;have hl0:Hid ((ws.take 0).all D=true):=hid rfl;go_loopw [6] (fun i wx=>∃j:Nat,j≤ws.length∧i=.int .i64 j∧Hid ((ws.take j).all D=true)∧Hid (Below W1.heap.size W1 wx)) (fun i _=>ws.length-(intOf i).toNat)
    case atStart=>exact⟨0,by omega,rfl,hl0,HB3⟩
    case round=>
     obtain⟨j,hj,rfl,hG,hx⟩:=hrel;clear HB3 hb' hb z1 z2 hl0
     rename World=>wx
     by_cases hjl:j<ws.length
     ·have e2:decide ((j:Int)<(ws.length:Int))=true:=decide_eq_true (by omega)
      obtain⟨g,off,rfl,hgl2,hc⟩:=(HU.out wx hx.out).m.wr (by rw[List.length_map];exact Nat.lt_of_le_of_lt (Nat.zero_le _) hjl);have c0:=hc j (by rw[List.length_map];exact hjl);rw[List.getElem_map]at c0;have hnx:=hid (all_take D ws hjl);rw[hG.out,Bool.true_and]at hnx;have hbx:Hid (D ws[j] = false→V=7):=hid (fun h=>hBad3.out (all_bad hjl h));have hxd:Hid (Below W1.heap.size W1 wx.drew):=hid hx.out.drew;have z4:=Y4.out wx hx.out;have z5:=Y5.out wx hx.out;have z6:=Y6.out wx hx.out;have d4:=Y4.out wx.drew hxd.out;have d5:=Y5.out wx.drew hxd.out;have d6:=Y6.out wx.drew hxd.out;have KT:=hid (HTh.out wx.drew hxd.out ws[j]);unfold BPost at KT;clear hgl2 hc hG;generalize ws[j] = x at *;have c0d:wx.drew.cell? ⟨g,off+j,none⟩=some (.string x):=c0;rcases hq:D x with _ | _
      ·have hv:=hid (hbx.out hq)
       rw[hq]at KT;go_wp2_with fail
       go_region_with (go_at_call 49;refine KT.out.mono ?_;rintro e w4 ⟨rfl,b4⟩;have HB4:=hid (hxd.out.trans (b4.mono hxd.out.size));clear b4)
       all_goals (go_wp2_with fail;go_ret;exact⟨by rw[hv.out];rfl,HP.out _ HB4.out⟩)
      ·rw[hq]at KT hnx
       go_wp2_with fail
       go_region_with (go_at_call 49;refine KT.out.mono ?_;rintro e w4 ⟨rfl,b4⟩;have HB4:=hid (hxd.out.trans (b4.mono hxd.out.size));clear b4)
       all_goals (go_wp2_with fail;go_roundw)
       all_goals first | exact⟨j+1,by omega,by go_num,hnx,HB4⟩ | (simp[intOf];omega)
     ·obtain rfl:j=ws.length:=by omega
      have e2:decide ((ws.length:Int)<(ws.length:Int))=false:=decide_eq_false (by omega)
      have hvv:Hid (V=fst0 (ES.drop (2 * (1+1)))):=hid (by
       rcases hN.out with h | h
       ·exact h
       ·exfalso
        refine h ⟨hr,?_⟩;have:=hG.out
        rwa[List.take_length]at this)
      go_wp2_with fail;go_roundw
      case rel=>exact⟨1+1,by omega,by go_num,hvv,hx⟩
      case measure=>simp[intOf]
  ·have e1:decide (((2:Nat):Int)<2)=false:=by decide
   have hV4:=hF.out;rw[hES.out,show ∀(x0 x1 x2 x3 x4 x5 x6 x7:Int),List.drop (2 * 2) [x0,x1,x2,x3,x4,x5,x6,x7] = [x4,x5,x6,x7] from fun _ _ _ _ _ _ _ _=>rfl,fst0_or (by decide)]at hV4;have HV4:=hid hV4;clear hV4 hF hb' hES;have hl0:Hid ((gs.take 0).all (fun s=>!I s)=true):=hid rfl;go_wp2_with fail;go_loopw [7] (fun i wx=>∃j:Nat,j≤gs.length∧i=.int .i64 j∧Hid ((gs.take j).all (fun s=>!I s)=true)∧Hid (Below W1.heap.size W1 wx)) (fun i _=>gs.length-(intOf i).toNat)
   case atStart=>exact⟨0,by omega,rfl,hl0,hb⟩
   case round=>
    obtain⟨j,hj,rfl,hG,hx⟩:=hrel;clear hl0 hb z1 z2
    rename World=>wx
    have z1:=Y1.out wx hx.out;by_cases hjl:j<gs.length
    ·have e2:decide ((j:Int)<(gs.length:Int))=true:=decide_eq_true (by omega)
     obtain⟨g,off,rfl,hgl2,hc⟩:=(HU.out wx hx.out).m.gr (by rw[List.length_map];exact Nat.lt_of_le_of_lt (Nat.zero_le _) hjl);have c0:=hc j (by rw[List.length_map];exact hjl);rw[List.getElem_map]at c0;have hnx:=hid (all_take (fun s=>!I s) gs hjl);rw[hG.out,Bool.true_and]at hnx;have hbx:Hid (I gs[j] = true→V=8):=hid (fun h=>by rw[HV4.out,all_bad hjl (show(!I gs[j])=false by rw[h];rfl)];rfl);have hxd:Hid (Below W1.heap.size W1 wx.drew):=hid hx.out.drew;have z2:=Y2.out wx hx.out;have d1:=Y1.out wx.drew hxd.out;have d2:=Y2.out wx.drew hxd.out
     have KN:Hid (Calls Tryz.prog 18 #[.slice wA ws.length wc,.string gs[j]] wx.drew (fun e w'=>e=.returned (.int .i64 (ins.numV (ws.map tx) (tx gs[j])))∧wx.drew=w')):=hid (by
      have k:=ins.number_any wx.drew wA wc (ws.map tx) (tx gs[j]) (by rw[map_tx];exact(HU.out wx.drew hxd.out).m.wr) (by rw[List.length_map];omega);rw[List.length_map]at k
      exact k)
     have hnv:Hid ((I gs[j] = true→0≤ins.numV (ws.map tx) (tx gs[j]))∧(I gs[j] = false→ins.numV (ws.map tx) (tx gs[j])=-1)):=hid (by
      rw[HI.out gs[j]];unfold ins.numV;refine⟨fun h=>?_,fun h=>?_⟩
      ·rw[if_pos (of_decide_eq_true h)];omega
      ·rw[if_neg (of_decide_eq_false h)])
     clear hgl2 hc hG;generalize ins.numV (ws.map tx) (tx gs[j])=nv at *;generalize gs[j] = x at *;have c0d:wx.drew.cell? ⟨g,off+j,none⟩=some (.string x):=c0;rcases hq:I x with _ | _
     ·obtain rfl:=hnv.out.2 hq
      try dsimp only at hnx
      rw[hq]at hnx;go_wp2_with fail
      go_region_with (go_at_call 18;refine KN.out.mono ?_;rintro e w4 ⟨rfl,rfl⟩)
      all_goals (go_wp2_with fail;go_roundw)
      all_goals first | exact⟨j+1,by omega,by go_num,hnx,hxd⟩ | ((repeat apply Exists.intro);exact⟨⟨j+1,by omega,by go_num,hnx,hxd⟩,rfl⟩) | (simp[intOf];omega)
     ·have hv:=hid (hbx.out hq)
      have hn0:=hnv.out.1 hq;have q0:decide (0≤nv)=true:=decide_eq_true hn0;go_wp2_with fail
      go_region_with (go_at_call 18;refine KN.out.mono ?_;rintro e w4 ⟨rfl,rfl⟩)
      all_goals (go_wp2_with fail;go_ret;exact⟨by rw[hv.out];rfl,HP.out _ hxd.out⟩)
    ·obtain rfl:j=gs.length:=by omega
     have e2:decide ((gs.length:Int)<(gs.length:Int))=false:=decide_eq_false (by omega);have hV5:=HV4.out;rw[if_pos (by have:=hG.out;rwa[List.take_length]at this),fst0_or (by decide)]at hV5;have z3:=Y3.out wx hx.out;clear HV4 hG;by_cases hk6:ks.length≤6000;rotate_left
     ·have e6:decide ((6000:Int)<(ks.length:Int))=true:=decide_eq_true (by omega)
      rw[decide_eq_false hk6]at hV5;have hv:Hid (V=4):=hid hV5;go_wp2_with fail;go_ret;exact⟨by rw[hv.out];rfl,HP.out _ hx.out⟩
     have e6:decide ((6000:Int)<(ks.length:Int))=false:=decide_eq_false (by omega);rw[decide_eq_true hk6,if_pos rfl,fst0_or (by decide)]at hV5;have HV5:=hid hV5;clear hV5;have K:=hid (HRi.out _ hx.out kA kc ks (HU.out _ hx.out).m.kr (Nat.le_trans hkl (by decide)));rcases hr:risB (ks.map tx)with _ | _
     ·rw[hr]at K HV5
      have hv:Hid (V=13):=hid HV5.out;go_wp2_with fail;refine K.out.mono ?_;rintro e w3 ⟨rfl,b3⟩;have HP3:=hid (HP.out w3 (hx.out.trans (b3.mono hx.out.size)));go_wp2_with fail;go_ret;exact⟨by rw[hv.out];rfl,HP3.out⟩
     ·rw[hr,if_pos rfl,fst0_or (by decide)]at HV5
      rw[hr]at K;go_wp2_with fail;refine K.out.mono ?_;rintro e w3 ⟨rfl,b3⟩;have HB3:=hid (hx.out.trans (b3.mono hx.out.size));have hl0:Hid ((ks.take 0).all nodeB=true):=hid rfl;clear b3 K;go_wp2_with fail;go_loopw [8] (fun i wy=>∃q:Nat,q≤ks.length∧i=.int .i64 q∧Hid ((ks.take q).all nodeB=true)∧Hid (Below W1.heap.size W1 wy)) (fun i _=>ks.length-(intOf i).toNat)
      case atStart=>exact⟨0,by omega,rfl,hl0,HB3⟩
      case round=>
       obtain⟨q,hq,rfl,hG,hy⟩:=hrel;clear hl0 HB3 z1 z3
       rename World=>wy
       have z3:=Y3.out wy hy.out;by_cases hql:q<ks.length
       ·have e3:decide ((q:Int)<(ks.length:Int))=true:=decide_eq_true (by omega)
        have hU:=HU.out wy hy.out;obtain⟨g,off,rfl,hgl2,hc⟩:=hU.m.kr (by rw[List.length_map];exact Nat.lt_of_le_of_lt (Nat.zero_le _) hql);have c0:=hc q (by rw[List.length_map];exact hql);rw[List.getElem_map]at c0;have hnx:=hid (all_take nodeB ks hql);rw[hG.out,Bool.true_and]at hnx;have hbx:Hid (nodeB ks[q] = false→V=11):=hid (fun h=>by rw[HV5.out,all_bad hql h];rfl);have KN:=hid (fun w2=>rnode_any ks[q] w2 (hU.ks ks[q] (List.getElem_mem hql)));unfold BPost at KN;clear hgl2 hc hG hU;generalize ks[q] = x at *;rcases hn:nodeB x with _ | _
        ·have hv:=hid (hbx.out hn)
         rw[hn]at KN;go_wp2_with fail;refine(KN.out _).mono ?_;rintro e w4 ⟨rfl,b4⟩;have HP4:=hid (HP.out w4 (hy.out.trans (b4.mono hy.out.size)));go_wp2_with fail;go_ret;exact⟨by rw[hv.out];rfl,HP4.out⟩
        ·rw[hn]at KN hnx
         go_wp2_with fail;refine(KN.out _).mono ?_;rintro e w4 ⟨rfl,b4⟩;have HB4:=hid (hy.out.trans (b4.mono hy.out.size));clear b4;go_wp2_with fail;go_roundw
         case rel=>exact⟨q+1,by omega,by go_num,hnx,HB4⟩
         case measure=>simp[intOf];omega
       ·obtain rfl:q=ks.length:=by omega
        have e3:decide ((ks.length:Int)<(ks.length:Int))=false:=decide_eq_false (by omega)
        have hv:Hid (V=0):=hid (by
         rw[HV5.out,if_pos (by have:=hG.out;rwa[List.take_length]at this)]
         rfl)
        go_wp2_with fail;go_ret;exact⟨by rw[hv.out];rfl,HP.out _ hy.out⟩
end sf
end Go.Proofs.YtlkboeajkgbnaaaGreatDoor
