import Derived.Test.YtlkboeajkgbnaaaGreatDoorC38
set_option linter.all false
set_option maxHeartbeats 4000000
namespace Go.Proofs.YtlkboeajkgbnaaaGreatDoor
open Lib(hid)
set_option maxRecDepth 100000
set_option maxHeartbeats 16000000
namespace ym
open RowKit Go.Sort Shelf mem sy rng
open re (tx SU MU SumM)
open sf (map_tx enc_tx SumK namesL esC fst0 rscheck_any)
open inn (rsS rs_len)
attribute [local go_sem] Oper.semAt_some
theorem info_syR:(Tryz.prog.info? 34).map (fun i=>(i.zero,i.size,i.bytes))=some (some (.agg #[.string ByteArray.empty,.string ByteArray.empty,.slice none 0 0]),3,56):=by kernel_rfl
structure SLw(w:World)(rows:List SyR)(A:Option Addr)(cap:Nat)(W:World):Prop where
 sg:Sg 3 W 34 A cap rows.length (rows.flatMap SyR.row)
 ge:∀q∈blk A,w.heap.size≤q
 rs:∀r∈rows,Seg W 9 r.A r.c (r.wanted.map encStr)
 on:Below w.heap.size w W
theorem SLw.new(w:World):SLw w [] none 0 w:=⟨Sg.new 3 _ _,(fun q hq=>by cases hq),(fun r hr=>by cases hr),Below.refl _ _⟩
theorem SLw.below{w W W':World}{rows:List SyR}{A:Option Addr}{cap:Nat}(h:SLw w rows A cap W)(b:Below W.heap.size W W'):SLw w rows A cap W':=
 ⟨h.sg.kept (Fr.of_below b []) (by simp),h.ge,fun r hr=>(h.rs r hr).kept (Fr.of_below b []) (by simp),h.on.trans (b.mono h.on.size)⟩
theorem SLw.push{w W w3:World}{rows:List SyR}{A A3:Option Addr}{cap cap3 n:Nat}{r:SyR}{ob:Obj}(h:SLw w rows A cap W)(hn:n=rows.length)(hr:Seg W 9 r.A r.c (r.wanted.map encStr))(hs3:Sg 3 w3 34 A3 cap3 (n+1) (rows.flatMap SyR.row++r.row))(f3:Fr (blk A) (W.alloc ob) w3)(hf3:blk A3=blk A∨blk A3=[(W.alloc ob).heap.size]):SLw w (rows++[r]) A3 cap3 w3:=by
 subst hn;have hF:Fr (blk A) W w3:=((Fr.refl [] W).alloc ob).trans f3 (by simp) (fun g hg=>Or.inl hg);refine⟨?_,fun q hq=>?_,fun x hx=>?_,h.on.trans (hF.below (fun g hg=>h.ge g hg) h.on.size)⟩
 ·rw[List.length_append,List.flatMap_append]
  have e:([r]:List SyR).flatMap SyR.row=r.row:=by simp
  rw[e];exact hs3
 ·rcases hf3 with e | e
  ·exact h.ge q (e ▸ hq)
  ·rw[e,List.mem_singleton]at hq
   subst hq;have:=h.on.size;simp;omega
 ·have key:∀x:SyR,Seg W 9 x.A x.c (x.wanted.map encStr)→Seg w3 9 x.A x.c (x.wanted.map encStr):=fun x hx=>hx.kept hF (fun g hg hm=>sg_ne_seg h.sg hx (by decide) g hm hg)
  rcases List.mem_append.1 hx with h1 | h1
  ·exact key x (h.rs x h1)
  ·rw[List.mem_singleton]at h1;subst h1;exact key x hr
def snT(l:List MU)(k:Nat):List (List UInt8):=(l.take k).map (fun u=>tx u.name)
theorem snT_succ(l:List MU){k:Nat}(h:k<l.length):snT l (k+1)=snT l k++[tx l[k].name]:=by
 unfold snT;rw[List.take_succ_eq_append_getElem h,List.map_append];rfl
theorem snT_len(l:List MU){k:Nat}(h:k≤l.length):(snT l k).length=k:=by
 unfold snT;rw[List.length_map,List.length_take];omega
theorem resP_bad{L:List SU}{n:List UInt8}{e:Int}(h8:¬8<L.length)(h:chkFrom [] L=some (n,e)):resP L=([],n,e):=by
 unfold resP;rw[if_neg h8,h]
theorem resP_ok{L:List SU}(h8:¬8<L.length)(h:chkFrom [] L=none):resP L=resFrom (fun n=>L.filterMap (fun u=>inU u n)) [] (rsS (L.flatMap namesL)):=by
 unfold resP;rw[if_neg h8,h,names_ref];have:usesN (usesL L)=fun n=>L.filterMap (fun u=>inU u n):=funext (fun n=>uses_ref L h n)
 rw[this]
theorem chk_stepR{L:List SU}{k:Nat}{seen:List (List UInt8)}(h:k<L.length):chkFrom seen (L.drop k)=if fst0 (esC L[k])=0 then(if tx L[k].name∈seen then some (tx L[k].name,8) else chkFrom (seen++[tx L[k].name]) (L.drop (k+1))) else some (tx L[k].name,fst0 (esC L[k])):=by
 rw[List.drop_eq_getElem_cons h];rfl
theorem res_stepR{U:List UInt8→List Use}{acc:List Sym}{ms:List (List UInt8)}{k:Nat}(h:k<ms.length):resFrom U acc (ms.drop k)=if symE 12 (U ms[k])=0 then resFrom U (if 0<gCount (U ms[k]) then acc++[symOf ms[k] (U ms[k])] else acc) (ms.drop (k+1)) else([],ms[k],symE 12 (U ms[k])):=by
 rw[List.drop_eq_getElem_cons h];rfl
theorem enc_back(n:List UInt8):encStr n=.string ⟨n.toArray⟩:=rfl
theorem tx_back(n:List UInt8):tx (⟨n.toArray⟩:ByteArray)=n:=by unfold tx;simp
theorem rresolve_any(hm:sf.HeldS)(w:World)(A:Option Addr)(c:Nat)(l:List MU)(h:SusM w A l)(hl:l.length≤maxLen)(hcl:∀u∈l,∀x∈u.s.cs,x.c.args.length≤8796093022208) :
 Calls Tryz.prog 7 #[.slice A l.length c] w (ResP 34 w (resP (l.map MU.su))):=by
 obtain⟨L,hL⟩:∃L,Hid (L=l.map MU.su):=⟨_,hid rfl⟩;rw[←hL.out];have HS:=hid (fun(w2:World) (b:Below w.heap.size w w2)=>h.below b);have HCL:=hid hcl;have HM:=hid hm;obtain⟨Q,hQ⟩:∃Q:Ending→World→Prop,Hid (Q=ResP 34 w (resP L)):=⟨_,hid rfl⟩;rw[←hQ.out];have hLl:L.length=l.length:=by rw[hL.out,List.length_map]
 obtain⟨N,hN⟩:∃N,Hid (N=l.length):=⟨_,hid rfl⟩;rw[←hN.out]at hLl hl ⊢;unfold maxLen at hl;by_cases h8:8<N
 ·have d1:decide ((8:Int)<(N:Int))=true:=decide_eq_true (by omega)
  have hfin:Hid (Q (.returned (.tuple #[.slice none 0 0,.string ⟨#[]⟩,.int .i64 4])) w):=hid (by
   have hr:resP L=([],[],4):=by unfold resP;rw[if_pos (by omega)]
   rw[hQ.out,hr]
   exact resP_nil (R:=([],[],4)) rfl (Below.refl _ _))
  clear hQ hL HS HCL HM hm h hcl hN hLl;go_enter Tryz.func7,Tryz.ntmps7;go_wp2_with fail;exact hfin.out
 have d1:decide ((8:Int)<(N:Int))=false:=decide_eq_false (by omega);have h8L:Hid (¬8<L.length):=hid (by omega);have hLx:Hid (L.length=N):=hid hLl
 have hNg:Hid (∀k (h1:k<l.length) (h2:k<L.length),L[k] = l[k].su):=hid (fun k h1 h2=>by
  have:∀(M:List SU) (e:M=l.map MU.su) (h2:k<M.length),M[k] = l[k].su:=fun M e h2=>by subst e;rw[List.getElem_map]
  exact this L hL.out h2)
 obtain⟨i0,hi0,hy0,hy1,hy2⟩:=info_parts inn.info_str;have Hi:=hid hi0;have Hz0:=hid hy0;have Hz1:=hid hy1;have Hz2:=hid hy2;obtain⟨i1,hi1,hx0,hx1,hx2⟩:=info_parts info_syR;have Hi1:=hid hi1;have Hx0:=hid hx0;have Hx1:=hid hx1;have Hx2:=hid hx2
 have KAll:Hid (∀w2,Below w.heap.size w w2→Calls Tryz.prog 19 #[.slice A N c] w2 (fun e w'=>∃B c2,e=.returned (.slice B (rsS (L.flatMap namesL)).length c2)∧NS w2 (L.flatMap namesL) B c2 w')):=hid (fun w2 b=>by
  have:=rall_any w2 A c l (h.below b) (by rw[←hN.out];omega)
  rwa[←hN.out,←hL.out]at this)
 have KOne:Hid (∀w2,Below w.heap.size w w2→∀n,Calls Tryz.prog 20 #[.slice A N c,.string n] w2 (OneP w2 n (L.filterMap (fun u=>inU u (tx n))))):=hid (fun w2 b n=>by
  have:=one_any hm w2 A c l n (h.below b) (by rw[←hN.out];omega)
  rwa[←hN.out,←hL.out]at this)
 have HMl:Hid ((rsS (L.flatMap namesL)).length≤8000):=hid (by
  have h1:=rs_len (L.flatMap namesL);have h2:=nmS_len h.n l.length;unfold nmS at h2;rw[List.take_length,←hL.out]at h2;have h3:1000 * l.length≤8000:=by rw[←hN.out];omega
  omega)
 have P0:Hid (Seg w 9 none 0 ((snT l 0).map encStr)∧(∀q∈blk none,w.heap.size≤q)∧Below w.heap.size w w):=hid ⟨Seg.nil _ _,(fun q hq=>by cases hq),Below.refl _ _⟩;have C0:Hid (chkFrom [] L=chkFrom (snT l 0) (L.drop 0)):=hid rfl;clear h hcl hm hi0 hy0 hy1 hy2 hi1 hx0 hx1 hx2 hLl;go_enter Tryz.func7,Tryz.ntmps7;go_wp2_with fail;go_loopw [5,6] (fun t i wr=>∃(k:Nat) (B:Option Addr) (cB:Nat),k≤N∧i=.int .i64 k∧t=.slice B k cB∧Hid (Seg wr 9 B cB ((snT l k).map encStr)∧(∀q∈blk B,w.heap.size≤q)∧Below w.heap.size w wr)∧Hid (chkFrom [] L=chkFrom (snT l k) (L.drop k))) (fun _ i _=>N-(intOf i).toNat)
 case atStart=>exact⟨0,none,0,by omega,rfl,rfl,P0,C0⟩
 case round=>
  obtain⟨k,B,cB,hk,rfl,rfl,HP,HC⟩:=hrel
  rename World=>wr
  clear P0 C0;by_cases hkl:k<N
  ·have d2:decide ((k:Int)<(N:Int))=true:=decide_eq_true (by omega)
   have hki:(k:Int)<(N:Int):=by omega
   have hkx:k<l.length:=by rw[←hN.out];exact hkl
   have hkL:k<L.length:=by rw[hLx.out];exact hkl
   obtain⟨ga,off,rfl,hga,hc⟩:=(HS.out wr HP.out.2.2).at_ hkx
   have HN0:Hid (∀w2,Below w.heap.size w w2→w2.cell? ⟨ga,off+k * 7,none⟩=some (.string l[k].name)):=hid (fun w2 b=>by
    obtain⟨g',o',e,_,hc'⟩:=(HS.out w2 b).at_ hkx;cases e
    exact hc' 0 _ rfl)
   have KC:=hid (rscheck_any wr l[k] ((HS.out wr HP.out.2.2).k _ (List.getElem_mem hkx)) (HCL.out _ (List.getElem_mem hkx)));have hst:=HC.out;rw[chk_stepR hkL,hNg.out k hkx hkL]at hst;have hSn:Hid (snT l (k+1)=snT l k++[tx l[k].name]):=hid (snT_succ l hkx);have hSl:Hid ((snT l k).length=k):=hid (snT_len l (by omega));have hnm:l[k].su.name=l[k].name:=rfl;rw[hnm]at hst;replace hst:=hid hst;clear hnm;unfold rowS at hc;generalize l[k] = u at *;clear hkx hkL HC HCL;have c0:wr.cell? ⟨ga,off+k * 7,none⟩=some (.string u.name):=hc 0 _ rfl;have c1:wr.cell? ⟨ga,off+k * 7+1,none⟩=some (.slice u.gA u.gives.length u.gc):=hc 1 _ rfl;have c2:wr.cell? ⟨ga,off+k * 7+2,none⟩=some (.slice u.wA u.wants.length u.wc):=hc 2 _ rfl;have c3:wr.cell? ⟨ga,off+k * 7+3,none⟩=some (.slice u.kA u.keeps.length u.kc):=hc 3 _ rfl;have c4:wr.cell? ⟨ga,off+k * 7+4,none⟩=some (.slice u.s.oA u.s.os.length u.s.oc):=hc 4 _ rfl;have c5:wr.cell? ⟨ga,off+k * 7+5,none⟩=some (.slice u.s.fA u.s.fs.length u.s.fc):=hc 5 _ rfl
   have c6:wr.cell? ⟨ga,off+k * 7+6,none⟩=some (.slice u.s.cA u.s.cs.length u.s.cc):=hc 6 _ rfl;clear hc hga;unfold MU.val MU.row sy.IPost at KC;generalize fst0 (esC u.su)=cc at *;generalize u.name=nm at *;go_wp2_with fail;refine KC.out.mono ?_;rintro e w2 ⟨rfl,b2⟩;have B2:=hid (HP.out.2.2.trans (b2.mono HP.out.2.2.size));have HP2:Hid (Seg w2 9 B cB ((snT l k).map encStr)∧(∀q∈blk B,w.heap.size≤q)):=hid ⟨HP.out.1.kept (Fr.of_below b2 []) (by simp),HP.out.2.1⟩;clear c0 c1 c2 c3 c4 c5 c6 KC HP b2;have c0:w2.cell? ⟨ga,off+k * 7,none⟩=some (.string nm):=HN0.out w2 B2.out
   have hbad:Hid (∀(e:Int) (w3:World),chkFrom [] L=some (tx nm,e)→Below w.heap.size w w3→Q (.returned (.tuple #[.slice none 0 0,.string nm,.int .i64 e])) w3):=hid (fun e w3 he b=>by
    have hr:=resP_bad h8L.out he;rw[hQ.out,hr];have:=resP_nil (te:=34) (R:=([],tx nm,e)) rfl b;dsimp only at this
    rwa[enc_tx]at this)
   by_cases hcc:cc=0
   ·have e1:(cc==0)=true:=by rw[hcc];rfl
    rw[if_pos hcc]at hst
    have KN:Hid (Calls Tryz.prog 18 #[.slice B k cB,.string nm] w2 (fun e w'=>e=.returned (.int .i64 (ins.numV (snT l k) (tx nm)))∧w2=w')):=hid (by
     have q:=ins.number_any w2 B cB (snT l k) (tx nm) HP2.out.1.rd (by rw[hSl.out];omega)
     rwa[enc_tx,hSl.out]at q)
    subst hcc;by_cases hin:tx nm∈snT l k
    ·have dn:decide ((0:Int)≤ins.numV (snT l k) (tx nm))=true:=decide_eq_true (num_mem.2 hin)
     rw[if_pos hin]at hst;have hq:=hid (fun nq=>hbad.out 8 (w2.drewN nq) hst.out (sf.below_drewQ B2.out B2.out.size nq));clear hbad hin hst HP2;go_wp2_with fail;refine KN.out.mono ?_;rintro e w3 ⟨rfl,rfl⟩;generalize ins.numV (snT l k) (tx nm)=v at *;clear KN;go_wp2_with fail;go_quiet (fail);have hq2:=hid (hq.out nq);clear hq c0;go_wp2_with fail;exact hq2.out
    ·have dn:decide ((0:Int)≤ins.numV (snT l k) (tx nm))=false:=decide_eq_false (fun q=>hin (num_mem.1 q))
     rw[if_neg hin,←hSn.out]at hst;clear hbad hin;go_wp2_with fail;refine KN.out.mono ?_;rintro e w3 ⟨rfl,rfl⟩;generalize ins.numV (snT l k) (tx nm)=v at *;clear KN
     go_wp2_with (at_builtin
                  refine wpList_push (n:=k) rfl _ _ _ rfl (HP2.out.1.alloc _) (by rw[List.length_map];exact hSl.out.symm) Tryz.underlying31 Hi.out Hz0.out Hz1.out Hz2.out rfl rfl rfl (new_cell _ _ _) rfl (by omega) (by omega) ?_
                  intro A3 cap3 w4 hs3 f3 hf3)
     have hF:Fr (blk B) w2 w4:=((Fr.refl [] w2).alloc _).trans f3 (by simp) (fun g hg=>Or.inl hg)
     have HP4:Hid (Seg w4 9 A3 cap3 ((snT l (k+1)).map encStr)∧(∀q∈blk A3,w.heap.size≤q)∧Below w.heap.size w w4):=hid ⟨by
      rw[hSn.out,List.map_append,List.map_cons,List.map_nil,enc_tx];exact hs3,fun q hq=>by
      rcases hf3 with e | e
      ·exact HP2.out.2 q (e ▸ hq)
      ·rw[e,List.mem_singleton]at hq
       subst hq;have:=B2.out.size
       simp;omega,B2.out.trans (hF.below (fun g hg=>HP2.out.2 g hg) B2.out.size)⟩
     clear hs3 f3 hf3 hF HP2 B2 c0;go_roundw
     case rel=>exact⟨k+1,A3,cap3,by omega,by go_num,rfl,HP4,hst⟩
     case measure=>simp[intOf];omega
   ·have e1:(cc==0)=false:=by rw[beq_eq_false_iff_ne];exact hcc
    have e2:(cc != 0)=true:=by simpa using hcc
    rw[if_neg hcc]at hst;have hq:=hid (fun nq=>hbad.out cc (w2.drewN nq) hst (sf.below_drewQ B2.out B2.out.size nq));clear hbad hst HP2 hcc;go_wp2_with fail;go_quiet (fail);have hq2:=hid (hq.out nq);clear hq c0;go_wp2_with fail;exact hq2.out
  ·obtain rfl:k=N:=by omega
   have d2:decide ((k:Int)<(k:Int))=false:=decide_eq_false (by omega)
   have hok:Hid (chkFrom [] L=none):=hid (by
    rw[HC.out,←hLx.out,List.drop_length];rfl)
   have hR:Hid (resP L=resFrom (fun n=>L.filterMap (fun u=>inU u n)) [] (rsS (L.flatMap namesL))):=hid (resP_ok h8L.out hok.out);have B1:=hid HP.out.2.2;have KA:=hid (KAll.out wr HP.out.2.2);clear HP HC hok KAll HS;go_wp2_with fail;refine KA.out.mono ?_;rintro e w2 ⟨C,cC,rfl,hns⟩;obtain⟨ms,hms⟩:∃ms,Hid (ms=rsS (L.flatMap namesL)):=⟨_,hid rfl⟩;have B2:=hid (B1.out.trans (hns.on.mono B1.out.size));have HSg:=hns.sg;rw[←hms.out]at HSg hR HMl;rw[←hms.out];replace HSg:=hid HSg.rd;clear hns KA B1 hms;obtain⟨M,hM⟩:∃M,Hid (M=ms.length):=⟨_,hid rfl⟩;have hMl:=HMl.out;rw[←hM.out]at hMl ⊢;have S0:Hid (SLw w2 [] none 0 w2):=hid (SLw.new w2);have F0:Hid (resP L=resFrom (fun n=>L.filterMap (fun u=>inU u n)) (([]:List SyR).map SyR.sym) (ms.drop 0)):=hid hR.out;clear hR HMl;go_wp2_with fail;go_loopw [8,10] (fun t i wr=>∃(j q:Nat) (rows:List SyR) (D:Option Addr) (cD:Nat),j≤M∧q≤j∧i=.int .i64 j∧t=.slice D q cD∧Hid (q=rows.length)∧Hid (SLw w2 rows D cD wr)∧Hid (resP L=resFrom (fun n=>L.filterMap (fun u=>inU u n)) (rows.map SyR.sym) (ms.drop j))) (fun _ i _=>M-(intOf i).toNat)
   case atStart=>exact⟨0,0,[],none,0,by omega,by omega,rfl,rfl,hid rfl,S0,F0⟩
   case round=>
    obtain⟨j,q,rows,D,cD,hj,hqj,rfl,rfl,hq,HSL,HF⟩:=hrel
    rename World=>wr
    clear S0 F0;by_cases hjl:j<M
    ·have d3:decide ((j:Int)<(M:Int))=true:=decide_eq_true (by omega)
     have hji:(j:Int)<(M:Int):=by omega
     have hjx:j<ms.length:=by rw[←hM.out];exact hjl
     have hpos:0<(ms.map encStr).length:=by rw[List.length_map];omega
     obtain⟨b,o,rfl,hb,hcc⟩:=HSg.out hpos
     have HCj:Hid (∀w3,Below w2.heap.size w2 w3→w3.cell? ⟨b,o+j,none⟩=some (.string ⟨ms[j].toArray⟩)):=hid (fun w3 bb=>by
      have q:=hcc j (by rw[List.length_map];exact hjx);rw[List.getElem_map,enc_back]at q
      exact cell_keep q (Fr.of_below bb []) hb (by simp))
     have BW:=hid (B2.out.trans (HSL.out.on.mono B2.out.size));have KO:=hid (KOne.out wr BW.out ⟨ms[j].toArray⟩);rw[tx_back]at KO;have hst:=HF.out;rw[res_stepR hjx]at hst;replace hst:=hid hst;clear HF hcc hpos hb;have htx:Hid (tx (⟨ms[j].toArray⟩:ByteArray)=ms[j]):=hid (tx_back _);have hen:Hid (encStr ms[j] = .string ⟨ms[j].toArray⟩):=hid (enc_back _);generalize (⟨ms[j].toArray⟩:ByteArray)=nb at *;generalize ms[j] = n at *;obtain⟨U,hU⟩:∃U,Hid (U=L.filterMap (fun u=>inU u n)):=⟨_,hid rfl⟩
     try dsimp only at hst
     rw[←hU.out]at KO hst;have c0:wr.cell? ⟨b,o+j,none⟩=some (.string nb):=HCj.out wr HSL.out.on;go_wp2_with fail;refine KO.out.mono ?_;rintro e w3 ⟨b3,hz,hnz⟩;clear c0 KO;have B3:=hid (BW.out.trans (b3.mono BW.out.size));have HS3:=hid (HSL.out.below b3);have hfr:Hid (D=none∨True):=hid (Or.inr trivial);by_cases he:symE 12 U=0
     ·obtain⟨E,cE,rfl,hsE⟩:=hz he
      have hs2:=hst.out;rw[if_pos he]at hs2;have hg1:=symE_count he;have hsE2:=hid hsE;obtain⟨gv,hgv⟩:∃y,Hid (y=giverFrom ⟨#[]⟩ U):=⟨_,hid rfl⟩;obtain⟨wl,hwl⟩:∃y,Hid (y=rsS ((wantL U).map tx)):=⟨_,hid rfl⟩;rw[←hgv.out,←hwl.out];rw[←hwl.out]at hsE2;have hsy:Hid (symOf n U=SyR.sym ⟨nb,gv,E,cE,wl⟩):=hid (by unfold symOf SyR.sym;rw[←hgv.out,←hwl.out,htx.out]);clear hz hnz hsE hgv hwl hst htx hen hU;generalize hgc:gCount U=gc at *;obtain⟨W5,hW5⟩:∃W5,Hid (W5=w3.alloc (.cells #[.string nb,.string gv,.slice E wl.length cE] 34)):=⟨_,hid rfl⟩;have b5:Below w3.heap.size w3 W5:=by rw[hW5.out];exact((Fr.refl [] w3).alloc _).all
      have X5:Hid (Box W5 w3.heap.size 34 #[.string nb,.string gv,.slice E wl.length cE]):=hid (by rw[hW5.out];exact Box.new w3 _ _);have HS5:=hid (HS3.out.below b5);have hE5:=hid (hsE2.out.kept (Fr.of_below b5 []) (by simp));clear hsE2 HS3 b5 b3 HCj;rcases gc with _ | _ | gc
      ·have hs3:Hid (resP L=resFrom (fun n=>L.filterMap (fun u=>inU u n)) (rows.map SyR.sym) (ms.drop (j+1))):=hid (by rw[hs2,if_neg (by omega)])
       have e9:decide ((0:Nat)=1)=false:=by decide
       clear hs2 hgc hsy;rw[e9];go_upto_region 19 with fail;rw[←hW5.out];clear hW5;go_wp2_with fail;go_roundw
       case rel=>exact⟨j+1,q,rows,D,cD,by omega,by omega,by go_num,rfl,hq,HS5,hs3⟩
       case measure=>simp[intOf];omega
      ·have hs3:Hid (resP L=resFrom (fun n=>L.filterMap (fun u=>inU u n)) ((rows++[(⟨nb,gv,E,cE,wl⟩:SyR)]).map SyR.sym) (ms.drop (j+1))):=hid (by
        rw[hs2,if_pos (by omega),List.map_append,List.map_cons,List.map_nil,hsy.out])
       have e9:decide (((0:Nat)+1)=1)=true:=by decide
       have HO:Hid (∀u∈([.string nb,.string gv,.slice E wl.length cE]:List Value),u.oneCell'=true):=hid (syrow_one (⟨nb,gv,E,cE,wl⟩:SyR));clear hs2 hgc hsy;rw[e9];go_upto_region 19 with fail;rw[←hW5.out];clear hW5;have x0:W5.cell? ⟨w3.heap.size,0,none⟩=some (.string nb):=X5.out.cell 0;have x1:W5.cell? ⟨w3.heap.size,1,none⟩=some (.string gv):=X5.out.cell 1;have x2:W5.cell? ⟨w3.heap.size,2,none⟩=some (.slice E wl.length cE):=X5.out.cell 2;generalize hwn:wl.length=wn at *
       go_wp2_with (at_builtin
                    refine wpList_row (n:=q) (us:=[.string nb,.string gv,.slice E wn cE]) rfl _ _ _ rfl (hq.out ▸ HS5.out.sg.alloc _) Tryz.underlying28 Hi1.out Hx0.out Hx1.out Hx2.out rfl rfl rfl rfl (box_cells _ _ _) HO.out (by omega) (by omega) ?_
                    intro A3 cap3 w6 hs6 f6 hf6)
       have HS6:=hid (HS5.out.push (r:=⟨nb,gv,E,cE,wl⟩) hq.out hE5.out (by unfold SyR.row;dsimp only;rw[hwn];exact hs6) f6 hf6);clear hs6 f6 hf6 x0 x1 x2 X5 HS5 hE5 hwn;go_roundw
       case rel=>exact⟨j+1,q+1,rows++[⟨nb,gv,E,cE,wl⟩],A3,cap3,by omega,by omega,by go_num,rfl,hid (by rw[hq.out,List.length_append];rfl),HS6,hs3⟩
       case measure=>simp[intOf];omega
      ·omega
     ·obtain rfl:=hnz he
      have hs2:=hst.out;rw[if_neg he]at hs2
      have hbad:Hid (∀w4,Below w3.heap.size w3 w4→Q (.returned (.tuple #[.slice none 0 0,.string nb,.int .i64 (symE 12 U)])) w4):=hid (fun w4 b=>by
       rw[hQ.out,hs2];have:=resP_nil (te:=34) (R:=([],n,symE 12 U)) rfl (B3.out.trans (b.mono B3.out.size));dsimp only at this
       rwa[hen.out]at this)
      have H9:Hid (∀nq,Q (.returned (.tuple #[.slice none 0 0,.string nb,.int .i64 (symE 12 U)])) (((w3.alloc (.cells #[.string ⟨#[]⟩,.string ⟨#[]⟩,.slice none 0 0] 34))).drewN nq)):=hid (fun nq=>hbad.out _ (sf.below_drewQ ((Fr.refl [] w3).alloc _).all (by simp) nq));have HC2:Hid (∀w4,Below w3.heap.size w3 w4→w4.cell? ⟨b,o+j,none⟩=some (.string nb)):=hid (fun w4 b4=>HCj.out _ (HS3.out.on.trans (b4.mono HS3.out.on.size)));have e9:(symE 12 U != 0)=true:=by simpa using he
      clear hz hnz hbad hst hs2 HCj HS3 hU htx hen hQ;generalize symE 12 U=cc at *;have c0:(w3.alloc (.cells #[.string ⟨#[]⟩,.string ⟨#[]⟩,.slice none 0 0] 34)).cell? ⟨b,o+j,none⟩=some (.string nb):=HC2.out _ ((Fr.refl [] w3).alloc _).all;go_upto_region 19 with fail;generalize w3.alloc (.cells #[.string ⟨#[]⟩,.string ⟨#[]⟩,.slice none 0 0] 34)=w5 at *;go_wp2_with fail;go_quiet (fail);have hq2:=hid (H9.out nq);clear H9 c0;go_wp2_with fail;exact hq2.out
    ·obtain rfl:j=M:=by omega
     have d3:decide ((j:Int)<(j:Int))=false:=decide_eq_false (by omega)
     have hfin:Hid (Q (.returned (.tuple #[.slice D q cD,.string ⟨#[]⟩,.int .i64 0])) wr):=hid (by
      have hr:resP L=(rows.map SyR.sym,[],0):=by
       rw[HF.out,hM.out,List.drop_length];rfl
      rw[hQ.out,hr,hq.out]
      exact⟨D,cD,rows,rfl,rfl,tbl_sg SyR.row (fun x=>rfl) (by decide) HSL.out.sg,fun r hr=>(HSL.out.rs r hr).rd,B2.out.trans (HSL.out.on.mono B2.out.size)⟩)
     clear HF HSL hQ;go_wp2_with fail;exact hfin.out
end ym
set_option maxHeartbeats 8000000
namespace ym
open RowKit Go.Sort Shelf mem sy rng
open re (tx SU MU SumM SumB SmlU RB GSP great_su)
open nm (Tab tab_below)
open inn (rsS rs_len)
attribute [local go_sem] Oper.semAt_some
theorem resFrom_no(U:List UInt8→List Use):∀(ns:List (List UInt8)) (acc:List Sym),(resFrom U acc ns).2.2≠0→(resFrom U acc ns).1=[]:=by
 intro ns
 induction ns with
 | nil=>intro acc h;exact absurd rfl h
 | cons n t ih=>
  intro acc h;unfold resFrom at h ⊢;by_cases he:symE 12 (U n)=0
  ·rw[if_pos he]at h ⊢
   exact ih _ h
  ·rw[if_neg he]
theorem resP_no{l:List SU}(h:(resP l).2.2≠0):(resP l).1=[]:=by
 unfold resP at h ⊢;by_cases h8:8<l.length
 ·rw[if_pos h8]
 ·rw[if_neg h8]at h ⊢
  cases hc:chkFrom [] l with
  | some p=>rfl
  | none=>rw[hc]at h;exact resFrom_no _ _ _ h
theorem resP_len(l:List SU):(resP l).1.length≤(usesL l).length:=by
 by_cases he:(resP l).2.2=0
 ·obtain⟨_,_,e⟩:=res_ok he
  rw[e,List.length_map];refine Nat.le_trans (List.length_filter_le _ _) ?_;have:=rs_len ((usesL l).map (·.1))
  rwa[List.length_map]at this
 ·rw[resP_no he];exact Nat.zero_le _
theorem resP_want(l:List SU):∀s∈(resP l).1,s.wanted.length≤(usesL l).length:=by
 by_cases he:(resP l).2.2=0
 ·exact wanted_len he
 ·rw[resP_no he];intro s hs;cases hs
theorem law_resolve(hf:HeldF)(hm:HeldM)(hS:sf.HeldS)(w:World)(A:Option Addr)(c:Nat)(l:List MU)(h:SusB w A l)(hl:l.length≤maxLen)(htab:Tab w) :
 Calls Tryz.prog 3 #[.slice A l.length c] w (WKP w):=by
 have HS:=hid (fun(w2:World) (b:Below w.heap.size w w2)=>h.below b);have HT:Hid (∀w2,Below w.heap.size w w2→Tab w2):=hid (fun w2 b=>tab_below htab b);have KW:=hid (fun(w2:World) (b:Below w.heap.size w w2)=>worksY_any hf hm w2 (tab_below htab b));have KG:=hid (greatAll_any w A c l h hl);have KR:=hid (fun(w2:World) (b:Below w.heap.size w w2) (hs:∀u∈l,SmlU u.su) (h12:l.length≤12)=>resolve_any hf hm w2 A c l ((h.below b).susM hs) (tab_below htab b) (by omega))
 have KF:=hid (fun(w2:World) (b:Below w.heap.size w w2) (hs:∀u∈l,SmlU u.su)=>rresolve_any hS w2 A c l ((h.below b).susM hs) hl (fun u hu x hx=>by
  have:=(hs u hu).s.a x.c (List.mem_map.2 ⟨x,hx,rfl⟩)
  omega))
 obtain⟨n,hN⟩:∃n,Hid (n=l.length):=⟨_,hid rfl⟩;rw[←hN.out]at KG KR KF ⊢;unfold WKP at KW ⊢;unfold GAP at KG;clear h htab hf hm hS hl HS HT;go_enter Tryz.func3,Tryz.ntmps3;go_wp2_with fail;refine KG.out.mono ?_;rintro e w2 ⟨r,rfl,b2,hr⟩;have B2:=hid b2;clear b2 KG;rcases r with _ | _;rotate_left
 ·clear hr KW KR KF
  go_wp2_with fail;go_ret;exact⟨rfl,B2.out⟩
 obtain⟨h12,hsm⟩:=hr rfl;rw[←hN.out]at h12;have HSM:=hid hsm;clear hr hsm;obtain⟨L,hL⟩:∃L,Hid (L=l.map MU.su):=⟨_,hid rfl⟩
 have hul:Hid ((usesL L).length≤1920):=hid (by
  have:=uses_len L 160 (fun u hu=>by
   rw[hL.out]at hu;obtain⟨v,hv,rfl⟩:=List.mem_map.1 hu;have h1:=(HSM.out v hv).s.o;have h2:=(HSM.out v hv).s.f
   omega)
  have h2:L.length≤12:=by rw[hL.out,List.length_map,←hN.out];exact h12
  have h3:L.length * 160≤12 * 160:=Nat.mul_le_mul_right _ h2
  omega)
 have HR1:Hid ((resP L).1.length≤1920):=hid (Nat.le_trans (resP_len L) hul.out);have HR2:Hid (∀s∈(resP L).1,s.wanted.length≤1920):=hid (fun s hs=>Nat.le_trans (resP_want L s hs) hul.out);have K1:=hid (KR.out w2 B2.out HSM.out h12);have K2:=hid (fun w3 (b:Below w2.heap.size w2 w3)=>KF.out w3 (B2.out.trans (b.mono B2.out.size)) HSM.out);rw[←hL.out]at K1 K2;clear KR KF HSM hul hL hN;generalize resP L=R at *;clear L;obtain⟨RS,Rn,RE⟩:=R;unfold ResP at K1 K2;dsimp only at *;go_wp2_with fail;refine K1.out.mono ?_;rintro e w3 ⟨Aa,capa,rows,rfl,hra,hta,hwa,b3⟩;have SA:=hid (⟨hta,hwa⟩:Syms w3 Aa rows);have B3:=hid b3;clear hta hwa b3 K1;go_wp2_with fail;refine(K2.out w3 B3.out).mono ?_;rintro e w4 ⟨Ab,capb,rowsb,rfl,hrb,htb,hwb,b4⟩;have SB:=hid (⟨htb,hwb⟩:Syms w4 Ab rowsb);have SA4:=hid (SA.out.below b4);have B4:=hid (B2.out.trans ((B3.out.trans (b4.mono B3.out.size)).mono B2.out.size));have hlab:rowsb.length=rows.length:=by
  have h1:=congrArg List.length hra;have h2:=congrArg List.length hrb;rw[List.length_map]at h1 h2;rw[h1,h2]
 obtain⟨na,hNA⟩:∃na,Hid (na=rows.length):=⟨_,hid rfl⟩;have hna:na≤1920:=by
  have h1:=congrArg List.length hra;rw[List.length_map]at h1;rw[hNA.out,h1];exact HR1.out
 have hlab2:=hid hlab;have HRA:=hid hra;have HRB:=hid hrb;rw[hlab,←hNA.out];clear htb hwb b4 K2 SA B3 B2 hra hrb hlab;unfold encStr;generalize (⟨Rn.toArray⟩:ByteArray)=nn at *;have s3:((na:Int) != (na:Int))=false:=by simp
 have s4:(nn.data != nn.data)=false:=by simp
 have s5:(nn.toList==nn.toList)=true:=by simp
 have s6:(RE != RE)=false:=by simp
 have HC0:Hid (∀k (hk:k<na),∃(ga oa gb ob:Nat) (nm gv:ByteArray) (xA yA:Option Addr) (xc yc:Nat) (wl:List (List UInt8)),Aa=some ⟨ga,oa,none⟩∧Ab=some ⟨gb,ob,none⟩∧wl.length≤1920∧∀w5,Below w4.heap.size w4 w5→(w5.cell? ⟨ga,oa+k * 3,none⟩=some (.string nm)∧w5.cell? ⟨ga,oa+k * 3+1,none⟩=some (.string gv)∧w5.cell? ⟨ga,oa+k * 3+2,none⟩=some (.slice xA wl.length xc))∧(w5.cell? ⟨gb,ob+k * 3,none⟩=some (.string nm)∧w5.cell? ⟨gb,ob+k * 3+1,none⟩=some (.string gv)∧w5.cell? ⟨gb,ob+k * 3+2,none⟩=some (.slice yA wl.length yc))∧Rd w5 xA (wl.map encStr)∧Rd w5 yA (wl.map encStr)):=hid (fun k hk=>by
  have h1:k<rows.length:=by rw[←hNA.out];exact hk
  have h2:k<rowsb.length:=by rw[hlab2.out];exact h1
  obtain⟨ga,oa,rfl,hga,hca⟩:=SA4.out.at_ h1;obtain⟨gb,ob,rfl,hgb,hcb⟩:=SB.out.at_ h2;have hsy:rows[k].sym=rowsb[k].sym:=by
   have e:rows.map SyR.sym=rowsb.map SyR.sym:=HRA.out.trans HRB.out.symm;have e2:(rows.map SyR.sym)[k]? = (rowsb.map SyR.sym)[k]?:=by rw[e]
   rw[List.getElem?_map,List.getElem?_map,List.getElem?_eq_getElem h1,List.getElem?_eq_getElem h2]at e2
   simpa using e2
  have hwl:=HR2.out rows[k].sym (by rw[←HRA.out];exact List.mem_map.2 ⟨_,List.getElem_mem h1,rfl⟩);have r1:=fun w5 (b:Below w4.heap.size w4 w5)=>((SA4.out.below b).r _ (List.getElem_mem h1))
  have r2:=fun w5 (b:Below w4.heap.size w4 w5)=>((SB.out.below b).r _ (List.getElem_mem h2))
  generalize rows[k] = x at *;generalize rowsb[k] = y at *;obtain⟨xn,xg,xA,xc,xw⟩:=x;obtain⟨yn,yg,yA,yc,yw⟩:=y;unfold SyR.sym at hsy hwl;dsimp only at *;injection hsy with e1 e2 e3;obtain rfl:=tx_eq e1;subst e2;subst e3;unfold SyR.row at hca hcb
  exact⟨ga,oa,gb,ob,xn,xg,xA,yA,xc,yc,xw,rfl,rfl,hwl,fun w5 b=>⟨⟨cell_keep (hca 0 _ rfl) (Fr.of_below b []) hga (by simp),cell_keep (hca 1 _ rfl) (Fr.of_below b []) hga (by simp),cell_keep (hca 2 _ rfl) (Fr.of_below b []) hga (by simp)⟩,⟨cell_keep (hcb 0 _ rfl) (Fr.of_below b []) hgb (by simp),cell_keep (hcb 1 _ rfl) (Fr.of_below b []) hgb (by simp),cell_keep (hcb 2 _ rfl) (Fr.of_below b []) hgb (by simp)⟩,r1 w5 b,r2 w5 b⟩⟩)
 have R4:=hid (Below.refl w4.heap.size w4);clear SA4 SB HRA HRB hlab2 hNA HR1 HR2;go_wp2_with fail;go_loopw [9] (fun i wr=>∃k:Nat,k≤na∧i=.int .i64 k∧Hid (Below w4.heap.size w4 wr)) (fun i _=>na-(intOf i).toNat)
 case atStart=>exact⟨0,by omega,rfl,R4⟩
 case round=>
  obtain⟨k,hk,rfl,HB⟩:=hrel
  rename World=>wr
  clear R4;by_cases hkl:k<na
  ·have d3:decide ((k:Int)<(na:Int))=true:=decide_eq_true (by omega)
   have hki:(k:Int)<(na:Int):=by omega
   obtain⟨ga,oa,gb,ob,nm,gv,xA,yA,xc,yc,wl,rfl,rfl,hwl,hcs⟩:=HC0.out k hkl;have HCs:=hid hcs;have KS:=hid (fun w5 (b:Below w4.heap.size w4 w5)=>inn.same_any w5 xA yA xc yc wl (hcs w5 b).2.2.1 (hcs w5 b).2.2.2 (by omega));clear hcs HC0;generalize wl.length=wn at *;have t1:(nm.data != nm.data)=false:=by simp
   have t2:(nm.toList==nm.toList)=true:=by simp
   have t3:(gv.data != gv.data)=false:=by simp
   have t4:(gv.toList==gv.toList)=true:=by simp
   go_wp2_with fail;obtain⟨S,hSd⟩:∃S:World→Prop,Hid (∀W',S W'↔((W'.cell? ⟨ga,oa+k * 3,none⟩=some (.string nm)∧W'.cell? ⟨ga,oa+k * 3+1,none⟩=some (.string gv)∧W'.cell? ⟨ga,oa+k * 3+2,none⟩=some (.slice xA wn xc))∧(W'.cell? ⟨gb,ob+k * 3,none⟩=some (.string nm)∧W'.cell? ⟨gb,ob+k * 3+1,none⟩=some (.string gv)∧W'.cell? ⟨gb,ob+k * 3+2,none⟩=some (.slice yA wn yc)))):=⟨_,hid fun _=>Iff.rfl⟩;have HBd:Hid (Below w4.heap.size w4 wr.drew):=hid (HB.out.trans (((Fr.refl [] wr).drew).all.mono HB.out.size));have hS0:S wr.drew:=(hSd.out _).2 ⟨(HCs.out _ HBd.out).1,(HCs.out _ HBd.out).2.1⟩;clear HB;refine rng.wp_normal ?_;refine wp_region_held_drew (S:=S) (by kernel_rfl) hS0 (fun _=>?_);generalize hwz:wr.drew=wz at *;clear hwz;refine wpAnyH_take (i:=0) (v:=.slice (some ⟨ga,oa,none⟩) na capa) rfl (by kernel_rfl) (by kernel_rfl) (by kernel_rfl) (fun _ _ _ h=>absurd h.1 (by simp)) (Or.inl ⟨by kernel_rfl,?_⟩) hS0 ?_
   ·intro W' hSw
    obtain⟨⟨s0,s1,s2⟩,u0,u1,u2⟩:=(hSd.out _).1 hSw;go_simp
   try change wpAnyH _ _ _ _ _ _ _ (Act.put _ (some 51) _) _
   try simp only[Act.put,List.setIfInBounds_toArray,List.set_cons_zero,List.set_cons_succ]
   refine wpAnyH_take (i:=1) (v:=.int .i64 k) rfl (by kernel_rfl) (by kernel_rfl) (by kernel_rfl) (fun _ _ _ h=>absurd h.1 (by simp)) (Or.inl ⟨by kernel_rfl,?_⟩) hS0 ?_
   ·intro W' hSw
    obtain⟨⟨s0,s1,s2⟩,u0,u1,u2⟩:=(hSd.out _).1 hSw;go_simp
   try change wpAnyH _ _ _ _ _ _ _ (Act.put _ (some 52) _) _
   try simp only[Act.put,List.setIfInBounds_toArray,List.set_cons_zero,List.set_cons_succ]
   refine wpAnyH_take (i:=2) (v:=.pointer (some ⟨ga,oa+k * 3,none⟩)) rfl (by kernel_rfl) (by kernel_rfl) (by kernel_rfl) (fun _ _ _ h=>absurd h.1 (by simp)) (Or.inl ⟨by kernel_rfl,?_⟩) hS0 ?_
   ·intro W' hSw
    obtain⟨⟨s0,s1,s2⟩,u0,u1,u2⟩:=(hSd.out _).1 hSw;go_simp
    try (intro hh;omega)
   try change wpAnyH _ _ _ _ _ _ _ (Act.put _ (some 53) _) _
   try simp only[Act.put,List.setIfInBounds_toArray,List.set_cons_zero,List.set_cons_succ]
   refine wpAnyH_take (i:=3) (v:=.pointer (some ⟨ga,oa+k * 3,none⟩)) rfl (by kernel_rfl) (by kernel_rfl) (by kernel_rfl) (fun _ _ _ h=>absurd h.1 (by simp)) (Or.inl ⟨by kernel_rfl,?_⟩) hS0 ?_
   ·intro W' hSw
    obtain⟨⟨s0,s1,s2⟩,u0,u1,u2⟩:=(hSd.out _).1 hSw;go_simp
   try change wpAnyH _ _ _ _ _ _ _ (Act.put _ (some 54) _) _
   try simp only[Act.put,List.setIfInBounds_toArray,List.set_cons_zero,List.set_cons_succ]
   refine wpAnyH_take (i:=4) (v:=.string nm) rfl (by kernel_rfl) (by kernel_rfl) (by kernel_rfl) (fun _ _ _ h=>absurd h.1 (by simp)) (Or.inl ⟨by kernel_rfl,?_⟩) hS0 ?_
   ·intro W' hSw
    obtain⟨⟨s0,s1,s2⟩,u0,u1,u2⟩:=(hSd.out _).1 hSw;go_simp
   try change wpAnyH _ _ _ _ _ _ _ (Act.put _ (some 55) _) _
   try simp only[Act.put,List.setIfInBounds_toArray,List.set_cons_zero,List.set_cons_succ]
   refine wpAnyH_take (i:=5) (v:=.slice (some ⟨gb,ob,none⟩) na capb) rfl (by kernel_rfl) (by kernel_rfl) (by kernel_rfl) (fun _ _ _ h=>absurd h.1 (by simp)) (Or.inl ⟨by kernel_rfl,?_⟩) hS0 ?_
   ·intro W' hSw
    obtain⟨⟨s0,s1,s2⟩,u0,u1,u2⟩:=(hSd.out _).1 hSw;go_simp
   try change wpAnyH _ _ _ _ _ _ _ (Act.put _ (some 56) _) _
   try simp only[Act.put,List.setIfInBounds_toArray,List.set_cons_zero,List.set_cons_succ]
   refine wpAnyH_take (i:=6) (v:=.int .i64 k) rfl (by kernel_rfl) (by kernel_rfl) (by kernel_rfl) (fun _ _ _ h=>absurd h.1 (by simp)) (Or.inl ⟨by kernel_rfl,?_⟩) hS0 ?_
   ·intro W' hSw
    obtain⟨⟨s0,s1,s2⟩,u0,u1,u2⟩:=(hSd.out _).1 hSw;go_simp
   try change wpAnyH _ _ _ _ _ _ _ (Act.put _ (some 57) _) _
   try simp only[Act.put,List.setIfInBounds_toArray,List.set_cons_zero,List.set_cons_succ]
   refine wpAnyH_take (i:=7) (v:=.pointer (some ⟨gb,ob+k * 3,none⟩)) rfl (by kernel_rfl) (by kernel_rfl) (by kernel_rfl) (fun _ _ _ h=>absurd h.1 (by simp)) (Or.inl ⟨by kernel_rfl,?_⟩) hS0 ?_
   ·intro W' hSw
    obtain⟨⟨s0,s1,s2⟩,u0,u1,u2⟩:=(hSd.out _).1 hSw;go_simp
    try (intro hh;omega)
   try change wpAnyH _ _ _ _ _ _ _ (Act.put _ (some 58) _) _
   try simp only[Act.put,List.setIfInBounds_toArray,List.set_cons_zero,List.set_cons_succ]
   refine wpAnyH_take (i:=8) (v:=.pointer (some ⟨gb,ob+k * 3,none⟩)) rfl (by kernel_rfl) (by kernel_rfl) (by kernel_rfl) (fun _ _ _ h=>absurd h.1 (by simp)) (Or.inl ⟨by kernel_rfl,?_⟩) hS0 ?_
   ·intro W' hSw
    obtain⟨⟨s0,s1,s2⟩,u0,u1,u2⟩:=(hSd.out _).1 hSw;go_simp
   try change wpAnyH _ _ _ _ _ _ _ (Act.put _ (some 59) _) _
   try simp only[Act.put,List.setIfInBounds_toArray,List.set_cons_zero,List.set_cons_succ]
   refine wpAnyH_take (i:=9) (v:=.string nm) rfl (by kernel_rfl) (by kernel_rfl) (by kernel_rfl) (fun _ _ _ h=>absurd h.1 (by simp)) (Or.inl ⟨by kernel_rfl,?_⟩) hS0 ?_
   ·intro W' hSw
    obtain⟨⟨s0,s1,s2⟩,u0,u1,u2⟩:=(hSd.out _).1 hSw;go_simp
   try change wpAnyH _ _ _ _ _ _ _ (Act.put _ (some 60) _) _
   try simp only[Act.put,List.setIfInBounds_toArray,List.set_cons_zero,List.set_cons_succ]
   refine wpAnyH_take (i:=10) (v:=.bool false) rfl (by kernel_rfl) (by kernel_rfl) (by kernel_rfl) (fun _ _ _ h=>absurd h.1 (by simp)) (Or.inl ⟨by kernel_rfl,?_⟩) hS0 ?_
   ·intro W' hSw
    obtain⟨⟨s0,s1,s2⟩,u0,u1,u2⟩:=(hSd.out _).1 hSw;go_simp
   try change wpAnyH _ _ _ _ _ _ _ (Act.put _ (some 61) _) _
   try simp only[Act.put,List.setIfInBounds_toArray,List.set_cons_zero,List.set_cons_succ]
   refine wpAnyH_take (i:=11) (v:=.bool false) rfl (by kernel_rfl) (by kernel_rfl) (by kernel_rfl) (fun _ _ _ h=>absurd h.1 (by simp)) (Or.inl ⟨by kernel_rfl,?_⟩) hS0 ?_
   ·intro W' hSw
    obtain⟨⟨s0,s1,s2⟩,u0,u1,u2⟩:=(hSd.out _).1 hSw;go_simp
   try change wpAnyH _ _ _ _ _ _ _ (Act.put _ (some 62) _) _
   try simp only[Act.put,List.setIfInBounds_toArray,List.set_cons_zero,List.set_cons_succ]
   refine wpAnyH_take (i:=12) (v:=.slice (some ⟨ga,oa,none⟩) na capa) rfl (by kernel_rfl) (by kernel_rfl) (by kernel_rfl) (fun _ _ _ h=>absurd h.1 (by simp)) (Or.inl ⟨by kernel_rfl,?_⟩) hS0 ?_
   ·intro W' hSw
    obtain⟨⟨s0,s1,s2⟩,u0,u1,u2⟩:=(hSd.out _).1 hSw;go_simp
   try change wpAnyH _ _ _ _ _ _ _ (Act.put _ (some 63) _) _
   try simp only[Act.put,List.setIfInBounds_toArray,List.set_cons_zero,List.set_cons_succ]
   refine wpAnyH_take (i:=13) (v:=.int .i64 k) rfl (by kernel_rfl) (by kernel_rfl) (by kernel_rfl) (fun _ _ _ h=>absurd h.1 (by simp)) (Or.inl ⟨by kernel_rfl,?_⟩) hS0 ?_
   ·intro W' hSw
    obtain⟨⟨s0,s1,s2⟩,u0,u1,u2⟩:=(hSd.out _).1 hSw;go_simp
   try change wpAnyH _ _ _ _ _ _ _ (Act.put _ (some 64) _) _
   try simp only[Act.put,List.setIfInBounds_toArray,List.set_cons_zero,List.set_cons_succ]
   refine wpAnyH_take (i:=14) (v:=.pointer (some ⟨ga,oa+k * 3,none⟩)) rfl (by kernel_rfl) (by kernel_rfl) (by kernel_rfl) (fun _ _ _ h=>absurd h.1 (by simp)) (Or.inl ⟨by kernel_rfl,?_⟩) hS0 ?_
   ·intro W' hSw
    obtain⟨⟨s0,s1,s2⟩,u0,u1,u2⟩:=(hSd.out _).1 hSw;go_simp
    try (intro hh;omega)
   try change wpAnyH _ _ _ _ _ _ _ (Act.put _ (some 65) _) _
   try simp only[Act.put,List.setIfInBounds_toArray,List.set_cons_zero,List.set_cons_succ]
   refine wpAnyH_take (i:=15) (v:=.pointer (some ⟨ga,oa+k * 3+1,none⟩)) rfl (by kernel_rfl) (by kernel_rfl) (by kernel_rfl) (fun _ _ _ h=>absurd h.1 (by simp)) (Or.inl ⟨by kernel_rfl,?_⟩) hS0 ?_
   ·intro W' hSw
    obtain⟨⟨s0,s1,s2⟩,u0,u1,u2⟩:=(hSd.out _).1 hSw;go_simp
   try change wpAnyH _ _ _ _ _ _ _ (Act.put _ (some 66) _) _
   try simp only[Act.put,List.setIfInBounds_toArray,List.set_cons_zero,List.set_cons_succ]
   refine wpAnyH_take (i:=16) (v:=.string gv) rfl (by kernel_rfl) (by kernel_rfl) (by kernel_rfl) (fun _ _ _ h=>absurd h.1 (by simp)) (Or.inl ⟨by kernel_rfl,?_⟩) hS0 ?_
   ·intro W' hSw
    obtain⟨⟨s0,s1,s2⟩,u0,u1,u2⟩:=(hSd.out _).1 hSw;go_simp
   try change wpAnyH _ _ _ _ _ _ _ (Act.put _ (some 67) _) _
   try simp only[Act.put,List.setIfInBounds_toArray,List.set_cons_zero,List.set_cons_succ]
   refine wpAnyH_take (i:=17) (v:=.slice (some ⟨gb,ob,none⟩) na capb) rfl (by kernel_rfl) (by kernel_rfl) (by kernel_rfl) (fun _ _ _ h=>absurd h.1 (by simp)) (Or.inl ⟨by kernel_rfl,?_⟩) hS0 ?_
   ·intro W' hSw
    obtain⟨⟨s0,s1,s2⟩,u0,u1,u2⟩:=(hSd.out _).1 hSw;go_simp
   try change wpAnyH _ _ _ _ _ _ _ (Act.put _ (some 68) _) _
   try simp only[Act.put,List.setIfInBounds_toArray,List.set_cons_zero,List.set_cons_succ]
   refine wpAnyH_take (i:=18) (v:=.int .i64 k) rfl (by kernel_rfl) (by kernel_rfl) (by kernel_rfl) (fun _ _ _ h=>absurd h.1 (by simp)) (Or.inl ⟨by kernel_rfl,?_⟩) hS0 ?_
   ·intro W' hSw
    obtain⟨⟨s0,s1,s2⟩,u0,u1,u2⟩:=(hSd.out _).1 hSw;go_simp
   try change wpAnyH _ _ _ _ _ _ _ (Act.put _ (some 69) _) _
   try simp only[Act.put,List.setIfInBounds_toArray,List.set_cons_zero,List.set_cons_succ]
   refine wpAnyH_take (i:=19) (v:=.pointer (some ⟨gb,ob+k * 3,none⟩)) rfl (by kernel_rfl) (by kernel_rfl) (by kernel_rfl) (fun _ _ _ h=>absurd h.1 (by simp)) (Or.inl ⟨by kernel_rfl,?_⟩) hS0 ?_
   ·intro W' hSw
    obtain⟨⟨s0,s1,s2⟩,u0,u1,u2⟩:=(hSd.out _).1 hSw;go_simp
    try (intro hh;omega)
   try change wpAnyH _ _ _ _ _ _ _ (Act.put _ (some 70) _) _
   try simp only[Act.put,List.setIfInBounds_toArray,List.set_cons_zero,List.set_cons_succ]
   refine wpAnyH_take (i:=20) (v:=.pointer (some ⟨gb,ob+k * 3+1,none⟩)) rfl (by kernel_rfl) (by kernel_rfl) (by kernel_rfl) (fun _ _ _ h=>absurd h.1 (by simp)) (Or.inl ⟨by kernel_rfl,?_⟩) hS0 ?_
   ·intro W' hSw
    obtain⟨⟨s0,s1,s2⟩,u0,u1,u2⟩:=(hSd.out _).1 hSw;go_simp
   try change wpAnyH _ _ _ _ _ _ _ (Act.put _ (some 71) _) _
   try simp only[Act.put,List.setIfInBounds_toArray,List.set_cons_zero,List.set_cons_succ]
   refine wpAnyH_take (i:=21) (v:=.string gv) rfl (by kernel_rfl) (by kernel_rfl) (by kernel_rfl) (fun _ _ _ h=>absurd h.1 (by simp)) (Or.inl ⟨by kernel_rfl,?_⟩) hS0 ?_
   ·intro W' hSw
    obtain⟨⟨s0,s1,s2⟩,u0,u1,u2⟩:=(hSd.out _).1 hSw;go_simp
   try change wpAnyH _ _ _ _ _ _ _ (Act.put _ (some 72) _) _
   try simp only[Act.put,List.setIfInBounds_toArray,List.set_cons_zero,List.set_cons_succ]
   refine wpAnyH_take (i:=22) (v:=.bool false) rfl (by kernel_rfl) (by kernel_rfl) (by kernel_rfl) (fun _ _ _ h=>absurd h.1 (by simp)) (Or.inl ⟨by kernel_rfl,?_⟩) hS0 ?_
   ·intro W' hSw
    obtain⟨⟨s0,s1,s2⟩,u0,u1,u2⟩:=(hSd.out _).1 hSw;go_simp
   try change wpAnyH _ _ _ _ _ _ _ (Act.put _ (some 73) _) _
   try simp only[Act.put,List.setIfInBounds_toArray,List.set_cons_zero,List.set_cons_succ]
   refine wpAnyH_take (i:=23) (v:=.bool false) rfl (by kernel_rfl) (by kernel_rfl) (by kernel_rfl) (fun _ _ _ h=>absurd h.1 (by simp)) (Or.inl ⟨by kernel_rfl,?_⟩) hS0 ?_
   ·intro W' hSw
    obtain⟨⟨s0,s1,s2⟩,u0,u1,u2⟩:=(hSd.out _).1 hSw;go_simp
   try change wpAnyH _ _ _ _ _ _ _ (Act.put _ (some 74) _) _
   try simp only[Act.put,List.setIfInBounds_toArray,List.set_cons_zero,List.set_cons_succ]
   refine wpAnyH_take (i:=24) (v:=.bool false) rfl (by kernel_rfl) (by kernel_rfl) (by kernel_rfl) (fun _ _ _ h=>absurd h.1 (by simp)) (Or.inl ⟨by kernel_rfl,?_⟩) hS0 ?_
   ·intro W' hSw
    obtain⟨⟨s0,s1,s2⟩,u0,u1,u2⟩:=(hSd.out _).1 hSw;go_simp
   try change wpAnyH _ _ _ _ _ _ _ (Act.put _ (some 75) _) _
   try simp only[Act.put,List.setIfInBounds_toArray,List.set_cons_zero,List.set_cons_succ]
   refine wpAnyH_take (i:=25) (v:=.slice (some ⟨ga,oa,none⟩) na capa) rfl (by kernel_rfl) (by kernel_rfl) (by kernel_rfl) (fun _ _ _ h=>absurd h.1 (by simp)) (Or.inl ⟨by kernel_rfl,?_⟩) hS0 ?_
   ·intro W' hSw
    obtain⟨⟨s0,s1,s2⟩,u0,u1,u2⟩:=(hSd.out _).1 hSw;go_simp
   try change wpAnyH _ _ _ _ _ _ _ (Act.put _ (some 76) _) _
   try simp only[Act.put,List.setIfInBounds_toArray,List.set_cons_zero,List.set_cons_succ]
   refine wpAnyH_take (i:=26) (v:=.int .i64 k) rfl (by kernel_rfl) (by kernel_rfl) (by kernel_rfl) (fun _ _ _ h=>absurd h.1 (by simp)) (Or.inl ⟨by kernel_rfl,?_⟩) hS0 ?_
   ·intro W' hSw
    obtain⟨⟨s0,s1,s2⟩,u0,u1,u2⟩:=(hSd.out _).1 hSw;go_simp
   try change wpAnyH _ _ _ _ _ _ _ (Act.put _ (some 77) _) _
   try simp only[Act.put,List.setIfInBounds_toArray,List.set_cons_zero,List.set_cons_succ]
   refine wpAnyH_take (i:=27) (v:=.pointer (some ⟨ga,oa+k * 3,none⟩)) rfl (by kernel_rfl) (by kernel_rfl) (by kernel_rfl) (fun _ _ _ h=>absurd h.1 (by simp)) (Or.inl ⟨by kernel_rfl,?_⟩) hS0 ?_
   ·intro W' hSw
    obtain⟨⟨s0,s1,s2⟩,u0,u1,u2⟩:=(hSd.out _).1 hSw;go_simp
    try (intro hh;omega)
   try change wpAnyH _ _ _ _ _ _ _ (Act.put _ (some 78) _) _
   try simp only[Act.put,List.setIfInBounds_toArray,List.set_cons_zero,List.set_cons_succ]
   refine wpAnyH_take (i:=28) (v:=.pointer (some ⟨ga,oa+k * 3+2,none⟩)) rfl (by kernel_rfl) (by kernel_rfl) (by kernel_rfl) (fun _ _ _ h=>absurd h.1 (by simp)) (Or.inl ⟨by kernel_rfl,?_⟩) hS0 ?_
   ·intro W' hSw
    obtain⟨⟨s0,s1,s2⟩,u0,u1,u2⟩:=(hSd.out _).1 hSw;go_simp
   try change wpAnyH _ _ _ _ _ _ _ (Act.put _ (some 79) _) _
   try simp only[Act.put,List.setIfInBounds_toArray,List.set_cons_zero,List.set_cons_succ]
   refine wpAnyH_take (i:=29) (v:=.slice xA wn xc) rfl (by kernel_rfl) (by kernel_rfl) (by kernel_rfl) (fun _ _ _ h=>absurd h.1 (by simp)) (Or.inl ⟨by kernel_rfl,?_⟩) hS0 ?_
   ·intro W' hSw
    obtain⟨⟨s0,s1,s2⟩,u0,u1,u2⟩:=(hSd.out _).1 hSw;go_simp
   try change wpAnyH _ _ _ _ _ _ _ (Act.put _ (some 80) _) _
   try simp only[Act.put,List.setIfInBounds_toArray,List.set_cons_zero,List.set_cons_succ]
   refine wpAnyH_take (i:=30) (v:=.slice (some ⟨gb,ob,none⟩) na capb) rfl (by kernel_rfl) (by kernel_rfl) (by kernel_rfl) (fun _ _ _ h=>absurd h.1 (by simp)) (Or.inl ⟨by kernel_rfl,?_⟩) hS0 ?_
   ·intro W' hSw
    obtain⟨⟨s0,s1,s2⟩,u0,u1,u2⟩:=(hSd.out _).1 hSw;go_simp
   try change wpAnyH _ _ _ _ _ _ _ (Act.put _ (some 81) _) _
   try simp only[Act.put,List.setIfInBounds_toArray,List.set_cons_zero,List.set_cons_succ]
   refine wpAnyH_take (i:=31) (v:=.int .i64 k) rfl (by kernel_rfl) (by kernel_rfl) (by kernel_rfl) (fun _ _ _ h=>absurd h.1 (by simp)) (Or.inl ⟨by kernel_rfl,?_⟩) hS0 ?_
   ·intro W' hSw
    obtain⟨⟨s0,s1,s2⟩,u0,u1,u2⟩:=(hSd.out _).1 hSw;go_simp
   try change wpAnyH _ _ _ _ _ _ _ (Act.put _ (some 82) _) _
   try simp only[Act.put,List.setIfInBounds_toArray,List.set_cons_zero,List.set_cons_succ]
   refine wpAnyH_take (i:=32) (v:=.pointer (some ⟨gb,ob+k * 3,none⟩)) rfl (by kernel_rfl) (by kernel_rfl) (by kernel_rfl) (fun _ _ _ h=>absurd h.1 (by simp)) (Or.inl ⟨by kernel_rfl,?_⟩) hS0 ?_
   ·intro W' hSw
    obtain⟨⟨s0,s1,s2⟩,u0,u1,u2⟩:=(hSd.out _).1 hSw;go_simp
    try (intro hh;omega)
   try change wpAnyH _ _ _ _ _ _ _ (Act.put _ (some 83) _) _
   try simp only[Act.put,List.setIfInBounds_toArray,List.set_cons_zero,List.set_cons_succ]
   refine wpAnyH_take (i:=33) (v:=.pointer (some ⟨gb,ob+k * 3+2,none⟩)) rfl (by kernel_rfl) (by kernel_rfl) (by kernel_rfl) (fun _ _ _ h=>absurd h.1 (by simp)) (Or.inl ⟨by kernel_rfl,?_⟩) hS0 ?_
   ·intro W' hSw
    obtain⟨⟨s0,s1,s2⟩,u0,u1,u2⟩:=(hSd.out _).1 hSw;go_simp
   try change wpAnyH _ _ _ _ _ _ _ (Act.put _ (some 84) _) _
   try simp only[Act.put,List.setIfInBounds_toArray,List.set_cons_zero,List.set_cons_succ]
   refine wpAnyH_take (i:=34) (v:=.slice yA wn yc) rfl (by kernel_rfl) (by kernel_rfl) (by kernel_rfl) (fun _ _ _ h=>absurd h.1 (by simp)) (Or.inl ⟨by kernel_rfl,?_⟩) hS0 ?_
   ·intro W' hSw
    obtain⟨⟨s0,s1,s2⟩,u0,u1,u2⟩:=(hSd.out _).1 hSw;go_simp
   try change wpAnyH _ _ _ _ _ _ _ (Act.put _ (some 85) _) _
   try simp only[Act.put,List.setIfInBounds_toArray,List.set_cons_zero,List.set_cons_succ]
   refine wpAnyH_ready (rs:=[35]) (by kernel_rfl) (by simp) ?_;refine AllReadyH.cons rfl (fun K hK=>?_) AllReadyH.nil;have KL:=KS.out wz HBd.out;go_simp;refine KL.mono ?_;rintro e w5 ⟨rfl,b5⟩;have HB5:=hid (HBd.out.trans (b5.mono HBd.out.size));have hS1:=(hSd.out _).2 ⟨(HCs.out _ HB5.out).1,(HCs.out _ HB5.out).2.1⟩;refine hK.out _ _ hS1 (fun _=>?_);clear hK KL b5 HBd hS0
   try simp only[Act.put,List.setIfInBounds_toArray,List.set_cons_zero,List.set_cons_succ]
   refine wpAnyH_take (i:=36) (v:=.bool false) rfl (by kernel_rfl) (by kernel_rfl) (by kernel_rfl) (fun _ _ _ h=>absurd h.1 (by simp)) (Or.inl ⟨by kernel_rfl,?_⟩) hS1 ?_
   ·intro W' hSw
    obtain⟨⟨s0,s1,s2⟩,u0,u1,u2⟩:=(hSd.out _).1 hSw;go_simp
   try change wpAnyH _ _ _ _ _ _ _ (Act.put _ (some 87) _) _
   try simp only[Act.put,List.setIfInBounds_toArray,List.set_cons_zero,List.set_cons_succ]
   refine wpAnyH_take (i:=37) (v:=.bool false) rfl (by kernel_rfl) (by kernel_rfl) (by kernel_rfl) (fun _ _ _ h=>absurd h.1 (by simp)) (Or.inl ⟨by kernel_rfl,?_⟩) hS1 ?_
   ·intro W' hSw
    obtain⟨⟨s0,s1,s2⟩,u0,u1,u2⟩:=(hSd.out _).1 hSw;go_simp
   try change wpAnyH _ _ _ _ _ _ _ (Act.put _ (some 88) _) _
   try simp only[Act.put,List.setIfInBounds_toArray,List.set_cons_zero,List.set_cons_succ]
   refine wpAnyH_done (by kernel_rfl) ?_ _;refine⟨rfl,?_⟩;clear hSd hS1 KS HCs;go_wp2_with fail;go_roundw
   case rel=>exact⟨k+1,by omega,by go_num,HB5⟩
   case measure=>simp[intOf];omega
  ·obtain rfl:k=na:=by omega
   have d3:decide ((k:Int)<(k:Int))=false:=decide_eq_false (by omega);have BF:=hid (B4.out.trans (HB.out.mono B4.out.size));have K9:=hid (KW.out wr BF.out);clear HC0 HB KW;go_wp2_with fail;refine K9.out.mono ?_;rintro e w9 ⟨rfl,b9⟩;have B9:=hid (BF.out.trans (b9.mono BF.out.size));clear b9 K9;go_wp2_with fail;go_ret;exact⟨rfl,B9.out⟩
end ym
namespace ym
open RowKit ChangeShapes WideShapes mem sy
open re (MU SumM SumB RB)
open nm (Tab)
theorem pf_resolve(H:Type)(enc:TypeId×Value→H)(W:World){base:Nat}(v:Value)(d:DataW H)(p:List MemPlace)(k:DataW.Trod enc Tryz.prog W 0 (fun _=>true) true 22 v d p)(o:Value.okWide Tryz.prog W .any base 22 v)(hw:∀n∈d.weights Tryz.prog 22,n≤reachBytes)(htab:Tab W) :
 Calls Tryz.prog 3 #[v] W (WKP W):=by
 obtain⟨A,cap,l,rfl,hs,hl⟩:=sus_of v d p k o hw;exact law_resolve held_sf held_mk sf.heldS W A cap l hs hl htab
end ym
end Go.Proofs.YtlkboeajkgbnaaaGreatDoor
