import Derived.Test.YtlkboeajkgbnaaaGreatDoorC07
set_option linter.all false
set_option maxHeartbeats 4000000
namespace Go.Proofs.YtlkboeajkgbnaaaGreatDoor
namespace nm
open RowKit
def splL(l:List UInt8):Nat:=if dg.letB ((l.headD 0).toNat:Int) then dg.runN dg.beh l else dg.runN dg.digB l
theorem splN_eq(s:ByteArray):dg.splN s=splL s.data.toList:=rfl
theorem runN_app(cls:Int→Bool)(a r:List UInt8)(ha:∀c∈a,cls (c.toNat:Int)=true)(hr:r=[]∨cls ((r.headD 0).toNat:Int)=false):dg.runN cls (a++r)=a.length:=by
 induction a with
 | nil=>
  rcases hr with rfl | hr
  ·rfl
  ·cases r with
   | nil=>rfl
   | cons c r=>simp only[List.headD_cons]at hr;simp[dg.runN,hr]
 | cons c a ih=>
  have h1:=ha c List.mem_cons_self;have h2:=ih (fun c hc=>ha c (List.mem_cons_of_mem _ hc));unfold dg.runN at h2 ⊢;rw[List.cons_append,List.takeWhile_cons,if_pos h1,List.length_cons,List.length_cons,h2]
theorem headD_app(a r:List UInt8)(ha:a≠[]):(a++r).headD 0=a.headD 0:=by
 cases a with
 | nil=>exact absurd rfl ha
 | cons c a=>rfl
theorem digB_not_let{b:Int}(h:dg.digB b=true):dg.letB b=false:=by
 unfold dg.digB at h;unfold dg.letB;simp only[decide_eq_true_eq]at h;exact decide_eq_false (by omega)
theorem spl_digits(ds r:List UInt8)(hn:ds≠[])(hd:∀c∈ds,dg.digB (c.toNat:Int)=true)(hr:r=[]∨dg.digB ((r.headD 0).toNat:Int)=false):splL (ds++r)=ds.length:=by
 unfold splL;rw[headD_app ds r hn];have h0:dg.digB ((ds.headD 0).toNat:Int)=true:=by
  cases ds with
  | nil=>exact absurd rfl hn
  | cons c a=>exact hd c List.mem_cons_self
 rw[digB_not_let h0,if_neg (by decide)];exact runN_app _ _ _ hd hr
theorem spl_name(nm r:List UInt8)(hn:nm≠[])(hl:dg.letB ((nm.headD 0).toNat:Int)=true)(hd:∀c∈nm,dg.beh (c.toNat:Int)=true)(hr:r=[]∨dg.beh ((r.headD 0).toNat:Int)=false):splL (nm++r)=nm.length:=by
 unfold splL;rw[headD_app nm r hn,hl,if_pos rfl];exact runN_app _ _ _ hd hr
theorem name_parts(s:ByteArray)(h:dg.nameB s=true):s.data.toList≠[]∧dg.letB ((s.data.toList.headD 0).toNat:Int)=true∧∀c∈s.data.toList,dg.beh (c.toNat:Int)=true:=by
 unfold dg.nameB at h;simp only[Bool.and_eq_true,decide_eq_true_eq]at h;have hl:=dg.size_list s;refine⟨fun e=>?_,h.2.1,dg.all_runN _ _ (by omega)⟩;rw[e]at hl;exact h.1.1 hl.symm
theorem list_extract(s:ByteArray)(a b:Nat):(s.extract a b).data.toList=(s.data.toList.drop a).take (b-a):=by
 rw[ByteArray.data_extract,Array.toList_extract]
theorem list_fn0(s:ByteArray):(fn0 s).data.toList=s.data.toList.take (splL s.data.toList):=by
 unfold fn0;rw[list_extract,splN_eq];simp
theorem list_rest1(s:ByteArray):(rest1 s).data.toList=s.data.toList.drop (splL s.data.toList):=by
 unfold rest1;rw[list_extract,splN_eq,List.take_of_length_le];rw[List.length_drop,dg.size_list];exact Nat.le_refl _
theorem list_tail(s:ByteArray):(tailS s).data.toList=s.data.toList.tail:=by
 unfold tailS;rw[list_extract,List.take_of_length_le (by rw[List.length_drop,dg.size_list];exact Nat.le_refl _),List.drop_one]
theorem dec_of(c:Int)(h0:0≤c):Lib.itoa c=Lib.decDigits c.toNat:=by unfold Lib.itoa;rw[if_neg (by omega)]
def NoDig(r:List UInt8):Prop:=r=[]∨dg.digB ((r.headD 0).toNat:Int)=false
def NoBeh(r:List UInt8):Prop:=r=[]∨dg.beh ((r.headD 0).toNat:Int)=false
theorem NoBeh.dig{r:List UInt8}(h:NoBeh r):NoDig r:=by
 rcases h with h | h
 ·exact Or.inl h
 ·right
  unfold dg.beh at h;rw[Bool.or_eq_false_iff]at h;exact h.2
theorem spl_dec(c:Int)(h0:0≤c)(r:List UInt8)(hr:NoDig r):splL (Lib.itoa c++r)=(Lib.itoa c).length:=by
 rw[dec_of c h0];exact spl_digits _ _ (dg.dec_ne _) (dg.dec_digits _ _ (Nat.le_refl _)) hr
theorem rd_itoa(c:Int)(h0:0≤c)(h1:c≤268435456)(t:ByteArray)(ht:t.data.toList=Lib.itoa c):dg.rd t=(c,0):=by
 have e:t=⟨(Lib.decDigits c.toNat).toArray⟩:=same_bytes (by rw[ht,dec_of c h0]);rw[e,dg.rd_dec _ (by omega)];rw[Int.toNat_of_nonneg h0]
theorem beh_mark(s:ByteArray)(m:UInt8)(mark absent c:Int)(r:List UInt8)(hm:(m.toNat:Int)=mark)(h0:0≤c)(h1:c≤268435456)(hr:NoDig r)(hs:s.data.toList=m :: (Lib.itoa c++r)) :
 (behS s mark absent).1=c∧(behS s mark absent).2.data.toList=r:=by
 have hl:=dg.size_list s;rw[hs,List.length_cons]at hl;have hh:headI s=mark:=by unfold headI;rw[hs,List.headD_cons];exact hm
 have ht:(s.extract 1 s.size).data.toList=Lib.itoa c++r:=by
  have:=list_tail s;unfold tailS at this;rw[this,hs];rfl
 have hsp:dg.splN (s.extract 1 s.size)=(Lib.itoa c).length:=by rw[splN_eq,ht];exact spl_dec c h0 r hr
 have e1:((s.extract 1 s.size).extract 0 (dg.splN (s.extract 1 s.size))).data.toList=Lib.itoa c:=by
  rw[list_extract,ht,hsp];simp
 have e2:((s.extract 1 s.size).extract (dg.splN (s.extract 1 s.size)) (s.extract 1 s.size).size).data.toList=r:=by
  rw[list_extract,hsp,ht,←dg.size_list,ht];simp
 have e3:=rd_itoa c h0 h1 _ e1;unfold behS;rw[if_neg (by rintro(h | h);omega;exact h hh),e3,if_pos rfl];exact⟨rfl,e2⟩
theorem beh_none(s:ByteArray)(mark absent:Int)(h:s.data.toList=[]∨((s.data.toList.headD 0).toNat:Int)≠mark):behS s mark absent=(absent,s):=by
 unfold behS;rw[if_pos];rcases h with h | h
 ·left;rw[←dg.size_list,h];rfl
 ·exact Or.inr h
theorem fn0_app(s:ByteArray)(a r:List UInt8)(hs:s.data.toList=a++r)(h:splL (a++r)=a.length):(fn0 s).data.toList=a∧(rest1 s).data.toList=r:=by
 rw[list_fn0,list_rest1,hs,h];simp
theorem txt_list(d:Nd)(hm:mayB d=true):(txt d).data.toList=textL d:=by unfold txt;rw[if_pos hm]
theorem cell_nobeh(c:Int):NoBeh (cellL c):=by
 unfold cellL;by_cases h:c=-1
 ·rw[if_pos h];exact Or.inl rfl
 ·rw[if_neg h];right;rw[List.headD_cons];decide
theorem cell_of(r:ByteArray)(c:Int)(h0:-1≤c)(h1:c≤268435456)(h:r.data.toList=cellL c):cellOf r=c:=by
 unfold cellOf;unfold cellL at h;by_cases hc:c=-1
 ·rw[if_pos hc]at h
  rw[beh_none r 43 (-1) (Or.inl h)];exact hc.symm
 ·rw[if_neg hc]at h
  exact(beh_mark r 43 43 (-1) c [] rfl (by omega) h1 (Or.inl rfl) (by rw[h,List.append_nil])).1
theorem kind_head(s:ByteArray)(m:UInt8)(r:List UInt8)(h:s.data.toList=m :: r) :
 kindS s=if(m.toNat:Int)=46 then 1 else if(m.toNat:Int)=36 then 2 else if(m.toNat:Int)=64 then 3 else if(m.toNat:Int)=40 then 4 else if(m.toNat:Int)=37 then 6 else if(m.toNat:Int)=35 then 7 else 5:=by
 have hl:=dg.size_list s;rw[h,List.length_cons]at hl;have hh:headI s=(m.toNat:Int):=by unfold headI;rw[h,List.headD_cons]
 unfold kindS;rw[if_neg (by omega),hh]
theorem kind_none(s:ByteArray)(h:s.data.toList=[]):kindS s=5:=by
 unfold kindS;rw[if_pos (by rw[←dg.size_list,h];rfl)]
theorem ahead_of(s fn:ByteArray)(copy:Int)(r:List UInt8)(hf:dg.nameB fn=true)(h0:0≤copy)(h1:copy≤268435456)(hr:NoBeh r)(h126:r=[]∨((r.headD 0).toNat:Int)≠126)
 (hs:s.data.toList=fn.data.toList++(copyL copy++r)):fn0 s=fn∧cp0 s=copy∧(rest2 s).data.toList=r:=by
 obtain⟨n1,n2,n3⟩:=name_parts fn hf;have hb:NoBeh (copyL copy++r):=by
  unfold copyL;by_cases hc:0<copy
  ·rw[if_pos hc];right;show dg.beh (((126:UInt8).toNat:Int))=false;decide
  ·rw[if_neg hc];exact hr
 obtain⟨e1,e2⟩:=fn0_app s _ _ hs (spl_name _ _ n1 n2 n3 hb);refine⟨same_bytes e1,?_⟩;unfold cp0 rest2;by_cases hc:0<copy
 ·unfold copyL at e2
  rw[if_pos hc]at e2;exact beh_mark (rest1 s) 126 126 0 copy r rfl h0 h1 hr.dig e2
 ·unfold copyL at e2
  rw[if_neg hc]at e2;have e3:(rest1 s).data.toList=r:=e2;rw[beh_none (rest1 s) 126 0 (by rw[e3];exact h126)];exact⟨by show(0:Int)=copy;omega,e3⟩
theorem nil_bytes{s:ByteArray}(h:s.toList.isEmpty=true):s=⟨#[]⟩:=by
 apply same_bytes
 have:=empty_of s (List.isEmpty_iff.1 h);have hl:=dg.size_list s;rw[this]at hl;exact List.length_eq_zero_iff.1 hl
theorem may_what(d:Nd)(hm:mayB d=true):mayF d.kind d.copy d.n d.cell d.fn.toList.isEmpty (dg.nameB d.fn) d.name.toList.isEmpty (dg.nameB d.name)=true:=by
 obtain⟨_,_,h1,h7⟩:=may_bounds d hm;rw[←mayB_eq d h1 h7];exact hm
def behindL(d:Nd):List UInt8:=markL d.kind++(bodyL d++cellL d.cell)
theorem textL_eq(d:Nd):textL d=d.fn.data.toList++(copyL d.copy++behindL d):=rfl
theorem cand_txt_1(fn:ByteArray)(copy:Int)(name:ByteArray)(n cell:Int)(hm:mayB ⟨1,fn,copy,name,n,cell⟩=true):cand (txt ⟨1,fn,copy,name,n,cell⟩)=⟨1,fn,copy,name,n,cell⟩:=by
 obtain⟨hcp,hce,_⟩:=may_bounds _ hm;have hcp:0≤copy∧copy≤268435456:=hcp;have hw:=may_what _ hm;unfold mayF at hw;simp at hw;obtain⟨rfl,rfl,_,_,hf,hn⟩:=hw;have hs:=txt_list _ hm;generalize txt ⟨1,fn,copy,name,0,-1⟩=s at *;have hB:behindL ⟨1,fn,copy,name,0,-1⟩=46 :: (name.data.toList++[]):=rfl;rw[textL_eq,hB]at hs;obtain⟨e1,e2,e3⟩:=ahead_of s fn copy _ hf hcp.1 hcp.2 (Or.inr (by rw[List.headD_cons];decide)) (Or.inr (by rw[List.headD_cons];decide)) hs;have hk:kindS (rest2 s)=1:=by rw[kind_head _ _ _ e3];rfl
 have ht:(tailS (rest2 s)).data.toList=name.data.toList++[]:=by rw[list_tail,e3];rfl
 obtain⟨m1,m2,m3⟩:=name_parts name hn;obtain⟨e4,e5⟩:=fn0_app _ _ _ ht (spl_name _ _ m1 m2 m3 (Or.inl rfl));unfold cand;rw[hk,if_neg (by decide),if_pos rfl,e1,e2,same_bytes e4,cell_of _ (-1) (by omega) (by omega) e5]
theorem cand_txt_6(fn:ByteArray)(copy:Int)(name:ByteArray)(n cell:Int)(hm:mayB ⟨6,fn,copy,name,n,cell⟩=true):cand (txt ⟨6,fn,copy,name,n,cell⟩)=⟨6,fn,copy,name,n,cell⟩:=by
 obtain⟨hcp,hce,_⟩:=may_bounds _ hm;have hcp:0≤copy∧copy≤268435456:=hcp;have hce:-1≤cell∧cell≤268435456:=hce;have hw:=may_what _ hm;unfold mayF at hw;simp at hw;obtain⟨rfl,_,_,hf,hn⟩:=hw;have hs:=txt_list _ hm;generalize txt ⟨6,fn,copy,name,0,cell⟩=s at *;have hB:behindL ⟨6,fn,copy,name,0,cell⟩=37 :: (name.data.toList++cellL cell):=rfl;rw[textL_eq,hB]at hs;obtain⟨e1,e2,e3⟩:=ahead_of s fn copy _ hf hcp.1 hcp.2 (Or.inr (by rw[List.headD_cons];decide)) (Or.inr (by rw[List.headD_cons];decide)) hs;have hk:kindS (rest2 s)=6:=by rw[kind_head _ _ _ e3];rfl
 have ht:(tailS (rest2 s)).data.toList=name.data.toList++cellL cell:=by rw[list_tail,e3];rfl
 obtain⟨m1,m2,m3⟩:=name_parts name hn;obtain⟨e4,e5⟩:=fn0_app _ _ _ ht (spl_name _ _ m1 m2 m3 (cell_nobeh cell));unfold cand;rw[hk,if_neg (by decide),if_neg (by decide),if_pos rfl,e1,e2,same_bytes e4,cell_of _ cell hce.1 hce.2 e5]
theorem cand_txt_4(fn:ByteArray)(copy:Int)(name:ByteArray)(n cell:Int)(hm:mayB ⟨4,fn,copy,name,n,cell⟩=true):cand (txt ⟨4,fn,copy,name,n,cell⟩)=⟨4,fn,copy,name,n,cell⟩:=by
 obtain⟨hcp,hce,_⟩:=may_bounds _ hm;have hcp:0≤copy∧copy≤268435456:=hcp;have hw:=may_what _ hm;unfold mayF at hw;simp at hw;obtain⟨hn,rfl,rfl,_,_,hf,_⟩:=hw;obtain rfl:=nil_bytes (s:=name) (by rw[hn];rfl);have hs:=txt_list _ hm;generalize txt ⟨4,fn,copy,⟨#[]⟩,0,-1⟩=s at *;have hB:behindL ⟨4,fn,copy,⟨#[]⟩,0,-1⟩=[40,41]:=rfl;rw[textL_eq,hB]at hs;obtain⟨e1,e2,e3⟩:=ahead_of s fn copy _ hf hcp.1 hcp.2 (Or.inr (by rw[List.headD_cons];decide)) (Or.inr (by rw[List.headD_cons];decide)) hs;have hk:kindS (rest2 s)=4:=by rw[kind_head _ _ _ e3];rfl
 unfold cand;rw[hk,if_neg (by decide),if_neg (by decide),if_neg (by decide),if_pos rfl,e1,e2,cell_of ⟨#[]⟩ (-1) (by omega) (by omega) rfl]
theorem cand_txt_5(fn:ByteArray)(copy:Int)(name:ByteArray)(n cell:Int)(hm:mayB ⟨5,fn,copy,name,n,cell⟩=true):cand (txt ⟨5,fn,copy,name,n,cell⟩)=⟨5,fn,copy,name,n,cell⟩:=by
 obtain⟨_,hce,_⟩:=may_bounds _ hm;have hce:-1≤cell∧cell≤268435456:=hce;have hw:=may_what _ hm;unfold mayF at hw;simp at hw;obtain⟨hf,rfl,rfl,_,_,hn⟩:=hw;obtain rfl:=nil_bytes (s:=fn) (by rw[hf];rfl);have hs:=txt_list _ hm;generalize txt ⟨5,⟨#[]⟩,0,name,0,cell⟩=s at *;have hs2:s.data.toList=name.data.toList++cellL cell:=hs;obtain⟨m1,m2,m3⟩:=name_parts name hn;obtain⟨e4,e5⟩:=fn0_app _ _ _ hs2 (spl_name _ _ m1 m2 m3 (cell_nobeh cell));have h126:(rest1 s).data.toList=[]∨(((rest1 s).data.toList.headD 0).toNat:Int)≠126:=by
  rw[e5];unfold cellL;by_cases h:cell=-1
  ·rw[if_pos h];exact Or.inl rfl
  ·rw[if_neg h];right;rw[List.headD_cons];decide
 have e6:cp0 s=0:=by unfold cp0;rw[beh_none _ _ _ h126]
 have e7:rest2 s=rest1 s:=by unfold rest2;rw[beh_none _ _ _ h126]
 have hk:kindS (rest1 s)=5:=by
  by_cases h:cell=-1
  ·exact kind_none _ (by rw[e5];unfold cellL;rw[if_pos h])
  ·rw[kind_head _ _ _ (by rw[e5];unfold cellL;rw[if_neg h])];rfl
 unfold cand;rw[e7,hk,if_pos rfl,e6,same_bytes e4,cell_of _ cell hce.1 hce.2 e5]
theorem cand_txt_2(fn:ByteArray)(copy:Int)(name:ByteArray)(n cell:Int)(hm:mayB ⟨2,fn,copy,name,n,cell⟩=true):cand (txt ⟨2,fn,copy,name,n,cell⟩)=⟨2,fn,copy,name,n,cell⟩:=by
 obtain⟨hcp,hce,_⟩:=may_bounds _ hm;have hcp:0≤copy∧copy≤268435456:=hcp;have hce:-1≤cell∧cell≤268435456:=hce;have hnn:0≤n∧n≤268435456:=may_n _ hm (by simp);have hw:=may_what _ hm;unfold mayF at hw;simp at hw;have hn:=hw.1;have hf:dg.nameB fn=true:=by first | exact hw.2.2.2.2.1 | exact hw.2.2.2.1
 obtain rfl:=nil_bytes (s:=name) (by rw[hn];rfl);have hs:=txt_list _ hm;generalize txt ⟨2,fn,copy,⟨#[]⟩,n,cell⟩=s at *;have hB:behindL ⟨2,fn,copy,⟨#[]⟩,n,cell⟩=36 :: (Lib.itoa n++cellL cell):=rfl;rw[textL_eq,hB]at hs;obtain⟨e1,e2,e3⟩:=ahead_of s fn copy _ hf hcp.1 hcp.2 (Or.inr (by rw[List.headD_cons];decide)) (Or.inr (by rw[List.headD_cons];decide)) hs;have hk:kindS (rest2 s)=2:=by rw[kind_head _ _ _ e3];rfl
 have hh:headI (rest2 s)=36:=by unfold headI;rw[e3];rfl
 obtain⟨e4,e5⟩:=beh_mark (rest2 s) 36 36 0 n (cellL cell) rfl hnn.1 hnn.2 (cell_nobeh cell).dig e3;unfold cand;rw[hk,if_neg (by decide),if_neg (by decide),if_neg (by decide),if_neg (by decide),hh,e1,e2,e4,cell_of _ cell hce.1 hce.2 e5]
theorem cand_txt_3(fn:ByteArray)(copy:Int)(name:ByteArray)(n cell:Int)(hm:mayB ⟨3,fn,copy,name,n,cell⟩=true):cand (txt ⟨3,fn,copy,name,n,cell⟩)=⟨3,fn,copy,name,n,cell⟩:=by
 obtain⟨hcp,hce,_⟩:=may_bounds _ hm;have hcp:0≤copy∧copy≤268435456:=hcp;have hce:-1≤cell∧cell≤268435456:=hce;have hnn:0≤n∧n≤268435456:=may_n _ hm (by simp);have hw:=may_what _ hm;unfold mayF at hw;simp at hw;have hn:=hw.1;have hf:dg.nameB fn=true:=by first | exact hw.2.2.2.2.1 | exact hw.2.2.2.1
 obtain rfl:=nil_bytes (s:=name) (by rw[hn];rfl);have hs:=txt_list _ hm;generalize txt ⟨3,fn,copy,⟨#[]⟩,n,cell⟩=s at *;have hB:behindL ⟨3,fn,copy,⟨#[]⟩,n,cell⟩=64 :: (Lib.itoa n++cellL cell):=rfl;rw[textL_eq,hB]at hs;obtain⟨e1,e2,e3⟩:=ahead_of s fn copy _ hf hcp.1 hcp.2 (Or.inr (by rw[List.headD_cons];decide)) (Or.inr (by rw[List.headD_cons];decide)) hs;have hk:kindS (rest2 s)=3:=by rw[kind_head _ _ _ e3];rfl
 have hh:headI (rest2 s)=64:=by unfold headI;rw[e3];rfl
 obtain⟨e4,e5⟩:=beh_mark (rest2 s) 64 64 0 n (cellL cell) rfl hnn.1 hnn.2 (cell_nobeh cell).dig e3;unfold cand;rw[hk,if_neg (by decide),if_neg (by decide),if_neg (by decide),if_neg (by decide),hh,e1,e2,e4,cell_of _ cell hce.1 hce.2 e5]
theorem cand_txt_7(fn:ByteArray)(copy:Int)(name:ByteArray)(n cell:Int)(hm:mayB ⟨7,fn,copy,name,n,cell⟩=true):cand (txt ⟨7,fn,copy,name,n,cell⟩)=⟨7,fn,copy,name,n,cell⟩:=by
 obtain⟨hcp,hce,_⟩:=may_bounds _ hm;have hcp:0≤copy∧copy≤268435456:=hcp;have hce:-1≤cell∧cell≤268435456:=hce;have hnn:0≤n∧n≤268435456:=may_n _ hm (by simp);have hw:=may_what _ hm;unfold mayF at hw;simp at hw;have hn:=hw.1;have hf:dg.nameB fn=true:=by first | exact hw.2.2.2.2.1 | exact hw.2.2.2.1
 obtain rfl:=nil_bytes (s:=name) (by rw[hn];rfl);have hs:=txt_list _ hm;generalize txt ⟨7,fn,copy,⟨#[]⟩,n,cell⟩=s at *;have hB:behindL ⟨7,fn,copy,⟨#[]⟩,n,cell⟩=35 :: (Lib.itoa n++cellL cell):=rfl;rw[textL_eq,hB]at hs;obtain⟨e1,e2,e3⟩:=ahead_of s fn copy _ hf hcp.1 hcp.2 (Or.inr (by rw[List.headD_cons];decide)) (Or.inr (by rw[List.headD_cons];decide)) hs;have hk:kindS (rest2 s)=7:=by rw[kind_head _ _ _ e3];rfl
 have hh:headI (rest2 s)=35:=by unfold headI;rw[e3];rfl
 obtain⟨e4,e5⟩:=beh_mark (rest2 s) 35 35 0 n (cellL cell) rfl hnn.1 hnn.2 (cell_nobeh cell).dig e3;unfold cand;rw[hk,if_neg (by decide),if_neg (by decide),if_neg (by decide),if_neg (by decide),hh,e1,e2,e4,cell_of _ cell hce.1 hce.2 e5]
theorem cand_txt(d:Nd)(hm:mayB d=true):cand (txt d)=d:=by
 obtain⟨_,_,h1,h7⟩:=may_bounds d hm;obtain⟨kind,fn,copy,name,n,cell⟩:=d;have h1:1≤kind:=h1;have h7:kind≤7:=h7;rcases(by omega:kind=1∨kind=2∨kind=3∨kind=4∨kind=5∨kind=6∨kind=7)with rfl | rfl | rfl | rfl | rfl | rfl | rfl
 ·exact cand_txt_1 _ _ _ _ _ hm
 ·exact cand_txt_2 _ _ _ _ _ hm
 ·exact cand_txt_3 _ _ _ _ _ hm
 ·exact cand_txt_4 _ _ _ _ _ hm
 ·exact cand_txt_5 _ _ _ _ _ hm
 ·exact cand_txt_6 _ _ _ _ _ hm
 ·exact cand_txt_7 _ _ _ _ _ hm
theorem readB_txt(d:Nd)(hm:mayB d=true):readB (txt d)=true:=by
 unfold readB;rw[cand_txt d hm,hm];simp
theorem txt_cand(s:ByteArray)(h:readB s=true):txt (cand s)=s:=by
 unfold readB at h;rw[Bool.and_eq_true]at h;have:=beq_iff_eq.1 h.2;rw[ByteArray.toList_eq,ByteArray.toList_eq]at this;exact same_bytes this
def pC(r:ByteArray):Int×ByteArray:=if r.size=0∨headI r≠126 then(0,r) else((dg.rd (fn0 (tailS r))).1,rest1 (tailS r))
def shutS:ByteArray:=⟨#[41]⟩
def pM(r:ByteArray):ByteArray×ByteArray×ByteArray:=
 if r.size=0∨headI r=43 then(⟨#[]⟩,⟨#[]⟩,r)
 else(r.extract 0 1,fn0 (tailS r),if headI r=40∧rest1 (tailS r)=shutS then⟨#[]⟩ else rest1 (tailS r))
def pL(r:ByteArray):Int:=if r.size=0∨headI r≠43 then -1 else(dg.rd (tailS r)).1
def rCopy(s:ByteArray):Int:=(pC (rest1 s)).1
def rMark(s:ByteArray):ByteArray:=(pM (pC (rest1 s)).2).1
def rTail(s:ByteArray):ByteArray:=(pM (pC (rest1 s)).2).2.1
def rCell(s:ByteArray):Int:=pL (pM (pC (rest1 s)).2).2.2
def rNum(s:ByteArray):Int:=(dg.rd (rTail s)).1
def candR(s:ByteArray)(k:Nat):Nd:=
 if k=0 then⟨1,fn0 s,rCopy s,rTail s,0,-1⟩
 else if k=1 then⟨2,fn0 s,rCopy s,⟨#[]⟩,rNum s,-1⟩
 else if k=2 then⟨3,fn0 s,rCopy s,⟨#[]⟩,rNum s,-1⟩
 else if k=3 then⟨4,fn0 s,rCopy s,⟨#[]⟩,0,-1⟩
 else if k=4 then⟨5,⟨#[]⟩,0,fn0 s,0,rCell s⟩
 else if k=5 then⟨6,fn0 s,rCopy s,rTail s,0,rCell s⟩
 else⟨7,fn0 s,rCopy s,⟨#[]⟩,rNum s,rCell s⟩
def isB(s:ByteArray)(d:Nd):Bool:=mayB d&&((txt d).toList==s.toList&&(!(rMark s).toList.isEmpty||d.kind==5))
theorem isB_cand(s:ByteArray)(d:Nd)(h:isB s d=true):readB s=true∧cand s=d:=by
 unfold isB at h;simp only[Bool.and_eq_true,beq_iff_eq]at h;have e:txt d=s:=by
  have:=h.2.1;rw[ByteArray.toList_eq,ByteArray.toList_eq]at this;exact same_bytes this
 rw[←e];exact⟨readB_txt d h.1,cand_txt d h.1⟩
theorem head_of{s:ByteArray}{m:UInt8}{r:List UInt8}(h:s.data.toList=m :: r):headI s=(m.toNat:Int)∧s.size≠0:=by
 have hl:=dg.size_list s;rw[h,List.length_cons]at hl;exact⟨by unfold headI;rw[h,List.headD_cons],by omega⟩
theorem pC_of(r:ByteArray)(copy:Int)(t:List UInt8)(h0:0≤copy)(h1:copy≤268435456)(ht:NoBeh t)(h126:t=[]∨((t.headD 0).toNat:Int)≠126)(h:r.data.toList=copyL copy++t):(pC r).1=copy∧(pC r).2.data.toList=t:=by
 unfold copyL at h;by_cases hc:0<copy
 ·rw[if_pos hc]at h
  obtain⟨hh,hz⟩:=head_of h;have e1:(tailS r).data.toList=Lib.itoa copy++t:=by rw[list_tail,h];rfl
  obtain⟨e2,e3⟩:=fn0_app _ _ _ e1 (spl_dec copy h0 t ht.dig);unfold pC;rw[if_neg (by rintro(g | g);exact hz g;exact g hh),rd_itoa copy h0 h1 _ e2];exact⟨rfl,e3⟩
 ·rw[if_neg hc]at h
  have h:r.data.toList=t:=h;unfold pC;rw[if_pos]
  ·exact⟨by show(0:Int)=copy;omega,h⟩
  ·rcases h126 with g | g
   ·left;rw[←dg.size_list,h,g];rfl
   ·right;unfold headI;rw[h];exact g
theorem pL_of(r:ByteArray)(c:Int)(h0:-1≤c)(h1:c≤268435456)(h:r.data.toList=cellL c):pL r=c:=by
 unfold cellL at h;unfold pL;by_cases hc:c=-1
 ·rw[if_pos hc]at h
  rw[if_pos (Or.inl (by rw[←dg.size_list,h];rfl)),hc]
 ·rw[if_neg hc]at h
  obtain⟨hh,hz⟩:=head_of h;rw[if_neg (by rintro(g | g);exact hz g;exact g hh),rd_itoa c (by omega) h1 _ (by rw[list_tail,h];rfl)]
theorem pM_of(r:ByteArray)(m:UInt8)(a t:List UInt8)(h43:(m.toNat:Int)≠43)(h40:(m.toNat:Int)≠40)(hs:splL (a++t)=a.length)(h:r.data.toList=m :: (a++t)) :
 (pM r).1.data.toList=[m]∧(pM r).2.1.data.toList=a∧(pM r).2.2.data.toList=t:=by
 obtain⟨hh,hz⟩:=head_of h;have e1:(tailS r).data.toList=a++t:=by rw[list_tail,h];rfl
 obtain⟨e2,e3⟩:=fn0_app _ _ _ e1 hs;unfold pM;rw[if_neg (by rintro(g | g);exact hz g;exact h43 (hh ▸ g)),if_neg (by rintro⟨g,_⟩;exact h40 (hh ▸ g))];exact⟨by rw[list_extract,h];rfl,e2,e3⟩
theorem not_empty_of{s:ByteArray}{m:UInt8}{r:List UInt8}(h:s.data.toList=m :: r):s.toList.isEmpty=false:=by
 rw[ByteArray.toList_eq,h];rfl
theorem isB_mk(s:ByteArray)(d:Nd)(hm:mayB d=true)(ht:txt d=s)(hk:(rMark s).toList.isEmpty=false∨d.kind=5):isB s d=true:=by
 unfold isB;rw[hm,ht];rcases hk with h | h <;> simp[h]
theorem is_txt(d:Nd)(hm:mayB d=true):candR (txt d) (d.kind.toNat-1)=d∧isB (txt d) d=true:=by
 obtain⟨hcp,hce,h1,h7⟩:=may_bounds d hm;have hw:=may_what d hm;have hN:=may_n d hm;have hs:=txt_list d hm;have hB:=isB_mk (txt d) d hm rfl;generalize txt d=s at *;rw[textL_eq]at hs;obtain⟨kind,fn,copy,name,n,cell⟩:=d;have h1:1≤kind:=h1;have h7:kind≤7:=h7;have hcp:0≤copy∧copy≤268435456:=hcp;have hce:-1≤cell∧cell≤268435456:=hce;have hN:kind=2∨kind=3∨kind=7→0≤n∧n≤268435456:=hN;have hB:(rMark s).toList.isEmpty=false∨kind=5→isB s ⟨kind,fn,copy,name,n,cell⟩=true:=hB;have hs:s.data.toList=fn.data.toList++(copyL copy++behindL ⟨kind,fn,copy,name,n,cell⟩):=hs;have hw:mayF kind copy n cell fn.toList.isEmpty (dg.nameB fn) name.toList.isEmpty (dg.nameB name)=true:=hw;clear hm;have key:∀(m:UInt8) (a t:List UInt8),kind≠5→dg.nameB fn=true→behindL ⟨kind,fn,copy,name,n,cell⟩=m :: (a++t)→dg.beh (m.toNat:Int)=false→(m.toNat:Int)≠126 →
  fn0 s=fn∧rCopy s=copy∧(pC (rest1 s)).2.data.toList=m :: (a++t):=by
  intro m a t _ hf hb h2 h3;rw[hb]at hs;obtain⟨n1,n2,n3⟩:=name_parts fn hf;have hnb:NoBeh (m :: (a++t)):=Or.inr (by rw[List.headD_cons];exact h2);have hx:(m :: (a++t))=[]∨(((m :: (a++t)).headD 0).toNat:Int)≠126:=Or.inr (by rw[List.headD_cons];exact h3);have hnc:NoBeh (copyL copy++(m :: (a++t))):=by
   unfold copyL;by_cases hc:0<copy
   ·rw[if_pos hc];right;show dg.beh (((126:UInt8).toNat:Int))=false;decide
   ·rw[if_neg hc];exact hnb
  obtain⟨e1,e2⟩:=fn0_app s _ _ hs (spl_name _ _ n1 n2 n3 hnc);obtain⟨e3,e4⟩:=pC_of (rest1 s) copy _ hcp.1 hcp.2 hnb hx e2;exact⟨same_bytes e1,e3,e4⟩
 rcases(by omega:kind=1∨kind=2∨kind=3∨kind=4∨kind=5∨kind=6∨kind=7)with rfl | rfl | rfl | rfl | rfl | rfl | rfl
 ·unfold mayF at hw
  simp at hw;obtain⟨rfl,rfl,_,_,hf,hn⟩:=hw;obtain⟨e1,e2,e3⟩:=key 46 name.data.toList [] (by decide) hf rfl (by decide) (by decide);obtain⟨m1,m2,m3⟩:=name_parts name hn;obtain⟨e4,e5,e6⟩:=pM_of _ 46 _ _ (by decide) (by decide) (spl_name _ _ m1 m2 m3 (Or.inl rfl)) e3;refine⟨?_,hB (Or.inl (by unfold rMark;exact not_empty_of e4))⟩;show(⟨1,fn0 s,rCopy s,rTail s,0,-1⟩:Nd)=_;rw[e1,e2,show rTail s=name by unfold rTail;exact same_bytes e5]
 ·have hnn:=hN (by simp)
  unfold mayF at hw;simp at hw;obtain⟨hn,rfl,_,_,hf,_⟩:=hw;obtain rfl:=nil_bytes (s:=name) (by rw[hn];rfl);obtain⟨e1,e2,e3⟩:=key 36 (Lib.itoa n) [] (by decide) hf rfl (by decide) (by decide);obtain⟨e4,e5,e6⟩:=pM_of _ 36 _ _ (by decide) (by decide) (spl_dec n hnn.1 [] (Or.inl rfl)) e3;refine⟨?_,hB (Or.inl (by unfold rMark;exact not_empty_of e4))⟩;show(⟨2,fn0 s,rCopy s,⟨#[]⟩,rNum s,-1⟩:Nd)=_;rw[e1,e2,show rNum s=n by unfold rNum rTail;rw[rd_itoa n hnn.1 hnn.2 _ e5]]
 ·have hnn:=hN (by simp)
  unfold mayF at hw;simp at hw;obtain⟨hn,rfl,_,_,hf,_⟩:=hw;obtain rfl:=nil_bytes (s:=name) (by rw[hn];rfl);obtain⟨e1,e2,e3⟩:=key 64 (Lib.itoa n) [] (by decide) hf rfl (by decide) (by decide);obtain⟨e4,e5,e6⟩:=pM_of _ 64 _ _ (by decide) (by decide) (spl_dec n hnn.1 [] (Or.inl rfl)) e3;refine⟨?_,hB (Or.inl (by unfold rMark;exact not_empty_of e4))⟩;show(⟨3,fn0 s,rCopy s,⟨#[]⟩,rNum s,-1⟩:Nd)=_;rw[e1,e2,show rNum s=n by unfold rNum rTail;rw[rd_itoa n hnn.1 hnn.2 _ e5]]
 ·unfold mayF at hw
  simp at hw;obtain⟨hn,rfl,rfl,_,_,hf,_⟩:=hw;obtain rfl:=nil_bytes (s:=name) (by rw[hn];rfl);obtain⟨e1,e2,e3⟩:=key 40 [] [41] (by decide) hf rfl (by decide) (by decide);obtain⟨hh,hz⟩:=head_of e3;refine⟨?_,hB (Or.inl ?_)⟩
  ·show(⟨4,fn0 s,rCopy s,⟨#[]⟩,0,-1⟩:Nd)=_
   rw[e1,e2]
  ·apply not_empty_of (m:=40) (r:=[])
   unfold rMark pM;rw[if_neg (by rintro(g | g);exact hz g;rw[hh]at g;revert g;decide)];rw[list_extract,e3];rfl
 ·unfold mayF at hw
  simp at hw;obtain⟨hf,rfl,rfl,_,_,hn⟩:=hw;obtain rfl:=nil_bytes (s:=fn) (by rw[hf];rfl);have hs2:s.data.toList=name.data.toList++cellL cell:=hs;obtain⟨m1,m2,m3⟩:=name_parts name hn;obtain⟨e4,e5⟩:=fn0_app _ _ _ hs2 (spl_name _ _ m1 m2 m3 (cell_nobeh cell));refine⟨?_,hB (Or.inr rfl)⟩;show(⟨5,⟨#[]⟩,0,fn0 s,0,rCell s⟩:Nd)=_;have h126:cellL cell=[]∨(((cellL cell).headD 0).toNat:Int)≠126:=by
   unfold cellL;by_cases h:cell=-1
   ·rw[if_pos h];exact Or.inl rfl
   ·rw[if_neg h];right;rw[List.headD_cons];decide
  obtain⟨_,e6⟩:=pC_of (rest1 s) 0 (cellL cell) (by omega) (by omega) (cell_nobeh cell) h126 e5;have e7:(pM (pC (rest1 s)).2).2.2=(pC (rest1 s)).2:=by
   unfold pM;rw[if_pos];by_cases h:cell=-1
   ·left;rw[←dg.size_list,e6];unfold cellL;rw[if_pos h];rfl
   ·right;unfold headI;rw[e6];unfold cellL;rw[if_neg h];rfl
  rw[same_bytes e4,show rCell s=cell by unfold rCell;rw[e7];exact pL_of _ cell hce.1 hce.2 e6]
 ·unfold mayF at hw
  simp at hw;obtain⟨rfl,_,_,hf,hn⟩:=hw;obtain⟨e1,e2,e3⟩:=key 37 name.data.toList (cellL cell) (by decide) hf rfl (by decide) (by decide);obtain⟨m1,m2,m3⟩:=name_parts name hn;obtain⟨e4,e5,e6⟩:=pM_of _ 37 _ _ (by decide) (by decide) (spl_name _ _ m1 m2 m3 (cell_nobeh cell)) e3;refine⟨?_,hB (Or.inl (by unfold rMark;exact not_empty_of e4))⟩;show(⟨6,fn0 s,rCopy s,rTail s,0,rCell s⟩:Nd)=_;rw[e1,e2,show rTail s=name by unfold rTail;exact same_bytes e5,show rCell s=cell by unfold rCell;exact pL_of _ cell hce.1 hce.2 e6]
 ·have hnn:=hN (by simp)
  unfold mayF at hw;simp at hw;obtain⟨hn,_,_,hf,_⟩:=hw;obtain rfl:=nil_bytes (s:=name) (by rw[hn];rfl);obtain⟨e1,e2,e3⟩:=key 35 (Lib.itoa n) (cellL cell) (by decide) hf rfl (by decide) (by decide);obtain⟨e4,e5,e6⟩:=pM_of _ 35 _ _ (by decide) (by decide) (spl_dec n hnn.1 _ (cell_nobeh cell).dig) e3;refine⟨?_,hB (Or.inl (by unfold rMark;exact not_empty_of e4))⟩;show(⟨7,fn0 s,rCopy s,⟨#[]⟩,rNum s,rCell s⟩:Nd)=_;rw[e1,e2,show rNum s=n by unfold rNum rTail;rw[rd_itoa n hnn.1 hnn.2 _ e5],show rCell s=cell by unfold rCell;exact pL_of _ cell hce.1 hce.2 e6]
theorem none_of(s:ByteArray)(h:∀k,k<7→isB s (candR s k)=false):readB s=false:=by
 rcases hr:readB s with _ | _
 ·rfl
 ·exfalso
  have hm:mayB (cand s)=true:=by unfold readB at hr;rw[Bool.and_eq_true]at hr;exact hr.1
  obtain⟨_,_,h1,h7⟩:=may_bounds _ hm;obtain⟨e1,e2⟩:=is_txt _ hm;rw[txt_cand s hr]at e1 e2;have:=h ((cand s).kind.toNat-1) (by omega);rw[e1,e2]at this;cases this
end nm
open Lib(hid)
set_option maxRecDepth 100000
set_option maxHeartbeats 12000000
namespace nm
open RowKit Go.Sort
theorem rmay_any(d:Nd)(w:World)(hsn:d.name.size≤maxLen)(hsf:d.fn.size≤maxLen):Calls Tryz.prog 133 #[d.val] w (BPost (mayB d) w):=by
 rw[←right_may d];exact right_any d w hsn hsf
theorem rtext_of(x:Int)(h0:0≤x)(h1:x≤268435456):∃T:ByteArray,T.data.toList=Lib.itoa x∧T.size≤20∧∀w,Calls Tryz.prog 134 #[.int .i64 x] w fun e w'=>e=.returned (.string T)∧Below w.heap.size w w':=
 ⟨⟨(Lib.itoa x).toArray⟩,rfl,by rw[mk_size];exact itoa_len x h0 h1,fun w=>dt.rtext_any x w (by omega) (by omega)⟩
theorem may_5{fn:ByteArray}{copy:Int}{name:ByteArray}{n cell:Int}(hm:mayB ⟨5,fn,copy,name,n,cell⟩=true):fn.data.toList=[]∧copy=0:=by
 rw[mayB_eq _ (by show(1:Int)≤5;omega) (by show(5:Int)≤7;omega)]at hm;unfold mayF at hm;simp only[Bool.and_eq_true,beq_iff_eq,if_true]at hm;have h1:=hm.1;have h2:=hm.2.1;refine⟨?_,h2⟩;have hz:=empty_of fn (List.isEmpty_iff.1 h1);have:fn.data.toList.length=0:=by simpa using hz
 exact List.length_eq_zero_iff.1 this
theorem rtext_A(kind:Int)(hq:kind=1∨kind=4∨kind=6)(fn:ByteArray)(copy:Int)(name:ByteArray)(n cell:Int)(w:World)(hm:mayB ⟨kind,fn,copy,name,n,cell⟩=true)  :
 Calls Tryz.prog 108 #[Nd.val ⟨kind,fn,copy,name,n,cell⟩] w (TextPost ⟨kind,fn,copy,name,n,cell⟩ w):=by
 obtain⟨hsf,hsn⟩:=may_sizes _ hm;obtain⟨hcp,hce,_⟩:=may_bounds _ hm;have hsf1:fn.size≤16:=hsf;have hsn1:name.size≤16:=hsn;have hcp1:0≤copy∧copy≤268435456:=hcp;have hce1:-1≤cell∧cell≤268435456:=hce;clear hsf hsn hcp hce
 have Hmay:Hid (∀w,Calls Tryz.prog 133 #[.agg #[.int .i64 kind,.string fn,.int .i64 copy,.string name,.int .i64 n,.int .i64 cell]] w fun e w'=>e=.returned (.bool true)∧Below w.heap.size w w'):=hid (fun w=>by
  have:=rmay_any ⟨kind,fn,copy,name,n,cell⟩ w (by show name.size≤maxLen;unfold maxLen;omega) (by show fn.size≤maxLen;unfold maxLen;omega);rw[hm]at this
  exact this)
 have Hm:=hid hm;clear hm;obtain⟨Tc,eTc,sTc,hTc⟩:=rtext_of copy hcp1.1 hcp1.2;have eTc:=hid eTc;have hTc:=hid hTc;have Hnew:Hid (Six ⟨kind,fn,copy,name,n,cell⟩ w.heap.size (w.alloc (.cells #[.int .i64 kind,.string fn,.int .i64 copy,.string name,.int .i64 n,.int .i64 cell] 121))):=hid (Six.new ⟨kind,fn,copy,name,n,cell⟩ w _);have hb0:Below w.heap.size w (w.alloc (.cells #[.int .i64 kind,.string fn,.int .i64 copy,.string name,.int .i64 n,.int .i64 cell] 121)):=(Below.refl _ _).alloc (Nat.le_refl _) _;rcases hq with rfl | rfl | rfl
 all_goals
  unfold Nd.val Nd.cells;by_cases hl:cell=-1
  ·have hlb:decide (0≤cell)=false:=by rw[hl];rfl
   have hlc:¬0≤cell:=by omega
   have hld:decide (cell<0)=true:=by rw[hl];rfl
   have Hl:=hid hl;clear hl;by_cases hc0:0<copy
   ·have Hc0:=hid hc0
    go_enter Tryz.func108,Tryz.ntmps108;go_wp2_with fail;refine(Hmay.out _).mono ?_;rintro e w1 ⟨rfl,b1⟩;have Hs1:=hid (Hnew.out.on b1);have hb1:=below_on hb0 b1;obtain⟨k0,k1,k2,k3,k4,k5⟩:=Hs1.out;clear b1;go_wp2_with fail;refine(hTc.out _).mono ?_;rintro e w2 ⟨rfl,b2⟩;have Hs2:=hid (Hs1.out.on b2);have hb2:=below_on hb1 b2;clear k0 k1 k2 k3 k4 k5 b2;obtain⟨k0,k1,k2,k3,k4,k5⟩:=Hs2.out;go_wp2_with fail;go_ret2;refine textPost_mk Hm.out ?_ hb2;unfold textL copyL cellL;rw[if_pos Hc0.out,if_pos Hl.out];simp[markL,bodyL,eTc.out]
   ·have Hc0:=hid hc0
    go_enter Tryz.func108,Tryz.ntmps108;go_wp2_with fail;refine(Hmay.out _).mono ?_;rintro e w1 ⟨rfl,b1⟩;have Hs1:=hid (Hnew.out.on b1);have hb1:=below_on hb0 b1;obtain⟨k0,k1,k2,k3,k4,k5⟩:=Hs1.out;clear b1;go_wp2_with fail;go_ret2;refine textPost_mk Hm.out ?_ hb1;unfold textL copyL cellL;rw[if_neg (show ¬0<copy by have:=Hc0.out;omega),if_pos Hl.out];simp[markL,bodyL]
  ·have hlc:0≤cell:=by omega
   have hlb:decide (0≤cell)=true:=decide_eq_true hlc;have hld:decide (cell<0)=false:=decide_eq_false (by omega);obtain⟨Tl,eTl,sTl,hTl⟩:=rtext_of cell (by omega) hce1.2;have eTl:=hid eTl;have hTl:=hid hTl;have Hl:=hid hl;clear hl;by_cases hc0:0<copy
   ·have Hc0:=hid hc0
    go_enter Tryz.func108,Tryz.ntmps108;go_wp2_with fail;refine(Hmay.out _).mono ?_;rintro e w1 ⟨rfl,b1⟩;have Hs1:=hid (Hnew.out.on b1);have hb1:=below_on hb0 b1;obtain⟨k0,k1,k2,k3,k4,k5⟩:=Hs1.out;clear b1;go_wp2_with fail;refine(hTc.out _).mono ?_;rintro e w2 ⟨rfl,b2⟩;have Hs2:=hid (Hs1.out.on b2);have hb2:=below_on hb1 b2;clear k0 k1 k2 k3 k4 k5 b2;obtain⟨k0,k1,k2,k3,k4,k5⟩:=Hs2.out;go_wp2_with fail;refine(hTl.out _).mono ?_;rintro e w3 ⟨rfl,b3⟩;have Hs3:=hid (Hs2.out.on b3);have hb3:=below_on hb2 b3;clear k0 k1 k2 k3 k4 k5 b3;obtain⟨k0,k1,k2,k3,k4,k5⟩:=Hs3.out;go_wp2_with fail;go_ret2;refine textPost_mk Hm.out ?_ hb3;unfold textL copyL cellL;rw[if_pos Hc0.out,if_neg Hl.out];simp[markL,bodyL,eTc.out,eTl.out]
   ·have Hc0:=hid hc0
    go_enter Tryz.func108,Tryz.ntmps108;go_wp2_with fail;refine(Hmay.out _).mono ?_;rintro e w1 ⟨rfl,b1⟩;have Hs1:=hid (Hnew.out.on b1);have hb1:=below_on hb0 b1;obtain⟨k0,k1,k2,k3,k4,k5⟩:=Hs1.out;clear b1;go_wp2_with fail;refine(hTl.out _).mono ?_;rintro e w2 ⟨rfl,b2⟩;have Hs2:=hid (Hs1.out.on b2);have hb2:=below_on hb1 b2;clear k0 k1 k2 k3 k4 k5 b2;obtain⟨k0,k1,k2,k3,k4,k5⟩:=Hs2.out;go_wp2_with fail;go_ret2;refine textPost_mk Hm.out ?_ hb2;unfold textL copyL cellL;rw[if_neg (show ¬0<copy by have:=Hc0.out;omega),if_neg Hl.out];simp[markL,bodyL,eTl.out]
theorem rtext_1(fn:ByteArray)(copy:Int)(name:ByteArray)(n cell:Int)(w:World)(hm:mayB ⟨1,fn,copy,name,n,cell⟩=true)  :
 Calls Tryz.prog 108 #[Nd.val ⟨1,fn,copy,name,n,cell⟩] w (TextPost ⟨1,fn,copy,name,n,cell⟩ w):=
 rtext_A 1 (by simp) fn copy name n cell w hm
theorem rtext_4(fn:ByteArray)(copy:Int)(name:ByteArray)(n cell:Int)(w:World)(hm:mayB ⟨4,fn,copy,name,n,cell⟩=true)  :
 Calls Tryz.prog 108 #[Nd.val ⟨4,fn,copy,name,n,cell⟩] w (TextPost ⟨4,fn,copy,name,n,cell⟩ w):=
 rtext_A 4 (by simp) fn copy name n cell w hm
theorem rtext_6(fn:ByteArray)(copy:Int)(name:ByteArray)(n cell:Int)(w:World)(hm:mayB ⟨6,fn,copy,name,n,cell⟩=true)  :
 Calls Tryz.prog 108 #[Nd.val ⟨6,fn,copy,name,n,cell⟩] w (TextPost ⟨6,fn,copy,name,n,cell⟩ w):=
 rtext_A 6 (by simp) fn copy name n cell w hm
theorem rtext_B(kind:Int)(hq:kind=2∨kind=3∨kind=7)(fn:ByteArray)(copy:Int)(name:ByteArray)(n cell:Int)(w:World)(hm:mayB ⟨kind,fn,copy,name,n,cell⟩=true)  :
 Calls Tryz.prog 108 #[Nd.val ⟨kind,fn,copy,name,n,cell⟩] w (TextPost ⟨kind,fn,copy,name,n,cell⟩ w):=by
 obtain⟨hsf,hsn⟩:=may_sizes _ hm;obtain⟨hcp,hce,_⟩:=may_bounds _ hm;have hn1:0≤n∧n≤268435456:=may_n _ hm hq;have hsf1:fn.size≤16:=hsf;have hsn1:name.size≤16:=hsn;have hcp1:0≤copy∧copy≤268435456:=hcp;have hce1:-1≤cell∧cell≤268435456:=hce;clear hsf hsn hcp hce
 have Hmay:Hid (∀w,Calls Tryz.prog 133 #[.agg #[.int .i64 kind,.string fn,.int .i64 copy,.string name,.int .i64 n,.int .i64 cell]] w fun e w'=>e=.returned (.bool true)∧Below w.heap.size w w'):=hid (fun w=>by
  have:=rmay_any ⟨kind,fn,copy,name,n,cell⟩ w (by show name.size≤maxLen;unfold maxLen;omega) (by show fn.size≤maxLen;unfold maxLen;omega);rw[hm]at this
  exact this)
 have Hm:=hid hm;clear hm;obtain⟨Tc,eTc,sTc,hTc⟩:=rtext_of copy hcp1.1 hcp1.2;have eTc:=hid eTc;have hTc:=hid hTc;obtain⟨Tn,eTn,sTn,hTn⟩:=rtext_of n hn1.1 hn1.2;have eTn:=hid eTn;have hTn:=hid hTn;have Hnew:Hid (Six ⟨kind,fn,copy,name,n,cell⟩ w.heap.size (w.alloc (.cells #[.int .i64 kind,.string fn,.int .i64 copy,.string name,.int .i64 n,.int .i64 cell] 121))):=hid (Six.new ⟨kind,fn,copy,name,n,cell⟩ w _);have hb0:Below w.heap.size w (w.alloc (.cells #[.int .i64 kind,.string fn,.int .i64 copy,.string name,.int .i64 n,.int .i64 cell] 121)):=(Below.refl _ _).alloc (Nat.le_refl _) _;rcases hq with rfl | rfl | rfl
 all_goals
  unfold Nd.val Nd.cells;by_cases hl:cell=-1
  ·have hlb:decide (0≤cell)=false:=by rw[hl];rfl
   have hlc:¬0≤cell:=by omega
   have hld:decide (cell<0)=true:=by rw[hl];rfl
   have Hl:=hid hl;clear hl;by_cases hc0:0<copy
   ·have Hc0:=hid hc0
    go_enter Tryz.func108,Tryz.ntmps108;go_wp2_with fail;refine(Hmay.out _).mono ?_;rintro e w1 ⟨rfl,b1⟩;have Hs1:=hid (Hnew.out.on b1);have hb1:=below_on hb0 b1;obtain⟨k0,k1,k2,k3,k4,k5⟩:=Hs1.out;clear b1;go_wp2_with fail;refine(hTc.out _).mono ?_;rintro e w2 ⟨rfl,b2⟩;have Hs2:=hid (Hs1.out.on b2);have hb2:=below_on hb1 b2;clear k0 k1 k2 k3 k4 k5 b2;obtain⟨k0,k1,k2,k3,k4,k5⟩:=Hs2.out;go_wp2_with fail;refine(hTn.out _).mono ?_;rintro e w3 ⟨rfl,b3⟩;have Hs3:=hid (Hs2.out.on b3);have hb3:=below_on hb2 b3;clear k0 k1 k2 k3 k4 k5 b3;obtain⟨k0,k1,k2,k3,k4,k5⟩:=Hs3.out;go_wp2_with fail;go_ret2;refine textPost_mk Hm.out ?_ hb3;unfold textL copyL cellL;rw[if_pos Hc0.out,if_pos Hl.out];simp[markL,bodyL,eTc.out,eTn.out]
   ·have Hc0:=hid hc0
    go_enter Tryz.func108,Tryz.ntmps108;go_wp2_with fail;refine(Hmay.out _).mono ?_;rintro e w1 ⟨rfl,b1⟩;have Hs1:=hid (Hnew.out.on b1);have hb1:=below_on hb0 b1;obtain⟨k0,k1,k2,k3,k4,k5⟩:=Hs1.out;clear b1;go_wp2_with fail;refine(hTn.out _).mono ?_;rintro e w2 ⟨rfl,b2⟩;have Hs2:=hid (Hs1.out.on b2);have hb2:=below_on hb1 b2;clear k0 k1 k2 k3 k4 k5 b2;obtain⟨k0,k1,k2,k3,k4,k5⟩:=Hs2.out;go_wp2_with fail;go_ret2;refine textPost_mk Hm.out ?_ hb2;unfold textL copyL cellL;rw[if_neg (show ¬0<copy by have:=Hc0.out;omega),if_pos Hl.out];simp[markL,bodyL,eTn.out]
  ·have hlc:0≤cell:=by omega
   have hlb:decide (0≤cell)=true:=decide_eq_true hlc;have hld:decide (cell<0)=false:=decide_eq_false (by omega);obtain⟨Tl,eTl,sTl,hTl⟩:=rtext_of cell (by omega) hce1.2;have eTl:=hid eTl;have hTl:=hid hTl;have Hl:=hid hl;clear hl;by_cases hc0:0<copy
   ·have Hc0:=hid hc0
    go_enter Tryz.func108,Tryz.ntmps108;go_wp2_with fail;refine(Hmay.out _).mono ?_;rintro e w1 ⟨rfl,b1⟩;have Hs1:=hid (Hnew.out.on b1);have hb1:=below_on hb0 b1;obtain⟨k0,k1,k2,k3,k4,k5⟩:=Hs1.out;clear b1;go_wp2_with fail;refine(hTc.out _).mono ?_;rintro e w2 ⟨rfl,b2⟩;have Hs2:=hid (Hs1.out.on b2);have hb2:=below_on hb1 b2;clear k0 k1 k2 k3 k4 k5 b2;obtain⟨k0,k1,k2,k3,k4,k5⟩:=Hs2.out;go_wp2_with fail;refine(hTn.out _).mono ?_;rintro e w3 ⟨rfl,b3⟩;have Hs3:=hid (Hs2.out.on b3);have hb3:=below_on hb2 b3;clear k0 k1 k2 k3 k4 k5 b3;obtain⟨k0,k1,k2,k3,k4,k5⟩:=Hs3.out;go_wp2_with fail;refine(hTl.out _).mono ?_;rintro e w4 ⟨rfl,b4⟩;have Hs4:=hid (Hs3.out.on b4);have hb4:=below_on hb3 b4;clear k0 k1 k2 k3 k4 k5 b4;obtain⟨k0,k1,k2,k3,k4,k5⟩:=Hs4.out;go_wp2_with fail;go_ret2;refine textPost_mk Hm.out ?_ hb4;unfold textL copyL cellL;rw[if_pos Hc0.out,if_neg Hl.out];simp[markL,bodyL,eTc.out,eTn.out,eTl.out]
   ·have Hc0:=hid hc0
    go_enter Tryz.func108,Tryz.ntmps108;go_wp2_with fail;refine(Hmay.out _).mono ?_;rintro e w1 ⟨rfl,b1⟩;have Hs1:=hid (Hnew.out.on b1);have hb1:=below_on hb0 b1;obtain⟨k0,k1,k2,k3,k4,k5⟩:=Hs1.out;clear b1;go_wp2_with fail;refine(hTn.out _).mono ?_;rintro e w2 ⟨rfl,b2⟩;have Hs2:=hid (Hs1.out.on b2);have hb2:=below_on hb1 b2;clear k0 k1 k2 k3 k4 k5 b2;obtain⟨k0,k1,k2,k3,k4,k5⟩:=Hs2.out;go_wp2_with fail;refine(hTl.out _).mono ?_;rintro e w3 ⟨rfl,b3⟩;have Hs3:=hid (Hs2.out.on b3);have hb3:=below_on hb2 b3;clear k0 k1 k2 k3 k4 k5 b3;obtain⟨k0,k1,k2,k3,k4,k5⟩:=Hs3.out;go_wp2_with fail;go_ret2;refine textPost_mk Hm.out ?_ hb3;unfold textL copyL cellL;rw[if_neg (show ¬0<copy by have:=Hc0.out;omega),if_neg Hl.out];simp[markL,bodyL,eTn.out,eTl.out]
theorem rtext_2(fn:ByteArray)(copy:Int)(name:ByteArray)(n cell:Int)(w:World)(hm:mayB ⟨2,fn,copy,name,n,cell⟩=true)  :
 Calls Tryz.prog 108 #[Nd.val ⟨2,fn,copy,name,n,cell⟩] w (TextPost ⟨2,fn,copy,name,n,cell⟩ w):=
 rtext_B 2 (by simp) fn copy name n cell w hm
theorem rtext_3(fn:ByteArray)(copy:Int)(name:ByteArray)(n cell:Int)(w:World)(hm:mayB ⟨3,fn,copy,name,n,cell⟩=true)  :
 Calls Tryz.prog 108 #[Nd.val ⟨3,fn,copy,name,n,cell⟩] w (TextPost ⟨3,fn,copy,name,n,cell⟩ w):=
 rtext_B 3 (by simp) fn copy name n cell w hm
theorem rtext_7(fn:ByteArray)(copy:Int)(name:ByteArray)(n cell:Int)(w:World)(hm:mayB ⟨7,fn,copy,name,n,cell⟩=true)  :
 Calls Tryz.prog 108 #[Nd.val ⟨7,fn,copy,name,n,cell⟩] w (TextPost ⟨7,fn,copy,name,n,cell⟩ w):=
 rtext_B 7 (by simp) fn copy name n cell w hm
theorem rtext_5(fn:ByteArray)(copy:Int)(name:ByteArray)(n cell:Int)(w:World)(hm:mayB ⟨5,fn,copy,name,n,cell⟩=true)  :
 Calls Tryz.prog 108 #[Nd.val ⟨5,fn,copy,name,n,cell⟩] w (TextPost ⟨5,fn,copy,name,n,cell⟩ w):=by
 obtain⟨hsf,hsn⟩:=may_sizes _ hm;obtain⟨hcp,hce,_⟩:=may_bounds _ hm;have hsf1:fn.size≤16:=hsf;have hsn1:name.size≤16:=hsn;have hcp1:0≤copy∧copy≤268435456:=hcp;have hce1:-1≤cell∧cell≤268435456:=hce;clear hsf hsn hcp hce
 have Hmay:Hid (∀w,Calls Tryz.prog 133 #[.agg #[.int .i64 5,.string fn,.int .i64 copy,.string name,.int .i64 n,.int .i64 cell]] w fun e w'=>e=.returned (.bool true)∧Below w.heap.size w w'):=hid (fun w=>by
  have:=rmay_any ⟨5,fn,copy,name,n,cell⟩ w (by show name.size≤maxLen;unfold maxLen;omega) (by show fn.size≤maxLen;unfold maxLen;omega);rw[hm]at this
  exact this)
 obtain⟨hfe,hce5⟩:=may_5 hm;have Hcz:=hid hce5;have Hfe:=hid hfe;clear hfe hce5;have Hm:=hid hm;clear hm;obtain⟨Tc,eTc,sTc,hTc⟩:=rtext_of copy hcp1.1 hcp1.2;have eTc:=hid eTc;have hTc:=hid hTc;have Hnew:Hid (Six ⟨5,fn,copy,name,n,cell⟩ w.heap.size (w.alloc (.cells #[.int .i64 5,.string fn,.int .i64 copy,.string name,.int .i64 n,.int .i64 cell] 121))):=hid (Six.new ⟨5,fn,copy,name,n,cell⟩ w _);have hb0:Below w.heap.size w (w.alloc (.cells #[.int .i64 5,.string fn,.int .i64 copy,.string name,.int .i64 n,.int .i64 cell] 121)):=(Below.refl _ _).alloc (Nat.le_refl _) _;unfold Nd.val Nd.cells;by_cases hl:cell=-1
 ·have hlb:decide (0≤cell)=false:=by rw[hl];rfl
  have hlc:¬0≤cell:=by omega
  have hld:decide (cell<0)=true:=by rw[hl];rfl
  have Hl:=hid hl;clear hl;by_cases hc0:0<copy
  ·have Hc0:=hid hc0
   exact absurd Hc0.out (by have:=Hcz.out;omega)
  ·have Hc0:=hid hc0
   go_enter Tryz.func108,Tryz.ntmps108;go_wp2_with fail;refine(Hmay.out _).mono ?_;rintro e w1 ⟨rfl,b1⟩;have Hs1:=hid (Hnew.out.on b1);have hb1:=below_on hb0 b1;obtain⟨k0,k1,k2,k3,k4,k5⟩:=Hs1.out;clear b1;go_wp2_with fail;go_ret2;refine textPost_mk Hm.out ?_ hb1;unfold textL copyL cellL;rw[if_neg (show ¬0<copy by have:=Hc0.out;omega),if_pos Hl.out];simp[markL,bodyL,Hfe.out]
 ·have hlc:0≤cell:=by omega
  have hlb:decide (0≤cell)=true:=decide_eq_true hlc;have hld:decide (cell<0)=false:=decide_eq_false (by omega);obtain⟨Tl,eTl,sTl,hTl⟩:=rtext_of cell (by omega) hce1.2;have eTl:=hid eTl;have hTl:=hid hTl;have Hl:=hid hl;clear hl;by_cases hc0:0<copy
  ·have Hc0:=hid hc0
   exact absurd Hc0.out (by have:=Hcz.out;omega)
  ·have Hc0:=hid hc0
   go_enter Tryz.func108,Tryz.ntmps108;go_wp2_with fail;refine(Hmay.out _).mono ?_;rintro e w1 ⟨rfl,b1⟩;have Hs1:=hid (Hnew.out.on b1);have hb1:=below_on hb0 b1;obtain⟨k0,k1,k2,k3,k4,k5⟩:=Hs1.out;clear b1;go_wp2_with fail;refine(hTl.out _).mono ?_;rintro e w2 ⟨rfl,b2⟩;have Hs2:=hid (Hs1.out.on b2);have hb2:=below_on hb1 b2;clear k0 k1 k2 k3 k4 k5 b2;obtain⟨k0,k1,k2,k3,k4,k5⟩:=Hs2.out;go_wp2_with fail;go_ret2;refine textPost_mk Hm.out ?_ hb2;unfold textL copyL cellL;rw[if_neg (show ¬0<copy by have:=Hc0.out;omega),if_neg Hl.out];simp[markL,bodyL,Hfe.out,eTl.out]
theorem rtext_no(d:Nd)(w:World)(hm:mayB d=false)(hsn:d.name.size≤maxLen)(hsf:d.fn.size≤maxLen) :
 Calls Tryz.prog 108 #[d.val] w (TextPost d w):=by
 have H:=hid (fun w=>rmay_any d w hsn hsf);rw[hm]at H;unfold BPost at H;have Hp:Hid (∀w',Below w.heap.size w w'→TextPost d w (.returned (.tuple #[.string ⟨#[]⟩,.int .i64 11])) w'):=hid fun w' hb=>⟨by unfold txt terr;rw[hm];rfl,hb⟩
 obtain⟨kind,fn,copy,name,n,cell⟩:=d;unfold Nd.val Nd.cells at H ⊢;clear hm hsn hsf;go_enter Tryz.func108,Tryz.ntmps108;go_wp2_with fail;refine(H.out _).mono ?_;rintro e w1 ⟨rfl,b1⟩;go_wp2_with fail;go_ret2;exact Hp.out _ (below_on ((Below.refl _ _).alloc (Nat.le_refl _) _) b1)
theorem rtext_any(d:Nd)(w:World)(hsn:d.name.size≤maxLen)(hsf:d.fn.size≤maxLen) :
 Calls Tryz.prog 108 #[d.val] w (TextPost d w):=by
 rcases hm:mayB d with _ | _
 ·exact rtext_no d w hm hsn hsf
 ·obtain⟨_,_,h1,h7⟩:=may_bounds d hm
  obtain⟨kind,fn,copy,name,n,cell⟩:=d;have h1':1≤kind:=h1;have h7':kind≤7:=h7;rcases(by omega:kind=1∨kind=2∨kind=3∨kind=4∨kind=5∨kind=6∨kind=7)with rfl | rfl | rfl | rfl | rfl | rfl | rfl
  ·exact rtext_1 _ _ _ _ _ w hm
  ·exact rtext_2 _ _ _ _ _ w hm
  ·exact rtext_3 _ _ _ _ _ w hm
  ·exact rtext_4 _ _ _ _ _ w hm
  ·exact rtext_5 _ _ _ _ _ w hm
  ·exact rtext_6 _ _ _ _ _ w hm
  ·exact rtext_7 _ _ _ _ _ w hm
end nm
end Go.Proofs.YtlkboeajkgbnaaaGreatDoor
