import Derived.Test.YtdmmkjijgoiecaaGreatDoorY14
import Derived.Test.YtdmmkjijgoiecaaGreatDoorY32
set_option linter.all false
set_option maxHeartbeats 4000000
namespace Go.Proofs.YtdmmkjijgoiecaaGreatDoor
open Lib(hid)
set_option maxRecDepth 100000
namespace po
open RowKit Go.Sort mem vr
structure zV(w wr:World)(f:Nat)(B0:Option Addr)(B:Option Addr)(c:Nat)(S:List UInt8):Prop where
 wa:WA wr f B c (S,0)
 fr:Fr (f :: blk B0) w wr
 own:∀g∈blk B,g∈blk B0∨w.heap.size≤g
theorem zV.start{w:World}{f:Nat}{B:Option Addr}{c:Nat}{S:List UInt8}(h:WA w f B c (S,0)):zV w w f B B c S:=⟨h,Fr.refl _ _,fun g J=>Or.inl J⟩
theorem zV.bel{w wr Y:World}{f:Nat}{J B:Option Addr}{c:Nat}{S:List UInt8}(h:zV w wr f J B c S)(hb:Below wr.heap.size wr Y):zV w Y f J B c S:=
 ⟨h.wa.kept (Fr.of_below hb []) (by simp) (by simp),h.fr.trans (Fr.of_below hb []) (fun g hg=>Or.inl hg) (by simp),h.own⟩
theorem zV.step{w wr Y:World}{f:Nat}{B0 B B2:Option Addr}{c c2:Nat}{S S2:List UInt8}(h:zV w wr f B0 B c S)(h2:WA Y f B2 c2 (S2,0))(hf:Fr (f :: blk B) wr Y)(ho:∀g∈blk B2,g∈blk B∨wr.heap.size≤g):zV w Y f B0 B2 c2 S2:=by
 have hs:=h.fr.size;refine⟨h2,h.fr.trans hf (fun g J=>Or.inl J) (fun g J=>?_),fun g J=>?_⟩
 ·rcases aM.1 J with rfl | J
  ·exact Or.inl (by simp)
  ·exact(h.own g J).imp (fun h=>bG _ h) id
 ·rcases ho g J with h1 | h1
  ·exact h.own g h1
  ·exact Or.inr (by omega)
theorem aCf{w0 w:World}{f:Nat}{B0 B:Option Addr}{c:Nat}{S:List UInt8}(k:Nat)(h:zV w0 w f B0 B c S)(hk:k≤268435456)(hl:S.length≤100000000) :
 Calls Tryz.prog 32 #[.pointer (some ⟨f,0,none⟩),.int .i64 k] w fun e w'=>e=.returned (.tuple #[])∧∃J Y,zV w0 w' f B0 J Y (S++nb k):=by
 refine(aBS w f B c (S,0) k h.wa hl).mono ?_;rw[aEI S k hk];rintro e w' ⟨rfl,J,Y,h2,hf,ho⟩;exact⟨rfl,J,Y,h.step h2 hf ho⟩
theorem aHC{w0 w:World}{f:Nat}{B0 B:Option Addr}{c:Nat}{S:List UInt8}(x:List UInt8)(h:zV w0 w f B0 B c S)(hk:x.length≤200000)(hl:S.length≤100000000) :
 Calls Tryz.prog 34 #[.pointer (some ⟨f,0,none⟩),.string (bs x)] w fun e w'=>e=.returned (.tuple #[])∧∃J Y,zV w0 w' f B0 J Y (S++(nb x.length++x)):=by
 refine(aHZ w f B c (S,0) (bs x) h.wa hl).mono ?_;rw[aHw S x hk];rintro e w' ⟨rfl,J,Y,h2,hf,ho⟩;exact⟨rfl,J,Y,h.step h2 hf ho⟩
theorem aHF{w:World}{f:Nat}{B:Option Addr}{c:Nat}{S:List UInt8}(h:WA w f B c (S,0)) :
 Calls Tryz.prog 35 #[.pointer (some ⟨f,0,none⟩)] w fun e w'=>e=.returned (.tuple #[encStr S,.int .i64 0])∧Below w.heap.size w w':=by
 refine(aBM w f B c (S,0) h).mono ?_;rintro e w' ⟨rfl,J⟩;exact⟨rfl,J⟩
theorem Pl.kept{F:List Nat}{w w':World}{b:Nat}{A:Option Addr}{cap:Nat}{m:List (List UInt8)}(h:Pl w b A cap m)(hf:Fr F w w')(h1:b∉F)(Y:0<m.length→∀g∈blk A,g∉F):Pl w' b A cap m:=
 ⟨h.box.kept hf h1,fun J=>h.rd.kept hf (Y (by simpa using J)) J⟩
theorem aJZ(w:World)(b:Nat)(A:Option Addr)(cap:Nat)(m:List (List UInt8))(f:Nat)(B:Option Addr)(c:Nat)(S:List UInt8)(hp:Pl w b A cap m)(ho:WA w f B c (S,0))(a5:b∉f :: blk B)(a3:0<m.length→∀g∈blk A,g∉f :: blk B)(hm:m.length≤100000)(hx:∀x∈m,x.length≤20000)(hlen:∀k,k≤m.length→(pP m k).length≤40000000)(hS:S.length≤10000000) :
 Calls Tryz.prog 33 #[.pointer (some ⟨b,0,none⟩),.pointer (some ⟨f,0,none⟩)] w fun e w'=>e=.returned (.tuple #[])∧∃J c',zV w w' f B J c' (S++pP m m.length):=by
 have KL:=hid (fun w' J c' S' (h:zV w w' f B J c' S')=>uQ w' b A cap m (hp.kept h.fr a5 a3));have HP:=hid (fun w' J c' S' (h:zV w w' f B J c' S')=>hp.kept h.fr a5 a3);have H0:=hid (zV.start ho);have K0:=hid (aCf m.length (zV.start ho) (by omega) (by omega));have e0:S++nb m.length=S++pP m 0:=rfl;rw[e0]at K0;clear hp e0 a5 a3;go_enter Tryz.func33,Tryz.ntmps33
 go_wp2_with (first
  | (go_at_call 45;refine(KL.out _ _ _ _ H0.out).mono ?_;rintro e w1 ⟨rfl,rfl⟩)
  | (go_at_call 32;refine K0.out.mono ?_;rintro e w1 ⟨rfl,B1,c1,o1⟩;have O1:=hid o1;clear o1 K0 H0 ho))
 refine(KL.out _ _ _ _ O1.out).mono ?_;rintro e w1 ⟨rfl,rfl⟩;go_wp2_with fail;go_loopw [4,14] (fun a i wr=>∃(k:Nat) (J:Option Addr) (c:Nat),k≤m.length∧a=encStr (pv m k)∧i=.int .i64 k∧Hid (zV w wr f B J c (S++pP m k))) (fun _ i _=>m.length-(intOf i).toNat)
 case atStart=>exact⟨0,B1,c1,by omega,rfl,rfl,O1⟩
 case round=>
  obtain⟨k,Bk,ck,hk,rfl,rfl,a2⟩:=hrel;rename_i wr;by_cases Y:k<m.length
  ·have d1:decide ((k:Int)<(m.length:Int))=true:=aC (by omega)
   have a1:=HP.out _ _ _ _ a2.out;have c0:wr.cell? ⟨b,0,none⟩=some (.slice A m.length cap):=a1.box.cell 0;obtain⟨g,off,rfl,hl,hc⟩:=kJ a1.rd (by omega);have c2:=hc k Y;have a6:Hid (pP m (k+1)=pP m k++one (pv m k) m[k]):=hid (by rw[←wP m k Y];rfl);have a8:Hid (pv m (k+1)=m[k]):=hid (by rw[aFq,wP m k Y]);have ad:=hx m[k] (aR Y);have aa:(pv m k).length≤20000:=by
    unfold pv;split
    ·simp
    ·exact aIN m _ _ hx
   have a9:=hlen k hk;clear hc a1;generalize m[k] = x at *;generalize pv m k=a at *;have af:=vJ a x;have KS:=hid (aAK wr a x (by unfold maxLen;omega) (by unfold maxLen;omega));have KN:Hid (∀(w':World) J c,zV w w' f B J c (S++pP m k)→_):=hid (fun w' J c (h:zV w w' f B J c (S++pP m k))=>aCf (shr a x) h (by omega) (by rw[aF];omega));have a7:=lI (shr a x) (by omega);have KT:Hid (∀(w':World) J c,zV w w' f B J c (S++pP m k++nb (shr a x))→_):=hid (fun w' J c (h:zV w w' f B J c (S++pP m k++nb (shr a x)))=>aHC (x.drop (shr a x)) h (by rw[List.length_drop];omega) (by rw[aF,aF];omega));have hex:=aEn x (shr a x);have a4:(ByteArray.mk x.toArray).size=x.length:=by simp[ByteArray.size]
   have a0:Hid (S++pP m k++nb (shr a x)++(nb (x.drop (shr a x)).length++x.drop (shr a x))=S++pP m (k+1)):=hid (by rw[a6.out,one,List.length_drop];simp only[aS]);unfold bs at hex;rw[a4]at hex;rw[a0.out]at KT;unfold bs at KT;clear a0 a6 a9 a7 ad aa;have HX:=hid hex;clear hex;generalize shr a x=n at *;generalize x.drop n=y at *;have ae:∀W,(Instr.slice 9 (.string ⟨x.toArray⟩) (some (.int .i64 (n:Int))) none none).run Tryz.prog W=.ok (.string ⟨y.toArray⟩) W:=by
    intro W;rw[run_slice_string_l (P:=Tryz.prog) W 9 ⟨x.toArray⟩ Tryz.underlying9 .i64 n (by omega) (by rw[a4];omega)];rw[a4];exact congrArg (fun z=>Result.ok (Value.string z) W) HX.out
   go_wp2_with (first
    | (go_at_call 86;refine KS.out.mono ?_;rintro e w2 ⟨rfl,b2⟩;have O2:=hid (zV.bel a2.out b2);clear b2 KS)
    | (go_at_call 32;refine(KN.out _ _ _ O2.out).mono ?_;rintro e w3 ⟨rfl,B3,c3,o3⟩;have O3:=hid o3;clear o3 KN)
    | (go_at_call 34;refine(KT.out _ _ _ O3.out).mono ?_;rintro e w4 ⟨rfl,B4,c4,o4⟩;have O4:=hid o4;clear o4 KT))
   go_roundw
   case rel=>exact⟨k+1,B4,c4,by omega,by rw[a8.out],by go_num,O4⟩
   case measure=>simp[intOf];omega
  ·obtain rfl:k=m.length:=by omega
   have d1:decide ((m.length:Int)<(m.length:Int))=false:=aB (by omega);go_wp2_with fail;go_end0;exact⟨rfl,Bk,ck,a2.out⟩
theorem aCQ{S:ByteArray}{p:Nat}(J:p≤S.size)(h:nE S p 0=0):p<nP S p 0∧nP S p 0≤S.size:=by
 have c0:(ct S p).2.2=0:=by unfold nE at h;simpa using h
 obtain⟨d1,d2,d3⟩:=vM J c0;have:=aCd (ct S p).1;unfold nP;simp only[ne_eq,not_true_eq_false,if_false];omega
theorem aBp{S:ByteArray}{p:Nat}(h:nE S p 0≠0):nP S p 0=p∧nV S p 0=0:=by
 have c0:(ct S p).2.2≠0:=by
  intro J
  apply h
  unfold nE;simp[J]
 have:=yG S p c0;unfold nP nV;simp[this.1,this.2]
theorem aM0{S:ByteArray}{p:Nat}(hp:p≤S.size)(h:(tx S p 0).2.2=0):p<(tx S p 0).2.1∧(tx S p 0).2.1≤S.size:=by
 unfold tx at h ⊢;rw[if_neg (by simp)]at h ⊢;split at h
 ·rename_i J
  exact absurd (by simpa using h) J
 ·rename_i J
  rw[if_neg J];split at h
  ·simp at h
  ·rename_i Y
   rw[if_neg Y];obtain⟨d1,d2,d3⟩:=vM hp (by simpa using J);have:=aCd (ct S p).1;show p<p+(ct S p).2.1+(ct S p).1∧p+(ct S p).2.1+(ct S p).1≤S.size;omega
theorem aML{S:ByteArray}{p:Nat}(h:(tx S p 0).2.2≠0):(tx S p 0).2.1=p∧(tx S p 0).1=⟨#[]⟩:=by
 unfold tx at h ⊢;rw[if_neg (by simp)]at h ⊢;split
 ·exact⟨rfl,rfl⟩
 ·rename_i Y
  rw[if_neg Y]at h;split
  ·exact⟨rfl,rfl⟩
  ·rename_i J
   rw[if_neg J]at h;simp at h
theorem fr1{r:Nat}{a b c:World}(h:Fr [r] a b)(k:Fr [r] b c):Fr [r] a c:=h.trans k (fun g J=>Or.inl J) (fun g J=>Or.inl J)
def aDk(w:World)(r:Nat)(S:ByteArray)(v:Value)(p:Nat)(er:Int)(e:Ending)(w':World):Prop:=e=.returned (.tuple #[v,.int .i64 er])∧RD w' r S p er∧Fr [r] w w'
theorem aBy(w:World)(r:Nat)(S:ByteArray)(p:Nat)(h:RD w r S p 0)(hs:S.size≤maxLen)(hp:p≤S.size) :
 Calls Tryz.prog 152 #[.pointer (some ⟨r,0,none⟩),.func (.func 109) #[.pointer (some ⟨r,0,none⟩)] #[]] w (aDk w r S (.int .i64 (nV S p 0)) (nP S p 0) (nE S p 0)):=by
 have K1:=hid (oV w r S p 0 h);have K2:=hid (fun w' (h:RD w' r S p 0)=>gM w' r S p 0 h hs hp);have K3:=hid (fun w' (h:RD w' r S (nP S p 0) (nE S p 0))=>oV w' r S (nP S p 0) (nE S p 0) h);by_cases hE:nE S p 0=0
 ·obtain⟨a0,_⟩:=aCQ hp hE
  rw[hE]at K2 K3 ⊢;clear h hE;generalize nP S p 0=p1 at *;generalize nV S p 0=v at *;have d1:decide ((p:Int)<(p1:Int))=true:=aC (by omega);go_enter Tryz.func152,Tryz.ntmps152;go_wp2_with fail;refine K1.out.mono ?_;rintro e w1 ⟨rfl,J,f1⟩;have H1:=hid J;have F1:=hid f1;clear J f1 K1;go_wp2_with fail;refine(K2.out _ H1.out).mono ?_;rintro e w2 ⟨rfl,Y,f2⟩;have H2:=hid Y;have F2:=hid (fr1 F1.out f2);clear Y f2 K2 H1 F1;go_wp2_with fail;refine(K3.out _ H2.out).mono ?_;rintro e w3 ⟨rfl,h3,f3⟩;have H3:=hid h3;have F3:=hid (fr1 F2.out f3);clear h3 f3 K3 H2 F2;go_wp2_with fail;go_ret2;exact⟨rfl,H3.out,F3.out⟩
 ·obtain⟨J,Y⟩:=aBp hE
  rw[J,Y]at K2 ⊢;rw[J]at K3;have e3:dE S p (nE S p 0)=nE S p 0:=if_neg (fun h=>hE h.1);rw[e3]at K3;clear h J Y e3 hE;generalize nE S p 0=er at *;have d1:decide ((p:Int)<(p:Int))=false:=aB (by omega);go_enter Tryz.func152,Tryz.ntmps152;go_wp2_with fail;refine K1.out.mono ?_;rintro e w1 ⟨rfl,J,f1⟩;have H1:=hid J;have F1:=hid f1;clear J f1 K1;go_wp2_with fail;refine(K2.out _ H1.out).mono ?_;rintro e w2 ⟨rfl,Y,f2⟩;have H2:=hid Y;have F2:=hid (fr1 F1.out f2);clear Y f2 K2 H1 F1;go_wp2_with fail;refine(K3.out _ H2.out).mono ?_;rintro e w3 ⟨rfl,h3,f3⟩;have H3:=hid h3;have F3:=hid (fr1 F2.out f3);clear h3 f3 K3 H2 F2;go_wp2_with fail;go_ret2;exact⟨rfl,H3.out,F3.out⟩
theorem aFN(w:World)(r:Nat)(S:ByteArray)(p:Nat)(h:RD w r S p 0)(hs:S.size≤maxLen)(hp:p≤S.size) :
 Calls Tryz.prog 192 #[.pointer (some ⟨r,0,none⟩),.func (.func 92) #[.pointer (some ⟨r,0,none⟩)] #[]] w (aDk w r S (.string (tx S p 0).1) (tx S p 0).2.1 (tx S p 0).2.2):=by
 have K1:=hid (oV w r S p 0 h);have K2:=hid (fun w' (h:RD w' r S p 0)=>aFh w' r S p 0 h hs hp);have K3:=hid (fun w' (h:RD w' r S (tx S p 0).2.1 (tx S p 0).2.2)=>oV w' r S (tx S p 0).2.1 (tx S p 0).2.2 h);by_cases hE:(tx S p 0).2.2=0
 ·obtain⟨a0,_⟩:=aM0 hp hE
  rw[hE]at K2 K3 ⊢;clear h hE;generalize (tx S p 0).2.1=p1 at *;generalize (tx S p 0).1=v at *;have d1:decide ((p:Int)<(p1:Int))=true:=aC (by omega);go_enter Tryz.func192,Tryz.ntmps192;go_wp2_with fail;refine K1.out.mono ?_;rintro e w1 ⟨rfl,J,f1⟩;have H1:=hid J;have F1:=hid f1;clear J f1 K1;go_wp2_with fail;refine(K2.out _ H1.out).mono ?_;rintro e w2 ⟨rfl,Y,f2⟩;have H2:=hid Y;have F2:=hid (fr1 F1.out f2);clear Y f2 K2 H1 F1;go_wp2_with fail;refine(K3.out _ H2.out).mono ?_;rintro e w3 ⟨rfl,h3,f3⟩;have H3:=hid h3;have F3:=hid (fr1 F2.out f3);clear h3 f3 K3 H2 F2;go_wp2_with fail;go_ret2;exact⟨rfl,H3.out,F3.out⟩
 ·obtain⟨J,Y⟩:=aML hE
  rw[J,Y]at K2 ⊢;rw[J]at K3;have e3:dE S p (tx S p 0).2.2=(tx S p 0).2.2:=if_neg (fun h=>hE h.1);rw[e3]at K3;clear h J Y e3 hE;generalize (tx S p 0).2.2=er at *;have d1:decide ((p:Int)<(p:Int))=false:=aB (by omega);go_enter Tryz.func192,Tryz.ntmps192;go_wp2_with fail;refine K1.out.mono ?_;rintro e w1 ⟨rfl,J,f1⟩;have H1:=hid J;have F1:=hid f1;clear J f1 K1;go_wp2_with fail;refine(K2.out _ H1.out).mono ?_;rintro e w2 ⟨rfl,Y,f2⟩;have H2:=hid Y;have F2:=hid (fr1 F1.out f2);clear Y f2 K2 H1 F1;go_wp2_with fail;refine(K3.out _ H2.out).mono ?_;rintro e w3 ⟨rfl,h3,f3⟩;have H3:=hid h3;have F3:=hid (fr1 F2.out f3);clear h3 f3 K3 H2 F2;go_wp2_with fail;go_ret2;exact⟨rfl,H3.out,F3.out⟩
end po
end Go.Proofs.YtdmmkjijgoiecaaGreatDoor
