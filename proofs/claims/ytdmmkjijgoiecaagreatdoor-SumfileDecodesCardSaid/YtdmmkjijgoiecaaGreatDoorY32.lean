import Derived.Test.YtdmmkjijgoiecaaGreatDoorY12
import Derived.Test.YtdmmkjijgoiecaaGreatDoorY13
set_option linter.all false
set_option maxHeartbeats 4000000
namespace Go.Proofs.YtdmmkjijgoiecaaGreatDoor
namespace po
open vr
def tl:List UInt8→List (List UInt8)→List UInt8
 | _,[]=>[]
 | a,x :: r=>one a x++tl x r
theorem aEW:∀(l:List (List UInt8)) (a x:List UInt8),tl a (l++[x])=tl a l++one (l.getLastD a) x
 | [],a,x=>by simp[tl]
 | y :: l,a,x=>by
  rw[aW,tl,tl,aEW l y x,aS];congr 2;cases l with
  | nil=>rfl
  | cons z l=>rfl
theorem eH(l:List (List UInt8))(a x:List UInt8):(l++[x]).getLastD a=x:=by simp[List.getLastD_eq_getLast?]
theorem aJH(m:List (List UInt8)):∀k,k≤m.length→pv m k=(m.take k).getLastD []
 | 0,_=>by simp[pv]
 | k+1,h=>by
  rw[aFq,wP m k (by omega),bC (by omega),eH]
theorem aKZ(m:List (List UInt8)):∀k,k≤m.length→pP m k=nb m.length++tl [] (m.take k)
 | 0,_=>by simp[pP,tl]
 | k+1,h=>by
  rw[pP,aKZ m k (by omega),aJH m k (by omega),wP m k (by omega),bC (by omega),aEW,aS]
theorem aEg(m:List (List UInt8)):pP m m.length=nb m.length++tl [] m:=by rw[aKZ m m.length (aY _),bF]
def tQ(S:ByteArray)(p:Nat)(m:List (List UInt8)):Nat×Int×Int×List (List UInt8):=
 if nE S p 0≠0 then(nP S p 0,nE S p 0,nE S p 0,m)
 else if(tx S (nP S p 0) 0).2.2≠0 then((tx S (nP S p 0) 0).2.1,(tx S (nP S p 0) 0).2.2,(tx S (nP S p 0) 0).2.2,m)
 else if(m.getLastD []).length<nV S p 0 then((tx S (nP S p 0) 0).2.1,0,2,m)
 else if 1000<((m.getLastD []).take (nV S p 0)++(tx S (nP S p 0) 0).1.data.toList).length then((tx S (nP S p 0) 0).2.1,0,9,m)
 else if m≠[]∧¬m.getLastD []<(m.getLastD []).take (nV S p 0)++(tx S (nP S p 0) 0).1.data.toList then((tx S (nP S p 0) 0).2.1,0,13,m)
 else if nV S p 0<shr (m.getLastD []) ((m.getLastD []).take (nV S p 0)++(tx S (nP S p 0) 0).1.data.toList) then((tx S (nP S p 0) 0).2.1,0,3,m)
 else((tx S (nP S p 0) 0).2.1,0,0,m++[(m.getLastD []).take (nV S p 0)++(tx S (nP S p 0) 0).1.data.toList])
theorem aDE:∀(v:Nat) (a x:List UInt8),v≤a.length→v≤x.length→a.take v=x.take v→v≤shr a x
 | 0,_,_,_,_,_=>bA _
 | v+1,[],_,h,_,_=>by simp at h
 | v+1,_ :: _,[],_,h,_=>by simp at h
 | v+1,b :: a,c :: x,h1,h2,h3=>by
  rw[List.take_succ_cons,List.take_succ_cons]at h3;injection h3 with e1 e2;have:=aDE v a x (by simpa using h1) (by simpa using h2) e2;unfold shr;rw[if_pos e1];omega
theorem aMM{S:ByteArray}{p v sz:Nat}(h:cnt (S.data.toList.drop p)=(v,sz,0)):nV S p 0=v∧nP S p 0=p+sz∧nE S p 0=0:=by
 have e:ct S p=(v,sz,0):=h;unfold nV nP nE;rw[e];simp
theorem aKX{S:ByteArray}{p v sz:Nat}(h:cnt (S.data.toList.drop p)=(v,sz,0))(hl:v≤S.size-(p+sz)):tx S p 0=(S.extract (p+sz) (p+sz+v),p+sz+v,0):=by
 have e:ct S p=(v,sz,0):=h;unfold tx;rw[e];rw[if_neg (by simp),if_neg (by simp),if_neg (by show ¬S.size-(p+sz)<v;omega)]
theorem extract_toList(s:ByteArray)(a b:Nat):(s.extract a b).data.toList=(s.data.toList.drop a).take (b-a):=by
 rw[ByteArray.data_extract,Array.toList_extract,List.extract_eq_take_drop]
theorem fG(s:ByteArray):s.data.toList.length=s.size:=by rw[Array.length_toList];rfl
theorem aJK(S:ByteArray)(p:Nat)(m:List (List UInt8))(x r:List UInt8)(hS:S.size≤200000000)(h:S.data.toList.drop p=one (m.getLastD []) x++r)(hx:x.length≤1000)(ho:m≠[]→m.getLastD []<x) :
 tQ S p m=(p+(one (m.getLastD []) x).length,0,0,m++[x]):=by
 generalize ha:m.getLastD [] = a at *;have a1:=xB a x;have a0:=vJ a x;have h1:cnt (S.data.toList.drop p)=(shr a x,(nb (shr a x)).length,0):=by
  rw[h,one,aS];exact aAl _ _ (by omega)
 have hd:S.data.toList.drop (p+(nb (shr a x)).length)=nb (x.length-shr a x)++(x.drop (shr a x)++r):=by
  rw[←List.drop_drop,h,one,aS,List.drop_left',aS];rfl
 have Y:cnt (S.data.toList.drop (p+(nb (shr a x)).length))=(x.length-shr a x,(nb (x.length-shr a x)).length,0):=by
  rw[hd];exact aAl _ _ (by omega)
 have J:S.data.toList.drop (p+(nb (shr a x)).length+(nb (x.length-shr a x)).length)=x.drop (shr a x)++r:=by
  rw[←List.drop_drop,hd,List.drop_left'];rfl
 obtain⟨v1,v2,v3⟩:=aMM h1;have hlen:x.length-shr a x≤S.size-(p+(nb (shr a x)).length+(nb (x.length-shr a x)).length):=by
  have:=congrArg List.length J;rw[List.length_drop,fG,aF,List.length_drop]at this;omega
 have h3:=aKX Y hlen;have ht:(S.extract (p+(nb (shr a x)).length+(nb (x.length-shr a x)).length) (p+(nb (shr a x)).length+(nb (x.length-shr a x)).length+(x.length-shr a x))).data.toList=x.drop (shr a x):=by
  rw[extract_toList,J,show p+(nb (shr a x)).length+(nb (x.length-shr a x)).length+(x.length-shr a x)-(p+(nb (shr a x)).length+(nb (x.length-shr a x)).length)=(x.drop (shr a x)).length by rw[List.length_drop];omega];simp
 have hX:a.take (shr a x)++x.drop (shr a x)=x:=by rw[aCL,List.take_append_drop]
 unfold tQ;rw[ha,v1,v2,v3,h3,if_neg (by simp),if_neg (by simp),ht,hX,if_neg (by omega),if_neg (by omega),if_neg (by rintro⟨h1,Y⟩;exact Y (ho h1)),if_neg (by omega)];unfold one;simp only[aF,List.length_drop,Prod.mk.injEq];refine⟨by omega,trivial⟩
theorem vM{S:ByteArray}{p:Nat}(hp:p≤S.size)(h:(ct S p).2.2=0):S.data.toList.drop p=nb (ct S p).1++S.data.toList.drop (p+(ct S p).2.1)∧(ct S p).2.1=(nb (ct S p).1).length∧p+(ct S p).2.1≤S.size:=by
 obtain⟨r,Y,J⟩:=aBD (S.data.toList.drop p) (ct S p).1 (ct S p).2.1 (by rw[←h];rfl);refine⟨?_,J,aE5 S p hp⟩
 conv=>lhs;rw[Y]
 rw[←List.drop_drop,Y,J];simp
theorem aD6(S:ByteArray)(p:Nat)(m:List (List UInt8))(p':Nat)(er:Int)(m':List (List UInt8))(hp:p≤S.size)(h:tQ S p m=(p',er,0,m')) :
 er=0∧p'≤S.size∧∃x,m'=m++[x]∧x.length≤1000∧S.data.toList.drop p=one (m.getLastD []) x++S.data.toList.drop p'∧p'=p+(one (m.getLastD []) x).length:=by
 generalize ha:m.getLastD [] = a at *;unfold tQ at h;rw[ha]at h;split at h
 ·rename_i h0
  simp only[Prod.mk.injEq]at h;exact absurd h.2.2.1 h0
 rename_i h0;have c0:(ct S p).2.2=0:=by
  have:nE S p 0=0:=by simpa using h0
  unfold nE at this
  simpa using this
 obtain⟨d1,d2,d3⟩:=vM hp c0;have v1:nV S p 0=(ct S p).1:=by unfold nV;simp
 have v2:nP S p 0=p+(ct S p).2.1:=by unfold nP;simp
 rw[v1,v2]at h;generalize (ct S p).1=v at *;generalize (ct S p).2.1=sz at *;split at h
 ·rename_i J
  simp only[Prod.mk.injEq]at h;exact absurd h.2.2.1 J
 rename_i J;have J:(tx S (p+sz) 0).2.2=0:=by simpa using J
 have c1:(ct S (p+sz)).2.2=0∧¬S.size-(p+sz+(ct S (p+sz)).2.1)<(ct S (p+sz)).1:=by
  unfold tx at J;rw[if_neg (by simp)]at J;split at J
  ·rename_i h2
   exact absurd (by simpa using J) h2
  ·rename_i h2
   split at J
   ·simp at J
   ·rename_i h3
    exact⟨by simpa using h2,h3⟩
 obtain⟨g1,g2,g3⟩:=vM d3 c1.1;have t1:tx S (p+sz) 0=(S.extract (p+sz+(ct S (p+sz)).2.1) (p+sz+(ct S (p+sz)).2.1+(ct S (p+sz)).1),p+sz+(ct S (p+sz)).2.1+(ct S (p+sz)).1,0):=by
  unfold tx;rw[if_neg (by simp),if_neg (by simp[c1.1]),if_neg c1.2]
 rw[t1]at h;have c2:=c1.2;clear t1 J c1 h0 c0 v1 v2;generalize (ct S (p+sz)).1=n at *;generalize (ct S (p+sz)).2.1=z at *;have hT:(S.extract (p+sz+z) (p+sz+z+n)).data.toList=(S.data.toList.drop (p+sz+z)).take n:=by rw[extract_toList];congr 1;omega
 simp only[hT]at h;have a2:((S.data.toList.drop (p+sz+z)).take n).length=n:=by rw[List.length_take,List.length_drop,fG];omega
 have a0:S.data.toList.drop (p+sz+z)=(S.data.toList.drop (p+sz+z)).take n++S.data.toList.drop (p+sz+z+n):=by
  conv=>lhs;rw[←List.take_append_drop n (S.data.toList.drop (p+sz+z))]
  rw[List.drop_drop]
 generalize (S.data.toList.drop (p+sz+z)).take n=T at *;split at h
 ·simp at h
 rename_i h2;split at h
 ·simp at h
 rename_i h3;split at h
 ·simp at h
 rename_i h4;split at h
 ·simp at h
 rename_i h5;simp only[Prod.mk.injEq]at h;obtain⟨rfl,rfl,_,rfl⟩:=h;have Y:(a.take v).length=v:=by rw[List.length_take];omega
 have a1:=aDE v a (a.take v++T) (by omega) (by rw[aF,Y];omega) (by rw[List.take_left' Y]);have hv:shr a (a.take v++T)=v:=by omega
 have ho:one a (a.take v++T)=nb v++(nb n++T):=by
  unfold one;rw[hv,aF,Y,List.drop_left' Y,show v+T.length-v=n by omega]
 refine⟨rfl,by omega,_,rfl,by omega,?_,?_⟩
 ·rw[ho,d1,g1,a0]
  simp only[aS]
 ·rw[ho]
  simp only[aF];omega
def kK(S:ByteArray):Nat→Nat→List (List UInt8)→Nat×Int×Int×List (List UInt8)
 | 0,p,m=>(p,0,0,m)
 | k+1,p,m=>if(tQ S p m).2.2.1=0 then kK S k (tQ S p m).1 (tQ S p m).2.2.2 else tQ S p m
theorem aFc(S:ByteArray)(Y:S.size≤200000000):∀(l m:List (List UInt8)) (p:Nat) (r:List UInt8),S.data.toList.drop p=tl (m.getLastD []) l++r→(∀x∈l,x.length≤1000)→(m++l).Pairwise (fun a b=>a<b) →
 kK S l.length p m=(p+(tl (m.getLastD []) l).length,0,0,m++l)
 | [],m,p,r,_,_,_=>by simp[kK,tl]
 | x :: l,m,p,r,h,hx,ho=>by
  have h1:S.data.toList.drop p=one (m.getLastD []) x++(tl x l++r):=by rw[h,tl,aS]
  have ht:=aJK S p m x _ Y h1 (hx x List.mem_cons_self) (fun J=>by
   have h2:=(List.pairwise_append.1 ho).2.2;obtain⟨z,m',rfl⟩:∃z m',m=m'++[z]:=⟨m.getLast J,m.dropLast,(List.dropLast_concat_getLast J).symm⟩;rw[eH]
   exact h2 z (by simp) x List.mem_cons_self)
  have hd:S.data.toList.drop (p+(one (m.getLastD []) x).length)=tl x l++r:=by
   rw[←List.drop_drop,h1,List.drop_left'];rfl
  have ih:=aFc S Y l (m++[x]) (p+(one (m.getLastD []) x).length) r (by rw[eH];exact hd) (fun y hy=>hx y (bG _ hy)) (by simpa using ho);rw[eH]at ih;show kK S (l.length+1) p m=_;rw[kK,ht,if_pos rfl];show kK S l.length (p+(one (m.getLastD []) x).length) (m++[x])=_;rw[ih,tl,aF];simp only[Prod.mk.injEq,aS,List.singleton_append,and_true];omega
theorem aJi(S:ByteArray):∀(k p:Nat) (m:List (List UInt8)) (J:Nat) (er:Int) (Y:List (List UInt8)),p≤S.size→kK S k p m=(J,er,0,Y) →
 er=0∧J≤S.size∧∃l,Y=m++l∧l.length=k∧(∀x∈l,x.length≤1000)∧S.data.toList.drop p=tl (m.getLastD []) l++S.data.toList.drop J∧J=p+(tl (m.getLastD []) l).length
 | 0,p,m,J,er,Y,hp,h=>by
  simp only[kK,Prod.mk.injEq]at h;obtain⟨rfl,rfl,_,rfl⟩:=h;exact⟨rfl,hp,[],by simp,rfl,by simp,by simp[tl],by simp[tl]⟩
 | k+1,p,m,J,er,Y,hp,h=>by
  rw[kK]at h;obtain⟨p1,a0,e1,m1⟩:Nat×Int×Int×List (List UInt8):=tQ S p m;rcases ht:tQ S p m with⟨p1,a0,e1,m1⟩;rw[ht]at h;simp only at h;split at h
  ·rename_i h0
   subst h0;obtain⟨rfl,a3,x,rfl,hx,hd,rfl⟩:=aD6 S p m p1 a0 m1 hp ht;obtain⟨rfl,a1,l,rfl,hl,a4,a2,rfl⟩:=aJi S k _ _ J er Y a3 h;rw[eH]at a2 a1 ⊢;refine⟨rfl,a1,x :: l,by simp,by simp[hl],?_,?_,?_⟩
   ·intro y hy
    rcases aM.1 hy with rfl | hy
    ·exact hx
    ·exact a4 y hy
   ·rw[hd,a2,tl,aS]
   ·rw[tl,aF];omega
  ·rename_i h0
   simp only[Prod.mk.injEq]at h;exact absurd h.2.2.1 h0
def kD(S:ByteArray)(p:Nat):Nat×Int×Int×List (List UInt8):=
 if nE S p 0≠0 then(nP S p 0,nE S p 0,nE S p 0,[])
 else if 6000<nV S p 0 then(nP S p 0,0,4,[])
 else kK S (nV S p 0) (nP S p 0) []
end po
end Go.Proofs.YtdmmkjijgoiecaaGreatDoor
