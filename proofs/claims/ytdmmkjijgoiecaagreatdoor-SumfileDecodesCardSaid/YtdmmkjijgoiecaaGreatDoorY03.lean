
set_option linter.all false
set_option maxHeartbeats 4000000
namespace Go.Proofs.YtdmmkjijgoiecaaGreatDoor
namespace vr
def xQ(n:Nat):UInt8:=UInt8.ofNat n
theorem sG(n:Nat)(h:n<256):(xQ n).toNat=n:=by unfold xQ;rw[UInt8.toNat_ofNat'];omega
def nbF:Nat→Nat→List UInt8
 | 0,n=>[xQ n]
 | f+1,n=>if n<128 then [xQ n] else xQ (n % 128+128) :: nbF f (n / 128)
def nb(n:Nat):List UInt8:=nbF n n
theorem aHe:∀(f g n:Nat),n≤f→n≤g→nbF f n=nbF g n
 | 0,0,_,_,_=>rfl
 | 0,g+1,n,h,_=>by
  have:n=0:=by omega
  subst this;simp[nbF]
 | f+1,0,n,_,h=>by
  have:n=0:=by omega
  subst this;simp[nbF]
 | f+1,g+1,n,h,h'=>by
  unfold nbF;split
  ·rfl
  ·rw[aHe f g (n / 128) (by omega) (by omega)]
theorem iF(n:Nat)(h:n<128):nb n=[xQ n]:=by
 unfold nb;cases n with
 | zero=>rfl
 | succ n=>unfold nbF;rw[if_pos h]
theorem nH(n:Nat)(h:128≤n):nb n=xQ (n % 128+128) :: nb (n / 128):=by
 unfold nb;obtain⟨m,rfl⟩:∃m,n=m+1:=⟨n-1,by omega⟩
 conv=>lhs;unfold nbF
 rw[if_neg (by omega),aHe m ((m+1) / 128) _ (by omega) (by omega)]
theorem lI(n:Nat)(h:n≤268435456):(nb n).length≤5:=by
 by_cases h1:n<128
 ·rw[iF n h1];simp
 rw[nH n (by omega)];by_cases Y:n / 128<128
 ·rw[iF _ Y];simp
 rw[nH _ (by omega)];by_cases J:n / 128 / 128<128
 ·rw[iF _ J];simp
 rw[nH _ (by omega)];by_cases h4:n / 128 / 128 / 128<128
 ·rw[iF _ h4];simp
 rw[nH _ (by omega),iF _ (by omega)];simp
theorem aCd(n:Nat):0<(nb n).length:=by
 by_cases J:n<128
 ·rw[iF n J];simp
 ·rw[nH n (by omega)];simp
def cntF:Nat→Nat→List UInt8→Nat×Nat×Nat
 | _,_,[]=>(0,0,1)
 | i,n,b :: r=>
  if b.toNat=0∧0<i then(0,0,3)
  else if i=4∧1<b.toNat∨268435456<n+b.toNat % 128 * 2 ^ (7 * i) then(0,0,2)
  else if b.toNat<128 then(n+b.toNat % 128 * 2 ^ (7 * i),i+1,0)
  else if 4≤i then(0,0,2)
  else cntF (i+1) (n+b.toNat % 128 * 2 ^ (7 * i)) r
def cnt(l:List UInt8):Nat×Nat×Nat:=cntF 0 0 l
end vr
end Go.Proofs.YtdmmkjijgoiecaaGreatDoor
