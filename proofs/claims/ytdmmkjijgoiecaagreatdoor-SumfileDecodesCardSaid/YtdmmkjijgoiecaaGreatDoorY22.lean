import Derived.Test.YtdmmkjijgoiecaaGreatDoorY21
set_option linter.all false
set_option maxHeartbeats 4000000
namespace Go.Proofs.YtdmmkjijgoiecaaGreatDoor
open Lib(hid)
set_option maxRecDepth 100000
set_option maxHeartbeats 12000000
namespace nm
open RowKit Go.Sort
theorem aIM(fn name:ByteArray)(copy n:Int)(w:World)(a7:fn.size≤maxLen)(a8:name.size≤maxLen)(J:eG copy=true)(Y:eG n=true) :
 Calls Tryz.prog 196 #[Nd.val ⟨1,fn,copy,name,n,-1⟩] w (dP (bP ⟨1,fn,copy,name,n,-1⟩) w):=by
 have a3:=dC J;have a2:=dC Y;rcases hf:fn.toList.isEmpty with _ | _;rotate_left
 ·exact lT 1 (by simp) fn name copy n w a3 J a2 Y hf
 rcases a0:dg.bZ fn with _ | _
 ·have a1:=dI a7 a0
  exact kC 1 (by simp) fn name copy n w a3 J a2 Y hf a1 a0
 have a1:=dI a7 a0;rcases hn:name.toList.isEmpty with _ | _;rotate_left
 ·exact aAt 1 (by simp) fn name copy n w a3 J a2 Y hf a1 a0 hn
 rcases a4:dg.bZ name with _ | _
 ·have a5:=dI a8 a4
  exact yV 1 (by simp) fn name copy n w a3 J a2 Y hf a1 a0 hn a5 a4
 have a5:=dI a8 a4;by_cases a6:n=0
 ·subst a6
  exact zB 1 (by simp) fn name copy w a3 J a2 Y hf a1 a0 hn a5 a4
 have aa:(n==0)=false:=by rw[bI];exact a6
 have a9:(n != 0)=true:=by rw[bne_iff_ne];exact a6
 exact yT 1 (by simp) fn name copy n w a3 J a2 Y hf a1 a0 hn a5 a4 aa a9
theorem aH7(fn name:ByteArray)(copy n cell:Int)(w:World)(ad:fn.size≤maxLen)(ae:name.size≤maxLen)(Y:eG copy=true)(a0:eG n=true)(J:eG cell=true)(a7:(cell==-1)=false)(a4:(cell != -1)=true) :
 Calls Tryz.prog 196 #[Nd.val ⟨1,fn,copy,name,n,cell⟩] w (dP (bP ⟨1,fn,copy,name,n,cell⟩) w):=by
 have a6:=dC Y;have a3:=dC a0;have a5:=dC J;rcases hf:fn.toList.isEmpty with _ | _;rotate_left
 ·exact lM 1 (by simp) fn name copy n cell w a6 Y a3 a0 a7 a4 a5 J hf
 rcases a1:dg.bZ fn with _ | _
 ·have a2:=dI ad a1
  exact jV 1 (by simp) fn name copy n cell w a6 Y a3 a0 a7 a4 a5 J hf a2 a1
 have a2:=dI ad a1;rcases hn:name.toList.isEmpty with _ | _;rotate_left
 ·exact aAd 1 (by simp) fn name copy n cell w a6 Y a3 a0 a7 a4 a5 J hf a2 a1 hn
 rcases a8:dg.bZ name with _ | _
 ·have a9:=dI ae a8
  exact yU 1 (by simp) fn name copy n cell w a6 Y a3 a0 a7 a4 a5 J hf a2 a1 hn a9 a8
 have a9:=dI ae a8;by_cases aa:n=0
 ·subst aa
  exact aCG fn name copy cell w a6 Y a3 a0 a7 a4 a5 J hf a2 a1 hn a9 a8
 have ag:(n==0)=false:=by rw[bI];exact aa
 have af:(n != 0)=true:=by rw[bne_iff_ne];exact aa
 exact yZ 1 (by simp) fn name copy n cell w a6 Y a3 a0 a7 a4 a5 J hf a2 a1 hn a9 a8 ag af
theorem aJc(fn name:ByteArray)(copy n:Int)(w:World)(a5:fn.size≤maxLen)(a8:name.size≤maxLen)(J:eG copy=true)(Y:eG n=true) :
 Calls Tryz.prog 196 #[Nd.val ⟨2,fn,copy,name,n,-1⟩] w (dP (bP ⟨2,fn,copy,name,n,-1⟩) w):=by
 have a3:=dC J;have a2:=dC Y;rcases hf:fn.toList.isEmpty with _ | _;rotate_left
 ·exact lT 2 (by simp) fn name copy n w a3 J a2 Y hf
 rcases a0:dg.bZ fn with _ | _
 ·have a1:=dI a5 a0
  exact kC 2 (by simp) fn name copy n w a3 J a2 Y hf a1 a0
 have a1:=dI a5 a0;rcases hn:name.toList.isEmpty with _ | _
 ·exact rW 2 (by simp) fn name copy n w a3 J a2 Y hf a1 a0 hn
 by_cases a4:n=0
 ·subst a4
  exact yQ 2 (by simp) fn name copy w a3 J a2 Y hf a1 a0 hn
 have a7:(n==0)=false:=by rw[bI];exact a4
 have a6:(n != 0)=true:=by rw[bne_iff_ne];exact a4
 exact uT 2 (by simp) fn name copy n w a3 J a2 Y hf a1 a0 hn a7 a6
theorem aIX(fn name:ByteArray)(copy n cell:Int)(w:World)(a9:fn.size≤maxLen)(ae:name.size≤maxLen)(Y:eG copy=true)(a0:eG n=true)(J:eG cell=true)(a7:(cell==-1)=false)(a4:(cell != -1)=true) :
 Calls Tryz.prog 196 #[Nd.val ⟨2,fn,copy,name,n,cell⟩] w (dP (bP ⟨2,fn,copy,name,n,cell⟩) w):=by
 have a6:=dC Y;have a3:=dC a0;have a5:=dC J;rcases hf:fn.toList.isEmpty with _ | _;rotate_left
 ·exact lM 2 (by simp) fn name copy n cell w a6 Y a3 a0 a7 a4 a5 J hf
 rcases a1:dg.bZ fn with _ | _
 ·have a2:=dI a9 a1
  exact jV 2 (by simp) fn name copy n cell w a6 Y a3 a0 a7 a4 a5 J hf a2 a1
 have a2:=dI a9 a1;rcases hn:name.toList.isEmpty with _ | _
 ·exact sD 2 (by simp) fn name copy n cell w a6 Y a3 a0 a7 a4 a5 J hf a2 a1 hn
 by_cases a8:n=0
 ·subst a8
  exact oQ 2 (by simp) fn name copy cell w a6 Y a3 a0 a7 a4 a5 J hf a2 a1 hn
 have ad:(n==0)=false:=by rw[bI];exact a8
 have aa:(n != 0)=true:=by rw[bne_iff_ne];exact a8
 exact tH 2 (by simp) fn name copy n cell w a6 Y a3 a0 a7 a4 a5 J hf a2 a1 hn ad aa
theorem aHj(fn name:ByteArray)(copy n:Int)(w:World)(a5:fn.size≤maxLen)(a8:name.size≤maxLen)(J:eG copy=true)(Y:eG n=true) :
 Calls Tryz.prog 196 #[Nd.val ⟨3,fn,copy,name,n,-1⟩] w (dP (bP ⟨3,fn,copy,name,n,-1⟩) w):=by
 have a3:=dC J;have a2:=dC Y;rcases hf:fn.toList.isEmpty with _ | _;rotate_left
 ·exact lT 3 (by simp) fn name copy n w a3 J a2 Y hf
 rcases a0:dg.bZ fn with _ | _
 ·have a1:=dI a5 a0
  exact kC 3 (by simp) fn name copy n w a3 J a2 Y hf a1 a0
 have a1:=dI a5 a0;rcases hn:name.toList.isEmpty with _ | _
 ·exact rW 3 (by simp) fn name copy n w a3 J a2 Y hf a1 a0 hn
 by_cases a4:n=0
 ·subst a4
  exact yY 3 (by simp) fn name copy w a3 J a2 Y hf a1 a0 hn
 have a7:(n==0)=false:=by rw[bI];exact a4
 have a6:(n != 0)=true:=by rw[bne_iff_ne];exact a4
 exact uT 3 (by simp) fn name copy n w a3 J a2 Y hf a1 a0 hn a7 a6
theorem aHt(fn name:ByteArray)(copy n cell:Int)(w:World)(a9:fn.size≤maxLen)(ae:name.size≤maxLen)(Y:eG copy=true)(a0:eG n=true)(J:eG cell=true)(a7:(cell==-1)=false)(a4:(cell != -1)=true) :
 Calls Tryz.prog 196 #[Nd.val ⟨3,fn,copy,name,n,cell⟩] w (dP (bP ⟨3,fn,copy,name,n,cell⟩) w):=by
 have a6:=dC Y;have a3:=dC a0;have a5:=dC J;rcases hf:fn.toList.isEmpty with _ | _;rotate_left
 ·exact lM 3 (by simp) fn name copy n cell w a6 Y a3 a0 a7 a4 a5 J hf
 rcases a1:dg.bZ fn with _ | _
 ·have a2:=dI a9 a1
  exact jV 3 (by simp) fn name copy n cell w a6 Y a3 a0 a7 a4 a5 J hf a2 a1
 have a2:=dI a9 a1;rcases hn:name.toList.isEmpty with _ | _
 ·exact sD 3 (by simp) fn name copy n cell w a6 Y a3 a0 a7 a4 a5 J hf a2 a1 hn
 by_cases a8:n=0
 ·subst a8
  exact oQ 3 (by simp) fn name copy cell w a6 Y a3 a0 a7 a4 a5 J hf a2 a1 hn
 have ad:(n==0)=false:=by rw[bI];exact a8
 have aa:(n != 0)=true:=by rw[bne_iff_ne];exact a8
 exact tH 3 (by simp) fn name copy n cell w a6 Y a3 a0 a7 a4 a5 J hf a2 a1 hn ad aa
theorem aJd(fn name:ByteArray)(copy n:Int)(w:World)(a5:fn.size≤maxLen)(a8:name.size≤maxLen)(J:eG copy=true)(Y:eG n=true) :
 Calls Tryz.prog 196 #[Nd.val ⟨4,fn,copy,name,n,-1⟩] w (dP (bP ⟨4,fn,copy,name,n,-1⟩) w):=by
 have a3:=dC J;have a2:=dC Y;rcases hf:fn.toList.isEmpty with _ | _;rotate_left
 ·exact lT 4 (by simp) fn name copy n w a3 J a2 Y hf
 rcases a0:dg.bZ fn with _ | _
 ·have a1:=dI a5 a0
  exact kC 4 (by simp) fn name copy n w a3 J a2 Y hf a1 a0
 have a1:=dI a5 a0;rcases hn:name.toList.isEmpty with _ | _
 ·exact rW 4 (by simp) fn name copy n w a3 J a2 Y hf a1 a0 hn
 by_cases a4:n=0
 ·subst a4
  exact yQ 4 (by simp) fn name copy w a3 J a2 Y hf a1 a0 hn
 have a7:(n==0)=false:=by rw[bI];exact a4
 have a6:(n != 0)=true:=by rw[bne_iff_ne];exact a4
 exact aC1 fn name copy n w a3 J a2 Y hf a1 a0 hn a7 a6
theorem aH3(fn name:ByteArray)(copy n cell:Int)(w:World)(a9:fn.size≤maxLen)(ae:name.size≤maxLen)(Y:eG copy=true)(a0:eG n=true)(J:eG cell=true)(a7:(cell==-1)=false)(a4:(cell != -1)=true) :
 Calls Tryz.prog 196 #[Nd.val ⟨4,fn,copy,name,n,cell⟩] w (dP (bP ⟨4,fn,copy,name,n,cell⟩) w):=by
 have a6:=dC Y;have a3:=dC a0;have a5:=dC J;rcases hf:fn.toList.isEmpty with _ | _;rotate_left
 ·exact lM 4 (by simp) fn name copy n cell w a6 Y a3 a0 a7 a4 a5 J hf
 rcases a1:dg.bZ fn with _ | _
 ·have a2:=dI a9 a1
  exact jV 4 (by simp) fn name copy n cell w a6 Y a3 a0 a7 a4 a5 J hf a2 a1
 have a2:=dI a9 a1;rcases hn:name.toList.isEmpty with _ | _
 ·exact sD 4 (by simp) fn name copy n cell w a6 Y a3 a0 a7 a4 a5 J hf a2 a1 hn
 by_cases a8:n=0
 ·subst a8
  exact oQ 4 (by simp) fn name copy cell w a6 Y a3 a0 a7 a4 a5 J hf a2 a1 hn
 have ad:(n==0)=false:=by rw[bI];exact a8
 have aa:(n != 0)=true:=by rw[bne_iff_ne];exact a8
 exact tH 4 (by simp) fn name copy n cell w a6 Y a3 a0 a7 a4 a5 J hf a2 a1 hn ad aa
theorem aHg(fn name:ByteArray)(copy n:Int)(w:World)(a9:fn.size≤maxLen)(a5:name.size≤maxLen)(J:eG copy=true)(Y:eG n=true) :
 Calls Tryz.prog 196 #[Nd.val ⟨5,fn,copy,name,n,-1⟩] w (dP (bP ⟨5,fn,copy,name,n,-1⟩) w):=by
 have a1:=dC J;have a0:=dC Y;rcases hf:fn.toList.isEmpty with _ | _
 ·exact aDK fn name copy n w a1 J a0 Y hf
 by_cases hz:copy=0;rotate_left
 ·have a7:(copy != 0)=true:=by rw[bne_iff_ne];exact hz
  exact aCO fn name copy n w a1 J a0 Y hf a7
 subst hz;rcases hn:name.toList.isEmpty with _ | _;rotate_left
 ·exact aEw fn name n w a1 J a0 Y hf hn
 rcases a2:dg.bZ name with _ | _
 ·have a3:=dI a5 a2
  exact aDy fn name n w a1 J a0 Y hf hn a3 a2
 have a3:=dI a5 a2;by_cases a4:n=0
 ·subst a4
  exact aCw fn name w a1 J a0 Y hf hn a3 a2
 have a8:(n==0)=false:=by rw[bI];exact a4
 have a6:(n != 0)=true:=by rw[bne_iff_ne];exact a4
 exact aDl fn name n w a1 J a0 Y hf hn a3 a2 a8 a6
theorem aG8(fn name:ByteArray)(copy n cell:Int)(w:World)(af:fn.size≤maxLen)(a9:name.size≤maxLen)(Y:eG copy=true)(a0:eG n=true)(J:eG cell=true)(a5:(cell==-1)=false)(a2:(cell != -1)=true) :
 Calls Tryz.prog 196 #[Nd.val ⟨5,fn,copy,name,n,cell⟩] w (dP (bP ⟨5,fn,copy,name,n,cell⟩) w):=by
 have a4:=dC Y;have a1:=dC a0;have a3:=dC J;rcases hf:fn.toList.isEmpty with _ | _
 ·exact aED fn name copy n cell w a4 Y a1 a0 a5 a2 a3 J hf
 by_cases hz:copy=0;rotate_left
 ·have ad:(copy != 0)=true:=by rw[bne_iff_ne];exact hz
  exact aCE fn name copy n cell w a4 Y a1 a0 a5 a2 a3 J hf ad
 subst hz;rcases hn:name.toList.isEmpty with _ | _;rotate_left
 ·exact aD2 fn name n cell w a4 Y a1 a0 a5 a2 a3 J hf hn
 rcases a6:dg.bZ name with _ | _
 ·have a7:=dI a9 a6
  exact aCs fn name n cell w a4 Y a1 a0 a5 a2 a3 J hf hn a7 a6
 have a7:=dI a9 a6;by_cases a8:n=0
 ·subst a8
  exact aCI fn name cell w a4 Y a1 a0 a5 a2 a3 J hf hn a7 a6
 have ae:(n==0)=false:=by rw[bI];exact a8
 have aa:(n != 0)=true:=by rw[bne_iff_ne];exact a8
 exact aC6 fn name n cell w a4 Y a1 a0 a5 a2 a3 J hf hn a7 a6 ae aa
theorem aIs(fn name:ByteArray)(copy n:Int)(w:World)(a7:fn.size≤maxLen)(a8:name.size≤maxLen)(J:eG copy=true)(Y:eG n=true) :
 Calls Tryz.prog 196 #[Nd.val ⟨6,fn,copy,name,n,-1⟩] w (dP (bP ⟨6,fn,copy,name,n,-1⟩) w):=by
 have a3:=dC J;have a2:=dC Y;rcases hf:fn.toList.isEmpty with _ | _;rotate_left
 ·exact lT 6 (by simp) fn name copy n w a3 J a2 Y hf
 rcases a0:dg.bZ fn with _ | _
 ·have a1:=dI a7 a0
  exact kC 6 (by simp) fn name copy n w a3 J a2 Y hf a1 a0
 have a1:=dI a7 a0;rcases hn:name.toList.isEmpty with _ | _;rotate_left
 ·exact aAt 6 (by simp) fn name copy n w a3 J a2 Y hf a1 a0 hn
 rcases a4:dg.bZ name with _ | _
 ·have a5:=dI a8 a4
  exact yV 6 (by simp) fn name copy n w a3 J a2 Y hf a1 a0 hn a5 a4
 have a5:=dI a8 a4;by_cases a6:n=0
 ·subst a6
  exact zB 6 (by simp) fn name copy w a3 J a2 Y hf a1 a0 hn a5 a4
 have aa:(n==0)=false:=by rw[bI];exact a6
 have a9:(n != 0)=true:=by rw[bne_iff_ne];exact a6
 exact yT 6 (by simp) fn name copy n w a3 J a2 Y hf a1 a0 hn a5 a4 aa a9
theorem aH5(fn name:ByteArray)(copy n cell:Int)(w:World)(ad:fn.size≤maxLen)(ae:name.size≤maxLen)(Y:eG copy=true)(a0:eG n=true)(J:eG cell=true)(a7:(cell==-1)=false)(a4:(cell != -1)=true) :
 Calls Tryz.prog 196 #[Nd.val ⟨6,fn,copy,name,n,cell⟩] w (dP (bP ⟨6,fn,copy,name,n,cell⟩) w):=by
 have a6:=dC Y;have a3:=dC a0;have a5:=dC J;rcases hf:fn.toList.isEmpty with _ | _;rotate_left
 ·exact lM 6 (by simp) fn name copy n cell w a6 Y a3 a0 a7 a4 a5 J hf
 rcases a1:dg.bZ fn with _ | _
 ·have a2:=dI ad a1
  exact jV 6 (by simp) fn name copy n cell w a6 Y a3 a0 a7 a4 a5 J hf a2 a1
 have a2:=dI ad a1;rcases hn:name.toList.isEmpty with _ | _;rotate_left
 ·exact aAd 6 (by simp) fn name copy n cell w a6 Y a3 a0 a7 a4 a5 J hf a2 a1 hn
 rcases a8:dg.bZ name with _ | _
 ·have a9:=dI ae a8
  exact yU 6 (by simp) fn name copy n cell w a6 Y a3 a0 a7 a4 a5 J hf a2 a1 hn a9 a8
 have a9:=dI ae a8;by_cases aa:n=0
 ·subst aa
  exact aCt fn name copy cell w a6 Y a3 a0 a7 a4 a5 J hf a2 a1 hn a9 a8
 have ag:(n==0)=false:=by rw[bI];exact aa
 have af:(n != 0)=true:=by rw[bne_iff_ne];exact aa
 exact yZ 6 (by simp) fn name copy n cell w a6 Y a3 a0 a7 a4 a5 J hf a2 a1 hn a9 a8 ag af
theorem aIL(fn name:ByteArray)(copy n:Int)(w:World)(a5:fn.size≤maxLen)(a8:name.size≤maxLen)(J:eG copy=true)(Y:eG n=true) :
 Calls Tryz.prog 196 #[Nd.val ⟨7,fn,copy,name,n,-1⟩] w (dP (bP ⟨7,fn,copy,name,n,-1⟩) w):=by
 have a3:=dC J;have a2:=dC Y;rcases hf:fn.toList.isEmpty with _ | _;rotate_left
 ·exact lT 7 (by simp) fn name copy n w a3 J a2 Y hf
 rcases a0:dg.bZ fn with _ | _
 ·have a1:=dI a5 a0
  exact kC 7 (by simp) fn name copy n w a3 J a2 Y hf a1 a0
 have a1:=dI a5 a0;rcases hn:name.toList.isEmpty with _ | _
 ·exact rW 7 (by simp) fn name copy n w a3 J a2 Y hf a1 a0 hn
 by_cases a4:n=0
 ·subst a4
  exact yY 7 (by simp) fn name copy w a3 J a2 Y hf a1 a0 hn
 have a7:(n==0)=false:=by rw[bI];exact a4
 have a6:(n != 0)=true:=by rw[bne_iff_ne];exact a4
 exact uT 7 (by simp) fn name copy n w a3 J a2 Y hf a1 a0 hn a7 a6
theorem aHs(fn name:ByteArray)(copy n cell:Int)(w:World)(a9:fn.size≤maxLen)(ae:name.size≤maxLen)(Y:eG copy=true)(a0:eG n=true)(J:eG cell=true)(a7:(cell==-1)=false)(a4:(cell != -1)=true) :
 Calls Tryz.prog 196 #[Nd.val ⟨7,fn,copy,name,n,cell⟩] w (dP (bP ⟨7,fn,copy,name,n,cell⟩) w):=by
 have a6:=dC Y;have a3:=dC a0;have a5:=dC J;rcases hf:fn.toList.isEmpty with _ | _;rotate_left
 ·exact lM 7 (by simp) fn name copy n cell w a6 Y a3 a0 a7 a4 a5 J hf
 rcases a1:dg.bZ fn with _ | _
 ·have a2:=dI a9 a1
  exact jV 7 (by simp) fn name copy n cell w a6 Y a3 a0 a7 a4 a5 J hf a2 a1
 have a2:=dI a9 a1;rcases hn:name.toList.isEmpty with _ | _
 ·exact sD 7 (by simp) fn name copy n cell w a6 Y a3 a0 a7 a4 a5 J hf a2 a1 hn
 by_cases a8:n=0
 ·subst a8
  exact oQ 7 (by simp) fn name copy cell w a6 Y a3 a0 a7 a4 a5 J hf a2 a1 hn
 have ad:(n==0)=false:=by rw[bI];exact a8
 have aa:(n != 0)=true:=by rw[bne_iff_ne];exact a8
 exact aCo fn name copy n cell w a6 Y a3 a0 a7 a4 a5 J hf a2 a1 hn ad aa
theorem aGP(d:Nd)(w:World)(a1:d.name.size≤maxLen)(a0:d.fn.size≤maxLen):Calls Tryz.prog 196 #[d.val] w (dP (bP d) w):=by
 obtain⟨kind,fn,copy,name,n,cell⟩:=d;have a1:name.size≤maxLen:=a1;have a0:fn.size≤maxLen:=a0;by_cases hk:1≤kind∧kind≤7;rotate_left
 ·have hv:bP ⟨kind,fn,copy,name,n,cell⟩=false:=by unfold bP dL;rw[show decide (1≤kind∧kind≤7)=false from aB hk];simp only[Bool.false_and]
  rw[hv];exact aEf kind fn copy name n cell w hk
 obtain⟨h1,h7⟩:=hk;rcases J:eG copy with _ | _
 ·exact aDB kind fn copy name n cell w h1 h7 (dC J) J
 rcases Y:eG n with _ | _
 ·exact aKz kind fn copy name n cell w h1 h7 (dC J) (dC Y) Y
 by_cases hz:cell=-1
 ·subst hz
  rcases(by omega:kind=1∨kind=2∨kind=3∨kind=4∨kind=5∨kind=6∨kind=7)with rfl | rfl | rfl | rfl | rfl | rfl | rfl
  ·exact aIM fn name copy n w a0 a1 J Y
  ·exact aJc fn name copy n w a0 a1 J Y
  ·exact aHj fn name copy n w a0 a1 J Y
  ·exact aJd fn name copy n w a0 a1 J Y
  ·exact aHg fn name copy n w a0 a1 J Y
  ·exact aIs fn name copy n w a0 a1 J Y
  ·exact aIL fn name copy n w a0 a1 J Y
 ·have a4:(cell==-1)=false:=by rw[bI];exact hz
  have a3:(cell != -1)=true:=by rw[bne_iff_ne];exact hz
  rcases a2:eG cell with _ | _
  ·exact aEe kind fn copy name n cell w h1 h7 (dC J) (dC Y) (dC a2) a2 a4 a3
  rcases(by omega:kind=1∨kind=2∨kind=3∨kind=4∨kind=5∨kind=6∨kind=7)with rfl | rfl | rfl | rfl | rfl | rfl | rfl
  ·exact aH7 fn name copy n cell w a0 a1 J Y a2 a4 a3
  ·exact aIX fn name copy n cell w a0 a1 J Y a2 a4 a3
  ·exact aHt fn name copy n cell w a0 a1 J Y a2 a4 a3
  ·exact aH3 fn name copy n cell w a0 a1 J Y a2 a4 a3
  ·exact aG8 fn name copy n cell w a0 a1 J Y a2 a4 a3
  ·exact aH5 fn name copy n cell w a0 a1 J Y a2 a4 a3
  ·exact aHs fn name copy n cell w a0 a1 J Y a2 a4 a3
theorem aJI(l:List UInt8):(l==(ByteArray.mk #[]).toList)=l.isEmpty:=by
 rw[dg.fC ⟨#[]⟩ rfl];cases l <;> rfl
theorem aBm(s:ByteArray)(h:s.toList.isEmpty=true):dg.bZ s=false:=by
 apply dg.uR
 left;exact xR s (List.isEmpty_iff.1 h)
def pQ(k copy n cell:Int)(fE J nE Y:Bool):Bool:=
 if k=5 then fE&&((copy==0)&&((n==0)&&(fK copy 0&&(fK cell (-1)&&Y))))
 else if k=6 then(n==0)&&(fK copy 0&&(fK cell (-1)&&(J&&Y)))
 else if k=1 then(n==0)&&((cell==-1)&&(fK copy 0&&(fK cell (-1)&&(J&&Y))))
 else if k=7 then nE&&(fK copy 0&&(fK cell (-1)&&(J&&fK n 1)))
 else if k=2 then nE&&((cell==-1)&&(fK copy 0&&(fK cell (-1)&&(J&&fK n 0))))
 else if k=3 then nE&&((cell==-1)&&(fK copy 0&&(fK cell (-1)&&(J&&fK n 1))))
 else nE&&((n==0)&&((cell==-1)&&(fK copy 0&&(fK cell (-1)&&(J&&fK n 0)))))
theorem aBJ(d:Nd)(Y:1≤d.kind)(J:d.kind≤7):dY d=pQ d.kind d.copy d.n d.cell d.fn.toList.isEmpty (dg.bZ d.fn) d.name.toList.isEmpty (dg.bZ d.name):=by
 obtain⟨kind,fn,copy,name,n,cell⟩:=d;have Y:1≤kind:=Y;have J:kind≤7:=J;rcases(by omega:kind=1∨kind=2∨kind=3∨kind=4∨kind=5∨kind=6∨kind=7)with rfl | rfl | rfl | rfl | rfl | rfl | rfl
 all_goals
  unfold dY jD bY swB pQ;simp[Bool.and_assoc,aJI]
theorem aFO(k copy n cell:Int)(fE J nE Y:Bool)(h1:1≤k)(h7:k≤7)(hf:fE=true→J=false)(hn:nE=true→Y=false) :
 dL k copy n cell (eG copy) (eG n) (eG cell) fE J nE Y=pQ k copy n cell fE J nE Y:=by
 rcases(by omega:k=1∨k=2∨k=3∨k=4∨k=5∨k=6∨k=7)with rfl | rfl | rfl | rfl | rfl | rfl | rfl
 all_goals
  unfold dL pQ eG fK;cases fE <;> cases nE <;> cases J <;> cases Y <;> simp at hf hn ⊢
 all_goals
  rw[Bool.eq_iff_iff];simp
  try omega
theorem aGO(d:Nd):bP d=dY d:=by
 by_cases J:1≤d.kind∧d.kind≤7
 ·rw[aBJ d J.1 J.2]
  unfold bP;exact aFO _ _ _ _ _ _ _ _ J.1 J.2 (aBm _) (aBm _)
 ·unfold bP dL dY
  rw[aB J];rfl
open RowKit
def aA1(l:List UInt8):Nat:=if dg.gY ((l.headD 0).toNat:Int) then dg.runN dg.xU l else dg.runN dg.dM l
theorem aBT(s:ByteArray):dg.jR s=aA1 s.data.toList:=rfl
theorem aCK(J:Int→Bool)(a r:List UInt8)(ha:∀c∈a,J (c.toNat:Int)=true)(hr:r=[]∨J ((r.headD 0).toNat:Int)=false):dg.runN J (a++r)=a.length:=by
 induction a with
 | nil=>
  rcases hr with rfl | hr
  ·rfl
  ·cases r with
   | nil=>rfl
   | cons c r=>simp only[List.headD_cons]at hr;simp[dg.runN,hr]
 | cons c a ih=>
  have h1:=ha c List.mem_cons_self;have Y:=ih (fun c hc=>ha c (bG _ hc));unfold dg.runN at Y ⊢;rw[aW,List.takeWhile_cons,if_pos h1,aG,aG,Y]
theorem aBq(a r:List UInt8)(ha:a≠[]):(a++r).headD 0=a.headD 0:=by
 cases a with
 | nil=>exact absurd rfl ha
 | cons c a=>rfl
theorem aBR{b:Int}(h:dg.dM b=true):dg.gY b=false:=by
 unfold dg.dM at h;unfold dg.gY;simp only[bJ]at h;exact aB (by omega)
theorem aEd(ds r:List UInt8)(J:ds≠[])(hd:∀c∈ds,dg.dM (c.toNat:Int)=true)(hr:r=[]∨dg.dM ((r.headD 0).toNat:Int)=false):aA1 (ds++r)=ds.length:=by
 unfold aA1;rw[aBq ds r J];have h0:dg.dM ((ds.headD 0).toNat:Int)=true:=by
  cases ds with
  | nil=>exact absurd rfl J
  | cons c a=>exact hd c List.mem_cons_self
 rw[aBR h0,if_neg (by decide)];exact aCK _ _ _ hd hr
theorem mF(nm r:List UInt8)(J:nm≠[])(hl:dg.gY ((nm.headD 0).toNat:Int)=true)(hd:∀c∈nm,dg.xU (c.toNat:Int)=true)(hr:r=[]∨dg.xU ((r.headD 0).toNat:Int)=false):aA1 (nm++r)=nm.length:=by
 unfold aA1;rw[aBq nm r J,hl,if_pos rfl];exact aCK _ _ _ hd hr
theorem iO(s:ByteArray)(h:dg.bZ s=true):s.data.toList≠[]∧dg.gY ((s.data.toList.headD 0).toNat:Int)=true∧∀c∈s.data.toList,dg.xU (c.toNat:Int)=true:=by
 unfold dg.bZ at h;simp only[Bool.and_eq_true,bJ]at h;have hl:=dg.cZ s;refine⟨fun e=>?_,h.2.1,dg.aIY _ _ (by omega)⟩;rw[e]at hl;exact h.1.1 hl.symm
theorem gF(s:ByteArray)(a b:Nat):(s.extract a b).data.toList=(s.data.toList.drop a).take (b-a):=by
 rw[ByteArray.data_extract,Array.toList_extract]
theorem aJh(s:ByteArray):(fn0 s).data.toList=s.data.toList.take (aA1 s.data.toList):=by
 unfold fn0;rw[gF,aBT];simp
theorem aEj(s:ByteArray):(bK s).data.toList=s.data.toList.drop (aA1 s.data.toList):=by
 unfold bK;rw[gF,aBT,bE];rw[List.length_drop,dg.cZ];exact aY _
theorem nU(s:ByteArray):(bL s).data.toList=s.data.toList.tail:=by
 unfold bL;rw[gF,bE (by rw[List.length_drop,dg.cZ];exact aY _),List.drop_one]
theorem aH6(c:Int)(h0:0≤c):Lib.itoa c=Lib.decDigits c.toNat:=by unfold Lib.itoa;rw[if_neg (by omega)]
def aIr(r:List UInt8):Prop:=r=[]∨dg.dM ((r.headD 0).toNat:Int)=false
def yP(r:List UInt8):Prop:=r=[]∨dg.xU ((r.headD 0).toNat:Int)=false
theorem yP.dig{r:List UInt8}(h:yP r):aIr r:=by
 rcases h with h | h
 ·exact Or.inl h
 ·right
  unfold dg.xU at h;rw[Bool.or_eq_false_iff]at h;exact h.2
theorem wV(c:Int)(h0:0≤c)(r:List UInt8)(hr:aIr r):aA1 (Lib.itoa c++r)=(Lib.itoa c).length:=by
 rw[aH6 c h0];exact aEd _ _ (dg.aIl _) (dg.aAo _ _ (aY _)) hr
theorem vD(c:Int)(h0:0≤c)(Y:c≤268435456)(t:ByteArray)(J:t.data.toList=Lib.itoa c):dg.rd t=(c,0):=by
 have e:t=⟨(Lib.decDigits c.toNat).toArray⟩:=eY (by rw[J,aH6 c h0]);rw[e,dg.rd_dec _ (by omega)];rw[Int.toNat_of_nonneg h0]
theorem tL(s:ByteArray)(m:UInt8)(mark absent c:Int)(r:List UInt8)(hm:(m.toNat:Int)=mark)(h0:0≤c)(h1:c≤268435456)(hr:aIr r)(hs:s.data.toList=m :: (Lib.itoa c++r)) :
 (dZ s mark absent).1=c∧(dZ s mark absent).2.data.toList=r:=by
 have hl:=dg.cZ s;rw[hs,aG]at hl;have hh:bM s=mark:=by unfold bM;rw[hs,List.headD_cons];exact hm
 have Y:(s.extract 1 s.size).data.toList=Lib.itoa c++r:=by
  have:=nU s;unfold bL at this;rw[this,hs];rfl
 have J:dg.jR (s.extract 1 s.size)=(Lib.itoa c).length:=by rw[aBT,Y];exact wV c h0 r hr
 have e1:((s.extract 1 s.size).extract 0 (dg.jR (s.extract 1 s.size))).data.toList=Lib.itoa c:=by
  rw[gF,Y,J];simp
 have e2:((s.extract 1 s.size).extract (dg.jR (s.extract 1 s.size)) (s.extract 1 s.size).size).data.toList=r:=by
  rw[gF,J,Y,←dg.cZ,Y];simp
 have e3:=vD c h0 h1 _ e1;unfold dZ;rw[if_neg (by rintro(h | h);omega;exact h hh),e3,if_pos rfl];exact⟨rfl,e2⟩
theorem wQ(s:ByteArray)(mark absent:Int)(h:s.data.toList=[]∨((s.data.toList.headD 0).toNat:Int)≠mark):dZ s mark absent=(absent,s):=by
 unfold dZ;rw[if_pos];rcases h with h | h
 ·left;rw[←dg.cZ,h];rfl
 ·exact Or.inr h
theorem oZ(s:ByteArray)(a r:List UInt8)(hs:s.data.toList=a++r)(h:aA1 (a++r)=a.length):(fn0 s).data.toList=a∧(bK s).data.toList=r:=by
 rw[aJh,aEj,hs,h];simp
theorem mG(d:Nd)(J:dY d=true):(txt d).data.toList=jF d:=by unfold txt;rw[if_pos J]
theorem iD(c:Int):yP (cellL c):=by
 unfold cellL;by_cases h:c=-1
 ·rw[if_pos h];exact Or.inl rfl
 ·rw[if_neg h];right;rw[List.headD_cons];decide
theorem cell_of(r:ByteArray)(c:Int)(h0:-1≤c)(J:c≤268435456)(h:r.data.toList=cellL c):cellOf r=c:=by
 unfold cellOf;unfold cellL at h;by_cases hc:c=-1
 ·rw[if_pos hc]at h
  rw[wQ r 43 (-1) (Or.inl h)];exact hc.symm
 ·rw[if_neg hc]at h
  exact(tL r 43 43 (-1) c [] rfl (by omega) J (Or.inl rfl) (by rw[h,List.append_nil])).1
theorem lQ(s:ByteArray)(m:UInt8)(r:List UInt8)(h:s.data.toList=m :: r) :
 fF s=if(m.toNat:Int)=46 then 1 else if(m.toNat:Int)=36 then 2 else if(m.toNat:Int)=64 then 3 else if(m.toNat:Int)=40 then 4 else if(m.toNat:Int)=37 then 6 else if(m.toNat:Int)=35 then 7 else 5:=by
 have hl:=dg.cZ s;rw[h,aG]at hl;have J:bM s=(m.toNat:Int):=by unfold bM;rw[h,List.headD_cons]
 unfold fF;rw[if_neg (by omega),J]
theorem aFJ(s:ByteArray)(h:s.data.toList=[]):fF s=5:=by
 unfold fF;rw[if_pos (by rw[←dg.cZ,h];rfl)]
theorem qE(s fn:ByteArray)(copy:Int)(r:List UInt8)(hf:dg.bZ fn=true)(h0:0≤copy)(h1:copy≤268435456)(hr:yP r)(Y:r=[]∨((r.headD 0).toNat:Int)≠126)
 (hs:s.data.toList=fn.data.toList++(gB copy++r)):fn0 s=fn∧kN s=copy∧(bN s).data.toList=r:=by
 obtain⟨n1,n2,n3⟩:=iO fn hf;have hb:yP (gB copy++r):=by
  unfold gB;by_cases hc:0<copy
  ·rw[if_pos hc];right;show dg.xU (((126:UInt8).toNat:Int))=false;decide
  ·rw[if_neg hc];exact hr
 obtain⟨e1,J⟩:=oZ s _ _ hs (mF _ _ n1 n2 n3 hb);refine⟨eY e1,?_⟩;unfold kN bN;by_cases hc:0<copy
 ·unfold gB at J
  rw[if_pos hc]at J;exact tL (bK s) 126 126 0 copy r rfl h0 h1 hr.dig J
 ·unfold gB at J
  rw[if_neg hc]at J;have e3:(bK s).data.toList=r:=J;rw[wQ (bK s) 126 0 (by rw[e3];exact Y)];exact⟨by show(0:Int)=copy;omega,e3⟩
theorem iH{s:ByteArray}(h:s.toList.isEmpty=true):s=⟨#[]⟩:=by
 apply eY
 have:=xR s (List.isEmpty_iff.1 h);have hl:=dg.cZ s;rw[this]at hl;exact List.length_eq_zero_iff.1 hl
theorem mM(d:Nd)(J:dY d=true):pQ d.kind d.copy d.n d.cell d.fn.toList.isEmpty (dg.bZ d.fn) d.name.toList.isEmpty (dg.bZ d.name)=true:=by
 obtain⟨_,_,h1,Y⟩:=dS d J;rw[←aBJ d h1 Y];exact J
def mZ(d:Nd):List UInt8:=kI d.kind++(kG d++cellL d.cell)
theorem oO(d:Nd):jF d=d.fn.data.toList++(gB d.copy++mZ d):=rfl
theorem aEz(fn:ByteArray)(copy:Int)(name:ByteArray)(n cell:Int)(Y:dY ⟨1,fn,copy,name,n,cell⟩=true):dV (txt ⟨1,fn,copy,name,n,cell⟩)=⟨1,fn,copy,name,n,cell⟩:=by
 obtain⟨J,a0,_⟩:=dS _ Y;have J:0≤copy∧copy≤268435456:=J;have hw:=mM _ Y;unfold pQ at hw;simp at hw;obtain⟨rfl,rfl,_,_,hf,hn⟩:=hw;have hs:=mG _ Y;generalize txt ⟨1,fn,copy,name,0,-1⟩=s at *;have hB:mZ ⟨1,fn,copy,name,0,-1⟩=46 :: (name.data.toList++[]):=rfl;rw[oO,hB]at hs;obtain⟨e1,e2,e3⟩:=qE s fn copy _ hf J.1 J.2 (Or.inr (by rw[List.headD_cons];decide)) (Or.inr (by rw[List.headD_cons];decide)) hs;have hk:fF (bN s)=1:=by rw[lQ _ _ _ e3];rfl
 have ht:(bL (bN s)).data.toList=name.data.toList++[]:=by rw[nU,e3];rfl
 obtain⟨m1,m2,m3⟩:=iO name hn;obtain⟨e4,e5⟩:=oZ _ _ _ ht (mF _ _ m1 m2 m3 (Or.inl rfl));unfold dV;rw[hk,if_neg (by decide),if_pos rfl,e1,e2,eY e4,cell_of _ (-1) (by omega) (by omega) e5]
theorem aEu(fn:ByteArray)(copy:Int)(name:ByteArray)(n cell:Int)(hm:dY ⟨6,fn,copy,name,n,cell⟩=true):dV (txt ⟨6,fn,copy,name,n,cell⟩)=⟨6,fn,copy,name,n,cell⟩:=by
 obtain⟨Y,J,_⟩:=dS _ hm;have Y:0≤copy∧copy≤268435456:=Y;have J:-1≤cell∧cell≤268435456:=J;have hw:=mM _ hm;unfold pQ at hw;simp at hw;obtain⟨rfl,_,_,hf,hn⟩:=hw;have hs:=mG _ hm;generalize txt ⟨6,fn,copy,name,0,cell⟩=s at *;have hB:mZ ⟨6,fn,copy,name,0,cell⟩=37 :: (name.data.toList++cellL cell):=rfl;rw[oO,hB]at hs;obtain⟨e1,e2,e3⟩:=qE s fn copy _ hf Y.1 Y.2 (Or.inr (by rw[List.headD_cons];decide)) (Or.inr (by rw[List.headD_cons];decide)) hs;have hk:fF (bN s)=6:=by rw[lQ _ _ _ e3];rfl
 have ht:(bL (bN s)).data.toList=name.data.toList++cellL cell:=by rw[nU,e3];rfl
 obtain⟨m1,m2,m3⟩:=iO name hn;obtain⟨e4,e5⟩:=oZ _ _ _ ht (mF _ _ m1 m2 m3 (iD cell));unfold dV;rw[hk,if_neg (by decide),if_neg (by decide),if_pos rfl,e1,e2,eY e4,cell_of _ cell J.1 J.2 e5]
theorem aD5(fn:ByteArray)(copy:Int)(name:ByteArray)(n cell:Int)(Y:dY ⟨4,fn,copy,name,n,cell⟩=true):dV (txt ⟨4,fn,copy,name,n,cell⟩)=⟨4,fn,copy,name,n,cell⟩:=by
 obtain⟨J,a0,_⟩:=dS _ Y;have J:0≤copy∧copy≤268435456:=J;have hw:=mM _ Y;unfold pQ at hw;simp at hw;obtain⟨hn,rfl,rfl,_,_,hf,_⟩:=hw;obtain rfl:=iH (s:=name) (by rw[hn];rfl);have hs:=mG _ Y;generalize txt ⟨4,fn,copy,⟨#[]⟩,0,-1⟩=s at *;have hB:mZ ⟨4,fn,copy,⟨#[]⟩,0,-1⟩=[40,41]:=rfl;rw[oO,hB]at hs;obtain⟨e1,e2,e3⟩:=qE s fn copy _ hf J.1 J.2 (Or.inr (by rw[List.headD_cons];decide)) (Or.inr (by rw[List.headD_cons];decide)) hs;have hk:fF (bN s)=4:=by rw[lQ _ _ _ e3];rfl
 unfold dV;rw[hk,if_neg (by decide),if_neg (by decide),if_neg (by decide),if_pos rfl,e1,e2,cell_of ⟨#[]⟩ (-1) (by omega) (by omega) rfl]
theorem aEG(fn:ByteArray)(copy:Int)(name:ByteArray)(n cell:Int)(hm:dY ⟨5,fn,copy,name,n,cell⟩=true):dV (txt ⟨5,fn,copy,name,n,cell⟩)=⟨5,fn,copy,name,n,cell⟩:=by
 obtain⟨_,J,_⟩:=dS _ hm;have J:-1≤cell∧cell≤268435456:=J;have hw:=mM _ hm;unfold pQ at hw;simp at hw;obtain⟨hf,rfl,rfl,_,_,hn⟩:=hw;obtain rfl:=iH (s:=fn) (by rw[hf];rfl);have hs:=mG _ hm;generalize txt ⟨5,⟨#[]⟩,0,name,0,cell⟩=s at *;have a0:s.data.toList=name.data.toList++cellL cell:=hs;obtain⟨m1,m2,m3⟩:=iO name hn;obtain⟨e4,e5⟩:=oZ _ _ _ a0 (mF _ _ m1 m2 m3 (iD cell));have Y:(bK s).data.toList=[]∨(((bK s).data.toList.headD 0).toNat:Int)≠126:=by
  rw[e5];unfold cellL;by_cases h:cell=-1
  ·rw[if_pos h];exact Or.inl rfl
  ·rw[if_neg h];right;rw[List.headD_cons];decide
 have e6:kN s=0:=by unfold kN;rw[wQ _ _ _ Y]
 have e7:bN s=bK s:=by unfold bN;rw[wQ _ _ _ Y]
 have hk:fF (bK s)=5:=by
  by_cases h:cell=-1
  ·exact aFJ _ (by rw[e5];unfold cellL;rw[if_pos h])
  ·rw[lQ _ _ _ (by rw[e5];unfold cellL;rw[if_neg h])];rfl
 unfold dV;rw[e7,hk,if_pos rfl,e6,eY e4,cell_of _ cell J.1 J.2 e5]
theorem aDM(fn:ByteArray)(copy:Int)(name:ByteArray)(n cell:Int)(hm:dY ⟨2,fn,copy,name,n,cell⟩=true):dV (txt ⟨2,fn,copy,name,n,cell⟩)=⟨2,fn,copy,name,n,cell⟩:=by
 obtain⟨Y,J,_⟩:=dS _ hm;have Y:0≤copy∧copy≤268435456:=Y;have J:-1≤cell∧cell≤268435456:=J;have a0:0≤n∧n≤268435456:=aBn _ hm (by simp);have hw:=mM _ hm;unfold pQ at hw;simp at hw;have hn:=hw.1;have hf:dg.bZ fn=true:=by first | exact hw.2.2.2.2.1 | exact hw.2.2.2.1
 obtain rfl:=iH (s:=name) (by rw[hn];rfl);have hs:=mG _ hm;generalize txt ⟨2,fn,copy,⟨#[]⟩,n,cell⟩=s at *;have hB:mZ ⟨2,fn,copy,⟨#[]⟩,n,cell⟩=36 :: (Lib.itoa n++cellL cell):=rfl;rw[oO,hB]at hs;obtain⟨e1,e2,e3⟩:=qE s fn copy _ hf Y.1 Y.2 (Or.inr (by rw[List.headD_cons];decide)) (Or.inr (by rw[List.headD_cons];decide)) hs;have hk:fF (bN s)=2:=by rw[lQ _ _ _ e3];rfl
 have hh:bM (bN s)=36:=by unfold bM;rw[e3];rfl
 obtain⟨e4,e5⟩:=tL (bN s) 36 36 0 n (cellL cell) rfl a0.1 a0.2 (iD cell).dig e3;unfold dV;rw[hk,if_neg (by decide),if_neg (by decide),if_neg (by decide),if_neg (by decide),hh,e1,e2,e4,cell_of _ cell J.1 J.2 e5]
theorem aEx(fn:ByteArray)(copy:Int)(name:ByteArray)(n cell:Int)(hm:dY ⟨3,fn,copy,name,n,cell⟩=true):dV (txt ⟨3,fn,copy,name,n,cell⟩)=⟨3,fn,copy,name,n,cell⟩:=by
 obtain⟨Y,J,_⟩:=dS _ hm;have Y:0≤copy∧copy≤268435456:=Y;have J:-1≤cell∧cell≤268435456:=J;have a0:0≤n∧n≤268435456:=aBn _ hm (by simp);have hw:=mM _ hm;unfold pQ at hw;simp at hw;have hn:=hw.1;have hf:dg.bZ fn=true:=by first | exact hw.2.2.2.2.1 | exact hw.2.2.2.1
 obtain rfl:=iH (s:=name) (by rw[hn];rfl);have hs:=mG _ hm;generalize txt ⟨3,fn,copy,⟨#[]⟩,n,cell⟩=s at *;have hB:mZ ⟨3,fn,copy,⟨#[]⟩,n,cell⟩=64 :: (Lib.itoa n++cellL cell):=rfl;rw[oO,hB]at hs;obtain⟨e1,e2,e3⟩:=qE s fn copy _ hf Y.1 Y.2 (Or.inr (by rw[List.headD_cons];decide)) (Or.inr (by rw[List.headD_cons];decide)) hs;have hk:fF (bN s)=3:=by rw[lQ _ _ _ e3];rfl
 have hh:bM (bN s)=64:=by unfold bM;rw[e3];rfl
 obtain⟨e4,e5⟩:=tL (bN s) 64 64 0 n (cellL cell) rfl a0.1 a0.2 (iD cell).dig e3;unfold dV;rw[hk,if_neg (by decide),if_neg (by decide),if_neg (by decide),if_neg (by decide),hh,e1,e2,e4,cell_of _ cell J.1 J.2 e5]
theorem aDW(fn:ByteArray)(copy:Int)(name:ByteArray)(n cell:Int)(hm:dY ⟨7,fn,copy,name,n,cell⟩=true):dV (txt ⟨7,fn,copy,name,n,cell⟩)=⟨7,fn,copy,name,n,cell⟩:=by
 obtain⟨Y,J,_⟩:=dS _ hm;have Y:0≤copy∧copy≤268435456:=Y;have J:-1≤cell∧cell≤268435456:=J;have a0:0≤n∧n≤268435456:=aBn _ hm (by simp);have hw:=mM _ hm;unfold pQ at hw;simp at hw;have hn:=hw.1;have hf:dg.bZ fn=true:=by first | exact hw.2.2.2.2.1 | exact hw.2.2.2.1
 obtain rfl:=iH (s:=name) (by rw[hn];rfl);have hs:=mG _ hm;generalize txt ⟨7,fn,copy,⟨#[]⟩,n,cell⟩=s at *;have hB:mZ ⟨7,fn,copy,⟨#[]⟩,n,cell⟩=35 :: (Lib.itoa n++cellL cell):=rfl;rw[oO,hB]at hs;obtain⟨e1,e2,e3⟩:=qE s fn copy _ hf Y.1 Y.2 (Or.inr (by rw[List.headD_cons];decide)) (Or.inr (by rw[List.headD_cons];decide)) hs;have hk:fF (bN s)=7:=by rw[lQ _ _ _ e3];rfl
 have hh:bM (bN s)=35:=by unfold bM;rw[e3];rfl
 obtain⟨e4,e5⟩:=tL (bN s) 35 35 0 n (cellL cell) rfl a0.1 a0.2 (iD cell).dig e3;unfold dV;rw[hk,if_neg (by decide),if_neg (by decide),if_neg (by decide),if_neg (by decide),hh,e1,e2,e4,cell_of _ cell J.1 J.2 e5]
theorem aDu(d:Nd)(J:dY d=true):dV (txt d)=d:=by
 obtain⟨_,_,h1,Y⟩:=dS d J;obtain⟨kind,fn,copy,name,n,cell⟩:=d;have h1:1≤kind:=h1;have Y:kind≤7:=Y;rcases(by omega:kind=1∨kind=2∨kind=3∨kind=4∨kind=5∨kind=6∨kind=7)with rfl | rfl | rfl | rfl | rfl | rfl | rfl
 ·exact aEz _ _ _ _ _ J
 ·exact aDM _ _ _ _ _ J
 ·exact aEx _ _ _ _ _ J
 ·exact aD5 _ _ _ _ _ J
 ·exact aEG _ _ _ _ _ J
 ·exact aEu _ _ _ _ _ J
 ·exact aDW _ _ _ _ _ J
theorem aF6(d:Nd)(J:dY d=true):eU (txt d)=true:=by
 unfold eU;rw[aDu d J,J];simp
theorem aIj(s:ByteArray)(h:eU s=true):txt (dV s)=s:=by
 unfold eU at h;rw[Bool.and_eq_true]at h;have:=beq_iff_eq.1 h.2;rw[ByteArray.toList_eq,ByteArray.toList_eq]at this;exact eY this
def pC(r:ByteArray):Int×ByteArray:=if r.size=0∨bM r≠126 then(0,r) else((dg.rd (fn0 (bL r))).1,bK (bL r))
def sQ:ByteArray:=⟨#[41]⟩
def pM(r:ByteArray):ByteArray×ByteArray×ByteArray:=
 if r.size=0∨bM r=43 then(⟨#[]⟩,⟨#[]⟩,r)
 else(r.extract 0 1,fn0 (bL r),if bM r=40∧bK (bL r)=sQ then⟨#[]⟩ else bK (bL r))
def pL(r:ByteArray):Int:=if r.size=0∨bM r≠43 then -1 else(dg.rd (bL r)).1
def iQ(s:ByteArray):Int:=(pC (bK s)).1
def jY(s:ByteArray):ByteArray:=(pM (pC (bK s)).2).1
def iU(s:ByteArray):ByteArray:=(pM (pC (bK s)).2).2.1
def kW(s:ByteArray):Int:=pL (pM (pC (bK s)).2).2.2
def uB(s:ByteArray):Int:=(dg.rd (iU s)).1
def iM(s:ByteArray)(k:Nat):Nd:=
 if k=0 then⟨1,fn0 s,iQ s,iU s,0,-1⟩
 else if k=1 then⟨2,fn0 s,iQ s,⟨#[]⟩,uB s,-1⟩
 else if k=2 then⟨3,fn0 s,iQ s,⟨#[]⟩,uB s,-1⟩
 else if k=3 then⟨4,fn0 s,iQ s,⟨#[]⟩,0,-1⟩
 else if k=4 then⟨5,⟨#[]⟩,0,fn0 s,0,kW s⟩
 else if k=5 then⟨6,fn0 s,iQ s,iU s,0,kW s⟩
 else⟨7,fn0 s,iQ s,⟨#[]⟩,uB s,kW s⟩
def isB(s:ByteArray)(d:Nd):Bool:=dY d&&((txt d).toList==s.toList&&(!(jY s).toList.isEmpty||d.kind==5))
theorem aHh(s:ByteArray)(d:Nd)(h:isB s d=true):eU s=true∧dV s=d:=by
 unfold isB at h;simp only[Bool.and_eq_true,beq_iff_eq]at h;have e:txt d=s:=by
  have:=h.2.1;rw[ByteArray.toList_eq,ByteArray.toList_eq]at this;exact eY this
 rw[←e];exact⟨aF6 d h.1,aDu d h.1⟩
theorem zZ{s:ByteArray}{m:UInt8}{r:List UInt8}(h:s.data.toList=m :: r):bM s=(m.toNat:Int)∧s.size≠0:=by
 have hl:=dg.cZ s;rw[h,aG]at hl;exact⟨by unfold bM;rw[h,List.headD_cons],by omega⟩
theorem aKS(r:ByteArray)(copy:Int)(t:List UInt8)(h0:0≤copy)(h1:copy≤268435456)(Y:yP t)(J:t=[]∨((t.headD 0).toNat:Int)≠126)(h:r.data.toList=gB copy++t):(pC r).1=copy∧(pC r).2.data.toList=t:=by
 unfold gB at h;by_cases hc:0<copy
 ·rw[if_pos hc]at h
  obtain⟨hh,hz⟩:=zZ h;have e1:(bL r).data.toList=Lib.itoa copy++t:=by rw[nU,h];rfl
  obtain⟨e2,e3⟩:=oZ _ _ _ e1 (wV copy h0 t Y.dig);unfold pC;rw[if_neg (by rintro(g | g);exact hz g;exact g hh),vD copy h0 h1 _ e2];exact⟨rfl,e3⟩
 ·rw[if_neg hc]at h
  have h:r.data.toList=t:=h;unfold pC;rw[if_pos]
  ·exact⟨by show(0:Int)=copy;omega,h⟩
  ·rcases J with g | g
   ·left;rw[←dg.cZ,h,g];rfl
   ·right;unfold bM;rw[h];exact g
theorem aIa(r:ByteArray)(c:Int)(h0:-1≤c)(h1:c≤268435456)(h:r.data.toList=cellL c):pL r=c:=by
 unfold cellL at h;unfold pL;by_cases hc:c=-1
 ·rw[if_pos hc]at h
  rw[if_pos (Or.inl (by rw[←dg.cZ,h];rfl)),hc]
 ·rw[if_neg hc]at h
  obtain⟨Y,J⟩:=zZ h;rw[if_neg (by rintro(g | g);exact J g;exact g Y),vD c (by omega) h1 _ (by rw[nU,h];rfl)]
theorem aC4(r:ByteArray)(m:UInt8)(a t:List UInt8)(Y:(m.toNat:Int)≠43)(J:(m.toNat:Int)≠40)(hs:aA1 (a++t)=a.length)(h:r.data.toList=m :: (a++t)) :
 (pM r).1.data.toList=[m]∧(pM r).2.1.data.toList=a∧(pM r).2.2.data.toList=t:=by
 obtain⟨hh,hz⟩:=zZ h;have e1:(bL r).data.toList=a++t:=by rw[nU,h];rfl
 obtain⟨e2,e3⟩:=oZ _ _ _ e1 hs;unfold pM;rw[if_neg (by rintro(g | g);exact hz g;exact Y (hh ▸ g)),if_neg (by rintro⟨g,_⟩;exact J (hh ▸ g))];exact⟨by rw[gF,h];rfl,e2,e3⟩
theorem iY{s:ByteArray}{m:UInt8}{r:List UInt8}(h:s.data.toList=m :: r):s.toList.isEmpty=false:=by
 rw[ByteArray.toList_eq,h];rfl
theorem aLj(s:ByteArray)(d:Nd)(hm:dY d=true)(Y:txt d=s)(J:(jY s).toList.isEmpty=false∨d.kind=5):isB s d=true:=by
 unfold isB;rw[hm,Y];rcases J with h | h <;> simp[h]
theorem aMh(d:Nd)(hm:dY d=true):iM (txt d) (d.kind.toNat-1)=d∧isB (txt d) d=true:=by
 obtain⟨a1,a0,h1,h7⟩:=dS d hm;have Y:=mM d hm;have hN:=aBn d hm;have hs:=mG d hm;have hB:=aLj (txt d) d hm rfl;generalize txt d=s at *;rw[oO]at hs;obtain⟨kind,fn,copy,name,n,cell⟩:=d;have h1:1≤kind:=h1;have h7:kind≤7:=h7;have a1:0≤copy∧copy≤268435456:=a1;have a0:-1≤cell∧cell≤268435456:=a0;have hN:kind=2∨kind=3∨kind=7→0≤n∧n≤268435456:=hN;have hB:(jY s).toList.isEmpty=false∨kind=5→isB s ⟨kind,fn,copy,name,n,cell⟩=true:=hB;have hs:s.data.toList=fn.data.toList++(gB copy++mZ ⟨kind,fn,copy,name,n,cell⟩):=hs;have Y:pQ kind copy n cell fn.toList.isEmpty (dg.bZ fn) name.toList.isEmpty (dg.bZ name)=true:=Y;clear hm;have key:∀(m:UInt8) (a t:List UInt8),kind≠5→dg.bZ fn=true→mZ ⟨kind,fn,copy,name,n,cell⟩=m :: (a++t)→dg.xU (m.toNat:Int)=false→(m.toNat:Int)≠126 →
  fn0 s=fn∧iQ s=copy∧(pC (bK s)).2.data.toList=m :: (a++t):=by
  intro m a t _ hf hb h2 h3;rw[hb]at hs;obtain⟨n1,n2,n3⟩:=iO fn hf;have a2:yP (m :: (a++t)):=Or.inr (by rw[List.headD_cons];exact h2);have hx:(m :: (a++t))=[]∨(((m :: (a++t)).headD 0).toNat:Int)≠126:=Or.inr (by rw[List.headD_cons];exact h3);have a4:yP (gB copy++(m :: (a++t))):=by
   unfold gB;by_cases hc:0<copy
   ·rw[if_pos hc];right;show dg.xU (((126:UInt8).toNat:Int))=false;decide
   ·rw[if_neg hc];exact a2
  obtain⟨e1,e2⟩:=oZ s _ _ hs (mF _ _ n1 n2 n3 a4);obtain⟨e3,e4⟩:=aKS (bK s) copy _ a1.1 a1.2 a2 hx e2;exact⟨eY e1,e3,e4⟩
 rcases(by omega:kind=1∨kind=2∨kind=3∨kind=4∨kind=5∨kind=6∨kind=7)with rfl | rfl | rfl | rfl | rfl | rfl | rfl
 ·unfold pQ at Y
  simp at Y;obtain⟨rfl,rfl,_,_,hf,hn⟩:=Y;obtain⟨e1,e2,e3⟩:=key 46 name.data.toList [] (by decide) hf rfl (by decide) (by decide);obtain⟨m1,m2,m3⟩:=iO name hn;obtain⟨e4,e5,e6⟩:=aC4 _ 46 _ _ (by decide) (by decide) (mF _ _ m1 m2 m3 (Or.inl rfl)) e3;refine⟨?_,hB (Or.inl (by unfold jY;exact iY e4))⟩;show(⟨1,fn0 s,iQ s,iU s,0,-1⟩:Nd)=_;rw[e1,e2,show iU s=name by unfold iU;exact eY e5]
 ·have J:=hN (by simp)
  unfold pQ at Y;simp at Y;obtain⟨hn,rfl,_,_,hf,_⟩:=Y;obtain rfl:=iH (s:=name) (by rw[hn];rfl);obtain⟨e1,e2,e3⟩:=key 36 (Lib.itoa n) [] (by decide) hf rfl (by decide) (by decide);obtain⟨e4,e5,e6⟩:=aC4 _ 36 _ _ (by decide) (by decide) (wV n J.1 [] (Or.inl rfl)) e3;refine⟨?_,hB (Or.inl (by unfold jY;exact iY e4))⟩;show(⟨2,fn0 s,iQ s,⟨#[]⟩,uB s,-1⟩:Nd)=_;rw[e1,e2,show uB s=n by unfold uB iU;rw[vD n J.1 J.2 _ e5]]
 ·have J:=hN (by simp)
  unfold pQ at Y;simp at Y;obtain⟨hn,rfl,_,_,hf,_⟩:=Y;obtain rfl:=iH (s:=name) (by rw[hn];rfl);obtain⟨e1,e2,e3⟩:=key 64 (Lib.itoa n) [] (by decide) hf rfl (by decide) (by decide);obtain⟨e4,e5,e6⟩:=aC4 _ 64 _ _ (by decide) (by decide) (wV n J.1 [] (Or.inl rfl)) e3;refine⟨?_,hB (Or.inl (by unfold jY;exact iY e4))⟩;show(⟨3,fn0 s,iQ s,⟨#[]⟩,uB s,-1⟩:Nd)=_;rw[e1,e2,show uB s=n by unfold uB iU;rw[vD n J.1 J.2 _ e5]]
 ·unfold pQ at Y
  simp at Y;obtain⟨hn,rfl,rfl,_,_,hf,_⟩:=Y;obtain rfl:=iH (s:=name) (by rw[hn];rfl);obtain⟨e1,e2,e3⟩:=key 40 [] [41] (by decide) hf rfl (by decide) (by decide);obtain⟨hh,hz⟩:=zZ e3;refine⟨?_,hB (Or.inl ?_)⟩
  ·show(⟨4,fn0 s,iQ s,⟨#[]⟩,0,-1⟩:Nd)=_
   rw[e1,e2]
  ·apply iY (m:=40) (r:=[])
   unfold jY pM;rw[if_neg (by rintro(g | g);exact hz g;rw[hh]at g;revert g;decide)];rw[gF,e3];rfl
 ·unfold pQ at Y
  simp at Y;obtain⟨hf,rfl,rfl,_,_,hn⟩:=Y;obtain rfl:=iH (s:=fn) (by rw[hf];rfl);have a5:s.data.toList=name.data.toList++cellL cell:=hs;obtain⟨m1,m2,m3⟩:=iO name hn;obtain⟨e4,e5⟩:=oZ _ _ _ a5 (mF _ _ m1 m2 m3 (iD cell));refine⟨?_,hB (Or.inr rfl)⟩;show(⟨5,⟨#[]⟩,0,fn0 s,0,kW s⟩:Nd)=_;have a3:cellL cell=[]∨(((cellL cell).headD 0).toNat:Int)≠126:=by
   unfold cellL;by_cases h:cell=-1
   ·rw[if_pos h];exact Or.inl rfl
   ·rw[if_neg h];right;rw[List.headD_cons];decide
  obtain⟨_,e6⟩:=aKS (bK s) 0 (cellL cell) (by omega) (by omega) (iD cell) a3 e5;have e7:(pM (pC (bK s)).2).2.2=(pC (bK s)).2:=by
   unfold pM;rw[if_pos];by_cases h:cell=-1
   ·left;rw[←dg.cZ,e6];unfold cellL;rw[if_pos h];rfl
   ·right;unfold bM;rw[e6];unfold cellL;rw[if_neg h];rfl
  rw[eY e4,show kW s=cell by unfold kW;rw[e7];exact aIa _ cell a0.1 a0.2 e6]
 ·unfold pQ at Y
  simp at Y;obtain⟨rfl,_,_,hf,hn⟩:=Y;obtain⟨e1,e2,e3⟩:=key 37 name.data.toList (cellL cell) (by decide) hf rfl (by decide) (by decide);obtain⟨m1,m2,m3⟩:=iO name hn;obtain⟨e4,e5,e6⟩:=aC4 _ 37 _ _ (by decide) (by decide) (mF _ _ m1 m2 m3 (iD cell)) e3;refine⟨?_,hB (Or.inl (by unfold jY;exact iY e4))⟩;show(⟨6,fn0 s,iQ s,iU s,0,kW s⟩:Nd)=_;rw[e1,e2,show iU s=name by unfold iU;exact eY e5,show kW s=cell by unfold kW;exact aIa _ cell a0.1 a0.2 e6]
 ·have J:=hN (by simp)
  unfold pQ at Y;simp at Y;obtain⟨hn,_,_,hf,_⟩:=Y;obtain rfl:=iH (s:=name) (by rw[hn];rfl);obtain⟨e1,e2,e3⟩:=key 35 (Lib.itoa n) (cellL cell) (by decide) hf rfl (by decide) (by decide);obtain⟨e4,e5,e6⟩:=aC4 _ 35 _ _ (by decide) (by decide) (wV n J.1 _ (iD cell).dig) e3;refine⟨?_,hB (Or.inl (by unfold jY;exact iY e4))⟩;show(⟨7,fn0 s,iQ s,⟨#[]⟩,uB s,kW s⟩:Nd)=_;rw[e1,e2,show uB s=n by unfold uB iU;rw[vD n J.1 J.2 _ e5],show kW s=cell by unfold kW;exact aIa _ cell a0.1 a0.2 e6]
theorem aJL(s:ByteArray)(h:∀k,k<7→isB s (iM s k)=false):eU s=false:=by
 rcases hr:eU s with _ | _
 ·rfl
 ·exfalso
  have J:dY (dV s)=true:=by unfold eU at hr;rw[Bool.and_eq_true]at hr;exact hr.1
  obtain⟨_,_,h1,h7⟩:=dS _ J;obtain⟨Y,e2⟩:=aMh _ J;rw[aIj s hr]at Y e2;have:=h ((dV s).kind.toNat-1) (by omega);rw[Y,e2]at this;cases this
theorem xO(d:Nd)(w:World)(Y:d.name.size≤maxLen)(J:d.fn.size≤maxLen):Calls Tryz.prog 196 #[d.val] w (dA (dY d) w):=by
 rw[←aGO d];exact aGP d w Y J
theorem oD(x:Int)(h0:0≤x)(J:x≤268435456):∃T:ByteArray,T.data.toList=Lib.itoa x∧T.size≤20∧∀w,Calls Tryz.prog 197 #[.int .i64 x] w fun e w'=>e=.returned (.string T)∧Below w.heap.size w w':=
 ⟨⟨(Lib.itoa x).toArray⟩,rfl,by rw[aFd];exact aDb x h0 J,fun w=>dt.xZ x w (by omega) (by omega)⟩
theorem aMH{fn:ByteArray}{copy:Int}{name:ByteArray}{n cell:Int}(J:dY ⟨5,fn,copy,name,n,cell⟩=true):fn.data.toList=[]∧copy=0:=by
 rw[aBJ _ (by show(1:Int)≤5;omega) (by show(5:Int)≤7;omega)]at J;unfold pQ at J;simp only[Bool.and_eq_true,beq_iff_eq,if_true]at J;have h1:=J.1;have Y:=J.2.1;refine⟨?_,Y⟩;have hz:=xR fn (List.isEmpty_iff.1 h1);have:fn.data.toList.length=0:=by simpa using hz
 exact List.length_eq_zero_iff.1 this
theorem aBZ(kind:Int)(hq:kind=1∨kind=4∨kind=6)(fn:ByteArray)(copy:Int)(name:ByteArray)(n cell:Int)(w:World)(hm:dY ⟨kind,fn,copy,name,n,cell⟩=true)  :
 Calls Tryz.prog 169 #[Nd.val ⟨kind,fn,copy,name,n,cell⟩] w (dD ⟨kind,fn,copy,name,n,cell⟩ w):=by
 obtain⟨aj,af⟩:=qV _ hm;obtain⟨ai,ae,_⟩:=dS _ hm;have au:fn.size≤16:=aj;have ar:name.size≤16:=af;have ad:0≤copy∧copy≤268435456:=ai;have ag:-1≤cell∧cell≤268435456:=ae;clear aj af ai ae
 have a1:Hid (∀w,Calls Tryz.prog 196 #[.agg #[.int .i64 kind,.string fn,.int .i64 copy,.string name,.int .i64 n,.int .i64 cell]] w fun e w'=>e=.returned (.bool true)∧Below w.heap.size w w'):=hid (fun w=>by
  have:=xO ⟨kind,fn,copy,name,n,cell⟩ w (by show name.size≤maxLen;unfold maxLen;omega) (by show fn.size≤maxLen;unfold maxLen;omega);rw[hm]at this
  exact this)
 have Hm:=hid hm;clear hm;obtain⟨Tc,a7,av,a9⟩:=oD copy ad.1 ad.2;have a7:=hid a7;have a9:=hid a9;have a2:Hid (pI ⟨kind,fn,copy,name,n,cell⟩ w.heap.size (w.alloc (.cells #[.int .i64 kind,.string fn,.int .i64 copy,.string name,.int .i64 n,.int .i64 cell] 163))):=hid (pI.new ⟨kind,fn,copy,name,n,cell⟩ w _);have a8:Below w.heap.size w (w.alloc (.cells #[.int .i64 kind,.string fn,.int .i64 copy,.string name,.int .i64 n,.int .i64 cell] 163)):=(Below.refl _ _).alloc (aY _) _;rcases hq with rfl | rfl | rfl
 all_goals
  unfold Nd.val Nd.cells;by_cases hl:cell=-1
  ·have ap:decide (0≤cell)=false:=by rw[hl];rfl
   have ah:¬0≤cell:=by omega
   have ao:decide (cell<0)=true:=by rw[hl];rfl
   have Hl:=hid hl;clear hl;by_cases a5:0<copy
   ·have Y:=hid a5
    go_enter Tryz.func169,Tryz.ntmps169;go_wp2_with fail;refine(a1.out _).mono ?_;rintro e w1 ⟨rfl,b1⟩;have J:=hid (a2.out.on b1);have a0:=bT a8 b1;obtain⟨k0,k1,k2,k3,k4,k5⟩:=J.out;clear b1;go_wp2_with fail;refine(a9.out _).mono ?_;rintro e w2 ⟨rfl,b2⟩;have a3:=hid (J.out.on b2);have a4:=bT a0 b2;clear k0 k1 k2 k3 k4 k5 b2;obtain⟨k0,k1,k2,k3,k4,k5⟩:=a3.out;go_wp2_with fail;go_ret2;refine dN Hm.out ?_ a4;unfold jF gB cellL;rw[if_pos Y.out,if_pos Hl.out];simp[kI,kG,a7.out]
   ·have Y:=hid a5
    go_enter Tryz.func169,Tryz.ntmps169;go_wp2_with fail;refine(a1.out _).mono ?_;rintro e w1 ⟨rfl,b1⟩;have J:=hid (a2.out.on b1);have a0:=bT a8 b1;obtain⟨k0,k1,k2,k3,k4,k5⟩:=J.out;clear b1;go_wp2_with fail;go_ret2;refine dN Hm.out ?_ a0;unfold jF gB cellL;rw[if_neg (show ¬0<copy by have:=Y.out;omega),if_pos Hl.out];simp[kI,kG]
  ·have ah:0≤cell:=by omega
   have ap:decide (0≤cell)=true:=aC ah;have ao:decide (cell<0)=false:=aB (by omega);obtain⟨Tl,a6,aw,aa⟩:=oD cell (by omega) ag.2;have a6:=hid a6;have aa:=hid aa;have Hl:=hid hl;clear hl;by_cases a5:0<copy
   ·have Y:=hid a5
    go_enter Tryz.func169,Tryz.ntmps169;go_wp2_with fail;refine(a1.out _).mono ?_;rintro e w1 ⟨rfl,b1⟩;have J:=hid (a2.out.on b1);have a0:=bT a8 b1;obtain⟨k0,k1,k2,k3,k4,k5⟩:=J.out;clear b1;go_wp2_with fail;refine(a9.out _).mono ?_;rintro e w2 ⟨rfl,b2⟩;have a3:=hid (J.out.on b2);have a4:=bT a0 b2;clear k0 k1 k2 k3 k4 k5 b2;obtain⟨k0,k1,k2,k3,k4,k5⟩:=a3.out;go_wp2_with fail;refine(aa.out _).mono ?_;rintro e w3 ⟨rfl,b3⟩;have ak:=hid (a3.out.on b3);have am:=bT a4 b3;clear k0 k1 k2 k3 k4 k5 b3;obtain⟨k0,k1,k2,k3,k4,k5⟩:=ak.out;go_wp2_with fail;go_ret2;refine dN Hm.out ?_ am;unfold jF gB cellL;rw[if_pos Y.out,if_neg Hl.out];simp[kI,kG,a7.out,a6.out]
   ·have Y:=hid a5
    go_enter Tryz.func169,Tryz.ntmps169;go_wp2_with fail;refine(a1.out _).mono ?_;rintro e w1 ⟨rfl,b1⟩;have J:=hid (a2.out.on b1);have a0:=bT a8 b1;obtain⟨k0,k1,k2,k3,k4,k5⟩:=J.out;clear b1;go_wp2_with fail;refine(aa.out _).mono ?_;rintro e w2 ⟨rfl,b2⟩;have a3:=hid (J.out.on b2);have a4:=bT a0 b2;clear k0 k1 k2 k3 k4 k5 b2;obtain⟨k0,k1,k2,k3,k4,k5⟩:=a3.out;go_wp2_with fail;go_ret2;refine dN Hm.out ?_ a4;unfold jF gB cellL;rw[if_neg (show ¬0<copy by have:=Y.out;omega),if_neg Hl.out];simp[kI,kG,a6.out]
theorem aJ8(fn:ByteArray)(copy:Int)(name:ByteArray)(n cell:Int)(w:World)(J:dY ⟨1,fn,copy,name,n,cell⟩=true)  :
 Calls Tryz.prog 169 #[Nd.val ⟨1,fn,copy,name,n,cell⟩] w (dD ⟨1,fn,copy,name,n,cell⟩ w):=
 aBZ 1 (by simp) fn copy name n cell w J
theorem aJP(fn:ByteArray)(copy:Int)(name:ByteArray)(n cell:Int)(w:World)(J:dY ⟨4,fn,copy,name,n,cell⟩=true)  :
 Calls Tryz.prog 169 #[Nd.val ⟨4,fn,copy,name,n,cell⟩] w (dD ⟨4,fn,copy,name,n,cell⟩ w):=
 aBZ 4 (by simp) fn copy name n cell w J
theorem aJ5(fn:ByteArray)(copy:Int)(name:ByteArray)(n cell:Int)(w:World)(J:dY ⟨6,fn,copy,name,n,cell⟩=true)  :
 Calls Tryz.prog 169 #[Nd.val ⟨6,fn,copy,name,n,cell⟩] w (dD ⟨6,fn,copy,name,n,cell⟩ w):=
 aBZ 6 (by simp) fn copy name n cell w J
theorem aB0(kind:Int)(hq:kind=2∨kind=3∨kind=7)(fn:ByteArray)(copy:Int)(name:ByteArray)(n cell:Int)(w:World)(hm:dY ⟨kind,fn,copy,name,n,cell⟩=true)  :
 Calls Tryz.prog 169 #[Nd.val ⟨kind,fn,copy,name,n,cell⟩] w (dD ⟨kind,fn,copy,name,n,cell⟩ w):=by
 obtain⟨ap,aj⟩:=qV _ hm;obtain⟨ao,ai,_⟩:=dS _ hm;have ar:0≤n∧n≤268435456:=aBn _ hm hq;have az:fn.size≤16:=ap;have ay:name.size≤16:=aj;have ah:0≤copy∧copy≤268435456:=ao;have ak:-1≤cell∧cell≤268435456:=ai;clear ap aj ao ai
 have a3:Hid (∀w,Calls Tryz.prog 196 #[.agg #[.int .i64 kind,.string fn,.int .i64 copy,.string name,.int .i64 n,.int .i64 cell]] w fun e w'=>e=.returned (.bool true)∧Below w.heap.size w w'):=hid (fun w=>by
  have:=xO ⟨kind,fn,copy,name,n,cell⟩ w (by show name.size≤maxLen;unfold maxLen;omega) (by show fn.size≤maxLen;unfold maxLen;omega);rw[hm]at this
  exact this)
 have Hm:=hid hm;clear hm;obtain⟨Tc,ad,b6,af⟩:=oD copy ah.1 ah.2;have ad:=hid ad;have af:=hid af;obtain⟨Tn,a6,b5,a7⟩:=oD n ar.1 ar.2;have a6:=hid a6;have a7:=hid a7;have a4:Hid (pI ⟨kind,fn,copy,name,n,cell⟩ w.heap.size (w.alloc (.cells #[.int .i64 kind,.string fn,.int .i64 copy,.string name,.int .i64 n,.int .i64 cell] 163))):=hid (pI.new ⟨kind,fn,copy,name,n,cell⟩ w _);have ae:Below w.heap.size w (w.alloc (.cells #[.int .i64 kind,.string fn,.int .i64 copy,.string name,.int .i64 n,.int .i64 cell] 163)):=(Below.refl _ _).alloc (aY _) _;rcases hq with rfl | rfl | rfl
 all_goals
  unfold Nd.val Nd.cells;by_cases hl:cell=-1
  ·have aw:decide (0≤cell)=false:=by rw[hl];rfl
   have am:¬0≤cell:=by omega
   have au:decide (cell<0)=true:=by rw[hl];rfl
   have Hl:=hid hl;clear hl;by_cases a9:0<copy
   ·have a0:=hid a9
    go_enter Tryz.func169,Tryz.ntmps169;go_wp2_with fail;refine(a3.out _).mono ?_;rintro e w1 ⟨rfl,b1⟩;have J:=hid (a4.out.on b1);have a2:=bT ae b1;obtain⟨k0,k1,k2,k3,k4,k5⟩:=J.out;clear b1;go_wp2_with fail;refine(af.out _).mono ?_;rintro e w2 ⟨rfl,b2⟩;have Y:=hid (J.out.on b2);have a1:=bT a2 b2;clear k0 k1 k2 k3 k4 k5 b2;obtain⟨k0,k1,k2,k3,k4,k5⟩:=Y.out;go_wp2_with fail;refine(a7.out _).mono ?_;rintro e w3 ⟨rfl,b3⟩;have a5:=hid (Y.out.on b3);have a8:=bT a1 b3;clear k0 k1 k2 k3 k4 k5 b3;obtain⟨k0,k1,k2,k3,k4,k5⟩:=a5.out;go_wp2_with fail;go_ret2;refine dN Hm.out ?_ a8;unfold jF gB cellL;rw[if_pos a0.out,if_pos Hl.out];simp[kI,kG,ad.out,a6.out]
   ·have a0:=hid a9
    go_enter Tryz.func169,Tryz.ntmps169;go_wp2_with fail;refine(a3.out _).mono ?_;rintro e w1 ⟨rfl,b1⟩;have J:=hid (a4.out.on b1);have a2:=bT ae b1;obtain⟨k0,k1,k2,k3,k4,k5⟩:=J.out;clear b1;go_wp2_with fail;refine(a7.out _).mono ?_;rintro e w2 ⟨rfl,b2⟩;have Y:=hid (J.out.on b2);have a1:=bT a2 b2;clear k0 k1 k2 k3 k4 k5 b2;obtain⟨k0,k1,k2,k3,k4,k5⟩:=Y.out;go_wp2_with fail;go_ret2;refine dN Hm.out ?_ a1;unfold jF gB cellL;rw[if_neg (show ¬0<copy by have:=a0.out;omega),if_pos Hl.out];simp[kI,kG,a6.out]
  ·have am:0≤cell:=by omega
   have aw:decide (0≤cell)=true:=aC am;have au:decide (cell<0)=false:=aB (by omega);obtain⟨Tl,aa,b7,ag⟩:=oD cell (by omega) ak.2;have aa:=hid aa;have ag:=hid ag;have Hl:=hid hl;clear hl;by_cases a9:0<copy
   ·have a0:=hid a9
    go_enter Tryz.func169,Tryz.ntmps169;go_wp2_with fail;refine(a3.out _).mono ?_;rintro e w1 ⟨rfl,b1⟩;have J:=hid (a4.out.on b1);have a2:=bT ae b1;obtain⟨k0,k1,k2,k3,k4,k5⟩:=J.out;clear b1;go_wp2_with fail;refine(af.out _).mono ?_;rintro e w2 ⟨rfl,b2⟩;have Y:=hid (J.out.on b2);have a1:=bT a2 b2;clear k0 k1 k2 k3 k4 k5 b2;obtain⟨k0,k1,k2,k3,k4,k5⟩:=Y.out;go_wp2_with fail;refine(a7.out _).mono ?_;rintro e w3 ⟨rfl,b3⟩;have a5:=hid (Y.out.on b3);have a8:=bT a1 b3;clear k0 k1 k2 k3 k4 k5 b3;obtain⟨k0,k1,k2,k3,k4,k5⟩:=a5.out;go_wp2_with fail;refine(ag.out _).mono ?_;rintro e w4 ⟨rfl,b4⟩;have av:=hid (a5.out.on b4);have ax:=bT a8 b4;clear k0 k1 k2 k3 k4 k5 b4;obtain⟨k0,k1,k2,k3,k4,k5⟩:=av.out;go_wp2_with fail;go_ret2;refine dN Hm.out ?_ ax;unfold jF gB cellL;rw[if_pos a0.out,if_neg Hl.out];simp[kI,kG,ad.out,a6.out,aa.out]
   ·have a0:=hid a9
    go_enter Tryz.func169,Tryz.ntmps169;go_wp2_with fail;refine(a3.out _).mono ?_;rintro e w1 ⟨rfl,b1⟩;have J:=hid (a4.out.on b1);have a2:=bT ae b1;obtain⟨k0,k1,k2,k3,k4,k5⟩:=J.out;clear b1;go_wp2_with fail;refine(a7.out _).mono ?_;rintro e w2 ⟨rfl,b2⟩;have Y:=hid (J.out.on b2);have a1:=bT a2 b2;clear k0 k1 k2 k3 k4 k5 b2;obtain⟨k0,k1,k2,k3,k4,k5⟩:=Y.out;go_wp2_with fail;refine(ag.out _).mono ?_;rintro e w3 ⟨rfl,b3⟩;have a5:=hid (Y.out.on b3);have a8:=bT a1 b3;clear k0 k1 k2 k3 k4 k5 b3;obtain⟨k0,k1,k2,k3,k4,k5⟩:=a5.out;go_wp2_with fail;go_ret2;refine dN Hm.out ?_ a8;unfold jF gB cellL;rw[if_neg (show ¬0<copy by have:=a0.out;omega),if_neg Hl.out];simp[kI,kG,a6.out,aa.out]
theorem aJk(fn:ByteArray)(copy:Int)(name:ByteArray)(n cell:Int)(w:World)(J:dY ⟨2,fn,copy,name,n,cell⟩=true)  :
 Calls Tryz.prog 169 #[Nd.val ⟨2,fn,copy,name,n,cell⟩] w (dD ⟨2,fn,copy,name,n,cell⟩ w):=
 aB0 2 (by simp) fn copy name n cell w J
theorem aKx(fn:ByteArray)(copy:Int)(name:ByteArray)(n cell:Int)(w:World)(J:dY ⟨3,fn,copy,name,n,cell⟩=true)  :
 Calls Tryz.prog 169 #[Nd.val ⟨3,fn,copy,name,n,cell⟩] w (dD ⟨3,fn,copy,name,n,cell⟩ w):=
 aB0 3 (by simp) fn copy name n cell w J
theorem aJt(fn:ByteArray)(copy:Int)(name:ByteArray)(n cell:Int)(w:World)(J:dY ⟨7,fn,copy,name,n,cell⟩=true)  :
 Calls Tryz.prog 169 #[Nd.val ⟨7,fn,copy,name,n,cell⟩] w (dD ⟨7,fn,copy,name,n,cell⟩ w):=
 aB0 7 (by simp) fn copy name n cell w J
theorem aJT(fn:ByteArray)(copy:Int)(name:ByteArray)(n cell:Int)(w:World)(hm:dY ⟨5,fn,copy,name,n,cell⟩=true)  :
 Calls Tryz.prog 169 #[Nd.val ⟨5,fn,copy,name,n,cell⟩] w (dD ⟨5,fn,copy,name,n,cell⟩ w):=by
 obtain⟨am,ae⟩:=qV _ hm;obtain⟨aj,a8,_⟩:=dS _ hm;have aw:fn.size≤16:=am;have av:name.size≤16:=ae;have a2:0≤copy∧copy≤268435456:=aj;have ag:-1≤cell∧cell≤268435456:=a8;clear am ae aj a8
 have a1:Hid (∀w,Calls Tryz.prog 196 #[.agg #[.int .i64 5,.string fn,.int .i64 copy,.string name,.int .i64 n,.int .i64 cell]] w fun e w'=>e=.returned (.bool true)∧Below w.heap.size w w'):=hid (fun w=>by
  have:=xO ⟨5,fn,copy,name,n,cell⟩ w (by show name.size≤maxLen;unfold maxLen;omega) (by show fn.size≤maxLen;unfold maxLen;omega);rw[hm]at this
  exact this)
 obtain⟨af,a4⟩:=aMH hm;have a9:=hid a4;have ai:=hid af;clear af a4;have Hm:=hid hm;clear hm;obtain⟨Tc,aa,ax,ak⟩:=oD copy a2.1 a2.2;have aa:=hid aa;have ak:=hid ak;have a3:Hid (pI ⟨5,fn,copy,name,n,cell⟩ w.heap.size (w.alloc (.cells #[.int .i64 5,.string fn,.int .i64 copy,.string name,.int .i64 n,.int .i64 cell] 163))):=hid (pI.new ⟨5,fn,copy,name,n,cell⟩ w _);have ad:Below w.heap.size w (w.alloc (.cells #[.int .i64 5,.string fn,.int .i64 copy,.string name,.int .i64 n,.int .i64 cell] 163)):=(Below.refl _ _).alloc (aY _) _;unfold Nd.val Nd.cells;by_cases hl:cell=-1
 ·have au:decide (0≤cell)=false:=by rw[hl];rfl
  have ah:¬0≤cell:=by omega
  have ao:decide (cell<0)=true:=by rw[hl];rfl
  have Hl:=hid hl;clear hl;by_cases Y:0<copy
  ·have J:=hid Y
   exact absurd J.out (by have:=a9.out;omega)
  ·have J:=hid Y
   go_enter Tryz.func169,Tryz.ntmps169;go_wp2_with fail;refine(a1.out _).mono ?_;rintro e w1 ⟨rfl,b1⟩;have a0:=hid (a3.out.on b1);have a7:=bT ad b1;obtain⟨k0,k1,k2,k3,k4,k5⟩:=a0.out;clear b1;go_wp2_with fail;go_ret2;refine dN Hm.out ?_ a7;unfold jF gB cellL;rw[if_neg (show ¬0<copy by have:=J.out;omega),if_pos Hl.out];simp[kI,kG,ai.out]
 ·have ah:0≤cell:=by omega
  have au:decide (0≤cell)=true:=aC ah;have ao:decide (cell<0)=false:=aB (by omega);obtain⟨Tl,a5,ay,a6⟩:=oD cell (by omega) ag.2;have a5:=hid a5;have a6:=hid a6;have Hl:=hid hl;clear hl;by_cases Y:0<copy
  ·have J:=hid Y
   exact absurd J.out (by have:=a9.out;omega)
  ·have J:=hid Y
   go_enter Tryz.func169,Tryz.ntmps169;go_wp2_with fail;refine(a1.out _).mono ?_;rintro e w1 ⟨rfl,b1⟩;have a0:=hid (a3.out.on b1);have a7:=bT ad b1;obtain⟨k0,k1,k2,k3,k4,k5⟩:=a0.out;clear b1;go_wp2_with fail;refine(a6.out _).mono ?_;rintro e w2 ⟨rfl,b2⟩;have ar:=hid (a0.out.on b2);have ap:=bT a7 b2;clear k0 k1 k2 k3 k4 k5 b2;obtain⟨k0,k1,k2,k3,k4,k5⟩:=ar.out;go_wp2_with fail;go_ret2;refine dN Hm.out ?_ ap;unfold jF gB cellL;rw[if_neg (show ¬0<copy by have:=J.out;omega),if_neg Hl.out];simp[kI,kG,ai.out,a5.out]
theorem aHk(d:Nd)(w:World)(hm:dY d=false)(Y:d.name.size≤maxLen)(J:d.fn.size≤maxLen) :
 Calls Tryz.prog 169 #[d.val] w (dD d w):=by
 have H:=hid (fun w=>xO d w Y J);rw[hm]at H;unfold dA at H;have Hp:Hid (∀w',Below w.heap.size w w'→dD d w (.returned (.tuple #[.string ⟨#[]⟩,.int .i64 11])) w'):=hid fun w' hb=>⟨by unfold txt lN;rw[hm];rfl,hb⟩
 obtain⟨kind,fn,copy,name,n,cell⟩:=d;unfold Nd.val Nd.cells at H ⊢;clear hm Y J;go_enter Tryz.func169,Tryz.ntmps169;go_wp2_with fail;refine(H.out _).mono ?_;rintro e w1 ⟨rfl,b1⟩;go_wp2_with fail;go_ret2;exact Hp.out _ (bT ((Below.refl _ _).alloc (aY _) _) b1)
theorem xZ(d:Nd)(w:World)(a0:d.name.size≤maxLen)(Y:d.fn.size≤maxLen) :
 Calls Tryz.prog 169 #[d.val] w (dD d w):=by
 rcases J:dY d with _ | _
 ·exact aHk d w J a0 Y
 ·obtain⟨_,_,h1,h7⟩:=dS d J
  obtain⟨kind,fn,copy,name,n,cell⟩:=d;have a1:1≤kind:=h1;have a2:kind≤7:=h7;rcases(by omega:kind=1∨kind=2∨kind=3∨kind=4∨kind=5∨kind=6∨kind=7)with rfl | rfl | rfl | rfl | rfl | rfl | rfl
  ·exact aJ8 _ _ _ _ _ w J
  ·exact aJk _ _ _ _ _ w J
  ·exact aKx _ _ _ _ _ w J
  ·exact aJP _ _ _ _ _ w J
  ·exact aJT _ _ _ _ _ w J
  ·exact aJ5 _ _ _ _ _ w J
  ·exact aJt _ _ _ _ _ w J
end nm
end Go.Proofs.YtdmmkjijgoiecaaGreatDoor
