import Derived.Test.YtdmmkjijgoiecaaGreatDoorB17
set_option linter.all false
set_option maxHeartbeats 4000000
namespace Go.Proofs.YtdmmkjijgoiecaaGreatDoor
open Lib(hid)
set_option maxRecDepth 100000
set_option maxHeartbeats 12000000
namespace nm
open RowKit Go.Sort
theorem aJV(fn name:ByteArray)(copy n:Int)(w:World)(a8:fn.size≤maxLen)(a7:name.size≤maxLen)(a0:eD copy=true)(J:eD n=true) :
 Calls Tryz.prog 196 #[Nd.val ⟨1,fn,copy,name,n,-1⟩] w (dQ (bP ⟨1,fn,copy,name,n,-1⟩) w):=by
 have a3:=dF a0;have a1:=dF J
 rcases hf:fn.toList.isEmpty with _ | _
 rotate_left
 ·exact mX 1 (by simp) fn name copy n w a3 a0 a1 J hf
 rcases Y:dg.bZ fn with _ | _
 ·have a2:=dJ a8 Y
  exact kP 1 (by simp) fn name copy n w a3 a0 a1 J hf a2 Y
 have a2:=dJ a8 Y
 rcases hn:name.toList.isEmpty with _ | _
 rotate_left
 ·exact aBT 1 (by simp) fn name copy n w a3 a0 a1 J hf a2 Y hn
 rcases a4:dg.bZ name with _ | _
 ·have a5:=dJ a7 a4
  exact aAA 1 (by simp) fn name copy n w a3 a0 a1 J hf a2 Y hn a5 a4
 have a5:=dJ a7 a4
 by_cases a6:n=0
 ·subst a6
  exact aAB 1 (by simp) fn name copy w a3 a0 a1 J hf a2 Y hn a5 a4
 have aa:(n==0)=false:=by rw[bI];exact a6
 have a9:(n != 0)=true:=by rw[bne_iff_ne];exact a6
 exact aAE 1 (by simp) fn name copy n w a3 a0 a1 J hf a2 Y hn a5 a4 aa a9
theorem aJS(fn name:ByteArray)(copy n cell:Int)(w:World)(af:fn.size≤maxLen)(ae:name.size≤maxLen)(a1:eD copy=true)(J:eD n=true)(a0:eD cell=true)(a3:(cell==-1)=false)(a4:(cell != -1)=true) :
 Calls Tryz.prog 196 #[Nd.val ⟨1,fn,copy,name,n,cell⟩] w (dQ (bP ⟨1,fn,copy,name,n,cell⟩) w):=by
 have a7:=dF a1;have a5:=dF J;have a2:=dF a0
 rcases hf:fn.toList.isEmpty with _ | _
 rotate_left
 ·exact mJ 1 (by simp) fn name copy n cell w a7 a1 a5 J a3 a4 a2 a0 hf
 rcases Y:dg.bZ fn with _ | _
 ·have a6:=dJ af Y
  exact kV 1 (by simp) fn name copy n cell w a7 a1 a5 J a3 a4 a2 a0 hf a6 Y
 have a6:=dJ af Y
 rcases hn:name.toList.isEmpty with _ | _
 rotate_left
 ·exact aBg 1 (by simp) fn name copy n cell w a7 a1 a5 J a3 a4 a2 a0 hf a6 Y hn
 rcases a8:dg.bZ name with _ | _
 ·have a9:=dJ ae a8
  exact aAD 1 (by simp) fn name copy n cell w a7 a1 a5 J a3 a4 a2 a0 hf a6 Y hn a9 a8
 have a9:=dJ ae a8
 by_cases aa:n=0
 ·subst aa
  exact aDI fn name copy cell w a7 a1 a5 J a3 a4 a2 a0 hf a6 Y hn a9 a8
 have ah:(n==0)=false:=by rw[bI];exact aa
 have ag:(n != 0)=true:=by rw[bne_iff_ne];exact aa
 exact aAs 1 (by simp) fn name copy n cell w a7 a1 a5 J a3 a4 a2 a0 hf a6 Y hn a9 a8 ah ag
theorem aJf(fn name:ByteArray)(copy n:Int)(w:World)(a5:fn.size≤maxLen)(a8:name.size≤maxLen)(a0:eD copy=true)(J:eD n=true) :
 Calls Tryz.prog 196 #[Nd.val ⟨2,fn,copy,name,n,-1⟩] w (dQ (bP ⟨2,fn,copy,name,n,-1⟩) w):=by
 have a3:=dF a0;have a1:=dF J
 rcases hf:fn.toList.isEmpty with _ | _
 rotate_left
 ·exact mX 2 (by simp) fn name copy n w a3 a0 a1 J hf
 rcases Y:dg.bZ fn with _ | _
 ·have a2:=dJ a5 Y
  exact kP 2 (by simp) fn name copy n w a3 a0 a1 J hf a2 Y
 have a2:=dJ a5 Y
 rcases hn:name.toList.isEmpty with _ | _
 ·exact uR 2 (by simp) fn name copy n w a3 a0 a1 J hf a2 Y hn
 by_cases a4:n=0
 ·subst a4
  exact aAy 2 (by simp) fn name copy w a3 a0 a1 J hf a2 Y hn
 have a7:(n==0)=false:=by rw[bI];exact a4
 have a6:(n != 0)=true:=by rw[bne_iff_ne];exact a4
 exact wM 2 (by simp) fn name copy n w a3 a0 a1 J hf a2 Y hn a7 a6
theorem aJx(fn name:ByteArray)(copy n cell:Int)(w:World)(a9:fn.size≤maxLen)(af:name.size≤maxLen)(a1:eD copy=true)(J:eD n=true)(a0:eD cell=true)(a3:(cell==-1)=false)(a4:(cell != -1)=true) :
 Calls Tryz.prog 196 #[Nd.val ⟨2,fn,copy,name,n,cell⟩] w (dQ (bP ⟨2,fn,copy,name,n,cell⟩) w):=by
 have a7:=dF a1;have a5:=dF J;have a2:=dF a0
 rcases hf:fn.toList.isEmpty with _ | _
 rotate_left
 ·exact mJ 2 (by simp) fn name copy n cell w a7 a1 a5 J a3 a4 a2 a0 hf
 rcases Y:dg.bZ fn with _ | _
 ·have a6:=dJ a9 Y
  exact kV 2 (by simp) fn name copy n cell w a7 a1 a5 J a3 a4 a2 a0 hf a6 Y
 have a6:=dJ a9 Y
 rcases hn:name.toList.isEmpty with _ | _
 ·exact uG 2 (by simp) fn name copy n cell w a7 a1 a5 J a3 a4 a2 a0 hf a6 Y hn
 by_cases a8:n=0
 ·subst a8
  exact rR 2 (by simp) fn name copy cell w a7 a1 a5 J a3 a4 a2 a0 hf a6 Y hn
 have ae:(n==0)=false:=by rw[bI];exact a8
 have aa:(n != 0)=true:=by rw[bne_iff_ne];exact a8
 exact vV 2 (by simp) fn name copy n cell w a7 a1 a5 J a3 a4 a2 a0 hf a6 Y hn ae aa
theorem aK4(fn name:ByteArray)(copy n:Int)(w:World)(a5:fn.size≤maxLen)(a8:name.size≤maxLen)(a0:eD copy=true)(J:eD n=true) :
 Calls Tryz.prog 196 #[Nd.val ⟨3,fn,copy,name,n,-1⟩] w (dQ (bP ⟨3,fn,copy,name,n,-1⟩) w):=by
 have a3:=dF a0;have a1:=dF J
 rcases hf:fn.toList.isEmpty with _ | _
 rotate_left
 ·exact mX 3 (by simp) fn name copy n w a3 a0 a1 J hf
 rcases Y:dg.bZ fn with _ | _
 ·have a2:=dJ a5 Y
  exact kP 3 (by simp) fn name copy n w a3 a0 a1 J hf a2 Y
 have a2:=dJ a5 Y
 rcases hn:name.toList.isEmpty with _ | _
 ·exact uR 3 (by simp) fn name copy n w a3 a0 a1 J hf a2 Y hn
 by_cases a4:n=0
 ·subst a4
  exact aAC 3 (by simp) fn name copy w a3 a0 a1 J hf a2 Y hn
 have a7:(n==0)=false:=by rw[bI];exact a4
 have a6:(n != 0)=true:=by rw[bne_iff_ne];exact a4
 exact wM 3 (by simp) fn name copy n w a3 a0 a1 J hf a2 Y hn a7 a6
theorem aKc(fn name:ByteArray)(copy n cell:Int)(w:World)(a9:fn.size≤maxLen)(af:name.size≤maxLen)(a1:eD copy=true)(J:eD n=true)(a0:eD cell=true)(a3:(cell==-1)=false)(a4:(cell != -1)=true) :
 Calls Tryz.prog 196 #[Nd.val ⟨3,fn,copy,name,n,cell⟩] w (dQ (bP ⟨3,fn,copy,name,n,cell⟩) w):=by
 have a7:=dF a1;have a5:=dF J;have a2:=dF a0
 rcases hf:fn.toList.isEmpty with _ | _
 rotate_left
 ·exact mJ 3 (by simp) fn name copy n cell w a7 a1 a5 J a3 a4 a2 a0 hf
 rcases Y:dg.bZ fn with _ | _
 ·have a6:=dJ a9 Y
  exact kV 3 (by simp) fn name copy n cell w a7 a1 a5 J a3 a4 a2 a0 hf a6 Y
 have a6:=dJ a9 Y
 rcases hn:name.toList.isEmpty with _ | _
 ·exact uG 3 (by simp) fn name copy n cell w a7 a1 a5 J a3 a4 a2 a0 hf a6 Y hn
 by_cases a8:n=0
 ·subst a8
  exact rR 3 (by simp) fn name copy cell w a7 a1 a5 J a3 a4 a2 a0 hf a6 Y hn
 have ae:(n==0)=false:=by rw[bI];exact a8
 have aa:(n != 0)=true:=by rw[bne_iff_ne];exact a8
 exact vV 3 (by simp) fn name copy n cell w a7 a1 a5 J a3 a4 a2 a0 hf a6 Y hn ae aa
theorem aKz(fn name:ByteArray)(copy n:Int)(w:World)(a5:fn.size≤maxLen)(a8:name.size≤maxLen)(a0:eD copy=true)(J:eD n=true) :
 Calls Tryz.prog 196 #[Nd.val ⟨4,fn,copy,name,n,-1⟩] w (dQ (bP ⟨4,fn,copy,name,n,-1⟩) w):=by
 have a3:=dF a0;have a1:=dF J
 rcases hf:fn.toList.isEmpty with _ | _
 rotate_left
 ·exact mX 4 (by simp) fn name copy n w a3 a0 a1 J hf
 rcases Y:dg.bZ fn with _ | _
 ·have a2:=dJ a5 Y
  exact kP 4 (by simp) fn name copy n w a3 a0 a1 J hf a2 Y
 have a2:=dJ a5 Y
 rcases hn:name.toList.isEmpty with _ | _
 ·exact uR 4 (by simp) fn name copy n w a3 a0 a1 J hf a2 Y hn
 by_cases a4:n=0
 ·subst a4
  exact aAy 4 (by simp) fn name copy w a3 a0 a1 J hf a2 Y hn
 have a7:(n==0)=false:=by rw[bI];exact a4
 have a6:(n != 0)=true:=by rw[bne_iff_ne];exact a4
 exact aDL fn name copy n w a3 a0 a1 J hf a2 Y hn a7 a6
theorem aIU(fn name:ByteArray)(copy n cell:Int)(w:World)(a9:fn.size≤maxLen)(af:name.size≤maxLen)(a1:eD copy=true)(J:eD n=true)(a0:eD cell=true)(a3:(cell==-1)=false)(a4:(cell != -1)=true) :
 Calls Tryz.prog 196 #[Nd.val ⟨4,fn,copy,name,n,cell⟩] w (dQ (bP ⟨4,fn,copy,name,n,cell⟩) w):=by
 have a7:=dF a1;have a5:=dF J;have a2:=dF a0
 rcases hf:fn.toList.isEmpty with _ | _
 rotate_left
 ·exact mJ 4 (by simp) fn name copy n cell w a7 a1 a5 J a3 a4 a2 a0 hf
 rcases Y:dg.bZ fn with _ | _
 ·have a6:=dJ a9 Y
  exact kV 4 (by simp) fn name copy n cell w a7 a1 a5 J a3 a4 a2 a0 hf a6 Y
 have a6:=dJ a9 Y
 rcases hn:name.toList.isEmpty with _ | _
 ·exact uG 4 (by simp) fn name copy n cell w a7 a1 a5 J a3 a4 a2 a0 hf a6 Y hn
 by_cases a8:n=0
 ·subst a8
  exact rR 4 (by simp) fn name copy cell w a7 a1 a5 J a3 a4 a2 a0 hf a6 Y hn
 have ae:(n==0)=false:=by rw[bI];exact a8
 have aa:(n != 0)=true:=by rw[bne_iff_ne];exact a8
 exact vV 4 (by simp) fn name copy n cell w a7 a1 a5 J a3 a4 a2 a0 hf a6 Y hn ae aa
theorem aJE(fn name:ByteArray)(copy n:Int)(w:World)(a9:fn.size≤maxLen)(a5:name.size≤maxLen)(Y:eD copy=true)(J:eD n=true) :
 Calls Tryz.prog 196 #[Nd.val ⟨5,fn,copy,name,n,-1⟩] w (dQ (bP ⟨5,fn,copy,name,n,-1⟩) w):=by
 have a1:=dF Y;have a0:=dF J
 rcases hf:fn.toList.isEmpty with _ | _
 ·exact aGr fn name copy n w a1 Y a0 J hf
 by_cases hz:copy=0
 rotate_left
 ·have a8:(copy != 0)=true:=by rw[bne_iff_ne];exact hz
  exact aE2 fn name copy n w a1 Y a0 J hf a8
 subst hz
 rcases hn:name.toList.isEmpty with _ | _
 rotate_left
 ·exact aFP fn name n w a1 Y a0 J hf hn
 rcases a2:dg.bZ name with _ | _
 ·have a3:=dJ a5 a2
  exact aDM fn name n w a1 Y a0 J hf hn a3 a2
 have a3:=dJ a5 a2
 by_cases a4:n=0
 ·subst a4
  exact aDJ fn name w a1 Y a0 J hf hn a3 a2
 have a7:(n==0)=false:=by rw[bI];exact a4
 have a6:(n != 0)=true:=by rw[bne_iff_ne];exact a4
 exact aEb fn name n w a1 Y a0 J hf hn a3 a2 a7 a6
theorem aKJ(fn name:ByteArray)(copy n cell:Int)(w:World)(ag:fn.size≤maxLen)(a9:name.size≤maxLen)(a0:eD copy=true)(J:eD n=true)(Y:eD cell=true)(a2:(cell==-1)=false)(a3:(cell != -1)=true) :
 Calls Tryz.prog 196 #[Nd.val ⟨5,fn,copy,name,n,cell⟩] w (dQ (bP ⟨5,fn,copy,name,n,cell⟩) w):=by
 have a5:=dF a0;have a4:=dF J;have a1:=dF Y
 rcases hf:fn.toList.isEmpty with _ | _
 ·exact aFb fn name copy n cell w a5 a0 a4 J a2 a3 a1 Y hf
 by_cases hz:copy=0
 rotate_left
 ·have af:(copy != 0)=true:=by rw[bne_iff_ne];exact hz
  exact aEC fn name copy n cell w a5 a0 a4 J a2 a3 a1 Y hf af
 subst hz
 rcases hn:name.toList.isEmpty with _ | _
 rotate_left
 ·exact aFi fn name n cell w a5 a0 a4 J a2 a3 a1 Y hf hn
 rcases a6:dg.bZ name with _ | _
 ·have a7:=dJ a9 a6
  exact aEp fn name n cell w a5 a0 a4 J a2 a3 a1 Y hf hn a7 a6
 have a7:=dJ a9 a6
 by_cases a8:n=0
 ·subst a8
  exact aEM fn name cell w a5 a0 a4 J a2 a3 a1 Y hf hn a7 a6
 have ae:(n==0)=false:=by rw[bI];exact a8
 have aa:(n != 0)=true:=by rw[bne_iff_ne];exact a8
 exact aEQ fn name n cell w a5 a0 a4 J a2 a3 a1 Y hf hn a7 a6 ae aa
theorem aI9(fn name:ByteArray)(copy n:Int)(w:World)(a8:fn.size≤maxLen)(a7:name.size≤maxLen)(a0:eD copy=true)(J:eD n=true) :
 Calls Tryz.prog 196 #[Nd.val ⟨6,fn,copy,name,n,-1⟩] w (dQ (bP ⟨6,fn,copy,name,n,-1⟩) w):=by
 have a3:=dF a0;have a1:=dF J
 rcases hf:fn.toList.isEmpty with _ | _
 rotate_left
 ·exact mX 6 (by simp) fn name copy n w a3 a0 a1 J hf
 rcases Y:dg.bZ fn with _ | _
 ·have a2:=dJ a8 Y
  exact kP 6 (by simp) fn name copy n w a3 a0 a1 J hf a2 Y
 have a2:=dJ a8 Y
 rcases hn:name.toList.isEmpty with _ | _
 rotate_left
 ·exact aBT 6 (by simp) fn name copy n w a3 a0 a1 J hf a2 Y hn
 rcases a4:dg.bZ name with _ | _
 ·have a5:=dJ a7 a4
  exact aAA 6 (by simp) fn name copy n w a3 a0 a1 J hf a2 Y hn a5 a4
 have a5:=dJ a7 a4
 by_cases a6:n=0
 ·subst a6
  exact aAB 6 (by simp) fn name copy w a3 a0 a1 J hf a2 Y hn a5 a4
 have aa:(n==0)=false:=by rw[bI];exact a6
 have a9:(n != 0)=true:=by rw[bne_iff_ne];exact a6
 exact aAE 6 (by simp) fn name copy n w a3 a0 a1 J hf a2 Y hn a5 a4 aa a9
theorem aJt(fn name:ByteArray)(copy n cell:Int)(w:World)(af:fn.size≤maxLen)(ae:name.size≤maxLen)(a1:eD copy=true)(J:eD n=true)(a0:eD cell=true)(a3:(cell==-1)=false)(a4:(cell != -1)=true) :
 Calls Tryz.prog 196 #[Nd.val ⟨6,fn,copy,name,n,cell⟩] w (dQ (bP ⟨6,fn,copy,name,n,cell⟩) w):=by
 have a7:=dF a1;have a5:=dF J;have a2:=dF a0
 rcases hf:fn.toList.isEmpty with _ | _
 rotate_left
 ·exact mJ 6 (by simp) fn name copy n cell w a7 a1 a5 J a3 a4 a2 a0 hf
 rcases Y:dg.bZ fn with _ | _
 ·have a6:=dJ af Y
  exact kV 6 (by simp) fn name copy n cell w a7 a1 a5 J a3 a4 a2 a0 hf a6 Y
 have a6:=dJ af Y
 rcases hn:name.toList.isEmpty with _ | _
 rotate_left
 ·exact aBg 6 (by simp) fn name copy n cell w a7 a1 a5 J a3 a4 a2 a0 hf a6 Y hn
 rcases a8:dg.bZ name with _ | _
 ·have a9:=dJ ae a8
  exact aAD 6 (by simp) fn name copy n cell w a7 a1 a5 J a3 a4 a2 a0 hf a6 Y hn a9 a8
 have a9:=dJ ae a8
 by_cases aa:n=0
 ·subst aa
  exact aEa fn name copy cell w a7 a1 a5 J a3 a4 a2 a0 hf a6 Y hn a9 a8
 have ah:(n==0)=false:=by rw[bI];exact aa
 have ag:(n != 0)=true:=by rw[bne_iff_ne];exact aa
 exact aAs 6 (by simp) fn name copy n cell w a7 a1 a5 J a3 a4 a2 a0 hf a6 Y hn a9 a8 ah ag
theorem aKa(fn name:ByteArray)(copy n:Int)(w:World)(a5:fn.size≤maxLen)(a8:name.size≤maxLen)(a0:eD copy=true)(J:eD n=true) :
 Calls Tryz.prog 196 #[Nd.val ⟨7,fn,copy,name,n,-1⟩] w (dQ (bP ⟨7,fn,copy,name,n,-1⟩) w):=by
 have a3:=dF a0;have a1:=dF J
 rcases hf:fn.toList.isEmpty with _ | _
 rotate_left
 ·exact mX 7 (by simp) fn name copy n w a3 a0 a1 J hf
 rcases Y:dg.bZ fn with _ | _
 ·have a2:=dJ a5 Y
  exact kP 7 (by simp) fn name copy n w a3 a0 a1 J hf a2 Y
 have a2:=dJ a5 Y
 rcases hn:name.toList.isEmpty with _ | _
 ·exact uR 7 (by simp) fn name copy n w a3 a0 a1 J hf a2 Y hn
 by_cases a4:n=0
 ·subst a4
  exact aAC 7 (by simp) fn name copy w a3 a0 a1 J hf a2 Y hn
 have a7:(n==0)=false:=by rw[bI];exact a4
 have a6:(n != 0)=true:=by rw[bne_iff_ne];exact a4
 exact wM 7 (by simp) fn name copy n w a3 a0 a1 J hf a2 Y hn a7 a6
theorem aJZ(fn name:ByteArray)(copy n cell:Int)(w:World)(a9:fn.size≤maxLen)(af:name.size≤maxLen)(a1:eD copy=true)(J:eD n=true)(a0:eD cell=true)(a3:(cell==-1)=false)(a4:(cell != -1)=true) :
 Calls Tryz.prog 196 #[Nd.val ⟨7,fn,copy,name,n,cell⟩] w (dQ (bP ⟨7,fn,copy,name,n,cell⟩) w):=by
 have a7:=dF a1;have a5:=dF J;have a2:=dF a0
 rcases hf:fn.toList.isEmpty with _ | _
 rotate_left
 ·exact mJ 7 (by simp) fn name copy n cell w a7 a1 a5 J a3 a4 a2 a0 hf
 rcases Y:dg.bZ fn with _ | _
 ·have a6:=dJ a9 Y
  exact kV 7 (by simp) fn name copy n cell w a7 a1 a5 J a3 a4 a2 a0 hf a6 Y
 have a6:=dJ a9 Y
 rcases hn:name.toList.isEmpty with _ | _
 ·exact uG 7 (by simp) fn name copy n cell w a7 a1 a5 J a3 a4 a2 a0 hf a6 Y hn
 by_cases a8:n=0
 ·subst a8
  exact rR 7 (by simp) fn name copy cell w a7 a1 a5 J a3 a4 a2 a0 hf a6 Y hn
 have ae:(n==0)=false:=by rw[bI];exact a8
 have aa:(n != 0)=true:=by rw[bne_iff_ne];exact a8
 exact aEE fn name copy n cell w a7 a1 a5 J a3 a4 a2 a0 hf a6 Y hn ae aa
theorem aHw(d:Nd)(w:World)(a0:d.name.size≤maxLen)(a1:d.fn.size≤maxLen):Calls Tryz.prog 196 #[d.val] w (dQ (bP d) w):=by
 obtain⟨kind,fn,copy,name,n,cell⟩:=d;have a0:name.size≤maxLen:=a0;have a1:fn.size≤maxLen:=a1
 by_cases hk:1≤kind∧kind≤7
 rotate_left
 ·have hv:bP ⟨kind,fn,copy,name,n,cell⟩=false:=by unfold bP dN;rw[show decide (1≤kind∧kind≤7)=false from aB hk];simp only[Bool.false_and]
  rw[hv];exact aFo kind fn copy name n cell w hk
 obtain⟨h1,h7⟩:=hk
 rcases J:eD copy with _ | _
 ·exact aFv kind fn copy name n cell w h1 h7 (dF J) J
 rcases Y:eD n with _ | _
 ·exact aLH kind fn copy name n cell w h1 h7 (dF J) (dF Y) Y
 by_cases hz:cell=-1
 ·subst hz
  rcases(by omega:kind=1∨kind=2∨kind=3∨kind=4∨kind=5∨kind=6∨kind=7)with rfl | rfl | rfl | rfl | rfl | rfl | rfl
  ·exact aJV fn name copy n w a1 a0 J Y
  ·exact aJf fn name copy n w a1 a0 J Y
  ·exact aK4 fn name copy n w a1 a0 J Y
  ·exact aKz fn name copy n w a1 a0 J Y
  ·exact aJE fn name copy n w a1 a0 J Y
  ·exact aI9 fn name copy n w a1 a0 J Y
  ·exact aKa fn name copy n w a1 a0 J Y
 ·have a3:(cell==-1)=false:=by rw[bI];exact hz
  have a4:(cell != -1)=true:=by rw[bne_iff_ne];exact hz
  rcases a2:eD cell with _ | _
  ·exact aFF kind fn copy name n cell w h1 h7 (dF J) (dF Y) (dF a2) a2 a3 a4
  rcases(by omega:kind=1∨kind=2∨kind=3∨kind=4∨kind=5∨kind=6∨kind=7)with rfl | rfl | rfl | rfl | rfl | rfl | rfl
  ·exact aJS fn name copy n cell w a1 a0 J Y a2 a3 a4
  ·exact aJx fn name copy n cell w a1 a0 J Y a2 a3 a4
  ·exact aKc fn name copy n cell w a1 a0 J Y a2 a3 a4
  ·exact aIU fn name copy n cell w a1 a0 J Y a2 a3 a4
  ·exact aKJ fn name copy n cell w a1 a0 J Y a2 a3 a4
  ·exact aJt fn name copy n cell w a1 a0 J Y a2 a3 a4
  ·exact aJZ fn name copy n cell w a1 a0 J Y a2 a3 a4
open RowKit Go.Sort
theorem aLj(l:List UInt8):(l==(ByteArray.mk #[]).toList)=l.isEmpty:=by
 rw[dg.fH ⟨#[]⟩ rfl];cases l <;> rfl
theorem aCi(s:ByteArray)(h:s.toList.isEmpty=true):dg.bZ s=false:=by
 apply dg.vQ
 left;exact yZ s (List.isEmpty_iff.1 h)
def rW(k copy n cell:Int)(fE J nE Y:Bool):Bool:=
 if k=5 then fE&&((copy==0)&&((n==0)&&(fT copy 0&&(fT cell (-1)&&Y))))
 else if k=6 then(n==0)&&(fT copy 0&&(fT cell (-1)&&(J&&Y)))
 else if k=1 then(n==0)&&((cell==-1)&&(fT copy 0&&(fT cell (-1)&&(J&&Y))))
 else if k=7 then nE&&(fT copy 0&&(fT cell (-1)&&(J&&fT n 1)))
 else if k=2 then nE&&((cell==-1)&&(fT copy 0&&(fT cell (-1)&&(J&&fT n 0))))
 else if k=3 then nE&&((cell==-1)&&(fT copy 0&&(fT cell (-1)&&(J&&fT n 1))))
 else nE&&((n==0)&&((cell==-1)&&(fT copy 0&&(fT cell (-1)&&(J&&fT n 0)))))
theorem aDi(d:Nd)(Y:1≤d.kind)(J:d.kind≤7):dY d=rW d.kind d.copy d.n d.cell d.fn.toList.isEmpty (dg.bZ d.fn) d.name.toList.isEmpty (dg.bZ d.name):=by
 obtain⟨kind,fn,copy,name,n,cell⟩:=d;have Y:1≤kind:=Y;have J:kind≤7:=J
 rcases(by omega:kind=1∨kind=2∨kind=3∨kind=4∨kind=5∨kind=6∨kind=7)with rfl | rfl | rfl | rfl | rfl | rfl | rfl
 all_goals
  unfold dY jR bY swB rW;simp[Bool.and_assoc,aLj]
theorem aHF(k copy n cell:Int)(fE Y nE J:Bool)(h1:1≤k)(h7:k≤7)(hf:fE=true→Y=false)(hn:nE=true→J=false) :
 dN k copy n cell (eD copy) (eD n) (eD cell) fE Y nE J=rW k copy n cell fE Y nE J:=by
 rcases(by omega:k=1∨k=2∨k=3∨k=4∨k=5∨k=6∨k=7)with rfl | rfl | rfl | rfl | rfl | rfl | rfl
 all_goals
  unfold dN rW eD fT;cases fE <;> cases nE <;> cases Y <;> cases J <;> simp at hf hn ⊢
 all_goals
  rw[Bool.eq_iff_iff];simp
  try omega
theorem aIn(d:Nd):bP d=dY d:=by
 by_cases J:1≤d.kind∧d.kind≤7
 ·rw[aDi d J.1 J.2]
  unfold bP;exact aHF _ _ _ _ _ _ _ _ J.1 J.2 (aCi _) (aCi _)
 ·unfold bP dN dY
  rw[aB J];rfl
open RowKit
def aBZ(l:List UInt8):Nat:=if dg.iN ((l.headD 0).toNat:Int) then dg.runN dg.zX l else dg.runN dg.dK l
theorem aDd(s:ByteArray):dg.kI s=aBZ s.data.toList:=rfl
theorem aEI(J:Int→Bool)(a r:List UInt8)(ha:∀c∈a,J (c.toNat:Int)=true)(hr:r=[]∨J ((r.headD 0).toNat:Int)=false):dg.runN J (a++r)=a.length:=by
 induction a with
 | nil=>
  rcases hr with rfl | hr
  ·rfl
  ·cases r with
   | nil=>rfl
   | cons c r=>simp only[List.headD_cons]at hr;simp[dg.runN,hr]
 | cons c a ih=>
  have h1:=ha c List.mem_cons_self;have Y:=ih (fun c hc=>ha c (bG _ hc))
  unfold dg.runN at Y ⊢;rw[aW,List.takeWhile_cons,if_pos h1,aG,aG,Y]
theorem aCg(a r:List UInt8)(ha:a≠[]):(a++r).headD 0=a.headD 0:=by
 cases a with
 | nil=>exact absurd rfl ha
 | cons c a=>rfl
theorem aDA{b:Int}(h:dg.dK b=true):dg.iN b=false:=by
 unfold dg.dK at h;unfold dg.iN;simp only[bJ]at h;exact aB (by omega)
theorem aFR(ds r:List UInt8)(J:ds≠[])(hd:∀c∈ds,dg.dK (c.toNat:Int)=true)(hr:r=[]∨dg.dK ((r.headD 0).toNat:Int)=false):aBZ (ds++r)=ds.length:=by
 unfold aBZ;rw[aCg ds r J];have h0:dg.dK ((ds.headD 0).toNat:Int)=true:=by
  cases ds with
  | nil=>exact absurd rfl J
  | cons c a=>exact hd c List.mem_cons_self
 rw[aDA h0,if_neg (by decide)]
 exact aEI _ _ _ hd hr
theorem nL(nm r:List UInt8)(J:nm≠[])(hl:dg.iN ((nm.headD 0).toNat:Int)=true)(hd:∀c∈nm,dg.zX (c.toNat:Int)=true)(hr:r=[]∨dg.zX ((r.headD 0).toNat:Int)=false):aBZ (nm++r)=nm.length:=by
 unfold aBZ;rw[aCg nm r J,hl,if_pos rfl];exact aEI _ _ _ hd hr
theorem jD(s:ByteArray)(h:dg.bZ s=true):s.data.toList≠[]∧dg.iN ((s.data.toList.headD 0).toNat:Int)=true∧∀c∈s.data.toList,dg.zX (c.toNat:Int)=true:=by
 unfold dg.bZ at h;simp only[Bool.and_eq_true,bJ]at h;have hl:=dg.cB s;refine⟨fun e=>?_,h.2.1,dg.aEO _ _ (by omega)⟩
 rw[e]at hl;exact h.1.1 hl.symm
theorem gT(s:ByteArray)(a b:Nat):(s.extract a b).data.toList=(s.data.toList.drop a).take (b-a):=by
 rw[ByteArray.data_extract,Array.toList_extract]
theorem aKN(s:ByteArray):(fn0 s).data.toList=s.data.toList.take (aBZ s.data.toList):=by
 unfold fn0;rw[gT,aDd];simp
theorem aGe(s:ByteArray):(bK s).data.toList=s.data.toList.drop (aBZ s.data.toList):=by
 unfold bK;rw[gT,aDd,bE];rw[List.length_drop,dg.cB];exact aY _
theorem oU(s:ByteArray):(bL s).data.toList=s.data.toList.tail:=by
 unfold bL;rw[gT,bE (by rw[List.length_drop,dg.cB];exact aY _),List.drop_one]
theorem aI7(c:Int)(h0:0≤c):Lib.itoa c=Lib.decDigits c.toNat:=by unfold Lib.itoa;rw[if_neg (by omega)]
def aKP(r:List UInt8):Prop:=r=[]∨dg.dK ((r.headD 0).toNat:Int)=false
def aAz(r:List UInt8):Prop:=r=[]∨dg.zX ((r.headD 0).toNat:Int)=false
theorem aAz.dig{r:List UInt8}(h:aAz r):aKP r:=by
 rcases h with h | h
 ·exact Or.inl h
 ·right
  unfold dg.zX at h;rw[Bool.or_eq_false_iff]at h;exact h.2
theorem zM(c:Int)(h0:0≤c)(r:List UInt8)(hr:aKP r):aBZ (Lib.itoa c++r)=(Lib.itoa c).length:=by
 rw[aI7 c h0];exact aFR _ _ (dg.aJ9 _) (dg.aBS _ _ (aY _)) hr
theorem wY(c:Int)(h0:0≤c)(Y:c≤268435456)(t:ByteArray)(J:t.data.toList=Lib.itoa c):dg.rd t=(c,0):=by
 have e:t=⟨(Lib.decDigits c.toNat).toArray⟩:=fB (by rw[J,aI7 c h0])
 rw[e,dg.rd_dec _ (by omega)]
 rw[Int.toNat_of_nonneg h0]
theorem wJ(s:ByteArray)(m:UInt8)(mark absent c:Int)(r:List UInt8)(hm:(m.toNat:Int)=mark)(h0:0≤c)(h1:c≤268435456)(hr:aKP r)(hs:s.data.toList=m :: (Lib.itoa c++r)) :
 (dZ s mark absent).1=c∧(dZ s mark absent).2.data.toList=r:=by
 have hl:=dg.cB s;rw[hs,aG]at hl;have hh:bM s=mark:=by unfold bM;rw[hs,List.headD_cons];exact hm
 have Y:(s.extract 1 s.size).data.toList=Lib.itoa c++r:=by
  have:=oU s;unfold bL at this;rw[this,hs];rfl
 have J:dg.kI (s.extract 1 s.size)=(Lib.itoa c).length:=by rw[aDd,Y];exact zM c h0 r hr
 have e1:((s.extract 1 s.size).extract 0 (dg.kI (s.extract 1 s.size))).data.toList=Lib.itoa c:=by
  rw[gT,Y,J];simp
 have e2:((s.extract 1 s.size).extract (dg.kI (s.extract 1 s.size)) (s.extract 1 s.size).size).data.toList=r:=by
  rw[gT,J,Y,←dg.cB,Y];simp
 have e3:=wY c h0 h1 _ e1;unfold dZ;rw[if_neg (by rintro(h | h);omega;exact h hh),e3,if_pos rfl]
 exact⟨rfl,e2⟩
theorem yU(s:ByteArray)(mark absent:Int)(h:s.data.toList=[]∨((s.data.toList.headD 0).toNat:Int)≠mark):dZ s mark absent=(absent,s):=by
 unfold dZ;rw[if_pos]
 rcases h with h | h
 ·left;rw[←dg.cB,h];rfl
 ·exact Or.inr h
theorem rH(s:ByteArray)(a r:List UInt8)(hs:s.data.toList=a++r)(h:aBZ (a++r)=a.length):(fn0 s).data.toList=a∧(bK s).data.toList=r:=by
 rw[aKN,aGe,hs,h];simp
theorem nK(d:Nd)(J:dY d=true):(txt d).data.toList=jQ d:=by unfold txt;rw[if_pos J]
theorem iI(c:Int):aAz (cellL c):=by
 unfold cellL
 by_cases h:c=-1
 ·rw[if_pos h];exact Or.inl rfl
 ·rw[if_neg h];right;rw[List.headD_cons];decide
theorem cell_of(r:ByteArray)(c:Int)(h0:-1≤c)(J:c≤268435456)(h:r.data.toList=cellL c):cellOf r=c:=by
 unfold cellOf;unfold cellL at h
 by_cases hc:c=-1
 ·rw[if_pos hc]at h
  rw[yU r 43 (-1) (Or.inl h)];exact hc.symm
 ·rw[if_neg hc]at h
  exact(wJ r 43 43 (-1) c [] rfl (by omega) J (Or.inl rfl) (by rw[h,List.append_nil])).1
theorem mO(s:ByteArray)(m:UInt8)(r:List UInt8)(h:s.data.toList=m :: r) :
 fF s=if(m.toNat:Int)=46 then 1 else if(m.toNat:Int)=36 then 2 else if(m.toNat:Int)=64 then 3 else if(m.toNat:Int)=40 then 4 else if(m.toNat:Int)=37 then 6 else if(m.toNat:Int)=35 then 7 else 5:=by
 have hl:=dg.cB s;rw[h,aG]at hl;have J:bM s=(m.toNat:Int):=by unfold bM;rw[h,List.headD_cons]
 unfold fF;rw[if_neg (by omega),J]
theorem aHr(s:ByteArray)(h:s.data.toList=[]):fF s=5:=by
 unfold fF;rw[if_pos (by rw[←dg.cB,h];rfl)]
theorem sO(s fn:ByteArray)(copy:Int)(r:List UInt8)(hf:dg.bZ fn=true)(h0:0≤copy)(h1:copy≤268435456)(hr:aAz r)(Y:r=[]∨((r.headD 0).toNat:Int)≠126)
 (hs:s.data.toList=fn.data.toList++(gN copy++r)):fn0 s=fn∧lU s=copy∧(bN s).data.toList=r:=by
 obtain⟨n1,n2,n3⟩:=jD fn hf;have hb:aAz (gN copy++r):=by
  unfold gN
  by_cases hc:0<copy
  ·rw[if_pos hc];right;show dg.zX (((126:UInt8).toNat:Int))=false;decide
  ·rw[if_neg hc];exact hr
 obtain⟨e1,J⟩:=rH s _ _ hs (nL _ _ n1 n2 n3 hb);refine⟨fB e1,?_⟩;unfold lU bN
 by_cases hc:0<copy
 ·unfold gN at J
  rw[if_pos hc]at J;exact wJ (bK s) 126 126 0 copy r rfl h0 h1 hr.dig J
 ·unfold gN at J
  rw[if_neg hc]at J;have e3:(bK s).data.toList=r:=J;rw[yU (bK s) 126 0 (by rw[e3];exact Y)]
  exact⟨by show(0:Int)=copy;omega,e3⟩
theorem iU{s:ByteArray}(h:s.toList.isEmpty=true):s=⟨#[]⟩:=by
 apply fB
 have:=yZ s (List.isEmpty_iff.1 h);have hl:=dg.cB s;rw[this]at hl;exact List.length_eq_zero_iff.1 hl
theorem nR(d:Nd)(J:dY d=true):rW d.kind d.copy d.n d.cell d.fn.toList.isEmpty (dg.bZ d.fn) d.name.toList.isEmpty (dg.bZ d.name)=true:=by
 obtain⟨_,_,h1,Y⟩:=dU d J;rw[←aDi d h1 Y];exact J
def oO(d:Nd):List UInt8:=kZ d.kind++(kR d++cellL d.cell)
theorem qD(d:Nd):jQ d=d.fn.data.toList++(gN d.copy++oO d):=rfl
theorem aFp(fn:ByteArray)(copy:Int)(name:ByteArray)(n cell:Int)(hm:dY ⟨1,fn,copy,name,n,cell⟩=true):dW (txt ⟨1,fn,copy,name,n,cell⟩)=⟨1,fn,copy,name,n,cell⟩:=by
 obtain⟨J,a0,_⟩:=dU _ hm;have J:0≤copy∧copy≤268435456:=J;have Y:=nR _ hm;unfold rW at Y;simp at Y;obtain⟨rfl,rfl,_,_,hf,hn⟩:=Y;have hs:=nK _ hm;generalize txt ⟨1,fn,copy,name,0,-1⟩=s at *;have hB:oO ⟨1,fn,copy,name,0,-1⟩=46 :: (name.data.toList++[]):=rfl;rw[qD,hB]at hs;obtain⟨e1,e2,e3⟩:=sO s fn copy _ hf J.1 J.2 (Or.inr (by rw[List.headD_cons];decide)) (Or.inr (by rw[List.headD_cons];decide)) hs
 have hk:fF (bN s)=1:=by rw[mO _ _ _ e3];rfl
 have ht:(bL (bN s)).data.toList=name.data.toList++[]:=by rw[oU,e3];rfl
 obtain⟨m1,m2,m3⟩:=jD name hn;obtain⟨e4,e5⟩:=rH _ _ _ ht (nL _ _ m1 m2 m3 (Or.inl rfl));unfold dW;rw[hk,if_neg (by decide),if_pos rfl,e1,e2,fB e4,cell_of _ (-1) (by omega) (by omega) e5]
theorem aGq(fn:ByteArray)(copy:Int)(name:ByteArray)(n cell:Int)(hm:dY ⟨6,fn,copy,name,n,cell⟩=true):dW (txt ⟨6,fn,copy,name,n,cell⟩)=⟨6,fn,copy,name,n,cell⟩:=by
 obtain⟨Y,J,_⟩:=dU _ hm;have Y:0≤copy∧copy≤268435456:=Y;have J:-1≤cell∧cell≤268435456:=J;have hw:=nR _ hm;unfold rW at hw;simp at hw;obtain⟨rfl,_,_,hf,hn⟩:=hw;have hs:=nK _ hm;generalize txt ⟨6,fn,copy,name,0,cell⟩=s at *;have hB:oO ⟨6,fn,copy,name,0,cell⟩=37 :: (name.data.toList++cellL cell):=rfl;rw[qD,hB]at hs;obtain⟨e1,e2,e3⟩:=sO s fn copy _ hf Y.1 Y.2 (Or.inr (by rw[List.headD_cons];decide)) (Or.inr (by rw[List.headD_cons];decide)) hs
 have hk:fF (bN s)=6:=by rw[mO _ _ _ e3];rfl
 have ht:(bL (bN s)).data.toList=name.data.toList++cellL cell:=by rw[oU,e3];rfl
 obtain⟨m1,m2,m3⟩:=jD name hn;obtain⟨e4,e5⟩:=rH _ _ _ ht (nL _ _ m1 m2 m3 (iI cell));unfold dW;rw[hk,if_neg (by decide),if_neg (by decide),if_pos rfl,e1,e2,fB e4,cell_of _ cell J.1 J.2 e5]
theorem aFV(fn:ByteArray)(copy:Int)(name:ByteArray)(n cell:Int)(hm:dY ⟨4,fn,copy,name,n,cell⟩=true):dW (txt ⟨4,fn,copy,name,n,cell⟩)=⟨4,fn,copy,name,n,cell⟩:=by
 obtain⟨J,a0,_⟩:=dU _ hm;have J:0≤copy∧copy≤268435456:=J;have Y:=nR _ hm;unfold rW at Y;simp at Y;obtain⟨hn,rfl,rfl,_,_,hf,_⟩:=Y;obtain rfl:=iU (s:=name) (by rw[hn];rfl)
 have hs:=nK _ hm;generalize txt ⟨4,fn,copy,⟨#[]⟩,0,-1⟩=s at *;have hB:oO ⟨4,fn,copy,⟨#[]⟩,0,-1⟩=[40,41]:=rfl;rw[qD,hB]at hs;obtain⟨e1,e2,e3⟩:=sO s fn copy _ hf J.1 J.2 (Or.inr (by rw[List.headD_cons];decide)) (Or.inr (by rw[List.headD_cons];decide)) hs
 have hk:fF (bN s)=4:=by rw[mO _ _ _ e3];rfl
 unfold dW;rw[hk,if_neg (by decide),if_neg (by decide),if_neg (by decide),if_pos rfl,e1,e2,cell_of ⟨#[]⟩ (-1) (by omega) (by omega) rfl]
theorem aGn(fn:ByteArray)(copy:Int)(name:ByteArray)(n cell:Int)(hm:dY ⟨5,fn,copy,name,n,cell⟩=true):dW (txt ⟨5,fn,copy,name,n,cell⟩)=⟨5,fn,copy,name,n,cell⟩:=by
 obtain⟨_,J,_⟩:=dU _ hm;have J:-1≤cell∧cell≤268435456:=J;have hw:=nR _ hm;unfold rW at hw;simp at hw;obtain⟨hf,rfl,rfl,_,_,hn⟩:=hw;obtain rfl:=iU (s:=fn) (by rw[hf];rfl)
 have hs:=nK _ hm;generalize txt ⟨5,⟨#[]⟩,0,name,0,cell⟩=s at *;have a0:s.data.toList=name.data.toList++cellL cell:=hs;obtain⟨m1,m2,m3⟩:=jD name hn;obtain⟨e4,e5⟩:=rH _ _ _ a0 (nL _ _ m1 m2 m3 (iI cell));have Y:(bK s).data.toList=[]∨(((bK s).data.toList.headD 0).toNat:Int)≠126:=by
  rw[e5];unfold cellL
  by_cases h:cell=-1
  ·rw[if_pos h];exact Or.inl rfl
  ·rw[if_neg h];right;rw[List.headD_cons];decide
 have e6:lU s=0:=by unfold lU;rw[yU _ _ _ Y]
 have e7:bN s=bK s:=by unfold bN;rw[yU _ _ _ Y]
 have hk:fF (bK s)=5:=by
  by_cases h:cell=-1
  ·exact aHr _ (by rw[e5];unfold cellL;rw[if_pos h])
  ·rw[mO _ _ _ (by rw[e5];unfold cellL;rw[if_neg h])];rfl
 unfold dW;rw[e7,hk,if_pos rfl,e6,fB e4,cell_of _ cell J.1 J.2 e5]
theorem aFX(fn:ByteArray)(copy:Int)(name:ByteArray)(n cell:Int)(hm:dY ⟨2,fn,copy,name,n,cell⟩=true):dW (txt ⟨2,fn,copy,name,n,cell⟩)=⟨2,fn,copy,name,n,cell⟩:=by
 obtain⟨Y,J,_⟩:=dU _ hm;have Y:0≤copy∧copy≤268435456:=Y;have J:-1≤cell∧cell≤268435456:=J;have a0:0≤n∧n≤268435456:=aCj _ hm (by simp)
 have hw:=nR _ hm;unfold rW at hw;simp at hw;have hn:=hw.1;have hf:dg.bZ fn=true:=by first | exact hw.2.2.2.2.1 | exact hw.2.2.2.1
 obtain rfl:=iU (s:=name) (by rw[hn];rfl)
 have hs:=nK _ hm;generalize txt ⟨2,fn,copy,⟨#[]⟩,n,cell⟩=s at *;have hB:oO ⟨2,fn,copy,⟨#[]⟩,n,cell⟩=36 :: (Lib.itoa n++cellL cell):=rfl;rw[qD,hB]at hs;obtain⟨e1,e2,e3⟩:=sO s fn copy _ hf Y.1 Y.2 (Or.inr (by rw[List.headD_cons];decide)) (Or.inr (by rw[List.headD_cons];decide)) hs
 have hk:fF (bN s)=2:=by rw[mO _ _ _ e3];rfl
 have hh:bM (bN s)=36:=by unfold bM;rw[e3];rfl
 obtain⟨e4,e5⟩:=wJ (bN s) 36 36 0 n (cellL cell) rfl a0.1 a0.2 (iI cell).dig e3;unfold dW;rw[hk,if_neg (by decide),if_neg (by decide),if_neg (by decide),if_neg (by decide),hh,e1,e2,e4,cell_of _ cell J.1 J.2 e5]
theorem aF5(fn:ByteArray)(copy:Int)(name:ByteArray)(n cell:Int)(hm:dY ⟨3,fn,copy,name,n,cell⟩=true):dW (txt ⟨3,fn,copy,name,n,cell⟩)=⟨3,fn,copy,name,n,cell⟩:=by
 obtain⟨Y,J,_⟩:=dU _ hm;have Y:0≤copy∧copy≤268435456:=Y;have J:-1≤cell∧cell≤268435456:=J;have a0:0≤n∧n≤268435456:=aCj _ hm (by simp)
 have hw:=nR _ hm;unfold rW at hw;simp at hw;have hn:=hw.1;have hf:dg.bZ fn=true:=by first | exact hw.2.2.2.2.1 | exact hw.2.2.2.1
 obtain rfl:=iU (s:=name) (by rw[hn];rfl)
 have hs:=nK _ hm;generalize txt ⟨3,fn,copy,⟨#[]⟩,n,cell⟩=s at *;have hB:oO ⟨3,fn,copy,⟨#[]⟩,n,cell⟩=64 :: (Lib.itoa n++cellL cell):=rfl;rw[qD,hB]at hs;obtain⟨e1,e2,e3⟩:=sO s fn copy _ hf Y.1 Y.2 (Or.inr (by rw[List.headD_cons];decide)) (Or.inr (by rw[List.headD_cons];decide)) hs
 have hk:fF (bN s)=3:=by rw[mO _ _ _ e3];rfl
 have hh:bM (bN s)=64:=by unfold bM;rw[e3];rfl
 obtain⟨e4,e5⟩:=wJ (bN s) 64 64 0 n (cellL cell) rfl a0.1 a0.2 (iI cell).dig e3;unfold dW;rw[hk,if_neg (by decide),if_neg (by decide),if_neg (by decide),if_neg (by decide),hh,e1,e2,e4,cell_of _ cell J.1 J.2 e5]
theorem aFd(fn:ByteArray)(copy:Int)(name:ByteArray)(n cell:Int)(hm:dY ⟨7,fn,copy,name,n,cell⟩=true):dW (txt ⟨7,fn,copy,name,n,cell⟩)=⟨7,fn,copy,name,n,cell⟩:=by
 obtain⟨Y,J,_⟩:=dU _ hm;have Y:0≤copy∧copy≤268435456:=Y;have J:-1≤cell∧cell≤268435456:=J;have a0:0≤n∧n≤268435456:=aCj _ hm (by simp)
 have hw:=nR _ hm;unfold rW at hw;simp at hw;have hn:=hw.1;have hf:dg.bZ fn=true:=by first | exact hw.2.2.2.2.1 | exact hw.2.2.2.1
 obtain rfl:=iU (s:=name) (by rw[hn];rfl)
 have hs:=nK _ hm;generalize txt ⟨7,fn,copy,⟨#[]⟩,n,cell⟩=s at *;have hB:oO ⟨7,fn,copy,⟨#[]⟩,n,cell⟩=35 :: (Lib.itoa n++cellL cell):=rfl;rw[qD,hB]at hs;obtain⟨e1,e2,e3⟩:=sO s fn copy _ hf Y.1 Y.2 (Or.inr (by rw[List.headD_cons];decide)) (Or.inr (by rw[List.headD_cons];decide)) hs
 have hk:fF (bN s)=7:=by rw[mO _ _ _ e3];rfl
 have hh:bM (bN s)=35:=by unfold bM;rw[e3];rfl
 obtain⟨e4,e5⟩:=wJ (bN s) 35 35 0 n (cellL cell) rfl a0.1 a0.2 (iI cell).dig e3;unfold dW;rw[hk,if_neg (by decide),if_neg (by decide),if_neg (by decide),if_neg (by decide),hh,e1,e2,e4,cell_of _ cell J.1 J.2 e5]
theorem aEw(d:Nd)(J:dY d=true):dW (txt d)=d:=by
 obtain⟨_,_,h1,Y⟩:=dU d J;obtain⟨kind,fn,copy,name,n,cell⟩:=d;have h1:1≤kind:=h1;have Y:kind≤7:=Y
 rcases(by omega:kind=1∨kind=2∨kind=3∨kind=4∨kind=5∨kind=6∨kind=7)with rfl | rfl | rfl | rfl | rfl | rfl | rfl
 ·exact aFp _ _ _ _ _ J
 ·exact aFX _ _ _ _ _ J
 ·exact aF5 _ _ _ _ _ J
 ·exact aFV _ _ _ _ _ J
 ·exact aGn _ _ _ _ _ J
 ·exact aGq _ _ _ _ _ J
 ·exact aFd _ _ _ _ _ J
theorem aHN(d:Nd)(J:dY d=true):eZ (txt d)=true:=by
 unfold eZ;rw[aEw d J,J];simp
theorem aIX(s:ByteArray)(h:eZ s=true):txt (dW s)=s:=by
 unfold eZ at h;rw[Bool.and_eq_true]at h;have:=beq_iff_eq.1 h.2;rw[ByteArray.toList_eq,ByteArray.toList_eq]at this;exact fB this
def pC(r:ByteArray):Int×ByteArray:=if r.size=0∨bM r≠126 then(0,r) else((dg.rd (fn0 (bL r))).1,bK (bL r))
def vG:ByteArray:=⟨#[41]⟩
def pM(r:ByteArray):ByteArray×ByteArray×ByteArray:=
 if r.size=0∨bM r=43 then(⟨#[]⟩,⟨#[]⟩,r)
 else(r.extract 0 1,fn0 (bL r),if bM r=40∧bK (bL r)=vG then⟨#[]⟩ else bK (bL r))
def pL(r:ByteArray):Int:=if r.size=0∨bM r≠43 then -1 else(dg.rd (bL r)).1
def jH(s:ByteArray):Int:=(pC (bK s)).1
def lC(s:ByteArray):ByteArray:=(pM (pC (bK s)).2).1
def jJ(s:ByteArray):ByteArray:=(pM (pC (bK s)).2).2.1
def lM(s:ByteArray):Int:=pL (pM (pC (bK s)).2).2.2
def wK(s:ByteArray):Int:=(dg.rd (jJ s)).1
def iZ(s:ByteArray)(k:Nat):Nd:=
 if k=0 then⟨1,fn0 s,jH s,jJ s,0,-1⟩
 else if k=1 then⟨2,fn0 s,jH s,⟨#[]⟩,wK s,-1⟩
 else if k=2 then⟨3,fn0 s,jH s,⟨#[]⟩,wK s,-1⟩
 else if k=3 then⟨4,fn0 s,jH s,⟨#[]⟩,0,-1⟩
 else if k=4 then⟨5,⟨#[]⟩,0,fn0 s,0,lM s⟩
 else if k=5 then⟨6,fn0 s,jH s,jJ s,0,lM s⟩
 else⟨7,fn0 s,jH s,⟨#[]⟩,wK s,lM s⟩
def isB(s:ByteArray)(d:Nd):Bool:=dY d&&((txt d).toList==s.toList&&(!(lC s).toList.isEmpty||d.kind==5))
theorem aKv(s:ByteArray)(d:Nd)(h:isB s d=true):eZ s=true∧dW s=d:=by
 unfold isB at h;simp only[Bool.and_eq_true,beq_iff_eq]at h;have e:txt d=s:=by
  have:=h.2.1;rw[ByteArray.toList_eq,ByteArray.toList_eq]at this;exact fB this
 rw[←e];exact⟨aHN d h.1,aEw d h.1⟩
theorem aAJ{s:ByteArray}{m:UInt8}{r:List UInt8}(h:s.data.toList=m :: r):bM s=(m.toNat:Int)∧s.size≠0:=by
 have hl:=dg.cB s;rw[h,aG]at hl;exact⟨by unfold bM;rw[h,List.headD_cons],by omega⟩
theorem aMH(r:ByteArray)(copy:Int)(t:List UInt8)(h0:0≤copy)(h1:copy≤268435456)(ht:aAz t)(J:t=[]∨((t.headD 0).toNat:Int)≠126)(h:r.data.toList=gN copy++t):(pC r).1=copy∧(pC r).2.data.toList=t:=by
 unfold gN at h
 by_cases hc:0<copy
 ·rw[if_pos hc]at h
  obtain⟨hh,hz⟩:=aAJ h;have Y:(bL r).data.toList=Lib.itoa copy++t:=by rw[oU,h];rfl
  obtain⟨e2,e3⟩:=rH _ _ _ Y (zM copy h0 t ht.dig);unfold pC;rw[if_neg (by rintro(g | g);exact hz g;exact g hh),wY copy h0 h1 _ e2]
  exact⟨rfl,e3⟩
 ·rw[if_neg hc]at h
  have h:r.data.toList=t:=h;unfold pC;rw[if_pos]
  ·exact⟨by show(0:Int)=copy;omega,h⟩
  ·rcases J with g | g
   ·left;rw[←dg.cB,h,g];rfl
   ·right;unfold bM;rw[h];exact g
theorem aKB(r:ByteArray)(c:Int)(h0:-1≤c)(h1:c≤268435456)(h:r.data.toList=cellL c):pL r=c:=by
 unfold cellL at h;unfold pL
 by_cases hc:c=-1
 ·rw[if_pos hc]at h
  rw[if_pos (Or.inl (by rw[←dg.cB,h];rfl)),hc]
 ·rw[if_neg hc]at h
  obtain⟨Y,J⟩:=aAJ h;rw[if_neg (by rintro(g | g);exact J g;exact g Y),wY c (by omega) h1 _ (by rw[oU,h];rfl)]
theorem aEq(r:ByteArray)(m:UInt8)(a t:List UInt8)(Y:(m.toNat:Int)≠43)(J:(m.toNat:Int)≠40)(hs:aBZ (a++t)=a.length)(h:r.data.toList=m :: (a++t)) :
 (pM r).1.data.toList=[m]∧(pM r).2.1.data.toList=a∧(pM r).2.2.data.toList=t:=by
 obtain⟨hh,hz⟩:=aAJ h;have e1:(bL r).data.toList=a++t:=by rw[oU,h];rfl
 obtain⟨e2,e3⟩:=rH _ _ _ e1 hs;unfold pM;rw[if_neg (by rintro(g | g);exact hz g;exact Y (hh ▸ g)),if_neg (by rintro⟨g,_⟩;exact J (hh ▸ g))]
 exact⟨by rw[gT,h];rfl,e2,e3⟩
theorem jN{s:ByteArray}{m:UInt8}{r:List UInt8}(h:s.data.toList=m :: r):s.toList.isEmpty=false:=by
 rw[ByteArray.toList_eq,h];rfl
theorem aOh(s:ByteArray)(d:Nd)(J:dY d=true)(ht:txt d=s)(Y:(lC s).toList.isEmpty=false∨d.kind=5):isB s d=true:=by
 unfold isB;rw[J,ht]
 rcases Y with h | h <;> simp[h]
theorem aNi(d:Nd)(hm:dY d=true):iZ (txt d) (d.kind.toNat-1)=d∧isB (txt d) d=true:=by
 obtain⟨a1,a0,h1,h7⟩:=dU d hm;have Y:=nR d hm;have hN:=aCj d hm;have hs:=nK d hm;have hB:=aOh (txt d) d hm rfl;generalize txt d=s at *;rw[qD]at hs;obtain⟨kind,fn,copy,name,n,cell⟩:=d;have h1:1≤kind:=h1;have h7:kind≤7:=h7;have a1:0≤copy∧copy≤268435456:=a1;have a0:-1≤cell∧cell≤268435456:=a0;have hN:kind=2∨kind=3∨kind=7→0≤n∧n≤268435456:=hN;have hB:(lC s).toList.isEmpty=false∨kind=5→isB s ⟨kind,fn,copy,name,n,cell⟩=true:=hB;have hs:s.data.toList=fn.data.toList++(gN copy++oO ⟨kind,fn,copy,name,n,cell⟩):=hs;have Y:rW kind copy n cell fn.toList.isEmpty (dg.bZ fn) name.toList.isEmpty (dg.bZ name)=true:=Y;clear hm;have key:∀(m:UInt8) (a t:List UInt8),kind≠5→dg.bZ fn=true→oO ⟨kind,fn,copy,name,n,cell⟩=m :: (a++t)→dg.zX (m.toNat:Int)=false→(m.toNat:Int)≠126 →
  fn0 s=fn∧jH s=copy∧(pC (bK s)).2.data.toList=m :: (a++t):=by
  intro m a t _ hf hb h2 h3;rw[hb]at hs;obtain⟨n1,n2,n3⟩:=jD fn hf;have a3:aAz (m :: (a++t)):=Or.inr (by rw[List.headD_cons];exact h2)
  have hx:(m :: (a++t))=[]∨(((m :: (a++t)).headD 0).toNat:Int)≠126:=Or.inr (by rw[List.headD_cons];exact h3)
  have a4:aAz (gN copy++(m :: (a++t))):=by
   unfold gN
   by_cases hc:0<copy
   ·rw[if_pos hc];right;show dg.zX (((126:UInt8).toNat:Int))=false;decide
   ·rw[if_neg hc];exact a3
  obtain⟨e1,e2⟩:=rH s _ _ hs (nL _ _ n1 n2 n3 a4);obtain⟨e3,e4⟩:=aMH (bK s) copy _ a1.1 a1.2 a3 hx e2;exact⟨fB e1,e3,e4⟩
 rcases(by omega:kind=1∨kind=2∨kind=3∨kind=4∨kind=5∨kind=6∨kind=7)with rfl | rfl | rfl | rfl | rfl | rfl | rfl
 ·unfold rW at Y
  simp at Y;obtain⟨rfl,rfl,_,_,hf,hn⟩:=Y;obtain⟨e1,e2,e3⟩:=key 46 name.data.toList [] (by decide) hf rfl (by decide) (by decide)
  obtain⟨m1,m2,m3⟩:=jD name hn;obtain⟨e4,e5,e6⟩:=aEq _ 46 _ _ (by decide) (by decide) (nL _ _ m1 m2 m3 (Or.inl rfl)) e3
  refine⟨?_,hB (Or.inl (by unfold lC;exact jN e4))⟩
  show(⟨1,fn0 s,jH s,jJ s,0,-1⟩:Nd)=_
  rw[e1,e2,show jJ s=name by unfold jJ;exact fB e5]
 ·have J:=hN (by simp)
  unfold rW at Y;simp at Y;obtain⟨hn,rfl,_,_,hf,_⟩:=Y;obtain rfl:=iU (s:=name) (by rw[hn];rfl)
  obtain⟨e1,e2,e3⟩:=key 36 (Lib.itoa n) [] (by decide) hf rfl (by decide) (by decide)
  obtain⟨e4,e5,e6⟩:=aEq _ 36 _ _ (by decide) (by decide) (zM n J.1 [] (Or.inl rfl)) e3
  refine⟨?_,hB (Or.inl (by unfold lC;exact jN e4))⟩
  show(⟨2,fn0 s,jH s,⟨#[]⟩,wK s,-1⟩:Nd)=_
  rw[e1,e2,show wK s=n by unfold wK jJ;rw[wY n J.1 J.2 _ e5]]
 ·have J:=hN (by simp)
  unfold rW at Y;simp at Y;obtain⟨hn,rfl,_,_,hf,_⟩:=Y;obtain rfl:=iU (s:=name) (by rw[hn];rfl)
  obtain⟨e1,e2,e3⟩:=key 64 (Lib.itoa n) [] (by decide) hf rfl (by decide) (by decide)
  obtain⟨e4,e5,e6⟩:=aEq _ 64 _ _ (by decide) (by decide) (zM n J.1 [] (Or.inl rfl)) e3
  refine⟨?_,hB (Or.inl (by unfold lC;exact jN e4))⟩
  show(⟨3,fn0 s,jH s,⟨#[]⟩,wK s,-1⟩:Nd)=_
  rw[e1,e2,show wK s=n by unfold wK jJ;rw[wY n J.1 J.2 _ e5]]
 ·unfold rW at Y
  simp at Y;obtain⟨hn,rfl,rfl,_,_,hf,_⟩:=Y;obtain rfl:=iU (s:=name) (by rw[hn];rfl)
  obtain⟨e1,e2,e3⟩:=key 40 [] [41] (by decide) hf rfl (by decide) (by decide)
  obtain⟨hh,hz⟩:=aAJ e3;refine⟨?_,hB (Or.inl ?_)⟩
  ·show(⟨4,fn0 s,jH s,⟨#[]⟩,0,-1⟩:Nd)=_
   rw[e1,e2]
  ·apply jN (m:=40) (r:=[])
   unfold lC pM;rw[if_neg (by rintro(g | g);exact hz g;rw[hh]at g;revert g;decide)]
   rw[gT,e3];rfl
 ·unfold rW at Y
  simp at Y;obtain⟨hf,rfl,rfl,_,_,hn⟩:=Y;obtain rfl:=iU (s:=fn) (by rw[hf];rfl)
  have a5:s.data.toList=name.data.toList++cellL cell:=hs;obtain⟨m1,m2,m3⟩:=jD name hn;obtain⟨e4,e5⟩:=rH _ _ _ a5 (nL _ _ m1 m2 m3 (iI cell));refine⟨?_,hB (Or.inr rfl)⟩
  show(⟨5,⟨#[]⟩,0,fn0 s,0,lM s⟩:Nd)=_
  have a2:cellL cell=[]∨(((cellL cell).headD 0).toNat:Int)≠126:=by
   unfold cellL
   by_cases h:cell=-1
   ·rw[if_pos h];exact Or.inl rfl
   ·rw[if_neg h];right;rw[List.headD_cons];decide
  obtain⟨_,e6⟩:=aMH (bK s) 0 (cellL cell) (by omega) (by omega) (iI cell) a2 e5
  have e7:(pM (pC (bK s)).2).2.2=(pC (bK s)).2:=by
   unfold pM;rw[if_pos]
   by_cases h:cell=-1
   ·left;rw[←dg.cB,e6];unfold cellL;rw[if_pos h];rfl
   ·right;unfold bM;rw[e6];unfold cellL;rw[if_neg h];rfl
  rw[fB e4,show lM s=cell by unfold lM;rw[e7];exact aKB _ cell a0.1 a0.2 e6]
 ·unfold rW at Y
  simp at Y;obtain⟨rfl,_,_,hf,hn⟩:=Y;obtain⟨e1,e2,e3⟩:=key 37 name.data.toList (cellL cell) (by decide) hf rfl (by decide) (by decide)
  obtain⟨m1,m2,m3⟩:=jD name hn;obtain⟨e4,e5,e6⟩:=aEq _ 37 _ _ (by decide) (by decide) (nL _ _ m1 m2 m3 (iI cell)) e3
  refine⟨?_,hB (Or.inl (by unfold lC;exact jN e4))⟩
  show(⟨6,fn0 s,jH s,jJ s,0,lM s⟩:Nd)=_
  rw[e1,e2,show jJ s=name by unfold jJ;exact fB e5,show lM s=cell by unfold lM;exact aKB _ cell a0.1 a0.2 e6]
 ·have J:=hN (by simp)
  unfold rW at Y;simp at Y;obtain⟨hn,_,_,hf,_⟩:=Y;obtain rfl:=iU (s:=name) (by rw[hn];rfl)
  obtain⟨e1,e2,e3⟩:=key 35 (Lib.itoa n) (cellL cell) (by decide) hf rfl (by decide) (by decide)
  obtain⟨e4,e5,e6⟩:=aEq _ 35 _ _ (by decide) (by decide) (zM n J.1 _ (iI cell).dig) e3
  refine⟨?_,hB (Or.inl (by unfold lC;exact jN e4))⟩
  show(⟨7,fn0 s,jH s,⟨#[]⟩,wK s,lM s⟩:Nd)=_
  rw[e1,e2,show wK s=n by unfold wK jJ;rw[wY n J.1 J.2 _ e5],show lM s=cell by unfold lM;exact aKB _ cell a0.1 a0.2 e6]
theorem aMf(s:ByteArray)(h:∀k,k<7→isB s (iZ s k)=false):eZ s=false:=by
 rcases hr:eZ s with _ | _
 ·rfl
 ·exfalso
  have Y:dY (dW s)=true:=by unfold eZ at hr;rw[Bool.and_eq_true]at hr;exact hr.1
  obtain⟨_,_,h1,h7⟩:=dU _ Y;obtain⟨J,e2⟩:=aNi _ Y;rw[aIX s hr]at J e2;have:=h ((dW s).kind.toNat-1) (by omega)
  rw[J,e2]at this;cases this
open RowKit Go.Sort
theorem zT(d:Nd)(w:World)(J:d.name.size≤maxLen)(Y:d.fn.size≤maxLen):Calls Tryz.prog 196 #[d.val] w (cZ (dY d) w):=by
 rw[←aIn d];exact aHw d w J Y
theorem pK(x:Int)(h0:0≤x)(J:x≤268435456):∃T:ByteArray,T.data.toList=Lib.itoa x∧T.size≤20∧∀w,Calls Tryz.prog 197 #[.int .i64 x] w fun e w'=>e=.returned (.string T)∧Below w.heap.size w w':=
 ⟨⟨(Lib.itoa x).toArray⟩,rfl,by rw[aHh];exact aDT x h0 J,fun w=>dt.aAp x w (by omega) (by omega)⟩
theorem aOZ{fn:ByteArray}{copy:Int}{name:ByteArray}{n cell:Int}(J:dY ⟨5,fn,copy,name,n,cell⟩=true):fn.data.toList=[]∧copy=0:=by
 rw[aDi _ (by show(1:Int)≤5;omega) (by show(5:Int)≤7;omega)]at J
 unfold rW at J;simp only[Bool.and_eq_true,beq_iff_eq,if_true]at J;have h1:=J.1;have h2:=J.2.1;refine⟨?_,h2⟩;have Y:=yZ fn (List.isEmpty_iff.1 h1);have:fn.data.toList.length=0:=by simpa using Y
 exact List.length_eq_zero_iff.1 this
theorem aDg(kind:Int)(hq:kind=1∨kind=4∨kind=6)(fn:ByteArray)(copy:Int)(name:ByteArray)(n cell:Int)(w:World)(hm:dY ⟨kind,fn,copy,name,n,cell⟩=true)  :
 Calls Tryz.prog 169 #[Nd.val ⟨kind,fn,copy,name,n,cell⟩] w (dG ⟨kind,fn,copy,name,n,cell⟩ w):=by
 obtain⟨aj,ai⟩:=sJ _ hm;obtain⟨ag,ah,_⟩:=dU _ hm;have av:fn.size≤16:=aj;have au:name.size≤16:=ai;have ae:0≤copy∧copy≤268435456:=ag;have af:-1≤cell∧cell≤268435456:=ah;clear aj ai ag ah
 have a1:Hid (∀w,Calls Tryz.prog 196 #[.agg #[.int .i64 kind,.string fn,.int .i64 copy,.string name,.int .i64 n,.int .i64 cell]] w fun e w'=>e=.returned (.bool true)∧Below w.heap.size w w'):=hid (fun w=>by
  have:=zT ⟨kind,fn,copy,name,n,cell⟩ w (by show name.size≤maxLen;unfold maxLen;omega) (by show fn.size≤maxLen;unfold maxLen;omega)
  rw[hm]at this
  exact this)
 have Hm:=hid hm;clear hm;obtain⟨Tc,aa,aw,a7⟩:=pK copy ae.1 ae.2;have aa:=hid aa;have a7:=hid a7;have a2:Hid (rA ⟨kind,fn,copy,name,n,cell⟩ w.heap.size (w.alloc (.cells #[.int .i64 kind,.string fn,.int .i64 copy,.string name,.int .i64 n,.int .i64 cell] 163))):=hid (rA.new ⟨kind,fn,copy,name,n,cell⟩ w _);have a8:Below w.heap.size w (w.alloc (.cells #[.int .i64 kind,.string fn,.int .i64 copy,.string name,.int .i64 n,.int .i64 cell] 163)):=(Below.refl _ _).alloc (aY _) _
 rcases hq with rfl | rfl | rfl
 all_goals
  unfold Nd.val Nd.cells
  by_cases hl:cell=-1
  ·have ao:decide (0≤cell)=false:=by rw[hl];rfl
   have ak:¬0≤cell:=by omega
   have am:decide (cell<0)=true:=by rw[hl];rfl
   have Hl:=hid hl;clear hl
   by_cases a5:0<copy
   ·have a0:=hid a5
    go_enter Tryz.func169,Tryz.ntmps169;go_wp2_with fail;refine(a1.out _).mono ?_;rintro e w1 ⟨rfl,b1⟩;have J:=hid (a2.out.on b1);have Y:=bU a8 b1;obtain⟨k0,k1,k2,k3,k4,k5⟩:=J.out;clear b1;go_wp2_with fail;refine(a7.out _).mono ?_;rintro e w2 ⟨rfl,b2⟩;have a3:=hid (J.out.on b2);have a4:=bU Y b2;clear k0 k1 k2 k3 k4 k5 b2;obtain⟨k0,k1,k2,k3,k4,k5⟩:=a3.out;go_wp2_with fail
    go_ret2
    refine dO Hm.out ?_ a4;unfold jQ gN cellL;rw[if_pos a0.out,if_pos Hl.out];simp[kZ,kR,aa.out]
   ·have a0:=hid a5
    go_enter Tryz.func169,Tryz.ntmps169;go_wp2_with fail;refine(a1.out _).mono ?_;rintro e w1 ⟨rfl,b1⟩;have J:=hid (a2.out.on b1);have Y:=bU a8 b1;obtain⟨k0,k1,k2,k3,k4,k5⟩:=J.out;clear b1;go_wp2_with fail
    go_ret2
    refine dO Hm.out ?_ Y;unfold jQ gN cellL;rw[if_neg (show ¬0<copy by have:=a0.out;omega),if_pos Hl.out]
    simp[kZ,kR]
  ·have ak:0≤cell:=by omega
   have ao:decide (0≤cell)=true:=aC ak;have am:decide (cell<0)=false:=aB (by omega)
   obtain⟨Tl,a9,ax,a6⟩:=pK cell (by omega) af.2
   have a9:=hid a9;have a6:=hid a6;have Hl:=hid hl;clear hl
   by_cases a5:0<copy
   ·have a0:=hid a5
    go_enter Tryz.func169,Tryz.ntmps169;go_wp2_with fail;refine(a1.out _).mono ?_;rintro e w1 ⟨rfl,b1⟩;have J:=hid (a2.out.on b1);have Y:=bU a8 b1;obtain⟨k0,k1,k2,k3,k4,k5⟩:=J.out;clear b1;go_wp2_with fail;refine(a7.out _).mono ?_;rintro e w2 ⟨rfl,b2⟩;have a3:=hid (J.out.on b2);have a4:=bU Y b2;clear k0 k1 k2 k3 k4 k5 b2;obtain⟨k0,k1,k2,k3,k4,k5⟩:=a3.out;go_wp2_with fail;refine(a6.out _).mono ?_;rintro e w3 ⟨rfl,b3⟩;have ap:=hid (a3.out.on b3);have ar:=bU a4 b3;clear k0 k1 k2 k3 k4 k5 b3;obtain⟨k0,k1,k2,k3,k4,k5⟩:=ap.out;go_wp2_with fail
    go_ret2
    refine dO Hm.out ?_ ar;unfold jQ gN cellL;rw[if_pos a0.out,if_neg Hl.out];simp[kZ,kR,aa.out,a9.out]
   ·have a0:=hid a5
    go_enter Tryz.func169,Tryz.ntmps169;go_wp2_with fail;refine(a1.out _).mono ?_;rintro e w1 ⟨rfl,b1⟩;have J:=hid (a2.out.on b1);have Y:=bU a8 b1;obtain⟨k0,k1,k2,k3,k4,k5⟩:=J.out;clear b1;go_wp2_with fail;refine(a6.out _).mono ?_;rintro e w2 ⟨rfl,b2⟩;have a3:=hid (J.out.on b2);have a4:=bU Y b2;clear k0 k1 k2 k3 k4 k5 b2;obtain⟨k0,k1,k2,k3,k4,k5⟩:=a3.out;go_wp2_with fail
    go_ret2
    refine dO Hm.out ?_ a4;unfold jQ gN cellL;rw[if_neg (show ¬0<copy by have:=a0.out;omega),if_neg Hl.out]
    simp[kZ,kR,a9.out]
theorem aMr(fn:ByteArray)(copy:Int)(name:ByteArray)(n cell:Int)(w:World)(J:dY ⟨1,fn,copy,name,n,cell⟩=true)  :
 Calls Tryz.prog 169 #[Nd.val ⟨1,fn,copy,name,n,cell⟩] w (dG ⟨1,fn,copy,name,n,cell⟩ w):=
 aDg 1 (by simp) fn copy name n cell w J
theorem aLy(fn:ByteArray)(copy:Int)(name:ByteArray)(n cell:Int)(w:World)(J:dY ⟨4,fn,copy,name,n,cell⟩=true)  :
 Calls Tryz.prog 169 #[Nd.val ⟨4,fn,copy,name,n,cell⟩] w (dG ⟨4,fn,copy,name,n,cell⟩ w):=
 aDg 4 (by simp) fn copy name n cell w J
theorem aMn(fn:ByteArray)(copy:Int)(name:ByteArray)(n cell:Int)(w:World)(J:dY ⟨6,fn,copy,name,n,cell⟩=true)  :
 Calls Tryz.prog 169 #[Nd.val ⟨6,fn,copy,name,n,cell⟩] w (dG ⟨6,fn,copy,name,n,cell⟩ w):=
 aDg 6 (by simp) fn copy name n cell w J
theorem aC2(kind:Int)(hq:kind=2∨kind=3∨kind=7)(fn:ByteArray)(copy:Int)(name:ByteArray)(n cell:Int)(w:World)(hm:dY ⟨kind,fn,copy,name,n,cell⟩=true)  :
 Calls Tryz.prog 169 #[Nd.val ⟨kind,fn,copy,name,n,cell⟩] w (dG ⟨kind,fn,copy,name,n,cell⟩ w):=by
 obtain⟨ar,ap⟩:=sJ _ hm;obtain⟨am,ao,_⟩:=dU _ hm;have aj:0≤n∧n≤268435456:=aCj _ hm hq;have b5:fn.size≤16:=ar;have az:name.size≤16:=ap;have ai:0≤copy∧copy≤268435456:=am;have ak:-1≤cell∧cell≤268435456:=ao;clear ar ap am ao
 have a3:Hid (∀w,Calls Tryz.prog 196 #[.agg #[.int .i64 kind,.string fn,.int .i64 copy,.string name,.int .i64 n,.int .i64 cell]] w fun e w'=>e=.returned (.bool true)∧Below w.heap.size w w'):=hid (fun w=>by
  have:=zT ⟨kind,fn,copy,name,n,cell⟩ w (by show name.size≤maxLen;unfold maxLen;omega) (by show fn.size≤maxLen;unfold maxLen;omega)
  rw[hm]at this
  exact this)
 have Hm:=hid hm;clear hm;obtain⟨Tc,ah,b7,ae⟩:=pK copy ai.1 ai.2;have ah:=hid ah;have ae:=hid ae;obtain⟨Tn,a7,b6,a5⟩:=pK n aj.1 aj.2;have a7:=hid a7;have a5:=hid a5;have a4:Hid (rA ⟨kind,fn,copy,name,n,cell⟩ w.heap.size (w.alloc (.cells #[.int .i64 kind,.string fn,.int .i64 copy,.string name,.int .i64 n,.int .i64 cell] 163))):=hid (rA.new ⟨kind,fn,copy,name,n,cell⟩ w _);have af:Below w.heap.size w (w.alloc (.cells #[.int .i64 kind,.string fn,.int .i64 copy,.string name,.int .i64 n,.int .i64 cell] 163)):=(Below.refl _ _).alloc (aY _) _
 rcases hq with rfl | rfl | rfl
 all_goals
  unfold Nd.val Nd.cells
  by_cases hl:cell=-1
  ·have ax:decide (0≤cell)=false:=by rw[hl];rfl
   have au:¬0≤cell:=by omega
   have aw:decide (cell<0)=true:=by rw[hl];rfl
   have Hl:=hid hl;clear hl
   by_cases a8:0<copy
   ·have a2:=hid a8
    go_enter Tryz.func169,Tryz.ntmps169;go_wp2_with fail;refine(a3.out _).mono ?_;rintro e w1 ⟨rfl,b1⟩;have J:=hid (a4.out.on b1);have a1:=bU af b1;obtain⟨k0,k1,k2,k3,k4,k5⟩:=J.out;clear b1;go_wp2_with fail;refine(ae.out _).mono ?_;rintro e w2 ⟨rfl,b2⟩;have Y:=hid (J.out.on b2);have a0:=bU a1 b2;clear k0 k1 k2 k3 k4 k5 b2;obtain⟨k0,k1,k2,k3,k4,k5⟩:=Y.out;go_wp2_with fail;refine(a5.out _).mono ?_;rintro e w3 ⟨rfl,b3⟩;have a6:=hid (Y.out.on b3);have a9:=bU a0 b3;clear k0 k1 k2 k3 k4 k5 b3;obtain⟨k0,k1,k2,k3,k4,k5⟩:=a6.out;go_wp2_with fail
    go_ret2
    refine dO Hm.out ?_ a9;unfold jQ gN cellL;rw[if_pos a2.out,if_pos Hl.out];simp[kZ,kR,ah.out,a7.out]
   ·have a2:=hid a8
    go_enter Tryz.func169,Tryz.ntmps169;go_wp2_with fail;refine(a3.out _).mono ?_;rintro e w1 ⟨rfl,b1⟩;have J:=hid (a4.out.on b1);have a1:=bU af b1;obtain⟨k0,k1,k2,k3,k4,k5⟩:=J.out;clear b1;go_wp2_with fail;refine(a5.out _).mono ?_;rintro e w2 ⟨rfl,b2⟩;have Y:=hid (J.out.on b2);have a0:=bU a1 b2;clear k0 k1 k2 k3 k4 k5 b2;obtain⟨k0,k1,k2,k3,k4,k5⟩:=Y.out;go_wp2_with fail
    go_ret2
    refine dO Hm.out ?_ a0;unfold jQ gN cellL;rw[if_neg (show ¬0<copy by have:=a2.out;omega),if_pos Hl.out]
    simp[kZ,kR,a7.out]
  ·have au:0≤cell:=by omega
   have ax:decide (0≤cell)=true:=aC au;have aw:decide (cell<0)=false:=aB (by omega)
   obtain⟨Tl,ag,b8,aa⟩:=pK cell (by omega) ak.2
   have ag:=hid ag;have aa:=hid aa;have Hl:=hid hl;clear hl
   by_cases a8:0<copy
   ·have a2:=hid a8
    go_enter Tryz.func169,Tryz.ntmps169;go_wp2_with fail;refine(a3.out _).mono ?_;rintro e w1 ⟨rfl,b1⟩;have J:=hid (a4.out.on b1);have a1:=bU af b1;obtain⟨k0,k1,k2,k3,k4,k5⟩:=J.out;clear b1;go_wp2_with fail;refine(ae.out _).mono ?_;rintro e w2 ⟨rfl,b2⟩;have Y:=hid (J.out.on b2);have a0:=bU a1 b2;clear k0 k1 k2 k3 k4 k5 b2;obtain⟨k0,k1,k2,k3,k4,k5⟩:=Y.out;go_wp2_with fail;refine(a5.out _).mono ?_;rintro e w3 ⟨rfl,b3⟩;have a6:=hid (Y.out.on b3);have a9:=bU a0 b3;clear k0 k1 k2 k3 k4 k5 b3;obtain⟨k0,k1,k2,k3,k4,k5⟩:=a6.out;go_wp2_with fail;refine(aa.out _).mono ?_;rintro e w4 ⟨rfl,b4⟩;have av:=hid (a6.out.on b4);have ay:=bU a9 b4;clear k0 k1 k2 k3 k4 k5 b4;obtain⟨k0,k1,k2,k3,k4,k5⟩:=av.out;go_wp2_with fail
    go_ret2
    refine dO Hm.out ?_ ay;unfold jQ gN cellL;rw[if_pos a2.out,if_neg Hl.out];simp[kZ,kR,ah.out,a7.out,ag.out]
   ·have a2:=hid a8
    go_enter Tryz.func169,Tryz.ntmps169;go_wp2_with fail;refine(a3.out _).mono ?_;rintro e w1 ⟨rfl,b1⟩;have J:=hid (a4.out.on b1);have a1:=bU af b1;obtain⟨k0,k1,k2,k3,k4,k5⟩:=J.out;clear b1;go_wp2_with fail;refine(a5.out _).mono ?_;rintro e w2 ⟨rfl,b2⟩;have Y:=hid (J.out.on b2);have a0:=bU a1 b2;clear k0 k1 k2 k3 k4 k5 b2;obtain⟨k0,k1,k2,k3,k4,k5⟩:=Y.out;go_wp2_with fail;refine(aa.out _).mono ?_;rintro e w3 ⟨rfl,b3⟩;have a6:=hid (Y.out.on b3);have a9:=bU a0 b3;clear k0 k1 k2 k3 k4 k5 b3;obtain⟨k0,k1,k2,k3,k4,k5⟩:=a6.out;go_wp2_with fail
    go_ret2
    refine dO Hm.out ?_ a9;unfold jQ gN cellL;rw[if_neg (show ¬0<copy by have:=a2.out;omega),if_neg Hl.out]
    simp[kZ,kR,a7.out,ag.out]
theorem aL9(fn:ByteArray)(copy:Int)(name:ByteArray)(n cell:Int)(w:World)(J:dY ⟨2,fn,copy,name,n,cell⟩=true)  :
 Calls Tryz.prog 169 #[Nd.val ⟨2,fn,copy,name,n,cell⟩] w (dG ⟨2,fn,copy,name,n,cell⟩ w):=
 aC2 2 (by simp) fn copy name n cell w J
theorem aLL(fn:ByteArray)(copy:Int)(name:ByteArray)(n cell:Int)(w:World)(J:dY ⟨3,fn,copy,name,n,cell⟩=true)  :
 Calls Tryz.prog 169 #[Nd.val ⟨3,fn,copy,name,n,cell⟩] w (dG ⟨3,fn,copy,name,n,cell⟩ w):=
 aC2 3 (by simp) fn copy name n cell w J
theorem aL7(fn:ByteArray)(copy:Int)(name:ByteArray)(n cell:Int)(w:World)(J:dY ⟨7,fn,copy,name,n,cell⟩=true)  :
 Calls Tryz.prog 169 #[Nd.val ⟨7,fn,copy,name,n,cell⟩] w (dG ⟨7,fn,copy,name,n,cell⟩ w):=
 aC2 7 (by simp) fn copy name n cell w J
theorem aLV(fn:ByteArray)(copy:Int)(name:ByteArray)(n cell:Int)(w:World)(hm:dY ⟨5,fn,copy,name,n,cell⟩=true)  :
 Calls Tryz.prog 169 #[Nd.val ⟨5,fn,copy,name,n,cell⟩] w (dG ⟨5,fn,copy,name,n,cell⟩ w):=by
 obtain⟨ai,ag⟩:=sJ _ hm;obtain⟨aa,af,_⟩:=dU _ hm;have ax:fn.size≤16:=ai;have aw:name.size≤16:=ag;have a3:0≤copy∧copy≤268435456:=aa;have a9:-1≤cell∧cell≤268435456:=af;clear ai ag aa af
 have a1:Hid (∀w,Calls Tryz.prog 196 #[.agg #[.int .i64 5,.string fn,.int .i64 copy,.string name,.int .i64 n,.int .i64 cell]] w fun e w'=>e=.returned (.bool true)∧Below w.heap.size w w'):=hid (fun w=>by
  have:=zT ⟨5,fn,copy,name,n,cell⟩ w (by show name.size≤maxLen;unfold maxLen;omega) (by show fn.size≤maxLen;unfold maxLen;omega)
  rw[hm]at this
  exact this)
 obtain⟨ae,a4⟩:=aOZ hm;have a8:=hid a4;have ak:=hid ae;clear ae a4;have Hm:=hid hm;clear hm;obtain⟨Tc,am,ay,ah⟩:=pK copy a3.1 a3.2;have am:=hid am;have ah:=hid ah;have a2:Hid (rA ⟨5,fn,copy,name,n,cell⟩ w.heap.size (w.alloc (.cells #[.int .i64 5,.string fn,.int .i64 copy,.string name,.int .i64 n,.int .i64 cell] 163))):=hid (rA.new ⟨5,fn,copy,name,n,cell⟩ w _);have aj:Below w.heap.size w (w.alloc (.cells #[.int .i64 5,.string fn,.int .i64 copy,.string name,.int .i64 n,.int .i64 cell] 163)):=(Below.refl _ _).alloc (aY _) _;unfold Nd.val Nd.cells
 by_cases hl:cell=-1
 ·have au:decide (0≤cell)=false:=by rw[hl];rfl
  have ao:¬0≤cell:=by omega
  have ap:decide (cell<0)=true:=by rw[hl];rfl
  have Hl:=hid hl;clear hl
  by_cases Y:0<copy
  ·have J:=hid Y
   exact absurd J.out (by have:=a8.out;omega)
  ·have J:=hid Y
   go_enter Tryz.func169,Tryz.ntmps169;go_wp2_with fail;refine(a1.out _).mono ?_;rintro e w1 ⟨rfl,b1⟩;have a0:=hid (a2.out.on b1);have a5:=bU aj b1;obtain⟨k0,k1,k2,k3,k4,k5⟩:=a0.out;clear b1;go_wp2_with fail
   go_ret2
   refine dO Hm.out ?_ a5;unfold jQ gN cellL;rw[if_neg (show ¬0<copy by have:=J.out;omega),if_pos Hl.out]
   simp[kZ,kR,ak.out]
 ·have ao:0≤cell:=by omega
  have au:decide (0≤cell)=true:=aC ao;have ap:decide (cell<0)=false:=aB (by omega)
  obtain⟨Tl,a7,az,a6⟩:=pK cell (by omega) a9.2
  have a7:=hid a7;have a6:=hid a6;have Hl:=hid hl;clear hl
  by_cases Y:0<copy
  ·have J:=hid Y
   exact absurd J.out (by have:=a8.out;omega)
  ·have J:=hid Y
   go_enter Tryz.func169,Tryz.ntmps169;go_wp2_with fail;refine(a1.out _).mono ?_;rintro e w1 ⟨rfl,b1⟩;have a0:=hid (a2.out.on b1);have a5:=bU aj b1;obtain⟨k0,k1,k2,k3,k4,k5⟩:=a0.out;clear b1;go_wp2_with fail;refine(a6.out _).mono ?_;rintro e w2 ⟨rfl,b2⟩;have av:=hid (a0.out.on b2);have ar:=bU a5 b2;clear k0 k1 k2 k3 k4 k5 b2;obtain⟨k0,k1,k2,k3,k4,k5⟩:=av.out;go_wp2_with fail
   go_ret2
   refine dO Hm.out ?_ ar;unfold jQ gN cellL;rw[if_neg (show ¬0<copy by have:=J.out;omega),if_neg Hl.out]
   simp[kZ,kR,ak.out,a7.out]
theorem aJD(d:Nd)(w:World)(hm:dY d=false)(J:d.name.size≤maxLen)(Y:d.fn.size≤maxLen) :
 Calls Tryz.prog 169 #[d.val] w (dG d w):=by
 have H:=hid (fun w=>zT d w J Y)
 rw[hm]at H;unfold cZ at H;have Hp:Hid (∀w',Below w.heap.size w w'→dG d w (.returned (.tuple #[.string ⟨#[]⟩,.int .i64 11])) w'):=hid fun w' hb=>⟨by unfold txt mV;rw[hm];rfl,hb⟩
 obtain⟨kind,fn,copy,name,n,cell⟩:=d;unfold Nd.val Nd.cells at H ⊢;clear hm J Y;go_enter Tryz.func169,Tryz.ntmps169;go_wp2_with fail;refine(H.out _).mono ?_;rintro e w1 ⟨rfl,b1⟩;go_wp2_with fail
 go_ret2
 exact Hp.out _ (bU ((Below.refl _ _).alloc (aY _) _) b1)
theorem aAp(d:Nd)(w:World)(Y:d.name.size≤maxLen)(a0:d.fn.size≤maxLen) :
 Calls Tryz.prog 169 #[d.val] w (dG d w):=by
 rcases J:dY d with _ | _
 ·exact aJD d w J Y a0
 ·obtain⟨_,_,h1,h7⟩:=dU d J
  obtain⟨kind,fn,copy,name,n,cell⟩:=d;have a2:1≤kind:=h1;have a1:kind≤7:=h7
  rcases(by omega:kind=1∨kind=2∨kind=3∨kind=4∨kind=5∨kind=6∨kind=7)with rfl | rfl | rfl | rfl | rfl | rfl | rfl
  ·exact aMr _ _ _ _ _ w J
  ·exact aL9 _ _ _ _ _ w J
  ·exact aLL _ _ _ _ _ w J
  ·exact aLy _ _ _ _ _ w J
  ·exact aLV _ _ _ _ _ w J
  ·exact aMn _ _ _ _ _ w J
  ·exact aL7 _ _ _ _ _ w J
end nm
end Go.Proofs.YtdmmkjijgoiecaaGreatDoor
