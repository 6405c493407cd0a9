import Derived.Shelf.Strings.SlTrimAscii
import Derived.Test.YtdmmkjijgoiecaaGreatDoorY25
set_option linter.all false
set_option maxHeartbeats 4000000
namespace Go.Proofs.YtdmmkjijgoiecaaGreatDoor
open Lib(hid)
set_option maxRecDepth 100000
namespace sy
open RowKit mem
theorem pK(p:UInt8→Bool):∀m:List UInt8,m.dropWhile p=[]↔m.all p=true
 | []=>by simp
 | a :: r=>by
  rcases h:p a with _ | _
  ·simp[List.dropWhile_cons,h]
  ·simp only[List.dropWhile_cons,h,if_true,List.all_cons,Bool.true_and]
   exact pK p r
theorem vQ(p:UInt8→Bool):∀m:List UInt8,(m.takeWhile p).all p=true
 | []=>rfl
 | a :: r=>by
  rcases h:p a with _ | _
  ·simp[List.takeWhile_cons,h]
  ·simp only[List.takeWhile_cons,h,if_true,List.all_cons,Bool.true_and]
   exact vQ p r
theorem aIG(l:List UInt8):(Lib.trimS l [105,112]).isEmpty=l.all ipU:=by
 have J:∀b:UInt8,[105,112].contains b=ipU b:=fun b=>by simp[ipU];rfl
 rw[Bool.eq_iff_iff,List.isEmpty_iff];unfold Lib.trimS Lib.trimLeftS Lib.trimRightS;simp only[J];rw[pK,List.all_reverse];constructor
 ·intro h
  rw[←List.all_reverse,←List.takeWhile_append_dropWhile (p:=ipU) (l:=l.reverse),List.all_append,h,Bool.and_true];exact vQ _ _
 ·intro h
  rw[←List.all_reverse]at h;rw[(pK ipU l.reverse).2 h];rfl
theorem aHa(s:ByteArray)(w:World)(hs:s.size≤maxLen):Calls Tryz.prog 199 #[.string s,.string ⟨#[105,112]⟩] w fun e w'=>e=.returned (.string ⟨(Lib.trimS s.data.toList [105,112]).toArray⟩)∧Below w.heap.size w w':=
 Any.strings_Trim_laid Tryz.lays160 (by kernel_rfl) s ⟨#[105,112]⟩ w (by unfold maxLen at hs;omega) (by decide) (ascii_of_all (by decide))
theorem vN(s:ByteArray)(least most:Nat)(w:World)(hs:s.size≤maxLen):Calls Tryz.prog 171 #[.string s,.int .i64 (least:Int),.int .i64 (most:Int)] w (dA (eD s least most) w):=by
 have HT:=hid (aHa s w hs);unfold maxLen at hs;have J:Hid (eD s least most=(s.data.toList.all ipU&&(decide ((least:Int)≤(s.size:Int))&&decide ((s.size:Int)≤(most:Int))))):=hid (by unfold eD;rw[aEC];congr 2 <;> simp[Int.ofNat_le]);unfold dA;generalize eD s least most=R at *;go_enter Tryz.func171,Tryz.ntmps171;by_cases h1:(least:Int)≤(s.size:Int)
 ·have d1:decide ((least:Int)≤(s.size:Int))=true:=aC h1
  by_cases h2:(s.size:Int)≤(most:Int)
  ·have d2:decide ((s.size:Int)≤(most:Int))=true:=aC h2
   rw[d1,d2,Bool.and_true,Bool.and_true]at J
   go_wp2_with (refine HT.out.mono ?_;rintro e w2 ⟨rfl,Y⟩)
   go_ret;exact⟨congrArg (fun b=>Ending.returned (.bool b)) ((aIG _).trans J.out.symm),Y⟩
  ·have d2:decide ((s.size:Int)≤(most:Int))=false:=aB h2
   rw[d1,d2,Bool.and_false,Bool.and_false]at J;go_wp2_with fail;go_ret;exact⟨congrArg (fun b=>Ending.returned (.bool b)) J.out.symm,Below.refl _ _⟩
 ·have d1:decide ((least:Int)≤(s.size:Int))=false:=aB h1
  rw[d1,Bool.false_and,Bool.and_false]at J;go_wp2_with fail;go_ret;exact⟨congrArg (fun b=>Ending.returned (.bool b)) J.out.symm,Below.refl _ _⟩
end sy
end Go.Proofs.YtdmmkjijgoiecaaGreatDoor
