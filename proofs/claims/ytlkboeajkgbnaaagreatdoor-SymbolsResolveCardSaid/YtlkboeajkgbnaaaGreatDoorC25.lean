import Derived.Shelf.Strings.SlTrimAscii
import Derived.Test.YtlkboeajkgbnaaaGreatDoorC08
set_option linter.all false
set_option maxHeartbeats 4000000
namespace Go.Proofs.YtlkboeajkgbnaaaGreatDoor
open Lib(hid)
set_option maxRecDepth 100000
namespace sy
open RowKit mem
theorem dropWhile_nil(p:UInt8→Bool):∀m:List UInt8,m.dropWhile p=[]↔m.all p=true
 | []=>by simp
 | a :: r=>by
  rcases h:p a with _ | _
  ·simp[List.dropWhile_cons,h]
  ·simp only[List.dropWhile_cons,h,if_true,List.all_cons,Bool.true_and]
   exact dropWhile_nil p r
theorem takeWhile_all(p:UInt8→Bool):∀m:List UInt8,(m.takeWhile p).all p=true
 | []=>rfl
 | a :: r=>by
  rcases h:p a with _ | _
  ·simp[List.takeWhile_cons,h]
  ·simp only[List.takeWhile_cons,h,if_true,List.all_cons,Bool.true_and]
   exact takeWhile_all p r
theorem trim_nil(l:List UInt8):(Lib.trimS l [105,112]).isEmpty=l.all ipU:=by
 have hp:∀b:UInt8,[105,112].contains b=ipU b:=fun b=>by simp[ipU];rfl
 rw[Bool.eq_iff_iff,List.isEmpty_iff];unfold Lib.trimS Lib.trimLeftS Lib.trimRightS;simp only[hp];rw[dropWhile_nil,List.all_reverse];constructor
 ·intro h
  rw[←List.all_reverse,←List.takeWhile_append_dropWhile (p:=ipU) (l:=l.reverse),List.all_append,h,Bool.and_true];exact takeWhile_all _ _
 ·intro h
  rw[←List.all_reverse]at h;rw[(dropWhile_nil ipU l.reverse).2 h];rfl
theorem trim_any(s:ByteArray)(w:World)(hs:s.size≤maxLen):Calls Tryz.prog 110 #[.string s,.string ⟨#[105,112]⟩] w fun e w'=>e=.returned (.string ⟨(Lib.trimS s.data.toList [105,112]).toArray⟩)∧Below w.heap.size w w':=
 Any.strings_Trim_laid Tryz.lays160 (by kernel_rfl) s ⟨#[105,112]⟩ w (by unfold maxLen at hs;omega) (by decide) (ascii_of_all (by decide))
theorem kinds_any(s:ByteArray)(least most:Nat)(w:World)(hs:s.size≤maxLen):Calls Tryz.prog 86 #[.string s,.int .i64 (least:Int),.int .i64 (most:Int)] w (BPost (kindsB s least most) w):=by
 have HT:=hid (trim_any s w hs);unfold maxLen at hs;have hR:Hid (kindsB s least most=(s.data.toList.all ipU&&(decide ((least:Int)≤(s.size:Int))&&decide ((s.size:Int)≤(most:Int))))):=hid (by unfold kindsB;rw[ipB_eq];congr 2 <;> simp[Int.ofNat_le]);unfold BPost;generalize kindsB s least most=R at *;go_enter Tryz.func86,Tryz.ntmps86;by_cases h1:(least:Int)≤(s.size:Int)
 ·have d1:decide ((least:Int)≤(s.size:Int))=true:=decide_eq_true h1
  by_cases h2:(s.size:Int)≤(most:Int)
  ·have d2:decide ((s.size:Int)≤(most:Int))=true:=decide_eq_true h2
   rw[d1,d2,Bool.and_true,Bool.and_true]at hR
   go_wp2_with (refine HT.out.mono ?_;rintro e w2 ⟨rfl,hb2⟩)
   go_ret;exact⟨congrArg (fun b=>Ending.returned (.bool b)) ((trim_nil _).trans hR.out.symm),hb2⟩
  ·have d2:decide ((s.size:Int)≤(most:Int))=false:=decide_eq_false h2
   rw[d1,d2,Bool.and_false,Bool.and_false]at hR;go_wp2_with fail;go_ret;exact⟨congrArg (fun b=>Ending.returned (.bool b)) hR.out.symm,Below.refl _ _⟩
 ·have d1:decide ((least:Int)≤(s.size:Int))=false:=decide_eq_false h1
  rw[d1,Bool.false_and,Bool.and_false]at hR;go_wp2_with fail;go_ret;exact⟨congrArg (fun b=>Ending.returned (.bool b)) hR.out.symm,Below.refl _ _⟩
end sy
end Go.Proofs.YtlkboeajkgbnaaaGreatDoor
