import Derived.Test.YtdmmkjijgoiecaaV06
import Derived.Test.YtdmmkjijgoiecaaUVrE
import Derived.Test.YtdmmkjijgoiecaaV10
import Derived.Test.YtdmmkjijgoiecaaV14
import Derived.Test.YtdmmkjijgoiecaaV15
import Derived.Test.YtdmmkjijgoiecaaV27
import Derived.Test.YtdmmkjijgoiecaaV22
import Derived.Test.YtdmmkjijgoiecaaV01
import Derived.Test.YtdmmkjijgoiecaaUSy9
import Derived.Test.YtdmmkjijgoiecaaUSyR
/-
  record: all that its laws stand on (merge.py's root; what shake.py is to keep is named).
-/
set_option linter.all false
namespace Go.Proofs.Ytdmmkjijgoiecaa.re
open Go.Proofs.Ytdmmkjijgoiecaa

example : True := by
  have := @sy.great_any
  have := @sy.sys_of
  have := @sy.tbl_obj
  have := @sy.tbl_fn
  have := @sy.tbl_con
  have := @sy.tbl_mk
  have := @sy.SysM.below
  have := @sy.rcompare_any
  have := @sy.eql_mk
  have := @sy.neq_mk
  have := @sy.tbl_rd
  have := @sy.sameMk_iff
  have := @sy.sameF_iff
  have := @vr.cntF_nb
  have := @vr.nb_of_cntF
  have := @vr.nb_of_cnt
  have := @vr.cnt_nb
  have := @vr.rd_number
  have := @vr.rd_fail
  have := @vr.rd_done
  have := @vr.rr_number
  have := @vr.rr_fail
  have := @vr.rr_done
  have := @po.pnum_any
  have := @po.pat_in
  have := @po.pat_out
  have := @po.plen_any
  have := @inn.into_any
  have := @ins.number_any
  have := @inn.rsorted_any
  have := @inn.sorted_any
  have := @inn.same_any
  have := @inn.rises_ext
  have := @inn.intoAll_snoc
  have := @inn.rsS_snoc
  have := @inn.mem_rsS
  have := @ins.numV_none
  have := @ins.numV_here
  have := @vx.wn_any
  have := @vx.wd_any
  trivial
end Go.Proofs.Ytdmmkjijgoiecaa.re
