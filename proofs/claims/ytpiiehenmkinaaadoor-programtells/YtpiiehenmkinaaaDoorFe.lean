/-
  The contracts of SameBytes, gets, errs, awake. Own work.
-/
import Derived.Test.YtpiiehenmkinaaaDoorWg
import Derived.Test.YtpiiehenmkinaaaDoorLow
import Derived.Lib.SlBytesConst
namespace Go.Proofs.YtpiiehenmkinaaaDoor
open Go.RowKit

set_option maxRecDepth 100000 in
set_option maxHeartbeats 800000 in
theorem same_any (v0 v1 : Value) (l0 l1 : List UInt8) (w : World) (h0 : Rd w v0 l0) (h1 : Rd w v1 l1) :
    Calls Tryd.prog 16 #[v0, v1] w fun e w' => e = .returned (.bool (decide (l0 = l1))) ∧ w' = w := by
  obtain ⟨a0, c0, hv, -⟩ := id h0
  subst hv
  obtain ⟨a1, c1, hv, -⟩ := id h1
  subst hv
  have hT := run_toStr
  have hs0 := run_str w _ l0 h0
  have hs1 := run_str w _ l1 h1
  go_enter Tryd.func16, Tryd.ntmps16
  go_wp2
  go_ret
  exact ⟨ret_bool (by rw [Bool.eq_iff_iff]; simp), rfl⟩


end Go.Proofs.YtpiiehenmkinaaaDoor
