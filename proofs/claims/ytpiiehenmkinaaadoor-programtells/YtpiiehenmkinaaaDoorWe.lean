/-
  The contracts of bytes.check, Seal, CopyBytes, slices.Equal. Own work.
-/
import Derived.Test.YtpiiehenmkinaaaDoorWd
import Derived.Deep.QuietTactic
import Derived.BigQuiet
namespace Go.Proofs.YtpiiehenmkinaaaDoor
open Go.RowKit

set_option maxRecDepth 100000 in
set_option maxHeartbeats 800000 in
theorem copyBytes_any (v : Value) (l : List UInt8) (w : World) (hrd : Rd w v l) (hl : l.length ≤ 140737488355000) :
    Calls Tryd.prog 24 #[v] w fun e w' => ∃ v, e = .returned v ∧ Own w' w.heap.size v l ∧ Below w.heap.size w w' := by
  obtain ⟨i0, hi, hz0, hz1, hz2⟩ := info_parts Tryd.info5
  obtain ⟨ao, cap, hv, -⟩ := id hrd
  subst hv
  obtain ⟨n, HN⟩ := named l.length
  rw [← HN.out] at hl hrd ⊢
  go_enter Tryd.func24, Tryd.ntmps24
  go_wp2_with (at_make; go_must (refine wpList_make_own _ rfl (.const (.int .i64 0)) (.tmp 5) 25 rfl w.heap.size 5 i0 (.int .u8 0) 1 Tryd.underlying25 hi hz0 hz1 .i64 .i64 _ n rfl rfl rfl ?_ ?_ ?_ ?_))
  · rw [hz2]; omega
  · unfold maxLen; omega
  · exact Nat.le_refl _
  · intro w1 hown hg
    have hb1 : Below w.heap.size w w1 := (Below.refl _ _).grown hg (Nat.le_refl _) (fun k hk => by cases hk)
    have hrd1 := hrd.below hb1
    have hsz := hb1.size
    have hown0 : Own w1 w.heap.size (.slice (some ⟨w.heap.size, 0, none⟩) 0 n) [] := hown
    clear hg hown hrd
    have hln : 0 + l.length ≤ 140737488355328 := by rw [← HN.out]; omega
    have HL : Hid _ := hln
    clear hln
    go_wp2_with (at_builtin; go_must (refine wpList_append_rd _ rfl (.tmp 7) (.tmp 8) 25 rfl i0 Tryd.underlying25 hi hz0 hz1 hz2 w.heap.size _ _ rfl rfl [] l hown0 hrd1 HL.out hsz ?_))
    intro v' w' hown' hg
    have hb' : Below w.heap.size w w' := hb1.grown hg hsz (fun k hk => (World.ownsRow.lt hown0 k hk).1)
    clear hg
    go_wp2
    go_ret
    exact ⟨_, rfl, hown', hb'⟩

end Go.Proofs.YtpiiehenmkinaaaDoor
