/-
  The contract of the document's both. Own work.
-/
import Derived.Test.YtpiiehenmkinaaaDoorLow
import Derived.Test.YtpiiehenmkinaaaDoorMath
namespace Go.Proofs.YtpiiehenmkinaaaDoor
open Go.RowKit

set_option maxRecDepth 100000 in
set_option maxHeartbeats 800000 in
theorem both_any (v0 v1 : Value) (l0 l1 : List UInt8) (w : World) (h0 : Rd w v0 l0) (h1 : Rd w v1 l1) (hl : l0.length + l1.length ≤ 140737488355000) :
    Calls Tryd.prog 51 #[v0, v1] w fun e w' => ∃ v, e = .returned v ∧ Own w' w.heap.size v (l0 ++ l1) ∧ Below w.heap.size w w' := by
  obtain ⟨i0, hi, hz0, hz1, hz2⟩ := info_parts Tryd.info5
  obtain ⟨a0, c0, hv, -⟩ := id h0
  subst hv
  obtain ⟨a1, c1, hv, -⟩ := id h1
  subst hv
  go_enter Tryd.func51, Tryd.ntmps51
  go_wp2_with (at_make; go_must (refine wpList_make_own _ rfl (.const (.int .i64 0)) (.tmp 10) 25 rfl w.heap.size 5 i0 (.int .u8 0) 1 Tryd.underlying25 hi hz0 hz1 .i64 .i64 _ (l0.length + l1.length) rfl rfl ?_ ?_ ?_ ?_ ?_))
  · omega
  · rw [hz2]; omega
  · unfold maxLen; omega
  · exact Nat.le_refl _
  · intro w1 hown hg
    have hb1 : Below w.heap.size w w1 := (Below.refl _ _).grown hg (Nat.le_refl _) (fun k hk => by cases hk)
    have hr0 := h0.below hb1
    have hr1 := h1.below hb1
    have hsz := hb1.size
    have hown0 : Own w1 w.heap.size (.slice (some ⟨w.heap.size, 0, none⟩) 0 (l0.length + l1.length)) [] := hown
    clear hg hown h0
    go_wp2_with (at_builtin; go_must (refine wpList_append_rd _ rfl (.tmp 12) (.tmp 13) 25 rfl i0 Tryd.underlying25 hi hz0 hz1 hz2 w.heap.size _ _ rfl rfl [] l0 hown0 hr0 ?_ hsz ?_))
    · simp; omega
    intro v2 w2 hown2 hg2
    have hb2 : Below w.heap.size w w2 := hb1.grown hg2 hsz (fun k hk => (World.ownsRow.lt hown0 k hk).1)
    have hr2 := h1.below hb2
    have hsz2 := hb2.size
    clear hg2 hown0 hr0 hr1 hb1
    go_wp2_with (at_builtin; go_must (refine wpList_append_rd _ rfl (.tmp 15) (.tmp 16) 25 rfl i0 Tryd.underlying25 hi hz0 hz1 hz2 w.heap.size _ _ rfl rfl l0 l1 hown2 hr2 ?_ hsz2 ?_))
    · omega
    intro v3 w3 hown3 hg3
    have hb3 : Below w.heap.size w w3 := hb2.grown hg3 hsz2 (fun k hk => (World.ownsRow.lt hown2 k hk).1)
    clear hg3
    go_wp2
    go_ret
    exact ⟨_, rfl, hown3, hb3⟩
end Go.Proofs.YtpiiehenmkinaaaDoor
