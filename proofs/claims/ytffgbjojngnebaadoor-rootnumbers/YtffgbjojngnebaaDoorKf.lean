/-
  The contract of SameRoot. Own work.
-/
import Derived.Test.YtffgbjojngnebaaDoorKe
namespace Go.Proofs.YtffgbjojngnebaaDoor
open Go.RowKit

/-- the same roots -/
def sameR (a b : AR) : Bool := decide (a.serial = b.serial ∧ a.batch = b.batch ∧ a.blob = b.blob)
theorem sameR_self (a : AR) : sameR a a = true := by simp [sameR]
theorem sameR_iff (a b : AR) : sameR a b = true ↔ a = b := by
  obtain ⟨s, t, l⟩ := a
  obtain ⟨s', t', l'⟩ := b
  simp [sameR]

set_option maxRecDepth 100000 in
set_option maxHeartbeats 800000 in
theorem sameRoot_any (r q : AR) (u v : Value) (w : World) (hu : Rd w u r.blob) (hv : Rd w v q.blob) :
    Calls Tryd.prog 25 #[.agg #[.int .i64 r.serial, .int .i64 r.batch, u], .agg #[.int .i64 q.serial, .int .i64 q.batch, v]] w fun e w' => e = .returned (.bool (sameR r q)) ∧ Below w.heap.size w w' := by
  obtain ⟨s, b, l⟩ := r
  obtain ⟨s', b', l'⟩ := q
  simp only at hu hv ⊢
  obtain ⟨ao, cap, hu0, -⟩ := id hu
  obtain ⟨bo, cbp, hv0, -⟩ := id hv
  obtain ⟨n, HN⟩ := named l.length
  obtain ⟨m, HM⟩ := named l'.length
  rw [← HN.out] at hu0
  rw [← HM.out] at hv0
  subst hu0 hv0
  have HB0 : Hid (Below w.heap.size w ((w.alloc (Obj.cells #[.int .i64 s, .int .i64 b, .slice ao n cap] 24)).alloc (Obj.cells #[.int .i64 s', .int .i64 b', .slice bo m cbp] 24))) := ((Below.refl _ _).alloc (Nat.le_refl _) _).alloc (by simp) _
  by_cases h1 : s = s'
  · subst h1
    by_cases h2 : b = b'
    · subst h2
      have HE : Hid (sameR ⟨s, b, l⟩ ⟨s, b, l'⟩ = decide (l = l')) := by show _ = _; simp [sameR]
      have hsb := same_any (.slice ao n cap) (.slice bo m cbp) l l' _ (hu.below HB0.out) (hv.below HB0.out)
      go_enter Tryd.func25, Tryd.ntmps25
      go_wp2_with fail
      refine hsb.mono ?_
      rintro e w1 ⟨rfl, rfl⟩
      cases hd : decide (l = l') with
      | true =>
        go_wp2_with fail
        go_ret
        rw [HE.out, hd]
        exact ⟨rfl, HB0.out⟩
      | false =>
        go_wp2_with fail
        go_ret
        rw [HE.out, hd]
        exact ⟨rfl, HB0.out⟩
    · have h2' : (b == b') = false := by simp only [beq_eq_false_iff_ne]; exact h2
      have HE : Hid (sameR ⟨s, b, l⟩ ⟨s, b', l'⟩ = false) := by show _ = _; simp [sameR, h2]
      go_enter Tryd.func25, Tryd.ntmps25
      go_wp2
      go_ret
      rw [HE.out]
      exact ⟨rfl, HB0.out⟩
  · have h1' : (s == s') = false := by simp only [beq_eq_false_iff_ne]; exact h1
    have HE : Hid (sameR ⟨s, b, l⟩ ⟨s', b', l'⟩ = false) := by show _ = _; simp [sameR, h1]
    go_enter Tryd.func25, Tryd.ntmps25
    go_wp2
    go_ret
    rw [HE.out]
    exact ⟨rfl, HB0.out⟩
end Go.Proofs.YtffgbjojngnebaaDoor
