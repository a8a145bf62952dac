/-
  The contract of large; a list of deeds that came in. Own work.
-/
import Derived.Test.YtloigepmmhcibaaYa
namespace Go.Proofs.Ytloigepmmhcibaa
open Go.RowKit

/-- has a deed more than is looked at? -/
def largeB (x : Dd) : Bool := decide (100 < x.A.size) || decide (100 < x.To.size) || decide (300 < x.b.length) || decide (50 < x.ks.length) || decide (50 < x.ts.length)

theorem xret {a b : Bool} (h : a = b) : Ending.returned (.bool a) = .returned (.bool b) := by rw [h]

set_option maxRecDepth 100000 in
set_option maxHeartbeats 1600000 in
theorem large_any (w : World) (x : Dd) (g : x.good w) : Calls Try.prog 28 #[.agg x.cells.toArray] w fun e w' => e = .returned (.bool (largeB x)) ∧ Below w.heap.size w w' := by
  obtain ⟨dn, A, To, bv, b, n, kv, ks, tv, ts⟩ := x
  obtain ⟨g1, g2, g3, g4, g5, g6, g7, g8⟩ := g
  simp only at g1 g2 g3 g4 g5 g6 g7 g8
  obtain ⟨bo, bc, hb, -⟩ := id g2
  subst hb
  obtain ⟨ko, kc, hk, -⟩ := id g5
  subst hk
  obtain ⟨tro, tc, ht, -⟩ := id g7
  subst ht
  have hcells : (Dd.mk dn A To (.slice bo b.length bc) b n (.slice ko ks.length kc) ks (.slice tro ts.length tc) ts).cells.toArray = #[.int .u8 (dn : Int), .string A, .string To, .slice bo b.length bc, .int .i64 n, .slice ko ks.length kc, .slice tro ts.length tc] := rfl
  rw [hcells]
  clear hcells g1 g2 g3 g4 g5 g6 g7 g8
  have hl : largeB ⟨dn, A, To, .slice bo b.length bc, b, n, .slice ko ks.length kc, ks, .slice tro ts.length tc, ts⟩ = (decide (100 < A.size) || decide (100 < To.size) || decide (300 < b.length) || decide (50 < ks.length) || decide (50 < ts.length)) := rfl
  rw [hl]
  clear hl
  have hB : Below w.heap.size w (w.alloc (.cells #[.int .u8 (dn : Int), .string A, .string To, .slice bo b.length bc, .int .i64 n, .slice ko ks.length kc, .slice tro ts.length tc] 49)) := (Below.refl _ _).alloc (Nat.le_refl _) _
  go_enter Try.func28, Try.ntmps28
  go_wp2
  all_goals
    go_ret
    refine ⟨xret ?_, hB⟩
    rw [Bool.eq_iff_iff]
    simp only [Bool.or_eq_true, decide_eq_true_eq, true_iff]
    omega

/-- a list of deeds -/
def RdD (w : World) (v : Value) (xs : List Dd) : Prop :=
  ∃ ao cap, v = .slice ao xs.length cap ∧ xs.length ≤ cap ∧ cap ≤ maxLen ∧ ∀ k (h : k < xs.length), ∃ b off, ao = some ⟨b, off, none⟩ ∧ b < w.heap.size ∧ xs[k].good w ∧ ∀ j (hj : j < 7), w.cell? ⟨b, off + k * 7 + j, none⟩ = some (xs[k].cells[j]'(by simp [Dd.cells]; omega))
end Go.Proofs.Ytloigepmmhcibaa
