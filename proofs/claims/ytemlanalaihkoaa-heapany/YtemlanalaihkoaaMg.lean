/-
  The contracts of ahead, below, and of made upon a heap that New made. Own work.
-/
import Derived.Test.YtemlanalaihkoaaMf
namespace Go.Proofs.Ytemlanalaihkoaa
open Go.RowKit Go.Sort

theorem below_drew {w w' : World} (h : Below w.drew.heap.size w.drew w') : Below w.heap.size w w' := ⟨h.os, h.tape, h.output, h.size, h.block⟩
set_option maxRecDepth 100000 in
set_option maxHeartbeats 1600000 in
theorem ahead_any {w : World} {sb mb most n : Nat} {tv : Value} {f : Nat → Tm} (h : Sm w sb mb tv most n f) (a b : Nat) (ha : a < n) (hb : b < n) :
    Calls Try.prog 42 #[.pointer (some ⟨sb, 0, none⟩), .int .i64 a, .int .i64 b] w fun e w' => e = .returned (.bool (decide (Ah (f a) (f b)))) ∧ Below w.heap.size w w' := by
  obtain ⟨g, cap, hv, hcap, -, -, -, hc⟩ := h.rows (by omega)
  have s1 := h.s1
  rw [hv] at s1
  obtain ⟨a0, a1⟩ := hc a ha
  obtain ⟨b0, b1⟩ := hc b hb
  have ko := fun w => order_any (f a) (f b) w
  have hlt := cmpT_lt (f a) (f b)
  have HR : Hid (decide (Ah (f a) (f b)) = decide (cmpT (f a) (f b) < 0)) := by
    show decide _ = decide _
    rw [decide_eq_decide, hlt]
  clear hlt hc h
  rw [HR.out]
  obtain ⟨r, HR2⟩ := named (cmpT (f a) (f b))
  obtain ⟨x0, HX0⟩ := named (f a).1
  obtain ⟨x1, HX1⟩ := named (f a).2
  obtain ⟨y0, HY0⟩ := named (f b).1
  obtain ⟨y1, HY1⟩ := named (f b).2
  simp only [← HR2.out, ← HX0.out, ← HX1.out, ← HY0.out, ← HY1.out] at ko a0 a1 b0 b1 ⊢
  have haI : (a : Int) < (n : Int) := by omega
  have hbI : (b : Int) < (n : Int) := by omega
  have hs : w.drew.cell? ⟨sb, 1, none⟩ = some (.slice (some ⟨g, 0, none⟩) n cap) ∧ w.drew.cell? ⟨g, a * 2, none⟩ = some (.int .i64 x0) ∧ w.drew.cell? ⟨g, a * 2 + 1, none⟩ = some (.int .i64 x1) ∧ w.drew.cell? ⟨g, b * 2, none⟩ = some (.int .i64 y0) ∧ w.drew.cell? ⟨g, b * 2 + 1, none⟩ = some (.int .i64 y1) := ⟨s1, a0, a1, b0, b1⟩
  have HSA : Hid (∀ w' : World, Below w.drew.heap.size w.drew w' → w'.cell? ⟨sb, 1, none⟩ = some (.slice (some ⟨g, 0, none⟩) n cap) ∧ w'.cell? ⟨g, a * 2, none⟩ = some (.int .i64 x0) ∧ w'.cell? ⟨g, a * 2 + 1, none⟩ = some (.int .i64 x1) ∧ w'.cell? ⟨g, b * 2, none⟩ = some (.int .i64 y0) ∧ w'.cell? ⟨g, b * 2 + 1, none⟩ = some (.int .i64 y1)) := fun w' hb => by
    have k : ∀ (p : Addr) v, w.drew.cell? p = some v → w'.cell? p = some v := fun p v h => by rw [hb.cell (World.block_lt_of_cell? w.drew p h)]; exact h
    exact ⟨k _ _ s1, k _ _ a0, k _ _ a1, k _ _ b0, k _ _ b1⟩
  clear s1 a0 a1 b0 b1 hv hcap
  go_enter Try.func42, Try.ntmps42
  go_wp2_with fail
  go_region_held3 (fun w' => w'.cell? ⟨sb, 1, none⟩ = some (.slice (some ⟨g, 0, none⟩) n cap) ∧ w'.cell? ⟨g, a * 2, none⟩ = some (.int .i64 x0) ∧ w'.cell? ⟨g, a * 2 + 1, none⟩ = some (.int .i64 x1) ∧ w'.cell? ⟨g, b * 2, none⟩ = some (.int .i64 y0) ∧ w'.cell? ⟨g, b * 2 + 1, none⟩ = some (.int .i64 y1)) (first | assumption | (refine HSA.out _ ?_; assumption)) (with_reducible refine Calls.mono (ko _) ?_; rintro e w' ⟨rfl, hb3⟩)
  go_wp2
  go_ret
  exact ⟨rfl, below_drew (by assumption)⟩
set_option maxRecDepth 100000 in
set_option maxHeartbeats 1600000 in
theorem below_any {w : World} {sb mb most n : Nat} {tv : Value} {f : Nat → Tm} (h : Sm w sb mb tv most n f) (p : Nat) (hp : p < n) :
    Calls Try.prog 43 #[.pointer (some ⟨sb, 0, none⟩), .int .i64 p] w fun e w' => e = .returned (.int .i64 (belowF f n p : Nat)) ∧ Below w.heap.size w w' := by
  obtain ⟨g, cap, hv, -⟩ := h.rows (by omega)
  have s1 := h.s1
  rw [hv] at s1
  have hn : n ≤ 65536 := Nat.le_trans h.le h.mx
  have ka := fun a b ha hb => ahead_any h a b ha hb
  clear h
  unfold belowF
  by_cases h1 : n ≤ 2 * p + 1
  · rw [if_pos h1]
    have hI : (n : Int) ≤ 2 * (p : Int) + 1 := by omega
    go_enter Try.func43, Try.ntmps43
    go_wp2
    go_ret
    exact ⟨rfl, Below.refl _ _⟩
  · rw [if_neg h1]
    have hI : ¬ (n : Int) ≤ 2 * (p : Int) + 1 := by omega
    by_cases h2 : 2 * p + 2 < n
    · have kk := ka (2 * p + 2) (2 * p + 1) h2 (by omega)
      have hI2 : 2 * (p : Int) + 2 < (n : Int) := by omega
      clear ka
      have e1 : ((2 * p + 2 : Nat) : Int) = 2 * (p : Int) + 2 := by omega
      have e2 : ((2 * p + 1 : Nat) : Int) = 2 * (p : Int) + 1 := by omega
      rw [e1, e2] at kk
      by_cases h3 : Ah (f (2 * p + 2)) (f (2 * p + 1))
      · rw [if_pos ⟨h2, h3⟩, e1]
        rw [decide_eq_true h3] at kk
        clear h3 e1 e2 h1
        go_enter Try.func43, Try.ntmps43
        go_wp2_with (with_reducible refine Calls.mono kk ?_; rintro e w' ⟨rfl, hb3⟩)
        go_ret
        exact ⟨rfl, hb3⟩
      · rw [if_neg (fun h => h3 h.2), e2]
        rw [decide_eq_false h3] at kk
        clear h3 e1 e2 h1
        go_enter Try.func43, Try.ntmps43
        go_wp2_with (with_reducible refine Calls.mono kk ?_; rintro e w' ⟨rfl, hb3⟩)
        go_ret
        exact ⟨rfl, hb3⟩
    · rw [if_neg (fun h => h2 h.1)]
      have hI2 : ¬ 2 * (p : Int) + 2 < (n : Int) := by omega
      have e2 : ((2 * p + 1 : Nat) : Int) = 2 * (p : Int) + 1 := by omega
      rw [e2]
      clear ka
      go_enter Try.func43, Try.ntmps43
      go_wp2
      go_ret
      exact ⟨rfl, Below.refl _ _⟩
end Go.Proofs.Ytemlanalaihkoaa
