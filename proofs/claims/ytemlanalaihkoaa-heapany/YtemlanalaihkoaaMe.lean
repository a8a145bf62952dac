/-
  The contract of order. Own work.
-/
import Derived.Test.YtemlanalaihkoaaMd
namespace Go.Proofs.Ytemlanalaihkoaa
open Go.RowKit Go.Sort

set_option maxRecDepth 100000 in
set_option maxHeartbeats 1600000 in
theorem order_grow (a b : Tm) (w : World) : Calls Try.prog 38 #[.agg #[.int .i64 a.1, .int .i64 a.2], .agg #[.int .i64 b.1, .int .i64 b.2]] w fun e w' => e = .returned (.int .i64 (cmpT a b)) ∧ ∃ q os, w' = grow (w.drewN q) os := by
  obtain ⟨a1, a2⟩ := a
  obtain ⟨b1, b2⟩ := b
  have k1 := fun w => compare64 a1 b1 w
  have k2 := fun w => compareI a2 b2 w
  have k3 : ∀ w : World, Calls Try.prog 47 #[.slice (some ⟨w.heap.size, 0, none⟩) 2 2] (w.alloc (.cells #[.int .i64 (cmpI a1 b1), .int .i64 (cmpI a2 b2)] 3)).drew fun e w' => e = .returned (.int .i64 (if cmpI a1 b1 = 0 then cmpI a2 b2 else cmpI a1 b1)) ∧ w' = (w.alloc (.cells #[.int .i64 (cmpI a1 b1), .int .i64 (cmpI a2 b2)] 3)).drew := fun w =>
    or2 _ _ _ _ (C2.new w _ _ 3).c0 (C2.new w _ _ 3).c1
  unfold cmpT
  obtain ⟨r1, HR1⟩ := named (cmpI a1 b1)
  obtain ⟨r2, HR2⟩ := named (cmpI a2 b2)
  simp only [← HR1.out, ← HR2.out] at k1 k2 k3 ⊢
  obtain ⟨r3, HR3⟩ := named (if r1 = 0 then r2 else r1)
  simp only [← HR3.out] at k3 ⊢
  obtain ⟨W, HW⟩ := named ((w.alloc (.cells #[.int .i64 a1, .int .i64 a2] 30)).alloc (.cells #[.int .i64 b1, .int .i64 b2] 30))
  have hA : C2 W w.heap.size (.int .i64 a1) (.int .i64 a2) := by rw [HW.out]; exact (C2.new w _ _ 30).below ((Below.refl _ _).alloc (Nat.le_refl _) _)
  have hB : C2 W (w.heap.size + 1) (.int .i64 b1) (.int .i64 b2) := by rw [HW.out]; have := C2.new (w.alloc (.cells #[.int .i64 a1, .int .i64 a2] 30)) (.int .i64 b1) (.int .i64 b2) 30; simpa using this
  have HG : Hid (∃ os, W = grow w os) := ⟨_, by rw [HW.out, alloc_eq_grow, alloc_eq_grow, grow_grow]⟩
  obtain ⟨gA, hgA⟩ : ∃ g, Hid (g = w.heap.size) := ⟨_, rfl⟩
  obtain ⟨gB, hgB⟩ : ∃ g, Hid (g = w.heap.size + 1) := ⟨_, rfl⟩
  have hs : W.drew.cell? ⟨w.heap.size, 0, none⟩ = some (.int .i64 a1) ∧ W.drew.cell? ⟨w.heap.size, 1, none⟩ = some (.int .i64 a2) ∧ W.drew.cell? ⟨w.heap.size + 1, 0, none⟩ = some (.int .i64 b1) ∧ W.drew.cell? ⟨w.heap.size + 1, 1, none⟩ = some (.int .i64 b2) := ⟨hA.c0, hA.c1, hB.c0, hB.c1⟩
  have HSA : Hid (∀ C : Array Value, (W.alloc (.cells C 3)).drew.cell? ⟨w.heap.size, 0, none⟩ = some (.int .i64 a1) ∧ (W.alloc (.cells C 3)).drew.cell? ⟨w.heap.size, 1, none⟩ = some (.int .i64 a2) ∧ (W.alloc (.cells C 3)).drew.cell? ⟨w.heap.size + 1, 0, none⟩ = some (.int .i64 b1) ∧ (W.alloc (.cells C 3)).drew.cell? ⟨w.heap.size + 1, 1, none⟩ = some (.int .i64 b2)) := fun C => by
    have hb : Below W.heap.size W (W.alloc (.cells C 3)) := (Below.refl _ _).alloc (Nat.le_refl _) _
    exact ⟨(hA.below hb).c0, (hA.below hb).c1, (hB.below hb).c0, (hB.below hb).c1⟩
  clear hA hB
  go_enter Try.func38, Try.ntmps38
  go_wp2_with (rw [← HW.out])
  go_region_held3 (fun w' => w'.cell? ⟨w.heap.size, 0, none⟩ = some (.int .i64 a1) ∧ w'.cell? ⟨w.heap.size, 1, none⟩ = some (.int .i64 a2) ∧ w'.cell? ⟨w.heap.size + 1, 0, none⟩ = some (.int .i64 b1) ∧ w'.cell? ⟨w.heap.size + 1, 1, none⟩ = some (.int .i64 b2)) (first | assumption | exact HSA.out _) (first | (with_reducible refine Calls.mono (k1 _) ?_; rintro e w' ⟨rfl, rfl⟩) | (with_reducible refine Calls.mono (k2 _) ?_; rintro e w' ⟨rfl, rfl⟩) | (with_reducible refine Calls.mono (k3 _) ?_; rintro e w' ⟨rfl, rfl⟩))
  all_goals
    go_wp2
    go_ret
    refine ⟨rfl, ?_⟩
    obtain ⟨os, hos⟩ := HG.out
    exact ⟨1, _, by rw [hos, alloc_eq_grow, grow_grow]; rfl⟩
end Go.Proofs.Ytemlanalaihkoaa
