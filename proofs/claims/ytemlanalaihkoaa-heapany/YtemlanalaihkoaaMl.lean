/-
  The contracts of Next, Pop. Own work.
-/
import Derived.Test.YtemlanalaihkoaaMk
namespace Go.Proofs.Ytemlanalaihkoaa
open Go.RowKit Go.Sort

set_option maxRecDepth 100000 in
set_option maxHeartbeats 1600000 in
theorem next_no {w : World} {h : Value} {most : Nat} {F : Nat → Prop} (hp : Hp w h most [] F) :
    Calls Try.prog 29 #[h] w fun e w' => e = .returned (.tuple #[.agg #[.int .i64 0, .int .i64 0], .bool false]) ∧ Below w.heap.size w w' := by
  obtain ⟨W, HW⟩ := named (w.alloc (.cells #[.int .i64 0, .int .i64 0] 30))
  have hB : Below w.heap.size w W := by rw [HW.out]; exact (Below.refl _ _).alloc (Nat.le_refl _) _
  have hC := C2.new w (.int .i64 0) (.int .i64 0) 30
  rw [← HW.out] at hC
  obtain ⟨-, r0, r1, r2, r3⟩ := hC
  have HB := hide hB
  have kl := len_any (hp.below hB)
  obtain ⟨hb, rfl, -⟩ := hp.ne
  clear hp hB
  go_enter Try.func29, Try.ntmps29
  go_wp2_with (rw [← HW.out])
  (with_reducible refine Calls.mono kl ?_)
  rintro e w' ⟨rfl, rfl⟩
  go_wp2_with fail
  refine bodyPost_ret (v := .tuple #[.agg #[.int .i64 0, .int .i64 0], .bool false]) (by simp [results, Try.results29, go_sem, r0, r1]) rfl ⟨rfl, ?_⟩
  exact (HB.out.setCell (p := ⟨w.heap.size, 0, none⟩) (Nat.le_refl _) _).setCell (p := ⟨w.heap.size, 1, none⟩) (Nat.le_refl _) _
set_option maxRecDepth 100000 in
set_option maxHeartbeats 1600000 in
theorem pop_no {w : World} {h : Value} {most : Nat} {F : Nat → Prop} (hp : Hp w h most [] F) :
    Calls Try.prog 25 #[h] w fun e w' => e = .returned (.tuple #[.agg #[.int .i64 0, .int .i64 0], .bool false]) ∧ Below w.heap.size w w' := by
  obtain ⟨W, HW⟩ := named (w.alloc (.cells #[.int .i64 0, .int .i64 0] 30))
  have hB : Below w.heap.size w W := by rw [HW.out]; exact (Below.refl _ _).alloc (Nat.le_refl _) _
  have hC := C2.new w (.int .i64 0) (.int .i64 0) 30
  rw [← HW.out] at hC
  obtain ⟨-, r0, r1, r2, r3⟩ := hC
  have HB := hide hB
  have kl := len_any (hp.below hB)
  obtain ⟨hb, rfl, -⟩ := hp.ne
  clear hp hB
  go_enter Try.func25, Try.ntmps25
  go_wp2_with (rw [← HW.out])
  (with_reducible refine Calls.mono kl ?_)
  rintro e w' ⟨rfl, rfl⟩
  go_wp2_with fail
  refine bodyPost_ret (v := .tuple #[.agg #[.int .i64 0, .int .i64 0], .bool false]) (by simp [results, Try.results25, go_sem, r0, r1]) rfl ⟨rfl, ?_⟩
  exact (HB.out.setCell (p := ⟨w.heap.size, 0, none⟩) (Nat.le_refl _) _).setCell (p := ⟨w.heap.size, 1, none⟩) (Nat.le_refl _) _
set_option maxRecDepth 100000 in
set_option maxHeartbeats 1600000 in
theorem next_yes {w : World} {h : Value} {most : Nat} {x : Tm} {L : List Tm} {F : Nat → Prop} (hp : Hp w h most (x :: L) F) :
    Calls Try.prog 29 #[h] w fun e w' => e = .returned (.tuple #[.agg #[.int .i64 x.1, .int .i64 x.2], .bool true]) ∧ Below w.heap.size w w' := by
  obtain ⟨W, HW⟩ := named (w.alloc (.cells #[.int .i64 0, .int .i64 0] 30))
  have hB : Below w.heap.size w W := by rw [HW.out]; exact (Below.refl _ _).alloc (Nat.le_refl _) _
  have hC := C2.new w (.int .i64 0) (.int .i64 0) 30
  rw [← HW.out] at hC
  obtain ⟨-, r0, r1, r2, r3⟩ := hC
  have HB := hide hB
  have kl := len_any (hp.below hB)
  have hp' := hp.below hB
  obtain ⟨hb, sb, mb, tv, f, l, rfl, h2, h3, h4, h5, h6, h7, h8, h9, h10⟩ := hp'
  have c0 : W.cell? ⟨hb, 0, none⟩ = some (.pointer (some ⟨sb, 0, none⟩)) := by rw [cell_of h2]; rfl
  have s1 := h3.s1
  have hf := h7.first h6
  have hlen : 0 < (x :: L).length := by simp
  obtain ⟨g, cap, htv, hcap, -, -, -, hcc⟩ := h3.rows hlen
  rw [htv] at s1
  obtain ⟨g0, g1⟩ := hcc 0 hlen
  rw [hf] at g0 g1
  obtain ⟨N, HN⟩ := named (x :: L).length
  rw [← HN.out] at s1 kl hlen
  have hlI : 0 < (N : Int) := by omega
  have hlI2 : ¬ (N : Int) = 0 := by omega
  obtain ⟨x0, x1⟩ := x
  simp only [Nat.zero_mul, Nat.zero_add] at g0 g1
  clear hp hB h2 h3 h4 h5 h6 h7 h8 h9 h10 hcc htv hf
  go_enter Try.func29, Try.ntmps29
  go_wp2_with (rw [← HW.out])
  (with_reducible refine Calls.mono kl ?_)
  rintro e w' ⟨rfl, rfl⟩
  go_wp2_with fail
  refine bodyPost_ret (v := .tuple #[.agg #[.int .i64 x0, .int .i64 x1], .bool true]) (by simp [results, Try.results29, go_sem, r0, r1]) rfl ⟨rfl, ?_⟩
  exact (HB.out.setCell (p := ⟨w.heap.size, 0, none⟩) (Nat.le_refl _) _).setCell (p := ⟨w.heap.size, 1, none⟩) (Nat.le_refl _) _
set_option maxRecDepth 100000 in
set_option maxHeartbeats 1600000 in
/-- the state's side of Pop -/
theorem first_struck {w : World} {h : Value} {most : Nat} {x : Tm} {L : List Tm} {F : Nat → Prop} (hp : Hp w h most (x :: L) F) :
    ∃ hb sb, h = .pointer (some ⟨hb, 0, none⟩) ∧ w.cell? ⟨hb, 0, none⟩ = some (.pointer (some ⟨sb, 0, none⟩)) ∧
      Calls Try.prog 35 #[.pointer (some ⟨sb, 0, none⟩), .int .i64 0] w fun e w' => e = .returned (.agg #[.int .i64 x.1, .int .i64 x.2]) ∧ Hp w' h most L F ∧ Step F w w' F := by
  have hd := del_head hp.srt
  obtain ⟨hb, sb, mb, tv, f, l, rfl, h2, h3, h4, h5, h6, h7, h8, h9, h10⟩ := hp
  have hf := h7.first h6
  refine ⟨hb, sb, rfl, by rw [cell_of h2]; rfl, ?_⟩
  have hst := strike_any h3 h4 h5 h6 0 (by omega)
  rw [hf] at hst
  refine hst.mono ?_
  rintro e w' ⟨rfl, hk⟩
  have := hk.hp h2 h3 h4 h5 h7 h8 h9 h10 (by omega)
  rw [hf, hd] at this
  exact ⟨rfl, this⟩
set_option maxRecDepth 100000 in
set_option maxHeartbeats 1600000 in
theorem pop_yes {w : World} {h : Value} {most : Nat} {x : Tm} {L : List Tm} {F : Nat → Prop} (hp : Hp w h most (x :: L) F) :
    Calls Try.prog 25 #[h] w fun e w' => e = .returned (.tuple #[.agg #[.int .i64 x.1, .int .i64 x.2], .bool true]) ∧ Hp w' h most L F ∧ Step F w w' F := by
  obtain ⟨W, HW⟩ := named (w.alloc (.cells #[.int .i64 0, .int .i64 0] 30))
  have hB : Below w.heap.size w W := by rw [HW.out]; exact (Below.refl _ _).alloc (Nat.le_refl _) _
  have hC := heap_new w (.cells #[.int .i64 0, .int .i64 0] 30)
  rw [← HW.out] at hC
  have kl := len_any (hp.below hB)
  obtain ⟨hb, sb, rfl, c0, hst⟩ := first_struck (hp.below hB)
  have HE : Hid (∀ w', Hp w' (.pointer (some ⟨hb, 0, none⟩)) most L F → Step F W w' F → (w'.cell? ⟨w.heap.size, 0, none⟩ = some (.int .i64 0) ∧ w'.cell? ⟨w.heap.size, 1, none⟩ = some (.int .i64 0) ∧ w'.frozen? ⟨w.heap.size, 0, none⟩ = false ∧ w'.frozen? ⟨w.heap.size, 1, none⟩ = false) ∧
      Hp ((w'.setCell ⟨w.heap.size, 0, none⟩ (.int .i64 x.1)).setCell ⟨w.heap.size, 1, none⟩ (.int .i64 x.2)) (.pointer (some ⟨hb, 0, none⟩)) most L F ∧ Step F w ((w'.setCell ⟨w.heap.size, 0, none⟩ (.int .i64 x.1)).setCell ⟨w.heap.size, 1, none⟩ (.int .i64 x.2)) F) := by
    intro w' k1 k2
    have hnF : ¬ F w.heap.size := fun hF => by have := hp.sub _ hF; omega
    have hh := (k2.chg.block _ (lt_of hC) hnF).trans hC
    refine ⟨⟨?_, ?_, frozen_of hh _, frozen_of hh _⟩, k1.heap (by simp [World.setCell]) (fun b hF => two_heap w' w.heap.size 0 _ _ b (by rintro rfl; exact hnF hF)), ?_, fun _ h => .inl h⟩
    · rw [cell_of hh]; rfl
    · rw [cell_of hh]; rfl
    · exact (((Chg.ofBelow hB F).trans k2.chg (fun _ _ h => h)).setCell (p := ⟨w.heap.size, 0, none⟩) (.inr (Nat.le_refl _)) _).setCell (p := ⟨w.heap.size, 1, none⟩) (.inr (Nat.le_refl _)) _
  have hlen : 0 < (x :: L).length := by simp
  obtain ⟨N, HN⟩ := named (x :: L).length
  rw [← HN.out] at kl hlen
  have hlI2 : ¬ (N : Int) = 0 := by omega
  obtain ⟨x0, x1⟩ := x
  clear hp hB
  go_enter Try.func25, Try.ntmps25
  go_wp2_with (rw [← HW.out])
  (with_reducible refine Calls.mono kl ?_)
  rintro e w' ⟨rfl, rfl⟩
  go_wp2_with fail
  (with_reducible refine Calls.mono hst ?_)
  clear hst
  rintro e w1 ⟨rfl, k1, k2⟩
  obtain ⟨⟨r0, r1, r2, r3⟩, k1, k2⟩ := HE.out w1 k1 k2
  have K1 := hide k1
  have K2 := hide k2
  clear k1 k2 HE
  go_wp2_with fail
  refine bodyPost_ret (v := .tuple #[.agg #[.int .i64 x0, .int .i64 x1], .bool true]) (by simp [results, Try.results25, go_sem, r0, r1]) rfl ⟨rfl, ?_⟩
  exact ⟨K1.out, K2.out⟩
end Go.Proofs.Ytemlanalaihkoaa
