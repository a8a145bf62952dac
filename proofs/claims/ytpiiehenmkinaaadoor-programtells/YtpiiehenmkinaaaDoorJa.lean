/-
  The independent reading's small functions: name, reg, Word, digits. Own work.
-/
import Derived.Test.YtpiiehenmkinaaaDoorCk
namespace Go.Proofs.YtpiiehenmkinaaaDoor
open Go.RowKit

theorem refName_any (s : ByteArray) (w : World) : Calls Tryd.prog 39 #[.string s] w fun e w' => e = .returned (.bool (decide (1 ≤ s.size ∧ s.size ≤ 40))) ∧ w' = w := by
  by_cases h1 : 1 ≤ s.size
  · have h1' : (1 : Int) ≤ (s.size : Int) := by omega
    by_cases h2 : s.size ≤ 40
    · have h2' : (s.size : Int) ≤ 40 := by omega
      go_enter Tryd.func39, Tryd.ntmps39
      go_wp2
      go_ret
      exact ⟨ret_bool (by simp <;> omega), rfl⟩
    · have h2' : ¬ (s.size : Int) ≤ 40 := by omega
      go_enter Tryd.func39, Tryd.ntmps39
      go_wp2
      go_ret
      exact ⟨ret_bool (by simp <;> omega), rfl⟩
  · have h1' : ¬ (1 : Int) ≤ (s.size : Int) := by omega
    go_enter Tryd.func39, Tryd.ntmps39
    go_wp2
    go_ret
    exact ⟨ret_bool (by simp <;> omega), rfl⟩
set_option maxRecDepth 100000 in
theorem refReg_any (name : ByteArray) (regs : Int) (cv : Value) (x : Int) (w : World) : Calls Tryd.prog 62 #[.agg #[.string name, .int .i64 regs, cv], .int .i64 x] w fun e w' => e = .returned (.bool (decide (0 ≤ x ∧ x < regs))) ∧ w' = w.alloc (.cells #[.string name, .int .i64 regs, cv] 24) := by
  by_cases h1 : 0 ≤ x
  · by_cases h2 : x < regs
    · go_enter Tryd.func62, Tryd.ntmps62
      go_wp2
      go_ret
      exact ⟨ret_bool (by simp <;> omega), rfl⟩
    · go_enter Tryd.func62, Tryd.ntmps62
      go_wp2
      go_ret
      exact ⟨ret_bool (by simp <;> omega), rfl⟩
  · go_enter Tryd.func62, Tryd.ntmps62
    go_wp2
    go_ret
    exact ⟨ret_bool (by simp <;> omega), rfl⟩
theorem wtab (w : World) (o : Nat) (ho : o < 17) : (w.alloc (.cells #[.string ⟨#[]⟩, .string ⟨#[115, 101, 116]⟩, .string ⟨#[109, 111, 118, 101]⟩, .string ⟨#[97, 100, 100]⟩, .string ⟨#[115, 117, 98]⟩, .string ⟨#[109, 117, 108]⟩, .string ⟨#[108, 101, 115, 115]⟩, .string ⟨#[115, 97, 109, 101]⟩, .string ⟨#[106, 117, 109, 112]⟩, .string ⟨#[117, 110, 108, 101, 115, 115]⟩, .string ⟨#[97, 99, 116]⟩, .string ⟨#[115, 108, 101, 101, 112]⟩, .string ⟨#[99, 104, 105, 108, 100]⟩, .string ⟨#[119, 97, 105, 116]⟩, .string ⟨#[115, 105, 103, 110, 97, 108]⟩, .string ⟨#[100, 111, 110, 101]⟩, .string ⟨#[102, 97, 105, 108]⟩] 9)).cell? ⟨w.heap.size, o, none⟩ = some (.string (wordS o)) := by
  refine (cell_of_row _ _ o _ 9 (0, 0) (heap_alloc_new w _)).trans ?_
  have : o = 0 ∨ o = 1 ∨ o = 2 ∨ o = 3 ∨ o = 4 ∨ o = 5 ∨ o = 6 ∨ o = 7 ∨ o = 8 ∨ o = 9 ∨ o = 10 ∨ o = 11 ∨ o = 12 ∨ o = 13 ∨ o = 14 ∨ o = 15 ∨ o = 16 := by omega
  rcases this with rfl | rfl | rfl | rfl | rfl | rfl | rfl | rfl | rfl | rfl | rfl | rfl | rfl | rfl | rfl | rfl | rfl <;> rfl
set_option maxRecDepth 100000 in
set_option maxHeartbeats 1600000 in
theorem refWord_any (o : Nat) (ho : o < 256) (w : World) : Calls Tryd.prog 21 #[.int .u8 o] w fun e w' => e = .returned (.string (wordS o)) ∧ Below w.heap.size w w' := by
  by_cases h : 17 ≤ o
  · rw [(over17 o h).1]
    have h' : (17 : Int) ≤ (o : Int) := by omega
    go_enter Tryd.func21, Tryd.ntmps21
    go_wp2
    go_ret
    exact ⟨rfl, (Below.refl _ _).alloc (Nat.le_refl _) _⟩
  · have h' : ¬ (17 : Int) ≤ (o : Int) := by omega
    have h2 : (o : Int) < 17 := by omega
    have c0 := wtab w o (by omega)
    obtain ⟨x0, X0⟩ := named (wordS o)
    rw [← X0.out] at c0 ⊢
    go_enter Tryd.func21, Tryd.ntmps21
    go_wp2
    go_ret
    exact ⟨rfl, (Below.refl _ _).alloc (Nat.le_refl _) _⟩
end Go.Proofs.YtpiiehenmkinaaaDoor
