/-
  Several of my texts in one: Ja Jd. Own work.
-/
import Derived.Test.YtpiiehenmkinaaaDoorU3
import Derived.Test.YtpiiehenmkinaaaDoorU2
/-
  The independent reading's small functions: name, reg, Word, digits. Own work.
-/
namespace Go.Proofs.YtpiiehenmkinaaaDoor
open Go.RowKit

theorem refName_any (s : ByteArray) (w : World) : Calls Tryd.prog 39 #[.string s] w fun e w' => e = .returned (.bool (decide (1 ≤ s.size ∧ s.size ≤ 40))) ∧ w' = w := by
  by_cases h1 : 1 ≤ s.size
  · have h1' : (1 : Int) ≤ (s.size : Int) := by omega
    by_cases h2 : s.size ≤ 40
    · have h2' : (s.size : Int) ≤ 40 := by omega
      go_enter Tryd.func39, Tryd.ntmps39
      go_wp2
      go_ret
      exact ⟨ret_bool (by simp <;> omega), rfl⟩
    · have h2' : ¬ (s.size : Int) ≤ 40 := by omega
      go_enter Tryd.func39, Tryd.ntmps39
      go_wp2
      go_ret
      exact ⟨ret_bool (by simp <;> omega), rfl⟩
  · have h1' : ¬ (1 : Int) ≤ (s.size : Int) := by omega
    go_enter Tryd.func39, Tryd.ntmps39
    go_wp2
    go_ret
    exact ⟨ret_bool (by simp <;> omega), rfl⟩
set_option maxRecDepth 100000 in
theorem refReg_any (name : ByteArray) (regs : Int) (cv : Value) (x : Int) (w : World) : Calls Tryd.prog 62 #[.agg #[.string name, .int .i64 regs, cv], .int .i64 x] w fun e w' => e = .returned (.bool (decide (0 ≤ x ∧ x < regs))) ∧ w' = w.alloc (.cells #[.string name, .int .i64 regs, cv] 24) := by
  by_cases h1 : 0 ≤ x
  · by_cases h2 : x < regs
    · go_enter Tryd.func62, Tryd.ntmps62
      go_wp2
      go_ret
      exact ⟨ret_bool (by simp <;> omega), rfl⟩
    · go_enter Tryd.func62, Tryd.ntmps62
      go_wp2
      go_ret
      exact ⟨ret_bool (by simp <;> omega), rfl⟩
  · go_enter Tryd.func62, Tryd.ntmps62
    go_wp2
    go_ret
    exact ⟨ret_bool (by simp <;> omega), rfl⟩
theorem wtab (w : World) (o : Nat) (ho : o < 17) : (w.alloc (.cells #[.string ⟨#[]⟩, .string ⟨#[115, 101, 116]⟩, .string ⟨#[109, 111, 118, 101]⟩, .string ⟨#[97, 100, 100]⟩, .string ⟨#[115, 117, 98]⟩, .string ⟨#[109, 117, 108]⟩, .string ⟨#[108, 101, 115, 115]⟩, .string ⟨#[115, 97, 109, 101]⟩, .string ⟨#[106, 117, 109, 112]⟩, .string ⟨#[117, 110, 108, 101, 115, 115]⟩, .string ⟨#[97, 99, 116]⟩, .string ⟨#[115, 108, 101, 101, 112]⟩, .string ⟨#[99, 104, 105, 108, 100]⟩, .string ⟨#[119, 97, 105, 116]⟩, .string ⟨#[115, 105, 103, 110, 97, 108]⟩, .string ⟨#[100, 111, 110, 101]⟩, .string ⟨#[102, 97, 105, 108]⟩] 9)).cell? ⟨w.heap.size, o, none⟩ = some (.string (wordS o)) := by
  refine (cell_of_row _ _ o _ 9 (0, 0) (heap_alloc_new w _)).trans ?_
  have : o = 0 ∨ o = 1 ∨ o = 2 ∨ o = 3 ∨ o = 4 ∨ o = 5 ∨ o = 6 ∨ o = 7 ∨ o = 8 ∨ o = 9 ∨ o = 10 ∨ o = 11 ∨ o = 12 ∨ o = 13 ∨ o = 14 ∨ o = 15 ∨ o = 16 := by omega
  rcases this with rfl | rfl | rfl | rfl | rfl | rfl | rfl | rfl | rfl | rfl | rfl | rfl | rfl | rfl | rfl | rfl | rfl <;> rfl
set_option maxRecDepth 100000 in
set_option maxHeartbeats 1600000 in
theorem refWord_any (o : Nat) (ho : o < 256) (w : World) : Calls Tryd.prog 21 #[.int .u8 o] w fun e w' => e = .returned (.string (wordS o)) ∧ Below w.heap.size w w' := by
  by_cases h : 17 ≤ o
  · rw [(over17 o h).1]
    have h' : (17 : Int) ≤ (o : Int) := by omega
    go_enter Tryd.func21, Tryd.ntmps21
    go_wp2
    go_ret
    exact ⟨rfl, (Below.refl _ _).alloc (Nat.le_refl _) _⟩
  · have h' : ¬ (17 : Int) ≤ (o : Int) := by omega
    have h2 : (o : Int) < 17 := by omega
    have c0 := wtab w o (by omega)
    obtain ⟨x0, X0⟩ := named (wordS o)
    rw [← X0.out] at c0 ⊢
    go_enter Tryd.func21, Tryd.ntmps21
    go_wp2
    go_ret
    exact ⟨rfl, (Below.refl _ _).alloc (Nat.le_refl _) _⟩
end Go.Proofs.YtpiiehenmkinaaaDoor

/-
  The independent reading's instr: what it stands on. Own work.
-/
namespace Go.Proofs.YtpiiehenmkinaaaDoor
open Go.RowKit

theorem insB_none (regs places pol : Int) (i : Ins) (h : fields i.op = []) : insB regs places pol i = false := by
  unfold insB
  rw [h]
  rfl
theorem str_nil (s : ByteArray) : s.toList = [] ↔ s.size = 0 := by
  rw [ByteArray.toList_eq]
  show s.data.toList = [] ↔ s.data.size = 0
  rw [Array.toList_eq_nil_iff, Array.size_eq_zero_iff]
theorem str_nil_b (s : ByteArray) (h : s.size = 0) : (s.toList == []) = true := by rw [(str_nil s).2 h]; rfl
theorem str_nil_nb (s : ByteArray) (h : ¬ s.size = 0) : (s.toList == []) = false := by
  rw [beq_eq_false_iff_ne]
  exact fun e => h ((str_nil s).1 e)
/-- a program's head and an instruction, each in a block -/
def Two (w : World) (p q : Nat) (name : ByteArray) (regs : Int) (cv : Value) (z a b c n : Int) (s : ByteArray) : Prop :=
  (p < w.heap.size ∧ q < w.heap.size) ∧ w.cell? ⟨p, 0, none⟩ = some (.string name) ∧ w.cell? ⟨p, 1, none⟩ = some (.int .i64 regs) ∧ w.cell? ⟨p, 2, none⟩ = some cv ∧
  w.cell? ⟨q, 0, none⟩ = some (.int .u8 z) ∧ w.cell? ⟨q, 1, none⟩ = some (.int .i64 a) ∧ w.cell? ⟨q, 2, none⟩ = some (.int .i64 b) ∧ w.cell? ⟨q, 3, none⟩ = some (.int .i64 c) ∧ w.cell? ⟨q, 4, none⟩ = some (.int .i64 n) ∧ w.cell? ⟨q, 5, none⟩ = some (.string s)
theorem Two.below {w w' : World} {p q : Nat} {name : ByteArray} {regs : Int} {cv : Value} {z a b c n : Int} {s : ByteArray} (h : Two w p q name regs cv z a b c n s) (hb : Below w.heap.size w w') : Two w' p q name regs cv z a b c n s := by
  obtain ⟨⟨k1, k2⟩, h0, h1, h2, h3, h4, h5, h6, h7, h8⟩ := h
  exact ⟨⟨Nat.lt_of_lt_of_le k1 hb.size, Nat.lt_of_lt_of_le k2 hb.size⟩, (hb.cell (p := ⟨p, 0, none⟩) k1).trans h0, (hb.cell (p := ⟨p, 1, none⟩) k1).trans h1, (hb.cell (p := ⟨p, 2, none⟩) k1).trans h2,
    (hb.cell (p := ⟨q, 0, none⟩) k2).trans h3, (hb.cell (p := ⟨q, 1, none⟩) k2).trans h4, (hb.cell (p := ⟨q, 2, none⟩) k2).trans h5, (hb.cell (p := ⟨q, 3, none⟩) k2).trans h6, (hb.cell (p := ⟨q, 4, none⟩) k2).trans h7, (hb.cell (p := ⟨q, 5, none⟩) k2).trans h8⟩
theorem Two.new (w : World) (name : ByteArray) (regs : Int) (cv : Value) (z a b c n : Int) (s : ByteArray) : Two ((w.alloc (.cells #[.string name, .int .i64 regs, cv] 24)).alloc (.cells #[.int .u8 z, .int .i64 a, .int .i64 b, .int .i64 c, .int .i64 n, .string s] 28)) w.heap.size (w.heap.size + 1) name regs cv z a b c n s := by
  obtain ⟨V, HV⟩ := named (w.alloc (.cells #[.string name, .int .i64 regs, cv] 24))
  have hs : V.heap.size = w.heap.size + 1 := by rw [HV.out]; simp
  have h1 : V.heap[w.heap.size]? = some (.cells #[.string name, .int .i64 regs, cv] 24 (0, 0)) := by rw [HV.out]; exact heap_alloc_new w _
  rw [← HV.out]
  have hb : Below V.heap.size V (V.alloc (.cells #[.int .u8 z, .int .i64 a, .int .i64 b, .int .i64 c, .int .i64 n, .string s] 28)) := (Below.refl _ _).alloc (Nat.le_refl _) _
  have h2 : (V.alloc (.cells #[.int .u8 z, .int .i64 a, .int .i64 b, .int .i64 c, .int .i64 n, .string s] 28)).heap[w.heap.size + 1]? = some (.cells #[.int .u8 z, .int .i64 a, .int .i64 b, .int .i64 c, .int .i64 n, .string s] 28 (0, 0)) := by rw [← hs]; exact heap_alloc_new V _
  have c1 := fun o => cell_of_row _ w.heap.size o _ 24 (0, 0) h1
  have c2 := fun o => cell_of_row _ (w.heap.size + 1) o _ 28 (0, 0) h2
  have k1 : w.heap.size < V.heap.size := by omega
  exact ⟨⟨by simp; omega, by simp; omega⟩, (hb.cell (p := ⟨w.heap.size, 0, none⟩) k1).trans (c1 0), (hb.cell (p := ⟨w.heap.size, 1, none⟩) k1).trans (c1 1), (hb.cell (p := ⟨w.heap.size, 2, none⟩) k1).trans (c1 2), c2 0, c2 1, c2 2, c2 3, c2 4, c2 5⟩
end Go.Proofs.YtpiiehenmkinaaaDoor
