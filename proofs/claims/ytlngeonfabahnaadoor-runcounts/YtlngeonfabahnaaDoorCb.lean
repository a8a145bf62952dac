/-
  Contracts of program's small functions: lengthMayBe, nameMayBe, what makes a closure, the closures, kindOf, Word. Own work.
-/
import Derived.Test.YtlngeonfabahnaaDoorCa
namespace Go.Proofs.YtlngeonfabahnaaDoor
open Go.RowKit

/-- the words of the Ops -/
def wordL : Nat → List Nat
  | 1 => [115, 101, 116]
  | 2 => [109, 111, 118, 101]
  | 3 => [97, 100, 100]
  | 4 => [115, 117, 98]
  | 5 => [109, 117, 108]
  | 6 => [108, 101, 115, 115]
  | 7 => [115, 97, 109, 101]
  | 8 => [106, 117, 109, 112]
  | 9 => [117, 110, 108, 101, 115, 115]
  | 10 => [97, 99, 116]
  | 11 => [115, 108, 101, 101, 112]
  | 12 => [99, 104, 105, 108, 100]
  | 13 => [119, 97, 105, 116]
  | 14 => [115, 105, 103, 110, 97, 108]
  | 15 => [100, 111, 110, 101]
  | 16 => [102, 97, 105, 108]
  | _ => []
def txt (l : List Nat) : ByteArray := ⟨(l.map UInt8.ofNat).toArray⟩
def wordS (o : Nat) : ByteArray := txt (wordL o)
def fieldS (o : Nat) : ByteArray := txt (fields o)
theorem over17 (o : Nat) (h : 17 ≤ o) : wordS o = ⟨#[]⟩ ∧ fieldS o = ⟨#[]⟩ := by
  have h1 : wordL o = [] := by
    unfold wordL
    split <;> first | rfl | omega
  have h2 : fields o = [] := by
    unfold fields
    split <;> first | rfl | omega
  unfold wordS fieldS
  rw [h1, h2]
  exact ⟨rfl, rfl⟩

/-- what the program lays ahead of all calls stands in this world -/
structure Kinds (w : World) : Prop where
  lt : 0 < w.heap.size
  word : ∀ o, o < 17 → w.cell? ⟨0, o * 2, none⟩ = some (.string (wordS o))
  field : ∀ o, o < 17 → w.cell? ⟨0, o * 2 + 1, none⟩ = some (.string (fieldS o))
theorem Kinds.below {w w' : World} (h : Kinds w) (hb : Below w.heap.size w w') : Kinds w' :=
  ⟨Nat.lt_of_lt_of_le h.lt hb.size, fun o ho => (hb.cell (p := ⟨0, o * 2, none⟩) h.lt).trans (h.word o ho), fun o ho => (hb.cell (p := ⟨0, o * 2 + 1, none⟩) h.lt).trans (h.field o ho)⟩
theorem Kinds.alloc {w : World} (h : Kinds w) (o : Obj) : Kinds (w.alloc o) := h.below ((Below.refl _ _).alloc (Nat.le_refl _) _)

theorem lengthMayBe_any (n : Int) (w : World) : Calls Tryd.prog 33 #[.int .i64 n] w fun e w' => e = .returned (.bool (decide (1 ≤ n ∧ n ≤ 40))) ∧ w' = w := by
  go_enter Tryd.func33, Tryd.ntmps33
  go_wp2
  all_goals go_ret
  all_goals refine ⟨ret_bool ?_, rfl⟩
  all_goals rw [Bool.eq_iff_iff]
  all_goals simp [*]
  all_goals omega
set_option maxRecDepth 100000 in
theorem nameMayBe_any (s : ByteArray) (w : World) : Calls Tryd.prog 27 #[.string s] w fun e w' => e = .returned (.bool (decide (1 ≤ s.size ∧ s.size ≤ 40))) ∧ w' = w := by
  go_enter Tryd.func27, Tryd.ntmps27
  go_wp2_with fail
  refine (lengthMayBe_any _ w).mono ?_
  rintro e w1 ⟨rfl, rfl⟩
  go_wp2
  go_ret
  refine ⟨ret_bool ?_, rfl⟩
  rw [Bool.eq_iff_iff]
  simp
  omega
theorem always_any (n : Int) (w : World) : Calls Tryd.prog 36 #[.int .i64 n] w fun e w' => e = .returned (.bool true) ∧ w' = w := by
  go_enter Tryd.func36, Tryd.ntmps36
  go_wp2
  go_ret
  exact ⟨rfl, rfl⟩
theorem below_fn_any (x n : Int) (b : Nat) (w : World) (h : w.cell? ⟨b, 0, none⟩ = some (.int .i64 n)) : Calls Tryd.prog 35 #[.int .i64 x, .pointer (some ⟨b, 0, none⟩)] w fun e w' => e = .returned (.bool (decide (0 ≤ x ∧ x < n))) ∧ w' = w := by
  go_enter Tryd.func35, Tryd.ntmps35
  go_wp2
  all_goals go_ret
  all_goals refine ⟨ret_bool ?_, rfl⟩
  all_goals rw [Bool.eq_iff_iff]
  all_goals simp [*]
  all_goals omega
theorem below_any (n : Int) (w : World) : Calls Tryd.prog 34 #[.int .i64 n] w fun e w' => e = .returned (.func (.func 35) #[] #[.pointer (some ⟨w.heap.size, 0, none⟩)]) ∧ w' = w.alloc (.cells #[.int .i64 n] 3) := by
  go_enter Tryd.func34, Tryd.ntmps34
  go_wp2
  go_ret
  exact ⟨rfl, rfl⟩
set_option maxRecDepth 100000 in
theorem kindOf_any (o : Nat) (ho : o < 256) (w : World) (hk : Kinds w) : Calls Tryd.prog 37 #[.int .u8 o] w fun e w' => e = .returned (.agg #[.string (wordS o), .string (fieldS o)]) ∧ Below w.heap.size w w' := by
  have HO : Hid (o < 256) := ho
  by_cases h : 17 ≤ o
  · obtain ⟨e1, e2⟩ := over17 o h
    rw [e1, e2]
    have h' : (17 : Int) ≤ (o : Int) := by omega
    go_enter Tryd.func37, Tryd.ntmps37
    go_wp2
    refine bodyPost_ret (v := .agg #[.string ⟨#[]⟩, .string ⟨#[]⟩]) (by simp [results, Tryd.results37, go_sem]) rfl ?_
    exact ⟨rfl, (Below.refl _ _).alloc (Nat.le_refl _) _⟩
  · have h' : ¬ (17 : Int) ≤ (o : Int) := by omega
    have h2 : (o : Int) < 17 := by omega
    have c0 := (hk.alloc (.cells #[.string ⟨#[]⟩, .string ⟨#[]⟩] 83)).word o (by omega)
    have c1 := (hk.alloc (.cells #[.string ⟨#[]⟩, .string ⟨#[]⟩] 83)).field o (by omega)
    obtain ⟨x0, X0⟩ := named (wordS o)
    obtain ⟨x1, X1⟩ := named (fieldS o)
    rw [← X0.out] at c0 ⊢
    rw [← X1.out] at c1 ⊢
    go_enter Tryd.func37, Tryd.ntmps37
    go_wp2
    refine bodyPost_ret (v := .agg #[.string x0, .string x1]) (by simp [results, Tryd.results37, go_sem]) rfl ?_
    exact ⟨rfl, by first | exact (Below.refl _ _).alloc (Nat.le_refl _) _ | skip⟩
end Go.Proofs.YtlngeonfabahnaaDoor
