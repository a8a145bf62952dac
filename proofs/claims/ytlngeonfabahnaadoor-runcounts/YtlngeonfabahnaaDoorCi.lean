/-
  Rows of instructions of a call's own; Pick, CopyInstrs, Same, Great. Own work.
-/
import Derived.Test.YtlngeonfabahnaaDoorCh
namespace Go.Proofs.YtlngeonfabahnaaDoor
open Go.RowKit

set_option maxRecDepth 100000 in
set_option maxHeartbeats 800000 in
theorem pick_any (x : Int) (n : Nat) (w : World) (hn : 0 < n) (hn1 : n ≤ 1000000) :
    Calls Tryd.prog 16 #[.int .i64 x, .int .i64 n] w fun e w' => e = .returned (.int .i64 ((x % (n : Int)).toNat : Nat)) ∧ w' = w := by
  have h0 : ¬ ((n : Int) ≤ 0) := by omega
  have h00 : ¬ ((n : Int) < 1) := by omega
  have h0' : ((n : Int) == 0) = false := by simp only [beq_eq_false_iff_ne]; omega
  have hm0 : 0 ≤ x % (n : Int) := Int.emod_nonneg _ (by omega)
  have hm1 : x % (n : Int) < n := Int.emod_lt_of_pos _ (by omega)
  have htm : (0 ≤ x.tmod n ∧ x.tmod n = x % n) ∨ (x.tmod n < 0 ∧ x.tmod n + n = x % n) := by
    rw [Int.tmod_eq_emod]
    split
    · left; omega
    · right; simp; omega
  have hR : (((x % (n : Int)).toNat : Nat) : Int) = x % n := by omega
  rw [hR]
  obtain ⟨r, HR⟩ := named (x % (n : Int))
  rw [← HR.out] at hm0 hm1 htm ⊢
  clear hR
  rcases htm with ⟨h1, h2⟩ | ⟨h1, h2⟩
  · have H2 : Hid _ := h2
    have h1' : ¬ x.tmod n < 0 := by omega
    clear h2 h1
    go_enter Tryd.func16, Tryd.ntmps16
    go_wp2
    go_ret
    exact ⟨ret_int H2.out, rfl⟩
  · have H2 : Hid _ := h2
    have h3 : 0 ≤ x.tmod n + n := by omega
    have h4 : x.tmod n + n < 1000000 := by omega
    have h5 : ¬ x.tmod n + n < 0 := by omega
    clear h2
    go_enter Tryd.func16, Tryd.ntmps16
    go_wp2
    go_ret
    exact ⟨ret_int H2.out, rfl⟩

end Go.Proofs.YtlngeonfabahnaaDoor
