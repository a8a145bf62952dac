/-
  The contracts of made, fails, Down, Arm. Own work.
-/
import Derived.Test.YtloigepmmhcibaaMem
import Derived.Handy
namespace Go.Proofs.Ytloigepmmhcibaa
open Go.RowKit

set_option maxRecDepth 100000 in
set_option maxHeartbeats 400000 in
theorem made_nil (w : World) : Calls Try.prog 54 #[.pointer none] w fun e w' => e = .returned (.bool false) ∧ w' = w := by
  go_enter Try.func54, Try.ntmps54
  go_wp2
  go_ret
  exact ⟨rfl, rfl⟩
set_option maxRecDepth 100000 in
set_option maxHeartbeats 400000 in
theorem made_zero (w : World) (b : Nat) (h : w.cell? ⟨b, 0, none⟩ = some (.pointer none)) : Calls Try.prog 54 #[.pointer (some ⟨b, 0, none⟩)] w fun e w' => e = .returned (.bool false) ∧ w' = w := by
  go_enter Try.func54, Try.ntmps54
  go_wp2
  go_ret
  exact ⟨rfl, rfl⟩
set_option maxRecDepth 100000 in
set_option maxHeartbeats 400000 in
theorem made_cell (w : World) (b s : Nat) (h : w.cell? ⟨b, 0, none⟩ = some (.pointer (some ⟨s, 0, none⟩))) : Calls Try.prog 54 #[.pointer (some ⟨b, 0, none⟩)] w fun e w' => e = .returned (.bool true) ∧ w' = w := by
  go_enter Try.func54, Try.ntmps54
  go_wp2
  go_ret
  exact ⟨rfl, rfl⟩
set_option maxRecDepth 100000 in
set_option maxHeartbeats 400000 in
theorem fails_cell (w : World) (b s : Nat) (dark : Bool) (h : w.cell? ⟨b, 0, none⟩ = some (.pointer (some ⟨s, 0, none⟩))) (h4 : w.cell? ⟨s, 4, none⟩ = some (.bool dark)) :
    Calls Try.prog 49 #[.pointer (some ⟨b, 0, none⟩)] w fun e w' => e = .returned (.int .i64 (if dark then 15 else 0)) ∧ w' = w := by
  go_enter Try.func49, Try.ntmps49
  go_wp2_with fail
  refine (made_cell _ b s h).mono ?_
  rintro e w' ⟨rfl, rfl⟩
  cases dark
  all_goals
    go_wp2
    go_ret
    exact ⟨rfl, rfl⟩
set_option maxRecDepth 100000 in
set_option maxHeartbeats 400000 in
theorem fails_none (w : World) (v : Value) (h : Calls Try.prog 54 #[v] w fun e w' => e = .returned (.bool false) ∧ w' = w) : Calls Try.prog 49 #[v] w fun e w' => e = .returned (.int .i64 1) ∧ w' = w := by
  go_enter Try.func49, Try.ntmps49
  go_wp2_with fail
  refine h.mono ?_
  rintro e w' ⟨rfl, rfl⟩
  go_wp2
  go_ret
  exact ⟨rfl, rfl⟩
set_option maxRecDepth 100000 in
set_option maxHeartbeats 400000 in
theorem down_cell (w : World) (b s : Nat) (dark : Bool) (h : w.cell? ⟨b, 0, none⟩ = some (.pointer (some ⟨s, 0, none⟩))) (h4 : w.cell? ⟨s, 4, none⟩ = some (.bool dark)) :
    Calls Try.prog 23 #[.pointer (some ⟨b, 0, none⟩)] w fun e w' => e = .returned (.bool dark) ∧ w' = w := by
  go_enter Try.func23, Try.ntmps23
  go_wp2_with fail
  refine (made_cell _ b s h).mono ?_
  rintro e w' ⟨rfl, rfl⟩
  go_wp2
  go_ret
  exact ⟨rfl, rfl⟩
set_option maxRecDepth 100000 in
set_option maxHeartbeats 400000 in
theorem down_none (w : World) (v : Value) (h : Calls Try.prog 54 #[v] w fun e w' => e = .returned (.bool false) ∧ w' = w) : Calls Try.prog 23 #[v] w fun e w' => e = .returned (.bool false) ∧ w' = w := by
  go_enter Try.func23, Try.ntmps23
  go_wp2_with fail
  refine h.mono ?_
  rintro e w' ⟨rfl, rfl⟩
  go_wp2
  go_ret
  exact ⟨rfl, rfl⟩
set_option maxRecDepth 100000 in
set_option maxHeartbeats 400000 in
theorem arm_none (w : World) (v : Value) (n : Int) (h : Calls Try.prog 54 #[v] w fun e w' => e = .returned (.bool false) ∧ w' = w) : Calls Try.prog 22 #[v, .int .i64 n] w fun e w' => e = .returned (.tuple #[]) ∧ w' = w := by
  go_enter Try.func22, Try.ntmps22
  go_wp2_with fail
  refine (fails_none _ v h).mono ?_
  rintro e w' ⟨rfl, rfl⟩
  go_wp2
  go_returns
  exact ⟨rfl, rfl⟩
set_option maxRecDepth 100000 in
set_option maxHeartbeats 400000 in
theorem arm_cell (w : World) (b s : Nat) (dark : Bool) (n : Int) (h : w.cell? ⟨b, 0, none⟩ = some (.pointer (some ⟨s, 0, none⟩))) (h4 : w.cell? ⟨s, 4, none⟩ = some (.bool dark)) (h3 : ∃ v, w.cell? ⟨s, 3, none⟩ = some v) (hz : w.frozen? ⟨s, 3, none⟩ = false) :
    Calls Try.prog 22 #[.pointer (some ⟨b, 0, none⟩), .int .i64 n] w fun e w' => e = .returned (.tuple #[]) ∧ w' = if dark then w else w.setCell ⟨s, 3, none⟩ (.int .i64 (max n 0)) := by
  obtain ⟨v, h3⟩ := h3
  go_enter Try.func22, Try.ntmps22
  go_wp2_with fail
  refine (fails_cell _ b s dark h h4).mono ?_
  rintro e w' ⟨rfl, rfl⟩
  cases dark
  · go_wp2
    · go_returns
      exact ⟨rfl, by rw [show max n 0 = 0 by omega]⟩
    · go_returns
      exact ⟨rfl, by rw [show max n 0 = n by omega]⟩
  · go_wp2
    go_returns
    exact ⟨rfl, rfl⟩
end Go.Proofs.Ytloigepmmhcibaa
