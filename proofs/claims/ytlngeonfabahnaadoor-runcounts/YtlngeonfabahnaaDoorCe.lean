/-
  Rows of instructions in memory; the contracts of ends and Check. Own work.
-/
import Derived.Test.YtlngeonfabahnaaDoorCd
namespace Go.Proofs.YtlngeonfabahnaaDoor
open Go.RowKit

/-- a slice that reads as these instructions -/
def RdC (w : World) (v : Value) (l : List Ins) : Prop :=
  ∃ ao cap, v = .slice ao l.length cap ∧ l.length ≤ cap ∧ cap ≤ maxLen ∧ (ao = none → cap = 0) ∧ ∀ k (h : k < l.length), ∃ b off, ao = some ⟨b, off, none⟩ ∧ ∀ j u, (insC l[k])[j]? = some u → w.cell? ⟨b, off + k * 6 + j, none⟩ = some u
theorem RdC.below {w w' : World} {v : Value} {l : List Ins} (h : RdC w v l) (hb : Below w.heap.size w w') : RdC w' v l := by
  obtain ⟨ao, cap, hv, h1, h2, h3, h4⟩ := h
  refine ⟨ao, cap, hv, h1, h2, h3, fun k hk => ?_⟩
  obtain ⟨b, off, e, hc⟩ := h4 k hk
  exact ⟨b, off, e, fun j u hu => by rw [hb.cell (World.block_lt_of_cell? w _ (hc j u hu))]; exact hc j u hu⟩
theorem RdC.alloc {w : World} {v : Value} {l : List Ins} (h : RdC w v l) (o : Obj) : RdC (w.alloc o) v l := h.below ((Below.refl _ _).alloc (Nat.le_refl _) _)
theorem RdC.nil (w : World) : RdC w (.slice none 0 0) [] := ⟨none, 0, rfl, Nat.le_refl _, by simp [maxLen], fun _ => rfl, fun k h => by simp at h⟩
theorem RdC.shape {w : World} {v : Value} {l : List Ins} (h : RdC w v l) : ∃ ao cap, v = .slice ao l.length cap ∧ l.length ≤ 9223372036854775807 := by
  obtain ⟨ao, cap, hv, h1, h2, _⟩ := h
  refine ⟨ao, cap, hv, ?_⟩
  unfold maxLen at h2
  omega
/-- the cells of the k-th -/
theorem RdC.at {w : World} {ao : Option Addr} {n cap : Nat} {l : List Ins} (h : RdC w (.slice ao n cap) l) (k : Nat) (hk : k < l.length) : ∃ b off, ao = some ⟨b, off, none⟩ ∧ b < w.heap.size ∧
    w.cell? ⟨b, off + k * 6, none⟩ = some (.int .u8 l[k].op) ∧ w.cell? ⟨b, off + k * 6 + 1, none⟩ = some (.int .i64 l[k].a) ∧ w.cell? ⟨b, off + k * 6 + 2, none⟩ = some (.int .i64 l[k].b) ∧ w.cell? ⟨b, off + k * 6 + 3, none⟩ = some (.int .i64 l[k].c) ∧
    w.cell? ⟨b, off + k * 6 + 4, none⟩ = some (.int .i64 l[k].n) ∧ w.cell? ⟨b, off + k * 6 + 5, none⟩ = some (.string l[k].s) := by
  obtain ⟨ao', cap', hv, h1, h2, h3, h4⟩ := h
  cases hv
  obtain ⟨b, off, e, hc⟩ := h4 k hk
  have h0 := hc 0 _ rfl
  exact ⟨b, off, e, World.block_lt_of_cell? w _ h0, h0, hc 1 _ rfl, hc 2 _ rfl, hc 3 _ rfl, hc 4 _ rfl, hc 5 _ rfl⟩

theorem ends_nil : endsB [] = false := rfl
theorem ends_at (l : List Ins) (m : Nat) (h : l.length = m + 1) : endsB l = decide ((l[m]'(by omega)).op = 8 ∨ (l[m]'(by omega)).op = 15 ∨ (l[m]'(by omega)).op = 16) := by
  unfold endsB
  have : l.getLast? = some (l[m]'(by omega)) := by
    rw [List.getLast?_eq_getElem?, show l.length - 1 = m by omega]
    exact List.getElem?_eq_getElem (by omega)
  rw [this]
set_option maxRecDepth 100000 in
set_option maxHeartbeats 800000 in
theorem ends_any (v : Value) (l : List Ins) (w : World) (hv : RdC w v l) : Calls Tryd.prog 28 #[v] w fun e w' => e = .returned (.bool (endsB l)) ∧ w' = w := by
  obtain ⟨ao, cap, rfl, hlen⟩ := hv.shape
  cases hL : l.length with
  | zero =>
    have : l = [] := List.eq_nil_of_length_eq_zero hL
    subst this
    go_enter Tryd.func28, Tryd.ntmps28
    go_wp2
    go_ret
    exact ⟨rfl, rfl⟩
  | succ m =>
    rw [hL] at hv hlen
    obtain ⟨b, off, rfl, hlt, c0, -⟩ := hv.at m (by omega)
    rw [ends_at l m hL]
    obtain ⟨x, HX⟩ := named ((l[m]'(by omega)).op)
    rw [← HX.out] at c0 ⊢
    have h1 : ((m + 1 : Nat) : Int) - 1 = (m : Int) := by omega
    have h2 : ((m : Int) + 1 = 0) = False := by simp; omega
    clear hL HX
    go_enter Tryd.func28, Tryd.ntmps28
    go_wp2
    all_goals go_ret
    all_goals refine ⟨ret_bool ?_, rfl⟩
    all_goals rw [Bool.eq_iff_iff]
    all_goals simp
    all_goals omega
end Go.Proofs.YtlngeonfabahnaaDoor
