/-
  A queue as its callers see it; the contracts of room, less. Own work.
-/
import Derived.Test.YtdbbdecmfnajiaaMf
namespace Go.Proofs.Ytdbbdecmfnajiaa
open Go.RowKit

/-- a queue with all that stands in memory, and its numbers -/
structure Qd where
  qb : Nat
  pv : Value
  most : Int
  n : Nat
  first : Nat
  f : Nat → Int
  L : List Int
def QM (w : World) (q : Qd) : Prop := Qm w q.qb q.pv q.most q.n q.first q.L.length q.f ∧ qL q.f q.first q.n q.L.length = q.L
def Qd.bk (q : Qd) (b : Nat) : Prop := b = q.qb ∨ q.pv.ownBlock = some b
/-- one deed upon a queue -/
structure QStep (w w' : World) (q q' : Qd) : Prop where
  qm : QM w' q'
  qb : q'.qb = q.qb
  chg : Chg q.bk w w'
  nw : ∀ b, q'.bk b → q.bk b ∨ w.heap.size ≤ b
theorem QM.lt {w : World} {q : Qd} (h : QM w q) (b : Nat) (hb : q.bk b) : b < w.heap.size := by
  rcases hb with rfl | hb
  · exact lt_of h.1.cs
  · exact h.1.pl.lt b hb
theorem QM.heap {w w' : World} {q : Qd} (h : QM w q) (hk : ∀ b, q.bk b → w'.heap[b]? = w.heap[b]?) : QM w' q := ⟨h.1.heap (hk _ (.inl rfl)) fun a ha => hk a (.inr ha), h.2⟩
theorem QM.below {w w' : World} {q : Qd} (h : QM w q) (hb : Below w.heap.size w w') : QM w' q := h.heap fun b hB => hb.block b (h.lt b hB)
theorem QM.chg {w w' : World} {q : Qd} {F : Nat → Prop} (h : QM w q) (hb : Chg F w w') (hF : ∀ b, q.bk b → ¬ F b) : QM w' q := h.heap fun b hB => hb.block b (h.lt b hB) (hF b hB)
theorem QStep.trans {a b c : World} {p q r : Qd} (h : QStep a b p q) (k : QStep b c q r) : QStep a c p r :=
  ⟨k.qm, k.qb.trans h.qb, h.chg.trans k.chg fun i hi hq => by rcases h.nw i hq with h1 | h1; exact h1; omega,
    fun i hi => by rcases k.nw i hi with h1 | h1; exact h.nw i h1; exact .inr (Nat.le_trans h.chg.size h1)⟩
theorem QStep.below {a b c : World} {p q : Qd} (h : QStep a b p q) (k : Below b.heap.size b c) : QStep a c p q :=
  ⟨h.qm.below k, h.qb, h.chg.trans (Chg.ofBelow k (fun _ => False)) (fun _ _ h => h.elim), h.nw⟩
theorem QStep.ofBelow {a b : World} {q : Qd} (h : QM a q) (k : Below a.heap.size a b) : QStep a b q q := ⟨h.below k, rfl, Chg.ofBelow k _, fun _ h => .inl h⟩

set_option maxRecDepth 100000 in
set_option maxHeartbeats 1600000 in
theorem room_any {w : World} {q : Qd} (h : QM w q) :
    Calls Try.prog 44 #[.pointer (some ⟨q.qb, 0, none⟩)] w fun e w' => e = .returned (.int .i64 (max (q.most - q.L.length) 0)) ∧ Below w.heap.size w w' := by
  obtain ⟨h, -⟩ := h
  have s0 := h.s0
  have s3 := h.s3
  have hm := h.mo
  have hc := h.cm
  obtain ⟨m, HM⟩ := named q.most
  obtain ⟨c, HC⟩ := named q.L.length
  rw [← HM.out] at s0 hm ⊢
  rw [← HC.out] at s3 hc ⊢
  have hc0 : (0 : Int) ≤ (c : Int) ∧ (c : Int) ≤ 65536 := by omega
  clear h
  go_enter Try.func44, Try.ntmps44
  go_wp2_with fail
  go_quiet (fail)
  all_goals (go_wp2_with fail)
  all_goals
    go_ret
    exact ⟨ret_int (by omega), drewN_below _ _⟩

set_option maxRecDepth 100000 in
set_option maxHeartbeats 1600000 in
theorem less_any {w : World} {qb n first c : Nat} {pv : Value} {most : Int} {f : Nat → Int} (h : Qm w qb pv most n first (c + 1) f) (hl : n ≤ 1000000) :
    Calls Try.prog 65 #[.pointer (some ⟨qb, 0, none⟩)] w fun e w' => e = .returned (.tuple #[]) ∧ ∃ q', QStep w w' ⟨qb, pv, most, n, first, f, qL f first n (c + 1)⟩ q' ∧ q'.most = most ∧ q'.L = qL f first n c := by
  obtain ⟨ao, hpv⟩ := h.pl.shape.2
  have s1 := h.s1
  have s3 := h.s3
  have z3 : w.frozen? ⟨qb, 3, none⟩ = false := frozen_of h.cs 3
  have hc := h.cm
  obtain ⟨W, HW⟩ := named (w.setCell ⟨qb, 3, none⟩ (.int .i64 c))
  have hcs := heap_setCell_same w qb 3 _ 93 (.int .i64 c) h.cs
  rw [← HW.out] at hcs
  have hW : Qm W qb pv most n first c f := ⟨by simpa using hcs, h.pl.heap fun a e => by
      rw [HW.out]
      exact Below.heap_setCell _ _ _ _ (by rintro rfl; exact h.row_ne e), h.fi, by have := h.le; omega, h.mo, by omega⟩
  have hst : ∀ w', Below W.heap.size W w' → QStep w w' ⟨qb, pv, most, n, first, f, qL f first n (c + 1)⟩ ⟨qb, pv, most, n, first, f, qL f first n c⟩ := fun w' hb =>
    ⟨⟨by simp only [qL_len]; exact hW.below hb, by simp only [qL_len]⟩, rfl, by
      have h1 : Chg (Qd.bk ⟨qb, pv, most, n, first, f, qL f first n (c + 1)⟩) w W := by rw [HW.out]; exact (Chg.refl _ _).setCell (.inl (.inl rfl)) _
      exact h1.trans (Chg.ofBelow hb (fun _ => False)) (fun _ _ h => h.elim), fun b hb => .inl hb⟩
  have s1W := hW.s1
  have s3W := hW.s3
  have HST := hide hst
  have HQ := hide h
  have HQW := hide hW
  subst hpv
  have e1 : ((c + 1 : Nat) : Int) - 1 = (c : Int) := by omega
  have hnI : (0 : Int) ≤ (n : Int) := by omega
  have hnJ : (n : Int) ≤ 1000000 := by omega
  have hcI : (0 : Int) ≤ (c : Int) := by omega
  have hcJ : (c : Int) ≤ 65536 := by omega
  clear hst h hW hcs
  rw [show ((c + 1 : Nat) : Int) = (c : Int) + 1 by omega] at s3
  have e2 : (c : Int) + 1 - 1 = (c : Int) := by omega
  by_cases hn : 8 < n
  · have hn8 : (8 : Int) < (n : Int) := by omega
    by_cases hq : c ≤ n / 4
    · have hqI : (c : Int) ≤ (n : Int) / 4 := by omega
      obtain ⟨m, HM⟩ := named (n / 2)
      have em : (n : Int) / 2 = (m : Int) := by rw [HM.out]; omega
      have km := move_any HQW.out m (by rw [HM.out]; omega) (by rw [HM.out]; omega) (by rw [HM.out]; omega)
      clear hq
      go_enter Try.func65, Try.ntmps65
      go_wp2_with (rw [← HW.out])
      try rw [em]
      (with_reducible refine Calls.mono km ?_)
      clear km
      rintro e u ⟨rfl, g2, k, hk1, hk2, hk3, hk4⟩
      have HK1 := hide hk1
      have HK2 := hide hk2
      have HK3 := hide hk3
      have HK4 := hide hk4
      clear hk1 hk2 hk3 hk4
      go_wp2_with fail
      go_end0
      refine ⟨rfl, ⟨qb, .slice (some ⟨g2, 0, none⟩) m m, most, m, 0, k, qL f first n c⟩, (HST.out W (Below.refl _ _)).trans ⟨⟨by simp only [qL_len]; exact HK1.out, by simp only [qL_len]; exact HK2.out⟩, rfl, HK4.out.mono (fun i _ e => .inl e), fun b hb => ?_⟩, rfl, rfl⟩
      rcases hb with hb | hb
      · exact .inl (.inl hb)
      · cases hb; exact .inr HK3.out
    · have hqI : ¬ (c : Int) ≤ (n : Int) / 4 := by omega
      clear hq
      go_enter Try.func65, Try.ntmps65
      go_wp2_with (rw [← HW.out])
      go_end0
      exact ⟨rfl, _, HST.out _ (Below.refl _ _), rfl, rfl⟩
  · have hn8 : ¬ (8 : Int) < (n : Int) := by omega
    go_enter Try.func65, Try.ntmps65
    go_wp2_with (rw [← HW.out])
    go_end0
    exact ⟨rfl, _, HST.out _ (Below.refl _ _), rfl, rfl⟩
end Go.Proofs.Ytdbbdecmfnajiaa
