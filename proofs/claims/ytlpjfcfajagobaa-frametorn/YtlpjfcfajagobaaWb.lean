/-
  The contracts of bytes.Uint, Blob, own, fold, Int, unfold, mayStand. Own work.
-/
import Derived.Test.YtlpjfcfajagobaaWa
namespace Go.Proofs.Ytlpjfcfajagobaa
open Go.RowKit

theorem sev_len (f n : Nat) : (sev f n).length ≤ f := by
  induction f generalizing n with
  | zero => simp [sev]
  | succ f ih => unfold sev; split <;> simp; exact ih _
theorem U_len (n : Int) : (U n).length ≤ 10 := sev_len 10 _

/-- Concat of one piece, of two, of three, in a new block -/
theorem concat1 (w : World) (v0 : Value) (l0 : List UInt8) (h0 : Rd w v0 l0) (hs : l0.length ≤ 140737488355328) :
    Calls Try.prog 30 #[.slice (some ⟨w.heap.size, 0, none⟩) 1 1] (w.alloc (.cells #[v0] 22)) fun e w' => ∃ v, e = .returned v ∧ Own w' w.heap.size v l0 ∧ Below w.heap.size w w' := by
  have h := concat_any [(v0, l0)] w.heap.size 1 (w.alloc (.cells #[v0] 22)) (by simp) (by simp)
    (fun i h => match i, h with | 0, _ => by simp)
    (fun i h => match i, h with | 0, _ => h0.alloc _) (by simp) (by simp [joined]; omega)
  refine h.mono ?_
  rintro e w' ⟨v, rfl, ho, hb⟩
  refine ⟨v, rfl, ?_, ((Below.refl w.heap.size w).alloc (Nat.le_refl _) _).trans (hb.mono (by simp))⟩
  have := ho.mono (base' := w.heap.size) (by simp)
  simpa [joined] using this

theorem concat2 (w : World) (v0 v1 : Value) (l0 l1 : List UInt8) (h0 : Rd w v0 l0) (h1 : Rd w v1 l1) (hs : l0.length + l1.length ≤ 140737488355328) :
    Calls Try.prog 30 #[.slice (some ⟨w.heap.size, 0, none⟩) 2 2] (w.alloc (.cells #[v0, v1] 22)) fun e w' => ∃ v, e = .returned v ∧ Own w' w.heap.size v (l0 ++ l1) ∧ Below w.heap.size w w' := by
  have h := concat_any [(v0, l0), (v1, l1)] w.heap.size 2 (w.alloc (.cells #[v0, v1] 22)) (by simp) (by simp)
    (fun i h => match i, h with | 0, _ => by simp | 1, _ => by simp)
    (fun i h => match i, h with | 0, _ => h0.alloc _ | 1, _ => h1.alloc _) (by simp) (by simp [joined]; omega)
  refine h.mono ?_
  rintro e w' ⟨v, rfl, ho, hb⟩
  refine ⟨v, rfl, ?_, ((Below.refl w.heap.size w).alloc (Nat.le_refl _) _).trans (hb.mono (by simp))⟩
  have := ho.mono (base' := w.heap.size) (by simp)
  simpa [joined] using this

theorem concat3 (w : World) (v0 v1 v2 : Value) (l0 l1 l2 : List UInt8) (h0 : Rd w v0 l0) (h1 : Rd w v1 l1) (h2 : Rd w v2 l2) (hs : l0.length + l1.length + l2.length ≤ 140737488355328) :
    Calls Try.prog 30 #[.slice (some ⟨w.heap.size, 0, none⟩) 3 3] (w.alloc (.cells #[v0, v1, v2] 22)) fun e w' => ∃ v, e = .returned v ∧ Own w' w.heap.size v (l0 ++ (l1 ++ l2)) ∧ Below w.heap.size w w' := by
  have h := concat_any [(v0, l0), (v1, l1), (v2, l2)] w.heap.size 3 (w.alloc (.cells #[v0, v1, v2] 22)) (by simp) (by simp)
    (fun i h => match i, h with | 0, _ => by simp | 1, _ => by simp | 2, _ => by simp)
    (fun i h => match i, h with | 0, _ => h0.alloc _ | 1, _ => h1.alloc _ | 2, _ => h2.alloc _) (by simp) (by simp [joined]; omega)
  refine h.mono ?_
  rintro e w' ⟨v, rfl, ho, hb⟩
  refine ⟨v, rfl, ?_, ((Below.refl w.heap.size w).alloc (Nat.le_refl _) _).trans (hb.mono (by simp))⟩
  have := ho.mono (base' := w.heap.size) (by simp)
  simpa [joined] using this

set_option maxRecDepth 100000 in
set_option maxHeartbeats 400000 in
theorem uint_any (o : Value) (lo : List UInt8) (n : Int) (w : World) (h0 : 0 ≤ n) (h1 : n ≤ 18446744073709551615) (hrd : Rd w o lo) (hlen : lo.length ≤ 140737488355000) :
    Calls Try.prog 23 #[o, .int .u64 n] w fun e w' => ∃ v, e = .returned v ∧ Own w' w.heap.size v (lo ++ U n) ∧ Below w.heap.size w w' := by
  obtain ⟨m, rfl⟩ := Int.eq_ofNat_of_zero_le h0
  have HM : Hid (m ≤ 18446744073709551615) := (by omega : m ≤ 18446744073709551615)
  clear h1
  obtain ⟨ao, cap, hv, -⟩ := id hrd
  subst hv
  have hul := U_len m
  have HU : Hid (U (m : Int) = sev 10 m) := rfl
  obtain ⟨p, HP⟩ := named (U (m : Int))
  rw [← HP.out] at hul ⊢
  go_enter Try.func23, Try.ntmps23
  go_wp2_with fail
  refine (sevens_any m HM.out _).mono ?_
  rintro e w1 ⟨v1, rfl, hown1, hb1⟩
  rw [← HU.out, ← HP.out] at hown1
  have hrd1 := hrd.below hb1
  have hrd2 := hown1.rd
  obtain ⟨a1, c1, hv1, -⟩ := hown1.rd
  subst hv1
  go_wp2_with fail
  refine (concat2 w1 _ _ lo p hrd1 hrd2 (by omega)).mono ?_
  rintro e w2 ⟨v2, rfl, hown2, hb2⟩
  go_wp2
  go_ret
  exact ⟨_, rfl, hown2.mono hb1.size, hb1.trans (hb2.mono hb1.size)⟩

set_option maxRecDepth 100000 in
set_option maxHeartbeats 400000 in
theorem own_any (b : Value) (lb : List UInt8) (w : World) (hrb : Rd w b lb) (hlen : lb.length ≤ 140737488355000) :
    Calls Try.prog 35 #[b] w fun e w' => ∃ v, e = .returned v ∧ Own w' w.heap.size v lb ∧ Below w.heap.size w w' := by
  obtain ⟨ao, cap, hv, -⟩ := id hrb
  subst hv
  go_enter Try.func35, Try.ntmps35
  go_wp2_with fail
  refine (concat1 w _ lb hrb (by omega)).mono ?_
  rintro e w2 ⟨v2, rfl, hown2, hb2⟩
  go_wp2
  go_ret
  exact ⟨_, rfl, hown2, hb2⟩

set_option maxRecDepth 100000 in
set_option maxHeartbeats 400000 in
theorem mayStand_any (x i : Int) (w : World) :
    Calls Try.prog 40 #[.int .u8 x, .int .i64 i] w fun e w' => e = .returned (.bool (mayB x i)) ∧ w' = w := by
  go_enter Try.func40, Try.ntmps40
  go_wp2
  all_goals go_ret
  all_goals refine ⟨ret_bool ?_, rfl⟩
  all_goals simp [mayB, *]

end Go.Proofs.Ytlpjfcfajagobaa
