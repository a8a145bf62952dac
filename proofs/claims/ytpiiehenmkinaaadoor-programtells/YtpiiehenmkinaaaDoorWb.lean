/-
  The contracts of bytes.Uint, Blob, own, fold, Int, unfold, mayStand. Own work.
-/
import Derived.Test.YtpiiehenmkinaaaDoorWa
namespace Go.Proofs.YtpiiehenmkinaaaDoor
open Go.RowKit

theorem sev_len (f n : Nat) : (sev f n).length ≤ f := by
  induction f generalizing n with
  | zero => simp [sev]
  | succ f ih => unfold sev; split <;> simp; exact ih _
theorem U_len (n : Int) : (U n).length ≤ 10 := sev_len 10 _

/-- Concat of one piece, of two, of three, in a new block -/
theorem concat1 (w : World) (v0 : Value) (l0 : List UInt8) (h0 : Rd w v0 l0) (hs : l0.length ≤ 140737488355328) :
    Calls Tryd.prog 27 #[.slice (some ⟨w.heap.size, 0, none⟩) 1 1] (w.alloc (.cells #[v0] 25)) fun e w' => ∃ v, e = .returned v ∧ Own w' w.heap.size v l0 ∧ Below w.heap.size w w' := by
  have h := concat_any [(v0, l0)] w.heap.size 1 (w.alloc (.cells #[v0] 25)) (by simp) (by simp)
    (fun i h => match i, h with | 0, _ => by simp)
    (fun i h => match i, h with | 0, _ => h0.alloc _) (by simp) (by simp [joined]; omega)
  refine h.mono ?_
  rintro e w' ⟨v, rfl, ho, hb⟩
  refine ⟨v, rfl, ?_, ((Below.refl w.heap.size w).alloc (Nat.le_refl _) _).trans (hb.mono (by simp))⟩
  have := ho.mono (base' := w.heap.size) (by simp)
  simpa [joined] using this

theorem concat2 (w : World) (v0 v1 : Value) (l0 l1 : List UInt8) (h0 : Rd w v0 l0) (h1 : Rd w v1 l1) (hs : l0.length + l1.length ≤ 140737488355328) :
    Calls Tryd.prog 27 #[.slice (some ⟨w.heap.size, 0, none⟩) 2 2] (w.alloc (.cells #[v0, v1] 25)) fun e w' => ∃ v, e = .returned v ∧ Own w' w.heap.size v (l0 ++ l1) ∧ Below w.heap.size w w' := by
  have h := concat_any [(v0, l0), (v1, l1)] w.heap.size 2 (w.alloc (.cells #[v0, v1] 25)) (by simp) (by simp)
    (fun i h => match i, h with | 0, _ => by simp | 1, _ => by simp)
    (fun i h => match i, h with | 0, _ => h0.alloc _ | 1, _ => h1.alloc _) (by simp) (by simp [joined]; omega)
  refine h.mono ?_
  rintro e w' ⟨v, rfl, ho, hb⟩
  refine ⟨v, rfl, ?_, ((Below.refl w.heap.size w).alloc (Nat.le_refl _) _).trans (hb.mono (by simp))⟩
  have := ho.mono (base' := w.heap.size) (by simp)
  simpa [joined] using this

theorem concat3 (w : World) (v0 v1 v2 : Value) (l0 l1 l2 : List UInt8) (h0 : Rd w v0 l0) (h1 : Rd w v1 l1) (h2 : Rd w v2 l2) (hs : l0.length + l1.length + l2.length ≤ 140737488355328) :
    Calls Tryd.prog 27 #[.slice (some ⟨w.heap.size, 0, none⟩) 3 3] (w.alloc (.cells #[v0, v1, v2] 25)) fun e w' => ∃ v, e = .returned v ∧ Own w' w.heap.size v (l0 ++ (l1 ++ l2)) ∧ Below w.heap.size w w' := by
  have h := concat_any [(v0, l0), (v1, l1), (v2, l2)] w.heap.size 3 (w.alloc (.cells #[v0, v1, v2] 25)) (by simp) (by simp)
    (fun i h => match i, h with | 0, _ => by simp | 1, _ => by simp | 2, _ => by simp)
    (fun i h => match i, h with | 0, _ => h0.alloc _ | 1, _ => h1.alloc _ | 2, _ => h2.alloc _) (by simp) (by simp [joined]; omega)
  refine h.mono ?_
  rintro e w' ⟨v, rfl, ho, hb⟩
  refine ⟨v, rfl, ?_, ((Below.refl w.heap.size w).alloc (Nat.le_refl _) _).trans (hb.mono (by simp))⟩
  have := ho.mono (base' := w.heap.size) (by simp)
  simpa [joined] using this

set_option maxRecDepth 100000 in
set_option maxHeartbeats 400000 in
theorem uint_any (o : Value) (lo : List UInt8) (n : Int) (w : World) (h0 : 0 ≤ n) (h1 : n ≤ 18446744073709551615) (hrd : Rd w o lo) (hlen : lo.length ≤ 140737488355000) :
    Calls Tryd.prog 48 #[o, .int .u64 n] w fun e w' => ∃ v, e = .returned v ∧ Own w' w.heap.size v (lo ++ U n) ∧ Below w.heap.size w w' := by
  obtain ⟨m, rfl⟩ := Int.eq_ofNat_of_zero_le h0
  have HM : Hid (m ≤ 18446744073709551615) := (by omega : m ≤ 18446744073709551615)
  clear h1
  obtain ⟨ao, cap, hv, -⟩ := id hrd
  subst hv
  have hul := U_len m
  have HU : Hid (U (m : Int) = sev 10 m) := rfl
  obtain ⟨p, HP⟩ := named (U (m : Int))
  rw [← HP.out] at hul ⊢
  go_enter Tryd.func48, Tryd.ntmps48
  go_wp2_with fail
  refine (sevens_any m HM.out _).mono ?_
  rintro e w1 ⟨v1, rfl, hown1, hb1⟩
  rw [← HU.out, ← HP.out] at hown1
  have hrd1 := hrd.below hb1
  have hrd2 := hown1.rd
  obtain ⟨a1, c1, hv1, -⟩ := hown1.rd
  subst hv1
  go_wp2_with fail
  refine (concat2 w1 _ _ lo p hrd1 hrd2 (by omega)).mono ?_
  rintro e w2 ⟨v2, rfl, hown2, hb2⟩
  go_wp2
  go_ret
  exact ⟨_, rfl, hown2.mono hb1.size, hb1.trans (hb2.mono hb1.size)⟩

set_option maxRecDepth 100000 in
set_option maxHeartbeats 400000 in
theorem blob_any (o b : Value) (lo lb : List UInt8) (w : World) (hrd : Rd w o lo) (hrb : Rd w b lb) (hlen : lo.length + lb.length ≤ 140737488355000) :
    Calls Tryd.prog 47 #[o, b] w fun e w' => ∃ v, e = .returned v ∧ Own w' w.heap.size v (lo ++ (U lb.length ++ lb)) ∧ Below w.heap.size w w' := by
  obtain ⟨ao, cap, hv, -⟩ := id hrd
  subst hv
  obtain ⟨ab, capb, hv, -⟩ := id hrb
  subst hv
  have hul := U_len lb.length
  have HU : Hid (U (lb.length : Int) = sev 10 lb.length) := rfl
  obtain ⟨p, HP⟩ := named (U (lb.length : Int))
  rw [← HP.out] at hul ⊢
  have hlb : lb.length ≤ 140737488355000 := by omega
  go_enter Tryd.func47, Tryd.ntmps47
  go_wp2_with fail
  refine (sevens_any lb.length (by omega) _).mono ?_
  rintro e w1 ⟨v1, rfl, hown1, hb1⟩
  rw [← HU.out, ← HP.out] at hown1
  have hrd1 := hrd.below hb1
  have hrd3 := hrb.below hb1
  have hrd2 := hown1.rd
  obtain ⟨a1, c1, hv1, -⟩ := hown1.rd
  subst hv1
  go_wp2_with fail
  refine (concat3 w1 _ _ _ lo p lb hrd1 hrd2 hrd3 (by omega)).mono ?_
  rintro e w2 ⟨v2, rfl, hown2, hb2⟩
  go_wp2
  go_ret
  exact ⟨_, rfl, hown2.mono hb1.size, hb1.trans (hb2.mono hb1.size)⟩

set_option maxRecDepth 100000 in
set_option maxHeartbeats 400000 in
theorem own_any (b : Value) (lb : List UInt8) (w : World) (hrb : Rd w b lb) (hlen : lb.length ≤ 140737488355000) :
    Calls Tryd.prog 79 #[b] w fun e w' => ∃ v, e = .returned v ∧ Own w' w.heap.size v lb ∧ Below w.heap.size w w' := by
  obtain ⟨ao, cap, hv, -⟩ := id hrb
  subst hv
  go_enter Tryd.func79, Tryd.ntmps79
  go_wp2_with fail
  refine (concat1 w _ lb hrb (by omega)).mono ?_
  rintro e w2 ⟨v2, rfl, hown2, hb2⟩
  go_wp2
  go_ret
  exact ⟨_, rfl, hown2, hb2⟩

set_option maxRecDepth 100000 in
set_option maxHeartbeats 400000 in
theorem fold_any (n : Int) (w : World) (h0 : -9223372036854775808 ≤ n) (h1 : n ≤ 9223372036854775807) :
    Calls Tryd.prog 69 #[.int .i64 n] w fun e w' => e = .returned (.int .u64 (foldI n)) ∧ w' = w := by
  have HF : Hid _ := fold_eq n h0 h1
  clear h0 h1
  go_enter Tryd.func69, Tryd.ntmps69
  go_wp2
  go_ret
  exact ⟨ret_int HF.out, rfl⟩

set_option maxRecDepth 100000 in
set_option maxHeartbeats 400000 in
theorem unfold_any (n : Int) (w : World) (h0 : 0 ≤ n) (h1 : n ≤ 18446744073709551615) :
    Calls Tryd.prog 89 #[.int .u64 n] w fun e w' => e = .returned (.int .i64 (unfoldI n)) ∧ w' = w := by
  have HF : Hid _ := unfold_eq n h0 h1
  clear h0 h1
  go_enter Tryd.func89, Tryd.ntmps89
  go_wp2
  go_ret
  exact ⟨ret_int HF.out, rfl⟩

set_option maxRecDepth 100000 in
set_option maxHeartbeats 400000 in
theorem mayStand_any (x i : Int) (w : World) :
    Calls Tryd.prog 80 #[.int .u8 x, .int .i64 i] w fun e w' => e = .returned (.bool (mayB x i)) ∧ w' = w := by
  go_enter Tryd.func80, Tryd.ntmps80
  go_wp2
  all_goals go_ret
  all_goals refine ⟨ret_bool ?_, rfl⟩
  all_goals simp [mayB, *]

set_option maxRecDepth 100000 in
set_option maxHeartbeats 400000 in
theorem int_any (o : Value) (lo : List UInt8) (n : Int) (w : World) (h0 : -9223372036854775808 ≤ n) (h1 : n ≤ 9223372036854775807) (hrd : Rd w o lo) (hlen : lo.length ≤ 140737488355000) :
    Calls Tryd.prog 49 #[o, .int .i64 n] w fun e w' => ∃ v, e = .returned v ∧ Own w' w.heap.size v (lo ++ U (foldI n)) ∧ Below w.heap.size w w' := by
  obtain ⟨ao, cap, hv, -⟩ := id hrd
  subst hv
  have hr := foldI_range n h0 h1
  have HR : Hid _ := hr
  have HB : Hid (-9223372036854775808 ≤ n ∧ n ≤ 9223372036854775807) := ⟨h0, h1⟩
  clear hr h0 h1
  go_enter Tryd.func49, Tryd.ntmps49
  go_wp2_with fail
  refine (fold_any n _ HB.out.1 HB.out.2).mono ?_
  rintro e w1 ⟨rfl, rfl⟩
  go_wp2_with fail
  refine (uint_any _ lo (foldI n) _ HR.out.1 HR.out.2 hrd hlen).mono ?_
  rintro e w2 ⟨v2, rfl, hown2, hb2⟩
  go_wp2
  go_ret
  exact ⟨_, rfl, hown2, hb2⟩
end Go.Proofs.YtpiiehenmkinaaaDoor
