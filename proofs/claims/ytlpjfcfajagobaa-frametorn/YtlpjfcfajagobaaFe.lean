/-
  The contracts of SameBytes, gets, errs, awake. Own work.
-/
import Derived.Test.YtlpjfcfajagobaaFc
import Derived.Lib.SlBytesConst
namespace Go.Proofs.Ytlpjfcfajagobaa
open Go.RowKit

set_option maxRecDepth 100000 in
set_option maxHeartbeats 800000 in
theorem same_any (v0 v1 : Value) (l0 l1 : List UInt8) (w : World) (h0 : Rd w v0 l0) (h1 : Rd w v1 l1) :
    Calls Try.prog 17 #[v0, v1] w fun e w' => e = .returned (.bool (decide (l0 = l1))) ∧ w' = w := by
  obtain ⟨a0, c0, hv, -⟩ := id h0
  subst hv
  obtain ⟨a1, c1, hv, -⟩ := id h1
  subst hv
  have hT := run_toStr
  have hs0 := run_str w _ l0 h0
  have hs1 := run_str w _ l1 h1
  go_enter Try.func17, Try.ntmps17
  go_wp2
  go_ret
  exact ⟨ret_bool (by rw [Bool.eq_iff_iff]; simp), rfl⟩

set_option maxRecDepth 100000 in
set_option maxHeartbeats 800000 in
theorem errs_true (er at_ : Int) (v : Value) (l : List UInt8) (w : World) (hrd : Rd w v l) (hl : l.length ≤ 140737488355000) (h1 : ((getF l at_).2.2 : Int) = er) (h2 : (getF l at_).2.1 = 0) (h3 : (getF l at_).1 = []) :
    Calls Try.prog 13 #[.int .i64 er, .int .i64 at_, v] w fun e w' => e = .returned (.bool true) ∧ Below w.heap.size w w' := by
  have hc := get_any v l at_ w hrd hl
  rw [h1, h2, h3] at hc
  obtain ⟨ao, cap, hv, -⟩ := id hrd
  subst hv
  clear h1 h2 h3
  go_enter Try.func13, Try.ntmps13
  go_wp2_with fail
  refine hc.mono ?_
  rintro e w1 ⟨v1, rfl, hown, hb⟩
  obtain ⟨a1, c1, hv1, -⟩ := id hown.rd
  subst hv1
  go_wp2
  go_ret
  exact ⟨rfl, hb⟩

set_option maxRecDepth 100000 in
set_option maxHeartbeats 800000 in
theorem gets_true (at_ : Int) (next : Nat) (v : Value) (l b : List UInt8) (w : World) (hrd : Rd w v l) (hl : l.length ≤ 140737488355000) (hg : getF l at_ = (b, next, 0)) :
    Calls Try.prog 27 #[v, .int .i64 at_, .string ⟨b.toArray⟩, .int .i64 next] w fun e w' => e = .returned (.bool true) ∧ Below w.heap.size w w' := by
  have hc := get_any v l at_ w hrd hl
  rw [hg] at hc
  obtain ⟨ao, cap, hv, -⟩ := id hrd
  subst hv
  clear hg
  have hT := run_toStr
  simp only at hc
  go_enter Try.func27, Try.ntmps27
  go_wp2_with fail
  refine hc.mono ?_
  rintro e w1 ⟨v1, rfl, hown, hb⟩
  have hs1 := run_str w1 _ b hown.rd
  obtain ⟨a1, c1, hv1, -⟩ := id hown.rd
  subst hv1
  go_wp2
  go_ret
  exact ⟨rfl, hb⟩

theorem put_a : putL [] [97] = ([1, 97, 232, 183, 190, 67, 165], 0) := by decide +kernel

set_option maxRecDepth 100000 in
set_option maxHeartbeats 2000000 in
theorem awake_true (w : World) : Calls Try.prog 14 #[] w fun e w' => e = .returned (.bool true) ∧ Below w.heap.size w w' := by
  have kc := fun (w : World) (C : Array Value) (n c : Nat) => Lib.run_convert_bytes_const (P := Try.prog) w 22 5 C n c Try.underlying22 Try.underlying5
  have HP : Hid _ := put_a
  go_enter Try.func14, Try.ntmps14
  go_wp2_with fail
  refine (put_any _ _ [] [97] _ (Rd.nil _) (Rd.lit _ _ [97] _ _ _ rfl rfl (by decide)) (by decide)).mono ?_
  rintro e w1 ⟨v1, rfl, hown1, hb1⟩
  rw [HP.out] at hown1 ⊢
  simp only at hown1
  have hB1 : Below w.heap.size w w1 := below_alloc_call (Below.refl _ _) hb1
  clear hb1
  obtain ⟨a1, c1, hv1, -⟩ := id hown1.rd
  subst hv1
  have hr1 := hown1.rd
  clear hown1
  go_wp2_with fail
  refine (same_any _ _ [1, 97, 232, 183, 190, 67, 165] [1, 97, 232, 183, 190, 67, 165] _ (hr1.alloc _) (Rd.lit _ _ [1, 97, 232, 183, 190, 67, 165] _ _ _ rfl rfl (by decide))).mono ?_
  rintro e w2 ⟨rfl, hw2⟩
  rw [decide_eq_true rfl]
  have hr2 : Rd w2 _ _ := hw2 ▸ hr1.alloc _
  have hB2 : Below w.heap.size w w2 := hw2 ▸ hB1.alloc hB1.size _
  clear hw2 hr1 hB1
  go_wp2_with fail
  refine (gets_true 0 7 _ [1, 97, 232, 183, 190, 67, 165] [97] _ hr2 (by decide) (by decide +kernel)).mono ?_
  rintro e w3 ⟨rfl, hb3⟩
  have hr3 := hr2.below hb3
  have hB3 : Below w.heap.size w w3 := below_call hB2 hb3
  clear hb3 hB2 hr2
  go_wp2_with fail
  refine (errs_true 11 7 _ [1, 97, 232, 183, 190, 67, 165] _ hr3 (by decide) (by decide +kernel) (by decide +kernel) (by decide +kernel)).mono ?_
  rintro e w4 ⟨rfl, hb4⟩
  have hB4 : Below w.heap.size w w4 := below_call hB3 hb4
  clear hb4 hB3 hr3
  go_wp2_with fail
  refine (errs_true 10 0 _ [1, 97, 232, 183, 190, 67, 0] _ (Rd.lit _ _ [1, 97, 232, 183, 190, 67, 0] _ _ _ rfl rfl (by decide)) (by decide) (by decide +kernel) (by decide +kernel) (by decide +kernel)).mono ?_
  rintro e w5 ⟨rfl, hb5⟩
  have hB5 : Below w.heap.size w w5 := below_alloc_call hB4 hb5
  clear hb5 hB4
  go_wp2_with fail
  refine (errs_true 12 0 _ [1, 98, 232, 183, 190, 67, 165] _ (Rd.lit _ _ [1, 98, 232, 183, 190, 67, 165] _ _ _ rfl rfl (by decide)) (by decide) (by decide +kernel) (by decide +kernel) (by decide +kernel)).mono ?_
  rintro e w6 ⟨rfl, hb6⟩
  have hB6 : Below w.heap.size w w6 := below_alloc_call hB5 hb6
  clear hb6 hB5
  go_wp2_with fail
  refine (errs_true 10 0 _ [0] _ (Rd.lit _ _ [0] _ _ _ rfl rfl (by decide)) (by decide) (by decide +kernel) (by decide +kernel) (by decide +kernel)).mono ?_
  rintro e w7 ⟨rfl, hb7⟩
  have hB7 : Below w.heap.size w w7 := below_alloc_call hB6 hb7
  clear hb7 hB6
  go_wp2_with fail
  go_ret
  exact ⟨rfl, hB7⟩
end Go.Proofs.Ytlpjfcfajagobaa
