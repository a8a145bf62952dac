/-
  The contracts of the document's Uint, Int and Blob. Own work.
-/
import Derived.Test.YtpiiehenmkinaaaDoorRb
namespace Go.Proofs.YtpiiehenmkinaaaDoor
open Go.RowKit

set_option maxRecDepth 100000 in
set_option maxHeartbeats 400000 in
theorem refUint_any (o : Value) (lo : List UInt8) (n : Nat) (w : World) (hn : n ≤ 18446744073709551615) (hrd : Rd w o lo) (hlen : lo.length ≤ 140737488354000) :
    Calls Tryd.prog 29 #[o, .int .u64 n] w fun e w' => ∃ v, e = .returned v ∧ Own w' w.heap.size v (lo ++ U n) ∧ Below w.heap.size w w' := by
  obtain ⟨ao, cap, hv, -⟩ := id hrd
  subst hv
  have hul := U_len n
  obtain ⟨p, HP⟩ := named (U (n : Int))
  rw [← HP.out] at hul ⊢
  have HN : Hid _ := hn
  clear hn
  go_enter Tryd.func29, Tryd.ntmps29
  go_wp2_with fail
  refine (varint_any n _ HN.out).mono ?_
  rintro e w1 ⟨v1, rfl, hown1, hb1⟩
  rw [← HP.out] at hown1
  have hrd1 := hrd.below hb1
  have hrd2 := hown1.rd
  obtain ⟨a1, c1, hv1, -⟩ := hown1.rd
  subst hv1
  go_wp2_with fail
  refine (both_any _ _ lo p w1 hrd1 hrd2 (by omega)).mono ?_
  rintro e w2 ⟨v2, rfl, hown2, hb2⟩
  go_wp2
  go_ret
  exact ⟨_, rfl, hown2.mono hb1.size, hb1.trans (hb2.mono hb1.size)⟩

set_option maxRecDepth 100000 in
set_option maxHeartbeats 400000 in
theorem refBlob_any (o b : Value) (lo lb : List UInt8) (w : World) (hrd : Rd w o lo) (hrb : Rd w b lb) (hlen : lo.length + lb.length ≤ 140737488354000) :
    Calls Tryd.prog 28 #[o, b] w fun e w' => ∃ v, e = .returned v ∧ Own w' w.heap.size v (lo ++ (U lb.length ++ lb)) ∧ Below w.heap.size w w' := by
  obtain ⟨ao, cap, hv, -⟩ := id hrd
  subst hv
  obtain ⟨ab, capb, hv, -⟩ := id hrb
  subst hv
  have hul := U_len lb.length
  obtain ⟨p, HP⟩ := named (U (lb.length : Int))
  rw [← HP.out] at hul ⊢
  have hlb : lb.length ≤ 140737488354000 := by omega
  go_enter Tryd.func28, Tryd.ntmps28
  go_wp2_with fail
  refine (refUint_any _ lo lb.length _ (by omega) hrd (by omega)).mono ?_
  rintro e w1 ⟨v1, rfl, hown1, hb1⟩
  rw [← HP.out] at hown1
  have hql : (lo ++ p).length ≤ lo.length + 10 := by rw [List.length_append]; omega
  obtain ⟨q, HQ⟩ := named (lo ++ p)
  rw [← HQ.out] at hown1 hql
  have hrd3 := hrb.below hb1
  have hrd2 := hown1.rd
  obtain ⟨a1, c1, hv1, -⟩ := hown1.rd
  subst hv1
  go_wp2_with fail
  refine (both_any _ _ q lb w1 hrd2 hrd3 (by omega)).mono ?_
  rintro e w2 ⟨v2, rfl, hown2, hb2⟩
  go_wp2
  go_ret
  rw [HQ.out, List.append_assoc] at hown2
  exact ⟨_, rfl, hown2.mono hb1.size, hb1.trans (hb2.mono hb1.size)⟩

set_option maxRecDepth 100000 in
set_option maxHeartbeats 400000 in
theorem refInt_any (o : Value) (lo : List UInt8) (n : Int) (w : World) (h0 : -9223372036854775808 ≤ n) (h1 : n ≤ 9223372036854775807) (hrd : Rd w o lo) (hlen : lo.length ≤ 140737488354000) :
    Calls Tryd.prog 30 #[o, .int .i64 n] w fun e w' => ∃ v, e = .returned v ∧ Own w' w.heap.size v (lo ++ U (foldI n)) ∧ Below w.heap.size w w' := by
  obtain ⟨ao, cap, hv, -⟩ := id hrd
  subst hv
  by_cases hn : 0 ≤ n
  · have e : foldI n = ((2 * n.toNat : Nat) : Int) := by unfold foldI; rw [if_pos hn]; omega
    have hr : 2 * n.toNat ≤ 18446744073709551615 := by omega
    have HE : Hid (2 * n = ((2 * n.toNat : Nat) : Int)) := by
      show 2 * n = ((2 * n.toNat : Nat) : Int)
      omega
    rw [e]
    obtain ⟨m, HM⟩ := named (2 * n.toNat)
    rw [← HM.out] at HE hr ⊢
    have HR : Hid _ := hr
    clear e hr
    go_enter Tryd.func30, Tryd.ntmps30
    go_wp2_with fail
    rw [HE.out]
    refine (refUint_any _ lo m _ HR.out hrd hlen).mono ?_
    rintro e w1 ⟨v1, rfl, hown1, hb1⟩
    go_wp2
    go_ret
    exact ⟨_, rfl, hown1, hb1⟩
  · have e : foldI n = ((2 * (-(n + 1)).toNat + 1 : Nat) : Int) := by unfold foldI; rw [if_neg hn]; omega
    have hr : 2 * (-(n + 1)).toNat + 1 ≤ 18446744073709551615 := by omega
    have HE : Hid (2 * (-(n + 1)) + 1 = ((2 * (-(n + 1)).toNat + 1 : Nat) : Int)) := by
      show 2 * (-(n + 1)) + 1 = ((2 * (-(n + 1)).toNat + 1 : Nat) : Int)
      omega
    rw [e]
    obtain ⟨m, HM⟩ := named (2 * (-(n + 1)).toNat + 1)
    rw [← HM.out] at HE hr ⊢
    have HR : Hid _ := hr
    clear e hr
    go_enter Tryd.func30, Tryd.ntmps30
    go_wp2_with fail
    rw [HE.out]
    refine (refUint_any _ lo m _ HR.out hrd hlen).mono ?_
    rintro e w1 ⟨v1, rfl, hown1, hb1⟩
    go_wp2
    go_ret
    exact ⟨_, rfl, hown1, hb1⟩
end Go.Proofs.YtpiiehenmkinaaaDoor
