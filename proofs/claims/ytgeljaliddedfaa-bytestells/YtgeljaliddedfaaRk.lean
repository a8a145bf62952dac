/-
  The contracts of the document's Seal and Unseal. Own work.
-/
import Derived.Test.YtgeljaliddedfaaRj
import Derived.Test.YtgeljaliddedfaaWh
import Derived.Test.YtgeljaliddedfaaWi
namespace Go.Proofs.Ytgeljaliddedfaa
open Go.RowKit

set_option maxRecDepth 100000 in
set_option maxHeartbeats 800000 in
theorem refSeal_any (v : Value) (l : List UInt8) (w : World) (hrd : Rd w v l) (hl : l.length ≤ 1000000) :
    Calls Try.prog 27 #[v] w fun e w' => ∃ v, e = .returned v ∧ Own w' w.heap.size v (l ++ be4 (crc l)) ∧ Below w.heap.size w w' := by
  obtain ⟨R, HR⟩ := named (crc l)
  rw [← HR.out]
  have HLT : Hid (R.toNat < 4294967296) := R.isLt
  obtain ⟨ao, cap, hv, -⟩ := id hrd
  subst hv
  have hlt := HLT.out
  obtain ⟨r, HRN⟩ := named R.toNat
  rw [← HRN.out] at hlt
  go_enter Try.func27, Try.ntmps27
  go_wp2_with fail
  refine (refCrc_any _ l _ hrd hl).mono ?_
  rintro e w1 ⟨rfl, hb1⟩
  rw [← HR.out, ← HRN.out]
  have hrd1 := hrd.below hb1
  go_wp2_with fail
  have hrdL : Rd (w1.alloc (.cells #[Value.int IntKind.u8 ((r : Int) / 16777216), Value.int IntKind.u8 ((r : Int) / 65536 % 256), Value.int IntKind.u8 ((r : Int) / 256 % 256), Value.int IntKind.u8 ((r : Int) % 256)] 5)) (.slice (some ⟨w1.heap.size, 0, none⟩) 4 4) (be4 R) := by
    refine Rd.lit w1 _ (be4 R) 4 5 (0, 0) ?_ rfl (by unfold maxLen; omega)
    rw [HRN.out]
    exact be4_cells R
  refine (both_any _ _ l (be4 R) _ (hrd1.alloc _) hrdL (by have : (be4 R).length = 4 := rfl; omega)).mono ?_
  rintro e w2 ⟨v2, rfl, hown2, hb2⟩
  go_wp2
  go_ret
  have hb3 : Below w1.heap.size w1 w2 := below_alloc_call (Below.refl _ _) hb2
  exact ⟨_, rfl, hown2.mono (by have := hb1.size; simp; omega), below_call hb1 hb3⟩

set_option maxRecDepth 100000 in
set_option maxHeartbeats 1600000 in
theorem refUnseal_any (v : Value) (l : List UInt8) (w : World) (hrd : Rd w v l) (hl : l.length ≤ 1000000) :
    Calls Try.prog 25 #[v] w fun e w' => ∃ v, e = .returned (.tuple #[v, .int .i64 (unsealL l).2]) ∧ Own w' w.heap.size v (unsealL l).1 ∧ Below w.heap.size w w' := by
  obtain ⟨ao, cap, hv, h1, h2, -⟩ := id hrd
  subst hv
  unfold maxLen at h2
  by_cases h4 : l.length < 4
  · have h4' : (l.length : Int) < 4 := by omega
    have e : unsealL l = ([], 11) := by unfold unsealL; rw [if_pos h4]
    rw [e]
    clear e
    go_enter Try.func25, Try.ntmps25
    go_wp2
    go_ret2
    exact ⟨_, rfl, Own.nil _ _, Below.refl _ _⟩
  · obtain ⟨m, hm⟩ : ∃ m, l.length = m + 4 := ⟨l.length - 4, by omega⟩
    have HM : Hid _ := hm
    have e : unsealL l = if l.drop m = be4 (crc (l.take m)) then (l.take m, 0) else ([], 12) := by unfold unsealL; rw [if_neg h4, hm, show m + 4 - 4 = m by omega]
    rw [e]
    clear e
    rw [hm] at hl hrd h1 ⊢
    clear hm h4
    have hmI : (m : Int) ≤ cap := by omega
    have hrdA := hrd.take m (by rw [HM.out]; omega)
    have hmA : (l.take m).length = m := by rw [List.length_take, HM.out]; omega
    have HEQ : Hid ((l.take m ++ be4 (crc (l.take m)) = l) ↔ l.drop m = be4 (crc (l.take m))) := by
      constructor
      · intro h
        have := congrArg (List.drop m) h
        rw [List.drop_append_of_le_length (by omega), List.drop_eq_nil_of_le (by omega), List.nil_append] at this
        exact this.symm
      · intro h
        rw [← h]
        exact List.take_append_drop m l
    obtain ⟨lA, HA⟩ := named (l.take m)
    rw [← HA.out] at hrdA hmA HEQ ⊢
    have HMA : Hid _ := hmA
    clear hmA
    obtain ⟨K, HK⟩ := named (be4 (crc lA))
    rw [← HK.out] at HEQ ⊢
    have hT := run_toStr
    by_cases hd : l.drop m = K
    · rw [if_pos hd]
      have HS : Hid (lA ++ K = l) := HEQ.out.2 hd
      clear hd
      obtain ⟨Z, HZ⟩ := named (lA ++ K)
      rw [← HZ.out] at HS
      go_enter Try.func25, Try.ntmps25
      go_wp2_with fail
      refine (both_any _ _ [] lA _ (Rd.nil _) hrdA (by have := HMA.out; simp; omega)).mono ?_
      rintro e w1 ⟨v1, rfl, hown1, hb1⟩
      rw [List.nil_append] at hown1
      have hrd1 := hrd.below hb1
      have hs0 := run_str w1.drew _ l hrd1.drew
      obtain ⟨a1, c1, hv1, -⟩ := id hown1.rd
      subst hv1
      go_wp2_with fail
      go_region_held (fun w' => Sem.run Try.prog (toStr (.slice ao (m + 4) cap)) w' = .ok (.string ⟨l.toArray⟩) w') (first | exact hs0 | exact hs1)
        (first | (go_at_call 27; refine (refSeal_any _ lA _ hown1.rd.drew ?_).mono ?_; (have := HMA.out; omega); rintro e w2 ⟨v2, rfl, hown2, hb2⟩; rw [← HK.out, ← HZ.out, HS.out] at hown2; have hs1 := run_str w2 _ l (hrd1.drew.below hb2); have hs2 := run_str w2 _ l hown2.rd; obtain ⟨a2, c2, hv2, -⟩ := id hown2.rd; subst hv2))
      go_wp2
      go_ret2
      exact ⟨_, rfl, hown1.drew.below hb2, below_call hb1.drew hb2⟩
    · rw [if_neg hd]
      have HS : Hid (¬ lA ++ K = l) := fun h => hd (HEQ.out.1 h)
      clear hd
      obtain ⟨Z, HZ⟩ := named (lA ++ K)
      rw [← HZ.out] at HS
      have hne : (Z == l) = false := by rw [beq_eq_false_iff_ne]; exact HS.out
      go_enter Try.func25, Try.ntmps25
      go_wp2_with fail
      refine (both_any _ _ [] lA _ (Rd.nil _) hrdA (by have := HMA.out; simp; omega)).mono ?_
      rintro e w1 ⟨v1, rfl, hown1, hb1⟩
      rw [List.nil_append] at hown1
      have hrd1 := hrd.below hb1
      have hs0 := run_str w1.drew _ l hrd1.drew
      obtain ⟨a1, c1, hv1, -⟩ := id hown1.rd
      subst hv1
      go_wp2_with fail
      go_region_held (fun w' => Sem.run Try.prog (toStr (.slice ao (m + 4) cap)) w' = .ok (.string ⟨l.toArray⟩) w') (first | exact hs0 | exact hs1)
        (first | (go_at_call 27; refine (refSeal_any _ lA _ hown1.rd.drew ?_).mono ?_; (have := HMA.out; omega); rintro e w2 ⟨v2, rfl, hown2, hb2⟩; rw [← HK.out, ← HZ.out] at hown2; have hs1 := run_str w2 _ l (hrd1.drew.below hb2); have hs2 := run_str w2 _ Z hown2.rd; obtain ⟨a2, c2, hv2, -⟩ := id hown2.rd; subst hv2))
      go_wp2
      go_ret2
      exact ⟨_, rfl, Own.nil _ _, below_call hb1.drew hb2⟩
end Go.Proofs.Ytgeljaliddedfaa
