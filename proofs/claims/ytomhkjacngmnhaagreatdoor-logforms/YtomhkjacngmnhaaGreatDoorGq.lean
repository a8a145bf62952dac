/-
  The contracts of small, and of Trim upon a log that is over. Own work.
-/
import Derived.Test.YtomhkjacngmnhaaGreatDoorQw
namespace Go.Proofs.YtomhkjacngmnhaaGreatDoor
open Go.RowKit

/-- records such that are looked at -/
def smallB (qs : List (List UInt8)) : Bool := decide (qs.length ≤ 20) && qs.all fun q => decide (q.length ≤ 60)

set_option maxRecDepth 100000 in
set_option maxHeartbeats 800000 in
theorem small_any (v : Value) (ps : List (Value × List UInt8)) (w : World) (hv : RdL w v ps) : Calls Tryz.prog 31 #[v] w fun e w' => e = .returned (.bool (smallB (ps.map Prod.snd))) ∧ w' = w := by
  obtain ⟨ao, cap, hv0, h1, h2, h3, -⟩ := id hv.1
  rw [List.length_map] at hv0 h1
  obtain ⟨n, HN⟩ := named ps.length
  rw [← HN.out] at hv0 h1
  subst hv0
  unfold maxLen at h2
  have HRD : Hid _ := hv
  clear hv h3
  by_cases hbig : 20 < n
  · have HE : Hid (smallB (ps.map Prod.snd) = false) := by
      show _ = _
      unfold smallB
      rw [List.length_map, ← HN.out, decide_eq_false (by omega), Bool.false_and]
    have hbig' : (20 : Int) < n := by omega
    go_enter Tryz.func31, Tryz.ntmps31
    go_wp2
    go_ret
    exact ⟨by rw [HE.out]; rfl, rfl⟩
  · have hbig' : ¬ (20 : Int) < n := by omega
    go_enter Tryz.func31, Tryz.ntmps31
    go_wp2
    go_loop [3] (fun iv => ∃ k : Nat, k ≤ n ∧ iv = .int .i64 k ∧ Hid (((ps.map Prod.snd).take k).all (fun q => decide (q.length ≤ 60)) = true)) (fun iv => n - (intOf iv).toNat)
    case atStart => exact ⟨0, by omega, rfl, by show _ = _; simp⟩
    case round =>
      obtain ⟨k, hk, rfl, HA⟩ := hrel
      by_cases hlt : k < n
      · have hkp : k < ps.length := by rw [← HN.out]; exact hlt
        obtain ⟨b0, off, c0, hv0, -, -, hb0, hcs⟩ := HRD.out.1.cells (by rw [List.length_map]; omega)
        rw [List.length_map, ← HN.out] at hv0
        cases hv0
        have hck := hcs k (by rw [List.length_map]; exact hkp)
        rw [List.getElem_map] at hck
        obtain ⟨a1, c1, hpv, hpc, hpm, -⟩ := HRD.out.2 k hkp
        have HTK : Hid ((ps.map Prod.snd).take (k + 1) = (ps.map Prod.snd).take k ++ [ps[k].2]) := by
          show _ = _
          rw [List.take_succ_eq_append_getElem (by rw [List.length_map]; exact hkp), List.getElem_map]
        have HMEM : Hid (ps[k].2 ∈ ps.map Prod.snd) := List.mem_map.2 ⟨ps[k], List.getElem_mem hkp, rfl⟩
        obtain ⟨q, HQ⟩ := named (ps[k].2)
        rw [← HQ.out] at hpv hpc HTK HMEM
        obtain ⟨m, HM⟩ := named q.length
        rw [← HM.out] at hpv hpc
        rw [hpv] at hck
        clear hcs hpv
        have hlt' : (k : Int) < n := by omega
        by_cases hm : 60 < m
        · have hm' : (60 : Int) < m := by omega
          have HE : Hid (smallB (ps.map Prod.snd) = false) := by
            show _ = _
            unfold smallB
            rw [Bool.and_eq_false_iff]
            right
            rw [List.all_eq_false]
            exact ⟨q, HMEM.out, by rw [← HM.out]; simp; omega⟩
          go_wp2
          go_ret
          exact ⟨by rw [HE.out]; rfl, rfl⟩
        · have hm' : ¬ (60 : Int) < m := by omega
          go_wp2
          go_round
          case rel => exact ⟨k + 1, by omega, by go_num, by show _ = _; rw [HTK.out, List.all_append, HA.out, Bool.true_and]; simp [← HM.out]; omega⟩
          case measure => simp [intOf]; omega
      · have hlt' : ¬ (k : Int) < n := by omega
        have HE : Hid (smallB (ps.map Prod.snd) = true) := by
          show _ = _
          have := HA.out
          rw [List.take_of_length_le (by rw [List.length_map, ← HN.out]; omega)] at this
          unfold smallB
          rw [this, List.length_map, ← HN.out, decide_eq_true (by omega)]
          rfl
        go_wp2
        go_ret
        exact ⟨by rw [HE.out]; rfl, rfl⟩

set_option maxRecDepth 100000 in
set_option maxHeartbeats 400000 in
theorem trim_over {w : World} {F : Nat → Prop} {bl bs : Nat} {d : Value} {L : AL} {D : AD} (h : Lk w F bl bs d L D) (ho : L.over = true) (n : Int) : Calls Tryz.prog 21 #[.pointer (some ⟨bl, 0, none⟩), .int .i64 n] w fun e w' => e = .returned (.tuple #[.slice none 0 0, .int .i64 17]) ∧ Below w.heap.size w w' := by
  have h2 := h.below ((Below.refl _ _).alloc (Nat.le_refl _) (Obj.cells #[Value.pointer (some ⟨bl, 0, none⟩)] 28))
  have hfl := lfails_any h2
  rw [show failsL L = 17 by unfold failsL; rw [ho]; rfl] at hfl
  go_enter Tryz.func21, Tryz.ntmps21
  go_wp2_with fail
  refine hfl.mono ?_
  rintro e w1 ⟨rfl, hb⟩
  go_wp2_with fail
  go_ret2
  exact ⟨rfl, ((Below.refl _ _).alloc (Nat.le_refl _) _).trans (hb.mono (by simp))⟩

theorem ackL_over (L : AL) (D : AD) : (ackL L D).1.over = L.over := by
  unfold ackL
  split
  · rfl
  · split <;> rfl
theorem beginG_over (n : Int) (L : AL) (D : AD) : (beginG L D n).1.over = L.over := by
  unfold beginG
  split
  · split <;> rfl
  · rfl
theorem putG_over (b : List UInt8) (L : AL) (D : AD) : (putG L D b).1.over = L.over := by
  unfold putG
  split <;> rfl
theorem doG1_over {f : Act3} (hf : ∀ L D, (f L D).1.over = L.over) (L : AL) (D : AD) (ho : L.over = false) : ((doG [f] L D).2.2 = 0 ∧ (doG [f] L D).1.over = false) ∨ ((doG [f] L D).2.2 ≠ 0 ∧ (doG [f] L D).1.over = true) := by
  by_cases h1 : (f L D).2.2 = 0
  · left
    simp only [doG, if_pos h1]
    exact ⟨trivial, by rw [hf, ho]⟩
  · right
    simp only [doG, if_neg h1]
    exact ⟨h1, trivial⟩
theorem doG2_over {f g : Act3} (hf : ∀ L D, L.over = false → ((f L D).2.2 = 0 → (f L D).1.over = false)) (hg : ∀ L D, (g L D).1.over = L.over) (L : AL) (D : AD) (ho : L.over = false) : ((doG [f, g] L D).2.2 = 0 ∧ (doG [f, g] L D).1.over = false) ∨ ((doG [f, g] L D).2.2 ≠ 0 ∧ (doG [f, g] L D).1.over = true) := by
  by_cases h1 : (f L D).2.2 = 0
  · by_cases h2 : (g (f L D).1 (f L D).2.1).2.2 = 0
    · left
      simp only [doG, if_pos h1, if_pos h2]
      exact ⟨trivial, by rw [hg, hf L D ho h1]⟩
    · right
      simp only [doG, if_pos h1, if_neg h2]
      exact ⟨h2, trivial⟩
  · right
    simp only [doG, if_neg h1]
    exact ⟨h1, trivial⟩
theorem roomG_over (n : Int) (L : AL) (D : AD) (ho : L.over = false) (h : (roomG n L D).2.2 = 0) : (roomG n L D).1.over = false := by
  unfold roomG at h ⊢
  by_cases h1 : L.firsts ≠ [] ∧ (lookF D.files (fileB L)).bytes.length < L.size
  · rw [if_pos h1]
    exact ho
  · rw [if_neg h1] at h ⊢
    rcases doG2_over (f := ackL) (g := fun L D => beginG L D n) (fun L D ho _ => by rw [ackL_over, ho]) (beginG_over n) L D ho with hh | hh
    · exact hh.2
    · exact absurd h hh.1
/-- behind Sync: over, just if it failed -/
theorem syncG_over (L : AL) (D : AD) (ho : L.over = false) : ((syncG L D).2.2 = 0 ∧ (syncG L D).1.over = false) ∨ ((syncG L D).2.2 ≠ 0 ∧ (syncG L D).1.over = true) := by
  unfold syncG
  rw [ho]
  exact doG1_over ackL_over L D ho
/-- behind Write of a batch that may be: over, just if it failed -/
theorem writeG_over (qs : List (List UInt8)) (L : AL) (D : AD) (ho : L.over = false) (hb : (bytesL (L.last + 1) qs).2 = 0) : ((writeG qs L D).2.2.2 = 0 ∧ (writeG qs L D).1.over = false) ∨ ((writeG qs L D).2.2.2 ≠ 0 ∧ (writeG qs L D).1.over = true) := by
  unfold writeG
  rw [ho]
  simp only [Bool.false_eq_true, if_false]
  unfold writeB
  rw [if_pos hb]
  obtain ⟨b, hbb⟩ : ∃ b, b = (bytesL (L.last + 1) qs).1 := ⟨_, rfl⟩
  rw [← hbb]
  have hh : ((writeR (L.last + 1) b L D).2.2 = 0 ∧ (writeR (L.last + 1) b L D).1.over = false) ∨ ((writeR (L.last + 1) b L D).2.2 ≠ 0 ∧ (writeR (L.last + 1) b L D).1.over = true) := doG2_over (f := roomG (L.last + 1)) (g := fun L D => putG L D b) (fun L D ho h => roomG_over _ L D ho h) (putG_over b) L D ho
  rcases hh with hh | hh
  · left
    rw [if_pos hh.1]
    exact ⟨rfl, hh.2⟩
  · right
    rw [if_neg hh.1]
    exact hh
end Go.Proofs.YtomhkjacngmnhaaGreatDoor
