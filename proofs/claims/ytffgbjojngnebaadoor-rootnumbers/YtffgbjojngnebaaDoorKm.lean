/-
  The contract of SameTexts. Own work.
-/
import Derived.Test.YtffgbjojngnebaaDoorQr
import Derived.Test.YtffgbjojngnebaaDoorQg
import Derived.Deep.QuietTactic
import Derived.BigQuiet
import Derived.WideShapes
namespace Go.Proofs.YtffgbjojngnebaaDoor
open Go.RowKit

theorem str_ne {a b : ByteArray} (h : a ≠ b) : (a.toList == b.toList) = false := by
  rw [beq_eq_false_iff_ne, ByteArray.toList_eq, ByteArray.toList_eq]
  exact fun e => h (Go.WideShapes.bytes_inj e)
theorem str_eq (a : ByteArray) : (a.toList == a.toList) = true := by simp
/-- a slice that reads as these texts -/
def RdT (w : World) (v : Value) (us : List ByteArray) : Prop := RdV w v (us.map .string)
theorem RdT.below {w w' : World} {v : Value} {us : List ByteArray} (h : RdT w v us) (hb : Below w.heap.size w w') : RdT w' v us := RdV.below h hb

set_option maxRecDepth 100000 in
set_option maxHeartbeats 800000 in
theorem sameTexts_any (u v : Value) (us vs : List ByteArray) (w : World) (hu : RdT w u us) (hv : RdT w v vs) : Calls Tryd.prog 54 #[u, v] w fun e w' => e = .returned (.bool (decide (us = vs))) ∧ Below w.heap.size w w' := by
  obtain ⟨ao, cap, hu0, h1, h2, -⟩ := id hu
  obtain ⟨bo, cbp, hv0, h3, h4, -⟩ := id hv
  rw [List.length_map] at hu0 h1 hv0 h3
  obtain ⟨n, HN⟩ := named us.length
  obtain ⟨m, HM⟩ := named vs.length
  rw [← HN.out] at hu0 h1
  rw [← HM.out] at hv0 h3
  subst hu0 hv0
  have HU : Hid _ := hu
  have HV : Hid _ := hv
  unfold maxLen at h2 h4
  clear hu hv
  go_enter Tryd.func54, Tryd.ntmps54
  go_wp2
  go_loopw [8] (fun iv wr => ∃ k : Nat, k ≤ n ∧ k ≤ m ∧ iv = .int .i64 k ∧ Hid (us.take k = vs.take k) ∧ Hid (Below w.heap.size w wr)) (fun iv _ => n - (intOf iv).toNat)
  case atStart => exact ⟨0, by omega, by omega, rfl, (by show _ = _; simp), Below.refl _ _⟩
  case round =>
    obtain ⟨k, hk, hkm, rfl, HT, HB⟩ := hrel
    by_cases hlt : k < n
    · have hlt' : (k : Int) < n := by omega
      have hkl : k < us.length := by rw [← HN.out]; exact hlt
      obtain ⟨b0, o0, c0, hv0, -, -, hb0, hcs⟩ := HU.out.cells (by rw [List.length_map]; omega)
      rw [List.length_map, ← HN.out] at hv0
      cases hv0
      have hck := (HB.out.cell (p := ⟨b0, o0 + k, none⟩) hb0).trans (hcs k (by rw [List.length_map]; exact hkl))
      rw [List.getElem_map] at hck
      by_cases hm : k = m
      · have hmm : ((k : Int) == m) = true := by simp only [beq_iff_eq]; omega
        have HF : Hid (decide (us = vs) = false) := by
          show _ = _
          rw [decide_eq_false_iff_not]
          intro e
          rw [HM.out, ← e, ← HN.out] at hm
          omega
        clear hm hcs hck
        go_wp2_with fail
        go_quiet (fail)
        go_wp2_with fail
        go_ret
        exact ⟨by rw [HF.out]; rfl, HB.out.trans (below_drewN wr _ _)⟩
      · have hmm : ((k : Int) == m) = false := by simp only [beq_eq_false_iff_ne]; omega
        have hlm : k < vs.length := by rw [← HM.out]; omega
        obtain ⟨b1, o1, c1, hv1, -, -, hb1, hcs1⟩ := HV.out.cells (by rw [List.length_map]; omega)
        rw [List.length_map, ← HM.out] at hv1
        cases hv1
        have hck1 := (HB.out.cell (p := ⟨b1, o1 + k, none⟩) hb1).trans (hcs1 k (by rw [List.length_map]; exact hlm))
        rw [List.getElem_map] at hck1
        have hi0 : (0 : Int) ≤ (k : Int) := by omega
        have hi1 : (k : Int) < (m : Int) := by omega
        have HT0 : Hid (us.take (k + 1) = us.take k ++ [us[k]]) := List.take_succ_eq_append_getElem hkl
        have HT1 : Hid (vs.take (k + 1) = vs.take k ++ [vs[k]]) := List.take_succ_eq_append_getElem hlm
        obtain ⟨x, HX⟩ := named (us[k]'hkl)
        obtain ⟨y, HY⟩ := named (vs[k]'hlm)
        rw [← HX.out] at hck HT0
        rw [← HY.out] at hck1 HT1
        clear hcs hcs1
        by_cases hxy : x = y
        · subst hxy
          have hq := str_eq x
          go_wp2_with fail
          go_quiet (fail)
          go_wp2_with fail
          go_roundw
          case rel => exact ⟨k + 1, by omega, by omega, by go_num, (by show _ = _; rw [HT0.out, HT1.out, HT.out]), HB.out.trans (below_drewN wr _ _)⟩
          case measure => simp [intOf]; omega
        · have hq := str_ne hxy
          have HF : Hid (decide (us = vs) = false) := by
            show _ = _
            rw [decide_eq_false_iff_not]
            rintro rfl
            exact hxy (HX.out.trans HY.out.symm)
          go_wp2_with fail
          go_quiet (fail)
          go_wp2_with fail
          go_ret
          exact ⟨by rw [HF.out]; rfl, HB.out.trans (below_drewN wr _ _)⟩
    · have hlt' : ¬ (k : Int) < n := by omega
      have HK : Hid (k = n) := by show k = n; omega
      by_cases hnm : n = m
      · have hqq : ((n : Int) == m) = true := by simp only [beq_iff_eq]; omega
        have HF : Hid (decide (us = vs) = true) := by
          show _ = _
          rw [decide_eq_true_iff]
          have := HT.out
          rw [HK.out, List.take_of_length_le (by rw [← HN.out]; exact Nat.le_refl _), List.take_of_length_le (by rw [← HM.out]; omega)] at this
          exact this
        go_wp2
        go_ret
        exact ⟨by rw [HF.out]; rfl, HB.out⟩
      · have hqq : ((n : Int) == m) = false := by simp only [beq_eq_false_iff_ne]; omega
        have HF : Hid (decide (us = vs) = false) := by
          show _ = _
          rw [decide_eq_false_iff_not]
          rintro rfl
          rw [HN.out, HM.out] at hnm
          exact hnm rfl
        go_wp2
        go_ret
        exact ⟨by rw [HF.out]; rfl, HB.out⟩

/-- texts that stand in the program -/
theorem rdT_lit (w' : World) (C : Array Value) (g : Nat) (fz : Nat × Nat) (us : List ByteArray) (hg : w'.heap[g]? = some (.cells C 9 fz)) (hC : C = (us.map fun x => Value.string x).toArray) (h2 : us.length ≤ 1000) : RdT w' (.slice (some ⟨g, 0, none⟩) us.length us.length) us := by
  have hm : (1000 : Nat) ≤ maxLen := by simp [maxLen]
  refine ⟨_, _, by rw [List.length_map], by rw [List.length_map]; exact Nat.le_refl _, by omega, by simp, ?_⟩
  rintro a ⟨⟩ i hi
  rw [show ((⟨g, 0, none⟩ : Addr).add i) = ⟨g, i, none⟩ by unfold Addr.add; split <;> simp_all, cell_of hg]
  subst hC
  rw [List.length_map] at hi
  simp [hi]

theorem OwnS.rdT {w : World} {base : Nat} {v : Value} {l : List ByteArray} (h : OwnS w base v l) : RdT w v l := by
  have h2 : OwnV w base 9 v (l.map .string) := by
    unfold OwnV
    rw [List.length_map]
    exact h
  exact h2.rd
end Go.Proofs.YtffgbjojngnebaaDoor
