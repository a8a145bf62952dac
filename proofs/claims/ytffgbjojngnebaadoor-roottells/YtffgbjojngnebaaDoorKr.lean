/-
  The document's same of two rows of bytes. Own work.
-/
import Derived.Test.YtffgbjojngnebaaDoorKq
import Derived.Test.YtffgbjojngnebaaDoorQq
import Derived.Deep.QuietTactic
import Derived.BigQuiet
namespace Go.Proofs.YtffgbjojngnebaaDoor
open Go.RowKit

set_option maxRecDepth 100000 in
set_option maxHeartbeats 800000 in
theorem sameRef_any (u v : Value) (a b : List UInt8) (w : World) (hu : Rd w u a) (hv : Rd w v b) : Calls Tryd.prog 63 #[u, v] w fun e w' => e = .returned (.bool (decide (a = b))) ∧ Below w.heap.size w w' := by
  obtain ⟨ao, cap, hu0, h1, h2, -⟩ := id hu
  obtain ⟨bo, cbp, hv0, h3, h4, -⟩ := id hv
  obtain ⟨n, HN⟩ := named a.length
  obtain ⟨m, HM⟩ := named b.length
  rw [← HN.out] at hu0 h1
  rw [← HM.out] at hv0 h3
  subst hu0 hv0
  have HU : Hid _ := hu
  have HV : Hid _ := hv
  unfold maxLen at h2 h4
  clear hu hv
  by_cases hnm : n = m
  · subst hnm
    go_enter Tryd.func63, Tryd.ntmps63
    go_wp2
    go_loopw [5] (fun iv wr => ∃ k : Nat, k ≤ n ∧ iv = .int .i64 k ∧ Hid (a.take k = b.take k) ∧ Hid (Below w.heap.size w wr)) (fun iv _ => n - (intOf iv).toNat)
    case atStart => exact ⟨0, by omega, rfl, (by show _ = _; simp), Below.refl _ _⟩
    case round =>
      obtain ⟨k, hk, rfl, HT, HB⟩ := hrel
      by_cases hlt : k < n
      · have hlt' : (k : Int) < n := by omega
        have hka : k < a.length := by rw [← HN.out]; exact hlt
        have hkb : k < b.length := by rw [← HM.out]; exact hlt
        rcases Rd.cases HU.out with ⟨h0, -⟩ | ⟨b0, o0, c0, hv0, -, -, -, hb0, hcs⟩
        · subst h0; simp at hka
        rcases Rd.cases HV.out with ⟨h0, -⟩ | ⟨b1, o1, c1, hv1, -, -, -, hb1, hcs1⟩
        · subst h0; simp at hkb
        rw [← HN.out] at hv0
        rw [← HM.out] at hv1
        cases hv0
        cases hv1
        have hck := (HB.out.cell (p := ⟨b0, o0 + k, none⟩) hb0).trans (hcs k hka)
        have hck1 := (HB.out.cell (p := ⟨b1, o1 + k, none⟩) hb1).trans (hcs1 k hkb)
        have HT0 : Hid (a.take (k + 1) = a.take k ++ [a[k]]) := List.take_succ_eq_append_getElem hka
        have HT1 : Hid (b.take (k + 1) = b.take k ++ [b[k]]) := List.take_succ_eq_append_getElem hkb
        have HNE : Hid (a[k] ≠ b[k] → decide (a = b) = false) := fun h => by
          rw [decide_eq_false_iff_not]
          intro e
          apply h
          simp only [e]
        obtain ⟨x, HX⟩ := named (a[k]'hka)
        obtain ⟨y, HY⟩ := named (b[k]'hkb)
        rw [← HX.out] at hck HT0 HNE
        rw [← HY.out] at hck1 HT1 HNE
        clear hcs hcs1
        by_cases hxy : x = y
        · subst hxy
          go_wp2_with fail
          go_quiet (fail)
          go_wp2_with fail
          go_roundw
          case rel =>
            refine ⟨k + 1, by omega, by go_num, ?_, HB.out.trans (below_drewN wr _ _)⟩
            show _ = _
            rw [HT0.out, HT1.out, HT.out]
          case measure => simp [intOf]; omega
        · have hxy' : ((x.toNat : Int) == (y.toNat : Int)) = false := by
            simp only [beq_eq_false_iff_ne]
            intro e
            apply hxy
            apply UInt8.toNat_inj.1
            omega
          have HE : Hid _ := HNE.out hxy
          clear hxy
          go_wp2_with fail
          go_quiet (fail)
          go_wp2_with fail
          go_ret
          exact ⟨by rw [HE.out]; rfl, HB.out.trans (below_drewN wr _ _)⟩
      · have hlt' : ¬ (k : Int) < n := by omega
        have HE : Hid (decide (a = b) = true) := by
          show _ = _
          rw [decide_eq_true_iff]
          have h := HT.out
          rw [List.take_of_length_le (by rw [← HN.out]; omega), List.take_of_length_le (by rw [← HM.out]; omega)] at h
          exact h
        go_wp2
        go_ret
        exact ⟨by rw [HE.out]; rfl, HB.out⟩
  · have hnm' : ((n : Int) == (m : Int)) = false := by simp only [beq_eq_false_iff_ne]; omega
    have HE : Hid (decide (a = b) = false) := by
      show _ = _
      rw [decide_eq_false_iff_not]
      intro e
      apply hnm
      rw [HN.out, HM.out, e]
    clear hnm
    go_enter Tryd.func63, Tryd.ntmps63
    go_wp2
    go_ret
    exact ⟨by rw [HE.out]; rfl, Below.refl _ _⟩
end Go.Proofs.YtffgbjojngnebaaDoor
