/-
  SameLists of any two lists of texts. Own work.
-/
import Derived.Test.YtomhkjacngmnhaaGreatDoorGt
namespace Go.Proofs.YtomhkjacngmnhaaGreatDoor
open Go.RowKit

theorem take_snoc_eq {α : Type} (bs cs : List α) (k : Nat) (hb : k < bs.length) (hc : k < cs.length) (ht : bs.take k = cs.take k) (he : bs[k] = cs[k]) : bs.take (k + 1) = cs.take (k + 1) := by
  rw [List.take_add_one, List.take_add_one, ht, List.getElem?_eq_getElem hb, List.getElem?_eq_getElem hc, he]

set_option maxRecDepth 100000 in
set_option maxHeartbeats 1600000 in
theorem sameLists_any (vu vv : Value) (us vs : List Value) (bs cs : List (List UInt8)) (n m : Nat) (w : World) (hu : RdV w vu us) (hv : RdV w vv vs) (hun : us.length = n) (hvn : vs.length = m) (hbn : bs.length = n) (hcn : cs.length = m)
    (hru : ∀ (i : Nat) x b, us[i]? = some x → bs[i]? = some b → Rd w x b) (hrv : ∀ (i : Nat) x b, vs[i]? = some x → cs[i]? = some b → Rd w x b) :
    Calls Tryz.prog 111 #[vu, vv] w fun e w' => e = .returned (.bool (decide (bs = cs))) ∧ Below w.heap.size w w' := by
  obtain ⟨uo, uc, hv1, hu1, hu2, -⟩ := id hu
  obtain ⟨vo, vc, hv2, hv1', hv2', -⟩ := id hv
  rw [hun] at hv1 hu1
  rw [hvn] at hv2 hv1'
  subst hv1 hv2
  have HU : Hid _ := hu
  have HV : Hid _ := hv
  have HRU : Hid _ := hru
  have HRV : Hid _ := hrv
  have HN : Hid (us.length = n ∧ vs.length = m ∧ bs.length = n ∧ cs.length = m) := ⟨hun, hvn, hbn, hcn⟩
  unfold maxLen at hu2 hv2'
  clear hu hv hru hrv hun hvn hbn hcn
  obtain ⟨R, HR⟩ := named (decide (bs = cs))
  rw [← HR.out]
  go_enter Tryz.func111, Tryz.ntmps111
  go_wp2
  go_loopw [8] (fun iv wr => ∃ k : Nat, k ≤ n ∧ k ≤ m ∧ iv = .int .i64 k ∧ Hid (bs.take k = cs.take k) ∧ Below w.heap.size w wr) (fun iv _ => n - (intOf iv).toNat)
  case atStart => exact ⟨0, by omega, by omega, rfl, (rfl : bs.take 0 = cs.take 0), Below.refl _ _⟩
  case round =>
    obtain ⟨k, hk, hkm, rfl, HT, hb⟩ := hrel
    by_cases hlt : k < n
    · by_cases hlm : k < m
      · have hlt' : (k : Int) < n := by omega
        have hne : ((k : Int) == (m : Int)) = false := by simp only [beq_eq_false_iff_ne]; omega
        have hku : k < us.length := by rw [HN.out.1]; exact hlt
        have hkv : k < vs.length := by rw [HN.out.2.1]; exact hlm
        have hkb : k < bs.length := by rw [HN.out.2.2.1]; exact hlt
        have hkc : k < cs.length := by rw [HN.out.2.2.2]; exact hlm
        obtain ⟨b0, off, c0, hv0, hc0, -, hb0, hcs⟩ := RdV.cells (show RdV w (.slice uo n uc) us from HU.out) (by omega)
        obtain ⟨b1, off1, c1, hv1, hc1, -, hb1, hcs1⟩ := RdV.cells (show RdV w (.slice vo m vc) vs from HV.out) (by omega)
        rw [HN.out.1] at hv0 hc0
        rw [HN.out.2.1] at hv1 hc1
        cases hv0
        cases hv1
        have hck := (hb.cell (p := ⟨b0, off + k, none⟩) hb0).trans (hcs k hku)
        have hck1 := (hb.cell (p := ⟨b1, off1 + k, none⟩) hb1).trans (hcs1 k hkv)
        have hr0 := (HRU.out k _ _ (List.getElem?_eq_getElem hku) (List.getElem?_eq_getElem hkb)).below hb
        have hr1 := (HRV.out k _ _ (List.getElem?_eq_getElem hkv) (List.getElem?_eq_getElem hkc)).below hb
        obtain ⟨x0, HX0⟩ := named (us[k]'hku)
        obtain ⟨x1, HX1⟩ := named (vs[k]'hkv)
        rw [← HX0.out] at hck hr0
        rw [← HX1.out] at hck1 hr1
        obtain ⟨p0, q0, hx0, -⟩ := id hr0
        subst hx0
        obtain ⟨p1, q1, hx1, -⟩ := id hr1
        subst hx1
        have hs := same_any _ _ _ _ wr.drew hr0.drew hr1.drew
        obtain ⟨bl, HBL⟩ := named (bs[k]'hkb).length
        obtain ⟨cl, HCL⟩ := named (cs[k]'hkc).length
        rw [← HBL.out] at hck hs
        rw [← HCL.out] at hck1 hs
        have hd0 : wr.drew.cell? ⟨b0, off + k, none⟩ = some (Value.slice p0 bl q0) := hck
        have hd1 : wr.drew.cell? ⟨b1, off1 + k, none⟩ = some (Value.slice p1 cl q1) := hck1
        by_cases heq : bs[k]'hkb = cs[k]'hkc
        · rw [decide_eq_true heq] at hs
          have HS : Hid _ := hs
          have HT2 : Hid (bs.take (k + 1) = cs.take (k + 1)) := take_snoc_eq bs cs k hkb hkc HT.out heq
          clear hcs hcs1 hs hr0 hr1 HX0 HX1 heq HBL HCL
          go_wp2_with fail
          go_region_held3 (fun w' => w'.cell? ⟨b0, off + k, none⟩ = some (Value.slice p0 bl q0) ∧ w'.cell? ⟨b1, off1 + k, none⟩ = some (Value.slice p1 cl q1)) (exact ⟨hd0, hd1⟩)
            (first | (go_at_call 44; refine Calls.mono HS.out ?_; rintro e w6 ⟨rfl, rfl⟩))
          go_wp2
          go_roundw
          case rel => exact ⟨k + 1, by omega, by omega, by go_num, HT2, hb.drew⟩
          case measure => simp [intOf]; omega
        · rw [decide_eq_false heq] at hs
          have HS : Hid _ := hs
          have hRf : R = false := by rw [HR.out]; exact decide_eq_false (fun h => heq (by simp only [h]))
          subst hRf
          clear hcs hcs1 hs hr0 hr1 HX0 HX1 heq HBL HCL
          go_wp2_with fail
          go_region_held3 (fun w' => w'.cell? ⟨b0, off + k, none⟩ = some (Value.slice p0 bl q0) ∧ w'.cell? ⟨b1, off1 + k, none⟩ = some (Value.slice p1 cl q1)) (exact ⟨hd0, hd1⟩)
            (first | (go_at_call 44; refine Calls.mono HS.out ?_; rintro e w6 ⟨rfl, rfl⟩))
          go_wp2
          go_ret
          exact ⟨rfl, hb.drew⟩
      · have hlt' : (k : Int) < n := by omega
        have hkm2 : k = m := by omega
        have hRf : R = false := by
          rw [HR.out]
          refine decide_eq_false (fun h => ?_)
          have h2 := HN.out.2.2.1
          have h3 := HN.out.2.2.2
          rw [h] at h2
          omega
        subst hRf
        go_wp2_with fail
        have hne : ((k : Int) == (m : Int)) = true := by simp only [beq_iff_eq]; omega
        go_quiet (fail)
        go_wp2
        go_ret
        exact ⟨rfl, by first | exact hb | exact hb.drew | exact hb.trans (⟨rfl, rfl, rfl, Nat.le_refl _, fun _ _ => rfl⟩ : Below _ wr (wr.drewN _))⟩
    · have hlt' : ¬ (k : Int) < n := by omega
      have hkn : k = n := by omega
      have hRt : R = ((n : Int) == (m : Int)) := by
        rw [HR.out]
        by_cases hnm : n = m
        · have h1 : ((n : Int) == (m : Int)) = true := by simp only [beq_iff_eq]; omega
          rw [h1]
          refine decide_eq_true ?_
          have ht : bs.take k = cs.take k := HT.out
          rw [List.take_of_length_le (by rw [HN.out.2.2.1]; omega), List.take_of_length_le (by rw [HN.out.2.2.2]; omega)] at ht
          exact ht
        · have h1 : ((n : Int) == (m : Int)) = false := by simp only [beq_eq_false_iff_ne]; omega
          rw [h1]
          refine decide_eq_false (fun h => ?_)
          have h2 := HN.out.2.2.1
          have h3 := HN.out.2.2.2
          rw [h] at h2
          omega
      subst hRt
      go_wp2
      go_ret
      exact ⟨rfl, hb⟩

end Go.Proofs.YtomhkjacngmnhaaGreatDoor
