/-
  SameLists of two alike. Own work.
-/
import Derived.Test.YtomhkjacngmnhaaGreatDoorGs
import Derived.Deep.RegionHeld3
namespace Go.Proofs.YtomhkjacngmnhaaGreatDoor
open Go.RowKit

set_option maxRecDepth 100000 in
set_option maxHeartbeats 1600000 in
theorem sameLists_true (vu vv : Value) (us vs : List Value) (bs : List (List UInt8)) (n : Nat) (w : World) (hu : RdV w vu us) (hv : RdV w vv vs) (hun : us.length = n) (hvn : vs.length = n) (hbn : bs.length = n)
    (hru : ∀ (i : Nat) x b, us[i]? = some x → bs[i]? = some b → Rd w x b) (hrv : ∀ (i : Nat) x b, vs[i]? = some x → bs[i]? = some b → Rd w x b) :
    Calls Tryz.prog 111 #[vu, vv] w fun e w' => e = .returned (.bool true) ∧ Below w.heap.size w w' := by
  obtain ⟨uo, uc, hv1, hu1, hu2, -⟩ := id hu
  obtain ⟨vo, vc, hv2, hv1', hv2', -⟩ := id hv
  rw [hun] at hv1 hu1
  rw [hvn] at hv2 hv1'
  subst hv1 hv2
  have HU : Hid _ := hu
  have HV : Hid _ := hv
  have HRU : Hid _ := hru
  have HRV : Hid _ := hrv
  have HN : Hid (us.length = n ∧ vs.length = n ∧ bs.length = n) := ⟨hun, hvn, hbn⟩
  unfold maxLen at hu2 hv2'
  clear hu hv hru hrv hun hvn hbn
  have hnn : ((n : Int) == (n : Int)) = true := by simp
  go_enter Tryz.func111, Tryz.ntmps111
  go_wp2
  go_loopw [8] (fun iv wr => ∃ k : Nat, k ≤ n ∧ iv = .int .i64 k ∧ Below w.heap.size w wr) (fun iv _ => n - (intOf iv).toNat)
  case atStart => exact ⟨0, by omega, rfl, Below.refl _ _⟩
  case round =>
    obtain ⟨k, hk, rfl, hb⟩ := hrel
    by_cases hlt : k < n
    · have hlt' : (k : Int) < n := by omega
      have hne : ((k : Int) == (n : Int)) = false := by simp only [beq_eq_false_iff_ne]; omega
      have hku : k < us.length := by rw [HN.out.1]; exact hlt
      have hkv : k < vs.length := by rw [HN.out.2.1]; exact hlt
      have hkb : k < bs.length := by rw [HN.out.2.2]; exact hlt
      obtain ⟨b0, off, c0, hv0, hc0, -, hb0, hcs⟩ := RdV.cells (show RdV w (.slice uo n uc) us from HU.out) (by omega)
      obtain ⟨b1, off1, c1, hv1, hc1, -, hb1, hcs1⟩ := RdV.cells (show RdV w (.slice vo n vc) vs from HV.out) (by omega)
      rw [HN.out.1] at hv0 hc0
      rw [HN.out.2.1] at hv1 hc1
      cases hv0
      cases hv1
      have hck := (hb.cell (p := ⟨b0, off + k, none⟩) hb0).trans (hcs k hku)
      have hck1 := (hb.cell (p := ⟨b1, off1 + k, none⟩) hb1).trans (hcs1 k hkv)
      have hr0 := (HRU.out k _ _ (List.getElem?_eq_getElem hku) (List.getElem?_eq_getElem hkb)).below hb
      have hr1 := (HRV.out k _ _ (List.getElem?_eq_getElem hkv) (List.getElem?_eq_getElem hkb)).below hb
      obtain ⟨x0, HX0⟩ := named (us[k]'hku)
      obtain ⟨x1, HX1⟩ := named (vs[k]'hkv)
      rw [← HX0.out] at hck hr0
      rw [← HX1.out] at hck1 hr1
      obtain ⟨p0, q0, hx0, -⟩ := id hr0
      subst hx0
      obtain ⟨p1, q1, hx1, -⟩ := id hr1
      subst hx1
      have hs := same_any _ _ _ _ wr.drew hr0.drew hr1.drew
      rw [decide_eq_true rfl] at hs
      have HS : Hid _ := hs
      obtain ⟨bl, HBL⟩ := named (bs[k]'hkb).length
      rw [← HBL.out] at hck hck1 HS
      have hd0 : wr.drew.cell? ⟨b0, off + k, none⟩ = some (Value.slice p0 bl q0) := hck
      have hd1 : wr.drew.cell? ⟨b1, off1 + k, none⟩ = some (Value.slice p1 bl q1) := hck1
      clear hcs hcs1 hs hr0 hr1 HX0 HX1
      go_wp2_with fail
      go_region_held3 (fun w' => w'.cell? ⟨b0, off + k, none⟩ = some (Value.slice p0 bl q0) ∧ w'.cell? ⟨b1, off1 + k, none⟩ = some (Value.slice p1 bl q1)) (exact ⟨hd0, hd1⟩)
        (first | (go_at_call 44; refine Calls.mono HS.out ?_; rintro e w6 ⟨rfl, rfl⟩))
      go_wp2
      go_roundw
      case rel => exact ⟨k + 1, by omega, by go_num, hb.drew⟩
      case measure => simp [intOf]; omega
    · have hlt' : ¬ (k : Int) < n := by omega
      go_wp2
      go_ret
      exact ⟨rfl, hb⟩
end Go.Proofs.YtomhkjacngmnhaaGreatDoor
