/-
  The independent reading's eye: num, text. Own work.
-/
import Derived.Test.YtpiiehenmkinaaaDoorEf
import Derived.Test.YtpiiehenmkinaaaDoorRh
namespace Go.Proofs.YtpiiehenmkinaaaDoor
open Go.RowKit

/-- what text tells -/
def txtQ (l : List UInt8) (st : RS) : List UInt8 × RS :=
  if st.2 = true ∨ (getB l st.1 40).2.2 ≠ 0 then ([], (st.1, true)) else ((getB l st.1 40).1, ((getB l st.1 40).2.1, false))
set_option maxRecDepth 100000 in
set_option maxHeartbeats 1600000 in
theorem eyeNum_any {w0 w : World} {rb : Nat} {bv : Value} {l : List UInt8} {st : RS} (h : Rdr w0 w rb bv l st) (hl : l.length ≤ 1000000) :
    Calls Tryd.prog 33 #[.pointer (some ⟨rb, 0, none⟩)] w fun e w' => e = .returned (.int .i64 ((numR l 1000 st).1 : Int)) ∧ Rdr w0 w' rb bv l (numR l 1000 st).2 ∧ ChgB rb w w' := by
  obtain ⟨p, wrong⟩ := st
  obtain ⟨ao, cap, hv, -⟩ := id h.rd
  subst hv
  have H := hide h
  have hc := h.c
  obtain ⟨-, c0, c1, c2, f0, f1, f2⟩ := id hc
  obtain ⟨n, HN⟩ := named l.length
  rw [← HN.out] at H hc c0 ⊢
  have hrd := h.small
  rw [← HN.out] at hrd
  have e : numR l 1000 (p, wrong) = if wrong = true then (0, (p, wrong)) else if (getU l p).2.2 ≠ 0 ∨ 1000 < (getU l p).1 then (0, (p, true)) else ((getU l p).1, ((getU l p).2.1, false)) := rfl
  have hgl := getU_lt l p
  have kc := refGetUint_any (.slice ao n cap) l p w.drew hrd (by omega)
  obtain ⟨g1, G1⟩ := named (getU l p).1
  obtain ⟨g2, G2⟩ := named (getU l p).2.1
  obtain ⟨g3, G3⟩ := named (getU l p).2.2
  rw [← G1.out, ← G2.out, ← G3.out] at e kc
  rw [← G1.out] at hgl
  obtain ⟨R, HR⟩ := named (numR l 1000 (p, wrong))
  rw [← HR.out] at e ⊢
  have HE := hide e
  have hs0 : w.drew.cell? ⟨rb, 0, none⟩ = some (.slice ao n cap) ∧ w.drew.cell? ⟨rb, 1, none⟩ = some (.int .i64 p) := ⟨c0, c1⟩
  clear e h hrd hc
  go_enter Tryd.func33, Tryd.ntmps33
  go_wp2_with fail
  go_region_held3 (fun w' => w'.cell? ⟨rb, 0, none⟩ = some (.slice ao n cap) ∧ w'.cell? ⟨rb, 1, none⟩ = some (.int .i64 p)) (first | exact hs0) (first | (go_at_call 57; refine Calls.mono kc ?_; rintro e w1 ⟨rfl, rfl⟩))
  have HCD := hide (show C3 w.drew rb (.slice ao n cap) (.int .i64 (p : Int)) (.bool wrong) from H.out.c)
  have d0 : w.drew.cell? ⟨rb, 1, none⟩ = some (.int .i64 p) := c1
  have d2 : w.drew.cell? ⟨rb, 2, none⟩ = some (.bool wrong) := c2
  have e1 : w.drew.frozen? ⟨rb, 1, none⟩ = false := f1
  have e2 : w.drew.frozen? ⟨rb, 2, none⟩ = false := f2
  have hlast : R = (0, (p, true)) → Rdr w0 (w.drew.setCell ⟨rb, 2, none⟩ (.bool true)) rb (.slice ao n cap) l R.2 ∧ ChgB rb w (w.drew.setCell ⟨rb, 2, none⟩ (.bool true)) := fun hr => by
    rw [hr]
    have hch : ChgB rb w (w.drew.setCell ⟨rb, 2, none⟩ (.bool true)) := (ChgB.refl rb w).drew.setCell _
    exact ⟨H.out.go hch (HCD.out.third _), hch⟩
  have HLA := hide hlast
  clear hs0 c0 c1 c2 f0 f1 f2 hlast
  cases wrong with
  | true =>
    have hR : R = (0, (p, true)) := HE.out
    go_wp2
    go_ret
    obtain ⟨k1, k2⟩ := HLA.out hR
    rw [hR] at k1
    try rw [hR]
    exact ⟨rfl, k1, k2⟩
  | false =>
    by_cases h3 : g3 = 0
    · subst h3
      by_cases h1 : g1 ≤ 1000
      · have h1' : ¬ (1000 : Int) < (g1 : Int) := by omega
        have hR : R = (g1, (g2, false)) := by rw [HE.out, if_neg (by simp), if_neg (by omega)]
        have hw : wrap64 (g1 : Int) = (g1 : Int) := by unfold wrap64; omega
        go_wp2
        go_ret
        have hch : ChgB rb w (w.drew.setCell ⟨rb, 1, none⟩ (.int .i64 (g2 : Int))) := (ChgB.refl rb w).drew.setCell _
        exact ⟨rfl, H.out.go (st' := (g2, false)) hch (HCD.out.second _), hch⟩
      · have h1' : (1000 : Int) < (g1 : Int) := by omega
        have hR : R = (0, (p, true)) := by rw [HE.out, if_neg (by simp), if_pos (.inr (by omega))]
        go_wp2
        go_ret
        obtain ⟨k1, k2⟩ := HLA.out hR
        rw [hR] at k1
        try rw [hR]
        exact ⟨rfl, k1, k2⟩
    · have h3' : ¬ (g3 : Int) = 0 := by omega
      have hR : R = (0, (p, true)) := by rw [HE.out, if_neg (by simp), if_pos (.inl h3)]
      go_wp2
      go_ret
      obtain ⟨k1, k2⟩ := HLA.out hR
      rw [hR] at k1
      try rw [hR]
      exact ⟨rfl, k1, k2⟩
set_option maxRecDepth 100000 in
set_option maxHeartbeats 1600000 in
theorem eyeText_any {w0 w : World} {rb : Nat} {bv : Value} {l : List UInt8} {st : RS} (h : Rdr w0 w rb bv l st) (hl : l.length ≤ 1000000) :
    Calls Tryd.prog 32 #[.pointer (some ⟨rb, 0, none⟩)] w fun e w' => e = .returned (.string ⟨(txtQ l st).1.toArray⟩) ∧ Rdr w0 w' rb bv l (txtQ l st).2 ∧ ChgB rb w w' := by
  obtain ⟨p, wrong⟩ := st
  obtain ⟨ao, cap, hv, -⟩ := id h.rd
  subst hv
  have H := hide h
  have hc := h.c
  obtain ⟨-, c0, c1, c2, f0, f1, f2⟩ := id hc
  obtain ⟨n, HN⟩ := named l.length
  rw [← HN.out] at H hc c0 ⊢
  have hrd := h.small
  rw [← HN.out] at hrd
  have e : txtQ l (p, wrong) = if wrong = true ∨ (getB l p 40).2.2 ≠ 0 then ([], (p, true)) else ((getB l p 40).1, ((getB l p 40).2.1, false)) := rfl
  have kc := refGetBlob_any (.slice ao n cap) l p 40 w.drew hrd (by omega) (by omega)
  obtain ⟨z1, G1⟩ := named (getB l p 40).1
  obtain ⟨g2, G2⟩ := named (getB l p 40).2.1
  obtain ⟨g3, G3⟩ := named (getB l p 40).2.2
  rw [← G1.out, ← G2.out, ← G3.out] at e kc
  obtain ⟨R, HR⟩ := named (txtQ l (p, wrong))
  rw [← HR.out] at e ⊢
  have HE := hide e
  have hs0 : w.drew.cell? ⟨rb, 0, none⟩ = some (.slice ao n cap) ∧ w.drew.cell? ⟨rb, 1, none⟩ = some (.int .i64 p) := ⟨c0, c1⟩
  have hlt : rb < w.heap.size := hc.1
  have hts := run_toStr
  clear e h hrd hc
  go_enter Tryd.func32, Tryd.ntmps32
  go_wp2_with fail
  go_region_held3 (fun w' => w'.cell? ⟨rb, 0, none⟩ = some (.slice ao n cap) ∧ w'.cell? ⟨rb, 1, none⟩ = some (.int .i64 p)) (first | exact hs1 | exact hs0) (first | (go_at_call 56; refine Calls.mono kc ?_; rintro e w1 ⟨v1, rfl, ho1, hb1⟩; have hb1 : Below w.heap.size w w1 := ⟨hb1.os, hb1.tape, hb1.output, hb1.size, hb1.block⟩; have hs1 : w1.cell? ⟨rb, 0, none⟩ = some (.slice ao n cap) ∧ w1.cell? ⟨rb, 1, none⟩ = some (.int .i64 p) := ⟨(hb1.cell (p := ⟨rb, 0, none⟩) hlt).trans c0, (hb1.cell (p := ⟨rb, 1, none⟩) hlt).trans c1⟩))
  have ho : Own w1 w.heap.size v1 z1 := ho1
  have HCD := hide (H.out.c.below hb1)
  obtain ⟨-, d0, d1, d2, e0, e1, e2⟩ := id HCD.out
  have hlast : R = ([], (p, true)) → Rdr w0 (w1.setCell ⟨rb, 2, none⟩ (.bool true)) rb (.slice ao n cap) l R.2 ∧ ChgB rb w (w1.setCell ⟨rb, 2, none⟩ (.bool true)) := fun hr => by
    rw [hr]
    have hch : ChgB rb w (w1.setCell ⟨rb, 2, none⟩ (.bool true)) := (ChgB.ofBelow hb1).setCell _
    exact ⟨H.out.go (st' := (p, true)) hch (HCD.out.third _), hch⟩
  have HLA := hide hlast
  have hgood : (toStr v1).run Tryd.prog (w1.setCell ⟨rb, 1, none⟩ (.int .i64 (g2 : Int))) = .ok (.string ⟨z1.toArray⟩) (w1.setCell ⟨rb, 1, none⟩ (.int .i64 (g2 : Int))) := run_str _ _ _ (ho.farCell hlt _).rd
  have HCH := hide (show ChgB rb w (w1.setCell ⟨rb, 1, none⟩ (.int .i64 (g2 : Int))) from (ChgB.ofBelow hb1).setCell _)
  clear hs0 hs1 c0 c1 c2 f0 f1 f2 hlast ho ho1 hb1
  cases wrong with
  | true =>
    have hR : R = ([], (p, true)) := by rw [HE.out, if_pos (.inl rfl)]
    go_wp2
    go_ret
    obtain ⟨k1, k2⟩ := HLA.out hR
    rw [hR] at k1
    try rw [hR]
    exact ⟨rfl, k1, k2⟩
  | false =>
    by_cases h3 : g3 = 0
    · subst h3
      have hR : R = (z1, (g2, false)) := by rw [HE.out, if_neg (by simp)]
      go_wp2
      go_ret
      exact ⟨rfl, H.out.go (st' := (g2, false)) HCH.out (HCD.out.second _), HCH.out⟩
    · have h3' : ¬ (g3 : Int) = 0 := by omega
      have hR : R = ([], (p, true)) := by rw [HE.out, if_pos (.inr h3)]
      go_wp2
      go_ret
      obtain ⟨k1, k2⟩ := HLA.out hR
      rw [hR] at k1
      try rw [hR]
      exact ⟨rfl, k1, k2⟩
end Go.Proofs.YtpiiehenmkinaaaDoor
