/-
  RootSwitch answers true, whatever is handed in. Own work.
-/
import Derived.Test.YtffgbjojngnebaaDoorKv
import Derived.Test.YtffgbjojngnebaaDoorFf
import Derived.Deep.RegionHeld3
namespace Go.Proofs.YtffgbjojngnebaaDoor
open Go.RowKit

set_option maxRecDepth 100000 in
set_option maxHeartbeats 4000000 in
theorem switch_walk (w : World) (hL : Laid w) (v : Value) (xs : List Lf) (hv : RdLv w v xs) :
    Calls Tryd.prog 6 #[v] w fun e w' => e = .returned (.bool true) ∧ Below w.heap.size w w' := by
  obtain ⟨ao, cap, hv0, hcap, hmx, hxs⟩ := hv
  obtain ⟨N, HN⟩ := named xs.length
  rw [← HN.out] at hv0 hcap
  subst hv0
  have HX : Hid _ := hxs
  have HL : Hid _ := hL
  unfold maxLen at hmx
  clear hxs hL
  go_enter Tryd.func6, Tryd.ntmps6
  go_wp2_with fail
  refine (new_ap w 1048576 (by omega)).mono ?_
  rintro e w1 ⟨d, rfl, -, F1, hA1, -⟩
  obtain ⟨X0, HX0⟩ := named (w1.alloc (Obj.cells #[.int .i64 0, .int .i64 0, .slice none 0 0] 24))
  have HBX0 : Hid (Below w1.heap.size w1 X0) := by show Below _ _ _; rw [HX0.out]; exact (Below.refl _ _).alloc (Nat.le_refl _) _
  have HC0 : Hid (C3 X0 w1.heap.size (.int .i64 (top none none).serial) (.int .i64 (top none none).batch) (.slice none 0 0)) := by show C3 _ _ _ _ _; rw [HX0.out]; exact C3.new _ _ _ _ _
  have HA0 : Hid (Ap w.heap.size w X0 d (swD none none none (-1) false) F1) := hA1.below HBX0.out
  have HF0 : Hid (¬ F1 w1.heap.size) := fun hF => Nat.lt_irrefl _ (hA1.sub _ hF).2
  have HB1 : Hid (w.heap.size ≤ w1.heap.size) := hA1.le
  clear hA1
  go_wp2_with fail
  rw [← HX0.out]
  go_loopw [6] (fun iv wr => ∃ (i : Nat) (t x y : Option (List UInt8 × Nat)) (F : Nat → Prop) (nv : Value), i ≤ 6 ∧ i ≤ N ∧ iv = .int .i64 i ∧ Hid (Sw t x y) ∧ Hid (Ap w.heap.size w wr d (swD t x y (-1) false) F) ∧ Hid (C3 wr w1.heap.size (.int .i64 (top x y).serial) (.int .i64 (top x y).batch) nv) ∧ Hid (¬ F w1.heap.size) ∧ Hid (RdK wr F nv (top x y).blob)) (fun iv _ => 6 - (intOf iv).toNat)
  case atStart => exact ⟨0, none, none, none, F1, _, by omega, by omega, rfl, Sw.none, HA0, HC0, HF0, RdK.nil _ _⟩
  case round =>
    obtain ⟨i, t, x, y, F, nv, hi6, hiN, rfl, HSW, HA, HCN, HFN, HRN⟩ := hrel
    by_cases hlt : i < N ∧ i < 6
    · obtain ⟨hl1, hl2⟩ := hlt
      have hl1' : (i : Int) < N := by omega
      have hl2' : (i : Int) < 6 := by omega
      have hix : i < xs.length := by rw [← HN.out]; exact hl1
      obtain ⟨b0, o0, hao, hb0, m0, m1, m2, m3, HG⟩ := HX.out i hix
      subst hao
      have hBel := HA.out.bel
      have k0 := (hBel.cell (p := ⟨b0, o0 + i * 4, none⟩) hb0).trans m0
      have k1 := (hBel.cell (p := ⟨b0, o0 + i * 4 + 1, none⟩) hb0).trans m1
      have k2 := (hBel.cell (p := ⟨b0, o0 + i * 4 + 2, none⟩) hb0).trans m2
      have k3 := (hBel.cell (p := ⟨b0, o0 + i * 4 + 3, none⟩) hb0).trans m3
      obtain ⟨Q, HQ⟩ := named (xs[i]'hix)
      rw [← HQ.out] at k0 k1 k2 k3 HG
      obtain ⟨rv, rs, arm, kv, ks, tv, ts⟩ := Q
      simp only at k0 k1 k2 k3
      have HGO : Hid _ := HG
      obtain ⟨ra, rc, hrv, hrl, hrm, hrs⟩ := HG.rs
      obtain ⟨RN, HRNN⟩ := named rs.length
      simp only at hrv hrl
      rw [← HRNN.out] at hrv hrl
      subst hrv
      have HRS : Hid _ := hrs
      obtain ⟨ka, kc, hkv, -⟩ := id HG.ks
      obtain ⟨kn, HKN⟩ := named ks.length
      simp only at hkv
      rw [← HKN.out] at hkv
      subst hkv
      obtain ⟨ta, tc, htv, -⟩ := id HG.ts
      obtain ⟨tn, HTN⟩ := named ts.length
      simp only at htv
      rw [← HTN.out] at htv
      subst htv
      unfold maxLen at hrm
      clear m0 m1 m2 m3 hBel HG hrs
      obtain ⟨X1, HX1⟩ := named (wr.alloc (Obj.cells #[.slice ra RN rc, .int .i64 arm, .slice ka kn kc, .slice ta tn tc] 55))
      have HBX1 : Hid (Below wr.heap.size wr X1) := by show Below _ _ _; rw [HX1.out]; exact (Below.refl _ _).alloc (Nat.le_refl _) _
      have HC1 : Hid (C4 X1 wr.heap.size (.slice ra RN rc) (.int .i64 arm) (.slice ka kn kc) (.slice ta tn tc)) := by show C4 _ _ _ _ _ _; rw [HX1.out]; exact C4.new _ _ _ _ _ _
      have HA1 : Hid _ := HA.out.below HBX1.out
      have HCN1 : Hid _ := C3.below HCN.out HBX1.out
      have HRN1 : Hid _ := RdK.below HRN.out HBX1.out
      have HFX : Hid (¬ F wr.heap.size) := fun hF => Nat.lt_irrefl _ (HA.out.sub _ hF).2
      obtain ⟨g0, c0, c1, c2, c3⟩ := HC1.out
      have hpk := pick_any arm 40 X1 (by omega) (by omega)
      obtain ⟨pk, HPK⟩ := named ((arm % (40 : Nat)).toNat)
      rw [← HPK.out] at hpk
      have HP0 : Hid (0 ≤ (pk : Int) ∧ (pk : Int) ≤ 40) := by
        show _ ∧ _
        rw [HPK.out]
        have := Int.emod_lt_of_pos arm (show (0 : Int) < (40 : Nat) by omega)
        omega
      go_wp2_with (rw [← HX1.out])
      refine hpk.mono ?_
      clear hpk
      rintro e X1' ⟨rfl, rfl⟩
      have har := HA1.out.arm pk (by have := HP0.out; omega)
      rw [sw_arm _ _ _ _ HP0.out.1] at har
      go_wp2_with fail
      refine har.mono ?_
      clear har
      rintro e w3 ⟨rfl, G, hA3, hS3⟩
      obtain ⟨X2, HX2⟩ := named (w3.alloc (Obj.cells #[.int .i64 0, .int .i64 0, .slice none 0 0] 24))
      have HBX2 : Hid (Below w3.heap.size w3 X2) := by show Below _ _ _; rw [HX2.out]; exact (Below.refl _ _).alloc (Nat.le_refl _) _
      have HCT2 : Hid (C3 X2 w3.heap.size (.int .i64 0) (.int .i64 0) (.slice none 0 0)) := by show C3 _ _ _ _ _; rw [HX2.out]; exact C3.new _ _ _ _ _
      have HA2 : Hid (Ap w.heap.size w X2 d (swD t x y pk false) G) := hA3.below HBX2.out
      have HFT2 : Hid (¬ G w3.heap.size) := fun hG => Nat.lt_irrefl _ (hA3.sub _ hG).2
      obtain ⟨q1, q2⟩ := C3.step HCN1.out HFN.out hS3
      have HCN2 : Hid _ := C3.below q1 HBX2.out
      have HFN2 : Hid _ := q2
      obtain ⟨q3, q4⟩ := C4.step HC1.out HFX.out hS3
      have HC2 : Hid _ := C4.below q3 HBX2.out
      have HFX2 : Hid _ := q4
      have q5 := RdK.step HRN1.out hS3
      have HRN2 : Hid _ := RdK.below q5 HBX2.out
      have HNT2 : Hid (∀ a, nv.ownBlock = some a → (top x y).blob ≠ [] → a < w3.heap.size) := fun a ha hb => q5.1.own_lt a ha hb
      have HO1 : Hid (w1.heap.size < wr.heap.size) := HCN.out.1
      have HO2 : Hid (wr.heap.size < w3.heap.size) := q3.1
      clear hA3 hS3 q1 q2 q3 q4 q5 g0 c0 c1 c2 c3 k0 k1 k2 k3
      obtain ⟨gX, HGX⟩ := named wr.heap.size
      rw [← HGX.out] at HC2 HFX2 HO1 HO2
      go_wp2_with fail
      rw [← HX2.out, ← HGX.out]
      go_loopw [9] (fun kv wr => ∃ (k : Nat) (t x y : Option (List UInt8 × Nat)) (fu : Int) (dk : Bool) (F : Nat → Prop) (nv tv : Value) (ts tb : Int), k ≤ 8 ∧ kv = .int .i64 k ∧ Hid (Sw t x y) ∧ Hid (-1 ≤ fu) ∧ Hid (dk = true → fu = -1) ∧ Hid (Ap w.heap.size w wr d (swD t x y fu dk) F) ∧ Hid (C3 wr w1.heap.size (.int .i64 (top x y).serial) (.int .i64 (top x y).batch) nv) ∧ Hid (¬ F w1.heap.size) ∧ Hid (RdK wr F nv (top x y).blob) ∧ Hid (∀ a, nv.ownBlock = some a → (top x y).blob ≠ [] → a < w3.heap.size) ∧ Hid (C4 wr gX (.slice ra RN rc) (.int .i64 arm) (.slice ka kn kc) (.slice ta tn tc)) ∧ Hid (¬ F gX) ∧ Hid (C3 wr w3.heap.size (.int .i64 ts) (.int .i64 tb) tv) ∧ Hid (¬ F w3.heap.size)) (fun kv _ => 8 - (intOf kv).toNat)
      case atStart => exact ⟨0, t, x, y, pk, false, G, nv, _, 0, 0, by omega, rfl, HSW, (by have := HP0.out; show _ ≤ _; omega), (fun h => by cases h), HA2, HCN2, HFN2, HRN2, HNT2, HC2, HFX2, HCT2, HFT2⟩
      case round =>
        clear HSW HA HCN HFN HRN HA1 HCN1 HRN1 HC1 HFX HX1 HBX1 HX2 HBX2 HCT2 HA2 HFT2 HCN2 HFN2 HC2 HFX2 HRN2 HNT2
        obtain ⟨k, t, x, y, fu, dk, F, nv, tv, tz, tb, hk8, rfl, HSW, HFU, HDK, HA, HCN, HFN, HRN, HNT, HC4, HFX, HCT, HFT⟩ := hrel
        obtain ⟨g0, c0, c1, c2, c3⟩ := HC4.out
        by_cases hlk : k < RN ∧ k < 8
        · obtain ⟨hk1, hk2⟩ := hlk
          have hk1' : (k : Int) < RN := by omega
          have hk2' : (k : Int) < 8 := by omega
          have hkx : k < rs.length := by rw [← HRNN.out]; exact hk1
          obtain ⟨rb0, ro0, hrao, hrb0, m0, m1, m2, m3⟩ := HRS.out k hkx
          subst hrao
          have hBel := HA.out.bel
          have k0 := (hBel.cell (p := ⟨rb0, ro0 + k * 3, none⟩) hrb0).trans m0
          have k1 := (hBel.cell (p := ⟨rb0, ro0 + k * 3 + 1, none⟩) hrb0).trans m1
          have k2 := (hBel.cell (p := ⟨rb0, ro0 + k * 3 + 2, none⟩) hrb0).trans m2
          obtain ⟨Q, HQ2⟩ := named (rs[k]'hkx)
          rw [← HQ2.out] at m3 k0 k1 k2
          obtain ⟨⟨qs, qb, ql⟩, qv⟩ := Q
          simp only at m3 k0 k1 k2
          obtain ⟨qa, qc, hqv, -⟩ := id m3
          obtain ⟨qn, HQN⟩ := named ql.length
          rw [← HQN.out] at hqv
          subst hqv
          have HM3 : Hid _ := m3
          clear m0 m1 m2 m3 hBel
          by_cases hbig : 150 < qn
          · have hbig' : (150 : Int) < qn := by omega
            go_wp2_with fail
            go_roundw
            case rel => exact ⟨k + 1, t, x, y, fu, dk, F, nv, tv, tz, tb, by omega, by go_num, HSW, HFU, HDK, HA, HCN, HFN, HRN, HNT, HC4, HFX, HCT, HFT⟩
            case measure => simp [intOf]; omega
          · have hbig' : ¬ (150 : Int) < qn := by omega
            have HQL : Hid (ql.length ≤ 150) := by show _ ≤ _; rw [← HQN.out]; omega
            have HTG : Hid _ := top_ge x y
            have HTR : Hid ((top x y).serial ≤ 1099511627776) := by
              have h1 := rootD_range (swD t x y (-1) false)
              have e1 : rootD (swD t x y (-1) false) = top x y := root3' _ _ _ _ _
              rw [e1] at h1
              exact h1.2
            have HNX : Hid (nxT x y qb ql = ⟨(top x y).serial + 1, qb, ql⟩) := rfl
            have HSWR : Hid _ := sw_write t x y fu dk HSW.out HFU.out HDK.out qb ql HQL.out
            obtain ⟨Tp, HTp⟩ := named (top x y)
            rw [← HTp.out] at HTG HTR HNX HCN HRN HNT
            rw [HNX.out] at HSWR
            obtain ⟨ps, pb, pl⟩ := Tp
            simp only at HTG HTR HCN HRN HNT HSWR
            obtain ⟨hp0, -, -⟩ := HTG.out
            have hp1 := HTR.out
            obtain ⟨x0, y0, y1, y2, -⟩ := HCN.out
            have HBA : Hid (∀ C : Array Value, Below wr.heap.size wr (wr.alloc (Obj.cells C 24))) := fun C => (Below.refl _ _).alloc (Nat.le_refl _) _
            have HSA : Hid (∀ C : Array Value, (wr.alloc (Obj.cells C 24)).cell? ⟨w1.heap.size, 0, none⟩ = some (.int .i64 ps) ∧ (wr.alloc (Obj.cells C 24)).cell? ⟨gX, 0, none⟩ = some (.slice (some ⟨rb0, ro0, none⟩) RN rc) ∧ (wr.alloc (Obj.cells C 24)).cell? ⟨rb0, ro0 + k * 3 + 1, none⟩ = some (.int .i64 qb) ∧ (wr.alloc (Obj.cells C 24)).cell? ⟨rb0, ro0 + k * 3 + 2, none⟩ = some (.slice qa qn qc)) := fun C =>
              ⟨((HBA.out C).cell (p := ⟨w1.heap.size, 0, none⟩) x0).trans y0, ((HBA.out C).cell (p := ⟨gX, 0, none⟩) g0).trans c0, ((HBA.out C).cell (p := ⟨rb0, ro0 + k * 3 + 1, none⟩) (World.block_lt_of_cell? wr _ k1)).trans k1, ((HBA.out C).cell (p := ⟨rb0, ro0 + k * 3 + 2, none⟩) (World.block_lt_of_cell? wr _ k2)).trans k2⟩
            have hws : IntKind.i64.wrap (ps + 1) = ps + 1 := IntWalk.i64_in _ (by omega)
            go_wp2_with fail
            go_region_held3 (fun w' => w'.cell? ⟨w1.heap.size, 0, none⟩ = some (.int .i64 ps) ∧ w'.cell? ⟨gX, 0, none⟩ = some (.slice (some ⟨rb0, ro0, none⟩) RN rc) ∧ w'.cell? ⟨rb0, ro0 + k * 3 + 1, none⟩ = some (.int .i64 qb) ∧ w'.cell? ⟨rb0, ro0 + k * 3 + 2, none⟩ = some (.slice qa qn qc)) (first | exact ⟨y0, c0, k1, k2⟩ | exact HSA.out _) (fail)
            obtain ⟨XW, HXW⟩ := named ((wr.alloc (Obj.cells #[.int .i64 (ps + 1), .int .i64 qb, .slice qa qn qc] 24)).drew)
            rw [← HXW.out]
            have HBW : Hid (Below wr.heap.size wr XW) := by show Below _ _ _; rw [HXW.out]; exact ((Below.refl _ _).alloc (Nat.le_refl _) _).drew
            have HCW : Hid (C3 XW wr.heap.size (.int .i64 (ps + 1)) (.int .i64 qb) (.slice qa qn qc)) := by show C3 _ _ _ _ _; rw [HXW.out]; exact C3.new _ _ _ _ _
            have HFW : Hid (¬ F wr.heap.size) := fun hF => Nat.lt_irrefl _ (HA.out.sub _ hF).2
            have HAW : Hid _ := HA.out.below HBW.out
            have HCNW : Hid _ := C3.below HCN.out HBW.out
            have HRNW : Hid _ := RdK.below HRN.out HBW.out
            have HC4W : Hid _ := C4.below HC4.out HBW.out
            have HCTW : Hid _ := C3.below HCT.out HBW.out
            have l0 := (HBW.out.cell (p := ⟨rb0, ro0 + k * 3, none⟩) (World.block_lt_of_cell? wr _ k0)).trans k0
            have l1 := (HBW.out.cell (p := ⟨rb0, ro0 + k * 3 + 1, none⟩) (World.block_lt_of_cell? wr _ k1)).trans k1
            have l2 := (HBW.out.cell (p := ⟨rb0, ro0 + k * 3 + 2, none⟩) (World.block_lt_of_cell? wr _ k2)).trans k2
            have hwr := HAW.out.write HL.out HL.out.lt qs qb (.slice qa qn qc) ql (HAW.out.rdK HM3.out) (by have := HQL.out; omega)
            clear k0 k1 k2 x0 y0 y1 y2 g0 c0 c1 c2 c3 HSA HBA
            obtain ⟨g0, c0, c1, c2, c3⟩ := HC4W.out
            rcases HSWR.out with e | ⟨t', e, hsw⟩ | ⟨x', y', fu', e, hfu', hsw, htop⟩
            · rw [e] at hwr
              clear e
              go_wp2_with fail
              refine hwr.mono ?_
              clear hwr
              rintro e w5 ⟨v5, rfl, G, hA5, hS5, hR5⟩
              obtain ⟨a5, p5, hv5, -⟩ := id hR5.1
              have hz5 : (noR.blob.length : Nat) = 0 := rfl
              rw [hz5] at hv5
              subst hv5
              have hBX : Below w5.heap.size w5 (w5.alloc (Obj.cells #[.int .i64 0, .int .i64 0, .slice a5 0 p5] 24)) := (Below.refl _ _).alloc (Nat.le_refl _) _
              have HA5 : Hid (Ap w.heap.size w _ d (swD t x y fu dk) G) := hA5.below hBX
              obtain ⟨q1, q2⟩ := C3.step HCNW.out HFN.out hS5
              obtain ⟨q3, q4⟩ := C4.step HC4W.out HFX.out hS5
              obtain ⟨q5, q6⟩ := C3.step HCTW.out HFT.out hS5
              have HCN5 : Hid _ := C3.below q1 hBX
              have HFN5 : Hid _ := q2
              have HC45 : Hid _ := C4.below q3 hBX
              have HFX5 : Hid _ := q4
              have HCT5 : Hid _ := C3.below q5 hBX
              have HFT5 : Hid _ := q6
              have HRN5 : Hid _ := RdK.below (RdK.step HRNW.out hS5) hBX
              clear hA5 hS5 hR5 hBX q1 q2 q3 q4 q5 q6 l0 l1 l2 g0 c0 c1 c2 c3
              go_wp2_with fail
              go_roundw
              case rel => exact ⟨k + 1, t, x, y, fu, dk, G, nv, tv, tz, tb, by omega, by go_num, HSW, HFU, HDK, HA5, by rw [← HTp.out]; exact HCN5, HFN5, by rw [← HTp.out]; exact HRN5, by rw [← HTp.out]; exact HNT, HC45, HFX5, HCT5, HFT5⟩
              case measure => simp [intOf]; omega
            · rw [e] at hwr
              clear e
              go_wp2_with fail
              refine hwr.mono ?_
              clear hwr
              rintro e w5 ⟨v5, rfl, G, hA5, hS5, hR5⟩
              obtain ⟨a5, p5, hv5, -⟩ := id hR5.1
              have hz5 : (noR.blob.length : Nat) = 0 := rfl
              rw [hz5] at hv5
              subst hv5
              obtain ⟨X5, HX5⟩ := named (w5.alloc (Obj.cells #[.int .i64 noR.serial, .int .i64 noR.batch, .slice a5 0 p5] 24))
              have hBX : Below w5.heap.size w5 X5 := by rw [HX5.out]; exact (Below.refl _ _).alloc (Nat.le_refl _) _
              have HA5 : Hid (Ap w.heap.size w X5 d (swD t' x y (-1) true) G) := hA5.below hBX
              obtain ⟨q1, q2⟩ := C3.step HCNW.out HFN.out hS5
              obtain ⟨q3, q4⟩ := C4.step HC4W.out HFX.out hS5
              obtain ⟨q5, q6⟩ := C3.step HCTW.out HFT.out hS5
              obtain ⟨q7, q8⟩ := C3.step HCW.out HFW.out hS5
              have HCN5 : Hid _ := C3.below q1 hBX
              have HFN5 : Hid _ := q2
              have HC45 : Hid _ := C4.below q3 hBX
              have HFX5 : Hid _ := q4
              have HCT5 : Hid _ := C3.below q5 hBX
              have HFT5 : Hid _ := q6
              have HCW5 : Hid _ := C3.below q7 hBX
              have HRN5 : Hid _ := RdK.below (RdK.step HRNW.out hS5) hBX
              have HSW5 : Hid _ := hsw
              have HWT : Hid (w.heap.size ≤ w3.heap.size) := by have h1 := HB1.out; have h2 := HO1.out; have h3 := HO2.out; show _ ≤ _; omega
              clear hA5 hS5 hR5 hBX q1 q2 q3 q4 q5 q6 q7 q8 l0 l1 l2 g0 c0 c1 c2 c3 hsw
              obtain ⟨x0, y0, y1, y2, f0, f1, f2⟩ := HCT5.out
              obtain ⟨g0, c0, c1, c2, -⟩ := HCW5.out
              by_cases htz : tz = 0
              · subst htz
                go_wp2_with (rw [← HX5.out])
                go_roundw
                case rel =>
                  have h1 := HO1.out
                  have h2 := HO2.out
                  exact ⟨k + 1, t', x, y, -1, true, G, nv, .slice qa qn qc, ps + 1, qb, by omega, by go_num, HSW5, (by show _ ≤ _; omega), (fun _ => rfl), HA5.out.set3 _ HFT5.out HWT.out _ _ _, by rw [← HTp.out]; exact C3.other _ _ _ HCN5.out (by omega), HFN5, by rw [← HTp.out]; exact RdK.set3 HRN5.out _ (fun a ha hb => by have := HNT.out a ha hb; omega) _ _ _, by rw [← HTp.out]; exact HNT, C4.set3 HC45.out (by omega) _ _ _, HFX5, C3.set _ _ _ HCT5.out, HFT5⟩
                case measure => simp [intOf]; omega
              · have htz' : (tz == 0) = false := by simp only [beq_eq_false_iff_ne]; exact htz
                go_wp2_with (rw [← HX5.out])
                go_roundw
                case rel => exact ⟨k + 1, t', x, y, -1, true, G, nv, tv, tz, tb, by omega, by go_num, HSW5, (by show _ ≤ _; omega), (fun _ => rfl), HA5, by rw [← HTp.out]; exact HCN5, HFN5, by rw [← HTp.out]; exact HRN5, by rw [← HTp.out]; exact HNT, HC45, HFX5, HCT5, HFT5⟩
                case measure => simp [intOf]; omega
            · rw [e] at hwr
              clear e
              go_wp2_with fail
              refine hwr.mono ?_
              clear hwr
              rintro e w5 ⟨v5, rfl, G, hA5, hS5, hR5⟩
              obtain ⟨a5, p5, hv5, -⟩ := id hR5.1
              rw [← HQN.out] at hv5
              subst hv5
              obtain ⟨X5, HX5⟩ := named (w5.alloc (Obj.cells #[.int .i64 (ps + 1), .int .i64 qb, .slice a5 qn p5] 24))
              have hBX : Below w5.heap.size w5 X5 := by rw [HX5.out]; exact (Below.refl _ _).alloc (Nat.le_refl _) _
              have HCX5 : Hid (C3 X5 w5.heap.size (.int .i64 (ps + 1)) (.int .i64 qb) (.slice a5 qn p5)) := by show C3 _ _ _ _ _; rw [HX5.out]; exact C3.new _ _ _ _ _
              have HA5 : Hid (Ap w.heap.size w X5 d (swD none x' y' fu' false) G) := hA5.below hBX
              obtain ⟨q1, q2⟩ := C3.step HCNW.out HFN.out hS5
              obtain ⟨q3, q4⟩ := C4.step HC4W.out HFX.out hS5
              obtain ⟨q5, q6⟩ := C3.step HCTW.out HFT.out hS5
              obtain ⟨q7, q8⟩ := C3.step HCW.out HFW.out hS5
              have HCN5 : Hid _ := C3.below q1 hBX
              have HFN5 : Hid _ := q2
              have HC45 : Hid _ := C4.below q3 hBX
              have HFX5 : Hid _ := q4
              have HCT5 : Hid _ := C3.below q5 hBX
              have HFT5 : Hid _ := q6
              have HCW5 : Hid _ := C3.below q7 hBX
              have hsr := sameRoot_any ⟨ps + 1, qb, ql⟩ ⟨ps + 1, qb, ql⟩ (.slice a5 qn p5) (.slice qa qn qc) X5 (Rd.below hR5.1 hBX) (HA5.out.rdK HM3.out).1
              rw [sameR_self] at hsr
              simp only at hsr
              have HSW5 : Hid _ := hsw
              have HFU5 : Hid _ := hfu'
              have HTOP5 : Hid _ := htop
              have HWT : Hid (w.heap.size ≤ w1.heap.size ∧ w1.heap.size < gX ∧ gX < w3.heap.size) := ⟨HB1.out, HO1.out, HO2.out⟩
              clear hA5 hS5 hR5 hBX q1 q2 q3 q4 q5 q6 q7 q8 l0 l1 l2 g0 c0 c1 c2 c3 hsw hfu' htop
              obtain ⟨x0, y0, y1, y2, -⟩ := HCX5.out
              obtain ⟨g0, c0, c1, c2, -⟩ := HCW5.out
              go_wp2_with (rw [← HX5.out])
              refine hsr.mono ?_
              clear hsr
              rintro e w6 ⟨rfl, hb6⟩
              have HB6 : Hid _ := hb6
              have HCN6 : Hid _ := C3.below HCN5.out hb6
              have HCT6 : Hid _ := C3.below HCT5.out hb6
              have HCW6 : Hid _ := C3.below HCW5.out hb6
              clear hb6 x0 y0 y1 y2 g0 c0 c1 c2
              obtain ⟨x0, y0, y1, y2, f0, f1, f2⟩ := HCN6.out
              obtain ⟨i0, j0, j1, j2, i1, i2, i3⟩ := HCT6.out
              obtain ⟨g0, c0, c1, c2, -⟩ := HCW6.out
              have hne1 : ¬ w1.heap.size = w3.heap.size := by have := HWT.out; omega
              have hne2 : ¬ w3.heap.size = w1.heap.size := by have := HWT.out; omega
              go_wp2_with fail
              go_roundw
              case rel =>
                obtain ⟨h1, h2, h3⟩ := HWT.out
                have hAf := ((HA5.out.below HB6.out).set3 _ HFN5.out h1 (.int .i64 (ps + 1)) (.int .i64 qb) (.slice qa qn qc)).set3 w3.heap.size HFT5.out (by omega) (.int .i64 0) (.int .i64 0) (.slice none 0 0)
                refine ⟨k + 1, none, x', y', fu', false, G, .slice qa qn qc, .slice none 0 0, 0, 0, by omega, by go_num, HSW5, HFU5, (fun h => by cases h), hAf, ?_, HFN5, ?_, ?_, C4.set3 (C4.set3 (C4.below HC45.out HB6.out) (by omega) _ _ _) (by omega) _ _ _, HFX5, C3.set _ _ _ (C3.other _ _ _ HCT6.out (by omega)), HFT5⟩
                · rw [HTOP5.out]
                  exact C3.other _ _ _ (C3.set _ _ _ HCN6.out) (by omega)
                · rw [HTOP5.out]
                  exact hAf.rdK HM3.out
                · rw [HTOP5.out]
                  intro a ha hb
                  have := Rd.own_lt HM3.out a ha hb
                  omega
              case measure => simp [intOf]; omega
        · have HTG : Hid _ := top_ge x y
          obtain ⟨t', ec, hsw'⟩ := crash3 t x y HSW.out ks ts fu dk
          have HSW' : Hid _ := hsw'
          have hcr := HA.out.crash (.slice ka kn kc) (.slice ta tn tc) ks ts (HA.out.rdI HGO.out.ks).1 (HA.out.rdI HGO.out.ts).1 (HA.out.rdI HGO.out.ks).2 (HA.out.rdI HGO.out.ts).2 HGO.out.kr HGO.out.tr
          rw [ec] at hcr
          have HRR : Hid _ := sw_read t' x y (-1)
          have HREL : Hid (∀ (W : World) (G : Nat → Prop) (v : Value), Ap w.heap.size w W d (swD t' x y (-1) false) G → C3 W w1.heap.size (.int .i64 (top x y).serial) (.int .i64 (top x y).batch) v → ¬ G w1.heap.size → RdK W G v (top x y).blob → ∃ (j : Nat) (t x y : Option (List UInt8 × Nat)) (F : Nat → Prop) (nv : Value), j ≤ 6 ∧ j ≤ N ∧ Value.int .i64 ((i : Int) + 1) = .int .i64 j ∧ Hid (Sw t x y) ∧ Hid (Ap w.heap.size w W d (swD t x y (-1) false) F) ∧ Hid (C3 W w1.heap.size (.int .i64 (top x y).serial) (.int .i64 (top x y).batch) nv) ∧ Hid (¬ F w1.heap.size) ∧ Hid (RdK W F nv (top x y).blob)) := fun W G v h1 h2 h3 h4 => ⟨i + 1, t', x, y, G, v, by omega, by omega, by rfl, hsw', h1, h2, h3, h4⟩
          obtain ⟨Tp, HTp⟩ := named (top x y)
          rw [← HTp.out] at HCN HRN HRR HREL HTG
          obtain ⟨ps, pb, pl⟩ := Tp
          simp only at HCN HRN HRR HREL HTG
          obtain ⟨na, nc, hnv, -⟩ := id HRN.out.1
          obtain ⟨pn, HPN⟩ := named pl.length
          rw [← HPN.out] at hnv
          subst hnv
          clear hsw' ec
          have hcase : ¬ (k : Int) < RN ∨ (k : Int) < RN ∧ ¬ (k : Int) < 8 := by omega
          clear hlk
          rcases hcase with hk1 | ⟨hk1, hk2⟩
          all_goals
            go_wp2_with fail
            refine hcr.mono ?_
            clear hcr
            rintro e w5 ⟨rfl, G, hA5, hS5⟩
            obtain ⟨q1, q2⟩ := C3.step HCN.out HFN.out hS5
            have HCN5 : Hid _ := q1
            have HFN5 : Hid _ := q2
            have HRN5 : Hid _ := RdK.step HRN.out hS5
            have HA5 : Hid _ := hA5
            have hrr := read_root hA5.dk (hA5.laid HL.out HL.out.lt)
            rw [HRR.out] at hrr
            clear hA5 hS5 q1 q2 g0 c0 c1 c2 c3
            by_cases hps : 0 < ps
            · rw [decide_eq_true hps] at hrr
              go_wp2_with fail
              refine hrr.mono ?_
              clear hrr
              rintro e w6 ⟨v6, rfl, ho6, hb6⟩
              obtain ⟨a6, p6, hv6, -⟩ := id ho6.rd
              rw [← HPN.out] at hv6
              subst hv6
              obtain ⟨X6, HX6⟩ := named (w6.alloc (Obj.cells #[.int .i64 ps, .int .i64 pb, .slice a6 pn p6] 24))
              have HBX6 : Hid (Below w6.heap.size w6 X6) := by show Below _ _ _; rw [HX6.out]; exact (Below.refl _ _).alloc (Nat.le_refl _) _
              have HCX6 : Hid (C3 X6 w6.heap.size (.int .i64 ps) (.int .i64 pb) (.slice a6 pn p6)) := by show C3 _ _ _ _ _; rw [HX6.out]; exact C3.new _ _ _ _ _
              have HB56 : Hid (Below w5.heap.size w5 X6) := below_call hb6 HBX6.out
              have HCN6 : Hid _ := C3.below HCN5.out HB56.out
              have HO6 : Hid _ := Own.below ho6 HBX6.out
              have hsr := sameRoot_any ⟨ps, pb, pl⟩ ⟨ps, pb, pl⟩ (.slice a6 pn p6) (.slice na pn nc) X6 (Own.rd HO6.out) (Rd.below HRN5.out.1 HB56.out)
              rw [sameR_self] at hsr
              simp only at hsr
              clear ho6 hb6
              obtain ⟨x0, y0, y1, y2, -⟩ := HCX6.out
              obtain ⟨g0, c0, c1, c2, -⟩ := HCN6.out
              go_wp2_with (rw [← HX6.out])
              refine hsr.mono ?_
              clear hsr
              rintro e w7 ⟨rfl, hb7⟩
              have HB7 : Hid (Below w5.heap.size w5 w7) := below_call HB56.out hb7
              have HCN7 : Hid _ := C3.below HCN6.out hb7
              have HCX7 : Hid _ := C3.below HCX6.out hb7
              have HO7 : Hid _ := Own.below HO6.out hb7
              clear hb7 x0 y0 y1 y2 g0 c0 c1 c2
              obtain ⟨x0, y0, y1, y2, f0, f1, f2⟩ := HCN7.out
              obtain ⟨g0, c0, c1, c2, -⟩ := HCX7.out
              go_wp2_with fail
              go_roundw
              case rel =>
                have hA7 := HA5.out.below HB7.out
                have hK7 : RdK w7 G (.slice a6 pn p6) pl := RdK.own HO7.out (fun b hG => (HA5.out.sub b hG).2)
                have hne : ∀ a, (Value.slice a6 pn p6).ownBlock = some a → pl ≠ [] → a ≠ w1.heap.size := fun a ha _ => by
                  have h1 := (World.ownsRow.lt HO7.out a ha).1
                  have h2 := HCN5.out.1
                  omega
                exact HREL.out _ G _ (hA7.set3 _ HFN5.out HB1.out _ _ _) (C3.set _ _ _ HCN7.out) HFN5.out (hK7.set3 _ hne _ _ _)
              case measure => simp [intOf]; omega
            · rw [decide_eq_false hps] at hrr
              go_wp2_with fail
              refine hrr.mono ?_
              clear hrr
              rintro e w6 ⟨v6, rfl, ho6, hb6⟩
              obtain ⟨a6, p6, hv6, -⟩ := id ho6.rd
              rw [← HPN.out] at hv6
              subst hv6
              obtain ⟨X6, HX6⟩ := named (w6.alloc (Obj.cells #[.int .i64 ps, .int .i64 pb, .slice a6 pn p6] 24))
              have HBX6 : Hid (Below w6.heap.size w6 X6) := by show Below _ _ _; rw [HX6.out]; exact (Below.refl _ _).alloc (Nat.le_refl _) _
              have HCX6 : Hid (C3 X6 w6.heap.size (.int .i64 ps) (.int .i64 pb) (.slice a6 pn p6)) := by show C3 _ _ _ _ _; rw [HX6.out]; exact C3.new _ _ _ _ _
              have HB56 : Hid (Below w5.heap.size w5 X6) := below_call hb6 HBX6.out
              have HCN6 : Hid _ := C3.below HCN5.out HB56.out
              have HO6 : Hid _ := Own.below ho6 HBX6.out
              have hsr := sameRoot_any ⟨ps, pb, pl⟩ ⟨ps, pb, pl⟩ (.slice a6 pn p6) (.slice na pn nc) X6 (Own.rd HO6.out) (Rd.below HRN5.out.1 HB56.out)
              rw [sameR_self] at hsr
              simp only at hsr
              clear ho6 hb6
              obtain ⟨x0, y0, y1, y2, -⟩ := HCX6.out
              obtain ⟨g0, c0, c1, c2, -⟩ := HCN6.out
              go_wp2_with (rw [← HX6.out])
              refine hsr.mono ?_
              clear hsr
              rintro e w7 ⟨rfl, hb7⟩
              have HB7 : Hid (Below w5.heap.size w5 w7) := below_call HB56.out hb7
              have HCN7 : Hid _ := C3.below HCN6.out hb7
              have HCX7 : Hid _ := C3.below HCX6.out hb7
              have HO7 : Hid _ := Own.below HO6.out hb7
              clear hb7 x0 y0 y1 y2 g0 c0 c1 c2
              obtain ⟨x0, y0, y1, y2, f0, f1, f2⟩ := HCN7.out
              obtain ⟨g0, c0, c1, c2, -⟩ := HCX7.out
              go_wp2_with fail
              go_roundw
              case rel =>
                have hA7 := HA5.out.below HB7.out
                have hK7 : RdK w7 G (.slice a6 pn p6) pl := RdK.own HO7.out (fun b hG => (HA5.out.sub b hG).2)
                have hne : ∀ a, (Value.slice a6 pn p6).ownBlock = some a → pl ≠ [] → a ≠ w1.heap.size := fun a ha _ => by
                  have h1 := (World.ownsRow.lt HO7.out a ha).1
                  have h2 := HCN5.out.1
                  omega
                exact HREL.out _ G _ (hA7.set3 _ HFN5.out HB1.out _ _ _) (C3.set _ _ _ HCN7.out) HFN5.out (hK7.set3 _ hne _ _ _)
              case measure => simp [intOf]; omega
    · have HB : Hid _ := HA.out.bel
      have HLW : Hid (Laid wr) := HA.out.laid HL.out HL.out.lt
      by_cases h1 : i < N
      · have h1' : (i : Int) < N := by omega
        have h2' : ¬ (i : Int) < 6 := by omega
        go_wp2_with fail
        refine (awake_true wr HLW.out).mono ?_
        rintro e w6 ⟨rfl, hb6⟩
        go_wp2_with fail
        go_ret
        exact ⟨rfl, HB.out.trans (hb6.mono HB.out.size)⟩
      · have h1' : ¬ (i : Int) < N := by omega
        go_wp2_with fail
        refine (awake_true wr HLW.out).mono ?_
        rintro e w6 ⟨rfl, hb6⟩
        go_wp2_with fail
        go_ret
        exact ⟨rfl, HB.out.trans (hb6.mono HB.out.size)⟩
end Go.Proofs.YtffgbjojngnebaaDoor
