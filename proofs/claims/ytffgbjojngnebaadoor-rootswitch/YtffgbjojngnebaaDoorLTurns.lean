/-
  RootTurns answers true, whatever is handed in. Own work.
-/
import Derived.Test.YtffgbjojngnebaaDoorKt
namespace Go.Proofs.YtffgbjojngnebaaDoor
open Go.RowKit

/-- the two names, in a row that the law has made -/
def Nm2 (w : World) (g : Nat) : Prop := g < w.heap.size ∧ w.cell? ⟨g, 0, none⟩ = some (.string nR0) ∧ w.cell? ⟨g, 1, none⟩ = some (.string nR1)
theorem Nm2.at {w : World} {g : Nat} (h : Nm2 w g) (k : Nat) (hk : k < 2) : w.cell? ⟨g, k, none⟩ = some (.string (nmI k)) := by
  match k, hk with
  | 0, _ => exact h.2.1
  | 1, _ => exact h.2.2
theorem Nm2.below {w w' : World} {g : Nat} (h : Nm2 w g) (hb : Below w.heap.size w w') : Nm2 w' g :=
  ⟨Nat.lt_of_lt_of_le h.1 hb.size, (hb.cell (p := ⟨g, 0, none⟩) h.1).trans h.2.1, (hb.cell (p := ⟨g, 1, none⟩) h.1).trans h.2.2⟩
theorem Nm2.step {w w' : World} {F G : Nat → Prop} {g : Nat} (h : Nm2 w g) (hF : ¬ F g) (hs : Step F w w' G) : Nm2 w' g ∧ ¬ G g := by
  refine ⟨⟨Nat.lt_of_lt_of_le h.1 hs.chg.size, (hs.chg.cell h.1 hF 0).trans h.2.1, (hs.chg.cell h.1 hF 1).trans h.2.2⟩, fun hG => ?_⟩
  rcases hs.new g hG with h' | h'
  · exact hF h'
  · have := h.1; omega
theorem Ap.rdK {w0 w : World} {d : Value} {D : AD} {F : Nat → Prop} {v : Value} {l : List UInt8} (h : Ap w0.heap.size w0 w d D F) (hr : Rd w0 v l) : RdK w F v l := by
  refine ⟨hr.below h.bel, fun a ha hl hF => ?_⟩
  have h1 := hr.own_lt a ha hl
  have h2 := (h.sub a hF).1
  omega

set_option maxRecDepth 100000 in
set_option maxHeartbeats 4000000 in
theorem turns_walk (w : World) (hL : Laid w) (v : Value) (xs : List (AR × Value)) (hv : RdR w v xs) :
    Calls Tryd.prog 7 #[v] w fun e w' => e = .returned (.bool true) ∧ Below w.heap.size w w' := by
  obtain ⟨ao, cap, hv0, hcap, hmx, hxs⟩ := hv
  obtain ⟨N, HN⟩ := named xs.length
  rw [← HN.out] at hv0 hcap
  subst hv0
  have HX : Hid _ := hxs
  have HL : Hid _ := hL
  unfold maxLen at hmx
  clear hxs hL
  go_enter Tryd.func7, Tryd.ntmps7
  go_wp2_with fail
  refine (new_ap w 1048576 (by omega)).mono ?_
  rintro e w1 ⟨d, rfl, -, F1, hA1, -⟩
  obtain ⟨X0, HX0⟩ := named (w1.alloc (Obj.cells #[.string ⟨#[114, 111, 111, 116, 48]⟩, .string ⟨#[114, 111, 111, 116, 49]⟩] 9))
  have HBX0 : Hid (Below w1.heap.size w1 X0) := by show Below _ _ _; rw [HX0.out]; exact (Below.refl _ _).alloc (Nat.le_refl _) _
  have HNM0 : Hid (Nm2 X0 w1.heap.size) := by
    show Nm2 _ _
    rw [HX0.out]
    exact ⟨by simp, by simp [go_sem]; rfl, by simp [go_sem]; rfl⟩
  have HA0 : Hid (Ap w.heap.size w X0 d (dT none none) F1) := hA1.below HBX0.out
  have HF0 : Hid (¬ F1 w1.heap.size) := fun hF => Nat.lt_irrefl _ (hA1.sub _ hF).2
  clear hA1
  go_wp2_with fail
  rw [← HX0.out]
  go_loopw [6, 7] (fun nv iv wr => ∃ (i n : Nat) (x y : Option (List UInt8 × Nat)) (F : Nat → Prop), i ≤ 20 ∧ i ≤ N ∧ n ≤ i ∧ iv = .int .i64 i ∧ nv = .int .i64 n ∧ Hid (Tn n x y) ∧ Hid (Ap w.heap.size w wr d (dT x y) F) ∧ Hid (Nm2 wr w1.heap.size) ∧ Hid (¬ F w1.heap.size)) (fun _ iv _ => 20 - (intOf iv).toNat)
  case atStart => exact ⟨0, 0, none, none, F1, by omega, by omega, by omega, rfl, rfl, Tn.none, HA0, HNM0, HF0⟩
  case round =>
    obtain ⟨i, n, x, y, F, hi20, hiN, hni, rfl, rfl, HT, HA, HNM, HNF⟩ := hrel
    by_cases hlt : i < N ∧ i < 20
    · obtain ⟨hl1, hl2⟩ := hlt
      have hl1' : (i : Int) < N := by omega
      have hl2' : (i : Int) < 20 := by omega
      have hix : i < xs.length := by rw [← HN.out]; exact hl1
      obtain ⟨b0, o0, hao, hb0, m0, m1, m2, m3⟩ := HX.out i hix
      subst hao
      have hBel := HA.out.bel
      have k0 := (hBel.cell (p := ⟨b0, o0 + i * 3, none⟩) hb0).trans m0
      have k1 := (hBel.cell (p := ⟨b0, o0 + i * 3 + 1, none⟩) hb0).trans m1
      have k2 := (hBel.cell (p := ⟨b0, o0 + i * 3 + 2, none⟩) hb0).trans m2
      obtain ⟨Q, HQ⟩ := named (xs[i]'hix)
      rw [← HQ.out] at m3 k0 k1 k2
      obtain ⟨⟨qs, qb, ql⟩, qv⟩ := Q
      simp only at m3 k0 k1 k2
      obtain ⟨qa, qc, hqv, -⟩ := id m3
      obtain ⟨qn, HQN⟩ := named ql.length
      rw [← HQN.out] at hqv
      subst hqv
      have HM3 : Hid _ := m3
      clear m0 m1 m2 m3 hBel
      by_cases hbig : 100 < qn
      · have hbig' : (100 : Int) < qn := by omega
        go_wp2_with fail
        go_roundw
        case rel => exact ⟨i + 1, n, x, y, F, by omega, by omega, by omega, by go_num, rfl, HT, HA, HNM, HNF⟩
        case measure => simp [intOf]; omega
      · have hbig' : ¬ (100 : Int) < qn := by omega
        have HQL : Hid (ql.length ≤ 150) := by show _ ≤ _; rw [← HQN.out]; omega
        have HNK : Hid (n % 2 < 2) := Nat.mod_lt _ (by omega)
        have hkm : (n : Int).tmod 2 = ((n % 2 : Nat) : Int) := by rw [Int.tmod_eq_emod_of_nonneg (by omega)]; omega
        have hcn := HNM.out.at (n % 2) HNK.out
        have HOT : Hid (∀ (s : Int) (b : List UInt8 × Nat), s = n + 1 → readD (dT (setX (nameR s) b x) (setY (nameR s) b y)) (nmI (n % 2)) = readD (dT x y) (nmI (n % 2))) := fun s b hs => turn_other s hs b
        have hrd := read_any HA.out.dk (nmI (n % 2))
        obtain ⟨k, HK⟩ := named (n % 2)
        rw [← HK.out] at hkm hcn HOT HNK hrd
        have hk2 : k < 2 := HNK.out
        have HRD : Hid (∀ w G D, Dk w G d D → readD D (nmI k) = readD (dT x y) (nmI k) → Calls Tryd.prog 28 #[d, .string (nmI k)] w fun e w' => ∃ v, e = .returned (.tuple #[v, .int .i64 (readD (dT x y) (nmI k)).2]) ∧ Own w' w.heap.size v (readD (dT x y) (nmI k)).1 ∧ Below w.heap.size w w') := fun w G D hD hq => hq ▸ read_any hD (nmI k)
        obtain ⟨R, HR⟩ := named (readD (dT x y) (nmI k))
        rw [← HR.out] at hrd HRD HOT
        obtain ⟨nm, HNN⟩ := named (nmI k)
        rw [← HNN.out] at hrd HRD HOT hcn
        obtain ⟨rl, rx⟩ := R
        simp only at hrd HRD
        go_wp2_with fail
        refine hrd.mono ?_
        clear hrd
        rintro e w2 ⟨v2, rfl, ho2, hb2⟩
        obtain ⟨a2, p2, hv2, -⟩ := id ho2.rd
        obtain ⟨j2, HJ2⟩ := named rl.length
        rw [← HJ2.out] at hv2
        subst hv2
        have HA2 : Hid _ := HA.out.below hb2
        have HK2 : Hid (RdK w2 F (.slice a2 j2 p2) rl) := RdK.own ho2 (fun b hF => (HA.out.sub b hF).2)
        have HNM2 : Hid _ := HNM.out.below hb2
        have l0 := (hb2.cell (p := ⟨b0, o0 + i * 3, none⟩) (Nat.lt_of_lt_of_le hb0 HA.out.le)).trans k0
        have l1 := (hb2.cell (p := ⟨b0, o0 + i * 3 + 1, none⟩) (Nat.lt_of_lt_of_le hb0 HA.out.le)).trans k1
        have l2 := (hb2.cell (p := ⟨b0, o0 + i * 3 + 2, none⟩) (Nat.lt_of_lt_of_le hb0 HA.out.le)).trans k2
        have hwr := HA2.out.write HL.out HL.out.lt qs qb (.slice qa qn qc) ql (HA2.out.rdK HM3.out) (by have := HQL.out; omega)
        clear ho2 hb2 k0 k1 k2
        cases hri : isR (nxT x y qb ql) with
        | false =>
          rw [turn_bad x y qb ql hri] at hwr
          go_wp2_with fail
          refine hwr.mono ?_
          clear hwr
          rintro e w3 ⟨v3, rfl, G, hA3, hS3, hR3⟩
          obtain ⟨a3, p3, hv3, -⟩ := id hR3.1
          have hz3 : (noR.blob.length : Nat) = 0 := rfl
          rw [hz3] at hv3
          subst hv3
          have hBX : Below w3.heap.size w3 (w3.alloc (Obj.cells #[.int .i64 0, .int .i64 0, .slice a3 0 p3] 24)) := (Below.refl _ _).alloc (Nat.le_refl _) _
          have HA3 : Hid (Ap w.heap.size w _ d (dT x y) G) := hA3.below hBX
          obtain ⟨n3, n3F⟩ := Nm2.step HNM2.out HNF.out hS3
          have HNM3 : Hid _ := n3.below hBX
          have HNF3 : Hid _ := n3F
          clear hA3 hS3 hR3 hBX n3 n3F l0 l1 l2
          go_wp2_with fail
          go_roundw
          case rel => exact ⟨i + 1, n, x, y, G, by omega, by omega, by omega, by go_num, rfl, HT, HA3, HNM3, HNF3⟩
          case measure => simp [intOf]; omega
        | true =>
          have HNS : Hid ((nxT x y qb ql).serial = n + 1) := by
            show (top x y).serial + 1 = n + 1
            rw [HT.out.top]
          rw [turn_ok x y qb ql HT.out.hx HT.out.hy HQL.out hri] at hwr
          have HT1 : Hid _ := Tn.step HT.out qb ql HQL.out hri
          have HTP : Hid _ := top_set x y (nameR (nxT x y qb ql).serial) (nxT x y qb ql) hri (by rw [HNS.out, HT.out.top]; omega) (frameL (bodyR (nxT x y qb ql))).length
          have HOR : Hid _ := HOT.out (nxT x y qb ql).serial (frameL (bodyR (nxT x y qb ql)), (frameL (bodyR (nxT x y qb ql))).length) HNS.out
          obtain ⟨x', HX'⟩ := named (setX (nameR (nxT x y qb ql).serial) (frameL (bodyR (nxT x y qb ql)), (frameL (bodyR (nxT x y qb ql))).length) x)
          obtain ⟨y', HY'⟩ := named (setY (nameR (nxT x y qb ql).serial) (frameL (bodyR (nxT x y qb ql)), (frameL (bodyR (nxT x y qb ql))).length) y)
          rw [← HX'.out, ← HY'.out] at hwr HT1 HTP HOR
          have HRR : Hid (readR (dT x' y') = (nxT x y qb ql, true, 0)) := by
            show _ = _
            rw [HT1.out.read, HTP.out, decide_eq_true (by omega)]
          obtain ⟨Nx, HNx⟩ := named (nxT x y qb ql)
          rw [← HNx.out] at hwr HRR HNS
          obtain ⟨ns, nb, nl⟩ := Nx
          simp only at hwr HNS
          obtain rfl : ns = n + 1 := HNS.out
          go_wp2_with fail
          refine hwr.mono ?_
          clear hwr
          rintro e w3 ⟨v3, rfl, G, hA3, hS3, hR3⟩
          obtain ⟨a3, p3, hv3, -⟩ := id hR3.1
          obtain ⟨j3, HJ3⟩ := named nl.length
          rw [← HJ3.out] at hv3
          subst hv3
          obtain ⟨X, HXX⟩ := named (w3.alloc (Obj.cells #[.int .i64 (n + 1), .int .i64 nb, .slice a3 j3 p3] 24))
          have HBX : Hid (Below w3.heap.size w3 X) := by show Below _ _ _; rw [HXX.out]; exact (Below.refl _ _).alloc (Nat.le_refl _) _
          have HCX : Hid (C3 X w3.heap.size (.int .i64 (n + 1)) (.int .i64 nb) (.slice a3 j3 p3)) := by show C3 _ _ _ _ _; rw [HXX.out]; exact C3.new _ _ _ _ _
          have HA3 : Hid (Ap w.heap.size w X d (dT x' y') G) := hA3.below HBX.out
          obtain ⟨n3, n3F⟩ := Nm2.step HNM2.out HNF.out hS3
          have HNM3 : Hid _ := n3.below HBX.out
          have HNF3 : Hid _ := n3F
          have HK3 : Hid (RdK X G (.slice a2 j2 p2) rl) := RdK.below (RdK.step HK2.out hS3) HBX.out
          have HR3 : Hid (RdK X G (.slice a3 j3 p3) nl) := RdK.below hR3 HBX.out
          have hrd := HRD.out X G _ HA3.out.dk HOR.out
          clear hA3 hS3 hR3 n3 n3F l0 l1 l2
          go_wp2_with (rw [← HXX.out])
          refine hrd.mono ?_
          clear hrd
          rintro e w5 ⟨v5, rfl, ho5, hb5⟩
          obtain ⟨a5, p5, hv5, -⟩ := id ho5.rd
          rw [← HJ2.out] at hv5
          subst hv5
          have HB5 : Hid (Below X.heap.size X w5) := hb5
          have HO5 : Hid _ := ho5
          have hus := used_any (HA3.out.below hb5).dk
          obtain ⟨us, HUS⟩ := named (used (dT x' y').files)
          rw [← HUS.out] at hus
          clear ho5 hb5
          go_wp2_with fail
          refine hus.mono ?_
          clear hus
          rintro e w6 ⟨rfl, hb6⟩
          have HB6 : Hid (Below X.heap.size X w6) := below_call HB5.out hb6
          have HO6 : Hid _ := Own.below HO5.out hb6
          have hli := list_any (HA3.out.below HB6.out).dk
          clear hb6
          go_wp2_with fail
          refine hli.mono ?_
          clear hli
          rintro e w7 ⟨v7, rfl, ho7, hb7⟩
          obtain ⟨a7, p7, hv7, -⟩ := id ho7.rdT
          rw [List.length_map, List.length_map, HT1.out.count] at hv7
          obtain ⟨fl, HFL⟩ := named (min (n + 1) 2)
          rw [← HFL.out] at hv7
          subst hv7
          have HB7 : Hid (Below X.heap.size X w7) := below_call HB6.out hb7
          have HO7 : Hid _ := Own.below HO6.out hb7
          have hrr := read_root (HA3.out.below HB7.out).dk ((HA3.out.below HB7.out).laid HL.out HL.out.lt)
          rw [HRR.out] at hrr
          simp only at hrr
          clear hb7 ho7
          go_wp2_with fail
          refine hrr.mono ?_
          clear hrr
          rintro e w8 ⟨v8, rfl, ho8, hb8⟩
          obtain ⟨a8, p8, hv8, -⟩ := id ho8.rd
          rw [← HJ3.out] at hv8
          subst hv8
          obtain ⟨Y, HYY⟩ := named (w8.alloc (Obj.cells #[.int .i64 (n + 1), .int .i64 nb, .slice a8 j3 p8] 24))
          have HBY : Hid (Below w8.heap.size w8 Y) := by show Below _ _ _; rw [HYY.out]; exact (Below.refl _ _).alloc (Nat.le_refl _) _
          have HCY : Hid (C3 Y w8.heap.size (.int .i64 (n + 1)) (.int .i64 nb) (.slice a8 j3 p8)) := by show C3 _ _ _ _ _; rw [HYY.out]; exact C3.new _ _ _ _ _
          have HB8 : Hid (Below X.heap.size X Y) := below_call (below_call HB7.out hb8) HBY.out
          have HO8 : Hid _ := Own.below (Own.below HO7.out hb8) HBY.out
          have HP8 : Hid _ := Own.below ho8 HBY.out
          have HCX8 : Hid _ := C3.below HCX.out HB8.out
          have hsb := same_any (.slice a2 j2 p2) (.slice a5 j2 p5) rl rl Y (Rd.below HK3.out.1 HB8.out) (Own.rd HO8.out)
          rw [decide_eq_true rfl] at hsb
          have hsr := sameRoot_any ⟨n + 1, nb, nl⟩ ⟨n + 1, nb, nl⟩ (.slice a8 j3 p8) (.slice a3 j3 p3) Y (Own.rd HP8.out) (Rd.below HR3.out.1 HB8.out)
          rw [sameR_self] at hsr
          simp only at hsr
          clear ho8 hb8
          obtain ⟨x0, y0, y1, y2, -⟩ := HCX8.out
          obtain ⟨g0, c0, c1, c2, -⟩ := HCY.out
          go_wp2_with (rw [← HYY.out])
          refine hsb.mono ?_
          clear hsb
          rintro e Y' ⟨rfl, rfl⟩
          go_wp2_with fail
          refine hsr.mono ?_
          clear hsr
          rintro e w9 ⟨rfl, hb9⟩
          have HB9 : Hid (Below X.heap.size X w9) := below_call HB8.out hb9
          have hus := used_any (HA3.out.below HB9.out).dk
          rw [← HUS.out] at hus
          clear hb9 x0 y0 y1 y2 g0 c0 c1 c2
          go_wp2_with fail
          refine hus.mono ?_
          clear hus
          rintro e w10 ⟨rfl, hb10⟩
          have HB10 : Hid (Below X.heap.size X w10) := below_call HB9.out hb10
          have hli := list_any (HA3.out.below HB10.out).dk
          clear hb10
          go_wp2_with fail
          refine hli.mono ?_
          clear hli
          rintro e w11 ⟨v11, rfl, ho11, hb11⟩
          obtain ⟨a11, p11, hv11, -⟩ := id ho11.rdT
          rw [List.length_map, List.length_map, HT1.out.count, ← HFL.out] at hv11
          subst hv11
          have HB11 : Hid (Below X.heap.size X w11) := below_call HB10.out hb11
          clear ho11 hb11
          have hfl : ((fl : Int) != min ((n : Int) + 1) 2) = false := by
            rw [HFL.out]
            simp only [bne_eq_false_iff_eq]
            omega
          have hfl2 : ((fl : Int) == min ((n : Int) + 1) 2) = true := by
            rw [HFL.out]
            simp only [beq_iff_eq]
            omega
          go_wp2_with fail
          go_roundw
          case rel => exact ⟨i + 1, n + 1, x', y', G, by omega, by omega, by omega, by go_num, by go_num, HT1, HA3.out.below HB11.out, Nm2.below HNM3.out HB11.out, HNF3⟩
          case measure => simp [intOf]; omega
    · have HB : Hid _ := HA.out.bel
      have HLW : Hid (Laid wr) := HA.out.laid HL.out HL.out.lt
      by_cases h1 : i < N
      · have h1' : (i : Int) < N := by omega
        have h2' : ¬ (i : Int) < 20 := by omega
        go_wp2_with fail
        refine (awake_true wr HLW.out).mono ?_
        rintro e w6 ⟨rfl, hb6⟩
        go_wp2_with fail
        go_ret
        exact ⟨rfl, HB.out.trans (hb6.mono HB.out.size)⟩
      · have h1' : ¬ (i : Int) < N := by omega
        go_wp2_with fail
        refine (awake_true wr HLW.out).mono ?_
        rintro e w6 ⟨rfl, hb6⟩
        go_wp2_with fail
        go_ret
        exact ⟨rfl, HB.out.trans (hb6.mono HB.out.size)⟩
end Go.Proofs.YtffgbjojngnebaaDoor
