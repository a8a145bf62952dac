/-
  The contract of root's Read. Own work.
-/
import Derived.Test.YtffgbjojngnebaaDoorKg
import Derived.Deep.RegionHeld3
namespace Go.Proofs.YtffgbjojngnebaaDoor
open Go.RowKit

def nmI (k : Nat) : ByteArray := if k = 0 then nR0 else nR1
/-- the newest of the first files -/
def curR (D : AD) : Nat → AR
  | 0 => noR
  | k + 1 => newest (curR D k) (standR D (nmI k))
theorem curR_two (D : AD) : curR D 2 = rootD D := rfl
theorem Laid.at {w : World} (h : Laid w) (k : Nat) (hk : k < 2) : w.cell? ⟨0, k, none⟩ = some (.string (nmI k)) := by
  match k, hk with
  | 0, _ => exact h.n0
  | 1, _ => exact h.n1

theorem set3_size (w : World) (g : Nat) (a b c : Value) : (set3 w g a b c).heap.size = w.heap.size := by simp [set3, World.setCell]
theorem C3.other {w : World} {g g' : Nat} {a b c : Value} (x y z : Value) (h : C3 w g a b c) (hg : g ≠ g') : C3 (set3 w g' x y z) g a b c := by
  obtain ⟨h0, h1, h2, h3, h4, h5, h6⟩ := h
  have e : ∀ o, (set3 w g' x y z).cell? ⟨g, o, none⟩ = w.cell? ⟨g, o, none⟩ := fun o => by
    unfold set3
    rw [cell_other _ _ _ _ _ _ (.inl hg), cell_other _ _ _ _ _ _ (.inl hg), cell_other _ _ _ _ _ _ (.inl hg)]
  have f : ∀ o, (set3 w g' x y z).frozen? ⟨g, o, none⟩ = w.frozen? ⟨g, o, none⟩ := fun o => by simp [set3]
  exact ⟨by rw [set3_size]; exact h0, (e 0).trans h1, (e 1).trans h2, (e 2).trans h3, (f 0).trans h4, (f 1).trans h5, (f 2).trans h6⟩
theorem C3.set {w : World} {g : Nat} {a b c : Value} (x y z : Value) (h : C3 w g a b c) : C3 (set3 w g x y z) g x y z := by
  obtain ⟨h0, h1, h2, h3, h4, h5, h6⟩ := h
  have f : ∀ o, (set3 w g x y z).frozen? ⟨g, o, none⟩ = w.frozen? ⟨g, o, none⟩ := fun o => by simp [set3]
  refine ⟨by rw [set3_size]; exact h0, ?_, ?_, ?_, (f 0).trans h4, (f 1).trans h5, (f 2).trans h6⟩
  · unfold set3
    rw [cell_other _ _ _ _ _ _ (.inr (by omega)), cell_other _ _ _ _ _ _ (.inr (by omega))]
    exact World.cell?_setCell_same _ _ _ h1
  · unfold set3
    rw [cell_other _ _ _ _ _ _ (.inr (by omega))]
    exact World.cell?_setCell_same _ _ _ ((cell_other _ _ _ _ _ _ (.inr (by omega))).trans h2)
  · unfold set3
    exact World.cell?_setCell_same _ _ _ ((cell_other _ _ _ _ _ _ (.inr (by omega))).trans ((cell_other _ _ _ _ _ _ (.inr (by omega))).trans h3))

set_option maxRecDepth 100000 in
set_option maxHeartbeats 800000 in
theorem read_root {w : World} {F : Nat → Prop} {d : Value} {D : AD} (h : Dk w F d D) (hw : Laid w) :
    Calls Tryd.prog 19 #[d] w fun e w' => ∃ v, e = .returned (.tuple #[.agg #[.int .i64 (readR D).1.serial, .int .i64 (readR D).1.batch, v], .bool (readR D).2.1, .int .i64 (readR D).2.2]) ∧ Own w' w.heap.size v (readR D).1.blob ∧ Below w.heap.size w w' := by
  obtain ⟨W, HW⟩ := named ((w.alloc (Obj.cells #[.int .i64 0, .int .i64 0, .slice none 0 0] 24)).alloc (Obj.cells #[.int .i64 0, .int .i64 0, .slice none 0 0] 24))
  obtain ⟨T1, T2, T3, -⟩ := two_new' w (Obj.cells #[.int .i64 0, .int .i64 0, .slice none 0 0] 24) (Obj.cells #[.int .i64 0, .int .i64 0, .slice none 0 0] 24)
  have HSZ : Hid (W.heap.size = w.heap.size + 2) := by show W.heap.size = _; rw [HW.out]; simp
  rw [← HW.out] at T1 T2 T3
  have HBW : Hid (Below w.heap.size w W) := T3
  have HC : Hid (C3 W w.heap.size (.int .i64 0) (.int .i64 0) (.slice none 0 0)) := C3.of T1
  have HCN : Hid (C3 W (w.heap.size + 1) (.int .i64 0) (.int .i64 0) (.slice none 0 0)) := C3.of T2
  have HDK : Hid (∀ x, Below w.heap.size w x → Dk x F d D) := fun x hx => h.below hx
  have HLW : Hid (∀ x, Below w.heap.size w x → Laid x) := fun x hx => hw.below hx
  have HRR : Hid (readR D = if D.dark = true then (noR, false, 15) else (curR D 2, decide (0 < (curR D 2).serial), 0)) := rfl
  have HFD : Hid (fails D = if D.dark then 15 else 0) := rfl
  clear T1 T2 T3 h hw
  go_enter Tryd.func19, Tryd.ntmps19
  go_wp2_with fail
  rw [← HW.out]
  go_loopw [10] (fun iv wr => ∃ k : Nat, k ≤ 2 ∧ iv = .int .i64 k ∧ Hid (0 < k → D.dark = false) ∧ Hid (Below w.heap.size w wr) ∧ Hid (w.heap.size + 2 ≤ wr.heap.size) ∧ Hid (C3 wr w.heap.size (.int .i64 0) (.int .i64 0) (.slice none 0 0)) ∧ ∃ v, Hid (C3 wr (w.heap.size + 1) (.int .i64 (curR D k).serial) (.int .i64 (curR D k).batch) v) ∧ Hid (Own wr (w.heap.size + 2) v (curR D k).blob)) (fun iv _ => 2 - (intOf iv).toNat)
  case atStart => exact ⟨0, by omega, rfl, (fun h => absurd h (Nat.lt_irrefl 0)), HBW, (by show _ ≤ _; rw [HSZ.out]; omega), HC, _, HCN, Own.nil _ _⟩
  case round =>
    obtain ⟨k, hk, rfl, HDA, HB, HS, HC, v, HCN, HO⟩ := hrel
    by_cases hlt : k < 2
    · have hlt' : (k : Int) < 2 := by omega
      have hnm := (HLW.out wr HB.out).at k hlt
      have HST : Hid (curR D (k + 1) = newest (curR D k) (standR D (nmI k))) := rfl
      have hst := stands_any (HDK.out wr HB.out) (nmI k)
      obtain ⟨Z, HZ⟩ := named (standR D (nmI k))
      rw [← HZ.out] at hst HST
      obtain ⟨zs, zb, zl⟩ := Z
      obtain ⟨N, HN⟩ := named (nmI k)
      rw [← HN.out] at hst hnm
      obtain ⟨Y, HY⟩ := named (curR D k)
      rw [← HY.out] at HST HCN HO
      obtain ⟨ys, yb, yl⟩ := Y
      simp only at hst HCN HO
      cases hd : D.dark with
      | true =>
        rw [HFD.out, hd, if_pos rfl] at hst
        rw [hd, if_pos rfl] at HRR
        go_wp2_with fail
        refine hst.mono ?_
        clear hst
        rintro e w2 ⟨v2, rfl, ho2, hb2⟩
        obtain ⟨a2, p2, hv2, -⟩ := id ho2.rd
        obtain ⟨k2, HK2⟩ := named zl.length
        rw [← HK2.out] at hv2
        subst hv2
        have HBX : Hid (Below w2.heap.size w2 (w2.alloc (Obj.cells #[.int .i64 zs, .int .i64 zb, .slice a2 k2 p2] 24))) := (Below.refl _ _).alloc (Nat.le_refl _) _
        have HB3 : Hid _ := below_call (below_call HB.out hb2) HBX.out
        have HC3 : Hid _ := C3.below (C3.below HC.out hb2) HBX.out
        clear ho2 hb2
        obtain ⟨g0, c0, c1, c2, f0, f1, f2⟩ := HC3.out
        go_wp2_with fail
        refine bodyPost_ret (v := .tuple #[.agg #[.int .i64 0, .int .i64 0, .slice none 0 0], .bool false, .int .i64 15]) (by simp [results, Tryd.results19, go_sem, c0, c1, c2]) rfl ?_
        rw [HRR.out]
        exact ⟨_, rfl, Own.nil _ _, by first | exact HB3.out | exact below_set3 HB3.out _ _ _ (Nat.le_refl _)⟩
      | false =>
        rw [HFD.out, hd, if_neg (by simp)] at hst
        go_wp2_with fail
        refine hst.mono ?_
        clear hst
        rintro e w2 ⟨v2, rfl, ho2, hb2⟩
        obtain ⟨a2, p2, hv2, -⟩ := id ho2.rd
        obtain ⟨k2, HK2⟩ := named zl.length
        rw [← HK2.out] at hv2
        subst hv2
        obtain ⟨X, HX⟩ := named (w2.alloc (Obj.cells #[.int .i64 zs, .int .i64 zb, .slice a2 k2 p2] 24))
        have HBX : Hid (Below w2.heap.size w2 X) := by show Below _ _ _; rw [HX.out]; exact (Below.refl _ _).alloc (Nat.le_refl _) _
        have HCX : Hid (C3 X w2.heap.size (.int .i64 zs) (.int .i64 zb) (.slice a2 k2 p2)) := by show C3 _ _ _ _ _; rw [HX.out]; exact C3.new _ _ _ _ _
        have HB3 : Hid _ := below_call (below_call HB.out hb2) HBX.out
        have HC3 : Hid _ := C3.below (C3.below HC.out hb2) HBX.out
        have HN3 : Hid _ := C3.below (C3.below HCN.out hb2) HBX.out
        have HO3 : Hid _ := Own.below (Own.below HO.out hb2) HBX.out
        have HP3 : Hid _ := Own.mono (Own.below ho2 HBX.out) HS.out
        have HS3 : Hid (w.heap.size + 2 ≤ X.heap.size) := Nat.le_trans HS.out (Nat.le_trans hb2.size HBX.out.size)
        clear ho2 hb2
        obtain ⟨g0, c0, c1, c2, f0, f1, f2⟩ := HN3.out
        obtain ⟨x0, y0, y1, y2, -⟩ := HCX.out
        by_cases hgt : ys < zs
        · have HNW : Hid (curR D (k + 1) = ⟨zs, zb, zl⟩) := by show _ = _; rw [HST.out]; unfold newest; rw [if_pos hgt]
          go_wp2_with (rw [← HX.out])
          go_roundw
          case rel =>
            refine ⟨k + 1, by omega, by go_num, (by first | exact fun _ => hd | exact fun _ => trivial), ?_, ?_, ?_, .slice a2 k2 p2, ?_, ?_⟩
            · exact below_set3 HB3.out _ _ _ (by omega)
            · show _ ≤ _
              exact (set3_size X (w.heap.size + 1) (.int .i64 zs) (.int .i64 zb) (.slice a2 k2 p2)).symm ▸ HS3.out
            · exact C3.other _ _ _ HC3.out (by omega)
            · rw [HNW.out]
              exact C3.set _ _ _ HN3.out
            · rw [HNW.out]
              exact Own.set3 _ _ _ HP3.out (by omega)
          case measure => simp [intOf]; omega
        · have HNW : Hid (curR D (k + 1) = ⟨ys, yb, yl⟩) := by show _ = _; rw [HST.out]; unfold newest; rw [if_neg hgt]
          go_wp2_with (rw [← HX.out])
          go_roundw
          case rel =>
            refine ⟨k + 1, by omega, by go_num, (by first | exact fun _ => hd | exact fun _ => trivial), HB3, HS3, HC3, v, ?_, ?_⟩
            · rw [HNW.out]; exact HN3
            · rw [HNW.out]; exact HO3
          case measure => simp [intOf]; omega
    · have hlt' : ¬ (k : Int) < 2 := by omega
      obtain rfl : k = 2 := by omega
      obtain ⟨Y, HY⟩ := named (curR D 2)
      rw [← HY.out] at HCN HO HRR
      obtain ⟨ys, yb, yl⟩ := Y
      simp only at HCN HO HRR
      obtain ⟨g0, c0, c1, c2, f0, f1, f2⟩ := HC.out
      obtain ⟨a2, p2, hv2, -⟩ := id HO.out.rd
      obtain ⟨k2, HK2⟩ := named yl.length
      rw [← HK2.out] at hv2
      subst hv2
      obtain ⟨x0, y0, y1, y2, -⟩ := HCN.out
      have HD : Hid (D.dark = false) := HDA.out (by omega)
      rw [HD.out, if_neg (by simp)] at HRR
      have HOT : Hid _ := C3.other (g' := w.heap.size) (.int .i64 ys) (.int .i64 yb) (.slice a2 k2 p2) HCN.out (by omega)
      have HSX : Hid ((set3 wr w.heap.size (.int .i64 ys) (.int .i64 yb) (.slice a2 k2 p2)).cell? ⟨w.heap.size + 1, 0, none⟩ = some (.int .i64 ys) ∧ (set3 wr w.heap.size (.int .i64 ys) (.int .i64 yb) (.slice a2 k2 p2)).cell? ⟨w.heap.size + 1, 1, none⟩ = some (.int .i64 yb) ∧ (set3 wr w.heap.size (.int .i64 ys) (.int .i64 yb) (.slice a2 k2 p2)).cell? ⟨w.heap.size + 1, 2, none⟩ = some (.slice a2 k2 p2)) := ⟨HOT.out.2.1, HOT.out.2.2.1, HOT.out.2.2.2.1⟩
      by_cases hps : 0 < ys
      · rw [decide_eq_true hps] at HRR
        go_wp2_with fail
        go_region_held3 (fun w' => w'.cell? ⟨w.heap.size + 1, 0, none⟩ = some (.int .i64 ys) ∧ w'.cell? ⟨w.heap.size + 1, 1, none⟩ = some (.int .i64 yb) ∧ w'.cell? ⟨w.heap.size + 1, 2, none⟩ = some (.slice a2 k2 p2)) (first | exact ⟨y0, y1, y2⟩ | exact HSX.out) (fail)
        go_wp2_with fail
        refine bodyPost_ret (v := .tuple #[.agg #[.int .i64 ys, .int .i64 yb, .slice a2 k2 p2], .bool true, .int .i64 0]) (by simp [results, Tryd.results19, go_sem, c0, c1, c2]) rfl ?_
        rw [HRR.out]
        exact ⟨_, rfl, (Own.set3 _ _ _ HO.out (by omega)).mono (by omega), (below_set3 HB.out _ _ _ (Nat.le_refl _)).drew⟩
      · rw [decide_eq_false hps] at HRR
        go_wp2_with fail
        go_region_held3 (fun w' => w'.cell? ⟨w.heap.size + 1, 0, none⟩ = some (.int .i64 ys) ∧ w'.cell? ⟨w.heap.size + 1, 1, none⟩ = some (.int .i64 yb) ∧ w'.cell? ⟨w.heap.size + 1, 2, none⟩ = some (.slice a2 k2 p2)) (first | exact ⟨y0, y1, y2⟩ | exact HSX.out) (fail)
        go_wp2_with fail
        refine bodyPost_ret (v := .tuple #[.agg #[.int .i64 ys, .int .i64 yb, .slice a2 k2 p2], .bool false, .int .i64 0]) (by simp [results, Tryd.results19, go_sem, c0, c1, c2, hps]) rfl ?_
        rw [HRR.out]
        exact ⟨_, rfl, (Own.set3 _ _ _ HO.out (by omega)).mono (by omega), (below_set3 HB.out _ _ _ (Nat.le_refl _)).drew⟩
end Go.Proofs.YtffgbjojngnebaaDoor
