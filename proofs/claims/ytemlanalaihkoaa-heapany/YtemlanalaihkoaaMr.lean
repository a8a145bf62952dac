/-
  t, SameTimers. Own work.
-/
import Derived.Test.YtemlanalaihkoaaMq
namespace Go.Proofs.Ytemlanalaihkoaa
open Go.RowKit Go.Sort

set_option maxRecDepth 100000 in
set_option maxHeartbeats 800000 in
theorem t_any (a b : Int) (w : World) : Calls Try.prog 13 #[.int .i64 a, .int .i64 b] w fun e w' => e = .returned (.agg #[.int .i64 a, .int .i64 b]) ∧ Below w.heap.size w w' := by
  obtain ⟨W, HW⟩ := named (w.alloc (.cells #[.int .i64 0, .int .i64 0] 30))
  have hB : Below w.heap.size w W := by rw [HW.out]; exact (Below.refl _ _).alloc (Nat.le_refl _) _
  have hC := C2.new w (.int .i64 0) (.int .i64 0) 30
  rw [← HW.out] at hC
  obtain ⟨-, r0, r1, r2, r3⟩ := hC
  have HB := hide hB
  clear hB
  go_enter Try.func13, Try.ntmps13
  go_wp2_with (rw [← HW.out])
  go_wp2_with fail
  refine bodyPost_ret (v := .agg #[.int .i64 a, .int .i64 b]) (by simp [results, Try.results13, go_sem, r0, r1]) rfl ⟨rfl, ?_⟩
  exact (HB.out.setCell (p := ⟨w.heap.size, 0, none⟩) (Nat.le_refl _) _).setCell (p := ⟨w.heap.size, 1, none⟩) (Nat.le_refl _) _

/-- a slice that reads as these timers -/
def RdT (w : World) (v : Value) (l : List Tm) : Prop :=
  ∃ ao cap, v = .slice ao l.length cap ∧ l.length ≤ cap ∧ cap ≤ maxLen ∧ (ao = none → cap = 0) ∧ ∀ k (h : k < l.length), ∃ b off, ao = some ⟨b, off, none⟩ ∧ w.cell? ⟨b, off + k * 2, none⟩ = some (.int .i64 l[k].1) ∧ w.cell? ⟨b, off + k * 2 + 1, none⟩ = some (.int .i64 l[k].2)
theorem OwnT.rd {w : World} {base : Nat} {v : Value} {l : List Tm} (h : OwnT w base v l) : RdT w v l := by
  rcases h.2 with ⟨rfl, e⟩ | ⟨g, cap, cur, rfl, _, hg, h2, h3, h4, h5⟩
  · exact ⟨none, 0, by rw [e], by omega, by simp [maxLen], fun _ => rfl, fun k h => by omega⟩
  · refine ⟨_, _, rfl, h2, h3, (by simp), fun k hk => ⟨g, 0, rfl, ?_⟩⟩
    obtain ⟨a, b⟩ := cellsL_get l k hk
    rw [← h5, List.getElem?_take, if_pos (by omega), Array.getElem?_toList] at a b
    rw [Nat.zero_add, cell_of hg, cell_of hg]
    exact ⟨a, b⟩
theorem RdT.below {w w' : World} {v : Value} {l : List Tm} (h : RdT w v l) (hb : Below w.heap.size w w') : RdT w' v l := by
  obtain ⟨ao, cap, hv, h1, h2, h3, h4⟩ := h
  refine ⟨ao, cap, hv, h1, h2, h3, fun k hk => ?_⟩
  obtain ⟨b, off, e, c0, c1⟩ := h4 k hk
  exact ⟨b, off, e, by rw [hb.cell (World.block_lt_of_cell? w _ c0)]; exact c0, by rw [hb.cell (World.block_lt_of_cell? w _ c1)]; exact c1⟩
theorem RdT.nil (w : World) : RdT w (.slice none 0 0) [] := ⟨none, 0, rfl, Nat.le_refl _, by simp [maxLen], fun _ => rfl, fun k h => by simp at h⟩
theorem RdT.shape {w : World} {v : Value} {l : List Tm} (h : RdT w v l) : ∃ ao cap, v = .slice ao l.length cap := by
  obtain ⟨ao, cap, hv, _⟩ := h
  exact ⟨ao, cap, hv⟩
theorem RdT.at {w : World} {ao : Option Addr} {n cap : Nat} {l : List Tm} (h : RdT w (.slice ao n cap) l) (k : Nat) (hk : k < l.length) : ∃ b off, ao = some ⟨b, off, none⟩ ∧ w.cell? ⟨b, off + k * 2, none⟩ = some (.int .i64 l[k].1) ∧ w.cell? ⟨b, off + k * 2 + 1, none⟩ = some (.int .i64 l[k].2) := by
  obtain ⟨ao', cap', hv, h1, h2, h3, h4⟩ := h
  cases hv
  exact h4 k hk

set_option maxRecDepth 100000 in
set_option maxHeartbeats 1600000 in
theorem same_any {w : World} {u v : Value} {l m : List Tm} (hu : RdT w u l) (hv : RdT w v m) (hl : l.length ≤ 1000000) :
    Calls Try.prog 20 #[u, v] w fun e w' => e = .returned (.bool (decide (l = m))) ∧ Below w.heap.size w w' := by
  obtain ⟨ao, cap, rfl⟩ := hu.shape
  obtain ⟨bo, dap, rfl⟩ := hv.shape
  have HU := hide hu
  have HV := hide hv
  clear hu hv
  by_cases hlen : l.length = m.length
  · obtain ⟨n, HN⟩ := named l.length
    have HM : Hid (m.length = n) := by rw [HN.out]; exact hlen.symm
    rw [← HN.out] at HU
    rw [HM.out] at HV
    rw [HM.out, ← HN.out]
    have hn : n ≤ 1000000 := by rw [HN.out]; exact hl
    obtain ⟨R, HR⟩ := named (decide (l = m))
    rw [← HR.out]
    clear hlen hl
    go_enter Try.func20, Try.ntmps20
    go_wp2
    go_loopw [5] (fun i wr => ∃ k : Nat, k ≤ n ∧ i = .int .i64 k ∧ Hid (l.take k = m.take k) ∧ Hid (Below w.heap.size w wr)) (fun i _ => n - (intOf i).toNat)
    case atStart => exact ⟨0, Nat.zero_le _, rfl, by show _ = _; simp, Below.refl _ _⟩
    case round =>
      obtain ⟨k, hk, rfl, HT, HB⟩ := hrel
      by_cases hlt : k < n
      · obtain ⟨b, off, hab, a0, a1⟩ := (HU.out.below HB.out).at k (by rw [← HN.out]; exact hlt)
        obtain ⟨b', off', hab', b0, b1⟩ := (HV.out.below HB.out).at k (by rw [HM.out]; exact hlt)
        subst hab
        subst hab'
        have hkI : (k : Int) < (n : Int) := by omega
        obtain ⟨x0, HX0⟩ := named (l[k]'(by rw [← HN.out]; exact hlt)).1
        obtain ⟨x1, HX1⟩ := named (l[k]'(by rw [← HN.out]; exact hlt)).2
        obtain ⟨y0, HY0⟩ := named (m[k]'(by rw [HM.out]; exact hlt)).1
        obtain ⟨y1, HY1⟩ := named (m[k]'(by rw [HM.out]; exact hlt)).2
        simp only [← HX0.out, ← HX1.out, ← HY0.out, ← HY1.out] at a0 a1 b0 b1
        by_cases he : x0 = y0 ∧ x1 = y1
        · obtain ⟨rfl, rfl⟩ := he
          have hs : wr.drew.cell? ⟨b, off + k * 2, none⟩ = some (.int .i64 x0) ∧ wr.drew.cell? ⟨b, off + k * 2 + 1, none⟩ = some (.int .i64 x1) ∧ wr.drew.cell? ⟨b', off' + k * 2, none⟩ = some (.int .i64 x0) ∧ wr.drew.cell? ⟨b', off' + k * 2 + 1, none⟩ = some (.int .i64 x1) := ⟨a0, a1, b0, b1⟩
          have HT1 : Hid (l.take (k + 1) = m.take (k + 1)) := by
            show _ = _
            rw [List.take_succ_eq_append_getElem (by rw [← HN.out]; exact hlt), List.take_succ_eq_append_getElem (by rw [HM.out]; exact hlt), HT.out]
            congr 2
            exact Prod.ext (by rw [← HX0.out, ← HY0.out]) (by rw [← HX1.out, ← HY1.out])
          go_wp2_with fail
          go_region_held3 (fun w' => w'.cell? ⟨b, off + k * 2, none⟩ = some (.int .i64 x0) ∧ w'.cell? ⟨b, off + k * 2 + 1, none⟩ = some (.int .i64 x1) ∧ w'.cell? ⟨b', off' + k * 2, none⟩ = some (.int .i64 x0) ∧ w'.cell? ⟨b', off' + k * 2 + 1, none⟩ = some (.int .i64 x1)) (assumption) (fail)
          go_wp2_with fail
          go_roundw
          case rel => exact ⟨k + 1, hlt, by go_num, HT1, HB.out.drew⟩
          case measure => simp [intOf]; omega
        · have hs : wr.drew.cell? ⟨b, off + k * 2, none⟩ = some (.int .i64 x0) ∧ wr.drew.cell? ⟨b, off + k * 2 + 1, none⟩ = some (.int .i64 x1) ∧ wr.drew.cell? ⟨b', off' + k * 2, none⟩ = some (.int .i64 y0) ∧ wr.drew.cell? ⟨b', off' + k * 2 + 1, none⟩ = some (.int .i64 y1) := ⟨a0, a1, b0, b1⟩
          have HF : Hid (R = false) := by
            show R = false
            rw [HR.out, decide_eq_false_iff_not]
            rintro rfl
            exact he ⟨by rw [HX0.out, HY0.out], by rw [HX1.out, HY1.out]⟩
          by_cases h0 : x0 = y0
          · have h1 : ¬ x1 = y1 := fun h' => he ⟨h0, h'⟩
            subst h0
            clear he
            go_wp2_with fail
            go_region_held3 (fun w' => w'.cell? ⟨b, off + k * 2, none⟩ = some (.int .i64 x0) ∧ w'.cell? ⟨b, off + k * 2 + 1, none⟩ = some (.int .i64 x1) ∧ w'.cell? ⟨b', off' + k * 2, none⟩ = some (.int .i64 x0) ∧ w'.cell? ⟨b', off' + k * 2 + 1, none⟩ = some (.int .i64 y1)) (assumption) (fail)
            go_wp2_with fail
            go_ret
            exact ⟨by rw [HF.out]; rfl, HB.out.drew⟩
          · clear he
            go_wp2_with fail
            go_region_held3 (fun w' => w'.cell? ⟨b, off + k * 2, none⟩ = some (.int .i64 x0) ∧ w'.cell? ⟨b, off + k * 2 + 1, none⟩ = some (.int .i64 x1) ∧ w'.cell? ⟨b', off' + k * 2, none⟩ = some (.int .i64 y0) ∧ w'.cell? ⟨b', off' + k * 2 + 1, none⟩ = some (.int .i64 y1)) (assumption) (fail)
            go_wp2_with fail
            go_ret
            exact ⟨by rw [HF.out]; rfl, HB.out.drew⟩
      · have hkn : k = n := by omega
        have HTr : Hid (R = true) := by
          show R = true
          rw [HR.out, decide_eq_true_eq]
          have h1 := HT.out
          rw [List.take_of_length_le (by rw [← HN.out]; omega), List.take_of_length_le (by rw [HM.out]; omega)] at h1
          exact h1
        have hkI : ¬ (k : Int) < (n : Int) := by omega
        clear hkn
        go_wp2_with fail
        go_ret
        exact ⟨by rw [HTr.out]; rfl, HB.out⟩
  · have hne : decide (l = m) = false := by
      rw [decide_eq_false_iff_not]
      rintro rfl
      exact hlen rfl
    rw [hne]
    obtain ⟨n, HN⟩ := named l.length
    obtain ⟨n', HN'⟩ := named m.length
    rw [← HN.out, ← HN'.out] at hlen ⊢
    have hI : ¬ (n : Int) = (n' : Int) := by omega
    go_enter Try.func20, Try.ntmps20
    go_wp2
    go_ret
    exact ⟨rfl, Below.refl _ _⟩
end Go.Proofs.Ytemlanalaihkoaa
