/-
  The contracts of SameTexts, recs. Own work.
-/
import Derived.Test.YtomhkjacngmnhaaGreatDoorQu
import Derived.Lib.ConvBytes
import Derived.Deep.QuietTactic
import Derived.BigQuiet
namespace Go.Proofs.YtomhkjacngmnhaaGreatDoor
open Go.RowKit

/-- a slice that reads as these texts -/
def RdT (w : World) (v : Value) (us : List ByteArray) : Prop := RdV w v (us.map .string)
theorem RdT.below {w w' : World} {v : Value} {us : List ByteArray} (h : RdT w v us) (hb : Below w.heap.size w w') : RdT w' v us := RdV.below h hb

set_option maxRecDepth 100000 in
set_option maxHeartbeats 800000 in
theorem sameTexts_any (u v : Value) (us vs : List ByteArray) (w : World) (hu : RdT w u us) (hv : RdT w v vs) : Calls Tryz.prog 25 #[u, v] w fun e w' => e = .returned (.bool (decide (us = vs))) ∧ Below w.heap.size w w' := by
  obtain ⟨ao, cap, hu0, h1, h2, -⟩ := id hu
  obtain ⟨bo, cbp, hv0, h3, h4, -⟩ := id hv
  rw [List.length_map] at hu0 h1 hv0 h3
  obtain ⟨n, HN⟩ := named us.length
  obtain ⟨m, HM⟩ := named vs.length
  rw [← HN.out] at hu0 h1
  rw [← HM.out] at hv0 h3
  subst hu0 hv0
  have HU : Hid _ := hu
  have HV : Hid _ := hv
  unfold maxLen at h2 h4
  clear hu hv
  go_enter Tryz.func25, Tryz.ntmps25
  go_wp2
  go_loopw [8] (fun iv wr => ∃ k : Nat, k ≤ n ∧ k ≤ m ∧ iv = .int .i64 k ∧ Hid (us.take k = vs.take k) ∧ Hid (Below w.heap.size w wr)) (fun iv _ => n - (intOf iv).toNat)
  case atStart => exact ⟨0, by omega, by omega, rfl, (by show _ = _; simp), Below.refl _ _⟩
  case round =>
    obtain ⟨k, hk, hkm, rfl, HT, HB⟩ := hrel
    by_cases hlt : k < n
    · have hlt' : (k : Int) < n := by omega
      have hkl : k < us.length := by rw [← HN.out]; exact hlt
      obtain ⟨b0, o0, c0, hv0, -, -, hb0, hcs⟩ := HU.out.cells (by rw [List.length_map]; omega)
      rw [List.length_map, ← HN.out] at hv0
      cases hv0
      have hck := (HB.out.cell (p := ⟨b0, o0 + k, none⟩) hb0).trans (hcs k (by rw [List.length_map]; exact hkl))
      rw [List.getElem_map] at hck
      by_cases hm : k = m
      · have hmm : ((k : Int) == m) = true := by simp only [beq_iff_eq]; omega
        have HF : Hid (decide (us = vs) = false) := by
          show _ = _
          rw [decide_eq_false_iff_not]
          intro e
          rw [HM.out, ← e, ← HN.out] at hm
          omega
        clear hm hcs hck
        go_wp2_with fail
        go_quiet (fail)
        go_wp2_with fail
        go_ret
        exact ⟨by rw [HF.out]; rfl, HB.out.trans (below_drewN wr _ _)⟩
      · have hmm : ((k : Int) == m) = false := by simp only [beq_eq_false_iff_ne]; omega
        have hlm : k < vs.length := by rw [← HM.out]; omega
        obtain ⟨b1, o1, c1, hv1, -, -, hb1, hcs1⟩ := HV.out.cells (by rw [List.length_map]; omega)
        rw [List.length_map, ← HM.out] at hv1
        cases hv1
        have hck1 := (HB.out.cell (p := ⟨b1, o1 + k, none⟩) hb1).trans (hcs1 k (by rw [List.length_map]; exact hlm))
        rw [List.getElem_map] at hck1
        have hi0 : (0 : Int) ≤ (k : Int) := by omega
        have hi1 : (k : Int) < (m : Int) := by omega
        have HT0 : Hid (us.take (k + 1) = us.take k ++ [us[k]]) := List.take_succ_eq_append_getElem hkl
        have HT1 : Hid (vs.take (k + 1) = vs.take k ++ [vs[k]]) := List.take_succ_eq_append_getElem hlm
        obtain ⟨x, HX⟩ := named (us[k]'hkl)
        obtain ⟨y, HY⟩ := named (vs[k]'hlm)
        rw [← HX.out] at hck HT0
        rw [← HY.out] at hck1 HT1
        clear hcs hcs1
        by_cases hxy : x = y
        · subst hxy
          have hq := str_eq x
          go_wp2_with fail
          go_quiet (fail)
          go_wp2_with fail
          go_roundw
          case rel => exact ⟨k + 1, by omega, by omega, by go_num, (by show _ = _; rw [HT0.out, HT1.out, HT.out]), HB.out.trans (below_drewN wr _ _)⟩
          case measure => simp [intOf]; omega
        · have hq := str_ne hxy
          have HF : Hid (decide (us = vs) = false) := by
            show _ = _
            rw [decide_eq_false_iff_not]
            rintro rfl
            exact hxy (HX.out.trans HY.out.symm)
          go_wp2_with fail
          go_quiet (fail)
          go_wp2_with fail
          go_ret
          exact ⟨by rw [HF.out]; rfl, HB.out.trans (below_drewN wr _ _)⟩
    · have hlt' : ¬ (k : Int) < n := by omega
      have HK : Hid (k = n) := by show k = n; omega
      by_cases hnm : n = m
      · have hqq : ((n : Int) == m) = true := by simp only [beq_iff_eq]; omega
        have HF : Hid (decide (us = vs) = true) := by
          show _ = _
          rw [decide_eq_true_iff]
          have := HT.out
          rw [HK.out, List.take_of_length_le (by rw [← HN.out]; exact Nat.le_refl _), List.take_of_length_le (by rw [← HM.out]; omega)] at this
          exact this
        go_wp2
        go_ret
        exact ⟨by rw [HF.out]; rfl, HB.out⟩
      · have hqq : ((n : Int) == m) = false := by simp only [beq_eq_false_iff_ne]; omega
        have HF : Hid (decide (us = vs) = false) := by
          show _ = _
          rw [decide_eq_false_iff_not]
          rintro rfl
          rw [HN.out, HM.out] at hnm
          exact hnm rfl
        go_wp2
        go_ret
        exact ⟨by rw [HF.out]; rfl, HB.out⟩

/-- bytes in a block that was made since base -/
def NewB (w : World) (base : Nat) (v : Value) (l : List UInt8) : Prop := ∃ g c C x, v = .slice (some ⟨g, 0, none⟩) l.length c ∧ w.heap[g]? = some (.cells C 5 x) ∧ (∀ i (h : i < l.length), C[i]? = some (.int .u8 (l[i].toNat : Int))) ∧ base ≤ g ∧ l.length ≤ c ∧ c ≤ maxLen
theorem NewB.rd {w : World} {base : Nat} {v : Value} {l : List UInt8} (h : NewB w base v l) : Rd w v l := by
  obtain ⟨g, c, C, x, rfl, h1, h2, h3, h4, h5⟩ := h
  refine ⟨_, c, rfl, h4, h5, by simp, fun a ha i hi => ?_⟩
  obtain rfl := Option.some.inj ha
  rw [show ((⟨g, 0, none⟩ : Addr).add i) = ⟨g, i, none⟩ by unfold Addr.add; split <;> simp_all, cell_of h1]
  exact h2 i hi
theorem NewB.below {w w' : World} {base : Nat} {v : Value} {l : List UInt8} (h : NewB w base v l) (hb : Below w.heap.size w w') : NewB w' base v l := by
  obtain ⟨g, c, C, x, rfl, h1, h2, h3, h4, h5⟩ := h
  exact ⟨g, c, C, x, rfl, by rw [hb.block g (lt_of_heap h1)]; exact h1, h2, h3, h4, h5⟩
theorem NewB.mono {w : World} {base base' : Nat} {v : Value} {l : List UInt8} (h : NewB w base v l) (hb : base' ≤ base) : NewB w base' v l := by
  obtain ⟨g, c, C, x, rfl, h1, h2, h3, h4, h5⟩ := h
  exact ⟨g, c, C, x, rfl, h1, h2, by omega, h4, h5⟩
theorem NewB.kept {w w' : World} {base b2 : Nat} {v ov : Value} {l : List UInt8} {vs : List Value} {o : Obj} (h : NewB w base v l) (ho : OwnV w b2 37 ov vs) (hg : (w.alloc o).grownBy w' ov.ownBlock) : NewB w' base v l := by
  obtain ⟨g, c, C, x, rfl, h1, h2, h3, h4, h5⟩ := h
  have hlt := lt_of_heap h1
  refine ⟨g, c, C, x, rfl, ?_, h2, h3, h4, h5⟩
  rw [hg.block g (by simp; omega) (fun e => ?_), Below.heap_alloc _ _ _ hlt]
  · exact h1
  · obtain ⟨c2, hc2⟩ := ho.elem e.symm
    rw [h1] at hc2
    cases hc2
theorem new_conv (w : World) (s : ByteArray) (hs : s.size ≤ 1000) : NewB (Lib.bytesWorld w 5 s) w.heap.size (.slice (some ⟨w.heap.size, 0, none⟩) s.size (grownCap w s.size 0 5)) s.data.toList := by
  have hm : (1000 : Nat) ≤ maxLen := by simp [maxLen]
  have hl : s.data.toList.length = s.size := by rw [Array.length_toList]; rfl
  refine ⟨w.heap.size, grownCap w s.size 0 5, _, _, by rw [hl], Lib.bytesWorld_at_new w 5 s, fun i hi => ?_, Nat.le_refl _, by rw [hl]; exact grownCap_ge _ _ _ _, grownCap_le_maxLen _ _ _ _ (by omega)⟩
  have hi' : i < s.size := by rw [← hl]; exact hi
  simp [Lib.bytesCells, Array.getElem?_append, hi']
set_option maxRecDepth 100000 in
set_option maxHeartbeats 800000 in
theorem recs_any (u : Value) (us : List ByteArray) (w : World) (hu : RdT w u us) (hn : us.length ≤ 1000) (hs : ∀ x ∈ us, x.size ≤ 1000) : Calls Tryz.prog 17 #[u] w fun e w' => ∃ v ps, e = .returned v ∧ RdL w' v ps ∧ ps.map Prod.snd = us.map (fun x => x.data.toList) ∧ OwnV w' w.heap.size 37 v (ps.map Prod.fst) ∧ (∀ i (h : i < ps.length), NewB w' w.heap.size ps[i].1 ps[i].2) ∧ Below w.heap.size w w' := by
  obtain ⟨ao, cap, hu0, h1, h2, -⟩ := id hu
  rw [List.length_map] at hu0 h1
  obtain ⟨n, HN⟩ := named us.length
  rw [← HN.out] at hu0 h1
  subst hu0
  have HU : Hid _ := hu
  unfold maxLen at h2
  clear hu
  obtain ⟨i0, hi, hz0, hz1, hz2⟩ := info_parts Tryz.info37
  go_enter Tryz.func17, Tryz.ntmps17
  go_wp2
  go_loopw [3, 4] (fun ov iv wr => ∃ (k : Nat) (ps : List (Value × List UInt8)), k ≤ n ∧ iv = .int .i64 k ∧ Hid (OwnV wr w.heap.size 37 ov (ps.map Prod.fst)) ∧ Hid (∀ i (h : i < ps.length), NewB wr w.heap.size ps[i].1 ps[i].2) ∧ Hid (ps.map Prod.snd = (us.take k).map (fun x => x.data.toList)) ∧ Hid (Below w.heap.size w wr)) (fun _ iv _ => n - (intOf iv).toNat)
  case atStart => exact ⟨0, [], by omega, rfl, OwnV.nil _ _ _, (by intro i h; simp at h), (by show _ = _; simp), Below.refl _ _⟩
  case round =>
    obtain ⟨k, ps, hk, rfl, HO, HR, HP, HB⟩ := hrel
    by_cases hlt : k < n
    · have hlt' : (k : Int) < n := by omega
      have hkl : k < us.length := by rw [← HN.out]; exact hlt
      obtain ⟨b0, o0, c0, hv0, -, -, hb0, hcs⟩ := HU.out.cells (by rw [List.length_map]; omega)
      rw [List.length_map, ← HN.out] at hv0
      cases hv0
      have hck := (HB.out.cell (p := ⟨b0, o0 + k, none⟩) hb0).trans (hcs k (by rw [List.length_map]; exact hkl))
      rw [List.getElem_map] at hck
      have HT0 : Hid (us.take (k + 1) = us.take k ++ [us[k]]) := List.take_succ_eq_append_getElem hkl
      have hsx := hs _ (List.getElem_mem hkl)
      have hpl : ps.length = k := by
        have := congrArg List.length HP.out
        rw [List.length_map, List.length_map, List.length_take] at this
        omega
      obtain ⟨x, HX⟩ := named (us[k]'hkl)
      rw [← HX.out] at hck HT0 hsx
      have hconv := Lib.run_convert_string_bytes (P := Tryz.prog) wr 9 37 5 x Tryz.underlying9 Tryz.underlying37 Tryz.underlying5
      have hox := new_conv wr x (by omega)
      have hbx := below_bytesWorld wr x
      obtain ⟨cx, HCX⟩ := named (grownCap wr x.size 0 5)
      obtain ⟨w2, HW2⟩ := named (Lib.bytesWorld wr 5 x)
      rw [← HCX.out, ← HW2.out] at hconv
      rw [← HCX.out, ← HW2.out] at hox
      rw [← HW2.out] at hbx
      obtain ⟨nx, HNX⟩ := named x.size
      rw [← HNX.out] at hconv hox
      have hB2 : Below w.heap.size w w2 := below_call HB.out hbx
      have hs2 := hB2.size
      have hsr := HB.out.size
      obtain ⟨ov', w3, hr3, ho3, hg3⟩ := run_append_v (P := Tryz.prog) (w2.alloc (.cells #[.slice (some ⟨wr.heap.size, 0, none⟩) nx cx] 37)) 41 41 37 i0 (.slice none 0 0) 24 Tryz.underlying41 hi hz0 hz1 hz2 rfl (by omega) w.heap.size u3 (.slice (some ⟨wr.heap.size, 0, none⟩) nx cx) ⟨w2.heap.size, 0, none⟩ 1 (ps.map Prod.fst) rfl (by simp) ((OwnV.below HO.out hbx).alloc _) (by rw [List.length_map]; omega) (by simp; omega)
      have HB3 : Hid (Below w.heap.size w w3) := (hB2.alloc hs2 _).grown hg3 (by simp; omega) (fun k hk => (World.ownsRow.lt HO.out k hk).1)
      have HKE : Hid (∀ u l, NewB w2 w.heap.size u l → NewB w3 w.heap.size u l) := fun u l hu => hu.kept (OwnV.below HO.out hbx) hg3
      have HO3 : Hid _ := ho3
      have HOX : Hid _ := hox
      have HBX : Hid _ := hbx
      clear ho3 hg3 hB2 hbx hox hcs
      go_wp2_with (at_builtin; refine Lib.wpList_append_run _ rfl (.tmp 11) (.tmp 17) 41 41 rfl _ _ rfl rfl _ _ hr3 ?_)
      go_roundw
      case rel =>
        refine ⟨k + 1, ps ++ [(.slice (some ⟨wr.heap.size, 0, none⟩) nx cx, x.data.toList)], by omega, by go_num, ?_, ?_, ?_, HB3⟩
        · show OwnV _ _ _ _ _
          rw [List.map_append]
          exact HO3.out
        · intro i hi2
          by_cases hiq : i < ps.length
          · rw [List.getElem_append_left hiq]
            exact HKE.out _ _ (NewB.below (HR.out i hiq) HBX.out)
          · have : i = ps.length := by simp at hi2; omega
            subst this
            rw [List.getElem_append_right (by omega)]
            simpa using HKE.out _ _ (NewB.mono HOX.out hsr)
        · show _ = _
          rw [List.map_append, HP.out, HT0.out, List.map_append]
          rfl
      case measure => simp [intOf]; omega
    · have hlt' : ¬ (k : Int) < n := by omega
      have HK : Hid (us.take k = us) := by
        show _ = _
        rw [List.take_of_length_le]
        rw [← HN.out]
        omega
      rw [HK.out] at HP
      go_wp2
      go_ret
      exact ⟨_, rfl, ps, ⟨OwnV.rd HO.out, fun i h => NewB.rd (HR.out i h)⟩, HP.out, HO.out, HR.out, HB.out⟩
end Go.Proofs.YtomhkjacngmnhaaGreatDoor
