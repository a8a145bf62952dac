/-
  The contracts of sevens, slices.Grow (of nil) and slices.Concat. Own work.
-/
import Derived.Test.YtpiiehenmkinaaaDoorRows
import Derived.Test.YtpiiehenmkinaaaDoorSpec
import Derived.WalkSpells
import Derived.WalkLawsBesides
namespace Go.Proofs.YtpiiehenmkinaaaDoor
open Go.RowKit

theorem Tryd.info5 : (Tryd.prog.info? 5).map (fun i => (i.zero, i.size, i.bytes)) = some (some (.int .u8 0), 1, 1) := by kernel_rfl

set_option maxRecDepth 100000 in
set_option maxHeartbeats 400000 in
theorem sevens_any (n : Nat) (hn : n ≤ 18446744073709551615) (w : World) :
    Calls Tryd.prog 68 #[.int .u64 n] w fun e w' => ∃ v, e = .returned v ∧ Own w' w.heap.size v (sev 10 n) ∧ Below w.heap.size w w' := by
  have hmk : ∀ w, (Instr.makeSlice 25 (.int .i64 0) (.int .i64 10)).run Tryd.prog w = .ok (.slice (some ⟨w.heap.size, 0, none⟩) 0 10) (w.alloc (.cells #[.int .u8 0, .int .u8 0, .int .u8 0, .int .u8 0, .int .u8 0, .int .u8 0, .int .u8 0, .int .u8 0, .int .u8 0, .int .u8 0] 5)) := fun _ => by kernel_rfl
  obtain ⟨i0, hi, hz0, hz1, hz2⟩ := info_parts Tryd.info5
  have HN : Hid (n ≤ 18446744073709551615) := hn
  clear hn
  go_enter Tryd.func68, Tryd.ntmps68
  go_wp2
  go_loopw [0, 3, 5] (fun nv cv iv wr => ∃ (k m : Nat) (pre : List UInt8), k ≤ 10 ∧ iv = .int .i64 k ∧ nv = .int .u64 m ∧ m ≤ 18446744073709551615 ∧ pre.length = k ∧ pre ++ sev (10 - k) m = sev 10 n ∧ Own wr w.heap.size cv pre ∧ Below w.heap.size w wr)
    (fun _ _ iv _ => 10 - (intOf iv).toNat)
  case atStart =>
    refine ⟨0, n, [], by omega, rfl, rfl, HN.out, rfl, rfl, ?_, (Below.refl _ _).alloc (Nat.le_refl _) _⟩
    exact World.ownsRow_made w _ 10 (Nat.le_refl _) (by simp [maxLen]) rfl
  case round =>
    obtain ⟨k, m, pre, hk, rfl, rfl, hm, hpl, hpre, hown, hb⟩ := hrel
    have HP : Hid (pre ++ sev (10 - k) m = sev 10 n) := hpre
    clear hpre
    have HM : Hid (m ≤ 18446744073709551615) := hm
    clear hm
    have hsz := hb.size
    clear hmk
    by_cases hlt : k < 10
    · by_cases hs : m < 128
      · have hs' : (m : Int) < 128 := by omega
        obtain ⟨x, HX⟩ : ∃ x : UInt8, Hid (x = UInt8.ofNat m) := ⟨_, rfl⟩
        go_wp2_with (at_builtin; go_must (refine wpList_append_rd _ rfl (.tmp 9) (.tmp 12) 25 rfl i0 Tryd.underlying25 hi hz0 hz1 hz2 w.heap.size _ _ rfl rfl pre [x] (hown.alloc _) (Rd.one _ _ _ _ ?_) ?_ ?_ ?_))
        · rw [HX.out]; simp; omega
        · simp; omega
        · simp; omega
        · intro v' w' hown' hg
          have hb' : Below w.heap.size w w' := (hb.alloc (by omega) _).grown hg (by simp; omega) (fun k hk => (World.ownsRow.lt hown k hk).1)
          clear hg
          go_wp2
          go_ret
          refine ⟨_, rfl, ?_, hb'⟩
          have := HP.out
          rw [show 10 - k = (9 - k) + 1 by omega, sev, if_pos hs, ← HX.out] at this
          rw [← this]
          exact hown'
      · have hs' : ¬ (m : Int) < 128 := by omega
        obtain ⟨x, HX⟩ : ∃ x : UInt8, Hid (x = UInt8.ofNat (m % 128 + 128)) := ⟨_, rfl⟩
        go_wp2_with (at_builtin; go_must (refine wpList_append_rd _ rfl (.tmp 14) (.tmp 18) 25 rfl i0 Tryd.underlying25 hi hz0 hz1 hz2 w.heap.size _ _ rfl rfl pre [x] (hown.alloc _) (Rd.one _ _ _ _ ?_) ?_ ?_ ?_))
        · rw [HX.out]; exact or128 m
        · first | omega | (simp; omega)
        · first | omega | (simp; omega)
        · intro v' w' hown' hg
          have hb' : Below w.heap.size w w' := (hb.alloc (by omega) _).grown hg (by simp; omega) (fun k hk => (World.ownsRow.lt hown k hk).1)
          clear hg
          go_wp2
          go_roundw
          case rel =>
            have := HP.out
            rw [show 10 - k = (9 - k) + 1 by omega, sev, if_neg hs, ← HX.out] at this
            refine ⟨k + 1, m / 128, pre ++ [x], by omega, by go_num, by go_num, by have := HM.out; omega, by simp [hpl], ?_, hown', hb'⟩
            rw [← this, show 10 - (k + 1) = 9 - k by omega]
            simp
          case measure => simp [intOf]; omega
    · go_wp2
      go_ret
      refine ⟨_, rfl, ?_, hb⟩
      have := HP.out
      rw [show 10 - k = 0 by omega, sev, List.append_nil] at this
      rw [← this]
      exact hown
set_option maxRecDepth 100000 in
set_option maxHeartbeats 400000 in
theorem grow_nil (n : Nat) (hn : n ≤ 140737488355328) (w : World) :
    Calls Tryd.prog 50 #[.slice none 0 0, .int .i64 n] w fun e w' => ∃ v, e = .returned v ∧ Own w' w.heap.size v [] ∧ Below w.heap.size w w' := by
  obtain ⟨i0, hi, hz0, hz1, hz2⟩ := info_parts Tryd.info5
  by_cases h0 : n = 0
  · subst h0
    go_enter Tryd.func50, Tryd.ntmps50
    go_wp2
    go_ret
    exact ⟨_, rfl, Own.nil _ _, Below.refl _ _⟩
  · have hp : (0 : Int) < (n : Int) := by omega
    have hrz : ∀ ty, (Builtin.append_ #[25, 3] ty #[.slice none 0 0, .int .i64 (n : Int)]).run Tryd.prog w =
        .ok (.slice (some ⟨w.heap.size, 0, none⟩) n (grownCap w n 0 5)) (w.drew.alloc (.cells (Builtin.zeroCells #[.int .u8 0] n ++ Builtin.zeroCells #[.int .u8 0] (grownCap w n 0 5 - n)) 5)) := fun ty => by
      have h := Lib.run_append_grow_zeros w 25 3 ty 5 i0 (.int .u8 0) .i64 .i64 Tryd.underlying25 Tryd.underlying3 hi hz0 none 0 0 [] (run_firstCells_none w.drew i0.size 0 0 0) n (by omega) (by omega) (by omega) (by omega) (by rw [hz2]; omega)
        (by rw [hz2]; exact growslice_fits (by omega) (by omega))
      simpa [Value.cells] using h
    have hGn : n ≤ grownCap w n 0 5 := grownCap_ge w _ _ _
    have hGm : grownCap w n 0 5 ≤ maxLen := grownCap_le_maxLen w n 0 5 (by unfold maxLen; omega)
    obtain ⟨G, hG⟩ : ∃ G, G = grownCap w n 0 5 := ⟨_, rfl⟩
    rw [← hG] at hrz hGn hGm
    clear hG
    have hG2 : G ≤ 9223372036854775807 := by unfold maxLen at hGm; omega
    have HG : Hid (G ≤ maxLen) := hGm
    clear hGm
    go_enter Tryd.func50, Tryd.ntmps50
    go_wp2_with (at_builtin; refine Lib.wpList_append_run _ rfl _ _ _ _ rfl _ _ rfl rfl _ _ (hrz _) ?_)
    go_ret
    refine ⟨_, rfl, ?_, (Below.refl _ _).drew.alloc (Nat.le_refl _) _⟩
    refine ⟨by simp [BV], .inr ⟨w.heap.size, G, _, rfl, Nat.le_refl _, heap_alloc_new w.drew _, Nat.zero_le _, HG.out, ?_, by simp [BV]⟩⟩
    simp [size_zeroCells]
    omega
set_option maxRecDepth 100000 in
set_option maxHeartbeats 800000 in
theorem concat_any (ps : List (Value × List UInt8)) (b cap : Nat) (w : World) (hcap : ps.length ≤ cap) (hmax : cap ≤ 1000)
    (hcell : ∀ i (h : i < ps.length), w.cell? ⟨b, i, none⟩ = some ps[i].1) (hrd : ∀ i (h : i < ps.length), Rd w ps[i].1 ps[i].2) (hb0 : b < w.heap.size) (htot : (joined ps ps.length).length ≤ 140737488355328) :
    Calls Tryd.prog 27 #[.slice (some ⟨b, 0, none⟩) ps.length cap] w fun e w' => ∃ v, e = .returned v ∧ Own w' w.heap.size v (joined ps ps.length) ∧ Below w.heap.size w w' := by
  obtain ⟨i0, hi, hz0, hz1, hz2⟩ := info_parts Tryd.info5
  obtain ⟨n, hn⟩ : ∃ n, n = ps.length := ⟨_, rfl⟩
  rw [← hn] at hcap htot ⊢
  have HN : Hid (n = ps.length) := hn
  have HC : Hid (∀ i (h : i < ps.length), w.cell? ⟨b, i, none⟩ = some ps[i].1) := hcell
  have HR : Hid (∀ i (h : i < ps.length), Rd w ps[i].1 ps[i].2) := hrd
  clear hn hcell hrd
  go_enter Tryd.func27, Tryd.ntmps27
  go_wp2
  go_loop [3, 11] (fun sv iv => ∃ k : Nat, k ≤ n ∧ iv = .int .i64 k ∧ sv = .int .i64 (joined ps k).length) (fun _ iv => n - (intOf iv).toNat)
  case atStart => exact ⟨0, by omega, rfl, rfl⟩
  case round =>
    obtain ⟨k, hk, rfl, rfl⟩ := hrel
    have hle : (joined ps k).length ≤ (joined ps n).length := by rw [HN.out]; exact joined_le ps k
    obtain ⟨sz, HZ⟩ := named ((joined ps k).length)
    rw [← HZ.out] at hle ⊢
    by_cases hlt : k < n
    · have hkp : k < ps.length := by rw [← HN.out]; exact hlt
      have hj := joined_succ ps k hkp
      have hle2 : (joined ps (k + 1)).length ≤ (joined ps n).length := by rw [HN.out]; exact joined_le ps (k + 1)
      rw [hj, List.length_append, ← HZ.out] at hle2
      have HJ : Hid (joined ps (k + 1) = joined ps k ++ ps[k].2) := hj
      clear hj
      have hc0 := HC.out k hkp
      obtain ⟨ao, c0, hv, h1, h2, h3, h4⟩ := HR.out k hkp
      rw [hv] at hc0
      clear h4 h3 hv
      obtain ⟨m, HM⟩ := named (ps[k].2.length)
      rw [← HM.out] at hle2 hc0 h1
      have hms : (m : Int) + sz ≤ 140737488355328 := by omega
      have hng : ¬ ((sz : Int) + m < 0) := by omega
      go_wp2
      go_round
      case rel => exact ⟨k + 1, by omega, by go_num, by rw [HJ.out, List.length_append, ← HM.out, ← HZ.out]; go_num⟩
      case measure => simp [intOf]; omega
    · have hkn : k = n := by omega
      have HK : Hid (k = n) := hkn
      have hsz : sz ≤ 140737488355328 := by omega
      clear hkn
      go_wp2_with fail
      refine (grow_nil sz hsz _).mono ?_
      rintro e w1 ⟨v1, rfl, hown1, hb1⟩
      go_wp2
      go_loopw [6, 27] (fun nv iv wr => ∃ k : Nat, k ≤ n ∧ iv = .int .i64 k ∧ Own wr w.heap.size nv (joined ps k) ∧ Below w.heap.size w wr) (fun _ iv _ => n - (intOf iv).toNat)
      case atStart => exact ⟨0, by omega, rfl, hown1, hb1⟩
      case round =>
        obtain ⟨j, hj, rfl, hown, hb⟩ := hrel
        have hsz2 := hb.size
        by_cases hlt2 : j < n
        · have hkp : j < ps.length := by rw [← HN.out]; exact hlt2
          have hjo := joined_succ ps j hkp
          have hle2 : (joined ps (j + 1)).length ≤ (joined ps n).length := by rw [HN.out]; exact joined_le ps (j + 1)
          rw [hjo, List.length_append] at hle2
          have HJ : Hid (joined ps (j + 1) = joined ps j ++ ps[j].2) := hjo
          clear hjo
          have hc0 := (hb.cell (p := ⟨b, j, none⟩) hb0).trans (HC.out j hkp)
          have hrd0 := HR.out j hkp
          obtain ⟨ao, c0, hv, h1, h2, h3, h4⟩ := HR.out j hkp
          rw [hv] at hc0 hrd0
          clear h4 h3 hv
          have hrd1 := hrd0.below hb
          clear hrd0
          obtain ⟨q, HQ⟩ := named (ps[j].2)
          obtain ⟨q0, HQ0⟩ := named (joined ps j)
          rw [← HQ.out] at hrd1 hc0 h1 hle2
          rw [← HQ0.out] at hown hle2
          go_wp2_with (at_builtin; go_must (refine wpList_append_rd _ rfl (.tmp 31) (.tmp 32) 25 rfl i0 Tryd.underlying25 hi hz0 hz1 hz2 w.heap.size _ _ rfl rfl q0 q hown hrd1 ?_ ?_ ?_))
          · omega
          · omega
          · intro v' w' hown' hg
            have hb' : Below w.heap.size w w' := hb.grown hg hsz2 (fun k hk => (World.ownsRow.lt hown k hk).1)
            clear hg
            go_wp2
            go_roundw
            case rel => exact ⟨j + 1, by omega, by go_num, by rw [HJ.out, ← HQ.out, ← HQ0.out]; exact hown', hb'⟩
            case measure => simp [intOf]; omega
        · have hjn : j = n := by omega
          subst hjn
          go_wp2
          go_ret
          exact ⟨_, rfl, hown, hb⟩
end Go.Proofs.YtpiiehenmkinaaaDoor
