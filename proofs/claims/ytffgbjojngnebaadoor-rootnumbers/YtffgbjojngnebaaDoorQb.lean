/-
  The contracts of sevens, slices.Grow (of nil) and slices.Concat. The contracts of bytes.Uint, Blob, own, fold, Int, unfold, mayStand. The contracts of bytes.GetUint, GetInt. The contracts of bytes.Crc, check, Seal. Own work.
-/
import Derived.Test.YtffgbjojngnebaaDoorRows
import Derived.Test.YtffgbjojngnebaaDoorQa
import Derived.WalkSpells
import Derived.WalkLawsBesides
namespace Go.Proofs.YtffgbjojngnebaaDoor
open Go.RowKit

theorem Tryd.info5 : (Tryd.prog.info? 5).map (fun i => (i.zero, i.size, i.bytes)) = some (some (.int .u8 0), 1, 1) := by kernel_rfl

set_option maxRecDepth 100000 in
set_option maxHeartbeats 400000 in
theorem sevens_any (n : Nat) (hn : n ≤ 18446744073709551615) (w : World) :
    Calls Tryd.prog 72 #[.int .u64 n] w fun e w' => ∃ v, e = .returned v ∧ Own w' w.heap.size v (sev 10 n) ∧ Below w.heap.size w w' := by
  have hmk : ∀ w, (Instr.makeSlice 22 (.int .i64 0) (.int .i64 10)).run Tryd.prog w = .ok (.slice (some ⟨w.heap.size, 0, none⟩) 0 10) (w.alloc (.cells #[.int .u8 0, .int .u8 0, .int .u8 0, .int .u8 0, .int .u8 0, .int .u8 0, .int .u8 0, .int .u8 0, .int .u8 0, .int .u8 0] 5)) := fun _ => by kernel_rfl
  obtain ⟨i0, hi, hz0, hz1, hz2⟩ := info_parts Tryd.info5
  have HN : Hid (n ≤ 18446744073709551615) := hn
  clear hn
  go_enter Tryd.func72, Tryd.ntmps72
  go_wp2
  go_loopw [0, 3, 5] (fun nv cv iv wr => ∃ (k m : Nat) (pre : List UInt8), k ≤ 10 ∧ iv = .int .i64 k ∧ nv = .int .u64 m ∧ m ≤ 18446744073709551615 ∧ pre.length = k ∧ pre ++ sev (10 - k) m = sev 10 n ∧ Own wr w.heap.size cv pre ∧ Below w.heap.size w wr)
    (fun _ _ iv _ => 10 - (intOf iv).toNat)
  case atStart =>
    refine ⟨0, n, [], by omega, rfl, rfl, HN.out, rfl, rfl, ?_, (Below.refl _ _).alloc (Nat.le_refl _) _⟩
    exact World.ownsRow_made w _ 10 (Nat.le_refl _) (by simp [maxLen]) rfl
  case round =>
    obtain ⟨k, m, pre, hk, rfl, rfl, hm, hpl, hpre, hown, hb⟩ := hrel
    have HP : Hid (pre ++ sev (10 - k) m = sev 10 n) := hpre
    clear hpre
    have HM : Hid (m ≤ 18446744073709551615) := hm
    clear hm
    have hsz := hb.size
    clear hmk
    by_cases hlt : k < 10
    · by_cases hs : m < 128
      · have hs' : (m : Int) < 128 := by omega
        obtain ⟨x, HX⟩ : ∃ x : UInt8, Hid (x = UInt8.ofNat m) := ⟨_, rfl⟩
        go_wp2_with (at_builtin; go_must (refine wpList_append_rd _ rfl (.tmp 9) (.tmp 12) 22 rfl i0 Tryd.underlying22 hi hz0 hz1 hz2 w.heap.size _ _ rfl rfl pre [x] (hown.alloc _) (Rd.one _ _ _ _ ?_) ?_ ?_ ?_))
        · rw [HX.out]; simp; omega
        · simp; omega
        · simp; omega
        · intro v' w' hown' hg
          have hb' : Below w.heap.size w w' := (hb.alloc (by omega) _).grown hg (by simp; omega) (fun k hk => (World.ownsRow.lt hown k hk).1)
          clear hg
          go_wp2
          go_ret
          refine ⟨_, rfl, ?_, hb'⟩
          have := HP.out
          rw [show 10 - k = (9 - k) + 1 by omega, sev, if_pos hs, ← HX.out] at this
          rw [← this]
          exact hown'
      · have hs' : ¬ (m : Int) < 128 := by omega
        obtain ⟨x, HX⟩ : ∃ x : UInt8, Hid (x = UInt8.ofNat (m % 128 + 128)) := ⟨_, rfl⟩
        go_wp2_with (at_builtin; go_must (refine wpList_append_rd _ rfl (.tmp 14) (.tmp 18) 22 rfl i0 Tryd.underlying22 hi hz0 hz1 hz2 w.heap.size _ _ rfl rfl pre [x] (hown.alloc _) (Rd.one _ _ _ _ ?_) ?_ ?_ ?_))
        · rw [HX.out]; exact or128 m
        · first | omega | (simp; omega)
        · first | omega | (simp; omega)
        · intro v' w' hown' hg
          have hb' : Below w.heap.size w w' := (hb.alloc (by omega) _).grown hg (by simp; omega) (fun k hk => (World.ownsRow.lt hown k hk).1)
          clear hg
          go_wp2
          go_roundw
          case rel =>
            have := HP.out
            rw [show 10 - k = (9 - k) + 1 by omega, sev, if_neg hs, ← HX.out] at this
            refine ⟨k + 1, m / 128, pre ++ [x], by omega, by go_num, by go_num, by have := HM.out; omega, by simp [hpl], ?_, hown', hb'⟩
            rw [← this, show 10 - (k + 1) = 9 - k by omega]
            simp
          case measure => simp [intOf]; omega
    · go_wp2
      go_ret
      refine ⟨_, rfl, ?_, hb⟩
      have := HP.out
      rw [show 10 - k = 0 by omega, sev, List.append_nil] at this
      rw [← this]
      exact hown
set_option maxRecDepth 100000 in
set_option maxHeartbeats 400000 in
theorem grow_nil (n : Nat) (hn : n ≤ 140737488355328) (w : World) :
    Calls Tryd.prog 81 #[.slice none 0 0, .int .i64 n] w fun e w' => ∃ v, e = .returned v ∧ Own w' w.heap.size v [] ∧ Below w.heap.size w w' := by
  obtain ⟨i0, hi, hz0, hz1, hz2⟩ := info_parts Tryd.info5
  by_cases h0 : n = 0
  · subst h0
    go_enter Tryd.func81, Tryd.ntmps81
    go_wp2
    go_ret
    exact ⟨_, rfl, Own.nil _ _, Below.refl _ _⟩
  · have hp : (0 : Int) < (n : Int) := by omega
    have hrz : ∀ ty, (Builtin.append_ #[22, 3] ty #[.slice none 0 0, .int .i64 (n : Int)]).run Tryd.prog w =
        .ok (.slice (some ⟨w.heap.size, 0, none⟩) n (grownCap w n 0 5)) (w.drew.alloc (.cells (Builtin.zeroCells #[.int .u8 0] n ++ Builtin.zeroCells #[.int .u8 0] (grownCap w n 0 5 - n)) 5)) := fun ty => by
      have h := Lib.run_append_grow_zeros w 22 3 ty 5 i0 (.int .u8 0) .i64 .i64 Tryd.underlying22 Tryd.underlying3 hi hz0 none 0 0 [] (run_firstCells_none w.drew i0.size 0 0 0) n (by omega) (by omega) (by omega) (by omega) (by rw [hz2]; omega)
        (by rw [hz2]; exact growslice_fits (by omega) (by omega))
      simpa [Value.cells] using h
    have hGn : n ≤ grownCap w n 0 5 := grownCap_ge w _ _ _
    have hGm : grownCap w n 0 5 ≤ maxLen := grownCap_le_maxLen w n 0 5 (by unfold maxLen; omega)
    obtain ⟨G, hG⟩ : ∃ G, G = grownCap w n 0 5 := ⟨_, rfl⟩
    rw [← hG] at hrz hGn hGm
    clear hG
    have hG2 : G ≤ 9223372036854775807 := by unfold maxLen at hGm; omega
    have HG : Hid (G ≤ maxLen) := hGm
    clear hGm
    go_enter Tryd.func81, Tryd.ntmps81
    go_wp2_with (at_builtin; refine Lib.wpList_append_run _ rfl _ _ _ _ rfl _ _ rfl rfl _ _ (hrz _) ?_)
    go_ret
    refine ⟨_, rfl, ?_, (Below.refl _ _).drew.alloc (Nat.le_refl _) _⟩
    refine ⟨by simp [BV], .inr ⟨w.heap.size, G, _, rfl, Nat.le_refl _, heap_alloc_new w.drew _, Nat.zero_le _, HG.out, ?_, by simp [BV]⟩⟩
    simp [size_zeroCells]
    omega
set_option maxRecDepth 100000 in
set_option maxHeartbeats 800000 in
theorem concat_any (ps : List (Value × List UInt8)) (b cap : Nat) (w : World) (hcap : ps.length ≤ cap) (hmax : cap ≤ 1000)
    (hcell : ∀ i (h : i < ps.length), w.cell? ⟨b, i, none⟩ = some ps[i].1) (hrd : ∀ i (h : i < ps.length), Rd w ps[i].1 ps[i].2) (hb0 : b < w.heap.size) (htot : (joined ps ps.length).length ≤ 140737488355328) :
    Calls Tryd.prog 45 #[.slice (some ⟨b, 0, none⟩) ps.length cap] w fun e w' => ∃ v, e = .returned v ∧ Own w' w.heap.size v (joined ps ps.length) ∧ Below w.heap.size w w' := by
  obtain ⟨i0, hi, hz0, hz1, hz2⟩ := info_parts Tryd.info5
  obtain ⟨n, hn⟩ : ∃ n, n = ps.length := ⟨_, rfl⟩
  rw [← hn] at hcap htot ⊢
  have HN : Hid (n = ps.length) := hn
  have HC : Hid (∀ i (h : i < ps.length), w.cell? ⟨b, i, none⟩ = some ps[i].1) := hcell
  have HR : Hid (∀ i (h : i < ps.length), Rd w ps[i].1 ps[i].2) := hrd
  clear hn hcell hrd
  go_enter Tryd.func45, Tryd.ntmps45
  go_wp2
  go_loop [3, 11] (fun sv iv => ∃ k : Nat, k ≤ n ∧ iv = .int .i64 k ∧ sv = .int .i64 (joined ps k).length) (fun _ iv => n - (intOf iv).toNat)
  case atStart => exact ⟨0, by omega, rfl, rfl⟩
  case round =>
    obtain ⟨k, hk, rfl, rfl⟩ := hrel
    have hle : (joined ps k).length ≤ (joined ps n).length := by rw [HN.out]; exact joined_le ps k
    obtain ⟨sz, HZ⟩ := named ((joined ps k).length)
    rw [← HZ.out] at hle ⊢
    by_cases hlt : k < n
    · have hkp : k < ps.length := by rw [← HN.out]; exact hlt
      have hj := joined_succ ps k hkp
      have hle2 : (joined ps (k + 1)).length ≤ (joined ps n).length := by rw [HN.out]; exact joined_le ps (k + 1)
      rw [hj, List.length_append, ← HZ.out] at hle2
      have HJ : Hid (joined ps (k + 1) = joined ps k ++ ps[k].2) := hj
      clear hj
      have hc0 := HC.out k hkp
      obtain ⟨ao, c0, hv, h1, h2, h3, h4⟩ := HR.out k hkp
      rw [hv] at hc0
      clear h4 h3 hv
      obtain ⟨m, HM⟩ := named (ps[k].2.length)
      rw [← HM.out] at hle2 hc0 h1
      have hms : (m : Int) + sz ≤ 140737488355328 := by omega
      have hng : ¬ ((sz : Int) + m < 0) := by omega
      go_wp2
      go_round
      case rel => exact ⟨k + 1, by omega, by go_num, by rw [HJ.out, List.length_append, ← HM.out, ← HZ.out]; go_num⟩
      case measure => simp [intOf]; omega
    · have hkn : k = n := by omega
      have HK : Hid (k = n) := hkn
      have hsz : sz ≤ 140737488355328 := by omega
      clear hkn
      go_wp2_with fail
      refine (grow_nil sz hsz _).mono ?_
      rintro e w1 ⟨v1, rfl, hown1, hb1⟩
      go_wp2
      go_loopw [6, 27] (fun nv iv wr => ∃ k : Nat, k ≤ n ∧ iv = .int .i64 k ∧ Own wr w.heap.size nv (joined ps k) ∧ Below w.heap.size w wr) (fun _ iv _ => n - (intOf iv).toNat)
      case atStart => exact ⟨0, by omega, rfl, hown1, hb1⟩
      case round =>
        obtain ⟨j, hj, rfl, hown, hb⟩ := hrel
        have hsz2 := hb.size
        by_cases hlt2 : j < n
        · have hkp : j < ps.length := by rw [← HN.out]; exact hlt2
          have hjo := joined_succ ps j hkp
          have hle2 : (joined ps (j + 1)).length ≤ (joined ps n).length := by rw [HN.out]; exact joined_le ps (j + 1)
          rw [hjo, List.length_append] at hle2
          have HJ : Hid (joined ps (j + 1) = joined ps j ++ ps[j].2) := hjo
          clear hjo
          have hc0 := (hb.cell (p := ⟨b, j, none⟩) hb0).trans (HC.out j hkp)
          have hrd0 := HR.out j hkp
          obtain ⟨ao, c0, hv, h1, h2, h3, h4⟩ := HR.out j hkp
          rw [hv] at hc0 hrd0
          clear h4 h3 hv
          have hrd1 := hrd0.below hb
          clear hrd0
          obtain ⟨q, HQ⟩ := named (ps[j].2)
          obtain ⟨q0, HQ0⟩ := named (joined ps j)
          rw [← HQ.out] at hrd1 hc0 h1 hle2
          rw [← HQ0.out] at hown hle2
          go_wp2_with (at_builtin; go_must (refine wpList_append_rd _ rfl (.tmp 31) (.tmp 32) 22 rfl i0 Tryd.underlying22 hi hz0 hz1 hz2 w.heap.size _ _ rfl rfl q0 q hown hrd1 ?_ ?_ ?_))
          · omega
          · omega
          · intro v' w' hown' hg
            have hb' : Below w.heap.size w w' := hb.grown hg hsz2 (fun k hk => (World.ownsRow.lt hown k hk).1)
            clear hg
            go_wp2
            go_roundw
            case rel => exact ⟨j + 1, by omega, by go_num, by rw [HJ.out, ← HQ.out, ← HQ0.out]; exact hown', hb'⟩
            case measure => simp [intOf]; omega
        · have hjn : j = n := by omega
          subst hjn
          go_wp2
          go_ret
          exact ⟨_, rfl, hown, hb⟩
end Go.Proofs.YtffgbjojngnebaaDoor
namespace Go.Proofs.YtffgbjojngnebaaDoor
open Go.RowKit

theorem sev_len (f n : Nat) : (sev f n).length ≤ f := by
  induction f generalizing n with
  | zero => simp [sev]
  | succ f ih => unfold sev; split <;> simp; exact ih _
theorem U_len (n : Int) : (U n).length ≤ 10 := sev_len 10 _

/-- Concat of one piece, of two, of three, in a new block -/
theorem concat1 (w : World) (v0 : Value) (l0 : List UInt8) (h0 : Rd w v0 l0) (hs : l0.length ≤ 140737488355328) :
    Calls Tryd.prog 45 #[.slice (some ⟨w.heap.size, 0, none⟩) 1 1] (w.alloc (.cells #[v0] 22)) fun e w' => ∃ v, e = .returned v ∧ Own w' w.heap.size v l0 ∧ Below w.heap.size w w' := by
  have h := concat_any [(v0, l0)] w.heap.size 1 (w.alloc (.cells #[v0] 22)) (by simp) (by simp)
    (fun i h => match i, h with | 0, _ => by simp)
    (fun i h => match i, h with | 0, _ => h0.alloc _) (by simp) (by simp [joined]; omega)
  refine h.mono ?_
  rintro e w' ⟨v, rfl, ho, hb⟩
  refine ⟨v, rfl, ?_, ((Below.refl w.heap.size w).alloc (Nat.le_refl _) _).trans (hb.mono (by simp))⟩
  have := ho.mono (base' := w.heap.size) (by simp)
  simpa [joined] using this

theorem concat2 (w : World) (v0 v1 : Value) (l0 l1 : List UInt8) (h0 : Rd w v0 l0) (h1 : Rd w v1 l1) (hs : l0.length + l1.length ≤ 140737488355328) :
    Calls Tryd.prog 45 #[.slice (some ⟨w.heap.size, 0, none⟩) 2 2] (w.alloc (.cells #[v0, v1] 22)) fun e w' => ∃ v, e = .returned v ∧ Own w' w.heap.size v (l0 ++ l1) ∧ Below w.heap.size w w' := by
  have h := concat_any [(v0, l0), (v1, l1)] w.heap.size 2 (w.alloc (.cells #[v0, v1] 22)) (by simp) (by simp)
    (fun i h => match i, h with | 0, _ => by simp | 1, _ => by simp)
    (fun i h => match i, h with | 0, _ => h0.alloc _ | 1, _ => h1.alloc _) (by simp) (by simp [joined]; omega)
  refine h.mono ?_
  rintro e w' ⟨v, rfl, ho, hb⟩
  refine ⟨v, rfl, ?_, ((Below.refl w.heap.size w).alloc (Nat.le_refl _) _).trans (hb.mono (by simp))⟩
  have := ho.mono (base' := w.heap.size) (by simp)
  simpa [joined] using this

theorem concat3 (w : World) (v0 v1 v2 : Value) (l0 l1 l2 : List UInt8) (h0 : Rd w v0 l0) (h1 : Rd w v1 l1) (h2 : Rd w v2 l2) (hs : l0.length + l1.length + l2.length ≤ 140737488355328) :
    Calls Tryd.prog 45 #[.slice (some ⟨w.heap.size, 0, none⟩) 3 3] (w.alloc (.cells #[v0, v1, v2] 22)) fun e w' => ∃ v, e = .returned v ∧ Own w' w.heap.size v (l0 ++ (l1 ++ l2)) ∧ Below w.heap.size w w' := by
  have h := concat_any [(v0, l0), (v1, l1), (v2, l2)] w.heap.size 3 (w.alloc (.cells #[v0, v1, v2] 22)) (by simp) (by simp)
    (fun i h => match i, h with | 0, _ => by simp | 1, _ => by simp | 2, _ => by simp)
    (fun i h => match i, h with | 0, _ => h0.alloc _ | 1, _ => h1.alloc _ | 2, _ => h2.alloc _) (by simp) (by simp [joined]; omega)
  refine h.mono ?_
  rintro e w' ⟨v, rfl, ho, hb⟩
  refine ⟨v, rfl, ?_, ((Below.refl w.heap.size w).alloc (Nat.le_refl _) _).trans (hb.mono (by simp))⟩
  have := ho.mono (base' := w.heap.size) (by simp)
  simpa [joined] using this

set_option maxRecDepth 100000 in
set_option maxHeartbeats 400000 in
theorem uint_any (o : Value) (lo : List UInt8) (n : Int) (w : World) (h0 : 0 ≤ n) (h1 : n ≤ 18446744073709551615) (hrd : Rd w o lo) (hlen : lo.length ≤ 140737488355000) :
    Calls Tryd.prog 36 #[o, .int .u64 n] w fun e w' => ∃ v, e = .returned v ∧ Own w' w.heap.size v (lo ++ U n) ∧ Below w.heap.size w w' := by
  obtain ⟨m, rfl⟩ := Int.eq_ofNat_of_zero_le h0
  have HM : Hid (m ≤ 18446744073709551615) := (by omega : m ≤ 18446744073709551615)
  clear h1
  obtain ⟨ao, cap, hv, -⟩ := id hrd
  subst hv
  have hul := U_len m
  have HU : Hid (U (m : Int) = sev 10 m) := rfl
  obtain ⟨p, HP⟩ := named (U (m : Int))
  rw [← HP.out] at hul ⊢
  go_enter Tryd.func36, Tryd.ntmps36
  go_wp2_with fail
  refine (sevens_any m HM.out _).mono ?_
  rintro e w1 ⟨v1, rfl, hown1, hb1⟩
  rw [← HU.out, ← HP.out] at hown1
  have hrd1 := hrd.below hb1
  have hrd2 := hown1.rd
  obtain ⟨a1, c1, hv1, -⟩ := hown1.rd
  subst hv1
  go_wp2_with fail
  refine (concat2 w1 _ _ lo p hrd1 hrd2 (by omega)).mono ?_
  rintro e w2 ⟨v2, rfl, hown2, hb2⟩
  go_wp2
  go_ret
  exact ⟨_, rfl, hown2.mono hb1.size, hb1.trans (hb2.mono hb1.size)⟩

set_option maxRecDepth 100000 in
set_option maxHeartbeats 400000 in
theorem blob_any (o b : Value) (lo lb : List UInt8) (w : World) (hrd : Rd w o lo) (hrb : Rd w b lb) (hlen : lo.length + lb.length ≤ 140737488355000) :
    Calls Tryd.prog 38 #[o, b] w fun e w' => ∃ v, e = .returned v ∧ Own w' w.heap.size v (lo ++ (U lb.length ++ lb)) ∧ Below w.heap.size w w' := by
  obtain ⟨ao, cap, hv, -⟩ := id hrd
  subst hv
  obtain ⟨ab, capb, hv, -⟩ := id hrb
  subst hv
  have hul := U_len lb.length
  have HU : Hid (U (lb.length : Int) = sev 10 lb.length) := rfl
  obtain ⟨p, HP⟩ := named (U (lb.length : Int))
  rw [← HP.out] at hul ⊢
  have hlb : lb.length ≤ 140737488355000 := by omega
  go_enter Tryd.func38, Tryd.ntmps38
  go_wp2_with fail
  refine (sevens_any lb.length (by omega) _).mono ?_
  rintro e w1 ⟨v1, rfl, hown1, hb1⟩
  rw [← HU.out, ← HP.out] at hown1
  have hrd1 := hrd.below hb1
  have hrd3 := hrb.below hb1
  have hrd2 := hown1.rd
  obtain ⟨a1, c1, hv1, -⟩ := hown1.rd
  subst hv1
  go_wp2_with fail
  refine (concat3 w1 _ _ _ lo p lb hrd1 hrd2 hrd3 (by omega)).mono ?_
  rintro e w2 ⟨v2, rfl, hown2, hb2⟩
  go_wp2
  go_ret
  exact ⟨_, rfl, hown2.mono hb1.size, hb1.trans (hb2.mono hb1.size)⟩

set_option maxRecDepth 100000 in
set_option maxHeartbeats 400000 in
theorem own_any (b : Value) (lb : List UInt8) (w : World) (hrb : Rd w b lb) (hlen : lb.length ≤ 140737488355000) :
    Calls Tryd.prog 91 #[b] w fun e w' => ∃ v, e = .returned v ∧ Own w' w.heap.size v lb ∧ Below w.heap.size w w' := by
  obtain ⟨ao, cap, hv, -⟩ := id hrb
  subst hv
  go_enter Tryd.func91, Tryd.ntmps91
  go_wp2_with fail
  refine (concat1 w _ lb hrb (by omega)).mono ?_
  rintro e w2 ⟨v2, rfl, hown2, hb2⟩
  go_wp2
  go_ret
  exact ⟨_, rfl, hown2, hb2⟩

set_option maxRecDepth 100000 in
set_option maxHeartbeats 400000 in
theorem mayStand_any (x i : Int) (w : World) :
    Calls Tryd.prog 92 #[.int .u8 x, .int .i64 i] w fun e w' => e = .returned (.bool (mayB x i)) ∧ w' = w := by
  go_enter Tryd.func92, Tryd.ntmps92
  go_wp2
  all_goals go_ret
  all_goals refine ⟨ret_bool ?_, rfl⟩
  all_goals simp [mayB, *]

end Go.Proofs.YtffgbjojngnebaaDoor
namespace Go.Proofs.YtffgbjojngnebaaDoor
open Go.RowKit

set_option maxRecDepth 100000 in
set_option maxHeartbeats 800000 in
theorem getUint_in (v : Value) (l : List UInt8) (p : Nat) (w : World) (hrd : Rd w v l) (hp : p ≤ l.length) (hl : l.length ≤ 140737488355328) :
    Calls Tryd.prog 77 #[v, .int .i64 p] w fun e w' => e = .returned (.tuple #[.int .u64 (rdU p 0 0 (l.drop p)).1, .int .i64 (rdU p 0 0 (l.drop p)).2.1, .int .i64 (rdU p 0 0 (l.drop p)).2.2]) ∧ w = w' := by
  rcases hrd.cases with ⟨rfl, ao, cap, rfl, h1, h2⟩ | ⟨b, off, cap, rfl, h1, h2, h3, h4, h5⟩
  · have hp0 : p = 0 := by simp at hp; exact hp
    subst hp0
    clear h1 h2 hrd
    go_enter Tryd.func77, Tryd.ntmps77
    go_wp2
    refine wp_loop_rounds 1 ?_
    rw [rounds_succ]
    go_wp2
    go_ret3
    exact ⟨rfl, rfl⟩
  · have HC : Hid _ := h5
    obtain ⟨n, HN⟩ := named l.length
    rw [← HN.out] at hp hl h1 h2 ⊢
    obtain ⟨R, HR⟩ := named (rdU p 0 0 (l.drop p))
    rw [← HR.out]
    clear h5 hrd
    unfold maxLen at h3
    have hp' : ¬ ((n : Int) < p) := by omega
    obtain ⟨lim, hl10, hpl, hor⟩ : ∃ lim : Nat, lim ≤ 10 ∧ p + lim ≤ n ∧ (10 ≤ lim ∨ n ≤ p + lim ∧ n < p + 10) := by
      by_cases hm : 10 ≤ n - p
      · exact ⟨10, by omega, by omega, by omega⟩
      · exact ⟨n - p, by omega, by omega, by omega⟩
    have HOR : Hid (10 ≤ lim ∨ n ≤ p + lim) := by
      rcases hor with h | h
      · exact .inl h
      · exact .inr h.1
    rcases hor with hor | hor
    rotate_left
    obtain ⟨hor, hor2⟩ := hor
    rotate_left
    all_goals
      first | have hm' : (10 : Int) ≤ (n : Int) - p := by omega
            | have hm' : ¬ ((10 : Int) ≤ (n : Int) - p) := by omega
      go_enter Tryd.func77, Tryd.ntmps77
      go_wp2
      go_loop [7, 23] (fun nv iv => ∃ k acc : Nat, k ≤ lim ∧ iv = .int .i64 k ∧ nv = .int .u64 acc ∧ acc < 2 ^ (7 * k) ∧ rdU p k acc (l.drop (p + k)) = R) (fun _ iv => 10 - (intOf iv).toNat)
      case atStart => exact ⟨0, 0, by omega, rfl, rfl, by decide, HR.out.symm⟩
      case round =>
        obtain ⟨k, acc, hk, rfl, rfl, hacc, hrest⟩ := hrel
        have HA : Hid _ := hacc
        have HS : Hid _ := hrest
        clear hacc hrest
        by_cases hlt : k < lim
        · have hkl : p + k < l.length := by rw [← HN.out]; omega
          have hc := HC.out (p + k) hkl
          have hst := HS.out
          rw [drop_at l (p + k) hkl, rdU_cons _ _ _ _ _ (by omega)] at hst
          obtain ⟨x, HX⟩ := named (l[p + k]'hkl)
          rw [← HX.out] at hc hst
          have HT : Hid _ := hst
          have hx8 : x.toNat < 256 := x.toNat_lt
          clear hst
          go_wp2_with fail
          refine (mayStand_any _ _ _).mono ?_
          rintro e w1 ⟨rfl, hw1⟩
          subst hw1
          cases hmay : mayB x.toNat k with
          | false => 
            have hf := HT.out
            rw [if_pos hmay] at hf
            have HF : Hid _ := hf
            clear hf
            go_wp2
            go_ret3
            exact ⟨by rw [← HF.out]; rfl, rfl⟩
          | true =>
            have hf := HT.out
            rw [if_neg (by rw [hmay]; simp)] at hf
            have HF : Hid _ := hf
            have HV : Hid _ := acc_step acc k x (by omega) HA.out (mayB_nine _ _ hmay)
            have HL : Hid _ := acc_lt acc k x.toNat HA.out
            clear hf
            by_cases hx : x.toNat < 128
            · have hf := HF.out
              rw [if_pos hx] at hf
              have HF2 : Hid _ := hf
              clear hf
              have hx' : (x.toNat : Int) < 128 := by omega
              go_wp2
              go_ret3
              exact ⟨by rw [← HF2.out]; exact ret3 HV.out (by simp) rfl, rfl⟩
            · have hf := HF.out
              rw [if_neg hx] at hf
              have HF2 : Hid _ := hf
              clear hf
              have hx' : ¬ (x.toNat : Int) < 128 := by omega
              go_wp2
              go_round
              case rel => exact ⟨k + 1, _, by omega, by go_num, congrArg (Value.int .u64) HV.out, HL.out, HF2.out⟩
              case measure => simp [intOf]; omega
        · have hend : rdU p k acc (l.drop (p + k)) = (0, 0, 11) := rdU_end _ _ _ _ (by
            rcases HOR.out with h | h
            · left; omega
            · right; apply List.drop_eq_nil_of_le; rw [← HN.out]; omega)
          rw [HS.out] at hend
          have HE : Hid _ := hend
          clear hend
          go_wp2
          go_ret3
          exact ⟨by rw [HE.out]; rfl, rfl⟩

theorem rdU_lt (p i acc : Nat) (l : List UInt8) (hi : i ≤ 10) (h : acc < 2 ^ (7 * i)) : (rdU p i acc l).1 < 18446744073709551616 := by
  induction l generalizing i acc with
  | nil => simp [rdU]
  | cons x t ih =>
    by_cases h10 : i = 10
    · rw [rdU, if_pos h10]; simp
    · rw [rdU_cons _ _ _ _ _ (by omega)]
      cases hm : mayB x.toNat i with
      | false => simp
      | true =>
        rw [if_neg (by simp)]
        split
        · have e := acc_step acc i x (by omega) h (mayB_nine _ _ hm)
          have : ((acc + x.toNat % 128 * 2 ^ (7 * i) : Nat) : Int) < 18446744073709551616 := by
            rw [← e]
            show IntKind.u64.wrap _ < _
            rw [wrap_u64]
            omega
          simp only
          omega
        · exact ih _ _ (by omega) (acc_lt _ _ _ h)
theorem getU_lt (l : List UInt8) (p : Int) : (getU l p).1 < 18446744073709551616 := by
  unfold getU
  split
  · simp
  · exact rdU_lt _ _ _ _ (by omega) (by simp)

set_option maxRecDepth 100000 in
set_option maxHeartbeats 800000 in
theorem getUint_any (v : Value) (l : List UInt8) (p : Int) (w : World) (hrd : Rd w v l) (hl : l.length ≤ 140737488355328) :
    Calls Tryd.prog 77 #[v, .int .i64 p] w fun e w' => e = .returned (.tuple #[.int .u64 (getU l p).1, .int .i64 (getU l p).2.1, .int .i64 (getU l p).2.2]) ∧ w = w' := by
  by_cases hb : p < 0 ∨ (l.length : Int) < p
  · have e : getU l p = (0, 0, 2) := by unfold getU; rw [if_pos hb]
    rw [e]
    obtain ⟨ao, cap, rfl, -⟩ := hrd
    by_cases h0 : p < 0
    · go_enter Tryd.func77, Tryd.ntmps77
      go_wp2
      go_ret3
      exact ⟨rfl, rfl⟩
    · have h1 : (l.length : Int) < p := by omega
      clear hb
      go_enter Tryd.func77, Tryd.ntmps77
      go_wp2
      go_ret3
      exact ⟨rfl, rfl⟩
  · have e : getU l p = rdU p.toNat 0 0 (l.drop p.toNat) := by unfold getU; rw [if_neg hb]
    rw [e]
    obtain ⟨q, rfl⟩ := Int.eq_ofNat_of_zero_le (a := p) (by omega)
    rw [show ((q : Nat) : Int).toNat = q from by omega]
    exact getUint_in v l q w hrd (by omega) hl

end Go.Proofs.YtffgbjojngnebaaDoor
namespace Go.Proofs.YtffgbjojngnebaaDoor
open Go.RowKit

set_option maxRecDepth 100000 in
set_option maxHeartbeats 800000 in
theorem crc_any (v : Value) (l : List UInt8) (w : World) (hrd : Rd w v l) :
    Calls Tryd.prog 99 #[v] w fun e w' => e = .returned (.int .u32 (crc l).toNat) ∧ w = w' := by
  rcases hrd.cases with ⟨rfl, ao, cap, rfl, h1, h2⟩ | ⟨b, off, cap, rfl, h1, h2, h3, h4, h5⟩
  · clear h1 h2 hrd
    have HE : Hid (bits .xor .u32 IntKind.u32.max 4294967295 = ((crc []).toNat : Int)) := crc_not (BitVec.allOnes 32)
    obtain ⟨R, HR⟩ := named (crc [])
    rw [← HR.out] at HE ⊢
    go_enter Tryd.func99, Tryd.ntmps99
    go_wp2
    refine wp_loop_rounds 1 ?_
    rw [rounds_succ]
    go_wp2
    go_ret
    exact ⟨ret_int HE.out, rfl⟩
  · have HC : Hid _ := h5
    obtain ⟨n, HN⟩ := named l.length
    rw [← HN.out] at h1 h2 ⊢
    unfold maxLen at h3
    have HRR : Hid (crc l = ~~~ crcReg (BitVec.allOnes 32) l) := rfl
    obtain ⟨R, HR⟩ := named (crc l)
    rw [← HR.out] at HRR ⊢
    clear h5 hrd
    go_enter Tryd.func99, Tryd.ntmps99
    go_wp2
    go_loop [3, 8] (fun rv iv => ∃ (k : Nat) (r : BitVec 32), k ≤ n ∧ iv = .int .i64 k ∧ rv = .int .u32 r.toNat ∧ r = crcReg (BitVec.allOnes 32) (l.take k)) (fun _ iv => n - (intOf iv).toNat)
    case atStart => exact ⟨0, BitVec.allOnes 32, by omega, rfl, rfl, rfl⟩
    case round =>
      obtain ⟨k, r, hk, rfl, rfl, hr⟩ := hrel
      have HK : Hid _ := hr
      clear hr
      by_cases hlt : k < n
      · have hkl : k < l.length := by rw [← HN.out]; omega
        have hc := HC.out k hkl
        have hsn : crcReg (BitVec.allOnes 32) (l.take (k + 1)) = crcByte r l[k] := by
          rw [List.take_succ_eq_append_getElem hkl, crcReg_snoc, ← HK.out]
        obtain ⟨x, HX⟩ := named (l[k]'hkl)
        rw [← HX.out] at hc hsn
        have HS : Hid _ := hsn
        have HI : Hid _ := crc_in r x
        clear hsn
        go_wp2
        rw [HI.out]
        have HB : Hid (crcByte r x = crcBits 8 (r ^^^ BitVec.ofNat 32 x.toNat)) := rfl
        obtain ⟨r0, H0⟩ := named (r ^^^ BitVec.ofNat 32 x.toNat)
        rw [← H0.out] at HB ⊢
        go_loop [3, 16] (fun rv iv => ∃ (j : Nat) (r : BitVec 32), j ≤ 8 ∧ iv = .int .i64 j ∧ rv = .int .u32 r.toNat ∧ crcBits (8 - j) r = crcBits 8 r0) (fun _ iv => 8 - (intOf iv).toNat)
        case atStart => exact ⟨0, r0, by omega, rfl, rfl, rfl⟩
        case round =>
          obtain ⟨j, r2, hj, rfl, rfl, hr2⟩ := hrel
          have HJ : Hid _ := hr2
          clear hr2
          by_cases hlt2 : j < 8
          · have HT : Hid _ := crc_bit r2
            go_wp2
            go_round
            case rel =>
              refine ⟨j + 1, crcBit r2, by omega, by go_num, congrArg (Value.int .u32) HT.out, ?_⟩
              rw [← HJ.out, show 8 - j = (8 - (j + 1)) + 1 by omega, crcBits]
            case measure => simp [intOf]; omega
          · go_wp2
            go_round
            case rel =>
              refine ⟨k + 1, r2, by omega, by go_num, rfl, ?_⟩
              rw [HS.out, HB.out, ← HJ.out, show 8 - j = 0 by omega, crcBits]
            case measure => simp [intOf]; omega
      · have HT : Hid _ := crc_not r
        have hfin : crcReg (BitVec.allOnes 32) l = r := by
          rw [HK.out, List.take_of_length_le (by rw [← HN.out]; omega)]
        have HF : Hid _ := hfin
        clear hfin
        go_wp2
        go_ret
        exact ⟨ret_int (by rw [HRR.out, HF.out]; exact HT.out), rfl⟩
end Go.Proofs.YtffgbjojngnebaaDoor
