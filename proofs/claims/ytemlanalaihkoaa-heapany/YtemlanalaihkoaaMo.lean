/-
  The contracts of slices.Grow (of nil), slices.Concat (of one row), slices.SortFunc (by order), All. Own work.
-/
import Derived.Test.YtemlanalaihkoaaMn
import Derived.Test.YtemlanalaihkoaaSh
namespace Go.Proofs.Ytemlanalaihkoaa
open Go.RowKit Go.Sort

theorem cellsF_L (f : Nat → Tm) (n : Nat) : cellsF f n = cellsL ((List.range n).map f) := by simp [cellsF, cellsL, List.flatMap_map]

set_option maxRecDepth 100000 in
set_option maxHeartbeats 1600000 in
theorem grow_nil (n : Nat) (hn : n ≤ 65536) (w : World) :
    Calls Try.prog 44 #[.slice none 0 0, .int .i64 n] w fun e w' => ∃ v, e = .returned v ∧ OwnT w' w.heap.size v [] ∧ Below w.heap.size w w' := by
  obtain ⟨i0, hi, hz0, hz1, hz2⟩ := info_parts Try.info30
  by_cases h0 : n = 0
  · subst h0
    go_enter Try.func44, Try.ntmps44
    go_wp2
    go_ret
    exact ⟨_, rfl, OwnT.nil _ _, Below.refl _ _⟩
  · have hp : (0 : Int) < (n : Int) := by omega
    have hrz : ∀ ty, (Builtin.append_ #[38, 3] ty #[.slice none 0 0, .int .i64 (n : Int)]).run Try.prog w =
        .ok (.slice (some ⟨w.heap.size, 0, none⟩) n (grownCap w n 0 30)) (w.drew.alloc (.cells (Builtin.zeroCells #[.int .i64 0, .int .i64 0] n ++ Builtin.zeroCells #[.int .i64 0, .int .i64 0] (grownCap w n 0 30 - n)) 30)) := fun ty => by
      have h := Lib.run_append_grow_zeros w 38 3 ty 30 i0 (.agg #[.int .i64 0, .int .i64 0]) .i64 .i64 Try.underlying38 Try.underlying3 hi hz0 none 0 0 [] (run_firstCells_none w.drew i0.size 0 0 0) n (by omega) (by omega) (by omega) (by omega) (by rw [hz2]; omega)
        (by rw [hz2]; exact growslice_fits (by omega) (by omega))
      simpa [Value.cells] using h
    have hGn : n ≤ grownCap w n 0 30 := grownCap_ge w _ _ _
    have hGm : grownCap w n 0 30 ≤ maxLen := grownCap_le_maxLen w n 0 30 (by unfold maxLen; omega)
    obtain ⟨G, hG⟩ : ∃ G, G = grownCap w n 0 30 := ⟨_, rfl⟩
    rw [← hG] at hrz hGn hGm
    clear hG
    have hG2 : G ≤ 9223372036854775807 := by unfold maxLen at hGm; omega
    have HG : Hid (G ≤ maxLen) := hGm
    clear hGm
    go_enter Try.func44, Try.ntmps44
    go_wp2_with (at_builtin; refine Lib.wpList_append_run _ rfl _ _ _ _ rfl _ _ rfl rfl _ _ (hrz _) ?_)
    go_ret
    refine ⟨_, rfl, ?_, (Below.refl _ _).drew.alloc (Nat.le_refl _) _⟩
    refine ⟨by simp [cellsL], .inr ⟨w.heap.size, G, _, rfl, Nat.le_refl _, heap_new w.drew _, Nat.zero_le _, HG.out, ?_, by simp [cellsL]⟩⟩
    simp [size_zeroCells]
    omega

/-- a whole row is laid behind them -/
theorem OwnT.appendRow {w : World} {base : Nat} {v u : Value} {l : List Tm} {n : Nat} {f : Nat → Tm} (h : OwnT w base v l) (hu : Tr w u n f) (hl : l.length + n ≤ 1000000) (hb : base ≤ w.heap.size) (ty : TypeId) :
    ∃ v' w', (Builtin.append_ #[38, 38] ty #[v, u]).run Try.prog w = .ok v' w' ∧ OwnT w' base v' (l ++ (List.range n).map f) ∧ w.grownBy w' v.ownBlock := by
  obtain ⟨i0, hinf, hz0, hz1, hz2⟩ := info_parts Try.info30
  rcases hu with ⟨rfl, rfl⟩ | ⟨g, cap, cur, rfl, hg, h1, h2, h3, h4⟩
  · exact ⟨v, w, run_append_owned_none (P := Try.prog) (w := w) base 38 ty 30 i0 2 Try.underlying38 hinf v l.length (cellsL l) h, by simpa using h, World.grownBy.refl _ _⟩
  · obtain ⟨v', w', hr, ho, hg', hblk⟩ := run_append_own' (P := Try.prog) w base 38 ty 30 i0 (.agg #[.int .i64 0, .int .i64 0]) 2 16 Try.underlying38 hinf hz0 hz1 hz2 rfl (by decide) v l.length (cellsL l) h
      ⟨g, 0, none⟩ n cap (cellsL ((List.range n).map f)) (by rw [cellsL_len]; simp) (fun j u hj => by
        have e : (⟨g, 0, none⟩ : Addr).add j = ⟨g, j, none⟩ := by unfold Addr.add; split <;> simp_all
        have hjl := (List.getElem?_eq_some_iff.1 hj).1
        rw [cellsL_len, List.length_map, List.length_range] at hjl
        rw [← cellsF_L] at hj
        rw [e, cell_of hg]
        rcases Nat.mod_two_eq_zero_or_one j with e2 | e2
        · have e3 : j = j / 2 * 2 := by omega
          rw [e3] at hj ⊢
          rw [(cellsF_get f n (j / 2) (by omega)).1] at hj
          rw [(h4 (j / 2) (by omega)).1, hj]
        · have e3 : j = j / 2 * 2 + 1 := by omega
          rw [e3] at hj ⊢
          rw [(cellsF_get f n (j / 2) (by omega)).2] at hj
          rw [(h4 (j / 2) (by omega)).2, hj]) (cellsL_one _) (by unfold maxLen; omega) (by omega) hb
    refine ⟨v', w', hr, ?_, hg'⟩
    unfold OwnT
    rw [cellsL_append, List.length_append, List.length_map, List.length_range]
    exact ho

set_option maxRecDepth 100000 in
set_option maxHeartbeats 3200000 in
theorem concat_one {w : World} {b n : Nat} {tv : Value} {f : Nat → Tm} (hc : w.cell? ⟨b, 0, none⟩ = some tv) (ht : Tr w tv n f) (hn : n ≤ 65536) :
    Calls Try.prog 36 #[.slice (some ⟨b, 0, none⟩) 1 1] w fun e w' => ∃ v, e = .returned v ∧ OwnT w' w.heap.size v ((List.range n).map f) ∧ Below w.heap.size w w' := by
  have kg := grow_nil n hn w
  have HT := hide ht
  have HC := hide hc
  obtain ⟨ao, cap, htv, -⟩ := ht.shape
  rw [htv] at hc
  have hblt := World.block_lt_of_cell? w _ hc
  clear ht
  go_enter Try.func36, Try.ntmps36
  go_wp2
  go_loop [3, 11] (fun sz i => ∃ k : Nat, k ≤ 1 ∧ i = .int .i64 k ∧ sz = .int .i64 (if k = 0 then 0 else (n : Int))) (fun _ i => 1 - (intOf i).toNat)
  case atStart => exact ⟨0, by omega, rfl, rfl⟩
  case round =>
    obtain ⟨k, hk, rfl, rfl⟩ := hrel
    rcases (show k = 0 ∨ k = 1 by omega) with rfl | rfl
    · rw [if_pos rfl]
      go_wp2
      go_round
      case rel => exact ⟨1, by omega, rfl, by simp⟩
      case measure => simp [intOf]
    · rw [if_neg (by omega)]
      go_wp2_with fail
      (with_reducible refine Calls.mono kg ?_)
      clear kg
      rintro e w1 ⟨v0, rfl, ho0, hb1⟩
      have HO0 := hide ho0
      have HB1 := hide hb1
      have hc1 : w1.cell? ⟨b, 0, none⟩ = some (.slice ao n cap) := by rw [hb1.cell hblt]; exact hc
      have HT1 := hide (HT.out.heap fun a ha => hb1.block a (HT.out.lt a ha))
      clear ho0 hb1 hc
      go_wp2_with fail
      go_loopw [6, 27] (fun nv i wr => ∃ k : Nat, k ≤ 1 ∧ i = .int .i64 k ∧ Hid (k = 0 → nv = v0 ∧ wr = w1) ∧ Hid (k = 1 → OwnT wr w.heap.size nv ((List.range n).map f) ∧ Below w.heap.size w wr)) (fun _ i _ => 1 - (intOf i).toNat)
      case atStart => exact ⟨0, by omega, rfl, fun _ => ⟨rfl, rfl⟩, fun h => by omega⟩
      case round =>
        obtain ⟨k, hk, rfl, H0, H1⟩ := hrel
        rcases (show k = 0 ∨ k = 1 by omega) with rfl | rfl
        · obtain ⟨rfl, rfl⟩ := H0.out rfl
          obtain ⟨v', w2, hr, ho, hg⟩ := HO0.out.appendRow HT1.out (by simp; omega) (HB1.out.size) 38
          rw [List.nil_append] at ho
          have HEND : Hid (OwnT w2 w.heap.size v' ((List.range n).map f) ∧ Below w.heap.size w w2) := ⟨ho, HB1.out.trans ((Below.refl _ _).grown hg HB1.out.size fun k hk => (HO0.out.lt k hk).1)⟩
          rw [htv] at hr
          have HHR := hide hr
          clear ho hg hr
          go_wp2_with (at_builtin; refine Lib.wpList_append_run _ rfl _ _ _ _ rfl _ _ rfl rfl _ _ HHR.out ?_)
          go_roundw
          case rel => exact ⟨1, by omega, rfl, fun h => by omega, fun _ => HEND.out⟩
          case measure => simp [intOf]
        · have HEND := hide (H1.out rfl)
          clear H0 H1 HO0
          go_wp2_with fail
          go_ret
          exact ⟨_, rfl, HEND.out.1, HEND.out.2⟩
end Go.Proofs.Ytemlanalaihkoaa
