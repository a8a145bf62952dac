/-
  The contract of CopyBytes with its capacity; noughts behind bytes of one's own. Own work.
-/
import Derived.Test.YtffgbjojngnebaaDoorQg
namespace Go.Proofs.YtffgbjojngnebaaDoor
open Go.RowKit

set_option maxRecDepth 100000 in
set_option maxHeartbeats 800000 in
theorem copyBytes_cap (v : Value) (l : List UInt8) (w : World) (hrd : Rd w v l) (hl : l.length ≤ 140737488355000) :
    Calls Tryd.prog 12 #[v] w fun e w' => e = .returned (.slice (some ⟨w.heap.size, 0, none⟩) l.length l.length) ∧ Own w' w.heap.size (.slice (some ⟨w.heap.size, 0, none⟩) l.length l.length) l ∧ Below w.heap.size w w' := by
  obtain ⟨i0, hi, hz0, hz1, hz2⟩ := info_parts Tryd.info5
  obtain ⟨ao, cap, hv, h1, h2, h3, h4⟩ := id hrd
  subst hv
  obtain ⟨n, HN⟩ := named l.length
  rw [← HN.out] at hl h1 ⊢
  rw [← HN.out] at hrd
  have HRD : Hid _ := hrd
  clear hrd h3 h4
  go_enter Tryd.func12, Tryd.ntmps12
  go_wp2_with (at_make; go_must (refine wpList_make_own _ rfl (.const (.int .i64 0)) (.tmp 5) 22 rfl w.heap.size 5 i0 (.int .u8 0) 1 Tryd.underlying22 hi hz0 hz1 .i64 .i64 _ n rfl rfl rfl ?_ ?_ ?_ ?_))
  · rw [hz2]; omega
  · unfold maxLen; omega
  · exact Nat.le_refl _
  · intro w1 hown hg
    have hb1 : Below w.heap.size w w1 := (Below.refl _ _).grown hg (Nat.le_refl _) (fun k hk => by cases hk)
    have hsz := hb1.size
    clear hg
    have hr1 : Rd w1 (.slice ao n cap) l := Rd.below (show Rd w (.slice ao n cap) l from HRD.out) hb1
    obtain ⟨ao', cap', hv', -, -, h3, h4⟩ := hr1
    simp only [Value.slice.injEq] at hv'
    obtain ⟨rfl, hnl, rfl⟩ := hv'
    have H3 : Hid _ := h3
    have H4 : Hid _ := h4
    clear h3 h4 hnl
    go_wp2_with (at_builtin; go_must (refine wpList_append_fits_any _ rfl (.tmp 7) (.tmp 8) 22 rfl w.heap.size 5 i0 1 Tryd.underlying22 hi hz1 w.heap.size 0 n [] rfl hown ao n cap (BV l) rfl ?_ ?_ ?_ ?_ ?_ ?_))
    · rw [BV_length, ← HN.out, Nat.mul_one]
    · intro h
      have := H3.out h
      omega
    · intro ad hd j u hj
      obtain ⟨hj', rfl⟩ := BV_get hj
      exact H4.out ad hd j hj'
    · exact BV_one l
    · omega
    · intro w2 hown2 hg2
      have hb2 : Below w.heap.size w w2 := hb1.grown hg2 hsz (fun k hk => by cases hk; exact Nat.le_refl _)
      have hown3 : Own w2 w.heap.size (.slice (some ⟨w.heap.size, 0, none⟩) n n) l := by
        unfold Own
        rw [← HN.out]
        exact hown2
      clear hg2 hown2 hown
      go_wp2
      go_ret
      exact ⟨by simp, hown3, hb2⟩

theorem run_noughts (w : World) (g n k : Nat) (l : List UInt8) (base : Nat) (hl : l.length = n) (hn : n ≤ 1000000) (hk : k ≤ 1000000) (hown : Own w base (.slice (some ⟨g, 0, none⟩) n n) l) (hbase : base ≤ w.heap.size) :
    ∃ v' w', (Builtin.append_ #[22, 3] 22 #[.slice (some ⟨g, 0, none⟩) n n, .int .i64 (k : Int)]).run Tryd.prog w = .ok v' w' ∧ Own w' base v' (l ++ List.replicate k 0) ∧ Below w.heap.size w w' := by
  obtain ⟨i0, hi, hz0, hz1, hz2⟩ := info_parts Tryd.info5
  by_cases h0 : k = 0
  · subst h0
    refine ⟨.slice (some ⟨g, 0, none⟩) n n, w, ?_, by simpa using hown, Below.refl _ _⟩
    simp [Builtin.append_, run_underlying Tryd.underlying22, run_underlying Tryd.underlying3, sizeOf, typeInfo, hi, hz1, hz2, asInt, asIntOf, IntKind.wrap_i64]
    simp [storeCells]
  · have hold : (Builtin.firstCells i0.size n (.slice (some ⟨g, 0, none⟩) n n)).run Tryd.prog w.drew = .ok (BV l).toArray w.drew := by
      rw [hz1]
      refine run_firstCells_some (P := Tryd.prog) w.drew 1 n _ n n (BV l) (by rw [BV_length, hl, Nat.mul_one]) ?_
      intro j u hj
      exact hown.drew.cells (g := g) rfl j u hj
    have h := Lib.run_append_grow_zeros (P := Tryd.prog) w 22 3 22 5 i0 (.int .u8 0) .i64 .i64 Tryd.underlying22 Tryd.underlying3 hi hz0 (some ⟨g, 0, none⟩) n n (BV l) hold k (by omega) (by omega) (by omega) (by omega) (by rw [hz2]; omega)
      (by rw [hz2]; exact growslice_fits (by omega) (by omega))
    refine ⟨_, _, h, ?_, (Below.refl _ _).drew.alloc (Nat.le_refl _) _⟩
    have hGn : n + k ≤ grownCap w (n + k) n 5 := grownCap_ge w _ _ _
    have hGm : grownCap w (n + k) n 5 ≤ maxLen := grownCap_le_maxLen w (n + k) n 5 (by unfold maxLen; omega)
    have hll : (l ++ List.replicate k (0 : UInt8)).length = n + k := by rw [List.length_append, List.length_replicate, hl]
    have hzc : (Builtin.zeroCells (Value.int .u8 0).cells k).toList = BV (List.replicate k 0) := by
      apply List.ext_getElem
      · simp [size_zeroCells, BV, Value.cells]
      · intro i h1 h2
        simp [Builtin.zeroCells, BV, Value.cells, Nat.mod_one]
    refine ⟨by rw [BV_length, Nat.mul_one], .inr ⟨w.heap.size, grownCap w (n + k) n 5, _, by rw [hll], hbase, heap_alloc_new w.drew _, by rw [hll]; exact hGn, hGm, ?_, ?_⟩⟩
    · simp [size_zeroCells, BV_length, hl, Value.cells]
      omega
    · rw [BV_append, ← hzc]
      have hA : (BV l ++ (Builtin.zeroCells (Value.int .u8 0).cells k).toList).length = n + k := by rw [List.length_append, BV_length, hzc, BV_length, List.length_replicate, hl]
      rw [Nat.mul_one, hll, Array.toList_append, Array.toList_append, List.take_append_of_le_length (by rw [← hA]; exact Nat.le_refl _), ← hA]
      exact List.take_length
end Go.Proofs.YtffgbjojngnebaaDoor
