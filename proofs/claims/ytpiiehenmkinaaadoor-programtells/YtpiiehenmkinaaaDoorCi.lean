/-
  Rows of instructions of a call's own; Pick, CopyInstrs, Same, Great. Own work.
-/
import Derived.Test.YtpiiehenmkinaaaDoorCh
namespace Go.Proofs.YtpiiehenmkinaaaDoor
open Go.RowKit

theorem Tryd.info28 : (Tryd.prog.info? 28).map (fun i => (i.zero, i.size, i.bytes)) = some (some (.agg #[.int .u8 0, .int .i64 0, .int .i64 0, .int .i64 0, .int .i64 0, .string ⟨#[]⟩]), 6, 56) := by kernel_rfl
/-- instructions as the cells that hold them -/
def cellsC (l : List Ins) : List Value := (l.map insC).flatten
theorem cellsC_append (a b : List Ins) : cellsC (a ++ b) = cellsC a ++ cellsC b := by simp [cellsC]
theorem cellsC_len (l : List Ins) : (cellsC l).length = l.length * 6 := by
  induction l with
  | nil => rfl
  | cons x t ih =>
    have e : cellsC (x :: t) = insC x ++ cellsC t := by simp [cellsC]
    rw [e, List.length_append, ih, List.length_cons]
    show 6 + _ = _
    omega
theorem cellsC_get (l : List Ins) (k j : Nat) (hk : k < l.length) (u : Value) (hu : (insC l[k])[j]? = some u) : (cellsC l)[k * 6 + j]? = some u := by
  have hj : j < 6 := (List.getElem?_eq_some_iff.1 hu).1
  induction l generalizing k with
  | nil => simp at hk
  | cons x t ih =>
    have e : cellsC (x :: t) = insC x ++ cellsC t := by simp [cellsC]
    rw [e]
    have h6 : (insC x).length = 6 := rfl
    cases k with
    | zero =>
      rw [List.getElem?_append_left (by omega)]
      simpa using hu
    | succ k =>
      rw [List.getElem?_append_right (by omega), h6, show (k + 1) * 6 + j - 6 = k * 6 + j by omega]
      exact ih k (by simpa using hk) (by simpa using hu)
def OwnC (w : World) (base : Nat) (v : Value) (l : List Ins) : Prop := w.ownsRow base 28 6 v l.length (cellsC l)
theorem OwnC.nil (w : World) (base : Nat) : OwnC w base (.slice none 0 0) [] := World.ownsRow_nil _ _ _ _
theorem OwnC.lt {w : World} {base : Nat} {v : Value} {l : List Ins} (h : OwnC w base v l) (k : Nat) (hk : v.ownBlock = some k) : base ≤ k ∧ k < w.heap.size := World.ownsRow.lt h k hk
theorem OwnC.heap {w w' : World} {base : Nat} {v : Value} {l : List Ins} (h : OwnC w base v l) (hk : ∀ a, v.ownBlock = some a → w'.heap[a]? = w.heap[a]?) : OwnC w' base v l := by
  refine ⟨h.1, ?_⟩
  rcases h.2 with h2 | ⟨g, cap, cur, hv, hb2, hg, r⟩
  · exact .inl h2
  · exact .inr ⟨g, cap, cur, hv, hb2, by rw [hk g (by rw [hv]; rfl)]; exact hg, r⟩
theorem OwnC.below {w w' : World} {base : Nat} {v : Value} {l : List Ins} (h : OwnC w base v l) (hb : Below w.heap.size w w') : OwnC w' base v l := h.heap fun a ha => hb.block a (h.lt a ha).2
theorem OwnC.mono {w : World} {base base' : Nat} {v : Value} {l : List Ins} (h : OwnC w base v l) (hb : base' ≤ base) : OwnC w base' v l := by
  refine ⟨h.1, ?_⟩
  rcases h.2 with h2 | ⟨g, cap, cur, hv, hb2, hg, r⟩
  · exact .inl h2
  · exact .inr ⟨g, cap, cur, hv, Nat.le_trans hb hb2, hg, r⟩
theorem OwnC.rd {w : World} {base : Nat} {v : Value} {l : List Ins} (h : OwnC w base v l) : RdC w v l := by
  rcases h.2 with ⟨rfl, h0⟩ | ⟨g, cap, cur, hv, hb, hg, hn, hm, hs, ht⟩
  · have : l = [] := List.eq_nil_of_length_eq_zero h0
    subst this
    exact RdC.nil w
  · refine ⟨some ⟨g, 0, none⟩, cap, hv, hn, hm, by simp, fun k hk => ⟨g, 0, rfl, fun j u hu => ?_⟩⟩
    have := h.cells (g := g) (by rw [hv]; rfl) (k * 6 + j) u (cellsC_get l k j hk u hu)
    rw [addr_add] at this
    rw [Nat.zero_add] at this ⊢
    exact this
theorem OwnC.shape {w : World} {base : Nat} {v : Value} {l : List Ins} (h : OwnC w base v l) : ∃ ao cap, v = .slice ao l.length cap := by
  rcases h.2 with ⟨rfl, e⟩ | ⟨g, cap, cur, rfl, _, hg, _⟩
  · exact ⟨none, 0, by rw [e]⟩
  · exact ⟨_, _, rfl⟩
/-- one more is laid behind them -/
theorem OwnC.append1 {w : World} {base : Nat} {v : Value} {l : List Ins} (h : OwnC w base v l) (x : Ins) (hl : l.length ≤ 1000000) (hb : base ≤ w.heap.size) (ty : TypeId) :
    ∃ v' w', (Builtin.append_ #[22, 22] ty #[v, .slice (some ⟨w.heap.size, 0, none⟩) 1 1]).run Tryd.prog (w.alloc (.cells #[.int .u8 (x.op : Int), .int .i64 x.a, .int .i64 x.b, .int .i64 x.c, .int .i64 x.n, .string x.s] 28)) = .ok v' w' ∧ OwnC w' base v' (l ++ [x]) ∧ Below base w w' := by
  obtain ⟨i0, hinf, hz0, hz1, hz2⟩ := info_parts Tryd.info28
  obtain ⟨v', w', hr, ho, hg', -⟩ := run_append_own (P := Tryd.prog) (w.alloc (.cells #[.int .u8 (x.op : Int), .int .i64 x.a, .int .i64 x.b, .int .i64 x.c, .int .i64 x.n, .string x.s] 28)) base 22 ty 28 i0 (.agg #[.int .u8 0, .int .i64 0, .int .i64 0, .int .i64 0, .int .i64 0, .string ⟨#[]⟩]) 6 56 Tryd.underlying22 hinf hz0 hz1 hz2 rfl (by decide) v l.length (cellsC l) (World.ownsRow.alloc h _)
    ⟨w.heap.size, 0, none⟩ 1 1 (insC x) rfl (fun j u hj => by
      rw [addr_add, Nat.zero_add, cell_of_row _ w.heap.size j _ 28 (0, 0) (heap_alloc_new w _)]
      rw [← hj]
      simp [insC]) (by intro u hu; simp [insC] at hu; rcases hu with rfl | rfl | rfl | rfl | rfl | rfl <;> rfl) (by unfold maxLen; omega) (by omega) (by simp; omega)
  refine ⟨v', w', hr, ?_, ?_⟩
  · unfold OwnC
    rw [cellsC_append, List.length_append]
    have : cellsC [x] = insC x := by simp [cellsC]
    rw [this]
    exact ho
  · exact ((Below.refl base w).alloc hb _).grown hg' (by simp; omega) (fun k hk => (h.lt k hk).1)

set_option maxRecDepth 100000 in
set_option maxHeartbeats 800000 in
theorem pick_any (x : Int) (n : Nat) (w : World) (hn : 0 < n) (hn1 : n ≤ 1000000) :
    Calls Tryd.prog 22 #[.int .i64 x, .int .i64 n] w fun e w' => e = .returned (.int .i64 ((x % (n : Int)).toNat : Nat)) ∧ w' = w := by
  have h0 : ¬ ((n : Int) ≤ 0) := by omega
  have h00 : ¬ ((n : Int) < 1) := by omega
  have h0' : ((n : Int) == 0) = false := by simp only [beq_eq_false_iff_ne]; omega
  have hm0 : 0 ≤ x % (n : Int) := Int.emod_nonneg _ (by omega)
  have hm1 : x % (n : Int) < n := Int.emod_lt_of_pos _ (by omega)
  have htm : (0 ≤ x.tmod n ∧ x.tmod n = x % n) ∨ (x.tmod n < 0 ∧ x.tmod n + n = x % n) := by
    rw [Int.tmod_eq_emod]
    split
    · left; omega
    · right; simp; omega
  have hR : (((x % (n : Int)).toNat : Nat) : Int) = x % n := by omega
  rw [hR]
  obtain ⟨r, HR⟩ := named (x % (n : Int))
  rw [← HR.out] at hm0 hm1 htm ⊢
  clear hR
  rcases htm with ⟨h1, h2⟩ | ⟨h1, h2⟩
  · have H2 : Hid _ := h2
    have h1' : ¬ x.tmod n < 0 := by omega
    clear h2 h1
    go_enter Tryd.func22, Tryd.ntmps22
    go_wp2
    go_ret
    exact ⟨ret_int H2.out, rfl⟩
  · have H2 : Hid _ := h2
    have h3 : 0 ≤ x.tmod n + n := by omega
    have h4 : x.tmod n + n < 1000000 := by omega
    have h5 : ¬ x.tmod n + n < 0 := by omega
    clear h2
    go_enter Tryd.func22, Tryd.ntmps22
    go_wp2
    go_ret
    exact ⟨ret_int H2.out, rfl⟩

set_option maxRecDepth 100000 in
set_option maxHeartbeats 1600000 in
theorem copyInstrs_any {w : World} {u : Value} {l : List Ins} (hu : RdC w u l) (hl : l.length ≤ 1000000) :
    Calls Tryd.prog 23 #[u] w fun e w' => ∃ v, e = .returned v ∧ OwnC w' w.heap.size v l ∧ Below w.heap.size w w' := by
  obtain ⟨ao, cap, rfl, -⟩ := hu.shape
  have HU := hide hu
  obtain ⟨n, HN⟩ := named l.length
  rw [← HN.out] at HU hl ⊢
  clear hu
  go_enter Tryd.func23, Tryd.ntmps23
  go_wp2
  go_loopw [3, 4] (fun v i wr => ∃ k : Nat, k ≤ n ∧ i = .int .i64 k ∧ Hid (OwnC wr w.heap.size v (l.take k)) ∧ Hid (Below w.heap.size w wr)) (fun _ i _ => n - (intOf i).toNat)
  case atStart => exact ⟨0, Nat.zero_le _, rfl, OwnC.nil _ _, Below.refl _ _⟩
  case round =>
    obtain ⟨k, hk, rfl, HO, HB⟩ := hrel
    by_cases hlt : k < n
    · obtain ⟨b, off, hab, -, a0, a1, a2, a3, a4, a5⟩ := (HU.out.below HB.out).at k (by rw [← HN.out]; exact hlt)
      subst hab
      obtain ⟨x, HX⟩ := named (l[k]'(by rw [← HN.out]; exact hlt))
      rw [← HX.out] at a0 a1 a2 a3 a4 a5
      have hsz := HB.out.size
      obtain ⟨v', w', hr, ho, hb⟩ := HO.out.append1 x (by have := List.length_take_le k l; omega) hsz 22
      have HO2 : Hid (OwnC w' w.heap.size v' (l.take (k + 1))) := by
        show OwnC _ _ _ _
        rw [List.take_succ_eq_append_getElem (by rw [← HN.out]; exact hlt), ← HX.out]
        exact ho
      have HB2 := hide (HB.out.trans hb)
      obtain ⟨vo, vc, hvo⟩ := HO.out.shape
      rw [hvo] at hr
      rw [hvo]
      clear ho hb
      go_wp2_with (at_builtin; go_must (refine Lib.wpList_append_run _ rfl _ _ _ _ rfl _ _ rfl rfl _ _ hr ?_))
      go_roundw
      case rel => exact ⟨k + 1, hlt, by go_num, HO2, HB2⟩
      case measure => simp [intOf]; omega
    · have hkn : k = n := by omega
      subst hkn
      go_wp2
      go_ret
      refine ⟨_, rfl, ?_, HB.out⟩
      have := HO.out
      rw [List.take_of_length_le (by rw [← HN.out]; exact Nat.le_refl _)] at this
      exact this
end Go.Proofs.YtpiiehenmkinaaaDoor
