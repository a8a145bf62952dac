/-
  The contract of All; upon no heap; SameTimers, t. Own work.
-/
import Derived.Test.YtemlanalaihkoaaMp
namespace Go.Proofs.Ytemlanalaihkoaa
open Go.RowKit Go.Sort

theorem sorted_is {L l' : List Tm} {f : Nat → Tm} {n : Nat} {lk : Int → Option Nat} (hs : SL L f n) (hl : PL lk f n) (hp : l'.Perm ((List.range n).map f)) (ho : l'.Pairwise (fun a b => ¬ Ah b a)) : l' = L := by
  have hnd : ((List.range n).map f).Nodup := by
    rw [List.nodup_iff_pairwise_ne, List.pairwise_map]
    refine List.Pairwise.imp_of_mem ?_ (List.nodup_iff_pairwise_ne.1 List.nodup_range)
    intro a b ha hb hab e
    exact hab (hl.inj (List.mem_range.1 ha) (List.mem_range.1 hb) (by rw [e]))
  have hnd' : l'.Nodup := hp.nodup_iff.2 hnd
  refine ord_ext ?_ hs.srt.ord fun x => ?_
  · refine (ho.and (List.nodup_iff_pairwise_ne.1 hnd')).imp fun {a b} h => ?_
    rcases Ah.tri a b with h' | h' | h'
    · exact h'
    · exact absurd h' h.2
    · exact absurd h' h.1
  · rw [hp.mem_iff, hs.mem]
    simp

set_option maxRecDepth 100000 in
set_option maxHeartbeats 1600000 in
theorem all_any {w : World} {h : Value} {most : Nat} {L : List Tm} {F : Nat → Prop} (hp : Hp w h most L F) :
    Calls Try.prog 19 #[h] w fun e w' => ∃ v, e = .returned v ∧ OwnT w' w.heap.size v L ∧ Below w.heap.size w w' := by
  have hlen := hp.len
  obtain ⟨hb, sb, mb, tv, f, l, rfl, h2, h3, h4, h5, h6, h7, h8, h9, h10⟩ := hp
  have c0 : w.cell? ⟨hb, 0, none⟩ = some (.pointer (some ⟨sb, 0, none⟩)) := by rw [cell_of h2]; rfl
  have km := made_yes w hb sb c0
  have s1 := h3.s1
  obtain ⟨n, HN⟩ := named L.length
  rw [← HN.out] at h3 h5 h7
  have hn : n ≤ 65536 := by rw [HN.out]; omega
  obtain ⟨W, HW⟩ := named (w.alloc (.cells #[tv] 38))
  have hB : Below w.heap.size w W := by rw [HW.out]; exact (Below.refl _ _).alloc (Nat.le_refl _) _
  have hnew : W.heap[w.heap.size]? = some (.cells #[tv] 38 (0, 0)) := by rw [HW.out]; exact heap_new _ _
  have kc := concat_one (w := W) (b := w.heap.size) (tv := tv) (by rw [cell_of hnew]; rfl) (h3.below hB).tr hn
  have HS := hide h7
  have HL := hide h5
  have HB := hide hB
  obtain ⟨ao, cap, htv, -⟩ := h3.tr.shape
  rw [htv] at s1 HW
  clear h2 h3 h4 h5 h6 h7 h8 h9 h10 hB hlen htv hnew
  go_enter Try.func19, Try.ntmps19
  go_wp2_with fail
  (with_reducible refine Calls.mono km ?_)
  rintro e w' ⟨rfl, rfl⟩
  go_wp2_with fail
  rw [← HW.out]
  (with_reducible refine Calls.mono kc ?_)
  clear kc
  rintro e w1 ⟨v, rfl, ho, hb1⟩
  have ks := sort_any ho (by simp; exact hn)
  have HB1 := hide (below_call HB.out hb1)
  obtain ⟨ao2, cap2, hv⟩ := ho.shape
  obtain ⟨N2, HN2⟩ := named ((List.range n).map f).length
  rw [← HN2.out] at hv
  subst hv
  have hsz := hb1.size
  have hsz0 := HB.out.size
  clear ho hb1
  go_wp2_with fail
  (with_reducible refine Calls.mono ks ?_)
  clear ks
  rintro e w2 ⟨rfl, l', p1, p2, p3, p4⟩
  have he := sorted_is HS.out HL.out p1 p2
  subst he
  have HO2 := hide (p3.mono hsz0)
  have HB2 := hide (HB1.out.trans (p4.mono hsz0))
  clear p1 p2 p3 p4 HS
  go_wp2_with fail
  go_ret
  exact ⟨_, rfl, HO2.out, HB2.out⟩

/-! upon no heap -/
theorem NoneH.below {w w' : World} {v : Value} (h : NoneH w v) (hb : Below w.heap.size w w') : NoneH w' v := by
  rcases h with h | ⟨b, hv, hc⟩
  · exact .inl h
  · exact .inr ⟨b, hv, by rw [hb.cell (World.block_lt_of_cell? w _ hc)]; exact hc⟩
theorem NoneH.shape {w : World} {v : Value} (h : NoneH w v) : ∃ a, v = .pointer a := by
  rcases h with rfl | ⟨b, rfl, hc⟩
  · exact ⟨_, rfl⟩
  · exact ⟨_, rfl⟩
set_option maxRecDepth 100000 in
set_option maxHeartbeats 1600000 in
theorem len_none {w : World} {v : Value} (h : NoneH w v) : Calls Try.prog 15 #[v] w fun e w' => e = .returned (.int .i64 0) ∧ w' = w := by
  have km := made_no w v h
  obtain ⟨a, rfl⟩ := h.shape
  clear h
  go_enter Try.func15, Try.ntmps15
  go_wp2_with fail
  (with_reducible refine Calls.mono km ?_)
  rintro e w' ⟨rfl, rfl⟩
  go_wp2
  go_ret
  exact ⟨rfl, rfl⟩
set_option maxRecDepth 100000 in
set_option maxHeartbeats 1600000 in
theorem all_none {w : World} {v : Value} (h : NoneH w v) : Calls Try.prog 19 #[v] w fun e w' => e = .returned (.slice none 0 0) ∧ w' = w := by
  have km := made_no w v h
  obtain ⟨a, rfl⟩ := h.shape
  clear h
  go_enter Try.func19, Try.ntmps19
  go_wp2_with fail
  (with_reducible refine Calls.mono km ?_)
  rintro e w' ⟨rfl, rfl⟩
  go_wp2
  go_ret
  exact ⟨rfl, rfl⟩
set_option maxRecDepth 100000 in
set_option maxHeartbeats 1600000 in
theorem due_none {w : World} {v : Value} (h : NoneH w v) (now : Int) : Calls Try.prog 18 #[v, .int .i64 now] w fun e w' => e = .returned (.slice none 0 0) ∧ w' = w := by
  have km := len_none h
  obtain ⟨a, rfl⟩ := h.shape
  clear h
  go_enter Try.func18, Try.ntmps18
  go_wp2_with fail
  go_loopw [5] (fun d wr => d = .slice none 0 0 ∧ wr = w) (fun _ _ => 0)
  case atStart => exact ⟨rfl, rfl⟩
  case round =>
    obtain ⟨rfl, rfl⟩ := hrel
    go_wp2_with fail
    (with_reducible refine Calls.mono km ?_)
    rintro e w' ⟨rfl, rfl⟩
    go_wp2
    go_ret
    exact ⟨rfl, rfl⟩
set_option maxRecDepth 100000 in
set_option maxHeartbeats 1600000 in
theorem put_none {w : World} {v : Value} (h : NoneH w v) (a b : Int) : Calls Try.prog 14 #[v, .agg #[.int .i64 a, .int .i64 b]] w fun e w' => e = .returned (.int .i64 1) ∧ Below w.heap.size w w' := by
  obtain ⟨W, HW⟩ := named (w.alloc (.cells #[.int .i64 a, .int .i64 b] 30))
  have hB : Below w.heap.size w W := by rw [HW.out]; exact (Below.refl _ _).alloc (Nat.le_refl _) _
  have km := made_no W v (h.below hB)
  obtain ⟨a, rfl⟩ := h.shape
  have HB := hide hB
  clear h hB
  go_enter Try.func14, Try.ntmps14
  go_wp2_with (rw [← HW.out])
  (with_reducible refine Calls.mono km ?_)
  rintro e w' ⟨rfl, rfl⟩
  go_wp2
  go_ret
  exact ⟨rfl, HB.out⟩
set_option maxRecDepth 100000 in
set_option maxHeartbeats 1600000 in
theorem drop_none {w : World} {v : Value} (h : NoneH w v) (id : Int) : Calls Try.prog 16 #[v, .int .i64 id] w fun e w' => e = .returned (.tuple #[.agg #[.int .i64 0, .int .i64 0], .int .i64 1]) ∧ Below w.heap.size w w' := by
  obtain ⟨W, HW⟩ := named (w.alloc (.cells #[.int .i64 0, .int .i64 0] 30))
  have hB : Below w.heap.size w W := by rw [HW.out]; exact (Below.refl _ _).alloc (Nat.le_refl _) _
  have hC := C2.new w (.int .i64 0) (.int .i64 0) 30
  rw [← HW.out] at hC
  obtain ⟨-, r0, r1, r2, r3⟩ := hC
  have km := made_no W v (h.below hB)
  obtain ⟨a, rfl⟩ := h.shape
  have HB := hide hB
  clear h hB
  go_enter Try.func16, Try.ntmps16
  go_wp2_with (rw [← HW.out])
  (with_reducible refine Calls.mono km ?_)
  rintro e w' ⟨rfl, rfl⟩
  go_wp2_with fail
  refine bodyPost_ret (v := .tuple #[.agg #[.int .i64 0, .int .i64 0], .int .i64 1]) (by simp [results, Try.results16, go_sem, r0, r1]) rfl ⟨rfl, ?_⟩
  exact (HB.out.setCell (p := ⟨w.heap.size, 0, none⟩) (Nat.le_refl _) _).setCell (p := ⟨w.heap.size, 1, none⟩) (Nat.le_refl _) _
set_option maxRecDepth 100000 in
set_option maxHeartbeats 1600000 in
theorem get_none {w : World} {v : Value} (h : NoneH w v) (id : Int) : Calls Try.prog 17 #[v, .int .i64 id] w fun e w' => e = .returned (.tuple #[.agg #[.int .i64 0, .int .i64 0], .bool false]) ∧ Below w.heap.size w w' := by
  obtain ⟨W, HW⟩ := named (w.alloc (.cells #[.int .i64 0, .int .i64 0] 30))
  have hB : Below w.heap.size w W := by rw [HW.out]; exact (Below.refl _ _).alloc (Nat.le_refl _) _
  have hC := C2.new w (.int .i64 0) (.int .i64 0) 30
  rw [← HW.out] at hC
  obtain ⟨-, r0, r1, r2, r3⟩ := hC
  have km := made_no W v (h.below hB)
  obtain ⟨a, rfl⟩ := h.shape
  have HB := hide hB
  clear h hB
  go_enter Try.func17, Try.ntmps17
  go_wp2_with (rw [← HW.out])
  (with_reducible refine Calls.mono km ?_)
  rintro e w' ⟨rfl, rfl⟩
  go_wp2_with fail
  refine bodyPost_ret (v := .tuple #[.agg #[.int .i64 0, .int .i64 0], .bool false]) (by simp [results, Try.results17, go_sem, r0, r1]) rfl ⟨rfl, ?_⟩
  exact (HB.out.setCell (p := ⟨w.heap.size, 0, none⟩) (Nat.le_refl _) _).setCell (p := ⟨w.heap.size, 1, none⟩) (Nat.le_refl _) _
set_option maxRecDepth 100000 in
set_option maxHeartbeats 1600000 in
theorem next_none {w : World} {v : Value} (h : NoneH w v) : Calls Try.prog 29 #[v] w fun e w' => e = .returned (.tuple #[.agg #[.int .i64 0, .int .i64 0], .bool false]) ∧ Below w.heap.size w w' := by
  obtain ⟨W, HW⟩ := named (w.alloc (.cells #[.int .i64 0, .int .i64 0] 30))
  have hB : Below w.heap.size w W := by rw [HW.out]; exact (Below.refl _ _).alloc (Nat.le_refl _) _
  have hC := C2.new w (.int .i64 0) (.int .i64 0) 30
  rw [← HW.out] at hC
  obtain ⟨-, r0, r1, r2, r3⟩ := hC
  have km := len_none (h.below hB)
  obtain ⟨a, rfl⟩ := h.shape
  have HB := hide hB
  clear h hB
  go_enter Try.func29, Try.ntmps29
  go_wp2_with (rw [← HW.out])
  (with_reducible refine Calls.mono km ?_)
  rintro e w' ⟨rfl, rfl⟩
  go_wp2_with fail
  refine bodyPost_ret (v := .tuple #[.agg #[.int .i64 0, .int .i64 0], .bool false]) (by simp [results, Try.results29, go_sem, r0, r1]) rfl ⟨rfl, ?_⟩
  exact (HB.out.setCell (p := ⟨w.heap.size, 0, none⟩) (Nat.le_refl _) _).setCell (p := ⟨w.heap.size, 1, none⟩) (Nat.le_refl _) _
set_option maxRecDepth 100000 in
set_option maxHeartbeats 1600000 in
theorem pop_none {w : World} {v : Value} (h : NoneH w v) : Calls Try.prog 25 #[v] w fun e w' => e = .returned (.tuple #[.agg #[.int .i64 0, .int .i64 0], .bool false]) ∧ Below w.heap.size w w' := by
  obtain ⟨W, HW⟩ := named (w.alloc (.cells #[.int .i64 0, .int .i64 0] 30))
  have hB : Below w.heap.size w W := by rw [HW.out]; exact (Below.refl _ _).alloc (Nat.le_refl _) _
  have hC := C2.new w (.int .i64 0) (.int .i64 0) 30
  rw [← HW.out] at hC
  obtain ⟨-, r0, r1, r2, r3⟩ := hC
  have km := len_none (h.below hB)
  obtain ⟨a, rfl⟩ := h.shape
  have HB := hide hB
  clear h hB
  go_enter Try.func25, Try.ntmps25
  go_wp2_with (rw [← HW.out])
  (with_reducible refine Calls.mono km ?_)
  rintro e w' ⟨rfl, rfl⟩
  go_wp2_with fail
  refine bodyPost_ret (v := .tuple #[.agg #[.int .i64 0, .int .i64 0], .bool false]) (by simp [results, Try.results25, go_sem, r0, r1]) rfl ⟨rfl, ?_⟩
  exact (HB.out.setCell (p := ⟨w.heap.size, 0, none⟩) (Nat.le_refl _) _).setCell (p := ⟨w.heap.size, 1, none⟩) (Nat.le_refl _) _
end Go.Proofs.Ytemlanalaihkoaa
