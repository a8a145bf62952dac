/-
  The contract of slices.Insert at files, of one file. The contract of slices.Insert at files, where there is no room. Own work.
-/
import Derived.Test.YtffgbjojngnebaaDoorQj
import Derived.Shelf.Spec.SlicesInsertGrow
namespace Go.Proofs.YtffgbjojngnebaaDoor
open Go.RowKit

set_option maxRecDepth 100000 in
set_option maxHeartbeats 1000000 in
theorem insert_end {w : World} {fv : Value} {ps : List (AF × Value)} (hf : w.ownsRow 0 84 3 fv ps.length (cellsOf ps)) (hmax : ps.length ≤ 1000) {vb : Nat}
    (hvb : w.heap[vb]? = some (.cells #[.string ⟨#[]⟩, .slice none 0 0, .int .i64 0] 84 (0, 0))) :
    Calls Tryd.prog 83 #[fv, .int .i64 ps.length, .slice (some ⟨vb, 0, none⟩) 1 1] w fun e w' => ∃ fv', e = .returned fv' ∧ w'.ownsRow 0 84 3 fv' (ps.length + 1) (cellsOf (ps ++ [(noF, .slice none 0 0)])) ∧ w.grownBy w' fv.ownBlock ∧
      (fv'.ownBlock = fv.ownBlock ∨ fv'.ownBlock = some w.heap.size) := by
  obtain ⟨i0, hi, hz0, hz1, hz2⟩ := info_parts Tryd.info84
  have hrun : ∀ ty, ∃ v' w', (Builtin.append_ #[77, 77] ty #[fv, .slice (some ⟨vb, 0, none⟩) 1 1]).run Tryd.prog w = .ok v' w' ∧ _ := fun ty => run_append_own' (P := Tryd.prog) w 0 77 ty 84 i0 _ 3 48 Tryd.underlying77 hi hz0 hz1 hz2 rfl (by decide) fv ps.length (cellsOf ps) hf ⟨vb, 0, none⟩ 1 1 [.string ⟨#[]⟩, .slice none 0 0, .int .i64 0] rfl
    (fun j u hj => by
      rw [Addr.add_lit, Nat.zero_add, cell_of hvb]
      simpa using hj) (by intro u hu; simp at hu; rcases hu with rfl | rfl | rfl <;> rfl) (by unfold maxLen; omega) (by omega) (Nat.zero_le _)
  have HE : Hid (cellsOf (ps ++ [(noF, .slice none 0 0)]) = cellsOf ps ++ [.string ⟨#[]⟩, .slice none 0 0, .int .i64 0]) := by rw [cellsOf_append]; rfl
  obtain ⟨cs, HCS⟩ := named (cellsOf ps)
  obtain ⟨v', w', hr, ho, hg, hblk⟩ := hrun 77
  rw [← HE.out] at ho
  clear hi hz0 hz1 hz2 hrun
  rcases hf.2 with ⟨rfl, h0⟩ | ⟨g, cap, cur, rfl, hbg, hgg, hnc, hcm, hcs, htake⟩
  · rw [h0] at ho ⊢
    go_enter Tryd.func83, Tryd.ntmps83
    go_wp2_with (at_builtin; refine Lib.wpList_append_run _ rfl _ _ _ _ rfl _ _ rfl rfl _ _ hr ?_)
    go_ret
    exact ⟨_, rfl, ho, hg, hblk⟩
  · obtain ⟨n, HN⟩ := named ps.length
    rw [← HN.out] at hr ho hg hblk hnc hmax ⊢
    unfold maxLen at hcm
    clear hf hgg htake hcs
    go_enter Tryd.func83, Tryd.ntmps83
    go_wp2_with (at_builtin; refine Lib.wpList_append_run _ rfl _ _ _ _ rfl _ _ rfl rfl _ _ hr ?_)
    all_goals go_ret
    all_goals exact ⟨_, rfl, ho, hg, hblk⟩

theorem shift_list {α : Type} (L C z : List α) (p q k : Nat) (hz : z.length = k) (hC : L.take q = C) (hq : q + k ≤ L.length) (hp : p ≤ q) (L1 : List α) (h1 : L1 = L.take (p + k) ++ C.drop p ++ L.drop (p + k + (C.drop p).length)) :
    (L1.take p ++ z ++ L1.drop (p + z.length)).take (q + k) = C.take p ++ (z ++ C.drop p) ∧ (L1.take p ++ z ++ L1.drop (p + z.length)).length = L.length ∧ L1.length = L.length := by
  have hCl : C.length = q := by rw [← hC, List.length_take]; omega
  have hdl : (C.drop p).length = q - p := by rw [List.length_drop, hCl]
  have hl1 : L1.length = L.length := by rw [h1]; simp only [List.length_append, List.length_take, List.length_drop, hCl]; omega
  have ht : L1.take p = C.take p := by
    rw [h1, List.append_assoc, List.take_append_of_le_length (by rw [List.length_take]; omega), List.take_take, Nat.min_eq_left (by omega), ← hC, List.take_take, Nat.min_eq_left hp]
  have hd : L1.drop (p + k) = C.drop p ++ L.drop (p + k + (C.drop p).length) := by
    rw [h1, List.append_assoc, List.drop_append_of_le_length (by rw [List.length_take]; omega), List.drop_eq_nil_of_le (by rw [List.length_take]; omega), List.nil_append]
  refine ⟨?_, ?_, hl1⟩
  · rw [ht, hz, hd, List.append_assoc, ← List.append_assoc z, ← List.append_assoc (C.take p)]
    rw [List.take_append_of_le_length (by simp only [List.length_append, List.length_take, hdl, hz, hCl]; omega)]
    exact List.take_of_length_le (by simp only [List.length_append, List.length_take, hdl, hz, hCl]; omega)
  · simp only [List.length_append, List.length_take, List.length_drop, hl1, hz]; omega

theorem cellsOf_ins (ps : List (AF × Value)) (i : Nat) : cellsOf (ps.take i ++ (noF, .slice none 0 0) :: ps.drop i) = (cellsOf ps).take (i * 3) ++ ([.string ⟨#[]⟩, .slice none 0 0, .int .i64 0] ++ (cellsOf ps).drop (i * 3)) := by
  rw [cellsOf_append, cellsOf_cons, cellsOf_take, cellsOf_drop]
  rfl

set_option maxRecDepth 100000 in
set_option maxHeartbeats 4000000 in
theorem insert_shift {w : World} {ps : List (AF × Value)} {g cap i vb : Nat} {cur : Array Value} (hgg : w.heap[g]? = some (.cells cur 84 (0, 0))) (hroom : ps.length + 1 ≤ cap) (hcm : cap ≤ maxLen) (hcs : cur.size = cap * 3) (htake : cur.toList.take (ps.length * 3) = cellsOf ps)
    (hone : ∀ p ∈ ps, p.2.oneCell' = true) (hin : i < ps.length) (hmax : ps.length ≤ 1000) 
    (hvb : w.heap[vb]? = some (.cells #[.string ⟨#[]⟩, .slice none 0 0, .int .i64 0] 84 (0, 0))) (hne : vb ≠ g) :
    Calls Tryd.prog 83 #[.slice (some ⟨g, 0, none⟩) ps.length cap, .int .i64 i, .slice (some ⟨vb, 0, none⟩) 1 1] w fun e w' => e = .returned (.slice (some ⟨g, 0, none⟩) (ps.length + 1) cap) ∧
      w'.ownsRow 0 84 3 (.slice (some ⟨g, 0, none⟩) (ps.length + 1) cap) (ps.length + 1) (cellsOf (ps.take i ++ (noF, .slice none 0 0) :: ps.drop i)) ∧ w.grownBy w' (some g) := by
  obtain ⟨i0, hi, hz0, hz1, hz2⟩ := info_parts Tryd.info84
  have hsz : (Tryd.prog.info? 84).map (·.size) = some 3 := by rw [hi]; simp [hz1]
  have hone' := cellsOf_one ps hone
  have hcl := cellsOf_length ps
  obtain ⟨C, HC⟩ := named (cellsOf ps)
  have HE : Hid _ := cellsOf_ins ps i
  rw [← HC.out] at HE htake hone' hcl
  obtain ⟨n, HN⟩ := named ps.length
  rw [← HN.out] at hroom htake hin hmax hcl ⊢
  obtain ⟨R, HR⟩ := named (cellsOf (ps.take i ++ (noF, .slice none 0 0) :: ps.drop i))
  rw [← HR.out] at HE ⊢
  clear hone
  have hsz83 : ∀ w, (Go.sizeOf 84).run Tryd.prog w = .ok 3 w := fun w => by simp [sizeOf, typeInfo, hi, hz1]
  have hov : ∀ lb cb, (callFunc 95 #[.slice (some ⟨vb, 0, none⟩) 1 1, .slice (some ⟨g, (i + 1) * 3, none⟩) lb cb]).run Tryd.prog w = .ok (.value (.bool false)) w := fun lb cb => by
    rw [run_callFunc_extern Tryd.func95 (by kernel_rfl) (by kernel_rfl) (by kernel_rfl) (e := Extern.SlicesOverlaps.overlaps #[77, 77] #[4]) (by kernel_rfl),
      Lib.run_overlaps_apart w 77 4 84 Tryd.underlying77 3 hsz83 ⟨vb, 0, none⟩ ⟨g, (i + 1) * 3, none⟩ 1 1 lb cb hne 84 84 3 cur.size (by unfold World.shape?; rw [hvb]; rfl) (by unfold World.shape?; rw [hgg]) (by omega) (frozen_of hvb _) (frozen_of hvb _)]
    rfl
  have hdl : (C.drop (i * 3)).length = (n - i) * 3 := by rw [List.length_drop, hcl]; omega
  have hL : n * 3 + 3 ≤ cur.toList.length := by rw [Array.length_toList, hcs]; omega
  obtain ⟨L1, HL1⟩ := named (cur.toList.take (i * 3 + 3) ++ C.drop (i * 3) ++ cur.toList.drop (i * 3 + 3 + (C.drop (i * 3)).length))
  obtain ⟨X1, X2, X3⟩ := shift_list cur.toList C [Value.string ⟨#[]⟩, Value.slice none 0 0, Value.int .i64 0] (i * 3) (n * 3) 3 rfl htake hL (by omega) L1 HL1.out
  have hcells : ∀ j v, (C.drop (i * 3))[j]? = some v → w.cell? ((⟨g, i * 3, none⟩ : Addr).add j) = some v := by
    intro j v hj
    rw [Addr.add_lit, cell_of hgg]
    rw [List.getElem?_drop] at hj
    have : cur.toList[i * 3 + j]? = some v := by
      rw [← htake, List.getElem?_take] at hj
      split at hj
      · exact hj
      · cases hj
    simpa using this
  have hcp1 : ∀ ty dc sc, (Builtin.copy_ #[77, 77] ty #[.slice (some ⟨g, (i + 1) * 3, none⟩) (n - i) dc, .slice (some ⟨g, i * 3, none⟩) (n + 1 - i) sc]).run Tryd.prog w.drew = .ok (goInt (Nat.min (n + 1 - i) (n - i) : Nat)) (w.drew.setRow g L1.toArray) := fun ty dc sc => by
    have h := run_copy_rowk (P := Tryd.prog) w.drew 77 77 ty 84 3 g ((i + 1) * 3) (n - i) dc ⟨g, i * 3, none⟩ (n + 1 - i) sc cur 84 (C.drop (i * 3)) Tryd.underlying77 hsz hgg
      (by rw [hdl]; simp only [Nat.min_def]; split <;> omega) hcells (by rw [hdl]; omega) (fun v hv => hone' v (List.mem_of_mem_drop hv))
    rw [h, HL1.out, show (i + 1) * 3 = i * 3 + 3 by omega]
  obtain ⟨W1, HW1⟩ := named (w.drew.setRow g L1.toArray)
  have hg1 : W1.heap[g]? = some (.cells L1.toArray 84 (0, 0)) := by rw [HW1.out]; exact setRow_heap w.drew g cur _ 84 (0, 0) hgg
  have hv1 : W1.heap[vb]? = some (.cells #[.string ⟨#[]⟩, .slice none 0 0, .int .i64 0] 84 (0, 0)) := by rw [HW1.out, setRow_other _ _ _ _ hne]; exact hvb
  have hcp2 : ∀ (W : World), (W.heap = W1.heap) → ∀ ty dc, (Builtin.copy_ #[77, 77] ty #[.slice (some ⟨g, i * 3, none⟩) (n + 1 - i) dc, .slice (some ⟨vb, 0, none⟩) 1 1]).run Tryd.prog W = .ok (goInt (Nat.min 1 (n + 1 - i) : Nat)) (W.setRow g (L1.take (i * 3) ++ [Value.string ⟨#[]⟩, Value.slice none 0 0, Value.int .i64 0] ++ L1.drop (i * 3 + [Value.string ⟨#[]⟩, Value.slice none 0 0, Value.int .i64 0].length)).toArray) := fun W hW ty dc => by
    have h := run_copy_rowk (P := Tryd.prog) W 77 77 ty 84 3 g (i * 3) (n + 1 - i) dc ⟨vb, 0, none⟩ 1 1 L1.toArray 84 [.string ⟨#[]⟩, .slice none 0 0, .int .i64 0] Tryd.underlying77 hsz (by rw [hW]; exact hg1)
      (by simp only [Nat.min_def]; split <;> simp <;> omega) (fun j u hj => by rw [Addr.add_lit, Nat.zero_add, cell_of (by rw [hW]; exact hv1)]; simpa using hj) (by simp [X3]; omega) (by intro u hu; simp at hu; rcases hu with rfl | rfl | rfl <;> rfl)
    exact h
  rw [← HW1.out] at hcp1
  obtain ⟨L2, HL2⟩ := named (L1.take (i * 3) ++ [Value.string ⟨#[]⟩, Value.slice none 0 0, Value.int .i64 0] ++ L1.drop (i * 3 + [Value.string ⟨#[]⟩, Value.slice none 0 0, Value.int .i64 0].length))
  rw [← HL2.out] at hcp2 X1 X2
  have HX : Hid _ := And.intro X1 X2
  have HG : Hid _ := hg1
  clear X1 X2 X3 hcells hone' hi hz0 hz1 hz2 hsz hsz83 hgg hvb hg1 hv1 htake hL hdl
  unfold maxLen at hcm
  have hb2 : ¬ (cap = i + 1) := by omega
  have hb4 : ¬ (cap = i) := by omega
  have hw1 : IntKind.i64.wrap ((i : Int) + 1) = (i : Int) + 1 := by rw [IntKind.wrap_i64]; omega
  have hb1 : (0 : Int) ≤ (i : Int) + 1 := by omega
  have htn : ((i : Int) + 1).toNat = i + 1 := by omega
  have hb3 : (i : Int) ≤ (n : Int) := by omega
  have hb5 : i ≤ n := by omega
  have hb6 : (i : Int) ≤ (n : Int) + 1 := by omega
  have mixed : Tryd.prog.follows Departure.mixedOrders = true := by kernel_rfl
  go_enter Tryd.func83, Tryd.ntmps83
  go_wp2_with (simp only [hov])
  go_region_law_o (refine step_copy_runI rfl _ _ 77 77 rfl _ _ (by simp [Act.eval, Act.put]) (by simp [Act.eval, Act.put]) (hcp1 _ _ _) ?_)
  go_wp2_with (at_builtin; refine wpList_copy_runI _ rfl _ _ 77 77 rfl _ _ rfl rfl (hcp2 _ rfl _ _) ?_)
  go_ret
  refine ⟨rfl, ?_, ?_⟩
  · obtain ⟨X1, X2⟩ := HX.out
    rw [← HE.out] at X1
    refine ⟨?_, .inr ⟨g, cap, _, rfl, Nat.zero_le _, setRow_heap W1 g L1.toArray _ 84 (0, 0) HG.out, hroom, by unfold maxLen; omega, ?_, ?_⟩⟩
    · rw [← X1, List.length_take, X2, Array.length_toList]; omega
    · rw [List.size_toArray, X2, Array.length_toList, hcs]
    · rw [show (n + 1) * 3 = n * 3 + 3 by omega]; exact X1
  · refine grownBy.trans ?_ (grownBy_setRow W1 g _)
    rw [HW1.out]
    exact grownBy.trans (grownBy.drew (grownBy.refl w _)) (grownBy_setRow w.drew g _)
end Go.Proofs.YtffgbjojngnebaaDoor
namespace Go.Proofs.YtffgbjojngnebaaDoor
open Go.RowKit


theorem belowSetRow {B g : Nat} {a w : World} (h : Below B a w) (hg : B ≤ g) (c : Array Value) : Below B a (w.setRow g c) :=
  h.trans ⟨rfl, rfl, rfl, by simp, fun k hk => setRow_other _ _ _ _ (by omega)⟩
theorem grow_list {α : Type} (C z O : List α) (p q k : Nat) (hz : z.length = k) (hC : C.length = q) (hp : p ≤ q) (hO : q + k - p ≤ O.length) (L0 L1 : List α) (h0 : L0 = C.take p ++ O) (h1 : L1 = L0.take p ++ z ++ L0.drop (p + z.length)) :
    (L1.take (p + k) ++ C.drop p ++ L1.drop (p + k + (C.drop p).length)).take (q + k) = C.take p ++ (z ++ C.drop p) ∧ (L1.take (p + k) ++ C.drop p ++ L1.drop (p + k + (C.drop p).length)).length = L0.length ∧ L1.length = L0.length := by
  have hdl : (C.drop p).length = q - p := by rw [List.length_drop, hC]
  have hl0 : L0.length = p + O.length := by rw [h0, List.length_append, List.length_take]; omega
  have hl1 : L1.length = L0.length := by rw [h1]; simp only [List.length_append, List.length_take, List.length_drop, hz]; omega
  have ht0 : L0.take p = C.take p := by
    rw [h0, List.take_append_of_le_length (by rw [List.length_take]; omega), List.take_take, Nat.min_self]
  have ht : L1.take (p + k) = C.take p ++ z := by
    rw [h1, ht0, List.take_append_of_le_length (by simp only [List.length_append, List.length_take, hz]; omega)]
    exact List.take_of_length_le (by simp only [List.length_append, List.length_take, hz]; omega)
  refine ⟨?_, ?_, hl1⟩
  · rw [ht, List.append_assoc (C.take p), List.take_append_of_le_length (by simp only [List.length_append, List.length_take, hdl, hz, hC]; omega)]
    exact List.take_of_length_le (by simp only [List.length_append, List.length_take, hdl, hz, hC]; omega)
  · simp only [List.length_append, List.length_take, List.length_drop, hl1, hC]; omega

set_option maxRecDepth 100000 in
set_option maxHeartbeats 4000000 in
theorem insert_grow {w : World} {ps : List (AF × Value)} {g cap i vb : Nat} {cur : Array Value} (hgg : w.heap[g]? = some (.cells cur 84 (0, 0))) (hnc : ps.length ≤ cap) (hroom : cap < ps.length + 1) (htake : cur.toList.take (ps.length * 3) = cellsOf ps)
    (hone : ∀ p ∈ ps, p.2.oneCell' = true) (hin : i < ps.length) (hmax : ps.length ≤ 1000) 
    (hvb : w.heap[vb]? = some (.cells #[.string ⟨#[]⟩, .slice none 0 0, .int .i64 0] 84 (0, 0))) :
    Calls Tryd.prog 83 #[.slice (some ⟨g, 0, none⟩) ps.length cap, .int .i64 i, .slice (some ⟨vb, 0, none⟩) 1 1] w fun e w' => ∃ G, e = .returned (.slice (some ⟨w.heap.size, 0, none⟩) (ps.length + 1) G) ∧
      w'.ownsRow 0 84 3 (.slice (some ⟨w.heap.size, 0, none⟩) (ps.length + 1) G) (ps.length + 1) (cellsOf (ps.take i ++ (noF, .slice none 0 0) :: ps.drop i)) ∧ Below w.heap.size w w' := by
  obtain ⟨i0, hi, hz0, hz1, hz2⟩ := info_parts Tryd.info84
  have hsz : (Tryd.prog.info? 84).map (·.size) = some 3 := by rw [hi]; simp [hz1]
  have hone' := cellsOf_one ps hone
  have hcl := cellsOf_length ps
  obtain ⟨C, HC⟩ := named (cellsOf ps)
  have HE : Hid _ := cellsOf_ins ps i
  rw [← HC.out] at HE htake hone' hcl
  obtain ⟨n, HN⟩ := named ps.length
  rw [← HN.out] at hroom htake hin hmax hcl hnc ⊢
  obtain ⟨R, HR⟩ := named (cellsOf (ps.take i ++ (noF, .slice none 0 0) :: ps.drop i))
  rw [← HR.out] at HE ⊢
  clear hone
  have hgl : g < w.heap.size := (Array.getElem?_eq_some_iff.1 hgg).1
  have hvl : vb < w.heap.size := (Array.getElem?_eq_some_iff.1 hvb).1
  have hcell : ∀ j v, C[j]? = some v → w.cell? ⟨g, j, none⟩ = some v := by
    intro j v hj
    rw [cell_of hgg]
    have : cur.toList[j]? = some v := by
      rw [← htake, List.getElem?_take] at hj
      split at hj
      · exact hj
      · cases hj
    simpa using this
  have hold : (Builtin.firstCells i0.size i (.slice (some ⟨g, 0, none⟩) i cap)).run Tryd.prog w.drew = .ok (C.take (i * 3)).toArray w.drew := by
    rw [hz1]
    exact run_firstCells_some w.drew 3 i ⟨g, 0, none⟩ i cap (C.take (i * 3)) (by rw [List.length_take, hcl]; omega) (fun j v hj => by
      rw [Addr.add_lit, Nat.zero_add]
      rw [List.getElem?_take] at hj
      split at hj
      · exact hcell j v hj
      · cases hj)
  have hkk : (n : Int) + 1 - (i : Int) = ((n + 1 - i : Nat) : Int) := by omega
  have hik : i + (n + 1 - i) = n + 1 := by omega
  have hrz : ∀ ty, (Builtin.append_ #[77, 3] ty #[.slice (some ⟨g, 0, none⟩) i cap, .int .i64 ((n : Int) + 1 - (i : Int))]).run Tryd.prog w =
      .ok (.slice (some ⟨w.heap.size, 0, none⟩) (n + 1) (grownCap w (n + 1) cap 84)) (w.drew.alloc (.cells ((C.take (i * 3)).toArray ++ Builtin.zeroCells (Value.agg #[.string ⟨#[]⟩, .slice none 0 0, .int .i64 0]).cells (n + 1 - i) ++ Builtin.zeroCells (Value.agg #[.string ⟨#[]⟩, .slice none 0 0, .int .i64 0]).cells (grownCap w (n + 1) cap 84 - (n + 1))) 84)) := fun ty => by
    have h := Lib.run_append_grow_zeros w 77 3 ty 84 i0 _ .i64 .i64 Tryd.underlying77 Tryd.underlying3 hi hz0 (some ⟨g, 0, none⟩) i cap (C.take (i * 3)) hold (n + 1 - i) (by omega) (by omega) (by omega) (by omega) (by rw [hz2]; omega) (by rw [hz2, hik]; exact growslice_fits hroom (by omega))
    rw [hik] at h
    rw [hkk]
    exact h
  have hGn : n + 1 ≤ grownCap w (n + 1) cap 84 := grownCap_ge w _ _ _
  have hGm : grownCap w (n + 1) cap 84 ≤ maxLen := grownCap_le_maxLen w (n + 1) cap 84 (by unfold maxLen; omega)
  obtain ⟨G, HG0⟩ := named (grownCap w (n + 1) cap 84)
  rw [← HG0.out] at hrz hGn hGm
  obtain ⟨O, HO⟩ := named (Builtin.zeroCells (Value.agg #[.string ⟨#[]⟩, .slice none 0 0, .int .i64 0]).cells (n + 1 - i) ++ Builtin.zeroCells (Value.agg #[.string ⟨#[]⟩, .slice none 0 0, .int .i64 0]).cells (G - (n + 1)))
  have hOs : O.size = (G - i) * 3 := by rw [HO.out]; simp only [Array.size_append, size_zeroCells, Value.cells]; simp; omega
  obtain ⟨L0, HL0⟩ := named (C.take (i * 3) ++ O.toList)
  have hrow : ((C.take (i * 3)).toArray ++ Builtin.zeroCells (Value.agg #[.string ⟨#[]⟩, .slice none 0 0, .int .i64 0]).cells (n + 1 - i) ++ Builtin.zeroCells (Value.agg #[.string ⟨#[]⟩, .slice none 0 0, .int .i64 0]).cells (G - (n + 1))) = L0.toArray := by
    rw [HL0.out, HO.out]
    apply Array.ext'
    simp
  rw [hrow] at hrz
  have hl0 : L0.length = G * 3 := by rw [HL0.out, List.length_append, List.length_take, hcl, Array.length_toList, hOs]; omega
  obtain ⟨L1, HL1⟩ := named (L0.take (i * 3) ++ [Value.string ⟨#[]⟩, Value.slice none 0 0, Value.int .i64 0] ++ L0.drop (i * 3 + [Value.string ⟨#[]⟩, Value.slice none 0 0, Value.int .i64 0].length))
  obtain ⟨X1, X2, X3⟩ := grow_list C [Value.string ⟨#[]⟩, Value.slice none 0 0, Value.int .i64 0] O.toList (i * 3) (n * 3) 3 rfl hcl (by omega) (by rw [Array.length_toList, hOs]; omega) L0 L1 HL0.out HL1.out
  obtain ⟨L2, HL2⟩ := named (L1.take (i * 3 + 3) ++ C.drop (i * 3) ++ L1.drop (i * 3 + 3 + (C.drop (i * 3)).length))
  rw [← HL2.out] at X1 X2
  have hdl : (C.drop (i * 3)).length = (n - i) * 3 := by rw [List.length_drop, hcl]; omega
  obtain ⟨W0, HW0⟩ := named (w.drew.alloc (.cells L0.toArray 84))
  have hg0 : W0.heap[w.heap.size]? = some (.cells L0.toArray 84 (0, 0)) := by rw [HW0.out]; exact heap_alloc_new w.drew _
  have hold0 : ∀ b, b < w.heap.size → W0.heap[b]? = w.heap[b]? := fun b hb => by rw [HW0.out]; exact Below.heap_alloc w.drew _ b hb
  have hcpA : ∀ (W : World), W.heap = W0.heap → ∀ ty dc, (Builtin.copy_ #[77, 77] ty #[.slice (some ⟨w.heap.size, i * 3, none⟩) (n + 1 - i) dc, .slice (some ⟨vb, 0, none⟩) 1 1]).run Tryd.prog W = .ok (goInt (Nat.min 1 (n + 1 - i) : Nat)) (W.setRow w.heap.size L1.toArray) := fun W hW ty dc => by
    have h := run_copy_rowk (P := Tryd.prog) W 77 77 ty 84 3 w.heap.size (i * 3) (n + 1 - i) dc ⟨vb, 0, none⟩ 1 1 L0.toArray 84 [.string ⟨#[]⟩, .slice none 0 0, .int .i64 0] Tryd.underlying77 hsz (by rw [hW]; exact hg0)
      (by simp only [Nat.min_def]; split <;> simp <;> omega) (fun j u hj => by rw [Addr.add_lit, Nat.zero_add, cell_of (by rw [hW, hold0 vb hvl]; exact hvb)]; simpa using hj) (by simp [hl0]; omega) (by intro u hu; simp at hu; rcases hu with rfl | rfl | rfl <;> rfl)
    rw [HL1.out]
    exact h
  obtain ⟨W1, HW1⟩ := named (W0.setRow w.heap.size L1.toArray)
  have hg1 : W1.heap[w.heap.size]? = some (.cells L1.toArray 84 (0, 0)) := by rw [HW1.out]; exact setRow_heap W0 _ L0.toArray _ 84 (0, 0) hg0
  have hold1 : ∀ b, b < w.heap.size → W1.heap[b]? = w.heap[b]? := fun b hb => by rw [HW1.out, setRow_other _ _ _ _ (by omega)]; exact hold0 b hb
  have hcpB : ∀ (W : World), W.heap = W1.heap → ∀ ty dc sc, (Builtin.copy_ #[77, 77] ty #[.slice (some ⟨w.heap.size, (i + 1) * 3, none⟩) (n - i) dc, .slice (some ⟨g, i * 3, none⟩) (n - i) sc]).run Tryd.prog W = .ok (goInt (Nat.min (n - i) (n - i) : Nat)) (W.setRow w.heap.size L2.toArray) := fun W hW ty dc sc => by
    have h := run_copy_rowk (P := Tryd.prog) W 77 77 ty 84 3 w.heap.size ((i + 1) * 3) (n - i) dc ⟨g, i * 3, none⟩ (n - i) sc L1.toArray 84 (C.drop (i * 3)) Tryd.underlying77 hsz (by rw [hW]; exact hg1)
      (by rw [hdl]; simp only [Nat.min_def]; split <;> omega) (fun j u hj => by
        rw [Addr.add_lit, cell_of (by rw [hW, hold1 g hgl]; exact hgg), ← cell_of hgg]
        rw [List.getElem?_drop] at hj
        exact hcell _ _ hj) (by rw [hdl, List.size_toArray, X3, hl0]; omega) (fun v hv => hone' v (List.mem_of_mem_drop hv))
    rw [h, HL2.out, show (i + 1) * 3 = i * 3 + 3 by omega]
  have HX : Hid _ := And.intro X1 X2
  have HG : Hid _ := hg1
  have HO1 : Hid _ := hold1
  have HGM : Hid _ := hGm
  clear X1 X2 X3 hone' hi hz0 hz1 hz2 hsz hgg hvb hg1 hg0 htake hdl hold hcell hkk hik hrow hold0 hold1 hOs hGm
  have hG63 : G ≤ 9223372036854775807 := by have := HGM.out; unfold maxLen at this; omega
  have hb2 : ¬ (G = i + 1) := by omega
  have hb4 : ¬ (G = i) := by omega
  have hb7 : ¬ (cap = i) := by omega
  have hw1 : IntKind.i64.wrap ((i : Int) + 1) = (i : Int) + 1 := by rw [IntKind.wrap_i64]; omega
  have hb1 : (0 : Int) ≤ (i : Int) + 1 := by omega
  have htn : ((i : Int) + 1).toNat = i + 1 := by omega
  have hb3 : (i : Int) ≤ (n : Int) := by omega
  have hb5 : i ≤ n := by omega
  have hb6 : (i : Int) ≤ (n : Int) + 1 := by omega
  have mixed : Tryd.prog.follows Departure.mixedOrders = true := by kernel_rfl
  rw [← HW0.out] at hrz
  go_enter Tryd.func83, Tryd.ntmps83
  go_wp2_with (first
    | (at_builtin; refine Lib.wpList_append_run _ rfl _ _ _ _ rfl _ _ rfl rfl _ _ (hrz _) ?_)
    | (at_builtin; refine wpList_copy_runI _ rfl _ _ 77 77 rfl _ _ rfl rfl (hcpA _ rfl _ _) ?_))
  go_region_law_o (refine step_copy_runI rfl _ _ 77 77 rfl (.slice (some ⟨w.heap.size, (i + 1) * 3, none⟩) (n - i) (G - (i + 1))) (.slice (some ⟨g, i * 3, none⟩) (n - i) (cap - i)) (by simp [Act.eval, Act.put]) (by simp [Act.eval, Act.put]) (hcpB _ (by rw [HW1.out]; rfl) _ _ _) ?_)
  go_wp2
  go_ret
  obtain ⟨X1, X2⟩ := HX.out
  rw [← HE.out] at X1
  have hh : (W0.setRow w.heap.size L1.toArray).drew.heap = W1.heap := by rw [HW1.out]; rfl
  refine ⟨G, rfl, ⟨?_, .inr ⟨w.heap.size, G, _, rfl, Nat.zero_le _, setRow_heap _ w.heap.size L1.toArray _ 84 (0, 0) (by rw [hh]; exact HG.out), hGn, HGM.out, ?_, ?_⟩⟩, ?_⟩
  · rw [← X1, List.length_take, X2, hl0]; omega
  · rw [List.size_toArray, X2, hl0]
  · rw [show (n + 1) * 3 = n * 3 + 3 by omega]; exact X1
  · rw [HW0.out]
    exact belowSetRow (belowSetRow ((Below.refl w.heap.size w).drew.alloc (Nat.le_refl _) _) (Nat.le_refl _) _).drew (Nat.le_refl _) _

/-- Insert, whatever the room -/
theorem insert_any {w : World} {fv : Value} {ps : List (AF × Value)} (hf : w.ownsRow 0 84 3 fv ps.length (cellsOf ps)) (hone : ∀ p ∈ ps, p.2.oneCell' = true) (hmax : ps.length ≤ 1000) {vb i : Nat} (hi : i ≤ ps.length)
    (hvb : w.heap[vb]? = some (.cells #[.string ⟨#[]⟩, .slice none 0 0, .int .i64 0] 84 (0, 0))) (hne : fv.ownBlock ≠ some vb) :
    Calls Tryd.prog 83 #[fv, .int .i64 i, .slice (some ⟨vb, 0, none⟩) 1 1] w fun e w' => ∃ fv', e = .returned fv' ∧ w'.ownsRow 0 84 3 fv' (ps.length + 1) (cellsOf (ps.take i ++ (noF, .slice none 0 0) :: ps.drop i)) ∧ w.grownBy w' fv.ownBlock ∧
      (fv'.ownBlock = fv.ownBlock ∨ fv'.ownBlock = some w.heap.size) := by
  by_cases he : i = ps.length
  · subst he
    rw [List.take_length, List.drop_length]
    exact insert_end hf hmax hvb
  · rcases hf.2 with ⟨rfl, h0⟩ | ⟨g, cap, cur, rfl, hbg, hgg, hnc, hcm, hcs, htake⟩
    · omega
    · by_cases hroom : ps.length + 1 ≤ cap
      · refine (insert_shift hgg hroom hcm hcs htake hone (by omega) hmax hvb (fun e => hne (by rw [e]; rfl))).mono ?_
        rintro e w' ⟨rfl, ho, hg⟩
        exact ⟨_, rfl, ho, hg, .inl rfl⟩
      · refine (insert_grow hgg hnc (by omega) htake hone (by omega) hmax hvb).mono ?_
        rintro e w' ⟨G, rfl, ho, hb⟩
        exact ⟨_, rfl, ho, ⟨hb.os, hb.tape, hb.output, hb.size, fun k hk _ => hb.block k hk⟩, .inr rfl⟩
end Go.Proofs.YtffgbjojngnebaaDoor
