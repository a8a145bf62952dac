/-
  The contract of slices.Insert at files, of one file. Own work.
-/
import Derived.Test.YtloigepmmhcibaaRow
import Derived.Shelf.Spec.SlicesInsertGrow
namespace Go.Proofs.Ytloigepmmhcibaa
open Go.RowKit

set_option maxRecDepth 100000 in
set_option maxHeartbeats 1000000 in
theorem insert_end {w : World} {fv : Value} {ps : List (AF × Value)} (hf : w.ownsRow 0 83 3 fv ps.length (cellsOf ps)) (hmax : ps.length ≤ 1000) {vb : Nat}
    (hvb : w.heap[vb]? = some (.cells #[.string ⟨#[]⟩, .slice none 0 0, .int .i64 0] 83 (0, 0))) :
    Calls Try.prog 84 #[fv, .int .i64 ps.length, .slice (some ⟨vb, 0, none⟩) 1 1] w fun e w' => ∃ fv', e = .returned fv' ∧ w'.ownsRow 0 83 3 fv' (ps.length + 1) (cellsOf (ps ++ [(noF, .slice none 0 0)])) ∧ w.grownBy w' fv.ownBlock ∧
      (fv'.ownBlock = fv.ownBlock ∨ fv'.ownBlock = some w.heap.size) := by
  obtain ⟨i0, hi, hz0, hz1, hz2⟩ := info_parts Try.info83
  have hrun : ∀ ty, ∃ v' w', (Builtin.append_ #[76, 76] ty #[fv, .slice (some ⟨vb, 0, none⟩) 1 1]).run Try.prog w = .ok v' w' ∧ _ := fun ty => run_append_own' (P := Try.prog) w 0 76 ty 83 i0 _ 3 48 Try.underlying76 hi hz0 hz1 hz2 rfl (by decide) fv ps.length (cellsOf ps) hf ⟨vb, 0, none⟩ 1 1 [.string ⟨#[]⟩, .slice none 0 0, .int .i64 0] rfl
    (fun j u hj => by
      rw [Addr.add_lit, Nat.zero_add, cell_of hvb]
      simpa using hj) (by intro u hu; simp at hu; rcases hu with rfl | rfl | rfl <;> rfl) (by unfold maxLen; omega) (by omega) (Nat.zero_le _)
  have HE : Hid (cellsOf (ps ++ [(noF, .slice none 0 0)]) = cellsOf ps ++ [.string ⟨#[]⟩, .slice none 0 0, .int .i64 0]) := by rw [cellsOf_append]; rfl
  obtain ⟨cs, HCS⟩ := named (cellsOf ps)
  obtain ⟨v', w', hr, ho, hg, hblk⟩ := hrun 76
  rw [← HE.out] at ho
  clear hi hz0 hz1 hz2 hrun
  rcases hf.2 with ⟨rfl, h0⟩ | ⟨g, cap, cur, rfl, hbg, hgg, hnc, hcm, hcs, htake⟩
  · rw [h0] at ho ⊢
    go_enter Try.func84, Try.ntmps84
    go_wp2_with (at_builtin; refine Lib.wpList_append_run _ rfl _ _ _ _ rfl _ _ rfl rfl _ _ hr ?_)
    go_ret
    exact ⟨_, rfl, ho, hg, hblk⟩
  · obtain ⟨n, HN⟩ := named ps.length
    rw [← HN.out] at hr ho hg hblk hnc hmax ⊢
    unfold maxLen at hcm
    clear hf hgg htake hcs
    go_enter Try.func84, Try.ntmps84
    go_wp2_with (at_builtin; refine Lib.wpList_append_run _ rfl _ _ _ _ rfl _ _ rfl rfl _ _ hr ?_)
    all_goals go_ret
    all_goals exact ⟨_, rfl, ho, hg, hblk⟩

theorem shift_list {α : Type} (L C z : List α) (p q k : Nat) (hz : z.length = k) (hC : L.take q = C) (hq : q + k ≤ L.length) (hp : p ≤ q) (L1 : List α) (h1 : L1 = L.take (p + k) ++ C.drop p ++ L.drop (p + k + (C.drop p).length)) :
    (L1.take p ++ z ++ L1.drop (p + z.length)).take (q + k) = C.take p ++ (z ++ C.drop p) ∧ (L1.take p ++ z ++ L1.drop (p + z.length)).length = L.length ∧ L1.length = L.length := by
  have hCl : C.length = q := by rw [← hC, List.length_take]; omega
  have hdl : (C.drop p).length = q - p := by rw [List.length_drop, hCl]
  have hl1 : L1.length = L.length := by rw [h1]; simp only [List.length_append, List.length_take, List.length_drop, hCl]; omega
  have ht : L1.take p = C.take p := by
    rw [h1, List.append_assoc, List.take_append_of_le_length (by rw [List.length_take]; omega), List.take_take, Nat.min_eq_left (by omega), ← hC, List.take_take, Nat.min_eq_left hp]
  have hd : L1.drop (p + k) = C.drop p ++ L.drop (p + k + (C.drop p).length) := by
    rw [h1, List.append_assoc, List.drop_append_of_le_length (by rw [List.length_take]; omega), List.drop_eq_nil_of_le (by rw [List.length_take]; omega), List.nil_append]
  refine ⟨?_, ?_, hl1⟩
  · rw [ht, hz, hd, List.append_assoc, ← List.append_assoc z, ← List.append_assoc (C.take p)]
    rw [List.take_append_of_le_length (by simp only [List.length_append, List.length_take, hdl, hz, hCl]; omega)]
    exact List.take_of_length_le (by simp only [List.length_append, List.length_take, hdl, hz, hCl]; omega)
  · simp only [List.length_append, List.length_take, List.length_drop, hl1, hz]; omega

theorem cellsOf_ins (ps : List (AF × Value)) (i : Nat) : cellsOf (ps.take i ++ (noF, .slice none 0 0) :: ps.drop i) = (cellsOf ps).take (i * 3) ++ ([.string ⟨#[]⟩, .slice none 0 0, .int .i64 0] ++ (cellsOf ps).drop (i * 3)) := by
  rw [cellsOf_append, cellsOf_cons, cellsOf_take, cellsOf_drop]
  rfl

set_option maxRecDepth 100000 in
set_option maxHeartbeats 4000000 in
theorem insert_shift {w : World} {ps : List (AF × Value)} {g cap i vb : Nat} {cur : Array Value} (hgg : w.heap[g]? = some (.cells cur 83 (0, 0))) (hroom : ps.length + 1 ≤ cap) (hcm : cap ≤ maxLen) (hcs : cur.size = cap * 3) (htake : cur.toList.take (ps.length * 3) = cellsOf ps)
    (hone : ∀ p ∈ ps, p.2.oneCell' = true) (hin : i < ps.length) (hmax : ps.length ≤ 1000) 
    (hvb : w.heap[vb]? = some (.cells #[.string ⟨#[]⟩, .slice none 0 0, .int .i64 0] 83 (0, 0))) (hne : vb ≠ g) :
    Calls Try.prog 84 #[.slice (some ⟨g, 0, none⟩) ps.length cap, .int .i64 i, .slice (some ⟨vb, 0, none⟩) 1 1] w fun e w' => e = .returned (.slice (some ⟨g, 0, none⟩) (ps.length + 1) cap) ∧
      w'.ownsRow 0 83 3 (.slice (some ⟨g, 0, none⟩) (ps.length + 1) cap) (ps.length + 1) (cellsOf (ps.take i ++ (noF, .slice none 0 0) :: ps.drop i)) ∧ w.grownBy w' (some g) := by
  obtain ⟨i0, hi, hz0, hz1, hz2⟩ := info_parts Try.info83
  have hsz : (Try.prog.info? 83).map (·.size) = some 3 := by rw [hi]; simp [hz1]
  have hone' := cellsOf_one ps hone
  have hcl := cellsOf_length ps
  obtain ⟨C, HC⟩ := named (cellsOf ps)
  have HE : Hid _ := cellsOf_ins ps i
  rw [← HC.out] at HE htake hone' hcl
  obtain ⟨n, HN⟩ := named ps.length
  rw [← HN.out] at hroom htake hin hmax hcl ⊢
  obtain ⟨R, HR⟩ := named (cellsOf (ps.take i ++ (noF, .slice none 0 0) :: ps.drop i))
  rw [← HR.out] at HE ⊢
  clear hone
  have hsz83 : ∀ w, (Go.sizeOf 83).run Try.prog w = .ok 3 w := fun w => by simp [sizeOf, typeInfo, hi, hz1]
  have hov : ∀ lb cb, (callFunc 99 #[.slice (some ⟨vb, 0, none⟩) 1 1, .slice (some ⟨g, (i + 1) * 3, none⟩) lb cb]).run Try.prog w = .ok (.value (.bool false)) w := fun lb cb => by
    rw [run_callFunc_extern Try.func99 (by kernel_rfl) (by kernel_rfl) (by kernel_rfl) (e := Extern.SlicesOverlaps.overlaps #[76, 76] #[4]) (by kernel_rfl),
      Lib.run_overlaps_apart w 76 4 83 Try.underlying76 3 hsz83 ⟨vb, 0, none⟩ ⟨g, (i + 1) * 3, none⟩ 1 1 lb cb hne 83 83 3 cur.size (by unfold World.shape?; rw [hvb]; rfl) (by unfold World.shape?; rw [hgg]) (by omega) (frozen_of hvb _) (frozen_of hvb _)]
    rfl
  have hdl : (C.drop (i * 3)).length = (n - i) * 3 := by rw [List.length_drop, hcl]; omega
  have hL : n * 3 + 3 ≤ cur.toList.length := by rw [Array.length_toList, hcs]; omega
  obtain ⟨L1, HL1⟩ := named (cur.toList.take (i * 3 + 3) ++ C.drop (i * 3) ++ cur.toList.drop (i * 3 + 3 + (C.drop (i * 3)).length))
  obtain ⟨X1, X2, X3⟩ := shift_list cur.toList C [Value.string ⟨#[]⟩, Value.slice none 0 0, Value.int .i64 0] (i * 3) (n * 3) 3 rfl htake hL (by omega) L1 HL1.out
  have hcells : ∀ j v, (C.drop (i * 3))[j]? = some v → w.cell? ((⟨g, i * 3, none⟩ : Addr).add j) = some v := by
    intro j v hj
    rw [Addr.add_lit, cell_of hgg]
    rw [List.getElem?_drop] at hj
    have : cur.toList[i * 3 + j]? = some v := by
      rw [← htake, List.getElem?_take] at hj
      split at hj
      · exact hj
      · cases hj
    simpa using this
  have hcp1 : ∀ ty dc sc, (Builtin.copy_ #[76, 76] ty #[.slice (some ⟨g, (i + 1) * 3, none⟩) (n - i) dc, .slice (some ⟨g, i * 3, none⟩) (n + 1 - i) sc]).run Try.prog w.drew = .ok (goInt (Nat.min (n + 1 - i) (n - i) : Nat)) (w.drew.setRow g L1.toArray) := fun ty dc sc => by
    have h := run_copy_rowk (P := Try.prog) w.drew 76 76 ty 83 3 g ((i + 1) * 3) (n - i) dc ⟨g, i * 3, none⟩ (n + 1 - i) sc cur 83 (C.drop (i * 3)) Try.underlying76 hsz hgg
      (by rw [hdl]; simp only [Nat.min_def]; split <;> omega) hcells (by rw [hdl]; omega) (fun v hv => hone' v (List.mem_of_mem_drop hv))
    rw [h, HL1.out, show (i + 1) * 3 = i * 3 + 3 by omega]
  obtain ⟨W1, HW1⟩ := named (w.drew.setRow g L1.toArray)
  have hg1 : W1.heap[g]? = some (.cells L1.toArray 83 (0, 0)) := by rw [HW1.out]; exact setRow_heap w.drew g cur _ 83 (0, 0) hgg
  have hv1 : W1.heap[vb]? = some (.cells #[.string ⟨#[]⟩, .slice none 0 0, .int .i64 0] 83 (0, 0)) := by rw [HW1.out, setRow_other _ _ _ _ hne]; exact hvb
  have hcp2 : ∀ (W : World), (W.heap = W1.heap) → ∀ ty dc, (Builtin.copy_ #[76, 76] ty #[.slice (some ⟨g, i * 3, none⟩) (n + 1 - i) dc, .slice (some ⟨vb, 0, none⟩) 1 1]).run Try.prog W = .ok (goInt (Nat.min 1 (n + 1 - i) : Nat)) (W.setRow g (L1.take (i * 3) ++ [Value.string ⟨#[]⟩, Value.slice none 0 0, Value.int .i64 0] ++ L1.drop (i * 3 + [Value.string ⟨#[]⟩, Value.slice none 0 0, Value.int .i64 0].length)).toArray) := fun W hW ty dc => by
    have h := run_copy_rowk (P := Try.prog) W 76 76 ty 83 3 g (i * 3) (n + 1 - i) dc ⟨vb, 0, none⟩ 1 1 L1.toArray 83 [.string ⟨#[]⟩, .slice none 0 0, .int .i64 0] Try.underlying76 hsz (by rw [hW]; exact hg1)
      (by simp only [Nat.min_def]; split <;> simp <;> omega) (fun j u hj => by rw [Addr.add_lit, Nat.zero_add, cell_of (by rw [hW]; exact hv1)]; simpa using hj) (by simp [X3]; omega) (by intro u hu; simp at hu; rcases hu with rfl | rfl | rfl <;> rfl)
    exact h
  rw [← HW1.out] at hcp1
  obtain ⟨L2, HL2⟩ := named (L1.take (i * 3) ++ [Value.string ⟨#[]⟩, Value.slice none 0 0, Value.int .i64 0] ++ L1.drop (i * 3 + [Value.string ⟨#[]⟩, Value.slice none 0 0, Value.int .i64 0].length))
  rw [← HL2.out] at hcp2 X1 X2
  have HX : Hid _ := And.intro X1 X2
  have HG : Hid _ := hg1
  clear X1 X2 X3 hcells hone' hi hz0 hz1 hz2 hsz hsz83 hgg hvb hg1 hv1 htake hL hdl
  unfold maxLen at hcm
  have hb2 : ¬ (cap = i + 1) := by omega
  have hb4 : ¬ (cap = i) := by omega
  have hw1 : IntKind.i64.wrap ((i : Int) + 1) = (i : Int) + 1 := by rw [IntKind.wrap_i64]; omega
  have hb1 : (0 : Int) ≤ (i : Int) + 1 := by omega
  have htn : ((i : Int) + 1).toNat = i + 1 := by omega
  have hb3 : (i : Int) ≤ (n : Int) := by omega
  have hb5 : i ≤ n := by omega
  have hb6 : (i : Int) ≤ (n : Int) + 1 := by omega
  have mixed : Try.prog.follows Departure.mixedOrders = true := by kernel_rfl
  go_enter Try.func84, Try.ntmps84
  go_wp2_with (simp only [hov])
  go_region_law_o (refine step_copy_runI rfl _ _ 76 76 rfl _ _ (by simp [Act.eval, Act.put]) (by simp [Act.eval, Act.put]) (hcp1 _ _ _) ?_)
  go_wp2_with (at_builtin; refine wpList_copy_runI _ rfl _ _ 76 76 rfl _ _ rfl rfl (hcp2 _ rfl _ _) ?_)
  go_ret
  refine ⟨rfl, ?_, ?_⟩
  · obtain ⟨X1, X2⟩ := HX.out
    rw [← HE.out] at X1
    refine ⟨?_, .inr ⟨g, cap, _, rfl, Nat.zero_le _, setRow_heap W1 g L1.toArray _ 83 (0, 0) HG.out, hroom, by unfold maxLen; omega, ?_, ?_⟩⟩
    · rw [← X1, List.length_take, X2, Array.length_toList]; omega
    · rw [List.size_toArray, X2, Array.length_toList, hcs]
    · rw [show (n + 1) * 3 = n * 3 + 3 by omega]; exact X1
  · refine grownBy.trans ?_ (grownBy_setRow W1 g _)
    rw [HW1.out]
    exact grownBy.trans (grownBy.drew (grownBy.refl w _)) (grownBy_setRow w.drew g _)
end Go.Proofs.Ytloigepmmhcibaa
