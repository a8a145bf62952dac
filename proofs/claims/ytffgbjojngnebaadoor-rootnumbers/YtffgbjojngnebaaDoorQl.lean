/-
  The contract of slices.Delete at files, of one file. Own work.
-/
import Derived.Test.YtffgbjojngnebaaDoorQk
import Derived.Shelf.SlicesG.Delete
namespace Go.Proofs.YtffgbjojngnebaaDoor
open Go.RowKit

theorem step_append_runI {P : Program} {ops : Array Oper} {o : Oper} {a : Act} {w : World} {K : Act → World → Prop} {Q : Exit → Act → World → Prop} {E : Prop}
    (hg : o.guard = none) (d x : Operand) (dT sT : TypeId) (hop : o.op = Op.call { callee := Callee.builtin Builtin.append, args := #[d, x], argTypes := #[dT, sT] })
    (v u : Value) (hd : a.eval d = v) (hx : a.eval x = u) {v' : Value} {w' : World} (hr : (Builtin.append_ #[dT, sT] o.type #[v, u]).run P w = .ok v' w') (hK : K (a.put o.dst v') w') :
    if Region.wanted o (yielded ops a.tmps) = true then Oper.wp P o a w K Q else E := by
  have hw : Region.wanted o (yielded ops a.tmps) = true := by simp [Region.wanted, hg]
  rw [if_pos hw]
  unfold Oper.wp
  simp [execOp, hop, resolve, invoke, builtin, hd, hx, hr, Result.andThen]
  exact hK

theorem cut_list {α : Type} (L C z : List α) (p q k : Nat) (hz : z.length = k) (hC : L.take (q + k) = C) (hq : q + k ≤ L.length) (hp : p ≤ q) (L1 : List α) (h1 : L1 = L.take p ++ C.drop (p + k) ++ L.drop (p + (C.drop (p + k)).length)) :
    (L1.take q ++ z ++ L1.drop (q + k)).take q = C.take p ++ C.drop (p + k) ∧ (L1.take q ++ z ++ L1.drop (q + k)).length = L.length ∧ L1.length = L.length := by
  have hCl : C.length = q + k := by rw [← hC, List.length_take]; omega
  have hdl : (C.drop (p + k)).length = q - p := by rw [List.length_drop, hCl]; omega
  have hl1 : L1.length = L.length := by rw [h1]; simp only [List.length_append, List.length_take, List.length_drop, hCl]; omega
  have htp : L.take p = C.take p := by rw [← hC, List.take_take, Nat.min_eq_left (by omega)]
  have ht : L1.take q = C.take p ++ C.drop (p + k) := by
    rw [h1, htp, List.take_append_of_le_length (by simp only [List.length_append, List.length_take, hdl, hCl]; omega)]
    exact List.take_of_length_le (by simp only [List.length_append, List.length_take, hdl, hCl]; omega)
  refine ⟨?_, ?_, hl1⟩
  · rw [ht, List.append_assoc, List.take_append_of_le_length (by simp only [List.length_append, List.length_take, hdl, hCl]; omega)]
    exact List.take_of_length_le (by simp only [List.length_append, List.length_take, hdl, hCl]; omega)
  · simp only [List.length_append, List.length_take, List.length_drop, hl1, hz]; omega

theorem zero1 : (Builtin.zeroCells (Value.agg #[.string ⟨#[]⟩, .slice none 0 0, .int .i64 0]).cells 1).toList = [.string ⟨#[]⟩, .slice none 0 0, .int .i64 0] := by kernel_rfl
theorem cellsOf_del (ps : List (AF × Value)) (i : Nat) : cellsOf (ps.take i ++ ps.drop (i + 1)) = (cellsOf ps).take (i * 3) ++ (cellsOf ps).drop (i * 3 + 3) := by
  rw [cellsOf_append, cellsOf_take, show i * 3 + 3 = (i + 1) * 3 by omega, cellsOf_drop]

set_option maxRecDepth 100000 in
set_option maxHeartbeats 4000000 in
theorem delete_one {w : World} {ps : List (AF × Value)} {g cap i m : Nat} {cur : Array Value} (hm : ps.length = m + 1) (hgg : w.heap[g]? = some (.cells cur 84 (0, 0))) (hnc : m + 1 ≤ cap) (hcm : cap ≤ maxLen) (hcs : cur.size = cap * 3) (htake : cur.toList.take (ps.length * 3) = cellsOf ps)
    (hone : ∀ p ∈ ps, p.2.oneCell' = true) (hin : i ≤ m) (hmax : m ≤ 1000) :
    Calls Tryd.prog 88 #[.slice (some ⟨g, 0, none⟩) (m + 1) cap, .int .i64 i, .int .i64 (i + 1)] w fun e w' => e = .returned (.slice (some ⟨g, 0, none⟩) m cap) ∧
      w'.ownsRow 0 84 3 (.slice (some ⟨g, 0, none⟩) m cap) m (cellsOf (ps.take i ++ ps.drop (i + 1))) ∧ w.grownBy w' (some g) := by
  obtain ⟨i0, hi, hz0, hz1, hz2⟩ := info_parts Tryd.info84
  have hone' := cellsOf_one ps hone
  have hcl := cellsOf_length ps
  rw [hm] at hcl htake
  obtain ⟨C, HC⟩ := named (cellsOf ps)
  have HE : Hid _ := cellsOf_del ps i
  rw [← HC.out] at HE htake hone' hcl
  obtain ⟨R, HR⟩ := named (cellsOf (ps.take i ++ ps.drop (i + 1)))
  rw [← HR.out] at HE ⊢
  clear hone
  obtain ⟨news, HNW⟩ := named (C.drop (i * 3 + 3))
  have hlen : news.length = (m - i) * 3 := by rw [HNW.out, List.length_drop, hcl]; omega
  have hcell : ∀ j v, C[j]? = some v → w.cell? ⟨g, j, none⟩ = some v := by
    intro j v hj
    rw [cell_of hgg]
    have : cur.toList[j]? = some v := by
      rw [← htake, List.getElem?_take] at hj
      split at hj
      · exact hj
      · cases hj
    simpa using this
  obtain ⟨A, hA, hsrc⟩ : ∃ A : Addr, (if cap = i + 1 then some (⟨g, 0, none⟩ : Addr) else some ⟨g, (i + 1) * 3, none⟩) = some A ∧ Hid (∀ t u, news[t]? = some u → w.drew.cell? (A.add t) = some u) := by
    by_cases h : cap = i + 1
    · refine ⟨⟨g, 0, none⟩, by simp [h], fun t u hu => ?_⟩
      have h0 : news.length = 0 := by rw [hlen]; omega
      rw [List.length_eq_zero_iff.1 h0] at hu
      simp at hu
    · refine ⟨⟨g, (i + 1) * 3, none⟩, by simp [h], fun t u hu => ?_⟩
      rw [Addr.add_lit, show (i + 1) * 3 = i * 3 + 3 by omega]
      rw [HNW.out, List.getElem?_drop] at hu
      exact hcell _ _ hu
  obtain ⟨L1, HL1⟩ := named (cur.toList.take (i * 3) ++ news ++ cur.toList.drop (i * 3 + news.length))
  have hL : m * 3 + 3 ≤ cur.toList.length := by rw [Array.length_toList, hcs]; omega
  obtain ⟨z, HZ⟩ := named ((Builtin.zeroCells (Value.agg #[.string ⟨#[]⟩, .slice none 0 0, .int .i64 0]).cells 1).toList)
  have hzl : z.length = 3 := by rw [HZ.out, zero1]; rfl
  obtain ⟨X1, X2, X3⟩ := cut_list cur.toList C z (i * 3) (m * 3) 3 hzl (by rw [show m * 3 + 3 = (m + 1) * 3 by omega]; exact htake) hL (by omega) L1 (by rw [HL1.out, HNW.out])
  obtain ⟨L2, HL2⟩ := named (L1.take (m * 3) ++ z ++ L1.drop (m * 3 + 3))
  rw [← HL2.out] at X1 X2
  rw [← HNW.out] at HE X1
  have hq : i + (m - i) = m := by omega
  have happ : ∀ ty c, (Builtin.append_ #[77, 77] ty #[.slice (some ⟨g, 0, none⟩) i cap, .slice (some A) (m - i) c]).run Tryd.prog w.drew = .ok (.slice (some ⟨g, 0, none⟩) m cap) (w.drew.setRow g L1.toArray) := fun ty c => by
    have h := run_append_room (P := Tryd.prog) w.drew 77 ty 84 i0 Tryd.underlying77 hi g i cap cur hgg A (m - i) c news (by rw [hlen, hz1]) hsrc.out (fun u hu => hone' u (by rw [HNW.out] at hu; exact List.mem_of_mem_drop hu)) (by omega) (by rw [hz1, hlen]; omega)
    rw [h, hq, hz1, HL1.out]
  obtain ⟨W1, HW1⟩ := named (w.drew.setRow g L1.toArray)
  rw [← HW1.out] at happ
  have hg1 : W1.heap[g]? = some (.cells L1.toArray 84 (0, 0)) := by rw [HW1.out]; exact setRow_heap w.drew g cur _ 84 (0, 0) hgg
  have hzv : ∀ w, (zeroValue 84).run Tryd.prog w = .ok (.agg #[.string ⟨#[]⟩, .slice none 0 0, .int .i64 0]) w := fun w => by simp [zeroValue, typeInfo, hi, hz0]
  have hclr : ∀ ty c, (Builtin.clear_ #[77] ty #[.slice (some ⟨g, m * 3, none⟩) 1 c]).run Tryd.prog W1 = .ok (.tuple #[]) (W1.setRow g L2.toArray) := fun ty c => by
    have h := run_clear_rowk (P := Tryd.prog) W1 77 84 ty _ Tryd.underlying77 hzv g (m * 3) 1 c L1.toArray 84 hg1 (by show m * 3 + 1 * 3 ≤ _; simp [X3]; omega) (by intro u hu; rw [zero1] at hu; simp at hu; rcases hu with rfl | rfl | rfl <;> rfl) (by omega)
    rw [h, HL2.out, HZ.out]
    rfl
  have HX : Hid _ := And.intro X1 X2
  have HG : Hid _ := hg1
  clear X1 X2 X3 hone' hi hz0 hz1 hz2 hgg hg1 htake hcell hL hzv
  unfold maxLen at hcm
  have hic : i ≤ cap := by omega
  have hnm : ¬ (cap = m) := by omega
  have hb5 : (i : Int) ≤ (m : Int) := by omega
  have hmm : m + 1 - m = 1 := by omega
  have hb1 : (0 : Int) ≤ (i : Int) + 1 := by omega
  have mixed : Tryd.prog.follows Departure.mixedOrders = true := by kernel_rfl
  go_enter Tryd.func88, Tryd.ntmps88
  go_wp2_with fail
  go_region_law_o (refine step_append_runI rfl (.tmp 22) (.tmp 25) 77 77 rfl (.slice (some ⟨g, 0, none⟩) i cap) (.slice (some A) (m - i) (cap - (i + 1))) (by simp [Act.eval, Act.put]) (by simp [Act.eval, Act.put]) (happ _ _) ?_)
  go_wp2
  go_ret
  obtain ⟨X1, X2⟩ := HX.out
  rw [← HE.out] at X1
  refine ⟨rfl, ⟨?_, .inr ⟨g, cap, _, rfl, Nat.zero_le _, setRow_heap W1 g L1.toArray _ 84 (0, 0) HG.out, by omega, by unfold maxLen; omega, ?_, ?_⟩⟩, ?_⟩
  · rw [← X1, List.length_take, X2, Array.length_toList]; omega
  · rw [List.size_toArray, X2, Array.length_toList, hcs]
  · exact X1
  · refine grownBy.trans ?_ (grownBy_setRow W1 g _)
    rw [HW1.out]
    exact grownBy.trans (grownBy.drew (grownBy.refl w _)) (grownBy_setRow w.drew g _)
end Go.Proofs.YtffgbjojngnebaaDoor
