/-
  The contracts of New, Arm, Down, Read, List, Size, Synced, Used, as the caller sees them. Own work.
-/
import Derived.Test.YtloigepmmhcibaaEa
namespace Go.Proofs.Ytloigepmmhcibaa
open Go.RowKit

theorem two_new' (w : World) (o p : Obj) : ((w.alloc o).alloc p).heap[w.heap.size]? = some o ∧ ((w.alloc o).alloc p).heap[w.heap.size + 1]? = some p ∧ Below w.heap.size w ((w.alloc o).alloc p) ∧ ((w.alloc o).alloc p).heap.size = w.heap.size + 2 := by
  refine ⟨?_, ?_, ((Below.refl _ _).alloc (Nat.le_refl _) _).alloc (by simp) _, by simp⟩
  · rw [Below.heap_alloc _ _ _ (by simp)]; exact heap_alloc_new w o
  · have := heap_alloc_new (w.alloc o) p
    rw [World.size_alloc] at this
    exact this

set_option maxRecDepth 100000 in
set_option maxHeartbeats 1000000 in
theorem new_any (w : World) (m : Nat) (hm : m ≤ 16777216) :
    Calls Try.prog 12 #[.int .i64 m] w fun e w' => ∃ d, e = .returned (.tuple #[d, .int .i64 0]) ∧ Dk w' (fun b => w.heap.size ≤ b ∧ b < w'.heap.size) d (newD m) ∧ Below w.heap.size w w' ∧ d ≠ .pointer none := by
  have h1 : ¬ ((m : Int) < 0) := by omega
  have h2 : ¬ ((16777216 : Int) < (m : Int)) := by omega
  obtain ⟨T1, T2, T3, T4⟩ := two_new' w (.cells #[.slice none 0 0, .nilFunc, .int .i64 m, .int .i64 (-1), .bool false] 79) (.cells #[.pointer (some ⟨w.heap.size, 0, none⟩)] 55)
  have hst : (store ⟨w.heap.size, 1, none⟩ (.func (.func 40) #[] #[.pointer (some ⟨w.heap.size + 1, 0, none⟩)])).run Try.prog ((w.alloc (.cells #[.slice none 0 0, .nilFunc, .int .i64 m, .int .i64 (-1), .bool false] 79)).alloc (.cells #[.pointer (some ⟨w.heap.size, 0, none⟩)] 55)) = .ok () (((w.alloc (.cells #[.slice none 0 0, .nilFunc, .int .i64 m, .int .i64 (-1), .bool false] 79)).alloc (.cells #[.pointer (some ⟨w.heap.size, 0, none⟩)] 55)).setCell ⟨w.heap.size, 1, none⟩ (.func (.func 40) #[] #[.pointer (some ⟨w.heap.size + 1, 0, none⟩)])) := by
    rw [run_store Try.prog _ _ _ _ rfl, cell_of T1, frozen_of T1]
    rfl
  obtain ⟨W, HW⟩ := named (((w.alloc (.cells #[.slice none 0 0, .nilFunc, .int .i64 m, .int .i64 (-1), .bool false] 79)).alloc (.cells #[.pointer (some ⟨w.heap.size, 0, none⟩)] 55)).setCell ⟨w.heap.size, 1, none⟩ (.func (.func 40) #[] #[.pointer (some ⟨w.heap.size + 1, 0, none⟩)]))
  rw [← HW.out] at hst
  have g1 : W.heap[w.heap.size]? = some (.cells #[.slice none 0 0, .func (.func 40) #[] #[.pointer (some ⟨w.heap.size + 1, 0, none⟩)], .int .i64 m, .int .i64 (-1), .bool false] 79 (0, 0)) := by rw [HW.out, heap_set T1]; rfl
  have g2 : W.heap[w.heap.size + 1]? = some (.cells #[.pointer (some ⟨w.heap.size, 0, none⟩)] 55 (0, 0)) := by rw [HW.out, Below.heap_setCell _ _ _ _ (by show w.heap.size + 1 ≠ w.heap.size; omega)]; exact T2
  have HB : Hid (Below w.heap.size w W) := by rw [HW.out]; exact T3.setCell (Nat.le_refl _) _
  have hz : W.heap.size = w.heap.size + 2 := by rw [HW.out]; simp [World.setCell]
  have k1 : W.cell? ⟨w.heap.size + 1, 0, none⟩ = some (.pointer (some ⟨w.heap.size, 0, none⟩)) := by rw [cell_of g2]; rfl
  have G1 : Hid _ := g1
  have G2 : Hid _ := g2
  have HZ : Hid _ := hz
  clear T1 T2 T3 T4 g1 g2 hz
  go_enter Try.func12, Try.ntmps12
  go_wp2
  go_ret2
  have hlt : w.heap.size < W.heap.size := by rw [HZ.out]; omega
  refine ⟨_, rfl, ⟨W.heap.size, w.heap.size, w.heap.size + 1, .slice none 0 0, [], rfl, ⟨?_, ?_, ?_, World.ownsRow_nil _ _ _ _, fun p hp => absurd hp List.not_mem_nil, List.Pairwise.nil⟩, rfl, fun b hb => ?_, new_ok m hm⟩, HB.out.alloc HB.out.size _, by simp⟩
  · exact heap_alloc_new W _
  · rw [Below.heap_alloc _ _ _ hlt]; exact G1.out
  · rw [Below.heap_alloc _ _ _ (by rw [HZ.out]; omega)]; exact G2.out
  · have e : (W.alloc (Obj.cells #[Value.pointer (some ⟨w.heap.size, 0, none⟩)] 57)).heap.size = w.heap.size + 3 := by rw [World.size_alloc, HZ.out]
    show w.heap.size ≤ b ∧ b < (W.alloc (Obj.cells #[Value.pointer (some ⟨w.heap.size, 0, none⟩)] 57)).heap.size
    rw [e]
    have := HZ.out
    rcases hb with h | h | h | h | ⟨p, hp, _⟩
    · omega
    · omega
    · omega
    · cases h
    · exact absurd hp List.not_mem_nil
set_option maxRecDepth 100000 in
set_option maxHeartbeats 1000000 in
theorem new_bad (w : World) (m : Int) (hm : m < 0 ∨ 16777216 < m) : Calls Try.prog 12 #[.int .i64 m] w fun e w' => e = .returned (.tuple #[.pointer none, .int .i64 2]) ∧ w' = w := by
  rcases hm with hm | hm
  · go_enter Try.func12, Try.ntmps12
    go_wp2
    go_ret2
    exact ⟨rfl, rfl⟩
  · have h1 : ¬ (m < 0) := by omega
    go_enter Try.func12, Try.ntmps12
    go_wp2
    go_ret2
    exact ⟨rfl, rfl⟩
theorem arm_any {w : World} {F : Nat → Prop} {d : Value} {D : AD} (h : Dk w F d D) (n : Int) (hn : n ≤ 9223372036854775807) :
    Calls Try.prog 22 #[d, .int .i64 n] w fun e w' => e = .returned (.tuple #[]) ∧ Dk w' F d (armD D n) ∧ Chg F w w' := by
  obtain ⟨bd, bs, bc, fv, ps, rfl, hst, hps, hF, hok⟩ := id h
  refine (arm_cell w bd bs D.dark n hst.d0 hst.s4 ⟨_, hst.s3⟩ (hst.sz 3)).mono ?_
  rintro e w' ⟨rfl, rfl⟩
  unfold armD
  cases hd : D.dark with
  | true => exact ⟨rfl, by simpa using h, by simpa using Chg.refl F w⟩
  | false =>
    refine ⟨rfl, ?_, ?_⟩
    · have hS := hst.setFuse (max n 0)
      have hk := arm_ok hok n hn
      unfold armD at hk
      rw [if_neg (by rw [hd]; simp)] at hk
      simp only [Bool.false_eq_true, ↓reduceIte]
      exact ⟨bd, bs, bc, fv, ps, rfl, by rw [hd] at hS; simpa [hd] using hS, hps, hF, by rw [hd] at hk; exact hk⟩
    · simp only [Bool.false_eq_true, ↓reduceIte]
      exact (Chg.refl F w).setCell (p := ⟨bs, 3, none⟩) (.inl (hF bs (.inr (.inl rfl)))) _
theorem down_any {w : World} {F : Nat → Prop} {d : Value} {D : AD} (h : Dk w F d D) : Calls Try.prog 23 #[d] w fun e w' => e = .returned (.bool D.dark) ∧ w' = w := by
  obtain ⟨bd, bs, bc, fv, ps, rfl, hst, hps, hF, hok⟩ := h
  exact down_cell w bd bs D.dark hst.d0 hst.s4
theorem psl {ps : List (AF × Value)} {D : AD} (hps : ps.map Prod.fst = D.files) (hok : D.ok) : ps.length ≤ 1000 := by
  have h1 := hok.many
  have h2 : ps.length = D.files.length := by rw [← hps, List.length_map]
  omega
theorem size_any {w : World} {F : Nat → Prop} {d : Value} {D : AD} (h : Dk w F d D) (n : ByteArray) : Calls Try.prog 24 #[d, .string n] w fun e w' => e = .returned (.int .i64 (lookF D.files n).bytes.length) ∧ Below w.heap.size w w' := by
  obtain ⟨bd, bs, bc, fv, ps, rfl, hst, hps, hF, hok⟩ := h
  have := size_st hst (by rw [hps]; exact hok.sorted) (psl hps hok) n
  rw [hps] at this
  exact this
theorem synced_any {w : World} {F : Nat → Prop} {d : Value} {D : AD} (h : Dk w F d D) (n : ByteArray) : Calls Try.prog 34 #[d, .string n] w fun e w' => e = .returned (.int .i64 (lookF D.files n).safe) ∧ Below w.heap.size w w' := by
  obtain ⟨bd, bs, bc, fv, ps, rfl, hst, hps, hF, hok⟩ := h
  have := synced_st hst (by rw [hps]; exact hok.sorted) (psl hps hok) n
  rw [hps] at this
  exact this
theorem used_any {w : World} {F : Nat → Prop} {d : Value} {D : AD} (h : Dk w F d D) : Calls Try.prog 20 #[d] w fun e w' => e = .returned (.int .i64 (used D.files)) ∧ Below w.heap.size w w' := by
  obtain ⟨bd, bs, bc, fv, ps, rfl, hst, hps, hF, hok⟩ := h
  have := used_st hst (psl hps hok) (by rw [hps]; have h1 := hok.room; have h2 := hok.most; omega)
  rw [hps] at this
  exact this
theorem list_any {w : World} {F : Nat → Prop} {d : Value} {D : AD} (h : Dk w F d D) : Calls Try.prog 15 #[d] w fun e w' => ∃ v, e = .returned v ∧ OwnS w' w.heap.size v (D.files.map AF.name) ∧ Below w.heap.size w w' := by
  obtain ⟨bd, bs, bc, fv, ps, rfl, hst, hps, hF, hok⟩ := h
  have := list_st hst (psl hps hok)
  rw [show (ps.map fun p => p.1.name) = D.files.map AF.name by rw [← hps, List.map_map]; rfl] at this
  exact this
theorem read_any {w : World} {F : Nat → Prop} {d : Value} {D : AD} (h : Dk w F d D) (n : ByteArray) : Calls Try.prog 33 #[d, .string n] w fun e w' => ∃ v, e = .returned (.tuple #[v, .int .i64 (readD D n).2]) ∧ Own w' w.heap.size v (readD D n).1 ∧ Below w.heap.size w w' := by
  obtain ⟨bd, bs, bc, fv, ps, rfl, hst, hps, hF, hok⟩ := h
  have hr := read_st hst (by rw [hps]; exact hok.sorted) (psl hps hok) (by rw [hps]; have h1 := hok.room; have h2 := hok.most; omega) n
  rw [hps] at hr
  refine hr.mono ?_
  rintro e w' ⟨v, rfl, ho, hb⟩
  refine ⟨v, ?_, ?_, hb⟩
  · unfold readD
    cases D.dark <;> cases isF D.files n <;> simp
  · unfold readD
    cases hd : D.dark <;> cases hi : isF D.files n <;> simpa [hd, hi] using ho
end Go.Proofs.Ytloigepmmhcibaa
