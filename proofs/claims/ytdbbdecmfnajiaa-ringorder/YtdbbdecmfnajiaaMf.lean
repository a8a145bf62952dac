/-
  The contract of move. Own work.
-/
import Derived.Test.YtdbbdecmfnajiaaMe
import Derived.Laws.MakeOwn
namespace Go.Proofs.Ytdbbdecmfnajiaa
open Go.RowKit

/-- the numbers have been laid into new places -/
def Moved (w w' : World) (qb : Nat) (most : Int) (m count : Nat) (l : List Int) : Prop :=
  ∃ g2 k, Qm w' qb (.slice (some ⟨g2, 0, none⟩) m m) most m 0 count k ∧ qL k 0 m count = l ∧ w.heap.size ≤ g2 ∧ Chg (· = qb) w w'
theorem moved_end {w u2 : World} {qb n first count g2 m : Nat} {pv : Value} {most : Int} {f k : Nat → Int} (h : Qm w qb pv most n first count f) (hb : Below w.heap.size w u2) (hc : u2.heap[qb]? = some (.cells #[.int .i64 most, pv, .int .i64 first, .int .i64 count] 93 (0, 0)))
    (hk : Pl u2 (.slice (some ⟨g2, 0, none⟩) m m) m k) (hk2 : ∀ i, i < count → k i = f ((first + i) % n)) (hm : count ≤ m) (hm0 : 0 < m) (_ : m ≤ 1000000) (hg : w.heap.size ≤ g2) :
    Moved w ((u2.setCell ⟨qb, 1, none⟩ (.slice (some ⟨g2, 0, none⟩) m m)).setCell ⟨qb, 2, none⟩ (.int .i64 0)) qb most m count (qL f first n count) := by
  have hq := lt_of h.cs
  have a1 := heap_setCell_same u2 qb 1 _ 93 (.slice (some ⟨g2, 0, none⟩) m m) hc
  have a2 := heap_setCell_same _ qb 2 _ 93 (.int .i64 0) a1
  refine ⟨g2, k, ⟨by simpa using a2, hk.heap fun a e => ?_, .inl hm0, hm, h.mo, h.cm⟩, ?_, hg, ?_⟩
  · cases e
    rw [Below.heap_setCell _ _ _ _ (by simp only; omega), Below.heap_setCell _ _ _ _ (by simp only; omega)]
  · unfold qL
    refine List.map_congr_left fun i hi => ?_
    have hi := List.mem_range.1 hi
    rw [Nat.zero_add, Nat.mod_eq_of_lt (by omega), hk2 i hi]
  · exact ((Chg.ofBelow hb (fun x => x = qb)).setCell (p := ⟨qb, 1, none⟩) (.inl rfl) _).setCell (p := ⟨qb, 2, none⟩) (.inl rfl) _

set_option maxRecDepth 100000 in
set_option maxHeartbeats 3200000 in
theorem move_any {w : World} {qb n first count : Nat} {pv : Value} {most : Int} {f : Nat → Int} (h : Qm w qb pv most n first count f) (m : Nat) (hm : count ≤ m) (hm0 : 0 < m) (hm2 : m ≤ 1000000) :
    Calls Try.prog 60 #[.pointer (some ⟨qb, 0, none⟩), .int .i64 m] w fun e w' => e = .returned (.tuple #[]) ∧ Moved w w' qb most m count (qL f first n count) := by
  obtain ⟨i0, hinf, hz0, hz1, hz2⟩ := info_parts Try.info3
  obtain ⟨M, hM⟩ : ∃ M, M = madeCells (Value.int .i64 0).cells (m * i0.size) := ⟨_, rfl⟩
  have hMs : M.size = m := by rw [hM, size_madeCells, hz1]; omega
  have hMz : ∀ i, i < m → M[i]? = some (.int .i64 0) := fun i hi => by
    rw [hM, hz1, Nat.mul_one]
    unfold madeCells
    rw [Array.getElem?_map, Array.getElem?_range]
    have e : (Value.int .i64 0).cells = #[.int .i64 0] := rfl
    simp [hi, e, Nat.mod_one]
  have hmk : ∀ W : World, (Instr.makeSlice 22 (.int .i64 0) (.int .i64 (m : Int))).run Try.prog W = .ok (.slice (some ⟨W.heap.size, 0, none⟩) 0 m) (W.alloc (.cells M 3)) := fun W => by
    have h := run_make (P := Try.prog) W 22 3 i0 (.int .i64 0) Try.underlying22 hinf hz0 .i64 .i64 0 (m : Int) (by omega) (by omega) (by rw [hz2]; omega) (by omega)
    simp only [Int.toNat_natCast] at h
    rw [← hM] at h
    simpa using h
  obtain ⟨X, HX⟩ := named ((w.alloc (.cells M 3)).drew)
  have hbX : Below w.heap.size w X := by rw [HX.out]; exact ((Below.refl _ _).alloc (Nat.le_refl _) _).drew
  have hz : Pl X (.slice (some ⟨w.heap.size, 0, none⟩) m m) m (fun _ => 0) := .inr ⟨_, M, rfl, by rw [HX.out]; exact heap_new w _, hMs, hm0, hm2, hMz⟩
  have kg := gather_into h hbX hm hz (Nat.le_refl _)
  obtain ⟨ao, rfl⟩ := h.pl.shape.2
  have HCS : Hid (∀ u : World, Below w.heap.size w u → u.heap[qb]? = some (.cells #[.int .i64 most, .slice ao n n, .int .i64 first, .int .i64 count] 93 (0, 0))) := fun u hu => (hu.block _ (lt_of h.cs)).trans h.cs
  have HS : Hid (∀ u : World, Below w.heap.size w u → u.cell? ⟨qb, 1, none⟩ = some (.slice ao n n)) := fun u hu => by rw [cell_of (HCS.out u hu)]; rfl
  have hs0 : w.drew.cell? ⟨qb, 1, none⟩ = some (.slice ao n n) := h.s1
  have h1 := hide (HS.out X hbX)
  have HQ := hide h
  have HM : Hid (count ≤ m ∧ 0 < m ∧ m ≤ 1000000) := ⟨hm, hm0, hm2⟩
  have HG : Hid (w.heap.size ≤ w.heap.size) := Nat.le_refl _
  have hmI : (0 : Int) ≤ (m : Int) := by omega
  have hmJ : (m : Int) ≤ 1000000 := by omega
  have hcI : (count : Int) ≤ (m : Int) := by omega
  clear hbX hz h hM hMs hMz hinf hz0 hz1 hz2 hm hm0 hm2
  go_enter Try.func60, Try.ntmps60
  go_wp2_with fail
  refine wp_region_held_drew (S := (fun u => u.cell? ⟨qb, 1, none⟩ = some (.slice ao n n))) (by kernel_rfl) hs0 (fun _ => ?_)
  refine wpAnyH_take (i := 0) (oi := { dst := some 5, op := Go.Op.move (Go.Operand.tmp 1), type := 3, pos := "queue.go:67", after := #[], guard := none }) (v := ?_) rfl (by kernel_rfl) (by kernel_rfl) (by kernel_rfl) (fun _ _ _ h => h) (Or.inl ⟨by rfl, ?hy1⟩) hs0 ?_
  case hy1 =>
    intro u hu
    obtain u0 := hu
    go_simp
    try with_reducible rfl
  simp only [Act.put, List.setIfInBounds_toArray, List.set_cons_zero, List.set_cons_succ]
  refine wpAnyH_take (i := 2) (oi := { dst := some 7, op := Go.Op.move (Go.Operand.tmp 0), type := 89, pos := "queue.go:67", after := #[], guard := none }) (v := ?_) rfl (by kernel_rfl) (by kernel_rfl) (by kernel_rfl) (fun _ _ _ h => h) (Or.inl ⟨by rfl, ?hy2⟩) hs0 ?_
  case hy2 =>
    intro u hu
    obtain u0 := hu
    go_simp
    try with_reducible rfl
  simp only [Act.put, List.setIfInBounds_toArray, List.set_cons_zero, List.set_cons_succ]
  refine wpAnyH_take (i := 3) (oi := { dst := some 8, op := Go.Op.nilCheck (Go.Operand.tmp 7), type := 0, pos := "queue.go:67", after := #[{ on := 2, ground := Go.Ground.data }], guard := none }) (v := ?_) rfl (by kernel_rfl) (by kernel_rfl) (by kernel_rfl) (fun _ _ _ h => h) (Or.inl ⟨by rfl, ?hy3⟩) hs0 ?_
  case hy3 =>
    intro u hu
    obtain u0 := hu
    go_simp
    try with_reducible rfl
  simp only [Act.put, List.setIfInBounds_toArray, List.set_cons_zero, List.set_cons_succ]
  refine wpAnyH_take (i := 4) (oi := { dst := some 9, op := Go.Op.fieldAddr 93 (Go.Operand.tmp 8) 1, type := 0, pos := "queue.go:67", after := #[{ on := 3, ground := Go.Ground.data }], guard := none }) (v := ?_) rfl (by kernel_rfl) (by kernel_rfl) (by kernel_rfl) (fun _ _ _ h => h) (Or.inl ⟨by rfl, ?hy4⟩) hs0 ?_
  case hy4 =>
    intro u hu
    obtain u0 := hu
    go_simp
    try with_reducible rfl
  simp only [Act.put, List.setIfInBounds_toArray, List.set_cons_zero, List.set_cons_succ]
  refine wpAnyH_take (i := 5) (oi := { dst := some 10, op := Go.Op.load 22 (Go.Operand.tmp 9), type := 22, pos := "queue.go:67", after := #[{ on := 4, ground := Go.Ground.data }], guard := none }) (v := ?_) rfl (by kernel_rfl) (by kernel_rfl) (by kernel_rfl) (fun _ _ _ h => h) (Or.inl ⟨by rfl, ?hy5⟩) hs0 ?_
  case hy5 =>
    intro u hu
    obtain u0 := hu
    go_simp
    try with_reducible rfl
  simp only [Act.put, List.setIfInBounds_toArray, List.set_cons_zero, List.set_cons_succ]
  refine wpAnyH_take (i := 6) (oi := { dst := some 11, op := Go.Op.move (Go.Operand.tmp 0), type := 89, pos := "queue.go:67", after := #[], guard := none }) (v := ?_) rfl (by kernel_rfl) (by kernel_rfl) (by kernel_rfl) (fun _ _ _ h => h) (Or.inl ⟨by rfl, ?hy6⟩) hs0 ?_
  case hy6 =>
    intro u hu
    obtain u0 := hu
    go_simp
    try with_reducible rfl
  simp only [Act.put, List.setIfInBounds_toArray, List.set_cons_zero, List.set_cons_succ]
  refine wpAnyH_take (i := 7) (oi := { dst := some 12, op := Go.Op.makeFunc (Go.Fn.func 54) #[Go.Operand.tmp 11] #[], type := 97, pos := "queue.go:67", after := #[{ on := 6, ground := Go.Ground.data }], guard := none }) (v := ?_) rfl (by kernel_rfl) (by kernel_rfl) (by kernel_rfl) (fun _ _ _ h => h) (Or.inl ⟨by rfl, ?hy7⟩) hs0 ?_
  case hy7 =>
    intro u hu
    obtain u0 := hu
    go_simp
    try with_reducible rfl
  simp only [Act.put, List.setIfInBounds_toArray, List.set_cons_zero, List.set_cons_succ]
  refine wpAnyH_ready (rs := [1]) (by kernel_rfl) (by simp) ?_
  refine AllReadyH.cons (o := { dst := some 6, op := Go.Op.makeSlice 22 (Go.Operand.const (Go.Value.int Go.IntKind.i64 0)) (Go.Operand.tmp 5), type := 22, pos := "queue.go:67", after := #[{ on := 0, ground := Go.Ground.data }], guard := none }) rfl (fun K hK => ?_) AllReadyH.nil
  go_simp
  rw [← HX.out]
  refine hK.out _ _ h1.out (fun _ => ?_)
  clear hK K
  try simp only [Act.put, List.setIfInBounds_toArray, List.set_cons_zero, List.set_cons_succ]
  refine wpAnyH_ready (rs := [8]) (by kernel_rfl) (by simp) ?_
  refine AllReadyH.cons (o := { dst := some 13, op := Go.Op.call { callee := Go.Callee.value (Go.Operand.func 53), args := #[Go.Operand.tmp 6, Go.Operand.tmp 10, Go.Operand.tmp 12], argTypes := #[22, 22, 97] }, type := 22, pos := "queue.go:67", after := #[{ on := 1, ground := Go.Ground.data }, { on := 5, ground := Go.Ground.data }, { on := 7, ground := Go.Ground.data }], guard := none }) rfl (fun K hK => ?_) AllReadyH.nil
  go_simp
  (with_reducible refine Calls.mono kg ?_)
  rintro e u2 ⟨rfl, hbu, hk⟩
  have HBU := hide hbu
  have HK := hide hk
  have h2 := HS.out _ HBU.out
  clear hbu hk
  refine hK.out _ _ h2 (fun _ => ?_)
  clear hK K
  try simp only [Act.put, List.setIfInBounds_toArray, List.set_cons_zero, List.set_cons_succ]
  refine wpAnyH_ready (rs := [9]) (by kernel_rfl) (by simp) ?_
  refine AllReadyH.cons (o := { dst := some 4, op := Go.Op.assign (Go.Operand.tmp 13), type := 22, pos := "queue.go:67", after := #[{ on := 8, ground := Go.Ground.data }, { on := 8, ground := Go.Ground.chain }, { on := 0, ground := Go.Ground.phase }, { on := 1, ground := Go.Ground.phase }, { on := 2, ground := Go.Ground.phase }, { on := 3, ground := Go.Ground.phase }, { on := 4, ground := Go.Ground.phase }, { on := 5, ground := Go.Ground.phase }, { on := 6, ground := Go.Ground.phase }, { on := 7, ground := Go.Ground.phase }, { on := 8, ground := Go.Ground.phase }], guard := none }) rfl (fun K hK => ?_) AllReadyH.nil
  go_simp
  refine hK.out _ _ h2 (fun _ => ?_)
  clear hK K
  try simp only [Act.put, List.setIfInBounds_toArray, List.set_cons_zero, List.set_cons_succ]
  refine wpAnyH_done (by kernel_rfl) ?_ _
  have HW2 := HCS.out _ HBU.out
  have q1 : u2.cell? ⟨qb, 1, none⟩ = some (.slice ao n n) := by rw [cell_of HW2]; rfl
  have q2 : u2.cell? ⟨qb, 2, none⟩ = some (.int .i64 first) := by rw [cell_of HW2]; rfl
  have z1 : u2.frozen? ⟨qb, 1, none⟩ = false := frozen_of HW2 1
  have z2 : u2.frozen? ⟨qb, 2, none⟩ = false := frozen_of HW2 2
  have HH2 := hide HW2
  clear HW2
  go_wp2_with fail
  go_end0
  obtain ⟨k, hk1, hk2⟩ := HK.out
  exact ⟨rfl, moved_end HQ.out HBU.out HH2.out hk1 hk2 HM.out.1 HM.out.2.1 HM.out.2.2 HG.out⟩
end Go.Proofs.Ytdbbdecmfnajiaa
