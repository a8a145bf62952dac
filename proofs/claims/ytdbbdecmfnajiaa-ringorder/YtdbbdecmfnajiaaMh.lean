/-
  The contracts of closeUp's closure. Own work.
-/
import Derived.Test.YtdbbdecmfnajiaaMg
namespace Go.Proofs.Ytdbbdecmfnajiaa
open Go.RowKit

set_option maxRecDepth 100000 in
set_option maxHeartbeats 3200000 in
/-- found already: the number goes one place up -/
theorem close_found {w : World} {b0 b1 b2 b3 g n at' gap : Nat} {x y : Int} (c0 : w.cell? ⟨b0, 0, none⟩ = some (.bool true)) (c1 : w.cell? ⟨b1, 0, none⟩ = some (.slice (some ⟨g, 0, none⟩) n n)) (c2 : w.cell? ⟨b2, 0, none⟩ = some (.int .i64 gap)) (cg : w.cell? ⟨g, at', none⟩ = some (.int .i64 y)) (cx : w.cell? ⟨g, gap, none⟩ = some (.int .i64 x))
    (hfz : ∀ o, w.frozen? ⟨g, o, none⟩ = false) (hf2 : w.frozen? ⟨b2, 0, none⟩ = false) (hat : at' < n) (hgap : gap < n) (hne : gap ≠ at') (h12 : b1 ≠ b2) (h1g : b1 ≠ g) (h2g : b2 ≠ g) :
    Calls Try.prog 82 #[.int .i64 at', .pointer (some ⟨b0, 0, none⟩), .pointer (some ⟨b1, 0, none⟩), .pointer (some ⟨b2, 0, none⟩), .pointer (some ⟨b3, 0, none⟩)] w fun e w' => e = .returned (.tuple #[]) ∧ ∃ k, w' = ((w.setCell ⟨g, gap, none⟩ (.int .i64 y)).setCell ⟨b2, 0, none⟩ (.int .i64 at')).drewN k := by
  have fz := hfz gap
  have cb2 : (w.setCell ⟨g, gap, none⟩ (.int .i64 y)).cell? ⟨b2, 0, none⟩ = some (.int .i64 gap) := by rw [World.cell?_setCell_far _ _ _ _ (Ne.symm h2g)]; exact c2
  have h0 : Hid (w.drew.cell? ⟨b1, 0, none⟩ = some (.slice (some ⟨g, 0, none⟩) n n) ∧ w.drew.cell? ⟨g, at', none⟩ = some (.int .i64 y)) := ⟨c1, cg⟩
  have q1 : (w.setCell ⟨g, gap, none⟩ (.int .i64 y)).cell? ⟨b1, 0, none⟩ = some (.slice (some ⟨g, 0, none⟩) n n) := by rw [World.cell?_setCell_far _ _ _ _ (Ne.symm h1g)]; exact c1
  have q2 : (w.setCell ⟨g, gap, none⟩ (.int .i64 y)).cell? ⟨g, at', none⟩ = some (.int .i64 y) := by rw [World.cell?_setCell_other _ _ _ _ (by simp)]; exact cg
  have h1 : Hid ((w.setCell ⟨g, gap, none⟩ (.int .i64 y)).drew.cell? ⟨b1, 0, none⟩ = some (.slice (some ⟨g, 0, none⟩) n n) ∧ (w.setCell ⟨g, gap, none⟩ (.int .i64 y)).drew.cell? ⟨g, at', none⟩ = some (.int .i64 y)) := ⟨q1, q2⟩
  have h2 : Hid (((w.setCell ⟨g, gap, none⟩ (.int .i64 y)).setCell ⟨b2, 0, none⟩ (.int .i64 at')).drew.cell? ⟨b1, 0, none⟩ = some (.slice (some ⟨g, 0, none⟩) n n) ∧ ((w.setCell ⟨g, gap, none⟩ (.int .i64 y)).setCell ⟨b2, 0, none⟩ (.int .i64 at')).drew.cell? ⟨g, at', none⟩ = some (.int .i64 y)) := by
    refine ⟨?_, ?_⟩
    · show ((w.setCell ⟨g, gap, none⟩ (.int .i64 y)).setCell ⟨b2, 0, none⟩ (.int .i64 at')).cell? ⟨b1, 0, none⟩ = _
      rw [World.cell?_setCell_far _ _ _ _ (Ne.symm h12)]; exact q1
    · show ((w.setCell ⟨g, gap, none⟩ (.int .i64 y)).setCell ⟨b2, 0, none⟩ (.int .i64 at')).cell? ⟨g, at', none⟩ = _
      rw [World.cell?_setCell_far _ _ _ _ h2g]; exact q2
  clear q1 q2
  have hatI : (at' : Int) < (n : Int) := by omega
  have hgI : (gap : Int) < (n : Int) := by omega
  have h2g' : ¬ g = b2 := Ne.symm h2g
  clear hfz hat hgap cg
  go_enter Try.func82, Try.ntmps82
  go_wp2_with fail
  have hs0 := h0.out
  refine wp_region_held_drew (S := (fun u => u.cell? ⟨b1, 0, none⟩ = some (.slice (some ⟨g, 0, none⟩) n n) ∧ u.cell? ⟨g, at', none⟩ = some (.int .i64 y))) (by kernel_rfl) hs0 (fun _ => ?_)
  refine wpAnyH_take (i := 0) (oi := { dst := some 7, op := Go.Op.load 22 (Go.Operand.tmp 2), type := 22, pos := "queue.go:84", after := #[], guard := none }) (v := ?_) rfl (by kernel_rfl) (by kernel_rfl) (by kernel_rfl) (fun _ _ _ h => h) (Or.inl ⟨by rfl, ?hy1⟩) hs0 ?_
  case hy1 =>
    intro u hu
    obtain ⟨u0, u1⟩ := hu
    go_simp
    try with_reducible rfl
  simp only [Act.put, List.setIfInBounds_toArray, List.set_cons_zero, List.set_cons_succ]
  refine wpAnyH_take (i := 2) (oi := { dst := some 9, op := Go.Op.load 22 (Go.Operand.tmp 2), type := 22, pos := "queue.go:84", after := #[], guard := none }) (v := ?_) rfl (by kernel_rfl) (by kernel_rfl) (by kernel_rfl) (fun _ _ _ h => h) (Or.inl ⟨by rfl, ?hy2⟩) hs0 ?_
  case hy2 =>
    intro u hu
    obtain ⟨u0, u1⟩ := hu
    go_simp
    try with_reducible rfl
  simp only [Act.put, List.setIfInBounds_toArray, List.set_cons_zero, List.set_cons_succ]
  refine wpAnyH_take (i := 3) (oi := { dst := some 10, op := Go.Op.move (Go.Operand.tmp 0), type := 3, pos := "queue.go:84", after := #[], guard := none }) (v := ?_) rfl (by kernel_rfl) (by kernel_rfl) (by kernel_rfl) (fun _ _ _ h => h) (Or.inl ⟨by rfl, ?hy3⟩) hs0 ?_
  case hy3 =>
    intro u hu
    obtain ⟨u0, u1⟩ := hu
    go_simp
    try with_reducible rfl
  simp only [Act.put, List.setIfInBounds_toArray, List.set_cons_zero, List.set_cons_succ]
  refine wpAnyH_take (i := 4) (oi := { dst := some 11, op := Go.Op.indexAddr 22 (Go.Operand.tmp 9) (Go.Operand.tmp 10), type := 0, pos := "queue.go:84", after := #[{ on := 2, ground := Go.Ground.data }, { on := 3, ground := Go.Ground.data }], guard := none }) (v := ?_) rfl (by kernel_rfl) (by kernel_rfl) (by kernel_rfl) (fun _ _ _ h => h) (Or.inl ⟨by rfl, ?hy4⟩) hs0 ?_
  case hy4 =>
    intro u hu
    obtain ⟨u0, u1⟩ := hu
    go_simp
    try with_reducible rfl
  simp only [Act.put, List.setIfInBounds_toArray, List.set_cons_zero, List.set_cons_succ]
  refine wpAnyH_take (i := 5) (oi := { dst := some 12, op := Go.Op.load 3 (Go.Operand.tmp 11), type := 3, pos := "queue.go:84", after := #[{ on := 4, ground := Go.Ground.data }], guard := none }) (v := ?_) rfl (by kernel_rfl) (by kernel_rfl) (by kernel_rfl) (fun _ _ _ h => h) (Or.inl ⟨by rfl, ?hy5⟩) hs0 ?_
  case hy5 =>
    intro u hu
    obtain ⟨u0, u1⟩ := hu
    go_simp
    try with_reducible rfl
  simp only [Act.put, List.setIfInBounds_toArray, List.set_cons_zero, List.set_cons_succ]
  refine wpAnyH_take (i := 6) (oi := { dst := some 13, op := Go.Op.move (Go.Operand.tmp 0), type := 3, pos := "queue.go:84", after := #[{ on := 8, ground := Go.Ground.gcOnly Go.Departure.lateStores }], guard := none }) (v := ?_) rfl (by kernel_rfl) (by kernel_rfl) (by kernel_rfl) (fun _ _ _ h => h) (Or.inl ⟨by rfl, ?hy6⟩) hs0 ?_
  case hy6 =>
    intro u hu
    obtain ⟨u0, u1⟩ := hu
    go_simp
    try with_reducible rfl
  simp only [Act.put, List.setIfInBounds_toArray, List.set_cons_zero, List.set_cons_succ]
  refine wpAnyH_ready (rs := [1]) (by kernel_rfl) (by simp) ?_
  refine AllReadyH.cons (o := { dst := some 8, op := Go.Op.load 3 (Go.Operand.tmp 3), type := 3, pos := "queue.go:84", after := #[], guard := none }) rfl (fun K hK => ?_) AllReadyH.nil
  go_simp
  refine hK.out _ _ h0.out (fun _ => ?_)
  clear hK K
  try simp only [Act.put, List.setIfInBounds_toArray, List.set_cons_zero, List.set_cons_succ]
  refine wpAnyH_take (i := 7) (oi := { dst := some 14, op := Go.Op.indexAddr 22 (Go.Operand.tmp 7) (Go.Operand.tmp 8), type := 0, pos := "queue.go:84", after := #[{ on := 0, ground := Go.Ground.data }, { on := 1, ground := Go.Ground.data }, { on := 0, ground := Go.Ground.phase }, { on := 1, ground := Go.Ground.phase }, { on := 2, ground := Go.Ground.phase }, { on := 3, ground := Go.Ground.phase }, { on := 4, ground := Go.Ground.phase }, { on := 5, ground := Go.Ground.phase }, { on := 6, ground := Go.Ground.textOnly Go.Departure.lateStores }], guard := none }) (v := ?_) rfl (by kernel_rfl) (by kernel_rfl) (by kernel_rfl) (fun _ _ _ h => h) (Or.inl ⟨by rfl, ?hy8⟩) h0.out ?_
  case hy8 =>
    intro u hu
    obtain ⟨u0, u1⟩ := hu
    go_simp
    try with_reducible rfl
  simp only [Act.put, List.setIfInBounds_toArray, List.set_cons_zero, List.set_cons_succ]
  refine wpAnyH_ready (rs := [8]) (by kernel_rfl) (by simp) ?_
  refine AllReadyH.cons (o := { dst := none, op := Go.Op.store 3 (Go.Operand.tmp 14) (Go.Operand.tmp 12), type := 0, pos := "queue.go:84", after := #[{ on := 7, ground := Go.Ground.data }, { on := 5, ground := Go.Ground.data }, { on := 0, ground := Go.Ground.phase }, { on := 1, ground := Go.Ground.phase }, { on := 2, ground := Go.Ground.phase }, { on := 3, ground := Go.Ground.phase }, { on := 4, ground := Go.Ground.phase }, { on := 5, ground := Go.Ground.phase }, { on := 6, ground := Go.Ground.textOnly Go.Departure.lateStores }], guard := none }) rfl (fun K hK => ?_) AllReadyH.nil
  go_simp
  refine hK.out _ _ h1.out (fun _ => ?_)
  clear hK K
  try simp only [Act.put, List.setIfInBounds_toArray, List.set_cons_zero, List.set_cons_succ]
  refine wpAnyH_ready (rs := [9]) (by kernel_rfl) (by simp) ?_
  refine AllReadyH.cons (o := { dst := none, op := Go.Op.store 3 (Go.Operand.tmp 3) (Go.Operand.tmp 13), type := 0, pos := "queue.go:84", after := #[{ on := 6, ground := Go.Ground.data }, { on := 8, ground := Go.Ground.chain }, { on := 0, ground := Go.Ground.phase }, { on := 1, ground := Go.Ground.phase }, { on := 2, ground := Go.Ground.phase }, { on := 3, ground := Go.Ground.phase }, { on := 4, ground := Go.Ground.phase }, { on := 5, ground := Go.Ground.phase }, { on := 6, ground := Go.Ground.phase }, { on := 7, ground := Go.Ground.phase }, { on := 8, ground := Go.Ground.phase }], guard := none }) rfl (fun K hK => ?_) AllReadyH.nil
  go_simp
  refine hK.out _ _ h2.out (fun _ => ?_)
  clear hK K
  try simp only [Act.put, List.setIfInBounds_toArray, List.set_cons_zero, List.set_cons_succ]
  refine wpAnyH_done (by kernel_rfl) ?_ _
  go_wp2_with fail
  go_end0
  exact ⟨rfl, _, rfl⟩

set_option maxRecDepth 100000 in
set_option maxHeartbeats 3200000 in
/-- not yet found: and here it is not -/
theorem close_not {w : World} {b0 b1 b2 b3 g n at' : Nat} {x y : Int} (c0 : w.cell? ⟨b0, 0, none⟩ = some (.bool false)) (c1 : w.cell? ⟨b1, 0, none⟩ = some (.slice (some ⟨g, 0, none⟩) n n)) (cg : w.cell? ⟨g, at', none⟩ = some (.int .i64 y)) (c3 : w.cell? ⟨b3, 0, none⟩ = some (.int .i64 x))
    (hat : at' < n) (hne : y ≠ x) :
    Calls Try.prog 82 #[.int .i64 at', .pointer (some ⟨b0, 0, none⟩), .pointer (some ⟨b1, 0, none⟩), .pointer (some ⟨b2, 0, none⟩), .pointer (some ⟨b3, 0, none⟩)] w fun e w' => e = .returned (.tuple #[]) ∧ ∃ k, w' = w.drewN k := by
  have hatI : (at' : Int) < (n : Int) := by omega
  have hb : (y == x) = false := by simpa using hne
  clear hat
  go_enter Try.func82, Try.ntmps82
  go_wp2_with fail
  go_quiet (fail)
  go_wp2_with fail
  go_end0
  exact ⟨rfl, _, rfl⟩

set_option maxRecDepth 100000 in
set_option maxHeartbeats 3200000 in
/-- not yet found: and here it is -/
theorem close_here {w : World} {b0 b1 b2 b3 g n at' : Nat} {x z : Int} (c0 : w.cell? ⟨b0, 0, none⟩ = some (.bool false)) (c1 : w.cell? ⟨b1, 0, none⟩ = some (.slice (some ⟨g, 0, none⟩) n n)) (cg : w.cell? ⟨g, at', none⟩ = some (.int .i64 x)) (c3 : w.cell? ⟨b3, 0, none⟩ = some (.int .i64 x)) (c2 : w.cell? ⟨b2, 0, none⟩ = some (.int .i64 z))
    (hf0 : w.frozen? ⟨b0, 0, none⟩ = false) (hf2 : w.frozen? ⟨b2, 0, none⟩ = false) (hat : at' < n) (h02 : b0 ≠ b2) :
    Calls Try.prog 82 #[.int .i64 at', .pointer (some ⟨b0, 0, none⟩), .pointer (some ⟨b1, 0, none⟩), .pointer (some ⟨b2, 0, none⟩), .pointer (some ⟨b3, 0, none⟩)] w fun e w' => e = .returned (.tuple #[]) ∧ ∃ k, w' = ((w.setCell ⟨b2, 0, none⟩ (.int .i64 at')).setCell ⟨b0, 0, none⟩ (.bool true)).drewN k := by
  have hatI : (at' : Int) < (n : Int) := by omega
  have h20 : ¬ b2 = b0 := Ne.symm h02
  clear hat
  go_enter Try.func82, Try.ntmps82
  go_wp2_with fail
  go_quiet (fail)
  go_wp2_with fail
  go_end0
  exact ⟨rfl, _, rfl⟩
end Go.Proofs.Ytdbbdecmfnajiaa
