/-
  Own rows of numbers; the contracts of gather's closure and of gather. Own work.
-/
import Derived.Test.YtdbbdecmfnajiaaMb
import Derived.Lib.AppendZerosOnto
import Derived.Deep.DeepCutAuto
namespace Go.Proofs.Ytdbbdecmfnajiaa
open Go.RowKit

theorem step_append_runI {P : Program} {ops : Array Oper} {o : Oper} {a : Act} {w : World} {K : Act → World → Prop} {Q : Exit → Act → World → Prop} {E : Prop}
    (hg : o.guard = none) (d x : Operand) (dT sT : TypeId) (hop : o.op = Op.call { callee := Callee.builtin Builtin.append, args := #[d, x], argTypes := #[dT, sT] })
    (v u : Value) (hd : a.eval d = v) (hx : a.eval x = u) {v' : Value} {w' : World} (hr : (Builtin.append_ #[dT, sT] o.type #[v, u]).run P w = .ok v' w') (hK : K (a.put o.dst v') w') :
    if Region.wanted o (yielded ops a.tmps) = true then Oper.wp P o a w K Q else E := by
  have hw : Region.wanted o (yielded ops a.tmps) = true := by simp [Region.wanted, hg]
  rw [if_pos hw]
  unfold Oper.wp
  simp [execOp, hop, resolve, invoke, builtin, hd, hx, hr, Result.andThen]
  exact hK
theorem Try.info3 : (Try.prog.info? 3).map (fun i => (i.zero, i.size, i.bytes)) = some (some (.int .i64 0), 1, 8) := by kernel_rfl
theorem Try.info9 : (Try.prog.info? 9).map (fun i => (i.zero, i.size, i.bytes)) = some (some (.string ⟨#[]⟩), 1, 16) := by kernel_rfl

/-- a slice of the call's own that holds these numbers -/
def OwnI (w : World) (base : Nat) (v : Value) (l : List Int) : Prop := w.ownsRow base 3 1 v l.length (l.map (Value.int .i64))
theorem OwnI.nil (w : World) (base : Nat) : OwnI w base (.slice none 0 0) [] := World.ownsRow_nil _ _ _ _
theorem OwnI.lt {w : World} {base : Nat} {v : Value} {l : List Int} (h : OwnI w base v l) (k : Nat) (hk : v.ownBlock = some k) : base ≤ k ∧ k < w.heap.size := World.ownsRow.lt h k hk
theorem OwnI.heap {w w' : World} {base : Nat} {v : Value} {l : List Int} (h : OwnI w base v l) (hk : ∀ a, v.ownBlock = some a → w'.heap[a]? = w.heap[a]?) : OwnI w' base v l := by
  refine ⟨h.1, ?_⟩
  rcases h.2 with h2 | ⟨g, cap, cur, hv, hb2, hg, r⟩
  · exact .inl h2
  · exact .inr ⟨g, cap, cur, hv, hb2, by rw [hk g (by rw [hv]; rfl)]; exact hg, r⟩
theorem OwnI.mono {w : World} {base base' : Nat} {v : Value} {l : List Int} (h : OwnI w base v l) (hb : base' ≤ base) : OwnI w base' v l := by
  refine ⟨h.1, ?_⟩
  rcases h.2 with h2 | ⟨g, cap, cur, hv, hb2, hg, r⟩
  · exact .inl h2
  · exact .inr ⟨g, cap, cur, hv, Nat.le_trans hb hb2, hg, r⟩
theorem OwnI.below {w w' : World} {base : Nat} {v : Value} {l : List Int} (h : OwnI w base v l) (hb : Below w.heap.size w w') : OwnI w' base v l := h.heap fun a ha => hb.block a (h.lt a ha).2
theorem OwnI.chg {w w' : World} {base : Nat} {F : Nat → Prop} {v : Value} {l : List Int} (h : OwnI w base v l) (hb : Chg F w w') (hF : ∀ a, v.ownBlock = some a → ¬ F a) : OwnI w' base v l := h.heap fun a ha => hb.block a (h.lt a ha).2 (hF a ha)
theorem OwnI.elem {w : World} {base : Nat} {v : Value} {l : List Int} (h : OwnI w base v l) (a : Nat) (ha : v.ownBlock = some a) : ∃ cur, w.heap[a]? = some (.cells cur 3 (0, 0)) := by
  rcases h.2 with ⟨rfl, _⟩ | ⟨g, cap, cur, rfl, _, hg, _⟩
  · cases ha
  · cases ha; exact ⟨cur, hg⟩
theorem OwnI.shape {w : World} {base : Nat} {v : Value} {l : List Int} (h : OwnI w base v l) : ∃ ao cap, v = .slice ao l.length cap := by
  rcases h.2 with ⟨rfl, e⟩ | ⟨g, cap, cur, rfl, _, hg, _⟩
  · exact ⟨none, 0, by rw [e]⟩
  · exact ⟨_, _, rfl⟩
/-- one more is laid behind them -/
theorem OwnI.append1 {w : World} {base : Nat} {v : Value} {l : List Int} (h : OwnI w base v l) (x : Int) (hl : l.length ≤ 1000000) (hb : base ≤ w.heap.size) (g o : Nat) (hg : w.cell? ⟨g, o, none⟩ = some (.int .i64 x)) (ho : o = 0) (ty : TypeId) :
    ∃ v' w', (Builtin.append_ #[22, 22] ty #[v, .slice (some ⟨g, 0, none⟩) 1 1]).run Try.prog w = .ok v' w' ∧ OwnI w' base v' (l ++ [x]) ∧ w.grownBy w' v.ownBlock ∧ (v'.ownBlock = v.ownBlock ∨ v'.ownBlock = some w.heap.size) := by
  obtain ⟨i0, hinf, hz0, hz1, hz2⟩ := info_parts Try.info3
  subst ho
  obtain ⟨v', w', hr, ho, hg', hblk⟩ := run_append_own' (P := Try.prog) w base 22 ty 3 i0 (.int .i64 0) 1 8 Try.underlying22 hinf hz0 hz1 hz2 rfl (by decide) v l.length (l.map (Value.int .i64)) h
    ⟨g, 0, none⟩ 1 1 [.int .i64 x] rfl (fun j u hj => by
      cases j with
      | zero => simp at hj; subst hj; rw [add_at]; exact hg
      | succ j => simp at hj) (by intro u hu; simp at hu; subst hu; rfl) (by unfold maxLen; omega) (by omega) hb
  refine ⟨v', w', hr, ?_, hg', hblk⟩
  unfold OwnI
  rw [List.map_append, List.length_append]
  exact ho
/-- one more is laid into places that there are -/
theorem Pl.append1 {w : World} {g2 n k : Nat} {f : Nat → Int} (h : Pl w (.slice (some ⟨g2, 0, none⟩) n n) n f) (hk : k < n) (x : Int) (g : Nat) (hg : w.cell? ⟨g, 0, none⟩ = some (.int .i64 x)) (ty : TypeId) :
    ∃ w', (Builtin.append_ #[22, 22] ty #[.slice (some ⟨g2, 0, none⟩) k n, .slice (some ⟨g, 0, none⟩) 1 1]).run Try.prog w = .ok (.slice (some ⟨g2, 0, none⟩) (k + 1) n) w' ∧ Pl w' (.slice (some ⟨g2, 0, none⟩) n n) n (setF f k x) ∧ w.grownBy w' (some g2) := by
  obtain ⟨i0, hinf, hz0, hz1, hz2⟩ := info_parts Try.info3
  have hs := h.set k hk x
  rcases h with ⟨h, _⟩ | ⟨g', cur, h, hgg, h1, h2, h3, h4⟩
  · cases h
  · cases h
    have hr := run_append_room (P := Try.prog) w 22 ty 3 i0 Try.underlying22 hinf g2 k n cur hgg ⟨g, 0, none⟩ 1 1 [.int .i64 x] (by rw [hz1]; rfl) (fun j u hj => by
      cases j with
      | zero => simp at hj; subst hj; rw [add_at]; exact hg
      | succ j => simp at hj) (by intro u hu; simp at hu; subst hu; rfl) (by omega) (by rw [hz1]; simp; omega)
    refine ⟨_, hr, ?_, ?_⟩
    · have e : w.setRow g2 (cur.toList.take (k * i0.size) ++ [Value.int .i64 x] ++ cur.toList.drop (k * i0.size + [Value.int .i64 x].length)).toArray = w.setCell ⟨g2, k, none⟩ (.int .i64 x) := by
        have e2 : (cur.setIfInBounds k (.int .i64 x)).toList = cur.toList.take (k * 1) ++ [Value.int .i64 x] ++ cur.toList.drop (k * 1 + [Value.int .i64 x].length) := by
          rw [Array.toList_setIfInBounds, List.set_eq_take_append_cons_drop, if_pos (by rw [Array.length_toList]; omega), Nat.mul_one, List.append_assoc]
          rfl
        rw [setCell_eq_setRow w g2 k cur 3 (0, 0) _ hgg, hz1, ← e2, Array.toArray_toList]
      rw [e]
      exact hs
    · refine ⟨rfl, rfl, rfl, by simp [World.setRow], fun i hi hne => ?_⟩
      exact setRow_other w g2 i _ (fun e => hne (by rw [e]))

set_option maxRecDepth 100000 in
set_option maxHeartbeats 3200000 in
/-- gather's closure: one number is laid behind; how the append went is told -/
theorem gather1_any {w : World} {ab pb g n at' : Nat} {v : Value} {x : Int} (h1c : w.heap[ab]? = some (.cells #[v] 22 (0, 0))) (hp : w.cell? ⟨pb, 0, none⟩ = some (.slice (some ⟨g, 0, none⟩) n n)) (hx : w.cell? ⟨g, at', none⟩ = some (.int .i64 x)) (hat : at' < n)
    (hab : ab ≠ pb) (hag : ab ≠ g) {v' : Value} {w2 : World} (hr : (Builtin.append_ #[22, 22] 22 #[v, .slice (some ⟨w.heap.size, 0, none⟩) 1 1]).run Try.prog (w.alloc (.cells #[.int .i64 x] 3)).drew = .ok v' w2)
    (ho : ∃ ao l c, v' = .slice ao l c) (hov : ∃ ao l c, v = .slice ao l c)
    (hpb : w2.cell? ⟨pb, 0, none⟩ = some (.slice (some ⟨g, 0, none⟩) n n)) (hgx : w2.cell? ⟨g, at', none⟩ = some (.int .i64 x)) (hw2 : w2.heap[ab]? = some (.cells #[v] 22 (0, 0))) :
    Calls Try.prog 67 #[.int .i64 at', .pointer (some ⟨ab, 0, none⟩), .pointer (some ⟨pb, 0, none⟩)] w fun e w' => e = .returned (.tuple #[]) ∧ w' = w2.setCell ⟨ab, 0, none⟩ v' := by
  obtain ⟨ao, l, c, rfl⟩ := ho
  obtain ⟨aq, lq, cq, rfl⟩ := hov
  obtain ⟨v, HV⟩ := named (Value.slice aq lq cq)
  have ha : w.cell? ⟨ab, 0, none⟩ = some (.slice aq lq cq) := by rw [cell_of h1c]; rfl
  have hfa : w.frozen? ⟨ab, 0, none⟩ = false := frozen_of h1c 0
  have hpl := World.block_lt_of_cell? w _ hp
  have hgl := World.block_lt_of_cell? w _ hx
  have hal := lt_of h1c
  simp only at hpl hgl
  obtain ⟨X, HX⟩ := named ((w.alloc (.cells #[.int .i64 x] 3)).drew)
  have hbX : Below w.heap.size w (w.alloc (.cells #[.int .i64 x] 3)).drew := ((Below.refl _ _).alloc (Nat.le_refl _) _).drew
  have xa : X.cell? ⟨ab, 0, none⟩ = some (.slice aq lq cq) := by rw [HX.out, hbX.cell hal]; exact ha
  have h0 : Hid (w.drew.cell? ⟨pb, 0, none⟩ = some (.slice (some ⟨g, 0, none⟩) n n) ∧ w.drew.cell? ⟨g, at', none⟩ = some (.int .i64 x)) := ⟨hp, hx⟩
  have h1 : Hid (X.cell? ⟨pb, 0, none⟩ = some (.slice (some ⟨g, 0, none⟩) n n) ∧ X.cell? ⟨g, at', none⟩ = some (.int .i64 x)) := by
    rw [HX.out]; exact ⟨(hbX.cell hpl).trans hp, (hbX.cell hgl).trans hx⟩
  have h2 : Hid (w2.cell? ⟨pb, 0, none⟩ = some (.slice (some ⟨g, 0, none⟩) n n) ∧ w2.cell? ⟨g, at', none⟩ = some (.int .i64 x)) := ⟨hpb, hgx⟩
  have h3 : Hid ((w2.setCell ⟨ab, 0, none⟩ (.slice ao l c)).cell? ⟨pb, 0, none⟩ = some (.slice (some ⟨g, 0, none⟩) n n) ∧ (w2.setCell ⟨ab, 0, none⟩ (.slice ao l c)).cell? ⟨g, at', none⟩ = some (.int .i64 x)) :=
    ⟨by rw [World.cell?_setCell_far _ _ _ _ hab]; exact hpb, by rw [World.cell?_setCell_far _ _ _ _ hag]; exact hgx⟩
  have w2a : w2.cell? ⟨ab, 0, none⟩ = some (.slice aq lq cq) := by rw [cell_of hw2]; rfl
  have w2f : w2.frozen? ⟨ab, 0, none⟩ = false := frozen_of hw2 0
  rw [← HX.out] at hr
  have HR := hide hr
  have hatI : (at' : Int) < (n : Int) := by omega
  clear hr hbX hpb hgx hp hx h1c hw2
  go_enter Try.func67, Try.ntmps67
  go_wp2_with fail
  have hs0 := h0.out
  refine wp_region_held_drew (S := (fun u => u.cell? ⟨pb, 0, none⟩ = some (.slice (some ⟨g, 0, none⟩) n n) ∧ u.cell? ⟨g, at', none⟩ = some (.int .i64 x))) (by kernel_rfl) hs0 (fun _ => ?_)
  refine wpAnyH_take (i := 1) (oi := { dst := some 5, op := Go.Op.load 22 (Go.Operand.tmp 2), type := 22, pos := "queue.go:74", after := #[], guard := none }) (v := ?_) rfl (by kernel_rfl) (by kernel_rfl) (by kernel_rfl) (fun _ _ _ h => h) (Or.inl ⟨by rfl, ?hy1⟩) hs0 ?_
  case hy1 =>
    intro u hu
    obtain ⟨u0, u1⟩ := hu
    go_simp
    try with_reducible rfl
  simp only [Act.put, List.setIfInBounds_toArray, List.set_cons_zero, List.set_cons_succ]
  refine wpAnyH_take (i := 2) (oi := { dst := some 6, op := Go.Op.move (Go.Operand.tmp 0), type := 3, pos := "queue.go:74", after := #[], guard := none }) (v := ?_) rfl (by kernel_rfl) (by kernel_rfl) (by kernel_rfl) (fun _ _ _ h => h) (Or.inl ⟨by rfl, ?hy2⟩) hs0 ?_
  case hy2 =>
    intro u hu
    obtain ⟨u0, u1⟩ := hu
    go_simp
    try with_reducible rfl
  simp only [Act.put, List.setIfInBounds_toArray, List.set_cons_zero, List.set_cons_succ]
  refine wpAnyH_take (i := 3) (oi := { dst := some 7, op := Go.Op.indexAddr 22 (Go.Operand.tmp 5) (Go.Operand.tmp 6), type := 0, pos := "queue.go:74", after := #[{ on := 1, ground := Go.Ground.data }, { on := 2, ground := Go.Ground.data }], guard := none }) (v := ?_) rfl (by kernel_rfl) (by kernel_rfl) (by kernel_rfl) (fun _ _ _ h => h) (Or.inl ⟨by rfl, ?hy3⟩) hs0 ?_
  case hy3 =>
    intro u hu
    obtain ⟨u0, u1⟩ := hu
    go_simp
    try with_reducible rfl
  simp only [Act.put, List.setIfInBounds_toArray, List.set_cons_zero, List.set_cons_succ]
  refine wpAnyH_take (i := 4) (oi := { dst := some 8, op := Go.Op.load 3 (Go.Operand.tmp 7), type := 3, pos := "queue.go:74", after := #[{ on := 3, ground := Go.Ground.data }], guard := none }) (v := ?_) rfl (by kernel_rfl) (by kernel_rfl) (by kernel_rfl) (fun _ _ _ h => h) (Or.inl ⟨by rfl, ?hy4⟩) hs0 ?_
  case hy4 =>
    intro u hu
    obtain ⟨u0, u1⟩ := hu
    go_simp
    try with_reducible rfl
  simp only [Act.put, List.setIfInBounds_toArray, List.set_cons_zero, List.set_cons_succ]
  refine wpAnyH_ready (rs := [0, 5]) (by kernel_rfl) (by simp) ?_
  refine AllReadyH.cons (o := { dst := some 4, op := Go.Op.load 22 (Go.Operand.tmp 1), type := 22, pos := "queue.go:74", after := #[], guard := none }) rfl (fun K hK => ?b5_0) (AllReadyH.cons (o := { dst := some 9, op := Go.Op.buildSlice 22 1 #[(0, Go.Operand.tmp 8)], type := 22, pos := "queue.go:74", after := #[{ on := 4, ground := Go.Ground.data }], guard := none }) rfl (fun K hK => ?b5_5) AllReadyH.nil)
  case' b5_0 =>
    go_simp
    refine hK.out _ _ h0.out (fun _ => ?_)
    clear hK K
    try simp only [Act.put, List.setIfInBounds_toArray, List.set_cons_zero, List.set_cons_succ]
    refine wpAnyH_ready (rs := [5]) (by kernel_rfl) (by simp) ?_
    refine AllReadyH.cons (o := { dst := some 9, op := Go.Op.buildSlice 22 1 #[(0, Go.Operand.tmp 8)], type := 22, pos := "queue.go:74", after := #[{ on := 4, ground := Go.Ground.data }], guard := none }) rfl (fun K hK => ?_) AllReadyH.nil
    go_simp
    rw [← HX.out]
    refine hK.out _ _ h1.out (fun _ => ?_)
    clear hK K
    try simp only [Act.put, List.setIfInBounds_toArray, List.set_cons_zero, List.set_cons_succ]
    refine wpAnyH_ready (rs := [6]) (by kernel_rfl) (by simp) ?_
    refine AllReadyH.cons (o := { dst := some 10, op := Go.Op.call { callee := Go.Callee.builtin Go.Builtin.append, args := #[Go.Operand.tmp 4, Go.Operand.tmp 9], argTypes := #[22, 22] }, type := 22, pos := "queue.go:74", after := #[{ on := 0, ground := Go.Ground.data }, { on := 5, ground := Go.Ground.data }], guard := none }) rfl (fun K hK => ?_) AllReadyH.nil
    refine step_append_runI rfl (.tmp 4) (.tmp 9) 22 22 rfl (.slice aq lq cq) (.slice (some ⟨w.heap.size, 0, none⟩) 1 1) (by simp [Act.eval]) (by simp [Act.eval]) HR.out ?_
    refine hK.out _ _ h2.out (fun _ => ?_)
    clear hK K
    try simp only [Act.put, List.setIfInBounds_toArray, List.set_cons_zero, List.set_cons_succ]
    refine wpAnyH_ready (rs := [7]) (by kernel_rfl) (by simp) ?_
    refine AllReadyH.cons (o := { dst := none, op := Go.Op.store 22 (Go.Operand.tmp 1) (Go.Operand.tmp 10), type := 0, pos := "queue.go:74", after := #[{ on := 6, ground := Go.Ground.data }, { on := 6, ground := Go.Ground.chain }, { on := 0, ground := Go.Ground.phase }, { on := 1, ground := Go.Ground.phase }, { on := 2, ground := Go.Ground.phase }, { on := 3, ground := Go.Ground.phase }, { on := 4, ground := Go.Ground.phase }, { on := 5, ground := Go.Ground.phase }, { on := 6, ground := Go.Ground.phase }], guard := none }) rfl (fun K hK => ?_) AllReadyH.nil
    go_simp
    refine hK.out _ _ h3.out (fun _ => ?_)
    clear hK K
    try simp only [Act.put, List.setIfInBounds_toArray, List.set_cons_zero, List.set_cons_succ]
    refine wpAnyH_done (by kernel_rfl) ?_ _
    go_end0
    exact ⟨rfl, rfl⟩
  case' b5_5 =>
    go_simp
    rw [← HX.out]
    refine hK.out _ _ h1.out (fun _ => ?_)
    clear hK K
    try simp only [Act.put, List.setIfInBounds_toArray, List.set_cons_zero, List.set_cons_succ]
    refine wpAnyH_ready (rs := [0]) (by kernel_rfl) (by simp) ?_
    refine AllReadyH.cons (o := { dst := some 4, op := Go.Op.load 22 (Go.Operand.tmp 1), type := 22, pos := "queue.go:74", after := #[], guard := none }) rfl (fun K hK => ?_) AllReadyH.nil
    go_simp
    refine hK.out _ _ h1.out (fun _ => ?_)
    clear hK K
    try simp only [Act.put, List.setIfInBounds_toArray, List.set_cons_zero, List.set_cons_succ]
    refine wpAnyH_ready (rs := [6]) (by kernel_rfl) (by simp) ?_
    refine AllReadyH.cons (o := { dst := some 10, op := Go.Op.call { callee := Go.Callee.builtin Go.Builtin.append, args := #[Go.Operand.tmp 4, Go.Operand.tmp 9], argTypes := #[22, 22] }, type := 22, pos := "queue.go:74", after := #[{ on := 0, ground := Go.Ground.data }, { on := 5, ground := Go.Ground.data }], guard := none }) rfl (fun K hK => ?_) AllReadyH.nil
    refine step_append_runI rfl (.tmp 4) (.tmp 9) 22 22 rfl (.slice aq lq cq) (.slice (some ⟨w.heap.size, 0, none⟩) 1 1) (by simp [Act.eval]) (by simp [Act.eval]) HR.out ?_
    refine hK.out _ _ h2.out (fun _ => ?_)
    clear hK K
    try simp only [Act.put, List.setIfInBounds_toArray, List.set_cons_zero, List.set_cons_succ]
    refine wpAnyH_ready (rs := [7]) (by kernel_rfl) (by simp) ?_
    refine AllReadyH.cons (o := { dst := none, op := Go.Op.store 22 (Go.Operand.tmp 1) (Go.Operand.tmp 10), type := 0, pos := "queue.go:74", after := #[{ on := 6, ground := Go.Ground.data }, { on := 6, ground := Go.Ground.chain }, { on := 0, ground := Go.Ground.phase }, { on := 1, ground := Go.Ground.phase }, { on := 2, ground := Go.Ground.phase }, { on := 3, ground := Go.Ground.phase }, { on := 4, ground := Go.Ground.phase }, { on := 5, ground := Go.Ground.phase }, { on := 6, ground := Go.Ground.phase }], guard := none }) rfl (fun K hK => ?_) AllReadyH.nil
    go_simp
    refine hK.out _ _ h3.out (fun _ => ?_)
    clear hK K
    try simp only [Act.put, List.setIfInBounds_toArray, List.set_cons_zero, List.set_cons_succ]
    refine wpAnyH_done (by kernel_rfl) ?_ _
    go_end0
    exact ⟨rfl, rfl⟩
end Go.Proofs.Ytdbbdecmfnajiaa
