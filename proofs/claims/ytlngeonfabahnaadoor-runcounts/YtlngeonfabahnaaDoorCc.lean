/-
  The contract of rulesOf: a map whose closures tell what a field may be. Own work.
-/
import Derived.Test.YtlngeonfabahnaaDoorCb
namespace Go.Proofs.YtlngeonfabahnaaDoor
open Go.RowKit

/-- what makes 'below', with its number in block b -/
def clo (b : Nat) : Value := .func (.func 35) #[] #[.pointer (some ⟨b, 0, none⟩)]
/-- what the map holds -/
def rulesM (r j p z : Nat) : MF := setM (setM (setM (setM (setM (setM (fun _ => none) 114 (clo r)) 106 (clo j)) 112 (clo p)) 110 (.func (.func 36) #[] #[])) 115 (.func (.func 33) #[] #[])) 46 (clo z)
/-- a map of rules: of so many registers, places, policies -/
def Rules (w : World) (v : Value) (regs places pol : Int) : Prop :=
  ∃ b r j p z, v = .map (some b) ∧ Mp w b 6 (rulesM r j p z) ∧ w.cell? ⟨r, 0, none⟩ = some (.int .i64 regs) ∧ w.cell? ⟨j, 0, none⟩ = some (.int .i64 places) ∧ w.cell? ⟨p, 0, none⟩ = some (.int .i64 pol) ∧ w.cell? ⟨z, 0, none⟩ = some (.int .i64 1)
theorem Rules.below {w w' : World} {v : Value} {regs places pol : Int} (h : Rules w v regs places pol) (hb : Below w.heap.size w w') : Rules w' v regs places pol := by
  obtain ⟨b, r, j, p, z, rfl, h1, h2, h3, h4, h5⟩ := h
  exact ⟨b, r, j, p, z, rfl, h1.heap (hb.block b h1.lt), by rw [hb.cell (World.block_lt_of_cell? w _ h2)]; exact h2, by rw [hb.cell (World.block_lt_of_cell? w _ h3)]; exact h3, by rw [hb.cell (World.block_lt_of_cell? w _ h4)]; exact h4, by rw [hb.cell (World.block_lt_of_cell? w _ h5)]; exact h5⟩
theorem hide {p : Prop} (h : p) : Hid p := h
/-- rules under way -/
def RSt (w0 w : World) (n : Nat) (l : MF) (cs : List (Nat × Int)) : Prop :=
  Below w0.heap.size w0 w ∧ Mp w w0.heap.size n l ∧ ∀ c ∈ cs, w0.heap.size < c.1 ∧ c.1 < w.heap.size ∧ w.cell? ⟨c.1, 0, none⟩ = some (.int .i64 c.2)
theorem RSt.start (w : World) : RSt w (w.alloc (.map #[] 0)) 0 (fun _ => none) [] := ⟨(Below.refl _ _).alloc (Nat.le_refl _) _, Mp.made w, fun c h => by cases h⟩
theorem RSt.clo {w0 w : World} {n : Nat} {l : MF} {cs : List (Nat × Int)} (h : RSt w0 w n l cs) (x : Int) : RSt w0 (w.alloc (.cells #[.int .i64 x] 3)) n l ((w.heap.size, x) :: cs) := by
  obtain ⟨h1, h2, h3⟩ := h
  have hlt := h2.lt
  have hb : Below w.heap.size w (w.alloc (.cells #[.int .i64 x] 3)) := (Below.refl _ _).alloc (Nat.le_refl _) _
  refine ⟨h1.alloc h1.size _, h2.heap (hb.block _ hlt), fun c hc => ?_⟩
  rcases List.mem_cons.1 hc with rfl | hc
  · refine ⟨hlt, by simp, ?_⟩
    simp
  · obtain ⟨g1, g2, g3⟩ := h3 c hc
    exact ⟨g1, by simp; omega, by rw [hb.cell g2]; exact g3⟩
theorem RSt.put {w0 w : World} {n : Nat} {l : MF} {cs : List (Nat × Int)} (h : RSt w0 w n l cs) (s : Nat) (hs : LT s) (hn : l s = none) (v : Value) (hlt : n < 1000 := by omega) :
    ∃ w', (Instr.mapUpdate 74 (.map (some w0.heap.size)) (.int .u8 (s : Int)) v).run Tryd.prog w = .ok () w' ∧ RSt w0 w' (n + 1) (setM l s v) cs := by
  obtain ⟨h1, h2, h3⟩ := h
  obtain ⟨w', hr, hm, hg, hz⟩ := h2.store mt74 (by omega) hs v
  rw [hn] at hm
  refine ⟨w', hr, h1.grown hg h1.size (fun k hk => by cases hk; exact Nat.le_refl _), hm, fun c hc => ?_⟩
  obtain ⟨g1, g2, g3⟩ := h3 c hc
  refine ⟨g1, by omega, ?_⟩
  rw [World.cell?_of_block (w := w) (a := ⟨c.1, 0, none⟩) (hg.block c.1 g2 (fun e => by have := Option.some.inj e; omega))]
  exact g3
set_option maxRecDepth 100000 in
set_option maxHeartbeats 1600000 in
theorem rulesOf_any (regs places pol : Int) (w : World) : Calls Tryd.prog 29 #[.int .i64 regs, .int .i64 places, .int .i64 pol] w fun e w' => ∃ v, e = .returned v ∧ Rules w' v regs places pol ∧ Below w.heap.size w w' := by
  have s0 := RSt.start w
  have e0 : (w.alloc (.map #[] 0)).heap.size = w.heap.size + 1 := by simp
  have t0 := s0.clo regs
  rw [e0] at t0
  obtain ⟨v0, r0', s1⟩ := t0.put 114 (by unfold LT; omega) rfl (clo (w.heap.size + 1))
  have r0 : (Instr.mapUpdate 74 (.map (some w.heap.size)) (.int .u8 114) (clo (w.heap.size + 1))).run Tryd.prog ((w.alloc (.map #[] 0)).alloc (.cells #[.int .i64 regs] 3)) = .ok () v0 := r0'
  clear r0'
  unfold clo at r0
  have t1 := s1.clo places
  obtain ⟨v1, r1', s2⟩ := t1.put 106 (by unfold LT; omega) rfl (clo (v0.heap.size))
  have r1 : (Instr.mapUpdate 74 (.map (some w.heap.size)) (.int .u8 106) (clo (v0.heap.size))).run Tryd.prog (v0.alloc (.cells #[.int .i64 places] 3)) = .ok () v1 := r1'
  clear r1'
  unfold clo at r1
  have t2 := s2.clo pol
  obtain ⟨v2, r2', s3⟩ := t2.put 112 (by unfold LT; omega) rfl (clo (v1.heap.size))
  have r2 : (Instr.mapUpdate 74 (.map (some w.heap.size)) (.int .u8 112) (clo (v1.heap.size))).run Tryd.prog (v1.alloc (.cells #[.int .i64 pol] 3)) = .ok () v2 := r2'
  clear r2'
  unfold clo at r2
  obtain ⟨v3, r3', s4⟩ := s3.put 110 (by unfold LT; omega) rfl (.func (.func 36) #[] #[])
  have r3 : (Instr.mapUpdate 74 (.map (some w.heap.size)) (.int .u8 110) (.func (.func 36) #[] #[])).run Tryd.prog v2 = .ok () v3 := r3'
  clear r3'
  obtain ⟨v4, r4', s5⟩ := s4.put 115 (by unfold LT; omega) rfl (.func (.func 33) #[] #[])
  have r4 : (Instr.mapUpdate 74 (.map (some w.heap.size)) (.int .u8 115) (.func (.func 33) #[] #[])).run Tryd.prog v3 = .ok () v4 := r4'
  clear r4'
  have t5 := s5.clo 1
  obtain ⟨v5, r5', s6⟩ := t5.put 46 (by unfold LT; omega) rfl (clo (v4.heap.size))
  have r5 : (Instr.mapUpdate 74 (.map (some w.heap.size)) (.int .u8 46) (clo (v4.heap.size))).run Tryd.prog (v4.alloc (.cells #[.int .i64 1] 3)) = .ok () v5 := r5'
  clear r5'
  unfold clo at r5
  have HS := hide s6
  clear s0 s1 s2 s3 s4 s5 s6 t0 t1 t2 t5 e0
  have hmm := @run_makeMap Tryd.prog
  go_enter Tryd.func29, Tryd.ntmps29
  go_wp2
  go_ret
  obtain ⟨k1, k2, k3⟩ := HS.out
  exact ⟨_, rfl, ⟨_, _, _, _, _, rfl, k2, (k3 (w.heap.size + 1, regs) (by simp)).2.2, (k3 (v0.heap.size, places) (by simp)).2.2, (k3 (v1.heap.size, pol) (by simp)).2.2, (k3 (v4.heap.size, 1) (by simp)).2.2⟩, k1⟩
end Go.Proofs.YtlngeonfabahnaaDoor
