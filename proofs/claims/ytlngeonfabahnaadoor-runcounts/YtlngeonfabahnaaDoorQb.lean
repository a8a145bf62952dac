/-
  The block of a run: its cells are those of a state. Own work.
-/
import Derived.Test.YtlngeonfabahnaaDoorQa
import Derived.Test.YtlngeonfabahnaaDoorPr
namespace Go.Proofs.YtlngeonfabahnaaDoor
open Go.RowKit

/-- the cells of the block b are f's, for N of them, and may be written -/
def RC (N : Nat) (w : World) (b : Nat) (f : Nat → Value) : Prop := b < w.heap.size ∧ (∀ k, k < N → w.cell? ⟨b, k, none⟩ = some (f k)) ∧ ∀ k, w.frozen? ⟨b, k, none⟩ = false
def upd (f : Nat → Value) (k : Nat) (v : Value) : Nat → Value := fun x => if x = k then v else f x
theorem RC.below {N : Nat} {w w' : World} {b : Nat} {f : Nat → Value} (h : RC N w b f) (hb : Below w.heap.size w w') : RC N w' b f :=
  ⟨Nat.lt_of_lt_of_le h.1 hb.size, fun k hk => (hb.cell (p := ⟨b, k, none⟩) h.1).trans (h.2.1 k hk), fun k => (hb.frozen (p := ⟨b, k, none⟩) h.1).trans (h.2.2 k)⟩
theorem RC.alloc {N : Nat} {w : World} {b : Nat} {f : Nat → Value} (h : RC N w b f) (o : Obj) : RC N (w.alloc o) b f := h.below ((Below.refl _ _).alloc (Nat.le_refl _) _)
theorem RC.grown {N : Nat} {w w' : World} {b B : Nat} {f : Nat → Value} (h : RC N w b f) (hb : Below B w w') (hB : b < B) : RC N w' b f :=
  ⟨Nat.lt_of_lt_of_le h.1 hb.size, fun k hk => (hb.cell (p := ⟨b, k, none⟩) hB).trans (h.2.1 k hk), fun k => (hb.frozen (p := ⟨b, k, none⟩) hB).trans (h.2.2 k)⟩
theorem RC.set {N : Nat} {w : World} {b : Nat} {f : Nat → Value} (h : RC N w b f) (k : Nat) (hk : k < N) (v : Value) : RC N (w.setCell ⟨b, k, none⟩ v) b (upd f k v) := by
  refine ⟨by simpa [World.setCell] using h.1, fun j hj => ?_, fun j => by simpa using h.2.2 j⟩
  unfold upd
  by_cases e : j = k
  · subst e
    rw [if_pos rfl]
    exact World.cell?_setCell_same _ _ _ (h.2.1 j hj)
  · rw [if_neg e, cell_other _ _ _ _ _ _ (.inr e)]
    exact h.2.1 j hj
theorem RC.other {N : Nat} {w : World} {b g o : Nat} {f : Nat → Value} (h : RC N w b f) (hg : b ≠ g) (v : Value) : RC N (w.setCell ⟨g, o, none⟩ v) b f :=
  ⟨by simpa [World.setCell] using h.1, fun j hj => (cell_other _ _ _ _ _ _ (.inl hg)).trans (h.2.1 j hj), fun j => by simpa using h.2.2 j⟩
theorem RC.new {N : Nat} (w : World) (cs : Array Value) (e : TypeId) (f : Nat → Value) (h : ∀ k, k < N → cs[k]? = some (f k)) : RC N (w.alloc (.cells cs e)) w.heap.size f :=
  ⟨by simp, fun k hk => (cell_of_row _ w.heap.size _ _ e (0, 0) (heap_alloc_new w _)).trans (h k hk), fun k => frozen_of_row _ _ _ _ _ (heap_alloc_new w _)⟩

/-- a run's cells -/
def rf (cv mv sv vc : Value) (s : St) : Nat → Value := fun k =>
  if k = 0 then cv else if k = 1 then mv else if k = 2 then sv else if k < 19 then .int .i64 (s.regs (k - 3)) else if k = 19 then .int .i64 s.place else if k = 20 then .int .i64 s.at_ else if k = 21 then .int .i64 s.ost
  else if k = 22 then .int .i64 s.ova else if k = 23 then .int .i64 s.on else if k = 24 then vc else if k = 25 then .int .i64 s.sig else .int .i64 s.steps
def upI (f : Nat → Value) (k : Nat) (v : Int) : Nat → Value := upd f k (.int .i64 v)
theorem rf_put (cv mv sv vc : Value) (s : St) (a v : Int) (h0 : 0 ≤ a) (h1 : a < 16) : upd (rf cv mv sv vc s) (3 + a.toNat) (.int .i64 v) = rf cv mv sv vc (s.put a v) := by
  funext k
  have hs : ∀ j, ¬ j = a.toNat → (s.put a v).regs j = s.regs j := fun j hj => if_neg hj
  have hy : (s.put a v).regs a.toNat = v := if_pos rfl
  unfold upd rf
  by_cases hk : k = 3 + a.toNat
  · rw [if_pos hk]
    subst hk
    rw [if_neg (by omega), if_neg (by omega), if_neg (by omega), if_pos (by omega), show 3 + a.toNat - 3 = a.toNat by omega, hy]
  · rw [if_neg hk]
    by_cases h2 : k < 3
    · rcases (show k = 0 ∨ k = 1 ∨ k = 2 by omega) with rfl | rfl | rfl <;> rfl
    · rw [hs (k - 3) (by omega)]
      rfl
theorem rf_place (cv mv sv vc : Value) (s : St) (v : Int) : upd (rf cv mv sv vc s) 19 (.int .i64 v) = rf cv mv sv vc (s.go v) := by
  funext k
  unfold upd
  by_cases hk : k = 19
  · subst hk; rfl
  · rw [if_neg hk]; unfold rf; rw [if_neg hk, if_neg hk]; rfl
theorem rf_at (cv mv sv vc : Value) (s : St) (v : Nat) : upd (rf cv mv sv vc s) 20 (.int .i64 v) = rf cv mv sv vc { s with at_ := v } := by
  funext k
  unfold upd
  by_cases hk : k = 20
  · subst hk; rfl
  · rw [if_neg hk]; unfold rf; rw [if_neg hk, if_neg hk]
theorem rf_ost (cv mv sv vc : Value) (s : St) (v : Int) : upd (rf cv mv sv vc s) 21 (.int .i64 v) = rf cv mv sv vc { s with ost := v } := by
  funext k
  unfold upd
  by_cases hk : k = 21
  · subst hk; rfl
  · rw [if_neg hk]; unfold rf; rw [if_neg hk, if_neg hk]
theorem rf_ova (cv mv sv vc : Value) (s : St) (v : Int) : upd (rf cv mv sv vc s) 22 (.int .i64 v) = rf cv mv sv vc { s with ova := v } := by
  funext k
  unfold upd
  by_cases hk : k = 22
  · subst hk; rfl
  · rw [if_neg hk]; unfold rf; rw [if_neg hk, if_neg hk]
theorem rf_on (cv mv sv vc : Value) (s : St) (v : Int) : upd (rf cv mv sv vc s) 23 (.int .i64 v) = rf cv mv sv vc { s with on := v } := by
  funext k
  unfold upd
  by_cases hk : k = 23
  · subst hk; rfl
  · rw [if_neg hk]; unfold rf; rw [if_neg hk, if_neg hk]
theorem rf_cmds (cv mv sv vc vd : Value) (s : St) (l : List Cm) : upd (rf cv mv sv vc s) 24 vd = rf cv mv sv vd { s with cmds := l } := by
  funext k
  unfold upd
  by_cases hk : k = 24
  · subst hk; rfl
  · rw [if_neg hk]; unfold rf; rw [if_neg hk, if_neg hk]
theorem rf_sig (cv mv sv vc : Value) (s : St) (v : Nat) : upd (rf cv mv sv vc s) 25 (.int .i64 v) = rf cv mv sv vc { s with sig := v } := by
  funext k
  unfold upd
  by_cases hk : k = 25
  · subst hk; rfl
  · rw [if_neg hk]; unfold rf; rw [if_neg hk, if_neg hk]
theorem rf_steps (cv mv sv vc : Value) (s : St) (v : Nat) (N : Nat) (hN : N = 27) : ∀ k, k < N → upd (rf cv mv sv vc s) 26 (.int .i64 v) k = rf cv mv sv vc { s with steps := v } k := by
  intro k hk
  unfold upd
  by_cases h : k = 26
  · subst h; rfl
  · rw [if_neg h]
    unfold rf
    by_cases h2 : k < 19
    · by_cases h3 : k < 3
      · rcases (show k = 0 ∨ k = 1 ∨ k = 2 by omega) with rfl | rfl | rfl <;> rfl
      · rw [if_neg (by omega), if_neg (by omega), if_neg (by omega), if_pos h2, if_neg (by omega), if_neg (by omega), if_neg (by omega), if_pos h2]
    · rcases (show k = 19 ∨ k = 20 ∨ k = 21 ∨ k = 22 ∨ k = 23 ∨ k = 24 ∨ k = 25 by omega) with rfl | rfl | rfl | rfl | rfl | rfl | rfl <;> rfl
theorem RC.congr {N : Nat} {w : World} {b : Nat} {f g : Nat → Value} (h : RC N w b f) (e : ∀ k, k < N → f k = g k) : RC N w b g := ⟨h.1, fun k hk => by rw [h.2.1 k hk, e k hk], h.2.2⟩

/-- a command, an outcome that is known, a number, as cells -/
def cmC (c : Cm) : List Value := [.int .i64 (c.n : Int), .int .u8 (c.kind : Int), .string c.s, .int .i64 c.arg, .int .i64 c.pol]
def knC (k : Int × Oc) : List Value := [.int .i64 k.1, .int .i64 k.2.1, .int .i64 k.2.2]
def nuC (x : Int) : List Value := [.int .i64 x]
theorem full_cm (l : List Cm) : Full 5 (l.map cmC) := fun x hx => by
  obtain ⟨c, -, rfl⟩ := List.mem_map.1 hx
  exact ⟨rfl, fun u hu => by simp [cmC] at hu; rcases hu with rfl | rfl | rfl | rfl | rfl <;> rfl⟩
theorem full_kn (l : List (Int × Oc)) : Full 3 (l.map knC) := fun x hx => by
  obtain ⟨c, -, rfl⟩ := List.mem_map.1 hx
  exact ⟨rfl, fun u hu => by simp [knC] at hu; rcases hu with rfl | rfl | rfl <;> rfl⟩
theorem full_nu (l : List Int) : Full 1 (l.map nuC) := fun x hx => by
  obtain ⟨c, -, rfl⟩ := List.mem_map.1 hx
  exact ⟨rfl, fun u hu => by simp [nuC] at hu; rw [hu]; rfl⟩
theorem full_in (l : List Ins) : Full 6 (l.map insC) := fun x hx => by
  obtain ⟨c, -, rfl⟩ := List.mem_map.1 hx
  exact ⟨rfl, fun u hu => by simp [insC] at hu; rcases hu with rfl | rfl | rfl | rfl | rfl | rfl <;> rfl⟩
/-- the signals; the outcomes that are known -/
def RdN (w : World) (v : Value) (l : List Int) : Prop := RdX w v 1 (l.map nuC)
def RdK (w : World) (v : Value) (l : List (Int × Oc)) : Prop := RdX w v 3 (l.map knC)
def RdM (w : World) (v : Value) (l : List Cm) : Prop := RdX w v 5 (l.map cmC)
def OwnM (w : World) (base : Nat) (v : Value) (l : List Cm) : Prop := OwnX w base 55 5 v (l.map cmC)
theorem RdN.below {w w' : World} {v : Value} {l : List Int} (h : RdN w v l) (hb : Below w.heap.size w w') : RdN w' v l := RdX.below h hb
theorem RdK.below {w w' : World} {v : Value} {l : List (Int × Oc)} (h : RdK w v l) (hb : Below w.heap.size w w') : RdK w' v l := RdX.below h hb
theorem RdN.shape {w : World} {v : Value} {l : List Int} (h : RdN w v l) : ∃ ao cap, v = .slice ao l.length cap ∧ l.length ≤ cap ∧ cap ≤ maxLen := by
  obtain ⟨ao, cap, hv, r⟩ := RdX.shape h
  exact ⟨ao, cap, by rw [hv, List.length_map], by simpa using r⟩
theorem RdK.shape {w : World} {v : Value} {l : List (Int × Oc)} (h : RdK w v l) : ∃ ao cap, v = .slice ao l.length cap ∧ l.length ≤ cap ∧ cap ≤ maxLen := by
  obtain ⟨ao, cap, hv, r⟩ := RdX.shape h
  exact ⟨ao, cap, by rw [hv, List.length_map], by simpa using r⟩
theorem RdM.shape {w : World} {v : Value} {l : List Cm} (h : RdM w v l) : ∃ ao cap, v = .slice ao l.length cap ∧ l.length ≤ cap ∧ cap ≤ maxLen := by
  obtain ⟨ao, cap, hv, r⟩ := RdX.shape h
  exact ⟨ao, cap, by rw [hv, List.length_map], by simpa using r⟩
theorem RdN.at {w : World} {ao : Option Addr} {n cap : Nat} {l : List Int} (h : RdN w (.slice ao n cap) l) (k : Nat) (hk : k < l.length) : ∃ b off, ao = some ⟨b, off, none⟩ ∧ b < w.heap.size ∧ w.cell? ⟨b, off + k, none⟩ = some (.int .i64 l[k]) := by
  have hm : (l.map nuC)[k]'(by simpa using hk) = nuC l[k] := List.getElem_map _
  obtain ⟨b, off, e, hb, hc⟩ := RdX.at h k (by simpa using hk) (by rw [hm]; exact Nat.zero_lt_one)
  rw [hm] at hc
  exact ⟨b, off, e, hb, by simpa using hc 0 _ rfl⟩
theorem RdK.at {w : World} {ao : Option Addr} {n cap : Nat} {l : List (Int × Oc)} (h : RdK w (.slice ao n cap) l) (k : Nat) (hk : k < l.length) : ∃ b off, ao = some ⟨b, off, none⟩ ∧ b < w.heap.size ∧
    w.cell? ⟨b, off + k * 3, none⟩ = some (.int .i64 l[k].1) ∧ w.cell? ⟨b, off + k * 3 + 1, none⟩ = some (.int .i64 l[k].2.1) ∧ w.cell? ⟨b, off + k * 3 + 2, none⟩ = some (.int .i64 l[k].2.2) := by
  have hm : (l.map knC)[k]'(by simpa using hk) = knC l[k] := List.getElem_map _
  obtain ⟨b, off, e, hb, hc⟩ := RdX.at h k (by simpa using hk) (by rw [hm]; show 0 < 3; omega)
  rw [hm] at hc
  exact ⟨b, off, e, hb, hc 0 _ rfl, hc 1 _ rfl, hc 2 _ rfl⟩
theorem RdM.at {w : World} {ao : Option Addr} {n cap : Nat} {l : List Cm} (h : RdM w (.slice ao n cap) l) (k : Nat) (hk : k < l.length) : ∃ b off, ao = some ⟨b, off, none⟩ ∧ b < w.heap.size ∧
    w.cell? ⟨b, off + k * 5, none⟩ = some (.int .i64 (l[k].n : Int)) ∧ w.cell? ⟨b, off + k * 5 + 1, none⟩ = some (.int .u8 (l[k].kind : Int)) ∧ w.cell? ⟨b, off + k * 5 + 2, none⟩ = some (.string l[k].s) ∧ w.cell? ⟨b, off + k * 5 + 3, none⟩ = some (.int .i64 l[k].arg) ∧ w.cell? ⟨b, off + k * 5 + 4, none⟩ = some (.int .i64 l[k].pol) := by
  have hm : (l.map cmC)[k]'(by simpa using hk) = cmC l[k] := List.getElem_map _
  obtain ⟨b, off, e, hb, hc⟩ := RdX.at h k (by simpa using hk) (by rw [hm]; show 0 < 5; omega)
  rw [hm] at hc
  exact ⟨b, off, e, hb, hc 0 _ rfl, hc 1 _ rfl, hc 2 _ rfl, hc 3 _ rfl, hc 4 _ rfl⟩

/-- the run in block b, since the world W: what it leans on, and how it stands -/
structure Rn (W : World) (b : Nat) (cv mv sv : Value) (w : World) (s : St) : Prop where
  own : ∃ vc, RC 27 w b (rf cv mv sv vc s) ∧ OwnM w (b + 1) vc s.cmds
  below : Below b W w
  few : s.cmds.length ≤ 200
  sml : s.sig ≤ 100000000
theorem Rn.lt {W : World} {b : Nat} {cv mv sv : Value} {w : World} {s : St} (h : Rn W b cv mv sv w s) : b < w.heap.size := by
  obtain ⟨vc, h1, -⟩ := h.own
  exact h1.1
/-- what a call that leaves this block, and all below it, alone leaves of a run -/
theorem Rn.thenBelow {W : World} {b : Nat} {cv mv sv : Value} {w w' : World} {s : St} (h : Rn W b cv mv sv w s) (hb : Below w.heap.size w w') : Rn W b cv mv sv w' s := by
  obtain ⟨vc, h1, h2⟩ := h.own
  exact ⟨⟨vc, h1.below hb, h2.below hb⟩, h.below.trans (hb.mono (Nat.le_of_lt h1.1)), h.few, h.sml⟩
theorem Rn.drew {W : World} {b : Nat} {cv mv sv : Value} {w : World} {s : St} (h : Rn W b cv mv sv w s) : Rn W b cv mv sv w.drew s := h.thenBelow (Below.refl _ _).drew
theorem Rn.alloc {W : World} {b : Nat} {cv mv sv : Value} {w : World} {s : St} (h : Rn W b cv mv sv w s) (o : Obj) : Rn W b cv mv sv (w.alloc o) s := h.thenBelow ((Below.refl _ _).alloc (Nat.le_refl _) _)
/-- a store into a cell of the block -/
theorem Rn.store {W : World} {b : Nat} {cv mv sv : Value} {w : World} {s t : St} (h : Rn W b cv mv sv w s) (k : Nat) (hk : k < 27) (v : Value)
    (e : ∀ vc, ∀ j, j < 27 → upd (rf cv mv sv vc s) k v j = rf cv mv sv vc t j) (hc : t.cmds = s.cmds) (hs : t.sig ≤ 100000000) : Rn W b cv mv sv (w.setCell ⟨b, k, none⟩ v) t := by
  obtain ⟨vc, h1, h2⟩ := h.own
  exact ⟨⟨vc, (h1.set k hk v).congr (e vc), by rw [hc]; exact h2.far (Nat.lt_succ_self _) v⟩, h.below.setCell (Nat.le_refl _) v, by rw [hc]; exact h.few, hs⟩
theorem Rn.put {W : World} {b : Nat} {cv mv sv : Value} {w : World} {s : St} (h : Rn W b cv mv sv w s) (a v : Int) (h0 : 0 ≤ a) (h1 : a < 16) : Rn W b cv mv sv (w.setCell ⟨b, 3 + a.toNat, none⟩ (.int .i64 v)) (s.put a v) :=
  h.store _ (by omega) _ (fun vc j _ => by rw [rf_put _ _ _ _ _ _ _ h0 h1]) rfl h.sml
theorem Rn.go {W : World} {b : Nat} {cv mv sv : Value} {w : World} {s : St} (h : Rn W b cv mv sv w s) (v : Int) : Rn W b cv mv sv (w.setCell ⟨b, 19, none⟩ (.int .i64 v)) (s.go v) :=
  h.store _ (by omega) _ (fun vc j _ => by rw [rf_place]) rfl h.sml
theorem Rn.stand {W : World} {b : Nat} {cv mv sv : Value} {w : World} {s : St} (h : Rn W b cv mv sv w s) (v : Nat) : Rn W b cv mv sv (w.setCell ⟨b, 20, none⟩ (.int .i64 v)) { s with at_ := v } :=
  h.store _ (by omega) _ (fun vc j _ => by rw [rf_at]) rfl h.sml
theorem Rn.out {W : World} {b : Nat} {cv mv sv : Value} {w : World} {s : St} (h : Rn W b cv mv sv w s) (x v : Int) : Rn W b cv mv sv ((w.setCell ⟨b, 21, none⟩ (.int .i64 x)).setCell ⟨b, 22, none⟩ (.int .i64 v)) { s with ost := x, ova := v } :=
  (h.store (t := { s with ost := x }) _ (by omega) _ (fun vc j _ => by rw [rf_ost]) rfl h.sml).store (t := { s with ost := x, ova := v }) _ (by omega) _ (fun vc j _ => by rw [rf_ova]) rfl h.sml
theorem Rn.waits {W : World} {b : Nat} {cv mv sv : Value} {w : World} {s : St} (h : Rn W b cv mv sv w s) (v : Int) : Rn W b cv mv sv (w.setCell ⟨b, 23, none⟩ (.int .i64 v)) { s with on := v } :=
  h.store _ (by omega) _ (fun vc j _ => by rw [rf_on]) rfl h.sml
theorem Rn.signed {W : World} {b : Nat} {cv mv sv : Value} {w : World} {s : St} (h : Rn W b cv mv sv w s) (v : Nat) (hv : v ≤ 100000000) : Rn W b cv mv sv (w.setCell ⟨b, 25, none⟩ (.int .i64 v)) { s with sig := v } :=
  h.store _ (by omega) _ (fun vc j _ => by rw [rf_sig]) rfl hv
theorem Rn.counted {W : World} {b : Nat} {cv mv sv : Value} {w : World} {s : St} (h : Rn W b cv mv sv w s) (v : Nat) : Rn W b cv mv sv (w.setCell ⟨b, 26, none⟩ (.int .i64 v)) { s with steps := v } :=
  h.store _ (by omega) _ (fun vc j hj => rf_steps _ _ _ _ _ _ 27 rfl j hj) rfl h.sml
/-- a register's cell -/
theorem Rn.reg {W : World} {b : Nat} {cv mv sv : Value} {w : World} {s : St} (h : Rn W b cv mv sv w s) (a : Int) (h0 : 0 ≤ a) (h1 : a < 16) : w.cell? ⟨b, 3 + a.toNat, none⟩ = some (.int .i64 (getR s a)) := by
  obtain ⟨vc, hc, -⟩ := h.own
  rw [hc.2.1 _ (by omega)]
  unfold rf getR
  rw [if_neg (by omega), if_neg (by omega), if_neg (by omega), if_pos (by omega), show 3 + a.toNat - 3 = a.toNat by omega]
theorem Rn.cell {W : World} {b : Nat} {cv mv sv : Value} {w : World} {s : St} (h : Rn W b cv mv sv w s) : w.cell? ⟨b, 0, none⟩ = some cv ∧ w.cell? ⟨b, 1, none⟩ = some mv ∧ w.cell? ⟨b, 2, none⟩ = some sv ∧ w.cell? ⟨b, 19, none⟩ = some (.int .i64 s.place) ∧
    w.cell? ⟨b, 20, none⟩ = some (.int .i64 s.at_) ∧ w.cell? ⟨b, 25, none⟩ = some (.int .i64 s.sig) ∧ w.cell? ⟨b, 26, none⟩ = some (.int .i64 s.steps) := by
  obtain ⟨vc, hc, -⟩ := h.own
  exact ⟨hc.2.1 0 (by omega), hc.2.1 1 (by omega), hc.2.1 2 (by omega), hc.2.1 19 (by omega), hc.2.1 20 (by omega), hc.2.1 25 (by omega), hc.2.1 26 (by omega)⟩
theorem Rn.free {W : World} {b : Nat} {cv mv sv : Value} {w : World} {s : St} (h : Rn W b cv mv sv w s) (k : Nat) : w.frozen? ⟨b, k, none⟩ = false := by
  obtain ⟨vc, hc, -⟩ := h.own
  exact hc.2.2 k
end Go.Proofs.YtlngeonfabahnaaDoor
