/-
  The contracts of SameBytes, gets, errs, awake. append onto bytes of one's own: what was there reads on as it did; a store into bytes of one's own. Lists of lists of bytes in memory. Own work.
-/
import Derived.Test.YtffgbjojngnebaaDoorQe
import Derived.Lib.SlBytesConst
import Derived.Test.YtffgbjojngnebaaDoorQa
namespace Go.Proofs.YtffgbjojngnebaaDoor
open Go.RowKit

set_option maxRecDepth 100000 in
set_option maxHeartbeats 800000 in
theorem same_any (v0 v1 : Value) (l0 l1 : List UInt8) (w : World) (h0 : Rd w v0 l0) (h1 : Rd w v1 l1) :
    Calls Tryd.prog 24 #[v0, v1] w fun e w' => e = .returned (.bool (decide (l0 = l1))) ∧ w' = w := by
  obtain ⟨a0, c0, hv, -⟩ := id h0
  subst hv
  obtain ⟨a1, c1, hv, -⟩ := id h1
  subst hv
  have hT := run_toStr
  have hs0 := run_str w _ l0 h0
  have hs1 := run_str w _ l1 h1
  go_enter Tryd.func24, Tryd.ntmps24
  go_wp2
  go_ret
  exact ⟨ret_bool (by rw [Bool.eq_iff_iff]; simp), rfl⟩

theorem put_a : putL [] [97] = ([1, 97, 232, 183, 190, 67, 165], 0) := by decide +kernel

end Go.Proofs.YtffgbjojngnebaaDoor
namespace Go.Proofs.YtffgbjojngnebaaDoor
open Go.RowKit

theorem Rd.front {w : World} {ao : Option Addr} {n cap : Nat} {l m : List UInt8} (h : Rd w (.slice ao n cap) (l ++ m)) : Rd w (.slice ao l.length cap) l := by
  obtain ⟨ao', cap', hv, h1, h2, h3, h4⟩ := h
  cases hv
  rw [List.length_append] at h1
  refine ⟨ao, cap, rfl, by omega, h2, h3, fun a ha i hi => ?_⟩
  have := h4 a ha i (by rw [List.length_append]; omega)
  rw [this, List.getElem_append_left hi]

theorem run_append_keeps {P : Program} (w : World) (t ty : TypeId) (i : TypeInfo) (ht : P.underlying t = some (.slice 5)) (hi : P.info? 5 = some i) (hz : i.zero = some (.int .u8 0)) (h1 : i.size = 1) (h2 : i.bytes = 1)
    (base : Nat) (v s : Value) (l m : List UInt8) (hown : Own w base v l) (hs : Rd w s m) (hlen : l.length + m.length ≤ 140737488355328) (hbase : base ≤ w.heap.size) :
    ∃ v' w', (Builtin.append_ #[t, t] ty #[v, s]).run P w = .ok v' w' ∧ Own w' base v' (l ++ m) ∧ w.grownBy w' v.ownBlock ∧ Rd w' v l := by
  obtain ⟨v', w', hr, ho, hg⟩ := run_append_rd (P := P) w t ty i ht hi hz h1 h2 base v s l m hown hs hlen hbase
  refine ⟨v', w', hr, ho, hg, ?_⟩
  rcases hown.2 with ⟨rfl, h0⟩ | ⟨g, cap, cur, hv, hb, hgg, hnc, hcm, hcs, htake⟩
  · have : l = [] := List.eq_nil_of_length_eq_zero h0
    subst this
    exact Rd.nil w'
  · subst hv
    obtain ⟨ao, c, rfl, h3, h4, h5, h6⟩ := hs
    cases ao with
    | none =>
      have hc := h5 rfl
      subst hc
      have hm : m = [] := List.eq_nil_of_length_eq_zero (by omega)
      subst hm
      have hrun := run_append_owned_none (P := P) (w := w) base t ty 5 i 1 ht hi _ l.length (BV l) hown
      rw [show (Value.slice none ([] : List UInt8).length 0) = .slice none 0 0 from rfl, hrun] at hr
      cases hr
      exact hown.rd
    | some a =>
      have hnews : ∀ j u, (BV m)[j]? = some u → w.cell? (a.add j) = some u := fun j u hj => by
        obtain ⟨hj', rfl⟩ := BV_get hj
        exact h6 a rfl j hj'
      by_cases hroom : l.length + m.length ≤ cap
      · have hrun := run_append_room (P := P) w t ty 5 i ht hi g l.length cap cur hgg a m.length c (BV m) (by simp [BV_length, h1]) hnews (BV_one m) hroom
          (by rw [h1, BV_length, hcs]; omega)
        rw [hrun] at hr
        cases hr
        exact ho.rd.front
      · have hrun := run_append_grow (P := P) w t ty 5 i (.int .u8 0) ht hi hz ⟨g, 0, none⟩ l.length cap (BV l) (by simp [BV_length, h1]) (fun j u hj => hown.cells (g := g) rfl j u hj) a m.length c (BV m) (by simp [BV_length, h1]) hnews (by omega) (by omega) (growslice_fits (by omega) (by rw [h2]; omega))
        rw [hrun] at hr
        cases hr
        exact hown.rd.drew.alloc _

theorem wpList_append_keeps {P : Program} (w : World) {ops : Array Oper} {rest : List Oper} {o : Oper} {a : Act} {Q : Exit → Act → World → Prop} (hgd : o.guard = none) (s x : Operand) (t : TypeId)
    (ho : o.op = .call { callee := .builtin .append, args := #[s, x], argTypes := #[t, t] })
    (i : TypeInfo) (ht : P.underlying t = some (.slice 5)) (hi : P.info? 5 = some i) (hz : i.zero = some (.int .u8 0)) (h1 : i.size = 1) (h2 : i.bytes = 1)
    (base : Nat) (v sv : Value) (hs : a.eval s = v) (hx : a.eval x = sv) (l m : List UInt8) (hown : Own w base v l) (hrd : Rd w sv m) (hlen : l.length + m.length ≤ 140737488355328) (hbase : base ≤ w.heap.size)
    (h : ∀ v' w', Own w' base v' (l ++ m) → w.grownBy w' v.ownBlock → Rd w' v l → wpList P ops Q rest (a.put o.dst v') w') : wpList P ops Q (o :: rest) a w := by
  obtain ⟨v', w', hr, h3, h4, h5⟩ := run_append_keeps (P := P) w t o.type i ht hi hz h1 h2 base v sv l m hown hrd hlen hbase
  exact Lib.wpList_append_run w hgd s x t t ho v sv hs hx v' w' hr (h v' w' h3 h4 h5)

/-- bytes of one's own, while another row is written that lies ahead of them -/
theorem Own.apart {w w' : World} {base g : Nat} {v : Value} {l : List UInt8} (h : Own w base v l) (hg : w.grownBy w' (some g)) (hgb : g < base) : Own w' base v l := by
  refine World.ownsRow.kept h hg ?_
  cases hv : v.ownBlock with
  | none => exact .inl rfl
  | some k =>
    right
    intro e
    have := (World.ownsRow.lt h k hv).1
    cases e
    omega

/-- one byte of one's own is written -/
theorem Own.store {w : World} {base g cap : Nat} {l : List UInt8} (h : Own w base (.slice (some ⟨g, 0, none⟩) l.length cap) l) (j : Nat) (y : UInt8) (n : Int) (hn : n = y.toNat) :
    Own (w.setCell ⟨g, j, none⟩ (.int .u8 n)) base (.slice (some ⟨g, 0, none⟩) l.length cap) (l.set j y) := by
  subst hn
  have hst := World.ownsRow.stored h j (.int .u8 (y.toNat : Int))
  unfold Own
  rw [List.length_set]
  have e : BV (l.set j y) = (BV l).set j (.int .u8 (y.toNat : Int)) := by simp [BV, List.map_set]
  rw [e]
  exact hst.1
theorem Own.storeBelow {w : World} {base g cap : Nat} {l : List UInt8} (h : Own w base (.slice (some ⟨g, 0, none⟩) l.length cap) l) (j : Nat) (u : Value) : Below base w (w.setCell ⟨g, j, none⟩ u) := by
  have hb := (World.ownsRow.lt h g rfl).1
  exact (Below.refl _ _).setCell (by exact hb) u
theorem Own.frozen {w : World} {base g cap : Nat} {l : List UInt8} (h : Own w base (.slice (some ⟨g, 0, none⟩) l.length cap) l) (j : Nat) : w.frozen? ⟨g, j, none⟩ = false := World.ownsRow.frozenAt h j
theorem Own.cell {w : World} {base g cap : Nat} {l : List UInt8} (h : Own w base (.slice (some ⟨g, 0, none⟩) l.length cap) l) (j : Nat) (hj : j < l.length) : w.cell? ⟨g, j, none⟩ = some (.int .u8 (l[j].toNat : Int)) := by
  rw [World.ownsRow.cellAt h j (by omega)]
  simp [BV, hj]
end Go.Proofs.YtffgbjojngnebaaDoor
namespace Go.Proofs.YtffgbjojngnebaaDoor
open Go.RowKit

theorem Tryd.info22 : (Tryd.prog.info? 22).map (fun i => (i.zero, i.size, i.bytes)) = some (some (.slice none 0 0), 1, 24) := by kernel_rfl
theorem Tryd.info3 : (Tryd.prog.info? 3).map (fun i => (i.zero, i.size, i.bytes)) = some (some (.int .i64 0), 1, 8) := by kernel_rfl

/-- a slice whose cells are these values -/
def RdV (w : World) (v : Value) (vs : List Value) : Prop :=
  ∃ ao cap, v = .slice ao vs.length cap ∧ vs.length ≤ cap ∧ cap ≤ maxLen ∧ (ao = none → cap = 0) ∧ ∀ a, ao = some a → ∀ i (h : i < vs.length), w.cell? (a.add i) = some vs[i]
/-- a slice of slices that read as these bytes -/
def RdL (w : World) (v : Value) (ps : List (Value × List UInt8)) : Prop := RdV w v (ps.map Prod.fst) ∧ ∀ i (h : i < ps.length), Rd w ps[i].1 ps[i].2
/-- a slice of slices, or of numbers, that the call itself has made -/
def OwnV (w : World) (base : Nat) (e : TypeId) (v : Value) (vs : List Value) : Prop := w.ownsRow base e 1 v vs.length vs

theorem RdV.below {w w' : World} {v : Value} {vs : List Value} (h : RdV w v vs) (hb : Below w.heap.size w w') : RdV w' v vs := by
  obtain ⟨ao, cap, hv, h1, h2, h3, h4⟩ := h
  refine ⟨ao, cap, hv, h1, h2, h3, fun a ha i hi => ?_⟩
  have hc := h4 a ha i hi
  rw [hb.cell (World.block_lt_of_cell? w _ hc)]
  exact hc
theorem RdL.below {w w' : World} {v : Value} {ps : List (Value × List UInt8)} (h : RdL w v ps) (hb : Below w.heap.size w w') : RdL w' v ps := ⟨h.1.below hb, fun i hi => (h.2 i hi).below hb⟩
theorem RdL.nil (w : World) : RdL w (.slice none 0 0) [] := ⟨⟨none, 0, rfl, Nat.le_refl _, by simp [maxLen], fun _ => rfl, fun a h => by cases h⟩, fun i h => by simp at h⟩
theorem OwnV.nil (w : World) (base : Nat) (e : TypeId) : OwnV w base e (.slice none 0 0) [] := World.ownsRow_nil _ _ _ _
theorem OwnV.below {w w' : World} {base : Nat} {e : TypeId} {v : Value} {vs : List Value} (h : OwnV w base e v vs) (hb : Below w.heap.size w w') : OwnV w' base e v vs := by
  refine ⟨h.1, ?_⟩
  rcases h.2 with h2 | ⟨g, cap, cur, hv, hb2, hg, r⟩
  · exact .inl h2
  · exact .inr ⟨g, cap, cur, hv, hb2, by rw [hb.block g (Array.getElem?_eq_some_iff.1 hg).1]; exact hg, r⟩
theorem OwnV.alloc {w : World} {base : Nat} {e : TypeId} {v : Value} {vs : List Value} (h : OwnV w base e v vs) (o : Obj) : OwnV (w.alloc o) base e v vs := World.ownsRow.alloc h o
theorem OwnV.drew {w : World} {base : Nat} {e : TypeId} {v : Value} {vs : List Value} (h : OwnV w base e v vs) : OwnV w.drew base e v vs := h
theorem OwnV.rd {w : World} {base : Nat} {e : TypeId} {v : Value} {vs : List Value} (h : OwnV w base e v vs) : RdV w v vs := by
  rcases h.2 with ⟨rfl, h0⟩ | ⟨g, cap, cur, hv, hb, hg, hn, hm, hs, ht⟩
  · have : vs = [] := List.eq_nil_of_length_eq_zero h0
    subst this
    exact ⟨none, 0, rfl, Nat.le_refl _, by simp [maxLen], fun _ => rfl, fun a h => by cases h⟩
  · refine ⟨some ⟨g, 0, none⟩, cap, hv, hn, hm, by simp, fun a ha i hi => ?_⟩
    obtain rfl := Option.some.inj ha
    exact h.cells (g := g) (by rw [hv]; rfl) i _ (by simp [hi])
theorem RdV.cells {w : World} {v : Value} {vs : List Value} (h : RdV w v vs) (hp : 0 < vs.length) : ∃ b off cap, v = .slice (some ⟨b, off, none⟩) vs.length cap ∧ vs.length ≤ cap ∧ cap ≤ maxLen ∧ b < w.heap.size ∧ ∀ i (h : i < vs.length), w.cell? ⟨b, off + i, none⟩ = some vs[i] := by
  obtain ⟨ao, cap, hv, h1, h2, h3, h4⟩ := h
  cases ao with
  | none => have := h3 rfl; omega
  | some a =>
    obtain ⟨b, off, sp⟩ := a
    have h0 := h4 _ rfl 0 hp
    have hsp : sp = none := by
      cases sp with
      | none => rfl
      | some x =>
        simp [Addr.add, World.cell?] at h0
        split at h0 <;> simp at h0
    subst hsp
    refine ⟨b, off, cap, hv, h1, h2, World.block_lt_of_cell? w _ h0, fun i hi => ?_⟩
    have := h4 _ rfl i hi
    rw [addr_add] at this
    exact this
/-- append of one value onto a list of one's own -/
theorem run_append_v {P : Program} (w : World) (t ty e : TypeId) (i : TypeInfo) (z : Value) (bytes : Nat) (ht : P.underlying t = some (.slice e)) (hi : P.info? e = some i) (hz : i.zero = some z) (h1 : i.size = 1) (h2 : i.bytes = bytes) (hz1 : z.cells.size = 1) (hb24 : bytes ≤ 24)
    (base : Nat) (v x : Value) (a : Addr) (cap : Nat) (vs : List Value) (hx : x.oneCell' = true) (hc : w.cell? a = some x) (hown : OwnV w base e v vs) (hlen : vs.length ≤ 1000000) (hbase : base ≤ w.heap.size) :
    ∃ v' w', (Builtin.append_ #[t, t] ty #[v, .slice (some a) 1 cap]).run P w = .ok v' w' ∧ OwnV w' base e v' (vs ++ [x]) ∧ w.grownBy w' v.ownBlock := by
  obtain ⟨v', w', hr, ho, hg, _⟩ := run_append_own (P := P) w base t ty e i z 1 bytes ht hi hz h1 h2 hz1 (by omega) v vs.length vs hown a 1 cap [x] (by simp)
    (fun j u hj => by
      cases j with
      | zero =>
        simp at hj
        subst hj
        have : a.add 0 = a := by unfold Addr.add; split <;> simp_all
        rw [this]
        exact hc
      | succ j => simp at hj) (fun u hu => by simp at hu; subst hu; exact hx) (by unfold maxLen; omega) (by have := Nat.mul_le_mul (show vs.length + 1 ≤ 1000001 by omega) hb24; omega) hbase
  refine ⟨v', w', hr, ?_, hg⟩
  unfold OwnV
  rw [List.length_append]
  exact ho
end Go.Proofs.YtffgbjojngnebaaDoor
