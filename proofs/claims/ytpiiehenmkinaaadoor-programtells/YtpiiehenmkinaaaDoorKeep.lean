/-
  append onto bytes of one's own: what was there reads on as it did; a store into bytes of one's own. Own work.
-/
import Derived.Test.YtpiiehenmkinaaaDoorBase
namespace Go.Proofs.YtpiiehenmkinaaaDoor
open Go.RowKit

theorem Rd.front {w : World} {ao : Option Addr} {n cap : Nat} {l m : List UInt8} (h : Rd w (.slice ao n cap) (l ++ m)) : Rd w (.slice ao l.length cap) l := by
  obtain ⟨ao', cap', hv, h1, h2, h3, h4⟩ := h
  cases hv
  rw [List.length_append] at h1
  refine ⟨ao, cap, rfl, by omega, h2, h3, fun a ha i hi => ?_⟩
  have := h4 a ha i (by rw [List.length_append]; omega)
  rw [this, List.getElem_append_left hi]

theorem run_append_keeps {P : Program} (w : World) (t ty : TypeId) (i : TypeInfo) (ht : P.underlying t = some (.slice 5)) (hi : P.info? 5 = some i) (hz : i.zero = some (.int .u8 0)) (h1 : i.size = 1) (h2 : i.bytes = 1)
    (base : Nat) (v s : Value) (l m : List UInt8) (hown : Own w base v l) (hs : Rd w s m) (hlen : l.length + m.length ≤ 140737488355328) (hbase : base ≤ w.heap.size) :
    ∃ v' w', (Builtin.append_ #[t, t] ty #[v, s]).run P w = .ok v' w' ∧ Own w' base v' (l ++ m) ∧ w.grownBy w' v.ownBlock ∧ Rd w' v l := by
  obtain ⟨v', w', hr, ho, hg⟩ := run_append_rd (P := P) w t ty i ht hi hz h1 h2 base v s l m hown hs hlen hbase
  refine ⟨v', w', hr, ho, hg, ?_⟩
  rcases hown.2 with ⟨rfl, h0⟩ | ⟨g, cap, cur, hv, hb, hgg, hnc, hcm, hcs, htake⟩
  · have : l = [] := List.eq_nil_of_length_eq_zero h0
    subst this
    exact Rd.nil w'
  · subst hv
    obtain ⟨ao, c, rfl, h3, h4, h5, h6⟩ := hs
    cases ao with
    | none =>
      have hc := h5 rfl
      subst hc
      have hm : m = [] := List.eq_nil_of_length_eq_zero (by omega)
      subst hm
      have hrun := run_append_owned_none (P := P) (w := w) base t ty 5 i 1 ht hi _ l.length (BV l) hown
      rw [show (Value.slice none ([] : List UInt8).length 0) = .slice none 0 0 from rfl, hrun] at hr
      cases hr
      exact hown.rd
    | some a =>
      have hnews : ∀ j u, (BV m)[j]? = some u → w.cell? (a.add j) = some u := fun j u hj => by
        obtain ⟨hj', rfl⟩ := BV_get hj
        exact h6 a rfl j hj'
      by_cases hroom : l.length + m.length ≤ cap
      · have hrun := run_append_room (P := P) w t ty 5 i ht hi g l.length cap cur hgg a m.length c (BV m) (by simp [BV_length, h1]) hnews (BV_one m) hroom
          (by rw [h1, BV_length, hcs]; omega)
        rw [hrun] at hr
        cases hr
        exact ho.rd.front
      · have hrun := run_append_grow (P := P) w t ty 5 i (.int .u8 0) ht hi hz ⟨g, 0, none⟩ l.length cap (BV l) (by simp [BV_length, h1]) (fun j u hj => hown.cells (g := g) rfl j u hj) a m.length c (BV m) (by simp [BV_length, h1]) hnews (by omega) (by omega) (growslice_fits (by omega) (by rw [h2]; omega))
        rw [hrun] at hr
        cases hr
        exact hown.rd.drew.alloc _

theorem wpList_append_keeps {P : Program} (w : World) {ops : Array Oper} {rest : List Oper} {o : Oper} {a : Act} {Q : Exit → Act → World → Prop} (hgd : o.guard = none) (s x : Operand) (t : TypeId)
    (ho : o.op = .call { callee := .builtin .append, args := #[s, x], argTypes := #[t, t] })
    (i : TypeInfo) (ht : P.underlying t = some (.slice 5)) (hi : P.info? 5 = some i) (hz : i.zero = some (.int .u8 0)) (h1 : i.size = 1) (h2 : i.bytes = 1)
    (base : Nat) (v sv : Value) (hs : a.eval s = v) (hx : a.eval x = sv) (l m : List UInt8) (hown : Own w base v l) (hrd : Rd w sv m) (hlen : l.length + m.length ≤ 140737488355328) (hbase : base ≤ w.heap.size)
    (h : ∀ v' w', Own w' base v' (l ++ m) → w.grownBy w' v.ownBlock → Rd w' v l → wpList P ops Q rest (a.put o.dst v') w') : wpList P ops Q (o :: rest) a w := by
  obtain ⟨v', w', hr, h3, h4, h5⟩ := run_append_keeps (P := P) w t o.type i ht hi hz h1 h2 base v sv l m hown hrd hlen hbase
  exact Lib.wpList_append_run w hgd s x t t ho v sv hs hx v' w' hr (h v' w' h3 h4 h5)

/-- bytes of one's own, while another row is written that lies ahead of them -/
theorem Own.apart {w w' : World} {base g : Nat} {v : Value} {l : List UInt8} (h : Own w base v l) (hg : w.grownBy w' (some g)) (hgb : g < base) : Own w' base v l := by
  refine World.ownsRow.kept h hg ?_
  cases hv : v.ownBlock with
  | none => exact .inl rfl
  | some k =>
    right
    intro e
    have := (World.ownsRow.lt h k hv).1
    cases e
    omega

/-- one byte of one's own is written -/
theorem Own.store {w : World} {base g cap : Nat} {l : List UInt8} (h : Own w base (.slice (some ⟨g, 0, none⟩) l.length cap) l) (j : Nat) (y : UInt8) (n : Int) (hn : n = y.toNat) :
    Own (w.setCell ⟨g, j, none⟩ (.int .u8 n)) base (.slice (some ⟨g, 0, none⟩) l.length cap) (l.set j y) := by
  subst hn
  have hst := World.ownsRow.stored h j (.int .u8 (y.toNat : Int))
  unfold Own
  rw [List.length_set]
  have e : BV (l.set j y) = (BV l).set j (.int .u8 (y.toNat : Int)) := by simp [BV, List.map_set]
  rw [e]
  exact hst.1
theorem Own.storeBelow {w : World} {base g cap : Nat} {l : List UInt8} (h : Own w base (.slice (some ⟨g, 0, none⟩) l.length cap) l) (j : Nat) (u : Value) : Below base w (w.setCell ⟨g, j, none⟩ u) := by
  have hb := (World.ownsRow.lt h g rfl).1
  exact (Below.refl _ _).setCell (by exact hb) u
theorem Own.frozen {w : World} {base g cap : Nat} {l : List UInt8} (h : Own w base (.slice (some ⟨g, 0, none⟩) l.length cap) l) (j : Nat) : w.frozen? ⟨g, j, none⟩ = false := World.ownsRow.frozenAt h j
theorem Own.cell {w : World} {base g cap : Nat} {l : List UInt8} (h : Own w base (.slice (some ⟨g, 0, none⟩) l.length cap) l) (j : Nat) (hj : j < l.length) : w.cell? ⟨g, j, none⟩ = some (.int .u8 (l[j].toNat : Int)) := by
  rw [World.ownsRow.cellAt h j (by omega)]
  simp [BV, hj]
end Go.Proofs.YtpiiehenmkinaaaDoor
