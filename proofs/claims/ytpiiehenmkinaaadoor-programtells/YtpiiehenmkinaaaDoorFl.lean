/-
  Lists of lists of bytes in memory. Own work.
-/
import Derived.Test.YtpiiehenmkinaaaDoorFe
import Derived.Test.YtpiiehenmkinaaaDoorKeep
namespace Go.Proofs.YtpiiehenmkinaaaDoor
open Go.RowKit

theorem addr_add (b off j : Nat) : (⟨b, off, none⟩ : Addr).add j = ⟨b, off + j, none⟩ := by
  unfold Addr.add
  split <;> simp_all
theorem Tryd.info25 : (Tryd.prog.info? 25).map (fun i => (i.zero, i.size, i.bytes)) = some (some (.slice none 0 0), 1, 24) := by kernel_rfl
theorem Tryd.info3 : (Tryd.prog.info? 3).map (fun i => (i.zero, i.size, i.bytes)) = some (some (.int .i64 0), 1, 8) := by kernel_rfl

/-- a slice whose cells are these values -/
def RdV (w : World) (v : Value) (vs : List Value) : Prop :=
  ∃ ao cap, v = .slice ao vs.length cap ∧ vs.length ≤ cap ∧ cap ≤ maxLen ∧ (ao = none → cap = 0) ∧ ∀ a, ao = some a → ∀ i (h : i < vs.length), w.cell? (a.add i) = some vs[i]
/-- a slice of slices that read as these bytes -/
def RdL (w : World) (v : Value) (ps : List (Value × List UInt8)) : Prop := RdV w v (ps.map Prod.fst) ∧ ∀ i (h : i < ps.length), Rd w ps[i].1 ps[i].2
/-- a slice of slices, or of numbers, that the call itself has made -/
def OwnV (w : World) (base : Nat) (e : TypeId) (v : Value) (vs : List Value) : Prop := w.ownsRow base e 1 v vs.length vs

theorem RdV.below {w w' : World} {v : Value} {vs : List Value} (h : RdV w v vs) (hb : Below w.heap.size w w') : RdV w' v vs := by
  obtain ⟨ao, cap, hv, h1, h2, h3, h4⟩ := h
  refine ⟨ao, cap, hv, h1, h2, h3, fun a ha i hi => ?_⟩
  have hc := h4 a ha i hi
  rw [hb.cell (World.block_lt_of_cell? w _ hc)]
  exact hc
theorem RdL.below {w w' : World} {v : Value} {ps : List (Value × List UInt8)} (h : RdL w v ps) (hb : Below w.heap.size w w') : RdL w' v ps := ⟨h.1.below hb, fun i hi => (h.2 i hi).below hb⟩
theorem RdL.nil (w : World) : RdL w (.slice none 0 0) [] := ⟨⟨none, 0, rfl, Nat.le_refl _, by simp [maxLen], fun _ => rfl, fun a h => by cases h⟩, fun i h => by simp at h⟩
theorem OwnV.nil (w : World) (base : Nat) (e : TypeId) : OwnV w base e (.slice none 0 0) [] := World.ownsRow_nil _ _ _ _
theorem OwnV.below {w w' : World} {base : Nat} {e : TypeId} {v : Value} {vs : List Value} (h : OwnV w base e v vs) (hb : Below w.heap.size w w') : OwnV w' base e v vs := by
  refine ⟨h.1, ?_⟩
  rcases h.2 with h2 | ⟨g, cap, cur, hv, hb2, hg, r⟩
  · exact .inl h2
  · exact .inr ⟨g, cap, cur, hv, hb2, by rw [hb.block g (Array.getElem?_eq_some_iff.1 hg).1]; exact hg, r⟩
theorem OwnV.alloc {w : World} {base : Nat} {e : TypeId} {v : Value} {vs : List Value} (h : OwnV w base e v vs) (o : Obj) : OwnV (w.alloc o) base e v vs := World.ownsRow.alloc h o
theorem OwnV.drew {w : World} {base : Nat} {e : TypeId} {v : Value} {vs : List Value} (h : OwnV w base e v vs) : OwnV w.drew base e v vs := h
theorem OwnV.rd {w : World} {base : Nat} {e : TypeId} {v : Value} {vs : List Value} (h : OwnV w base e v vs) : RdV w v vs := by
  rcases h.2 with ⟨rfl, h0⟩ | ⟨g, cap, cur, hv, hb, hg, hn, hm, hs, ht⟩
  · have : vs = [] := List.eq_nil_of_length_eq_zero h0
    subst this
    exact ⟨none, 0, rfl, Nat.le_refl _, by simp [maxLen], fun _ => rfl, fun a h => by cases h⟩
  · refine ⟨some ⟨g, 0, none⟩, cap, hv, hn, hm, by simp, fun a ha i hi => ?_⟩
    obtain rfl := Option.some.inj ha
    exact h.cells (g := g) (by rw [hv]; rfl) i _ (by simp [hi])
theorem RdV.cells {w : World} {v : Value} {vs : List Value} (h : RdV w v vs) (hp : 0 < vs.length) : ∃ b off cap, v = .slice (some ⟨b, off, none⟩) vs.length cap ∧ vs.length ≤ cap ∧ cap ≤ maxLen ∧ b < w.heap.size ∧ ∀ i (h : i < vs.length), w.cell? ⟨b, off + i, none⟩ = some vs[i] := by
  obtain ⟨ao, cap, hv, h1, h2, h3, h4⟩ := h
  cases ao with
  | none => have := h3 rfl; omega
  | some a =>
    obtain ⟨b, off, sp⟩ := a
    have h0 := h4 _ rfl 0 hp
    have hsp : sp = none := by
      cases sp with
      | none => rfl
      | some x =>
        simp [Addr.add, World.cell?] at h0
        split at h0 <;> simp at h0
    subst hsp
    refine ⟨b, off, cap, hv, h1, h2, World.block_lt_of_cell? w _ h0, fun i hi => ?_⟩
    have := h4 _ rfl i hi
    rw [addr_add] at this
    exact this
/-- append of one value onto a list of one's own -/
theorem run_append_v {P : Program} (w : World) (t ty e : TypeId) (i : TypeInfo) (z : Value) (bytes : Nat) (ht : P.underlying t = some (.slice e)) (hi : P.info? e = some i) (hz : i.zero = some z) (h1 : i.size = 1) (h2 : i.bytes = bytes) (hz1 : z.cells.size = 1) (hb24 : bytes ≤ 24)
    (base : Nat) (v x : Value) (a : Addr) (cap : Nat) (vs : List Value) (hx : x.oneCell' = true) (hc : w.cell? a = some x) (hown : OwnV w base e v vs) (hlen : vs.length ≤ 1000000) (hbase : base ≤ w.heap.size) :
    ∃ v' w', (Builtin.append_ #[t, t] ty #[v, .slice (some a) 1 cap]).run P w = .ok v' w' ∧ OwnV w' base e v' (vs ++ [x]) ∧ w.grownBy w' v.ownBlock := by
  obtain ⟨v', w', hr, ho, hg, _⟩ := run_append_own (P := P) w base t ty e i z 1 bytes ht hi hz h1 h2 hz1 (by omega) v vs.length vs hown a 1 cap [x] (by simp)
    (fun j u hj => by
      cases j with
      | zero =>
        simp at hj
        subst hj
        have : a.add 0 = a := by unfold Addr.add; split <;> simp_all
        rw [this]
        exact hc
      | succ j => simp at hj) (fun u hu => by simp at hu; subst hu; exact hx) (by unfold maxLen; omega) (by have := Nat.mul_le_mul (show vs.length + 1 ≤ 1000001 by omega) hb24; omega) hbase
  refine ⟨v', w', hr, ?_, hg⟩
  unfold OwnV
  rw [List.length_append]
  exact ho
end Go.Proofs.YtpiiehenmkinaaaDoor
