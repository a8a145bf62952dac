/-
  Several of my texts in one: Keep Fl Cg Ch Ci Cj Ck. Own work.
-/
import Derived.Test.YtpiiehenmkinaaaDoorU1
import Derived.Test.YtpiiehenmkinaaaDoorU2
import Derived.Test.YtpiiehenmkinaaaDoorV0
import Derived.Lib.LaidTab
import Derived.Lib.SmallJoins
import Derived.Lib.ItoaLen
import Derived.Lib.AppendIntMem
import Derived.Lib.ItoaMem
import Derived.JoinedOf
import Derived.JoinedAt
import Derived.Deep.RegionHeld
/-
  append onto bytes of one's own: what was there reads on as it did; a store into bytes of one's own. Own work.
-/
namespace Go.Proofs.YtpiiehenmkinaaaDoor
open Go.RowKit

theorem Rd.front {w : World} {ao : Option Addr} {n cap : Nat} {l m : List UInt8} (h : Rd w (.slice ao n cap) (l ++ m)) : Rd w (.slice ao l.length cap) l := by
  obtain ⟨ao', cap', hv, h1, h2, h3, h4⟩ := h
  cases hv
  rw [List.length_append] at h1
  refine ⟨ao, cap, rfl, by omega, h2, h3, fun a ha i hi => ?_⟩
  have := h4 a ha i (by rw [List.length_append]; omega)
  rw [this, List.getElem_append_left hi]

theorem run_append_keeps {P : Program} (w : World) (t ty : TypeId) (i : TypeInfo) (ht : P.underlying t = some (.slice 5)) (hi : P.info? 5 = some i) (hz : i.zero = some (.int .u8 0)) (h1 : i.size = 1) (h2 : i.bytes = 1)
    (base : Nat) (v s : Value) (l m : List UInt8) (hown : Own w base v l) (hs : Rd w s m) (hlen : l.length + m.length ≤ 140737488355328) (hbase : base ≤ w.heap.size) :
    ∃ v' w', (Builtin.append_ #[t, t] ty #[v, s]).run P w = .ok v' w' ∧ Own w' base v' (l ++ m) ∧ w.grownBy w' v.ownBlock ∧ Rd w' v l := by
  obtain ⟨v', w', hr, ho, hg⟩ := run_append_rd (P := P) w t ty i ht hi hz h1 h2 base v s l m hown hs hlen hbase
  refine ⟨v', w', hr, ho, hg, ?_⟩
  rcases hown.2 with ⟨rfl, h0⟩ | ⟨g, cap, cur, hv, hb, hgg, hnc, hcm, hcs, htake⟩
  · have : l = [] := List.eq_nil_of_length_eq_zero h0
    subst this
    exact Rd.nil w'
  · subst hv
    obtain ⟨ao, c, rfl, h3, h4, h5, h6⟩ := hs
    cases ao with
    | none =>
      have hc := h5 rfl
      subst hc
      have hm : m = [] := List.eq_nil_of_length_eq_zero (by omega)
      subst hm
      have hrun := run_append_owned_none (P := P) (w := w) base t ty 5 i 1 ht hi _ l.length (BV l) hown
      rw [show (Value.slice none ([] : List UInt8).length 0) = .slice none 0 0 from rfl, hrun] at hr
      cases hr
      exact hown.rd
    | some a =>
      have hnews : ∀ j u, (BV m)[j]? = some u → w.cell? (a.add j) = some u := fun j u hj => by
        obtain ⟨hj', rfl⟩ := BV_get hj
        exact h6 a rfl j hj'
      by_cases hroom : l.length + m.length ≤ cap
      · have hrun := run_append_room (P := P) w t ty 5 i ht hi g l.length cap cur hgg a m.length c (BV m) (by simp [BV_length, h1]) hnews (BV_one m) hroom
          (by rw [h1, BV_length, hcs]; omega)
        rw [hrun] at hr
        cases hr
        exact ho.rd.front
      · have hrun := run_append_grow (P := P) w t ty 5 i (.int .u8 0) ht hi hz ⟨g, 0, none⟩ l.length cap (BV l) (by simp [BV_length, h1]) (fun j u hj => hown.cells (g := g) rfl j u hj) a m.length c (BV m) (by simp [BV_length, h1]) hnews (by omega) (by omega) (growslice_fits (by omega) (by rw [h2]; omega))
        rw [hrun] at hr
        cases hr
        exact hown.rd.drew.alloc _

theorem wpList_append_keeps {P : Program} (w : World) {ops : Array Oper} {rest : List Oper} {o : Oper} {a : Act} {Q : Exit → Act → World → Prop} (hgd : o.guard = none) (s x : Operand) (t : TypeId)
    (ho : o.op = .call { callee := .builtin .append, args := #[s, x], argTypes := #[t, t] })
    (i : TypeInfo) (ht : P.underlying t = some (.slice 5)) (hi : P.info? 5 = some i) (hz : i.zero = some (.int .u8 0)) (h1 : i.size = 1) (h2 : i.bytes = 1)
    (base : Nat) (v sv : Value) (hs : a.eval s = v) (hx : a.eval x = sv) (l m : List UInt8) (hown : Own w base v l) (hrd : Rd w sv m) (hlen : l.length + m.length ≤ 140737488355328) (hbase : base ≤ w.heap.size)
    (h : ∀ v' w', Own w' base v' (l ++ m) → w.grownBy w' v.ownBlock → Rd w' v l → wpList P ops Q rest (a.put o.dst v') w') : wpList P ops Q (o :: rest) a w := by
  obtain ⟨v', w', hr, h3, h4, h5⟩ := run_append_keeps (P := P) w t o.type i ht hi hz h1 h2 base v sv l m hown hrd hlen hbase
  exact Lib.wpList_append_run w hgd s x t t ho v sv hs hx v' w' hr (h v' w' h3 h4 h5)

/-- bytes of one's own, while another row is written that lies ahead of them -/
theorem Own.apart {w w' : World} {base g : Nat} {v : Value} {l : List UInt8} (h : Own w base v l) (hg : w.grownBy w' (some g)) (hgb : g < base) : Own w' base v l := by
  refine World.ownsRow.kept h hg ?_
  cases hv : v.ownBlock with
  | none => exact .inl rfl
  | some k =>
    right
    intro e
    have := (World.ownsRow.lt h k hv).1
    cases e
    omega

/-- one byte of one's own is written -/
theorem Own.store {w : World} {base g cap : Nat} {l : List UInt8} (h : Own w base (.slice (some ⟨g, 0, none⟩) l.length cap) l) (j : Nat) (y : UInt8) (n : Int) (hn : n = y.toNat) :
    Own (w.setCell ⟨g, j, none⟩ (.int .u8 n)) base (.slice (some ⟨g, 0, none⟩) l.length cap) (l.set j y) := by
  subst hn
  have hst := World.ownsRow.stored h j (.int .u8 (y.toNat : Int))
  unfold Own
  rw [List.length_set]
  have e : BV (l.set j y) = (BV l).set j (.int .u8 (y.toNat : Int)) := by simp [BV, List.map_set]
  rw [e]
  exact hst.1
theorem Own.storeBelow {w : World} {base g cap : Nat} {l : List UInt8} (h : Own w base (.slice (some ⟨g, 0, none⟩) l.length cap) l) (j : Nat) (u : Value) : Below base w (w.setCell ⟨g, j, none⟩ u) := by
  have hb := (World.ownsRow.lt h g rfl).1
  exact (Below.refl _ _).setCell (by exact hb) u
theorem Own.frozen {w : World} {base g cap : Nat} {l : List UInt8} (h : Own w base (.slice (some ⟨g, 0, none⟩) l.length cap) l) (j : Nat) : w.frozen? ⟨g, j, none⟩ = false := World.ownsRow.frozenAt h j
theorem Own.cell {w : World} {base g cap : Nat} {l : List UInt8} (h : Own w base (.slice (some ⟨g, 0, none⟩) l.length cap) l) (j : Nat) (hj : j < l.length) : w.cell? ⟨g, j, none⟩ = some (.int .u8 (l[j].toNat : Int)) := by
  rw [World.ownsRow.cellAt h j (by omega)]
  simp [BV, hj]
end Go.Proofs.YtpiiehenmkinaaaDoor

/-
  Lists of lists of bytes in memory. Own work.
-/
namespace Go.Proofs.YtpiiehenmkinaaaDoor
open Go.RowKit

theorem addr_add (b off j : Nat) : (⟨b, off, none⟩ : Addr).add j = ⟨b, off + j, none⟩ := by
  unfold Addr.add
  split <;> simp_all
theorem Tryd.info25 : (Tryd.prog.info? 25).map (fun i => (i.zero, i.size, i.bytes)) = some (some (.slice none 0 0), 1, 24) := by kernel_rfl
theorem Tryd.info3 : (Tryd.prog.info? 3).map (fun i => (i.zero, i.size, i.bytes)) = some (some (.int .i64 0), 1, 8) := by kernel_rfl

/-- a slice whose cells are these values -/
def RdV (w : World) (v : Value) (vs : List Value) : Prop :=
  ∃ ao cap, v = .slice ao vs.length cap ∧ vs.length ≤ cap ∧ cap ≤ maxLen ∧ (ao = none → cap = 0) ∧ ∀ a, ao = some a → ∀ i (h : i < vs.length), w.cell? (a.add i) = some vs[i]
/-- a slice of slices that read as these bytes -/
def RdL (w : World) (v : Value) (ps : List (Value × List UInt8)) : Prop := RdV w v (ps.map Prod.fst) ∧ ∀ i (h : i < ps.length), Rd w ps[i].1 ps[i].2
/-- a slice of slices, or of numbers, that the call itself has made -/
def OwnV (w : World) (base : Nat) (e : TypeId) (v : Value) (vs : List Value) : Prop := w.ownsRow base e 1 v vs.length vs

theorem RdV.below {w w' : World} {v : Value} {vs : List Value} (h : RdV w v vs) (hb : Below w.heap.size w w') : RdV w' v vs := by
  obtain ⟨ao, cap, hv, h1, h2, h3, h4⟩ := h
  refine ⟨ao, cap, hv, h1, h2, h3, fun a ha i hi => ?_⟩
  have hc := h4 a ha i hi
  rw [hb.cell (World.block_lt_of_cell? w _ hc)]
  exact hc
theorem RdL.below {w w' : World} {v : Value} {ps : List (Value × List UInt8)} (h : RdL w v ps) (hb : Below w.heap.size w w') : RdL w' v ps := ⟨h.1.below hb, fun i hi => (h.2 i hi).below hb⟩
theorem RdL.nil (w : World) : RdL w (.slice none 0 0) [] := ⟨⟨none, 0, rfl, Nat.le_refl _, by simp [maxLen], fun _ => rfl, fun a h => by cases h⟩, fun i h => by simp at h⟩
theorem OwnV.nil (w : World) (base : Nat) (e : TypeId) : OwnV w base e (.slice none 0 0) [] := World.ownsRow_nil _ _ _ _
theorem OwnV.below {w w' : World} {base : Nat} {e : TypeId} {v : Value} {vs : List Value} (h : OwnV w base e v vs) (hb : Below w.heap.size w w') : OwnV w' base e v vs := by
  refine ⟨h.1, ?_⟩
  rcases h.2 with h2 | ⟨g, cap, cur, hv, hb2, hg, r⟩
  · exact .inl h2
  · exact .inr ⟨g, cap, cur, hv, hb2, by rw [hb.block g (Array.getElem?_eq_some_iff.1 hg).1]; exact hg, r⟩
theorem OwnV.alloc {w : World} {base : Nat} {e : TypeId} {v : Value} {vs : List Value} (h : OwnV w base e v vs) (o : Obj) : OwnV (w.alloc o) base e v vs := World.ownsRow.alloc h o
theorem OwnV.drew {w : World} {base : Nat} {e : TypeId} {v : Value} {vs : List Value} (h : OwnV w base e v vs) : OwnV w.drew base e v vs := h
theorem OwnV.rd {w : World} {base : Nat} {e : TypeId} {v : Value} {vs : List Value} (h : OwnV w base e v vs) : RdV w v vs := by
  rcases h.2 with ⟨rfl, h0⟩ | ⟨g, cap, cur, hv, hb, hg, hn, hm, hs, ht⟩
  · have : vs = [] := List.eq_nil_of_length_eq_zero h0
    subst this
    exact ⟨none, 0, rfl, Nat.le_refl _, by simp [maxLen], fun _ => rfl, fun a h => by cases h⟩
  · refine ⟨some ⟨g, 0, none⟩, cap, hv, hn, hm, by simp, fun a ha i hi => ?_⟩
    obtain rfl := Option.some.inj ha
    exact h.cells (g := g) (by rw [hv]; rfl) i _ (by simp [hi])
theorem RdV.cells {w : World} {v : Value} {vs : List Value} (h : RdV w v vs) (hp : 0 < vs.length) : ∃ b off cap, v = .slice (some ⟨b, off, none⟩) vs.length cap ∧ vs.length ≤ cap ∧ cap ≤ maxLen ∧ b < w.heap.size ∧ ∀ i (h : i < vs.length), w.cell? ⟨b, off + i, none⟩ = some vs[i] := by
  obtain ⟨ao, cap, hv, h1, h2, h3, h4⟩ := h
  cases ao with
  | none => have := h3 rfl; omega
  | some a =>
    obtain ⟨b, off, sp⟩ := a
    have h0 := h4 _ rfl 0 hp
    have hsp : sp = none := by
      cases sp with
      | none => rfl
      | some x =>
        simp [Addr.add, World.cell?] at h0
        split at h0 <;> simp at h0
    subst hsp
    refine ⟨b, off, cap, hv, h1, h2, World.block_lt_of_cell? w _ h0, fun i hi => ?_⟩
    have := h4 _ rfl i hi
    rw [addr_add] at this
    exact this
/-- append of one value onto a list of one's own -/
theorem run_append_v {P : Program} (w : World) (t ty e : TypeId) (i : TypeInfo) (z : Value) (bytes : Nat) (ht : P.underlying t = some (.slice e)) (hi : P.info? e = some i) (hz : i.zero = some z) (h1 : i.size = 1) (h2 : i.bytes = bytes) (hz1 : z.cells.size = 1) (hb24 : bytes ≤ 24)
    (base : Nat) (v x : Value) (a : Addr) (cap : Nat) (vs : List Value) (hx : x.oneCell' = true) (hc : w.cell? a = some x) (hown : OwnV w base e v vs) (hlen : vs.length ≤ 1000000) (hbase : base ≤ w.heap.size) :
    ∃ v' w', (Builtin.append_ #[t, t] ty #[v, .slice (some a) 1 cap]).run P w = .ok v' w' ∧ OwnV w' base e v' (vs ++ [x]) ∧ w.grownBy w' v.ownBlock := by
  obtain ⟨v', w', hr, ho, hg, _⟩ := run_append_own (P := P) w base t ty e i z 1 bytes ht hi hz h1 h2 hz1 (by omega) v vs.length vs hown a 1 cap [x] (by simp)
    (fun j u hj => by
      cases j with
      | zero =>
        simp at hj
        subst hj
        have : a.add 0 = a := by unfold Addr.add; split <;> simp_all
        rw [this]
        exact hc
      | succ j => simp at hj) (fun u hu => by simp at hu; subst hu; exact hx) (by unfold maxLen; omega) (by have := Nat.mul_le_mul (show vs.length + 1 ≤ 1000001 by omega) hb24; omega) hbase
  refine ⟨v', w', hr, ?_, hg⟩
  unfold OwnV
  rw [List.length_append]
  exact ho
end Go.Proofs.YtpiiehenmkinaaaDoor

/-
  What the program lays; the contracts of Word and Show. Own work.
-/
namespace Go.Proofs.YtpiiehenmkinaaaDoor
open Go.RowKit Go.Sort

/-- what the program lays ahead of all calls stands in this world -/
structure Laid (w : World) : Prop where
  tab : Lib.TabIs Tryd.prog w "internal/strconv.uint64pow10" .u64 Lib.pow10Tab
  kinds : Kinds w
theorem gtab : ∃ g, Tryd.prog.globalNamed "internal/strconv.uint64pow10" = some g := ⟨1, by kernel_rfl⟩
theorem Laid.below {w w' : World} (h : Laid w) (hb : Below w.heap.size w w') : Laid w' := by
  obtain ⟨g1, e1⟩ := gtab
  exact ⟨Go.Joins.tab_stays e1 h.tab hb (Nat.le_refl _), h.kinds.below hb⟩
theorem Laid.drew {w : World} (h : Laid w) : Laid w.drew := h.below (Below.refl _ _).drew
theorem Laid.alloc {w : World} (h : Laid w) (o : Obj) : Laid (w.alloc o) := h.below ((Below.refl _ _).alloc (Nat.le_refl _) _)
theorem below_grown {w w' : World} (h : ∃ k os, w' = grow (w.drewN k) os) : Below w.heap.size w w' := by
  obtain ⟨k, os, rfl⟩ := h
  exact Lib.below_grow _ _ (Nat.le_refl _) k os
theorem SH_keep {w w' : World} {B0 : Nat} {a b c n : Int} {s : ByteArray} (h : Laid w ∧ B0 < w.heap.size ∧ w.cell? ⟨B0, 1, none⟩ = some (.int .i64 a) ∧ w.cell? ⟨B0, 2, none⟩ = some (.int .i64 b) ∧ w.cell? ⟨B0, 3, none⟩ = some (.int .i64 c) ∧ w.cell? ⟨B0, 4, none⟩ = some (.int .i64 n) ∧ w.cell? ⟨B0, 5, none⟩ = some (.string s)) (hb : Below w.heap.size w w') :
    Laid w' ∧ B0 < w'.heap.size ∧ w'.cell? ⟨B0, 1, none⟩ = some (.int .i64 a) ∧ w'.cell? ⟨B0, 2, none⟩ = some (.int .i64 b) ∧ w'.cell? ⟨B0, 3, none⟩ = some (.int .i64 c) ∧ w'.cell? ⟨B0, 4, none⟩ = some (.int .i64 n) ∧ w'.cell? ⟨B0, 5, none⟩ = some (.string s) := by
  obtain ⟨h0, h1, h2, h3, h4, h5, h6⟩ := h
  exact ⟨h0.below hb, Nat.lt_of_lt_of_le h1 hb.size, (hb.cell (p := ⟨B0, 1, none⟩) h1).trans h2, (hb.cell (p := ⟨B0, 2, none⟩) h1).trans h3, (hb.cell (p := ⟨B0, 3, none⟩) h1).trans h4, (hb.cell (p := ⟨B0, 4, none⟩) h1).trans h5, (hb.cell (p := ⟨B0, 5, none⟩) h1).trans h6⟩

set_option maxRecDepth 100000 in
theorem word_any (o : Nat) (ho : o < 256) (w : World) (hk : Kinds w) : Calls Tryd.prog 20 #[.int .u8 o] w fun e w' => e = .returned (.string (wordS o)) ∧ Below w.heap.size w w' := by
  have hrf := run_word
  go_enter Tryd.func20, Tryd.ntmps20
  go_wp2_with fail
  refine (kindOf_any o ho w hk).mono ?_
  rintro e w1 ⟨rfl, hb1⟩
  go_wp2
  go_ret
  exact ⟨rfl, hb1⟩

theorem wordS_emp (o : Nat) : (wordS o).toList.isEmpty = (wordL o).isEmpty := by
  rw [ByteArray.toList_eq]
  show ((wordL o).map UInt8.ofNat).toArray.toList.isEmpty = _
  cases wordL o <;> rfl
theorem cat_op (l : List UInt8) : (⟨#[111, 112]⟩ : ByteArray) ++ ⟨l.toArray⟩ = ⟨(111 :: 112 :: l).toArray⟩ := by
  apply ByteArray.ext
  simp [ByteArray.data_append]
/-- an Op's word as Show tells it -/
def wordT (o : Nat) : ByteArray := if wordL o = [] then ⟨(111 :: 112 :: Lib.itoa (o : Int)).toArray⟩ else wordS o
def txts (i : Ins) : List ByteArray := [wordT i.op, ⟨(Lib.itoa i.a).toArray⟩, ⟨(Lib.itoa i.b).toArray⟩, ⟨(Lib.itoa i.c).toArray⟩, ⟨(Lib.itoa i.n).toArray⟩] ++ (if i.s = ⟨#[]⟩ then [] else [i.s])
def showB (i : Ins) : ByteArray := ⟨(Lib.join ((txts i).map (·.data.toList)) [32]).toArray⟩

theorem own_new {w : World} (e : TypeId) (vs : List Value) (n : Nat) (hn : n = vs.length) (hm : n ≤ maxLen) : OwnV (w.alloc (.cells vs.toArray e)) w.heap.size e (.slice (some ⟨w.heap.size, 0, none⟩) n n) vs := by
  subst hn
  exact ⟨by simp, .inr ⟨w.heap.size, vs.length, vs.toArray, rfl, Nat.le_refl _, heap_alloc_new w _, Nat.le_refl _, hm, by simp, by simp⟩⟩
theorem lens_le (xs : List (List UInt8)) (m : Nat) (h : ∀ x ∈ xs, x.length ≤ m) : Lib.lens xs ≤ xs.length * m := by
  induction xs with
  | nil => simp [Lib.lens]
  | cons x xs ih =>
    have h1 := h x (by simp)
    have h2 := ih (fun y hy => h y (by simp [hy]))
    have e : Lib.lens (x :: xs) = x.length + Lib.lens xs := by simp [Lib.lens]
    rw [e, List.length_cons, Nat.add_mul]
    omega
theorem join_le (xs : List (List UInt8)) (h : ∀ x ∈ xs, x.length ≤ 3000) (hl : xs.length ≤ 6) : (Lib.join xs [32]).length ≤ 140737488355328 := by
  cases xs with
  | nil => simp [Lib.join_nil]
  | cons x r =>
    rw [Lib.join_length]
    have h1 := lens_le (x :: r) 3000 h
    have h2 := Nat.mul_le_mul_right 3000 hl
    simp only [List.length_cons, List.length_nil] at h1 h2 hl ⊢
    omega
theorem itoa_len (n : Int) (h : -9223372036854775808 ≤ n ∧ n ≤ 9223372036854775807) : (Lib.itoa n).length ≤ 3000 := by
  have := Lib.itoa_length_le n h.1 h.2
  omega
theorem wordT_len (o : Nat) (ho : o < 256) : (wordT o).data.toList.length ≤ 3000 := by
  unfold wordT
  split
  · have := Lib.itoa_length_le (o : Int) (by omega) (by omega)
    show (111 :: 112 :: Lib.itoa (o : Int)).toArray.toList.length ≤ 3000
    simp
    omega
  · show ((wordL o).map UInt8.ofNat).toArray.toList.length ≤ 3000
    simp
    unfold wordL
    split <;> decide
theorem txts_le (i : Ins) (hw : i.wf) (hs : i.s.size ≤ 3000) : ∀ x ∈ (txts i).map (·.data.toList), x.length ≤ 3000 := by
  intro x hx
  obtain ⟨t, ht, rfl⟩ := List.mem_map.1 hx
  have k4 : i.s.data.toList.length ≤ 3000 := by
    have : i.s.data.toList.length = i.s.size := by rw [Array.length_toList]; rfl
    omega
  unfold txts at ht
  rcases List.mem_append.1 ht with ht | ht
  · simp only [List.mem_cons, List.not_mem_nil, or_false] at ht
    rcases ht with rfl | rfl | rfl | rfl | rfl
    · exact wordT_len _ hw.op
    · exact itoa_len _ hw.a
    · exact itoa_len _ hw.b
    · exact itoa_len _ hw.c
    · exact itoa_len _ hw.n
  · split at ht
    · cases ht
    · simp at ht
      subst ht
      exact k4
theorem txts_count (i : Ins) : (txts i).length ≤ 6 := by
  unfold txts
  split <;> simp
theorem Tryd.info9 : (Tryd.prog.info? 9).map (fun i => (i.zero, i.size, i.bytes)) = some (some (.string ⟨#[]⟩), 1, 16) := by kernel_rfl

set_option maxRecDepth 100000 in
set_option maxHeartbeats 3200000 in
theorem show_any (i : Ins) (hw : i.wf) (w : World) (hl : Laid w) (hs : i.s.size ≤ 3000) : Calls Tryd.prog 18 #[insV i] w fun e w' => e = .returned (.string (showB i)) ∧ Below w.heap.size w w' := by
  obtain ⟨op, a, b, c, n, s⟩ := i
  have HRa := hide (show -9223372036854775808 ≤ a ∧ a ≤ 9223372036854775807 from hw.a)
  have HRb := hide (show -9223372036854775808 ≤ b ∧ b ≤ 9223372036854775807 from hw.b)
  have HRc := hide (show -9223372036854775808 ≤ c ∧ c ≤ 9223372036854775807 from hw.c)
  have HRn := hide (show -9223372036854775808 ≤ n ∧ n ≤ 9223372036854775807 from hw.n)
  have HO := hide hw.op
  have HTL := hide (txts_le _ hw hs)
  have HTC := hide (txts_count ⟨op, a, b, c, n, s⟩)
  simp only at HRa HRb HRc HRn HO hs
  show Calls Tryd.prog 18 #[.agg #[.int .u8 (op : Int), .int .i64 a, .int .i64 b, .int .i64 c, .int .i64 n, .string s]] w _
  obtain ⟨i9, hi9, hz9, hs9', hb9⟩ := info_parts Tryd.info9
  obtain ⟨W, HW⟩ := named (w.alloc (.cells #[.int .u8 (op : Int), .int .i64 a, .int .i64 b, .int .i64 c, .int .i64 n, .string s] 28))
  have hbW : Below w.heap.size w W := by rw [HW.out]; exact (Below.refl _ _).alloc (Nat.le_refl _) _
  have hsW : W.heap.size = w.heap.size + 1 := by rw [HW.out]; simp
  have hcW : W.heap[w.heap.size]? = some (.cells #[.int .u8 (op : Int), .int .i64 a, .int .i64 b, .int .i64 c, .int .i64 n, .string s] 28 (0, 0)) := by rw [HW.out]; exact heap_alloc_new w _
  have hcc := fun o => cell_of_row W w.heap.size o _ 28 (0, 0) hcW
  obtain ⟨B0, HB0⟩ := named w.heap.size
  have hS : Laid W ∧ B0 < W.heap.size ∧ W.cell? ⟨B0, 1, none⟩ = some (.int .i64 a) ∧ W.cell? ⟨B0, 2, none⟩ = some (.int .i64 b) ∧ W.cell? ⟨B0, 3, none⟩ = some (.int .i64 c) ∧ W.cell? ⟨B0, 4, none⟩ = some (.int .i64 n) ∧ W.cell? ⟨B0, 5, none⟩ = some (.string s) := by
    rw [HB0.out]
    exact ⟨hl.below hbW, by omega, hcc 1, hcc 2, hcc 3, hcc 4, hcc 5⟩
  have HSW := hide hS
  have HBW := hide hbW
  have kk := word_any op HO.out W hS.1.kinds
  have C0 := hide (show W.cell? ⟨w.heap.size, 0, none⟩ = some (.int .u8 (op : Int)) from hcc 0)
  clear hsW hcW hcc hS hbW
  go_enter Tryd.func18, Tryd.ntmps18
  go_wp2_with fail
  rw [← HW.out]
  refine kk.mono ?_
  rintro e w1 ⟨rfl, hb1⟩
  rw [← HB0.out]
  have hs1 := SH_keep HSW.out hb1
  have HB1 := hide (below_call HBW.out hb1)
  have hwl : wordL op = [] ∨ wordL op ≠ [] := Decidable.em _
  have hwe := wordS_emp op
  have c0 : w1.cell? ⟨B0, 0, none⟩ = some (.int .u8 (op : Int)) := by
    have := hb1.cell (p := ⟨B0, 0, none⟩) HSW.out.2.1
    rw [this, HB0.out]
    exact C0.out
  clear kk hb1
  rcases hwl with h0 | h0
  · have hT : wordT op = (⟨#[111, 112]⟩ : ByteArray) ++ ⟨(Lib.itoa (op : Int)).toArray⟩ := by rw [cat_op]; unfold wordT; rw [if_pos h0]
    rw [h0] at hwe
    have hwe2 : (wordS op).toList.isEmpty = true := hwe
    have HT := hide hT
    clear hT hwe
    go_wp2_with fail
    rw [show wrap64 (op : Int) = (op : Int) by unfold wrap64; have := HO.out; omega]
    refine (Tryd.strconv_Itoa (op : Int) (by omega) (by have := HO.out; omega) _ hs1.1.tab).mono ?_
    rintro e w2 ⟨rfl, hx⟩
    have hb2 := below_grown hx
    have hs0 := SH_keep (SH_keep hs1 hb2) (Below.refl _ _).drew
    have HB2 := hide (below_call HB1.out hb2)
    have hcat : ¬ (9223372036854775807 < 2 + (Lib.itoa (op : Int)).length) := by
      have := Lib.itoa_length_le (op : Int) (by omega) (by have := HO.out; omega)
      omega
    clear hx hb2
    go_wp2_with fail
    refine wp_region_held_drew (S := (fun u => Laid u ∧ B0 < u.heap.size ∧ u.cell? ⟨B0, 1, none⟩ = some (.int .i64 a) ∧ u.cell? ⟨B0, 2, none⟩ = some (.int .i64 b) ∧ u.cell? ⟨B0, 3, none⟩ = some (.int .i64 c) ∧ u.cell? ⟨B0, 4, none⟩ = some (.int .i64 n) ∧ u.cell? ⟨B0, 5, none⟩ = some (.string s))) (by kernel_rfl) hs0 (fun _ => ?_)
    refine wpAnyH_take (i := 0) (oi := { dst := some 15, op := Go.Op.move (Go.Operand.tmp 3), type := 9, pos := "program.go:69", after := #[], guard := none }) (v := ?_) rfl (by kernel_rfl) (by kernel_rfl) (by kernel_rfl) (fun _ _ _ h => h) (Or.inl ⟨by rfl, ?hy1⟩) hs0 ?_
    case hy1 =>
      intro u hu
      obtain ⟨u0, u1, u2, u3, u4, u5, u6⟩ := hu
      go_simp
      try with_reducible rfl
    simp only [Act.put, List.setIfInBounds_toArray, List.set_cons_zero, List.set_cons_succ]
    refine wpAnyH_take (i := 1) (oi := { dst := some 16, op := Go.Op.fieldAddr 28 (Go.Operand.tmp 1) 1, type := 0, pos := "program.go:69", after := #[], guard := none }) (v := ?_) rfl (by kernel_rfl) (by kernel_rfl) (by kernel_rfl) (fun _ _ _ h => h) (Or.inl ⟨by rfl, ?hy2⟩) hs0 ?_
    case hy2 =>
      intro u hu
      obtain ⟨u0, u1, u2, u3, u4, u5, u6⟩ := hu
      go_simp
      try with_reducible rfl
    simp only [Act.put, List.setIfInBounds_toArray, List.set_cons_zero, List.set_cons_succ]
    refine wpAnyH_take (i := 2) (oi := { dst := some 17, op := Go.Op.load 3 (Go.Operand.tmp 16), type := 3, pos := "program.go:69", after := #[{ on := 1, ground := Go.Ground.data }], guard := none }) (v := ?_) rfl (by kernel_rfl) (by kernel_rfl) (by kernel_rfl) (fun _ _ _ h => h) (Or.inl ⟨by rfl, ?hy3⟩) hs0 ?_
    case hy3 =>
      intro u hu
      obtain ⟨u0, u1, u2, u3, u4, u5, u6⟩ := hu
      go_simp
      try with_reducible rfl
    simp only [Act.put, List.setIfInBounds_toArray, List.set_cons_zero, List.set_cons_succ]
    refine wpAnyH_take (i := 4) (oi := { dst := some 19, op := Go.Op.fieldAddr 28 (Go.Operand.tmp 1) 2, type := 0, pos := "program.go:69", after := #[], guard := none }) (v := ?_) rfl (by kernel_rfl) (by kernel_rfl) (by kernel_rfl) (fun _ _ _ h => h) (Or.inl ⟨by rfl, ?hy4⟩) hs0 ?_
    case hy4 =>
      intro u hu
      obtain ⟨u0, u1, u2, u3, u4, u5, u6⟩ := hu
      go_simp
      try with_reducible rfl
    simp only [Act.put, List.setIfInBounds_toArray, List.set_cons_zero, List.set_cons_succ]
    refine wpAnyH_take (i := 5) (oi := { dst := some 20, op := Go.Op.load 3 (Go.Operand.tmp 19), type := 3, pos := "program.go:69", after := #[{ on := 4, ground := Go.Ground.data }], guard := none }) (v := ?_) rfl (by kernel_rfl) (by kernel_rfl) (by kernel_rfl) (fun _ _ _ h => h) (Or.inl ⟨by rfl, ?hy5⟩) hs0 ?_
    case hy5 =>
      intro u hu
      obtain ⟨u0, u1, u2, u3, u4, u5, u6⟩ := hu
      go_simp
      try with_reducible rfl
    simp only [Act.put, List.setIfInBounds_toArray, List.set_cons_zero, List.set_cons_succ]
    refine wpAnyH_take (i := 7) (oi := { dst := some 22, op := Go.Op.fieldAddr 28 (Go.Operand.tmp 1) 3, type := 0, pos := "program.go:69", after := #[], guard := none }) (v := ?_) rfl (by kernel_rfl) (by kernel_rfl) (by kernel_rfl) (fun _ _ _ h => h) (Or.inl ⟨by rfl, ?hy6⟩) hs0 ?_
    case hy6 =>
      intro u hu
      obtain ⟨u0, u1, u2, u3, u4, u5, u6⟩ := hu
      go_simp
      try with_reducible rfl
    simp only [Act.put, List.setIfInBounds_toArray, List.set_cons_zero, List.set_cons_succ]
    refine wpAnyH_take (i := 8) (oi := { dst := some 23, op := Go.Op.load 3 (Go.Operand.tmp 22), type := 3, pos := "program.go:69", after := #[{ on := 7, ground := Go.Ground.data }], guard := none }) (v := ?_) rfl (by kernel_rfl) (by kernel_rfl) (by kernel_rfl) (fun _ _ _ h => h) (Or.inl ⟨by rfl, ?hy7⟩) hs0 ?_
    case hy7 =>
      intro u hu
      obtain ⟨u0, u1, u2, u3, u4, u5, u6⟩ := hu
      go_simp
      try with_reducible rfl
    simp only [Act.put, List.setIfInBounds_toArray, List.set_cons_zero, List.set_cons_succ]
    refine wpAnyH_take (i := 10) (oi := { dst := some 25, op := Go.Op.fieldAddr 28 (Go.Operand.tmp 1) 4, type := 0, pos := "program.go:69", after := #[], guard := none }) (v := ?_) rfl (by kernel_rfl) (by kernel_rfl) (by kernel_rfl) (fun _ _ _ h => h) (Or.inl ⟨by rfl, ?hy8⟩) hs0 ?_
    case hy8 =>
      intro u hu
      obtain ⟨u0, u1, u2, u3, u4, u5, u6⟩ := hu
      go_simp
      try with_reducible rfl
    simp only [Act.put, List.setIfInBounds_toArray, List.set_cons_zero, List.set_cons_succ]
    refine wpAnyH_take (i := 11) (oi := { dst := some 26, op := Go.Op.load 2 (Go.Operand.tmp 25), type := 2, pos := "program.go:69", after := #[{ on := 10, ground := Go.Ground.data }], guard := none }) (v := ?_) rfl (by kernel_rfl) (by kernel_rfl) (by kernel_rfl) (fun _ _ _ h => h) (Or.inl ⟨by rfl, ?hy9⟩) hs0 ?_
    case hy9 =>
      intro u hu
      obtain ⟨u0, u1, u2, u3, u4, u5, u6⟩ := hu
      go_simp
      try with_reducible rfl
    simp only [Act.put, List.setIfInBounds_toArray, List.set_cons_zero, List.set_cons_succ]
    refine wpAnyH_ready (rs := [3]) (by kernel_rfl) (by simp) ?_
    refine AllReadyH.cons (o := { dst := some 18, op := Go.Op.call { callee := Go.Callee.value (Go.Operand.func 42), args := #[Go.Operand.tmp 17], argTypes := #[3] }, type := 9, pos := "program.go:69", after := #[{ on := 2, ground := Go.Ground.data }], guard := none }) rfl (fun K hK => ?_) AllReadyH.nil
    go_simp
    obtain ⟨q0, q1, q2, q3, q4, q5, q6⟩ := hs0
    (with_reducible refine Calls.mono (Tryd.strconv_Itoa a HRa.out.1 HRa.out.2 _ ?_) ?_)
    · exact (show Laid _ from q0).tab
    rintro e v3 ⟨rfl, x3⟩
    have y3 := below_grown x3
    have hs3 := SH_keep (show _ ∧ _ ∧ _ ∧ _ ∧ _ ∧ _ ∧ _ from ⟨q0, q1, q2, q3, q4, q5, q6⟩) y3
    clear q0 q1 q2 q3 q4 q5 q6 x3
    refine hK.out _ _ hs3 (fun _ => ?_)
    clear hK K
    try simp only [Act.put, List.setIfInBounds_toArray, List.set_cons_zero, List.set_cons_succ]
    refine wpAnyH_ready (rs := [6]) (by kernel_rfl) (by simp) ?_
    refine AllReadyH.cons (o := { dst := some 21, op := Go.Op.call { callee := Go.Callee.value (Go.Operand.func 42), args := #[Go.Operand.tmp 20], argTypes := #[3] }, type := 9, pos := "program.go:69", after := #[{ on := 5, ground := Go.Ground.data }, { on := 3, ground := Go.Ground.chain }], guard := none }) rfl (fun K hK => ?_) AllReadyH.nil
    go_simp
    obtain ⟨q0, q1, q2, q3, q4, q5, q6⟩ := hs3
    (with_reducible refine Calls.mono (Tryd.strconv_Itoa b HRb.out.1 HRb.out.2 _ ?_) ?_)
    · exact (show Laid _ from q0).tab
    rintro e v6 ⟨rfl, x6⟩
    have y6 := below_grown x6
    have hs6 := SH_keep (show _ ∧ _ ∧ _ ∧ _ ∧ _ ∧ _ ∧ _ from ⟨q0, q1, q2, q3, q4, q5, q6⟩) y6
    clear q0 q1 q2 q3 q4 q5 q6 x6
    refine hK.out _ _ hs6 (fun _ => ?_)
    clear hK K
    try simp only [Act.put, List.setIfInBounds_toArray, List.set_cons_zero, List.set_cons_succ]
    refine wpAnyH_ready (rs := [9]) (by kernel_rfl) (by simp) ?_
    refine AllReadyH.cons (o := { dst := some 24, op := Go.Op.call { callee := Go.Callee.value (Go.Operand.func 42), args := #[Go.Operand.tmp 23], argTypes := #[3] }, type := 9, pos := "program.go:69", after := #[{ on := 8, ground := Go.Ground.data }, { on := 6, ground := Go.Ground.chain }], guard := none }) rfl (fun K hK => ?_) AllReadyH.nil
    go_simp
    obtain ⟨q0, q1, q2, q3, q4, q5, q6⟩ := hs6
    (with_reducible refine Calls.mono (Tryd.strconv_Itoa c HRc.out.1 HRc.out.2 _ ?_) ?_)
    · exact (show Laid _ from q0).tab
    rintro e v9 ⟨rfl, x9⟩
    have y9 := below_grown x9
    have hs9 := SH_keep (show _ ∧ _ ∧ _ ∧ _ ∧ _ ∧ _ ∧ _ from ⟨q0, q1, q2, q3, q4, q5, q6⟩) y9
    clear q0 q1 q2 q3 q4 q5 q6 x9
    refine hK.out _ _ hs9 (fun _ => ?_)
    clear hK K
    try simp only [Act.put, List.setIfInBounds_toArray, List.set_cons_zero, List.set_cons_succ]
    refine wpAnyH_ready (rs := [12]) (by kernel_rfl) (by simp) ?_
    refine AllReadyH.cons (o := { dst := some 27, op := Go.Op.call { callee := Go.Callee.value (Go.Operand.func 43), args := #[Go.Operand.tmp 26, Go.Operand.const (Go.Value.int Go.IntKind.i64 10)], argTypes := #[2, 3] }, type := 9, pos := "program.go:69", after := #[{ on := 11, ground := Go.Ground.data }, { on := 9, ground := Go.Ground.chain }], guard := none }) rfl (fun K hK => ?_) AllReadyH.nil
    go_simp
    obtain ⟨q0, q1, q2, q3, q4, q5, q6⟩ := hs9
    (with_reducible refine Calls.mono (Tryd.strconv_FormatInt_10 n HRn.out.1 HRn.out.2 _ ?_) ?_)
    · exact (show Laid _ from q0).tab
    rintro e v12 ⟨rfl, x12⟩
    have y12 := below_grown x12
    have hs12 := SH_keep (show _ ∧ _ ∧ _ ∧ _ ∧ _ ∧ _ ∧ _ from ⟨q0, q1, q2, q3, q4, q5, q6⟩) y12
    clear q0 q1 q2 q3 q4 q5 q6 x12
    refine hK.out _ _ hs12 (fun _ => ?_)
    clear hK K
    try simp only [Act.put, List.setIfInBounds_toArray, List.set_cons_zero, List.set_cons_succ]
    refine wpAnyH_ready (rs := [13]) (by kernel_rfl) (by simp) ?_
    refine AllReadyH.cons (o := { dst := some 28, op := Go.Op.buildSlice 81 5 #[(0, Go.Operand.tmp 15), (1, Go.Operand.tmp 18), (2, Go.Operand.tmp 21), (3, Go.Operand.tmp 24), (4, Go.Operand.tmp 27)], type := 81, pos := "program.go:69", after := #[{ on := 0, ground := Go.Ground.data }, { on := 3, ground := Go.Ground.data }, { on := 6, ground := Go.Ground.data }, { on := 9, ground := Go.Ground.data }, { on := 12, ground := Go.Ground.data }], guard := none }) rfl (fun K hK => ?_) AllReadyH.nil
    go_simp
    have hs13 := SH_keep hs12 ((Below.refl _ _).alloc (Nat.le_refl v12.heap.size) (.cells #[.string ((⟨#[111, 112]⟩ : ByteArray) ++ ⟨(Lib.itoa (op : Int)).toArray⟩), .string ⟨(Lib.itoa a).toArray⟩, .string ⟨(Lib.itoa b).toArray⟩, .string ⟨(Lib.itoa c).toArray⟩, .string ⟨(Lib.itoa n).toArray⟩] 9))
    refine hK.out _ _ hs13 (fun _ => ?_)
    clear hK K
    try simp only [Act.put, List.setIfInBounds_toArray, List.set_cons_zero, List.set_cons_succ]
    refine wpAnyH_ready (rs := [14]) (by kernel_rfl) (by simp) ?_
    refine AllReadyH.cons (o := { dst := some 4, op := Go.Op.assign (Go.Operand.tmp 28), type := 81, pos := "program.go:69", after := #[{ on := 13, ground := Go.Ground.data }, { on := 12, ground := Go.Ground.chain }, { on := 0, ground := Go.Ground.phase }, { on := 1, ground := Go.Ground.phase }, { on := 2, ground := Go.Ground.phase }, { on := 3, ground := Go.Ground.phase }, { on := 4, ground := Go.Ground.phase }, { on := 5, ground := Go.Ground.phase }, { on := 6, ground := Go.Ground.phase }, { on := 7, ground := Go.Ground.phase }, { on := 8, ground := Go.Ground.phase }, { on := 9, ground := Go.Ground.phase }, { on := 10, ground := Go.Ground.phase }, { on := 11, ground := Go.Ground.phase }, { on := 12, ground := Go.Ground.phase }, { on := 13, ground := Go.Ground.phase }], guard := none }) rfl (fun K hK => ?_) AllReadyH.nil
    go_simp
    refine hK.out _ _ hs13 (fun _ => ?_)
    clear hK K
    try simp only [Act.put, List.setIfInBounds_toArray, List.set_cons_zero, List.set_cons_succ]
    refine wpAnyH_done (by kernel_rfl) ?_ _
    have HX := hide hs13.2.2.2.2.2.2
    have hb5 : Below w.heap.size w (v12.alloc (.cells #[.string ((⟨#[111, 112]⟩ : ByteArray) ++ ⟨(Lib.itoa (op : Int)).toArray⟩), .string ⟨(Lib.itoa a).toArray⟩, .string ⟨(Lib.itoa b).toArray⟩, .string ⟨(Lib.itoa c).toArray⟩, .string ⟨(Lib.itoa n).toArray⟩] 9)) := (below_call (below_call (below_call (below_call HB2.out.drew y3) y6) y9) y12).alloc (by
      have := (below_call (below_call (below_call (below_call HB2.out.drew y3) y6) y9) y12).size
      omega) _
    have ho5 : OwnV (v12.alloc (.cells #[.string ((⟨#[111, 112]⟩ : ByteArray) ++ ⟨(Lib.itoa (op : Int)).toArray⟩), .string ⟨(Lib.itoa a).toArray⟩, .string ⟨(Lib.itoa b).toArray⟩, .string ⟨(Lib.itoa c).toArray⟩, .string ⟨(Lib.itoa n).toArray⟩] 9)) v12.heap.size 9 (.slice (some ⟨v12.heap.size, 0, none⟩) 5 5) ([wordT op, ⟨(Lib.itoa a).toArray⟩, ⟨(Lib.itoa b).toArray⟩, ⟨(Lib.itoa c).toArray⟩, ⟨(Lib.itoa n).toArray⟩].map Value.string) := by
      rw [HT.out]
      exact own_new 9 [.string ((⟨#[111, 112]⟩ : ByteArray) ++ ⟨(Lib.itoa (op : Int)).toArray⟩), .string ⟨(Lib.itoa a).toArray⟩, .string ⟨(Lib.itoa b).toArray⟩, .string ⟨(Lib.itoa c).toArray⟩, .string ⟨(Lib.itoa n).toArray⟩] 5 rfl (by decide)
    have hz12 : w.heap.size ≤ v12.heap.size := (below_call (below_call (below_call (below_call HB2.out.drew y3) y6) y9) y12).size
    have x5 : (v12.alloc (.cells #[.string ((⟨#[111, 112]⟩ : ByteArray) ++ ⟨(Lib.itoa (op : Int)).toArray⟩), .string ⟨(Lib.itoa a).toArray⟩, .string ⟨(Lib.itoa b).toArray⟩, .string ⟨(Lib.itoa c).toArray⟩, .string ⟨(Lib.itoa n).toArray⟩] 9)).cell? ⟨B0, 5, none⟩ = some (.string s) := HX.out
    have HB5 := hide hb5
    have HO5 := hide ho5
    clear hs13 y3 y6 y9 y12 hb5 ho5
    obtain ⟨W5, HW5⟩ := named (v12.alloc (.cells #[.string ((⟨#[111, 112]⟩ : ByteArray) ++ ⟨(Lib.itoa (op : Int)).toArray⟩), .string ⟨(Lib.itoa a).toArray⟩, .string ⟨(Lib.itoa b).toArray⟩, .string ⟨(Lib.itoa c).toArray⟩, .string ⟨(Lib.itoa n).toArray⟩] 9))
    have hz5 : v12.heap.size < W5.heap.size := by rw [HW5.out]; simp
    rw [← HW5.out] at HB5 HO5 x5 ⊢
    by_cases hse : s = ⟨#[]⟩
    · have hsi : s.toList.isEmpty = true := by rw [hse, ByteArray.toList_eq]; rfl
      have HTX := hide (show txts ⟨op, a, b, c, n, s⟩ = [wordT op, ⟨(Lib.itoa a).toArray⟩, ⟨(Lib.itoa b).toArray⟩, ⟨(Lib.itoa c).toArray⟩, ⟨(Lib.itoa n).toArray⟩] by unfold txts; rw [if_pos hse]; rfl)
      go_wp2_with fail
      refine (Tryd.strings_Join v12.heap.size 0 5 [wordT op, ⟨(Lib.itoa a).toArray⟩, ⟨(Lib.itoa b).toArray⟩, ⟨(Lib.itoa c).toArray⟩, ⟨(Lib.itoa n).toArray⟩] ⟨#[32]⟩ W5 (fun j x hx => ?_) hz5 (by simp) (by simp) ?_).mono ?_
      · have h1 := HO5.out.rd
        obtain ⟨ao, cap, hv, -, -, -, h4⟩ := h1
        cases hv
        have hj : j < ([wordT op, ⟨(Lib.itoa a).toArray⟩, ⟨(Lib.itoa b).toArray⟩, ⟨(Lib.itoa c).toArray⟩, ⟨(Lib.itoa n).toArray⟩].map Value.string).length := by
          have := (List.getElem?_eq_some_iff.1 hx).1
          simpa using this
        have h5 := h4 _ rfl j hj
        rw [addr_add, Nat.zero_add] at h5
        rw [Nat.zero_add, h5]
        obtain ⟨hj2, rfl⟩ := List.getElem?_eq_some_iff.1 hx
        rw [List.getElem_map]
      · have h1 := join_le _ HTL.out (by rw [List.length_map]; exact HTC.out)
        rw [HTX.out] at h1
        exact h1
      rintro e w7 ⟨rfl, hb7⟩
      go_wp2
      go_ret
      refine ⟨?_, below_call HB5.out hb7⟩
      unfold showB
      rw [HTX.out]
      rfl
    · have hsi : s.toList.isEmpty = false := by
        rw [ByteArray.toList_eq]
        cases h : s.data.toList with
        | nil => exact absurd (ByteArray.ext (Array.toList_inj.1 (by rw [h]))) hse
        | cons x t => rfl
      have HTX := hide (show txts ⟨op, a, b, c, n, s⟩ = [wordT op, ⟨(Lib.itoa a).toArray⟩, ⟨(Lib.itoa b).toArray⟩, ⟨(Lib.itoa c).toArray⟩, ⟨(Lib.itoa n).toArray⟩] ++ [s] by unfold txts; rw [if_neg hse])
      obtain ⟨v', w', hr, ho6, hg6⟩ := run_append_v (P := Tryd.prog) (W5.alloc (.cells #[.string s] 9)) 81 81 9 _ (.string ⟨#[]⟩) 16 Tryd.underlying81 hi9 hz9 hs9' hb9 rfl (by decide) v12.heap.size _ (.string s) ⟨W5.heap.size, 0, none⟩ 1 _ rfl (by simp) (HO5.out.alloc _) (by simp) (by simp; omega)
      have hb6 : Below w.heap.size w w' := by
        have h1 : Below w.heap.size w (W5.alloc (.cells #[.string s] 9)) := HB5.out.alloc HB5.out.size _
        refine h1.grown hg6 h1.size (fun k hk => ?_)
        cases hk
        exact hz12
      have HB6 := hide hb6
      have HO6 := hide ho6
      have hlen6 : (([wordT op, ⟨(Lib.itoa a).toArray⟩, ⟨(Lib.itoa b).toArray⟩, ⟨(Lib.itoa c).toArray⟩, ⟨(Lib.itoa n).toArray⟩].map Value.string) ++ [Value.string s]).length = 6 := rfl
      obtain ⟨bb, off, cap, hv6, h61, h62, h63, h64⟩ := ho6.rd.cells (by rw [hlen6]; omega)
      rw [hlen6] at hv6 h61
      subst hv6
      have HC6 := hide h64
      clear hb6 ho6 hg6 h64
      go_wp2_with (at_builtin; go_must (refine Lib.wpList_append_run _ rfl _ _ _ _ rfl _ _ rfl rfl _ _ hr ?_))
      refine (Tryd.strings_Join bb off cap ([wordT op, ⟨(Lib.itoa a).toArray⟩, ⟨(Lib.itoa b).toArray⟩, ⟨(Lib.itoa c).toArray⟩, ⟨(Lib.itoa n).toArray⟩] ++ [s]) ⟨#[32]⟩ w' (fun j x hx => ?_) h63 (by simp) (by simpa using h61) ?_).mono ?_
      · have hj : j < (([wordT op, ⟨(Lib.itoa a).toArray⟩, ⟨(Lib.itoa b).toArray⟩, ⟨(Lib.itoa c).toArray⟩, ⟨(Lib.itoa n).toArray⟩].map Value.string) ++ [Value.string s]).length := by
          have := (List.getElem?_eq_some_iff.1 hx).1
          simpa using this
        rw [HC6.out j hj]
        obtain ⟨hj2, rfl⟩ := List.getElem?_eq_some_iff.1 hx
        congr 1
        have e : (([wordT op, ⟨(Lib.itoa a).toArray⟩, ⟨(Lib.itoa b).toArray⟩, ⟨(Lib.itoa c).toArray⟩, ⟨(Lib.itoa n).toArray⟩].map Value.string) ++ [Value.string s]) = ([wordT op, ⟨(Lib.itoa a).toArray⟩, ⟨(Lib.itoa b).toArray⟩, ⟨(Lib.itoa c).toArray⟩, ⟨(Lib.itoa n).toArray⟩] ++ [s]).map Value.string := by simp
        rw [List.getElem_of_eq e]
        rw [List.getElem_map]
      · have h1 := join_le _ HTL.out (by rw [List.length_map]; exact HTC.out)
        rw [HTX.out] at h1
        exact h1
      rintro e w7 ⟨rfl, hb7⟩
      go_wp2
      go_ret
      refine ⟨?_, below_call HB6.out hb7⟩
      unfold showB
      rw [HTX.out]
      rfl

  · have hT : wordT op = wordS op := by unfold wordT; rw [if_neg h0]
    have hwe2 : (wordS op).toList.isEmpty = false := by rw [hwe]; cases h : wordL op with
      | nil => exact absurd h h0
      | cons x t => rfl
    have HT := hide hT
    have HB2 := hide HB1.out
    clear hT hwe
    have hs0 := SH_keep hs1 (Below.refl _ _).drew
    go_wp2_with fail
    refine wp_region_held_drew (S := (fun u => Laid u ∧ B0 < u.heap.size ∧ u.cell? ⟨B0, 1, none⟩ = some (.int .i64 a) ∧ u.cell? ⟨B0, 2, none⟩ = some (.int .i64 b) ∧ u.cell? ⟨B0, 3, none⟩ = some (.int .i64 c) ∧ u.cell? ⟨B0, 4, none⟩ = some (.int .i64 n) ∧ u.cell? ⟨B0, 5, none⟩ = some (.string s))) (by kernel_rfl) hs0 (fun _ => ?_)
    refine wpAnyH_take (i := 0) (oi := { dst := some 15, op := Go.Op.move (Go.Operand.tmp 3), type := 9, pos := "program.go:69", after := #[], guard := none }) (v := ?_) rfl (by kernel_rfl) (by kernel_rfl) (by kernel_rfl) (fun _ _ _ h => h) (Or.inl ⟨by rfl, ?hy16⟩) hs0 ?_
    case hy16 =>
      intro u hu
      obtain ⟨u0, u1, u2, u3, u4, u5, u6⟩ := hu
      go_simp
      try with_reducible rfl
    simp only [Act.put, List.setIfInBounds_toArray, List.set_cons_zero, List.set_cons_succ]
    refine wpAnyH_take (i := 1) (oi := { dst := some 16, op := Go.Op.fieldAddr 28 (Go.Operand.tmp 1) 1, type := 0, pos := "program.go:69", after := #[], guard := none }) (v := ?_) rfl (by kernel_rfl) (by kernel_rfl) (by kernel_rfl) (fun _ _ _ h => h) (Or.inl ⟨by rfl, ?hy17⟩) hs0 ?_
    case hy17 =>
      intro u hu
      obtain ⟨u0, u1, u2, u3, u4, u5, u6⟩ := hu
      go_simp
      try with_reducible rfl
    simp only [Act.put, List.setIfInBounds_toArray, List.set_cons_zero, List.set_cons_succ]
    refine wpAnyH_take (i := 2) (oi := { dst := some 17, op := Go.Op.load 3 (Go.Operand.tmp 16), type := 3, pos := "program.go:69", after := #[{ on := 1, ground := Go.Ground.data }], guard := none }) (v := ?_) rfl (by kernel_rfl) (by kernel_rfl) (by kernel_rfl) (fun _ _ _ h => h) (Or.inl ⟨by rfl, ?hy18⟩) hs0 ?_
    case hy18 =>
      intro u hu
      obtain ⟨u0, u1, u2, u3, u4, u5, u6⟩ := hu
      go_simp
      try with_reducible rfl
    simp only [Act.put, List.setIfInBounds_toArray, List.set_cons_zero, List.set_cons_succ]
    refine wpAnyH_take (i := 4) (oi := { dst := some 19, op := Go.Op.fieldAddr 28 (Go.Operand.tmp 1) 2, type := 0, pos := "program.go:69", after := #[], guard := none }) (v := ?_) rfl (by kernel_rfl) (by kernel_rfl) (by kernel_rfl) (fun _ _ _ h => h) (Or.inl ⟨by rfl, ?hy19⟩) hs0 ?_
    case hy19 =>
      intro u hu
      obtain ⟨u0, u1, u2, u3, u4, u5, u6⟩ := hu
      go_simp
      try with_reducible rfl
    simp only [Act.put, List.setIfInBounds_toArray, List.set_cons_zero, List.set_cons_succ]
    refine wpAnyH_take (i := 5) (oi := { dst := some 20, op := Go.Op.load 3 (Go.Operand.tmp 19), type := 3, pos := "program.go:69", after := #[{ on := 4, ground := Go.Ground.data }], guard := none }) (v := ?_) rfl (by kernel_rfl) (by kernel_rfl) (by kernel_rfl) (fun _ _ _ h => h) (Or.inl ⟨by rfl, ?hy20⟩) hs0 ?_
    case hy20 =>
      intro u hu
      obtain ⟨u0, u1, u2, u3, u4, u5, u6⟩ := hu
      go_simp
      try with_reducible rfl
    simp only [Act.put, List.setIfInBounds_toArray, List.set_cons_zero, List.set_cons_succ]
    refine wpAnyH_take (i := 7) (oi := { dst := some 22, op := Go.Op.fieldAddr 28 (Go.Operand.tmp 1) 3, type := 0, pos := "program.go:69", after := #[], guard := none }) (v := ?_) rfl (by kernel_rfl) (by kernel_rfl) (by kernel_rfl) (fun _ _ _ h => h) (Or.inl ⟨by rfl, ?hy21⟩) hs0 ?_
    case hy21 =>
      intro u hu
      obtain ⟨u0, u1, u2, u3, u4, u5, u6⟩ := hu
      go_simp
      try with_reducible rfl
    simp only [Act.put, List.setIfInBounds_toArray, List.set_cons_zero, List.set_cons_succ]
    refine wpAnyH_take (i := 8) (oi := { dst := some 23, op := Go.Op.load 3 (Go.Operand.tmp 22), type := 3, pos := "program.go:69", after := #[{ on := 7, ground := Go.Ground.data }], guard := none }) (v := ?_) rfl (by kernel_rfl) (by kernel_rfl) (by kernel_rfl) (fun _ _ _ h => h) (Or.inl ⟨by rfl, ?hy22⟩) hs0 ?_
    case hy22 =>
      intro u hu
      obtain ⟨u0, u1, u2, u3, u4, u5, u6⟩ := hu
      go_simp
      try with_reducible rfl
    simp only [Act.put, List.setIfInBounds_toArray, List.set_cons_zero, List.set_cons_succ]
    refine wpAnyH_take (i := 10) (oi := { dst := some 25, op := Go.Op.fieldAddr 28 (Go.Operand.tmp 1) 4, type := 0, pos := "program.go:69", after := #[], guard := none }) (v := ?_) rfl (by kernel_rfl) (by kernel_rfl) (by kernel_rfl) (fun _ _ _ h => h) (Or.inl ⟨by rfl, ?hy23⟩) hs0 ?_
    case hy23 =>
      intro u hu
      obtain ⟨u0, u1, u2, u3, u4, u5, u6⟩ := hu
      go_simp
      try with_reducible rfl
    simp only [Act.put, List.setIfInBounds_toArray, List.set_cons_zero, List.set_cons_succ]
    refine wpAnyH_take (i := 11) (oi := { dst := some 26, op := Go.Op.load 2 (Go.Operand.tmp 25), type := 2, pos := "program.go:69", after := #[{ on := 10, ground := Go.Ground.data }], guard := none }) (v := ?_) rfl (by kernel_rfl) (by kernel_rfl) (by kernel_rfl) (fun _ _ _ h => h) (Or.inl ⟨by rfl, ?hy24⟩) hs0 ?_
    case hy24 =>
      intro u hu
      obtain ⟨u0, u1, u2, u3, u4, u5, u6⟩ := hu
      go_simp
      try with_reducible rfl
    simp only [Act.put, List.setIfInBounds_toArray, List.set_cons_zero, List.set_cons_succ]
    refine wpAnyH_ready (rs := [3]) (by kernel_rfl) (by simp) ?_
    refine AllReadyH.cons (o := { dst := some 18, op := Go.Op.call { callee := Go.Callee.value (Go.Operand.func 42), args := #[Go.Operand.tmp 17], argTypes := #[3] }, type := 9, pos := "program.go:69", after := #[{ on := 2, ground := Go.Ground.data }], guard := none }) rfl (fun K hK => ?_) AllReadyH.nil
    go_simp
    obtain ⟨q0, q1, q2, q3, q4, q5, q6⟩ := hs0
    (with_reducible refine Calls.mono (Tryd.strconv_Itoa a HRa.out.1 HRa.out.2 _ ?_) ?_)
    · exact (show Laid _ from q0).tab
    rintro e v3 ⟨rfl, x3⟩
    have y3 := below_grown x3
    have hs3 := SH_keep (show _ ∧ _ ∧ _ ∧ _ ∧ _ ∧ _ ∧ _ from ⟨q0, q1, q2, q3, q4, q5, q6⟩) y3
    clear q0 q1 q2 q3 q4 q5 q6 x3
    refine hK.out _ _ hs3 (fun _ => ?_)
    clear hK K
    try simp only [Act.put, List.setIfInBounds_toArray, List.set_cons_zero, List.set_cons_succ]
    refine wpAnyH_ready (rs := [6]) (by kernel_rfl) (by simp) ?_
    refine AllReadyH.cons (o := { dst := some 21, op := Go.Op.call { callee := Go.Callee.value (Go.Operand.func 42), args := #[Go.Operand.tmp 20], argTypes := #[3] }, type := 9, pos := "program.go:69", after := #[{ on := 5, ground := Go.Ground.data }, { on := 3, ground := Go.Ground.chain }], guard := none }) rfl (fun K hK => ?_) AllReadyH.nil
    go_simp
    obtain ⟨q0, q1, q2, q3, q4, q5, q6⟩ := hs3
    (with_reducible refine Calls.mono (Tryd.strconv_Itoa b HRb.out.1 HRb.out.2 _ ?_) ?_)
    · exact (show Laid _ from q0).tab
    rintro e v6 ⟨rfl, x6⟩
    have y6 := below_grown x6
    have hs6 := SH_keep (show _ ∧ _ ∧ _ ∧ _ ∧ _ ∧ _ ∧ _ from ⟨q0, q1, q2, q3, q4, q5, q6⟩) y6
    clear q0 q1 q2 q3 q4 q5 q6 x6
    refine hK.out _ _ hs6 (fun _ => ?_)
    clear hK K
    try simp only [Act.put, List.setIfInBounds_toArray, List.set_cons_zero, List.set_cons_succ]
    refine wpAnyH_ready (rs := [9]) (by kernel_rfl) (by simp) ?_
    refine AllReadyH.cons (o := { dst := some 24, op := Go.Op.call { callee := Go.Callee.value (Go.Operand.func 42), args := #[Go.Operand.tmp 23], argTypes := #[3] }, type := 9, pos := "program.go:69", after := #[{ on := 8, ground := Go.Ground.data }, { on := 6, ground := Go.Ground.chain }], guard := none }) rfl (fun K hK => ?_) AllReadyH.nil
    go_simp
    obtain ⟨q0, q1, q2, q3, q4, q5, q6⟩ := hs6
    (with_reducible refine Calls.mono (Tryd.strconv_Itoa c HRc.out.1 HRc.out.2 _ ?_) ?_)
    · exact (show Laid _ from q0).tab
    rintro e v9 ⟨rfl, x9⟩
    have y9 := below_grown x9
    have hs9 := SH_keep (show _ ∧ _ ∧ _ ∧ _ ∧ _ ∧ _ ∧ _ from ⟨q0, q1, q2, q3, q4, q5, q6⟩) y9
    clear q0 q1 q2 q3 q4 q5 q6 x9
    refine hK.out _ _ hs9 (fun _ => ?_)
    clear hK K
    try simp only [Act.put, List.setIfInBounds_toArray, List.set_cons_zero, List.set_cons_succ]
    refine wpAnyH_ready (rs := [12]) (by kernel_rfl) (by simp) ?_
    refine AllReadyH.cons (o := { dst := some 27, op := Go.Op.call { callee := Go.Callee.value (Go.Operand.func 43), args := #[Go.Operand.tmp 26, Go.Operand.const (Go.Value.int Go.IntKind.i64 10)], argTypes := #[2, 3] }, type := 9, pos := "program.go:69", after := #[{ on := 11, ground := Go.Ground.data }, { on := 9, ground := Go.Ground.chain }], guard := none }) rfl (fun K hK => ?_) AllReadyH.nil
    go_simp
    obtain ⟨q0, q1, q2, q3, q4, q5, q6⟩ := hs9
    (with_reducible refine Calls.mono (Tryd.strconv_FormatInt_10 n HRn.out.1 HRn.out.2 _ ?_) ?_)
    · exact (show Laid _ from q0).tab
    rintro e v12 ⟨rfl, x12⟩
    have y12 := below_grown x12
    have hs12 := SH_keep (show _ ∧ _ ∧ _ ∧ _ ∧ _ ∧ _ ∧ _ from ⟨q0, q1, q2, q3, q4, q5, q6⟩) y12
    clear q0 q1 q2 q3 q4 q5 q6 x12
    refine hK.out _ _ hs12 (fun _ => ?_)
    clear hK K
    try simp only [Act.put, List.setIfInBounds_toArray, List.set_cons_zero, List.set_cons_succ]
    refine wpAnyH_ready (rs := [13]) (by kernel_rfl) (by simp) ?_
    refine AllReadyH.cons (o := { dst := some 28, op := Go.Op.buildSlice 81 5 #[(0, Go.Operand.tmp 15), (1, Go.Operand.tmp 18), (2, Go.Operand.tmp 21), (3, Go.Operand.tmp 24), (4, Go.Operand.tmp 27)], type := 81, pos := "program.go:69", after := #[{ on := 0, ground := Go.Ground.data }, { on := 3, ground := Go.Ground.data }, { on := 6, ground := Go.Ground.data }, { on := 9, ground := Go.Ground.data }, { on := 12, ground := Go.Ground.data }], guard := none }) rfl (fun K hK => ?_) AllReadyH.nil
    go_simp
    have hs13 := SH_keep hs12 ((Below.refl _ _).alloc (Nat.le_refl v12.heap.size) (.cells #[.string (wordS op), .string ⟨(Lib.itoa a).toArray⟩, .string ⟨(Lib.itoa b).toArray⟩, .string ⟨(Lib.itoa c).toArray⟩, .string ⟨(Lib.itoa n).toArray⟩] 9))
    refine hK.out _ _ hs13 (fun _ => ?_)
    clear hK K
    try simp only [Act.put, List.setIfInBounds_toArray, List.set_cons_zero, List.set_cons_succ]
    refine wpAnyH_ready (rs := [14]) (by kernel_rfl) (by simp) ?_
    refine AllReadyH.cons (o := { dst := some 4, op := Go.Op.assign (Go.Operand.tmp 28), type := 81, pos := "program.go:69", after := #[{ on := 13, ground := Go.Ground.data }, { on := 12, ground := Go.Ground.chain }, { on := 0, ground := Go.Ground.phase }, { on := 1, ground := Go.Ground.phase }, { on := 2, ground := Go.Ground.phase }, { on := 3, ground := Go.Ground.phase }, { on := 4, ground := Go.Ground.phase }, { on := 5, ground := Go.Ground.phase }, { on := 6, ground := Go.Ground.phase }, { on := 7, ground := Go.Ground.phase }, { on := 8, ground := Go.Ground.phase }, { on := 9, ground := Go.Ground.phase }, { on := 10, ground := Go.Ground.phase }, { on := 11, ground := Go.Ground.phase }, { on := 12, ground := Go.Ground.phase }, { on := 13, ground := Go.Ground.phase }], guard := none }) rfl (fun K hK => ?_) AllReadyH.nil
    go_simp
    refine hK.out _ _ hs13 (fun _ => ?_)
    clear hK K
    try simp only [Act.put, List.setIfInBounds_toArray, List.set_cons_zero, List.set_cons_succ]
    refine wpAnyH_done (by kernel_rfl) ?_ _
    have HX := hide hs13.2.2.2.2.2.2
    have hb5 : Below w.heap.size w (v12.alloc (.cells #[.string (wordS op), .string ⟨(Lib.itoa a).toArray⟩, .string ⟨(Lib.itoa b).toArray⟩, .string ⟨(Lib.itoa c).toArray⟩, .string ⟨(Lib.itoa n).toArray⟩] 9)) := (below_call (below_call (below_call (below_call HB2.out.drew y3) y6) y9) y12).alloc (by
      have := (below_call (below_call (below_call (below_call HB2.out.drew y3) y6) y9) y12).size
      omega) _
    have ho5 : OwnV (v12.alloc (.cells #[.string (wordS op), .string ⟨(Lib.itoa a).toArray⟩, .string ⟨(Lib.itoa b).toArray⟩, .string ⟨(Lib.itoa c).toArray⟩, .string ⟨(Lib.itoa n).toArray⟩] 9)) v12.heap.size 9 (.slice (some ⟨v12.heap.size, 0, none⟩) 5 5) ([wordT op, ⟨(Lib.itoa a).toArray⟩, ⟨(Lib.itoa b).toArray⟩, ⟨(Lib.itoa c).toArray⟩, ⟨(Lib.itoa n).toArray⟩].map Value.string) := by
      rw [HT.out]
      exact own_new 9 [.string (wordS op), .string ⟨(Lib.itoa a).toArray⟩, .string ⟨(Lib.itoa b).toArray⟩, .string ⟨(Lib.itoa c).toArray⟩, .string ⟨(Lib.itoa n).toArray⟩] 5 rfl (by decide)
    have hz12 : w.heap.size ≤ v12.heap.size := (below_call (below_call (below_call (below_call HB2.out.drew y3) y6) y9) y12).size
    have x5 : (v12.alloc (.cells #[.string (wordS op), .string ⟨(Lib.itoa a).toArray⟩, .string ⟨(Lib.itoa b).toArray⟩, .string ⟨(Lib.itoa c).toArray⟩, .string ⟨(Lib.itoa n).toArray⟩] 9)).cell? ⟨B0, 5, none⟩ = some (.string s) := HX.out
    have HB5 := hide hb5
    have HO5 := hide ho5
    clear hs13 y3 y6 y9 y12 hb5 ho5
    obtain ⟨W5, HW5⟩ := named (v12.alloc (.cells #[.string (wordS op), .string ⟨(Lib.itoa a).toArray⟩, .string ⟨(Lib.itoa b).toArray⟩, .string ⟨(Lib.itoa c).toArray⟩, .string ⟨(Lib.itoa n).toArray⟩] 9))
    have hz5 : v12.heap.size < W5.heap.size := by rw [HW5.out]; simp
    rw [← HW5.out] at HB5 HO5 x5 ⊢
    by_cases hse : s = ⟨#[]⟩
    · have hsi : s.toList.isEmpty = true := by rw [hse, ByteArray.toList_eq]; rfl
      have HTX := hide (show txts ⟨op, a, b, c, n, s⟩ = [wordT op, ⟨(Lib.itoa a).toArray⟩, ⟨(Lib.itoa b).toArray⟩, ⟨(Lib.itoa c).toArray⟩, ⟨(Lib.itoa n).toArray⟩] by unfold txts; rw [if_pos hse]; rfl)
      go_wp2_with fail
      refine (Tryd.strings_Join v12.heap.size 0 5 [wordT op, ⟨(Lib.itoa a).toArray⟩, ⟨(Lib.itoa b).toArray⟩, ⟨(Lib.itoa c).toArray⟩, ⟨(Lib.itoa n).toArray⟩] ⟨#[32]⟩ W5 (fun j x hx => ?_) hz5 (by simp) (by simp) ?_).mono ?_
      · have h1 := HO5.out.rd
        obtain ⟨ao, cap, hv, -, -, -, h4⟩ := h1
        cases hv
        have hj : j < ([wordT op, ⟨(Lib.itoa a).toArray⟩, ⟨(Lib.itoa b).toArray⟩, ⟨(Lib.itoa c).toArray⟩, ⟨(Lib.itoa n).toArray⟩].map Value.string).length := by
          have := (List.getElem?_eq_some_iff.1 hx).1
          simpa using this
        have h5 := h4 _ rfl j hj
        rw [addr_add, Nat.zero_add] at h5
        rw [Nat.zero_add, h5]
        obtain ⟨hj2, rfl⟩ := List.getElem?_eq_some_iff.1 hx
        rw [List.getElem_map]
      · have h1 := join_le _ HTL.out (by rw [List.length_map]; exact HTC.out)
        rw [HTX.out] at h1
        exact h1
      rintro e w7 ⟨rfl, hb7⟩
      go_wp2
      go_ret
      refine ⟨?_, below_call HB5.out hb7⟩
      unfold showB
      rw [HTX.out]
      rfl
    · have hsi : s.toList.isEmpty = false := by
        rw [ByteArray.toList_eq]
        cases h : s.data.toList with
        | nil => exact absurd (ByteArray.ext (Array.toList_inj.1 (by rw [h]))) hse
        | cons x t => rfl
      have HTX := hide (show txts ⟨op, a, b, c, n, s⟩ = [wordT op, ⟨(Lib.itoa a).toArray⟩, ⟨(Lib.itoa b).toArray⟩, ⟨(Lib.itoa c).toArray⟩, ⟨(Lib.itoa n).toArray⟩] ++ [s] by unfold txts; rw [if_neg hse])
      obtain ⟨v', w', hr, ho6, hg6⟩ := run_append_v (P := Tryd.prog) (W5.alloc (.cells #[.string s] 9)) 81 81 9 _ (.string ⟨#[]⟩) 16 Tryd.underlying81 hi9 hz9 hs9' hb9 rfl (by decide) v12.heap.size _ (.string s) ⟨W5.heap.size, 0, none⟩ 1 _ rfl (by simp) (HO5.out.alloc _) (by simp) (by simp; omega)
      have hb6 : Below w.heap.size w w' := by
        have h1 : Below w.heap.size w (W5.alloc (.cells #[.string s] 9)) := HB5.out.alloc HB5.out.size _
        refine h1.grown hg6 h1.size (fun k hk => ?_)
        cases hk
        exact hz12
      have HB6 := hide hb6
      have HO6 := hide ho6
      have hlen6 : (([wordT op, ⟨(Lib.itoa a).toArray⟩, ⟨(Lib.itoa b).toArray⟩, ⟨(Lib.itoa c).toArray⟩, ⟨(Lib.itoa n).toArray⟩].map Value.string) ++ [Value.string s]).length = 6 := rfl
      obtain ⟨bb, off, cap, hv6, h61, h62, h63, h64⟩ := ho6.rd.cells (by rw [hlen6]; omega)
      rw [hlen6] at hv6 h61
      subst hv6
      have HC6 := hide h64
      clear hb6 ho6 hg6 h64
      go_wp2_with (at_builtin; go_must (refine Lib.wpList_append_run _ rfl _ _ _ _ rfl _ _ rfl rfl _ _ hr ?_))
      refine (Tryd.strings_Join bb off cap ([wordT op, ⟨(Lib.itoa a).toArray⟩, ⟨(Lib.itoa b).toArray⟩, ⟨(Lib.itoa c).toArray⟩, ⟨(Lib.itoa n).toArray⟩] ++ [s]) ⟨#[32]⟩ w' (fun j x hx => ?_) h63 (by simp) (by simpa using h61) ?_).mono ?_
      · have hj : j < (([wordT op, ⟨(Lib.itoa a).toArray⟩, ⟨(Lib.itoa b).toArray⟩, ⟨(Lib.itoa c).toArray⟩, ⟨(Lib.itoa n).toArray⟩].map Value.string) ++ [Value.string s]).length := by
          have := (List.getElem?_eq_some_iff.1 hx).1
          simpa using this
        rw [HC6.out j hj]
        obtain ⟨hj2, rfl⟩ := List.getElem?_eq_some_iff.1 hx
        congr 1
        have e : (([wordT op, ⟨(Lib.itoa a).toArray⟩, ⟨(Lib.itoa b).toArray⟩, ⟨(Lib.itoa c).toArray⟩, ⟨(Lib.itoa n).toArray⟩].map Value.string) ++ [Value.string s]) = ([wordT op, ⟨(Lib.itoa a).toArray⟩, ⟨(Lib.itoa b).toArray⟩, ⟨(Lib.itoa c).toArray⟩, ⟨(Lib.itoa n).toArray⟩] ++ [s]).map Value.string := by simp
        rw [List.getElem_of_eq e]
        rw [List.getElem_map]
      · have h1 := join_le _ HTL.out (by rw [List.length_map]; exact HTC.out)
        rw [HTX.out] at h1
        exact h1
      rintro e w7 ⟨rfl, hb7⟩
      go_wp2
      go_ret
      refine ⟨?_, below_call HB6.out hb7⟩
      unfold showB
      rw [HTX.out]
      rfl

end Go.Proofs.YtpiiehenmkinaaaDoor

/-
  Pick, SameInstrs, Same. Own work.
-/
namespace Go.Proofs.YtpiiehenmkinaaaDoor
open Go.RowKit

theorem Ins.eq_of {i j : Ins} (h0 : i.op = j.op) (h1 : i.a = j.a) (h2 : i.b = j.b) (h3 : i.c = j.c) (h4 : i.n = j.n) (h5 : i.s = j.s) : i = j := by
  cases i; cases j
  simp only at h0 h1 h2 h3 h4 h5
  subst h0 h1 h2 h3 h4 h5
  rfl
instance : DecidableEq Ins := fun i j =>
  if h : i.op = j.op ∧ i.a = j.a ∧ i.b = j.b ∧ i.c = j.c ∧ i.n = j.n ∧ i.s = j.s then .isTrue (Ins.eq_of h.1 h.2.1 h.2.2.1 h.2.2.2.1 h.2.2.2.2.1 h.2.2.2.2.2)
  else .isFalse (fun e => h (by subst e; exact ⟨rfl, rfl, rfl, rfl, rfl, rfl⟩))
theorem neq_chain {α : Type} (x y : Ins) (h : ¬ x = y) (A B : α) : (if (x.op : Int) = (y.op : Int) then if x.a = y.a then if x.b = y.b then if x.c = y.c then if x.n = y.n then if x.s.toList = y.s.toList then A else B else B else B else B else B else B) = B := by
  split
  · split
    · split
      · split
        · split
          · split
            · rename_i h0 h1 h2 h3 h4 h5
              exfalso
              rw [ByteArray.toList_eq, ByteArray.toList_eq] at h5
              exact h (Ins.eq_of (by omega) h1 h2 h3 h4 (ByteArray.ext (Array.toList_inj.1 h5)))
            · rfl
          · rfl
        · rfl
      · rfl
    · rfl
  · rfl
def P6 (u : World) (b o : Nat) (x : Ins) : Prop := u.cell? ⟨b, o, none⟩ = some (.int .u8 (x.op : Int)) ∧ u.cell? ⟨b, o + 1, none⟩ = some (.int .i64 x.a) ∧ u.cell? ⟨b, o + 2, none⟩ = some (.int .i64 x.b) ∧ u.cell? ⟨b, o + 3, none⟩ = some (.int .i64 x.c) ∧ u.cell? ⟨b, o + 4, none⟩ = some (.int .i64 x.n) ∧ u.cell? ⟨b, o + 5, none⟩ = some (.string x.s)

set_option maxRecDepth 100000 in
set_option maxHeartbeats 1600000 in
theorem sameInstrs_any {w : World} {u v : Value} {l m : List Ins} (hu : RdC w u l) (hv : RdC w v m) :
    Calls Tryd.prog 41 #[u, v] w fun e w' => e = .returned (.bool (decide (l = m))) ∧ Below w.heap.size w w' := by
  obtain ⟨ao, cap, rfl, hl⟩ := hu.shape
  obtain ⟨bo, dap, rfl, hm⟩ := hv.shape
  have HU := hide hu
  have HV := hide hv
  clear hu hv
  by_cases hlen : l.length = m.length
  · obtain ⟨n, HN⟩ := named l.length
    have HM : Hid (m.length = n) := by rw [HN.out]; exact hlen.symm
    rw [← HN.out] at HU hl
    rw [HM.out] at HV
    rw [HM.out, ← HN.out]
    obtain ⟨R, HR⟩ := named (decide (l = m))
    rw [← HR.out]
    clear hlen hm
    go_enter Tryd.func41, Tryd.ntmps41
    go_wp2
    go_loopw [5] (fun i wr => ∃ k : Nat, k ≤ n ∧ i = .int .i64 k ∧ Hid (l.take k = m.take k) ∧ Hid (Below w.heap.size w wr)) (fun i _ => n - (intOf i).toNat)
    case atStart => exact ⟨0, Nat.zero_le _, rfl, by show _ = _; simp, Below.refl _ _⟩
    case round =>
      obtain ⟨k, hk, rfl, HT, HB⟩ := hrel
      by_cases hlt : k < n
      · obtain ⟨b, off, hab, -, a0, a1, a2, a3, a4, a5⟩ := (HU.out.below HB.out).at k (by rw [← HN.out]; exact hlt)
        obtain ⟨b', off', hab', -, b0, b1, b2, b3, b4, b5⟩ := (HV.out.below HB.out).at k (by rw [HM.out]; exact hlt)
        subst hab
        subst hab'
        have hkI : (k : Int) < (n : Int) := by omega
        obtain ⟨x, HX⟩ := named (l[k]'(by rw [← HN.out]; exact hlt))
        obtain ⟨y, HY⟩ := named (m[k]'(by rw [HM.out]; exact hlt))
        rw [← HX.out] at a0 a1 a2 a3 a4 a5
        rw [← HY.out] at b0 b1 b2 b3 b4 b5
        by_cases he : x = y
        · have HT1 : Hid (l.take (k + 1) = m.take (k + 1)) := by
            show _ = _
            rw [List.take_succ_eq_append_getElem (by rw [← HN.out]; exact hlt), List.take_succ_eq_append_getElem (by rw [HM.out]; exact hlt), HT.out]
            congr 2
            rw [← HX.out, ← HY.out]
            exact he
          clear HX HY
          subst he
          have hs0 : wr.drew.cell? ⟨b, off + k * 6, none⟩ = some (.int .u8 (x.op : Int)) ∧ wr.drew.cell? ⟨b, off + k * 6 + 1, none⟩ = some (.int .i64 x.a) ∧ wr.drew.cell? ⟨b, off + k * 6 + 2, none⟩ = some (.int .i64 x.b) ∧ wr.drew.cell? ⟨b, off + k * 6 + 3, none⟩ = some (.int .i64 x.c) ∧ wr.drew.cell? ⟨b, off + k * 6 + 4, none⟩ = some (.int .i64 x.n) ∧ wr.drew.cell? ⟨b, off + k * 6 + 5, none⟩ = some (.string x.s) ∧ wr.drew.cell? ⟨b', off' + k * 6, none⟩ = some (.int .u8 (x.op : Int)) ∧ wr.drew.cell? ⟨b', off' + k * 6 + 1, none⟩ = some (.int .i64 x.a) ∧ wr.drew.cell? ⟨b', off' + k * 6 + 2, none⟩ = some (.int .i64 x.b) ∧ wr.drew.cell? ⟨b', off' + k * 6 + 3, none⟩ = some (.int .i64 x.c) ∧ wr.drew.cell? ⟨b', off' + k * 6 + 4, none⟩ = some (.int .i64 x.n) ∧ wr.drew.cell? ⟨b', off' + k * 6 + 5, none⟩ = some (.string x.s) := ⟨a0, a1, a2, a3, a4, a5, b0, b1, b2, b3, b4, b5⟩
          clear a0 a1 a2 a3 a4 a5 b0 b1 b2 b3 b4 b5
          go_wp2_with fail
          refine wp_region_held_drew (S := (fun u => u.cell? ⟨b, off + k * 6, none⟩ = some (.int .u8 (x.op : Int)) ∧ u.cell? ⟨b, off + k * 6 + 1, none⟩ = some (.int .i64 x.a) ∧ u.cell? ⟨b, off + k * 6 + 2, none⟩ = some (.int .i64 x.b) ∧ u.cell? ⟨b, off + k * 6 + 3, none⟩ = some (.int .i64 x.c) ∧ u.cell? ⟨b, off + k * 6 + 4, none⟩ = some (.int .i64 x.n) ∧ u.cell? ⟨b, off + k * 6 + 5, none⟩ = some (.string x.s) ∧ u.cell? ⟨b', off' + k * 6, none⟩ = some (.int .u8 (x.op : Int)) ∧ u.cell? ⟨b', off' + k * 6 + 1, none⟩ = some (.int .i64 x.a) ∧ u.cell? ⟨b', off' + k * 6 + 2, none⟩ = some (.int .i64 x.b) ∧ u.cell? ⟨b', off' + k * 6 + 3, none⟩ = some (.int .i64 x.c) ∧ u.cell? ⟨b', off' + k * 6 + 4, none⟩ = some (.int .i64 x.n) ∧ u.cell? ⟨b', off' + k * 6 + 5, none⟩ = some (.string x.s))) (by kernel_rfl) hs0 (fun _ => ?_)
          refine wpAnyH_take (i := 0) (oi := { dst := some 17, op := Go.Op.move (Go.Operand.tmp 0), type := 22, pos := "kit.go:68", after := #[], guard := none }) (v := ?_) rfl (by kernel_rfl) (by kernel_rfl) (by kernel_rfl) (fun _ _ _ h => h) (Or.inl ⟨by rfl, ?hy1⟩) hs0 ?_
          case hy1 =>
            intro u hu
            obtain ⟨u0, u1, u2, u3, u4, u5, u6, u7, u8, u9, u10, u11⟩ := hu
            go_simp
            try with_reducible rfl
          simp only [Act.put, List.setIfInBounds_toArray, List.set_cons_zero, List.set_cons_succ]
          refine wpAnyH_take (i := 1) (oi := { dst := some 18, op := Go.Op.move (Go.Operand.tmp 5), type := 3, pos := "kit.go:68", after := #[], guard := none }) (v := ?_) rfl (by kernel_rfl) (by kernel_rfl) (by kernel_rfl) (fun _ _ _ h => h) (Or.inl ⟨by rfl, ?hy2⟩) hs0 ?_
          case hy2 =>
            intro u hu
            obtain ⟨u0, u1, u2, u3, u4, u5, u6, u7, u8, u9, u10, u11⟩ := hu
            go_simp
            try with_reducible rfl
          simp only [Act.put, List.setIfInBounds_toArray, List.set_cons_zero, List.set_cons_succ]
          refine wpAnyH_take (i := 2) (oi := { dst := some 19, op := Go.Op.indexAddr 22 (Go.Operand.tmp 17) (Go.Operand.tmp 18), type := 0, pos := "kit.go:68", after := #[{ on := 0, ground := Go.Ground.data }, { on := 1, ground := Go.Ground.data }], guard := none }) (v := ?_) rfl (by kernel_rfl) (by kernel_rfl) (by kernel_rfl) (fun _ _ _ h => h) (Or.inl ⟨by rfl, ?hy3⟩) hs0 ?_
          case hy3 =>
            intro u hu
            obtain ⟨u0, u1, u2, u3, u4, u5, u6, u7, u8, u9, u10, u11⟩ := hu
            go_simp
            try with_reducible rfl
          simp only [Act.put, List.setIfInBounds_toArray, List.set_cons_zero, List.set_cons_succ]
          refine wpAnyH_take (i := 3) (oi := { dst := some 20, op := Go.Op.load 28 (Go.Operand.tmp 19), type := 28, pos := "kit.go:68", after := #[{ on := 2, ground := Go.Ground.data }], guard := none }) (v := ?_) rfl (by kernel_rfl) (by kernel_rfl) (by kernel_rfl) (fun _ _ _ h => h) (Or.inl ⟨by rfl, ?hy4⟩) hs0 ?_
          case hy4 =>
            intro u hu
            obtain ⟨u0, u1, u2, u3, u4, u5, u6, u7, u8, u9, u10, u11⟩ := hu
            go_simp
            try with_reducible rfl
          simp only [Act.put, List.setIfInBounds_toArray, List.set_cons_zero, List.set_cons_succ]
          refine wpAnyH_take (i := 4) (oi := { dst := some 21, op := Go.Op.move (Go.Operand.tmp 1), type := 22, pos := "kit.go:68", after := #[], guard := none }) (v := ?_) rfl (by kernel_rfl) (by kernel_rfl) (by kernel_rfl) (fun _ _ _ h => h) (Or.inl ⟨by rfl, ?hy5⟩) hs0 ?_
          case hy5 =>
            intro u hu
            obtain ⟨u0, u1, u2, u3, u4, u5, u6, u7, u8, u9, u10, u11⟩ := hu
            go_simp
            try with_reducible rfl
          simp only [Act.put, List.setIfInBounds_toArray, List.set_cons_zero, List.set_cons_succ]
          refine wpAnyH_take (i := 5) (oi := { dst := some 22, op := Go.Op.move (Go.Operand.tmp 5), type := 3, pos := "kit.go:68", after := #[], guard := none }) (v := ?_) rfl (by kernel_rfl) (by kernel_rfl) (by kernel_rfl) (fun _ _ _ h => h) (Or.inl ⟨by rfl, ?hy6⟩) hs0 ?_
          case hy6 =>
            intro u hu
            obtain ⟨u0, u1, u2, u3, u4, u5, u6, u7, u8, u9, u10, u11⟩ := hu
            go_simp
            try with_reducible rfl
          simp only [Act.put, List.setIfInBounds_toArray, List.set_cons_zero, List.set_cons_succ]
          refine wpAnyH_take (i := 6) (oi := { dst := some 23, op := Go.Op.indexAddr 22 (Go.Operand.tmp 21) (Go.Operand.tmp 22), type := 0, pos := "kit.go:68", after := #[{ on := 4, ground := Go.Ground.data }, { on := 5, ground := Go.Ground.data }], guard := none }) (v := ?_) rfl (by kernel_rfl) (by kernel_rfl) (by kernel_rfl) (fun _ _ _ h => h) (Or.inl ⟨by rfl, ?hy7⟩) hs0 ?_
          case hy7 =>
            intro u hu
            obtain ⟨u0, u1, u2, u3, u4, u5, u6, u7, u8, u9, u10, u11⟩ := hu
            go_simp
            try with_reducible rfl
          simp only [Act.put, List.setIfInBounds_toArray, List.set_cons_zero, List.set_cons_succ]
          refine wpAnyH_take (i := 7) (oi := { dst := some 24, op := Go.Op.load 28 (Go.Operand.tmp 23), type := 28, pos := "kit.go:68", after := #[{ on := 6, ground := Go.Ground.data }], guard := none }) (v := ?_) rfl (by kernel_rfl) (by kernel_rfl) (by kernel_rfl) (fun _ _ _ h => h) (Or.inl ⟨by rfl, ?hy8⟩) hs0 ?_
          case hy8 =>
            intro u hu
            obtain ⟨u0, u1, u2, u3, u4, u5, u6, u7, u8, u9, u10, u11⟩ := hu
            go_simp
            try with_reducible rfl
          simp only [Act.put, List.setIfInBounds_toArray, List.set_cons_zero, List.set_cons_succ]
          refine wpAnyH_take (i := 8) (oi := { dst := some 25, op := Go.Op.binOp Go.BinOp.neq 28 (Go.Operand.tmp 20) (Go.Operand.tmp 24) 28, type := 4, pos := "kit.go:68", after := #[{ on := 3, ground := Go.Ground.data }, { on := 7, ground := Go.Ground.data }], guard := none }) (v := ?_) rfl (by kernel_rfl) (by kernel_rfl) (by kernel_rfl) (fun _ _ _ h => h) (Or.inl ⟨by rfl, ?hy9⟩) hs0 ?_
          case hy9 =>
            intro u hu
            obtain ⟨u0, u1, u2, u3, u4, u5, u6, u7, u8, u9, u10, u11⟩ := hu
            go_simp
            try with_reducible rfl
          simp only [Act.put, List.setIfInBounds_toArray, List.set_cons_zero, List.set_cons_succ]
          refine wpAnyH_done (by kernel_rfl) ?_ _
          go_wp2_with fail
          go_roundw
          case rel => exact ⟨k + 1, hlt, by go_num, HT1, HB.out.drew⟩
          case measure => simp [intOf]; omega

        · have HNE := hide he
          have HF : Hid (R = false) := by
            show R = false
            rw [HR.out, decide_eq_false_iff_not]
            rintro rfl
            exact he (by rw [HX.out, HY.out])
          have hs0 : wr.drew.cell? ⟨b, off + k * 6, none⟩ = some (.int .u8 (x.op : Int)) ∧ wr.drew.cell? ⟨b, off + k * 6 + 1, none⟩ = some (.int .i64 x.a) ∧ wr.drew.cell? ⟨b, off + k * 6 + 2, none⟩ = some (.int .i64 x.b) ∧ wr.drew.cell? ⟨b, off + k * 6 + 3, none⟩ = some (.int .i64 x.c) ∧ wr.drew.cell? ⟨b, off + k * 6 + 4, none⟩ = some (.int .i64 x.n) ∧ wr.drew.cell? ⟨b, off + k * 6 + 5, none⟩ = some (.string x.s) ∧ wr.drew.cell? ⟨b', off' + k * 6, none⟩ = some (.int .u8 (y.op : Int)) ∧ wr.drew.cell? ⟨b', off' + k * 6 + 1, none⟩ = some (.int .i64 y.a) ∧ wr.drew.cell? ⟨b', off' + k * 6 + 2, none⟩ = some (.int .i64 y.b) ∧ wr.drew.cell? ⟨b', off' + k * 6 + 3, none⟩ = some (.int .i64 y.c) ∧ wr.drew.cell? ⟨b', off' + k * 6 + 4, none⟩ = some (.int .i64 y.n) ∧ wr.drew.cell? ⟨b', off' + k * 6 + 5, none⟩ = some (.string y.s) := ⟨a0, a1, a2, a3, a4, a5, b0, b1, b2, b3, b4, b5⟩
          clear a0 a1 a2 a3 a4 a5 b0 b1 b2 b3 b4 b5
          go_wp2_with fail
          refine wp_region_held_drew (S := (fun u => u.cell? ⟨b, off + k * 6, none⟩ = some (.int .u8 (x.op : Int)) ∧ u.cell? ⟨b, off + k * 6 + 1, none⟩ = some (.int .i64 x.a) ∧ u.cell? ⟨b, off + k * 6 + 2, none⟩ = some (.int .i64 x.b) ∧ u.cell? ⟨b, off + k * 6 + 3, none⟩ = some (.int .i64 x.c) ∧ u.cell? ⟨b, off + k * 6 + 4, none⟩ = some (.int .i64 x.n) ∧ u.cell? ⟨b, off + k * 6 + 5, none⟩ = some (.string x.s) ∧ u.cell? ⟨b', off' + k * 6, none⟩ = some (.int .u8 (y.op : Int)) ∧ u.cell? ⟨b', off' + k * 6 + 1, none⟩ = some (.int .i64 y.a) ∧ u.cell? ⟨b', off' + k * 6 + 2, none⟩ = some (.int .i64 y.b) ∧ u.cell? ⟨b', off' + k * 6 + 3, none⟩ = some (.int .i64 y.c) ∧ u.cell? ⟨b', off' + k * 6 + 4, none⟩ = some (.int .i64 y.n) ∧ u.cell? ⟨b', off' + k * 6 + 5, none⟩ = some (.string y.s))) (by kernel_rfl) hs0 (fun _ => ?_)
          refine wpAnyH_take (i := 0) (oi := { dst := some 17, op := Go.Op.move (Go.Operand.tmp 0), type := 22, pos := "kit.go:68", after := #[], guard := none }) (v := ?_) rfl (by kernel_rfl) (by kernel_rfl) (by kernel_rfl) (fun _ _ _ h => h) (Or.inl ⟨by rfl, ?hy10⟩) hs0 ?_
          case hy10 =>
            intro u hu
            obtain ⟨u0, u1, u2, u3, u4, u5, u6, u7, u8, u9, u10, u11⟩ := hu
            go_simp
            try with_reducible rfl
          simp only [Act.put, List.setIfInBounds_toArray, List.set_cons_zero, List.set_cons_succ]
          refine wpAnyH_take (i := 1) (oi := { dst := some 18, op := Go.Op.move (Go.Operand.tmp 5), type := 3, pos := "kit.go:68", after := #[], guard := none }) (v := ?_) rfl (by kernel_rfl) (by kernel_rfl) (by kernel_rfl) (fun _ _ _ h => h) (Or.inl ⟨by rfl, ?hy11⟩) hs0 ?_
          case hy11 =>
            intro u hu
            obtain ⟨u0, u1, u2, u3, u4, u5, u6, u7, u8, u9, u10, u11⟩ := hu
            go_simp
            try with_reducible rfl
          simp only [Act.put, List.setIfInBounds_toArray, List.set_cons_zero, List.set_cons_succ]
          refine wpAnyH_take (i := 2) (oi := { dst := some 19, op := Go.Op.indexAddr 22 (Go.Operand.tmp 17) (Go.Operand.tmp 18), type := 0, pos := "kit.go:68", after := #[{ on := 0, ground := Go.Ground.data }, { on := 1, ground := Go.Ground.data }], guard := none }) (v := ?_) rfl (by kernel_rfl) (by kernel_rfl) (by kernel_rfl) (fun _ _ _ h => h) (Or.inl ⟨by rfl, ?hy12⟩) hs0 ?_
          case hy12 =>
            intro u hu
            obtain ⟨u0, u1, u2, u3, u4, u5, u6, u7, u8, u9, u10, u11⟩ := hu
            go_simp
            try with_reducible rfl
          simp only [Act.put, List.setIfInBounds_toArray, List.set_cons_zero, List.set_cons_succ]
          refine wpAnyH_take (i := 3) (oi := { dst := some 20, op := Go.Op.load 28 (Go.Operand.tmp 19), type := 28, pos := "kit.go:68", after := #[{ on := 2, ground := Go.Ground.data }], guard := none }) (v := ?_) rfl (by kernel_rfl) (by kernel_rfl) (by kernel_rfl) (fun _ _ _ h => h) (Or.inl ⟨by rfl, ?hy13⟩) hs0 ?_
          case hy13 =>
            intro u hu
            obtain ⟨u0, u1, u2, u3, u4, u5, u6, u7, u8, u9, u10, u11⟩ := hu
            go_simp
            try with_reducible rfl
          simp only [Act.put, List.setIfInBounds_toArray, List.set_cons_zero, List.set_cons_succ]
          refine wpAnyH_take (i := 4) (oi := { dst := some 21, op := Go.Op.move (Go.Operand.tmp 1), type := 22, pos := "kit.go:68", after := #[], guard := none }) (v := ?_) rfl (by kernel_rfl) (by kernel_rfl) (by kernel_rfl) (fun _ _ _ h => h) (Or.inl ⟨by rfl, ?hy14⟩) hs0 ?_
          case hy14 =>
            intro u hu
            obtain ⟨u0, u1, u2, u3, u4, u5, u6, u7, u8, u9, u10, u11⟩ := hu
            go_simp
            try with_reducible rfl
          simp only [Act.put, List.setIfInBounds_toArray, List.set_cons_zero, List.set_cons_succ]
          refine wpAnyH_take (i := 5) (oi := { dst := some 22, op := Go.Op.move (Go.Operand.tmp 5), type := 3, pos := "kit.go:68", after := #[], guard := none }) (v := ?_) rfl (by kernel_rfl) (by kernel_rfl) (by kernel_rfl) (fun _ _ _ h => h) (Or.inl ⟨by rfl, ?hy15⟩) hs0 ?_
          case hy15 =>
            intro u hu
            obtain ⟨u0, u1, u2, u3, u4, u5, u6, u7, u8, u9, u10, u11⟩ := hu
            go_simp
            try with_reducible rfl
          simp only [Act.put, List.setIfInBounds_toArray, List.set_cons_zero, List.set_cons_succ]
          refine wpAnyH_take (i := 6) (oi := { dst := some 23, op := Go.Op.indexAddr 22 (Go.Operand.tmp 21) (Go.Operand.tmp 22), type := 0, pos := "kit.go:68", after := #[{ on := 4, ground := Go.Ground.data }, { on := 5, ground := Go.Ground.data }], guard := none }) (v := ?_) rfl (by kernel_rfl) (by kernel_rfl) (by kernel_rfl) (fun _ _ _ h => h) (Or.inl ⟨by rfl, ?hy16⟩) hs0 ?_
          case hy16 =>
            intro u hu
            obtain ⟨u0, u1, u2, u3, u4, u5, u6, u7, u8, u9, u10, u11⟩ := hu
            go_simp
            try with_reducible rfl
          simp only [Act.put, List.setIfInBounds_toArray, List.set_cons_zero, List.set_cons_succ]
          refine wpAnyH_take (i := 7) (oi := { dst := some 24, op := Go.Op.load 28 (Go.Operand.tmp 23), type := 28, pos := "kit.go:68", after := #[{ on := 6, ground := Go.Ground.data }], guard := none }) (v := ?_) rfl (by kernel_rfl) (by kernel_rfl) (by kernel_rfl) (fun _ _ _ h => h) (Or.inl ⟨by rfl, ?hy17⟩) hs0 ?_
          case hy17 =>
            intro u hu
            obtain ⟨u0, u1, u2, u3, u4, u5, u6, u7, u8, u9, u10, u11⟩ := hu
            go_simp
            try with_reducible rfl
          simp only [Act.put, List.setIfInBounds_toArray, List.set_cons_zero, List.set_cons_succ]
          refine wpAnyH_take (i := 8) (oi := { dst := some 25, op := Go.Op.binOp Go.BinOp.neq 28 (Go.Operand.tmp 20) (Go.Operand.tmp 24) 28, type := 4, pos := "kit.go:68", after := #[{ on := 3, ground := Go.Ground.data }, { on := 7, ground := Go.Ground.data }], guard := none }) (v := .bool true) rfl (by kernel_rfl) (by kernel_rfl) (by kernel_rfl) (fun _ _ _ h => h) (Or.inl ⟨by rfl, ?hy18⟩) hs0 ?_
          case hy18 =>
            intro u hu
            obtain ⟨u0, u1, u2, u3, u4, u5, u6, u7, u8, u9, u10, u11⟩ := hu
            go_simp
            try show _ = _
            first | exact neq_chain x y HNE.out _ _ | (intro hq1 hq2 hq3 hq4 hq5 hq6; exact HNE.out (Ins.eq_of (by omega) hq2 hq3 hq4 hq5 (ByteArray.ext (Array.toList_inj.1 (by simpa [ByteArray.toList_eq] using hq6))))) | trace_state
          simp only [Act.put, List.setIfInBounds_toArray, List.set_cons_zero, List.set_cons_succ]
          refine wpAnyH_done (by kernel_rfl) ?_ _
          go_wp2_with fail
          go_ret
          exact ⟨by rw [HF.out]; rfl, HB.out.drew⟩

      · have hkn : k = n := by omega
        subst hkn
        go_wp2
        go_ret
        refine ⟨?_, HB.out⟩
        have hlm : l = m := by
          have := HT.out
          rw [List.take_of_length_le (by rw [← HN.out]; exact Nat.le_refl _), List.take_of_length_le (by rw [HM.out]; exact Nat.le_refl _)] at this
          exact this
        rw [HR.out, decide_eq_true hlm]
        rfl
  · have hne : ¬ ((l.length : Int) = (m.length : Int)) := by omega
    go_enter Tryd.func41, Tryd.ntmps41
    go_wp2
    go_ret
    refine ⟨?_, Below.refl _ _⟩
    rw [decide_eq_false (fun e => hlen (by rw [e]))]
    rfl
end Go.Proofs.YtpiiehenmkinaaaDoor

/-
  Rows of instructions of a call's own; Pick, CopyInstrs, Same, Great. Own work.
-/
namespace Go.Proofs.YtpiiehenmkinaaaDoor
open Go.RowKit

theorem Tryd.info28 : (Tryd.prog.info? 28).map (fun i => (i.zero, i.size, i.bytes)) = some (some (.agg #[.int .u8 0, .int .i64 0, .int .i64 0, .int .i64 0, .int .i64 0, .string ⟨#[]⟩]), 6, 56) := by kernel_rfl
/-- instructions as the cells that hold them -/
def cellsC (l : List Ins) : List Value := (l.map insC).flatten
theorem cellsC_append (a b : List Ins) : cellsC (a ++ b) = cellsC a ++ cellsC b := by simp [cellsC]
theorem cellsC_len (l : List Ins) : (cellsC l).length = l.length * 6 := by
  induction l with
  | nil => rfl
  | cons x t ih =>
    have e : cellsC (x :: t) = insC x ++ cellsC t := by simp [cellsC]
    rw [e, List.length_append, ih, List.length_cons]
    show 6 + _ = _
    omega
theorem cellsC_get (l : List Ins) (k j : Nat) (hk : k < l.length) (u : Value) (hu : (insC l[k])[j]? = some u) : (cellsC l)[k * 6 + j]? = some u := by
  have hj : j < 6 := (List.getElem?_eq_some_iff.1 hu).1
  induction l generalizing k with
  | nil => simp at hk
  | cons x t ih =>
    have e : cellsC (x :: t) = insC x ++ cellsC t := by simp [cellsC]
    rw [e]
    have h6 : (insC x).length = 6 := rfl
    cases k with
    | zero =>
      rw [List.getElem?_append_left (by omega)]
      simpa using hu
    | succ k =>
      rw [List.getElem?_append_right (by omega), h6, show (k + 1) * 6 + j - 6 = k * 6 + j by omega]
      exact ih k (by simpa using hk) (by simpa using hu)
def OwnC (w : World) (base : Nat) (v : Value) (l : List Ins) : Prop := w.ownsRow base 28 6 v l.length (cellsC l)
theorem OwnC.nil (w : World) (base : Nat) : OwnC w base (.slice none 0 0) [] := World.ownsRow_nil _ _ _ _
theorem OwnC.lt {w : World} {base : Nat} {v : Value} {l : List Ins} (h : OwnC w base v l) (k : Nat) (hk : v.ownBlock = some k) : base ≤ k ∧ k < w.heap.size := World.ownsRow.lt h k hk
theorem OwnC.heap {w w' : World} {base : Nat} {v : Value} {l : List Ins} (h : OwnC w base v l) (hk : ∀ a, v.ownBlock = some a → w'.heap[a]? = w.heap[a]?) : OwnC w' base v l := by
  refine ⟨h.1, ?_⟩
  rcases h.2 with h2 | ⟨g, cap, cur, hv, hb2, hg, r⟩
  · exact .inl h2
  · exact .inr ⟨g, cap, cur, hv, hb2, by rw [hk g (by rw [hv]; rfl)]; exact hg, r⟩
theorem OwnC.below {w w' : World} {base : Nat} {v : Value} {l : List Ins} (h : OwnC w base v l) (hb : Below w.heap.size w w') : OwnC w' base v l := h.heap fun a ha => hb.block a (h.lt a ha).2
theorem OwnC.mono {w : World} {base base' : Nat} {v : Value} {l : List Ins} (h : OwnC w base v l) (hb : base' ≤ base) : OwnC w base' v l := by
  refine ⟨h.1, ?_⟩
  rcases h.2 with h2 | ⟨g, cap, cur, hv, hb2, hg, r⟩
  · exact .inl h2
  · exact .inr ⟨g, cap, cur, hv, Nat.le_trans hb hb2, hg, r⟩
theorem OwnC.rd {w : World} {base : Nat} {v : Value} {l : List Ins} (h : OwnC w base v l) : RdC w v l := by
  rcases h.2 with ⟨rfl, h0⟩ | ⟨g, cap, cur, hv, hb, hg, hn, hm, hs, ht⟩
  · have : l = [] := List.eq_nil_of_length_eq_zero h0
    subst this
    exact RdC.nil w
  · refine ⟨some ⟨g, 0, none⟩, cap, hv, hn, hm, by simp, fun k hk => ⟨g, 0, rfl, fun j u hu => ?_⟩⟩
    have := h.cells (g := g) (by rw [hv]; rfl) (k * 6 + j) u (cellsC_get l k j hk u hu)
    rw [addr_add] at this
    rw [Nat.zero_add] at this ⊢
    exact this
theorem OwnC.shape {w : World} {base : Nat} {v : Value} {l : List Ins} (h : OwnC w base v l) : ∃ ao cap, v = .slice ao l.length cap := by
  rcases h.2 with ⟨rfl, e⟩ | ⟨g, cap, cur, rfl, _, hg, _⟩
  · exact ⟨none, 0, by rw [e]⟩
  · exact ⟨_, _, rfl⟩
/-- one more is laid behind them -/
theorem OwnC.append1 {w : World} {base : Nat} {v : Value} {l : List Ins} (h : OwnC w base v l) (x : Ins) (hl : l.length ≤ 1000000) (hb : base ≤ w.heap.size) (ty : TypeId) :
    ∃ v' w', (Builtin.append_ #[22, 22] ty #[v, .slice (some ⟨w.heap.size, 0, none⟩) 1 1]).run Tryd.prog (w.alloc (.cells #[.int .u8 (x.op : Int), .int .i64 x.a, .int .i64 x.b, .int .i64 x.c, .int .i64 x.n, .string x.s] 28)) = .ok v' w' ∧ OwnC w' base v' (l ++ [x]) ∧ Below base w w' := by
  obtain ⟨i0, hinf, hz0, hz1, hz2⟩ := info_parts Tryd.info28
  obtain ⟨v', w', hr, ho, hg', -⟩ := run_append_own (P := Tryd.prog) (w.alloc (.cells #[.int .u8 (x.op : Int), .int .i64 x.a, .int .i64 x.b, .int .i64 x.c, .int .i64 x.n, .string x.s] 28)) base 22 ty 28 i0 (.agg #[.int .u8 0, .int .i64 0, .int .i64 0, .int .i64 0, .int .i64 0, .string ⟨#[]⟩]) 6 56 Tryd.underlying22 hinf hz0 hz1 hz2 rfl (by decide) v l.length (cellsC l) (World.ownsRow.alloc h _)
    ⟨w.heap.size, 0, none⟩ 1 1 (insC x) rfl (fun j u hj => by
      rw [addr_add, Nat.zero_add, cell_of_row _ w.heap.size j _ 28 (0, 0) (heap_alloc_new w _)]
      rw [← hj]
      simp [insC]) (by intro u hu; simp [insC] at hu; rcases hu with rfl | rfl | rfl | rfl | rfl | rfl <;> rfl) (by unfold maxLen; omega) (by omega) (by simp; omega)
  refine ⟨v', w', hr, ?_, ?_⟩
  · unfold OwnC
    rw [cellsC_append, List.length_append]
    have : cellsC [x] = insC x := by simp [cellsC]
    rw [this]
    exact ho
  · exact ((Below.refl base w).alloc hb _).grown hg' (by simp; omega) (fun k hk => (h.lt k hk).1)

set_option maxRecDepth 100000 in
set_option maxHeartbeats 800000 in
theorem pick_any (x : Int) (n : Nat) (w : World) (hn : 0 < n) (hn1 : n ≤ 1000000) :
    Calls Tryd.prog 22 #[.int .i64 x, .int .i64 n] w fun e w' => e = .returned (.int .i64 ((x % (n : Int)).toNat : Nat)) ∧ w' = w := by
  have h0 : ¬ ((n : Int) ≤ 0) := by omega
  have h00 : ¬ ((n : Int) < 1) := by omega
  have h0' : ((n : Int) == 0) = false := by simp only [beq_eq_false_iff_ne]; omega
  have hm0 : 0 ≤ x % (n : Int) := Int.emod_nonneg _ (by omega)
  have hm1 : x % (n : Int) < n := Int.emod_lt_of_pos _ (by omega)
  have htm : (0 ≤ x.tmod n ∧ x.tmod n = x % n) ∨ (x.tmod n < 0 ∧ x.tmod n + n = x % n) := by
    rw [Int.tmod_eq_emod]
    split
    · left; omega
    · right; simp; omega
  have hR : (((x % (n : Int)).toNat : Nat) : Int) = x % n := by omega
  rw [hR]
  obtain ⟨r, HR⟩ := named (x % (n : Int))
  rw [← HR.out] at hm0 hm1 htm ⊢
  clear hR
  rcases htm with ⟨h1, h2⟩ | ⟨h1, h2⟩
  · have H2 : Hid _ := h2
    have h1' : ¬ x.tmod n < 0 := by omega
    clear h2 h1
    go_enter Tryd.func22, Tryd.ntmps22
    go_wp2
    go_ret
    exact ⟨ret_int H2.out, rfl⟩
  · have H2 : Hid _ := h2
    have h3 : 0 ≤ x.tmod n + n := by omega
    have h4 : x.tmod n + n < 1000000 := by omega
    have h5 : ¬ x.tmod n + n < 0 := by omega
    clear h2
    go_enter Tryd.func22, Tryd.ntmps22
    go_wp2
    go_ret
    exact ⟨ret_int H2.out, rfl⟩

set_option maxRecDepth 100000 in
set_option maxHeartbeats 1600000 in
theorem copyInstrs_any {w : World} {u : Value} {l : List Ins} (hu : RdC w u l) (hl : l.length ≤ 1000000) :
    Calls Tryd.prog 23 #[u] w fun e w' => ∃ v, e = .returned v ∧ OwnC w' w.heap.size v l ∧ Below w.heap.size w w' := by
  obtain ⟨ao, cap, rfl, -⟩ := hu.shape
  have HU := hide hu
  obtain ⟨n, HN⟩ := named l.length
  rw [← HN.out] at HU hl ⊢
  clear hu
  go_enter Tryd.func23, Tryd.ntmps23
  go_wp2
  go_loopw [3, 4] (fun v i wr => ∃ k : Nat, k ≤ n ∧ i = .int .i64 k ∧ Hid (OwnC wr w.heap.size v (l.take k)) ∧ Hid (Below w.heap.size w wr)) (fun _ i _ => n - (intOf i).toNat)
  case atStart => exact ⟨0, Nat.zero_le _, rfl, OwnC.nil _ _, Below.refl _ _⟩
  case round =>
    obtain ⟨k, hk, rfl, HO, HB⟩ := hrel
    by_cases hlt : k < n
    · obtain ⟨b, off, hab, -, a0, a1, a2, a3, a4, a5⟩ := (HU.out.below HB.out).at k (by rw [← HN.out]; exact hlt)
      subst hab
      obtain ⟨x, HX⟩ := named (l[k]'(by rw [← HN.out]; exact hlt))
      rw [← HX.out] at a0 a1 a2 a3 a4 a5
      have hsz := HB.out.size
      obtain ⟨v', w', hr, ho, hb⟩ := HO.out.append1 x (by have := List.length_take_le k l; omega) hsz 22
      have HO2 : Hid (OwnC w' w.heap.size v' (l.take (k + 1))) := by
        show OwnC _ _ _ _
        rw [List.take_succ_eq_append_getElem (by rw [← HN.out]; exact hlt), ← HX.out]
        exact ho
      have HB2 := hide (HB.out.trans hb)
      obtain ⟨vo, vc, hvo⟩ := HO.out.shape
      rw [hvo] at hr
      rw [hvo]
      clear ho hb
      go_wp2_with (at_builtin; go_must (refine Lib.wpList_append_run _ rfl _ _ _ _ rfl _ _ rfl rfl _ _ hr ?_))
      go_roundw
      case rel => exact ⟨k + 1, hlt, by go_num, HO2, HB2⟩
      case measure => simp [intOf]; omega
    · have hkn : k = n := by omega
      subst hkn
      go_wp2
      go_ret
      refine ⟨_, rfl, ?_, HB.out⟩
      have := HO.out
      rw [List.take_of_length_le (by rw [← HN.out]; exact Nat.le_refl _)] at this
      exact this
end Go.Proofs.YtpiiehenmkinaaaDoor

/-
  Great, Same. Own work.
-/
namespace Go.Proofs.YtpiiehenmkinaaaDoor
open Go.RowKit

def sameP (p q : Prg) : Bool := decide (p.name = q.name) && (decide (p.regs = q.regs) && decide (p.code = q.code))
theorem sameP_eq (p q : Prg) : sameP p q = true ↔ p = q := by
  cases p; cases q
  unfold sameP
  simp
theorem str_ne {a b : ByteArray} (h : a ≠ b) : (a.toList == b.toList) = false := by
  rw [beq_eq_false_iff_ne, ByteArray.toList_eq, ByteArray.toList_eq]
  exact fun e => h (ByteArray.ext (Array.toList_inj.1 e))
theorem str_eq (a : ByteArray) : (a.toList == a.toList) = true := by simp

def GreatR (p : Prg) (v : Value) : Prop := ∃ g, v = .bool g ∧ (g = false → p.code.length ≤ 600 ∧ p.name.size ≤ 3000)
set_option maxRecDepth 100000 in
set_option maxHeartbeats 1600000 in
theorem great_any (p : Prg) (cv : Value) (w : World) (hc : RdC w cv p.code) : Calls Tryd.prog 8 #[prgV p cv] w fun e w' => ∃ v, e = .returned v ∧ GreatR p v ∧ Below w.heap.size w w' := by
  obtain ⟨name, regs, code⟩ := p
  obtain ⟨ao, cap, rfl, hlen⟩ := hc.shape
  simp only at hc hlen ⊢
  show Calls Tryd.prog 8 #[.agg #[.string name, .int .i64 regs, .slice ao code.length cap]] w _
  have hbW : Below w.heap.size w (w.alloc (.cells #[.string name, .int .i64 regs, .slice ao code.length cap] 24)) := (Below.refl _ _).alloc (Nat.le_refl _) _
  have HC := hide (hc.below hbW)
  have HB := hide hbW
  obtain ⟨n, HN⟩ := named code.length
  rw [← HN.out] at HC HB hlen ⊢
  clear hc hbW
  by_cases h1 : n ≤ 600
  · have h1' : ¬ (600 : Int) < n := by omega
    by_cases h2 : name.size ≤ 3000
    · have h2' : ¬ (3000 : Int) < (name.size : Int) := by omega
      go_enter Tryd.func8, Tryd.ntmps8
      go_wp2
      go_loop [3, 18] (fun nv i => ∃ (k : Nat) (z : Int), k ≤ n ∧ i = .int .i64 k ∧ nv = .int .i64 z) (fun _ i => n - (intOf i).toNat)
      case atStart => exact ⟨0, 0, Nat.zero_le _, rfl, rfl⟩
      case round =>
        obtain ⟨k, z, hk, rfl, rfl⟩ := hrel
        by_cases hlt : k < n
        · obtain ⟨b, off, hab, -, a0, a1, a2, a3, a4, a5⟩ := HC.out.at k (by rw [← HN.out]; exact hlt)
          subst hab
          have hkI : (k : Int) < (n : Int) := by omega
          obtain ⟨x, HX⟩ := named (code[k]'(by rw [← HN.out]; exact hlt))
          rw [← HX.out] at a5
          clear a0 a1 a2 a3 a4
          go_wp2
          go_round
          case rel => exact ⟨k + 1, _, hlt, by go_num, rfl⟩
          case measure => simp [intOf]; omega
        · have hkn : k = n := by omega
          subst hkn
          go_wp2
          go_ret
          exact ⟨_, rfl, ⟨_, rfl, fun _ => ⟨by rw [HN.out] at h1; exact h1, h2⟩⟩, HB.out⟩
    · have h2' : (3000 : Int) < (name.size : Int) := by omega
      go_enter Tryd.func8, Tryd.ntmps8
      go_wp2
      go_ret
      exact ⟨_, rfl, ⟨true, rfl, fun h => by cases h⟩, HB.out⟩
  · have h1' : (600 : Int) < n := by omega
    go_enter Tryd.func8, Tryd.ntmps8
    go_wp2
    go_ret
    exact ⟨_, rfl, ⟨true, rfl, fun h => by cases h⟩, HB.out⟩

set_option maxRecDepth 100000 in
set_option maxHeartbeats 1600000 in
theorem sameP_any (p q : Prg) (cv dv : Value) (w : World) (hc : RdC w cv p.code) (hd : RdC w dv q.code) : Calls Tryd.prog 17 #[prgV p cv, prgV q dv] w fun e w' => e = .returned (.bool (sameP p q)) ∧ Below w.heap.size w w' := by
  obtain ⟨name, regs, code⟩ := p
  obtain ⟨name', regs', code'⟩ := q
  obtain ⟨ao, cap, rfl, -⟩ := hc.shape
  obtain ⟨bo, dap, rfl, -⟩ := hd.shape
  simp only at hc hd ⊢
  show Calls Tryd.prog 17 #[.agg #[.string name, .int .i64 regs, .slice ao code.length cap], .agg #[.string name', .int .i64 regs', .slice bo code'.length dap]] w _
  have hbW : Below w.heap.size w ((w.alloc (.cells #[.string name, .int .i64 regs, .slice ao code.length cap] 24)).alloc (.cells #[.string name', .int .i64 regs', .slice bo code'.length dap] 24)) := ((Below.refl _ _).alloc (Nat.le_refl _) _).alloc (by simp) _
  have HC := hide (hc.below hbW)
  have HD := hide (hd.below hbW)
  have HB := hide hbW
  clear hc hd hbW
  by_cases h1 : name = name'
  · subst h1
    have he := str_eq name
    by_cases h2 : regs = regs'
    · subst h2
      go_enter Tryd.func17, Tryd.ntmps17
      go_wp2_with fail
      refine (sameInstrs_any HC.out HD.out).mono ?_
      rintro e w2 ⟨rfl, hb2⟩
      go_wp2
      go_ret
      refine ⟨ret_bool ?_, below_call HB.out hb2⟩
      unfold sameP
      simp
    · have h2' : (regs == regs') = false := beq_eq_false_iff_ne.2 h2
      go_enter Tryd.func17, Tryd.ntmps17
      go_wp2
      go_ret
      refine ⟨ret_bool ?_, HB.out⟩
      unfold sameP
      simp [h2]
  · have he := str_ne h1
    go_enter Tryd.func17, Tryd.ntmps17
    go_wp2
    go_ret
    refine ⟨ret_bool ?_, HB.out⟩
    unfold sameP
    simp [h1]
end Go.Proofs.YtpiiehenmkinaaaDoor

/-
  awake: the chapter's examples come out as written. Own work.
-/
namespace Go.Proofs.YtpiiehenmkinaaaDoor
open Go.RowKit

theorem show1 : showB ⟨3, 2, 0, 1, 0, ⟨#[]⟩⟩ = ⟨#[97, 100, 100, 32, 50, 32, 48, 32, 49, 32, 48]⟩ := by decide +kernel
theorem show2 : showB ⟨10, 1, 0, 2, 0, ⟨#[112, 97, 121]⟩⟩ = ⟨#[97, 99, 116, 32, 49, 32, 48, 32, 50, 32, 48, 32, 112, 97, 121]⟩ := by decide +kernel
/-- three cells of a block that may be written -/
def C3 (w : World) (g : Nat) (a b c : Value) : Prop := g < w.heap.size ∧ w.cell? ⟨g, 0, none⟩ = some a ∧ w.cell? ⟨g, 1, none⟩ = some b ∧ w.cell? ⟨g, 2, none⟩ = some c ∧ w.frozen? ⟨g, 0, none⟩ = false ∧ w.frozen? ⟨g, 1, none⟩ = false ∧ w.frozen? ⟨g, 2, none⟩ = false
theorem C3.of {w : World} {g : Nat} {a b c : Value} {t : TypeId} (h : w.heap[g]? = some (.cells #[a, b, c] t (0, 0))) : C3 w g a b c :=
  ⟨(Array.getElem?_eq_some_iff.1 h).1, by simp [World.cell?, h], by simp [World.cell?, h], by simp [World.cell?, h], by simp [World.frozen?, h], by simp [World.frozen?, h], by simp [World.frozen?, h]⟩
theorem C3.new (w : World) (a b c : Value) (t : TypeId) : C3 (w.alloc (.cells #[a, b, c] t)) w.heap.size a b c := C3.of (heap_alloc_new w _)
theorem C3.below {w w' : World} {g : Nat} {a b c : Value} (h : C3 w g a b c) (hb : Below w.heap.size w w') : C3 w' g a b c := by
  obtain ⟨h0, h1, h2, h3, h4, h5, h6⟩ := h
  exact ⟨Nat.lt_of_lt_of_le h0 hb.size, (hb.cell (p := ⟨g, 0, none⟩) h0).trans h1, (hb.cell (p := ⟨g, 1, none⟩) h0).trans h2, (hb.cell (p := ⟨g, 2, none⟩) h0).trans h3, (hb.frozen (p := ⟨g, 0, none⟩) h0).trans h4, (hb.frozen (p := ⟨g, 1, none⟩) h0).trans h5, (hb.frozen (p := ⟨g, 2, none⟩) h0).trans h6⟩
theorem C3.alloc {w : World} {g : Nat} {a b c : Value} (h : C3 w g a b c) (o : Obj) : C3 (w.alloc o) g a b c := h.below ((Below.refl _ _).alloc (Nat.le_refl _) _)

def set3 (w : World) (g : Nat) (a b c : Value) : World := ((w.setCell ⟨g, 0, none⟩ a).setCell ⟨g, 1, none⟩ b).setCell ⟨g, 2, none⟩ c
theorem set3_size (w : World) (g : Nat) (a b c : Value) : (set3 w g a b c).heap.size = w.heap.size := by simp [set3, World.setCell]
theorem below_set3 {B g : Nat} {w w' : World} (h : Below B w w') (a b c : Value) (hg : B ≤ g) : Below B w (set3 w' g a b c) := ((h.setCell hg _).setCell hg _).setCell hg _
theorem cell_other (w : World) (g o g' o' : Nat) (x : Value) (h : g ≠ g' ∨ o ≠ o') : (w.setCell ⟨g', o', none⟩ x).cell? ⟨g, o, none⟩ = w.cell? ⟨g, o, none⟩ :=
  World.cell?_setCell_other w _ _ x (fun e => by cases e; rcases h with h | h <;> exact h rfl)
theorem C3.other {w : World} {g g' : Nat} {a b c : Value} (x y z : Value) (h : C3 w g a b c) (hg : g ≠ g') : C3 (set3 w g' x y z) g a b c := by
  obtain ⟨h0, h1, h2, h3, h4, h5, h6⟩ := h
  have e : ∀ o, (set3 w g' x y z).cell? ⟨g, o, none⟩ = w.cell? ⟨g, o, none⟩ := fun o => by
    unfold set3
    rw [cell_other _ _ _ _ _ _ (.inl hg), cell_other _ _ _ _ _ _ (.inl hg), cell_other _ _ _ _ _ _ (.inl hg)]
  have f : ∀ o, (set3 w g' x y z).frozen? ⟨g, o, none⟩ = w.frozen? ⟨g, o, none⟩ := fun o => by simp [set3]
  exact ⟨by rw [set3_size]; exact h0, (e 0).trans h1, (e 1).trans h2, (e 2).trans h3, (f 0).trans h4, (f 1).trans h5, (f 2).trans h6⟩
theorem C3.set {w : World} {g : Nat} {a b c : Value} (x y z : Value) (h : C3 w g a b c) : C3 (set3 w g x y z) g x y z := by
  obtain ⟨h0, h1, h2, h3, h4, h5, h6⟩ := h
  have f : ∀ o, (set3 w g x y z).frozen? ⟨g, o, none⟩ = w.frozen? ⟨g, o, none⟩ := fun o => by simp [set3]
  refine ⟨by rw [set3_size]; exact h0, ?_, ?_, ?_, (f 0).trans h4, (f 1).trans h5, (f 2).trans h6⟩
  · unfold set3
    rw [cell_other _ _ _ _ _ _ (.inr (by omega)), cell_other _ _ _ _ _ _ (.inr (by omega))]
    exact World.cell?_setCell_same _ _ _ h1
  · unfold set3
    rw [cell_other _ _ _ _ _ _ (.inr (by omega))]
    exact World.cell?_setCell_same _ _ _ ((cell_other _ _ _ _ _ _ (.inr (by omega))).trans h2)
  · unfold set3
    exact World.cell?_setCell_same _ _ _ ((cell_other _ _ _ _ _ _ (.inr (by omega))).trans ((cell_other _ _ _ _ _ _ (.inr (by omega))).trans h3))
theorem C3.one {w : World} {g g' o : Nat} {a b c : Value} (x : Value) (h : C3 w g a b c) (hg : g ≠ g') : C3 (w.setCell ⟨g', o, none⟩ x) g a b c := by
  obtain ⟨h0, h1, h2, h3, h4, h5, h6⟩ := h
  exact ⟨by simpa [World.setCell] using h0, (cell_other _ _ _ _ _ _ (.inl hg)).trans h1, (cell_other _ _ _ _ _ _ (.inl hg)).trans h2, (cell_other _ _ _ _ _ _ (.inl hg)).trans h3, by simpa using h4, by simpa using h5, by simpa using h6⟩
theorem C3.third {w : World} {g : Nat} {a b c : Value} (x : Value) (h : C3 w g a b c) : C3 (w.setCell ⟨g, 2, none⟩ x) g a b x := by
  obtain ⟨h0, h1, h2, h3, h4, h5, h6⟩ := h
  exact ⟨by simpa [World.setCell] using h0, (cell_other _ _ _ _ _ _ (.inr (by omega))).trans h1, (cell_other _ _ _ _ _ _ (.inr (by omega))).trans h2, World.cell?_setCell_same _ _ _ h3, by simpa using h4, by simpa using h5, by simpa using h6⟩
theorem RdC.far {w : World} {g off n cap b o : Nat} {l : List Ins} (u : Value) (h : RdC w (.slice (some ⟨g, off, none⟩) n cap) l) (hg : g ≠ b) : RdC (w.setCell ⟨b, o, none⟩ u) (.slice (some ⟨g, off, none⟩) n cap) l := by
  obtain ⟨ao, c, hv, h1, h2, h3, h4⟩ := h
  refine ⟨ao, c, hv, h1, h2, h3, fun k hk => ?_⟩
  obtain ⟨b', off', e, hc⟩ := h4 k hk
  subst e
  cases hv
  exact ⟨_, _, rfl, fun j x hx => (cell_other _ _ _ _ _ _ (.inl hg)).trans (hc j x hx)⟩
theorem RdC.one (w : World) (i : Ins) : RdC (w.alloc (.cells #[.int .u8 (i.op : Int), .int .i64 i.a, .int .i64 i.b, .int .i64 i.c, .int .i64 i.n, .string i.s] 28)) (.slice (some ⟨w.heap.size, 0, none⟩) 1 1) [i] := by
  refine ⟨_, 1, rfl, Nat.le_refl _, by decide, by simp, fun k hk => ⟨_, _, rfl, fun j u hu => ?_⟩⟩
  have h0 : k = 0 := by simpa using hk
  subst h0
  rw [show 0 + 0 * 6 + j = j by omega, cell_of_row _ w.heap.size j _ 28 (0, 0) (heap_alloc_new w _)]
  rw [← hu]
  simp [insC]
def oneI (o : Nat) : Ins := ⟨o, 0, 0, 0, 0, ⟨#[]⟩⟩
theorem oneI_wf (o : Nat) (h : o < 256) : ∀ i ∈ [oneI o], i.wf := by
  intro i hi
  rw [List.mem_singleton.1 hi]
  exact ⟨h, by unfold IR oneI; simp, by unfold IR oneI; simp, by unfold IR oneI; simp, by unfold IR oneI; simp, by show (⟨#[]⟩ : ByteArray).size ≤ maxLen; decide⟩
theorem wf_small (op : Nat) (a b c n : Int) (s : ByteArray) (h : op < 256) (ha : 0 ≤ a ∧ a ≤ 100) (hb : 0 ≤ b ∧ b ≤ 100) (hc : 0 ≤ c ∧ c ≤ 100) (hn : 0 ≤ n ∧ n ≤ 100) (hs : s.size ≤ 100) : (⟨op, a, b, c, n, s⟩ : Ins).wf :=
  ⟨h, by unfold IR; simp only; omega, by unfold IR; simp only; omega, by unfold IR; simp only; omega, by unfold IR; simp only; omega, by unfold maxLen; simp only; omega⟩
theorem err15 : errP ⟨⟨#[112]⟩, 1, [oneI 15]⟩ 0 = 0 := by decide +kernel
theorem err1 : errP ⟨⟨#[112]⟩, 1, [oneI 1]⟩ 0 = 100 := by decide +kernel
theorem err8 : errP ⟨⟨#[112]⟩, 1, [oneI 8]⟩ 0 = 0 := by decide +kernel
set_option maxRecDepth 100000 in
set_option maxHeartbeats 3200000 in
theorem awake_true (w : World) (hl : Laid w) : Calls Tryd.prog 9 #[] w fun e w' => e = .returned (.bool true) ∧ Below w.heap.size w w' := by
  obtain ⟨pb, HPB⟩ := named (w.heap.size + 1)
  obtain ⟨W, HW⟩ := named ((w.alloc (.cells #[.int .u8 15, .int .i64 0, .int .i64 0, .int .i64 0, .int .i64 0, .string ⟨#[]⟩] 28)).alloc (.cells #[.string ⟨#[112]⟩, .int .i64 1, .slice (some ⟨w.heap.size, 0, none⟩) 1 1] 24))
  have hc : C3 W pb (.string ⟨#[112]⟩) (.int .i64 1) (.slice (some ⟨w.heap.size, 0, none⟩) 1 1) := by
    rw [HW.out, HPB.out]
    have := C3.new (w.alloc (.cells #[.int .u8 15, .int .i64 0, .int .i64 0, .int .i64 0, .int .i64 0, .string ⟨#[]⟩] 28)) (.string ⟨#[112]⟩) (.int .i64 1) (.slice (some ⟨w.heap.size, 0, none⟩) 1 1) 24
    simpa using this
  have HCP := hide hc
  have hwW : Below w.heap.size w W := by rw [HW.out]; exact ((Below.refl _ _).alloc (Nat.le_refl _) _).alloc (by simp) _
  have hrp : RdC W (.slice (some ⟨w.heap.size, 0, none⟩) 1 1) [oneI 15] := by rw [HW.out]; exact (RdC.one w (oneI 15)).alloc _
  have hzW : W.heap.size = w.heap.size + 2 := by rw [HW.out]; simp
  have HPW := hide (show pb < W.heap.size from hc.1)
  have hs0 : W.drew.cell? ⟨pb, 0, none⟩ = some (.string ⟨#[112]⟩) ∧ W.drew.cell? ⟨pb, 1, none⟩ = some (.int .i64 1) ∧ W.drew.cell? ⟨pb, 2, none⟩ = some (.slice (some ⟨w.heap.size, 0, none⟩) 1 1) := ⟨hc.2.1, hc.2.2.1, hc.2.2.2.1⟩
  obtain ⟨V1, HV1⟩ := named ((W.alloc (.cells #[.string ⟨#[]⟩, .int .i64 0, .slice none 0 0] 24)).drew)
  obtain ⟨V2, HV2⟩ := named (V1.alloc (.cells #[.string ⟨#[]⟩, .int .i64 0, .slice none 0 0] 24))
  have bV1 : Below W.heap.size W V1 := by rw [HV1.out]; exact ((Below.refl _ _).alloc (Nat.le_refl _) _).drew
  have bV2 : Below V1.heap.size V1 V2 := by rw [HV2.out]; exact (Below.refl _ _).alloc (Nat.le_refl _) _
  have zV1 : V1.heap.size = W.heap.size + 1 := by rw [HV1.out]; simp
  have zV2 : V2.heap.size = W.heap.size + 2 := by rw [HV2.out]; simp [zV1]
  have cA1 : C3 V1 W.heap.size (.string ⟨#[]⟩) (.int .i64 0) (.slice none 0 0) := by rw [HV1.out]; exact C3.new _ _ _ _ _
  have cB2 : C3 V2 V1.heap.size (.string ⟨#[]⟩) (.int .i64 0) (.slice none 0 0) := by rw [HV2.out]; exact C3.new _ _ _ _ _
  have cA2 := cA1.below bV2
  have HP1 := hide (hc.below bV1)
  have HP2 := hide (HP1.out.below bV2)
  have HS1 := hide (show V1.cell? ⟨pb, 0, none⟩ = some (.string ⟨#[112]⟩) ∧ V1.cell? ⟨pb, 1, none⟩ = some (.int .i64 1) ∧ V1.cell? ⟨pb, 2, none⟩ = some (.slice (some ⟨w.heap.size, 0, none⟩) 1 1) from ⟨HP1.out.2.1, HP1.out.2.2.1, HP1.out.2.2.2.1⟩)
  have HS2 := hide (show V2.cell? ⟨pb, 0, none⟩ = some (.string ⟨#[112]⟩) ∧ V2.cell? ⟨pb, 1, none⟩ = some (.int .i64 1) ∧ V2.cell? ⟨pb, 2, none⟩ = some (.slice (some ⟨w.heap.size, 0, none⟩) 1 1) from ⟨HP2.out.2.1, HP2.out.2.2.1, HP2.out.2.2.2.1⟩)
  obtain ⟨lA, a0, a1, a2, f0, f1, f2⟩ := id cA2
  obtain ⟨lB, b0, b1, b2, e0, e1, e2⟩ := id cB2
  have hB2z : C3 V2 (W.heap.size + 1) (.string ⟨#[]⟩) (.int .i64 0) (.slice none 0 0) := by rw [← zV1]; exact cB2
  rw [zV1] at b0 b1 b2 e0 e1 e2
  have HBV := hide (below_call (below_call hwW bV1) bV2)
  have HRP := hide ((hrp.below bV1).below bV2)
  have HZW := hide hzW
  have HZ2 := hide zV2
  have HA2 := hide cA2
  have HB2 := hide hB2z
  clear hc cA1 cA2 cB2 hB2z hwW hrp hzW zV2 bV1 bV2 lA lB
  go_enter Tryd.func9, Tryd.ntmps9
  go_wp2_with fail
  rw [← HW.out, ← HPB.out]
  refine wp_region_held_drew (S := (fun u => u.cell? ⟨pb, 0, none⟩ = some (.string ⟨#[112]⟩) ∧ u.cell? ⟨pb, 1, none⟩ = some (.int .i64 1) ∧ u.cell? ⟨pb, 2, none⟩ = some (.slice (some ⟨w.heap.size, 0, none⟩) 1 1))) (by kernel_rfl) hs0 (fun _ => ?_)
  refine wpAnyH_take (i := 0) (oi := { dst := some 7, op := Go.Op.load 24 (Go.Operand.tmp 1), type := 24, pos := "law.go:15", after := #[], guard := none }) (v := ?_) rfl (by kernel_rfl) (by kernel_rfl) (by kernel_rfl) (fun _ _ _ h => h) (Or.inl ⟨by rfl, ?hy1⟩) hs0 ?_
  case hy1 =>
    intro u hu
    obtain ⟨u0, u1, u2⟩ := hu
    go_simp
    try with_reducible rfl
  simp only [Act.put, List.setIfInBounds_toArray, List.set_cons_zero, List.set_cons_succ]
  refine wpAnyH_take (i := 1) (oi := { dst := some 8, op := Go.Op.load 24 (Go.Operand.tmp 1), type := 24, pos := "law.go:15", after := #[{ on := 4, ground := Go.Ground.gcOnly Go.Departure.lateStores }], guard := none }) (v := ?_) rfl (by kernel_rfl) (by kernel_rfl) (by kernel_rfl) (fun _ _ _ h => h) (Or.inl ⟨by rfl, ?hy2⟩) hs0 ?_
  case hy2 =>
    intro u hu
    obtain ⟨u0, u1, u2⟩ := hu
    go_simp
    try with_reducible rfl
  simp only [Act.put, List.setIfInBounds_toArray, List.set_cons_zero, List.set_cons_succ]
  refine wpAnyH_ready (rs := [2, 3]) (by kernel_rfl) (by simp) ?_
  refine AllReadyH.cons (o := { dst := some 2, op := Go.Op.alloc 24, type := 0, pos := "law.go:15", after := #[], guard := none }) rfl (fun K hK => ?b3_2) (AllReadyH.cons (o := { dst := some 3, op := Go.Op.alloc 24, type := 0, pos := "law.go:15", after := #[], guard := none }) rfl (fun K hK => ?b3_3) AllReadyH.nil)
  case' b3_2 =>
    go_simp
    rw [← HV1.out]
    refine hK.out _ _ HS1.out (fun _ => ?_)
    clear hK K
    try simp only [Act.put, List.setIfInBounds_toArray, List.set_cons_zero, List.set_cons_succ]
    refine wpAnyH_ready (rs := [3]) (by kernel_rfl) (by simp) ?_
    refine AllReadyH.cons (o := { dst := some 3, op := Go.Op.alloc 24, type := 0, pos := "law.go:15", after := #[], guard := none }) rfl (fun K hK => ?_) AllReadyH.nil
    go_simp
    rw [← HV2.out]
    refine hK.out _ _ HS2.out (fun _ => ?_)
    clear hK K
    try simp only [Act.put, List.setIfInBounds_toArray, List.set_cons_zero, List.set_cons_succ]
    refine wpAnyH_ready (rs := [4]) (by kernel_rfl) (by simp) ?_
    refine AllReadyH.cons (o := { dst := none, op := Go.Op.store 24 (Go.Operand.tmp 2) (Go.Operand.tmp 7), type := 0, pos := "law.go:15", after := #[{ on := 2, ground := Go.Ground.data }, { on := 0, ground := Go.Ground.data }, { on := 0, ground := Go.Ground.phase }, { on := 1, ground := Go.Ground.textOnly Go.Departure.lateStores }, { on := 2, ground := Go.Ground.phase }, { on := 3, ground := Go.Ground.phase }], guard := none }) rfl (fun K hK => ?_) AllReadyH.nil
    go_simp
    obtain ⟨V3, HV3⟩ := named (set3 V2 (W.heap.size) (.string ⟨#[112]⟩) (.int .i64 1) (.slice (some ⟨w.heap.size, 0, none⟩) 1 1))
    show K _ (set3 V2 (W.heap.size) (.string ⟨#[112]⟩) (.int .i64 1) (.slice (some ⟨w.heap.size, 0, none⟩) 1 1))
    rw [← HV3.out]
    have HQ3 := hide (show C3 V3 (W.heap.size) (.string ⟨#[112]⟩) (.int .i64 1) (.slice (some ⟨w.heap.size, 0, none⟩) 1 1) by rw [HV3.out]; exact HA2.out.set _ _ _)
    have HR3 := hide (show C3 V3 (W.heap.size + 1) (.string ⟨#[]⟩) (.int .i64 0) (.slice none 0 0) by rw [HV3.out]; exact HB2.out.other _ _ _ (by omega))
    have HP3 := hide (show C3 V3 pb (.string ⟨#[112]⟩) (.int .i64 1) (.slice (some ⟨w.heap.size, 0, none⟩) 1 1) by rw [HV3.out]; exact HP2.out.other _ _ _ (by have := HPW.out; omega))
    have HBV3 := hide (show Below w.heap.size w V3 by rw [HV3.out]; exact below_set3 HBV.out _ _ _ (by have := HZW.out; omega))
    have HRP3 := hide (show RdC V3 (.slice (some ⟨w.heap.size, 0, none⟩) 1 1) [oneI 15] by rw [HV3.out]; exact ((HRP.out.far _ (by have := HZW.out; omega)).far _ (by have := HZW.out; omega)).far _ (by have := HZW.out; omega))
    have hz3 : V3.heap.size = W.heap.size + 2 := by rw [HV3.out, set3_size]; exact HZ2.out
    have hs3 : V3.cell? ⟨pb, 0, none⟩ = some (.string ⟨#[112]⟩) ∧ V3.cell? ⟨pb, 1, none⟩ = some (.int .i64 1) ∧ V3.cell? ⟨pb, 2, none⟩ = some (.slice (some ⟨w.heap.size, 0, none⟩) 1 1) := ⟨HP3.out.2.1, HP3.out.2.2.1, HP3.out.2.2.2.1⟩
    obtain ⟨-, k0, k1, k2, m0, m1, m2⟩ := id HR3.out
    refine hK.out _ _ hs3 (fun _ => ?_)
    clear hK K
    try simp only [Act.put, List.setIfInBounds_toArray, List.set_cons_zero, List.set_cons_succ]
    refine wpAnyH_ready (rs := [5]) (by kernel_rfl) (by simp) ?_
    refine AllReadyH.cons (o := { dst := none, op := Go.Op.store 24 (Go.Operand.tmp 3) (Go.Operand.tmp 8), type := 0, pos := "law.go:15", after := #[{ on := 3, ground := Go.Ground.data }, { on := 1, ground := Go.Ground.data }, { on := 4, ground := Go.Ground.chain }, { on := 0, ground := Go.Ground.phase }, { on := 1, ground := Go.Ground.phase }, { on := 2, ground := Go.Ground.phase }, { on := 3, ground := Go.Ground.phase }, { on := 4, ground := Go.Ground.phase }], guard := none }) rfl (fun K hK => ?_) AllReadyH.nil
    go_simp
    obtain ⟨V4, HV4⟩ := named (set3 V3 (W.heap.size + 1) (.string ⟨#[112]⟩) (.int .i64 1) (.slice (some ⟨w.heap.size, 0, none⟩) 1 1))
    show K _ (set3 V3 (W.heap.size + 1) (.string ⟨#[112]⟩) (.int .i64 1) (.slice (some ⟨w.heap.size, 0, none⟩) 1 1))
    rw [← HV4.out]
    have HQ4 := hide (show C3 V4 (W.heap.size) (.string ⟨#[112]⟩) (.int .i64 1) (.slice (some ⟨w.heap.size, 0, none⟩) 1 1) by rw [HV4.out]; exact HQ3.out.other _ _ _ (by omega))
    have HR4 := hide (show C3 V4 (W.heap.size + 1) (.string ⟨#[112]⟩) (.int .i64 1) (.slice (some ⟨w.heap.size, 0, none⟩) 1 1) by rw [HV4.out]; exact HR3.out.set _ _ _)
    have HP4 := hide (show C3 V4 pb (.string ⟨#[112]⟩) (.int .i64 1) (.slice (some ⟨w.heap.size, 0, none⟩) 1 1) by rw [HV4.out]; exact HP3.out.other _ _ _ (by have := HPW.out; omega))
    have HBV4 := hide (show Below w.heap.size w V4 by rw [HV4.out]; exact below_set3 HBV3.out _ _ _ (by have := HZW.out; omega))
    have HRP4 := hide (show RdC V4 (.slice (some ⟨w.heap.size, 0, none⟩) 1 1) [oneI 15] by rw [HV4.out]; exact ((HRP3.out.far _ (by have := HZW.out; omega)).far _ (by have := HZW.out; omega)).far _ (by have := HZW.out; omega))
    have hz4 : V4.heap.size = W.heap.size + 2 := by rw [HV4.out, set3_size]; exact hz3
    have hs4 : V4.cell? ⟨pb, 0, none⟩ = some (.string ⟨#[112]⟩) ∧ V4.cell? ⟨pb, 1, none⟩ = some (.int .i64 1) ∧ V4.cell? ⟨pb, 2, none⟩ = some (.slice (some ⟨w.heap.size, 0, none⟩) 1 1) := ⟨HP4.out.2.1, HP4.out.2.2.1, HP4.out.2.2.2.1⟩
    refine hK.out _ _ hs4 (fun _ => ?_)
    clear hK K
    try simp only [Act.put, List.setIfInBounds_toArray, List.set_cons_zero, List.set_cons_succ]
    refine wpAnyH_done (by kernel_rfl) ?_ _
    clear hs0 a0 a1 a2 f0 f1 f2 b0 b1 b2 e0 e1 e2 k0 k1 k2 m0 m1 m2 hs3 hs4 hz3
    have hq1 := HQ4.out.alloc (.cells #[.int .u8 1, .int .i64 0, .int .i64 0, .int .i64 0, .int .i64 0, .string ⟨#[]⟩] 28)
    have hp1 := HP4.out.alloc (.cells #[.int .u8 1, .int .i64 0, .int .i64 0, .int .i64 0, .int .i64 0, .string ⟨#[]⟩] 28)
    have hr1 := HR4.out.alloc (.cells #[.int .u8 1, .int .i64 0, .int .i64 0, .int .i64 0, .int .i64 0, .string ⟨#[]⟩] 28)
    have hb1 := HBV4.out.alloc HBV4.out.size (.cells #[.int .u8 1, .int .i64 0, .int .i64 0, .int .i64 0, .int .i64 0, .string ⟨#[]⟩] 28)
    have hcp1 := HRP4.out.alloc (.cells #[.int .u8 1, .int .i64 0, .int .i64 0, .int .i64 0, .int .i64 0, .string ⟨#[]⟩] 28)
    have hcq1 := RdC.one V4 (oneI 1)
    have hq2 := hq1.third (.slice (some ⟨V4.heap.size, 0, none⟩) 1 1)
    have hp2 := hp1.one (o := 2) (g' := W.heap.size) (.slice (some ⟨V4.heap.size, 0, none⟩) 1 1) (by have := HPW.out; omega)
    have hr2 := hr1.one (o := 2) (g' := W.heap.size) (.slice (some ⟨V4.heap.size, 0, none⟩) 1 1) (by omega)
    have hb2 := hb1.setCell (p := ⟨W.heap.size, 2, none⟩) (by have := HZW.out; show w.heap.size ≤ W.heap.size; omega) (.slice (some ⟨V4.heap.size, 0, none⟩) 1 1)
    have hcp2 := hcp1.far (b := W.heap.size) (o := 2) (.slice (some ⟨V4.heap.size, 0, none⟩) 1 1) (by have := HZW.out; omega)
    have hcq2 := hcq1.far (b := W.heap.size) (o := 2) (.slice (some ⟨V4.heap.size, 0, none⟩) 1 1) (by omega)
    have hz5 : ((V4.alloc (.cells #[.int .u8 1, .int .i64 0, .int .i64 0, .int .i64 0, .int .i64 0, .string ⟨#[]⟩] 28)).setCell ⟨W.heap.size, 2, none⟩ (.slice (some ⟨V4.heap.size, 0, none⟩) 1 1)).heap.size = V4.heap.size + 1 := by simp [World.setCell]
    have hq3 := hq2.alloc (.cells #[.int .u8 8, .int .i64 0, .int .i64 0, .int .i64 0, .int .i64 0, .string ⟨#[]⟩] 28)
    have hp3 := hp2.alloc (.cells #[.int .u8 8, .int .i64 0, .int .i64 0, .int .i64 0, .int .i64 0, .string ⟨#[]⟩] 28)
    have hr3 := hr2.alloc (.cells #[.int .u8 8, .int .i64 0, .int .i64 0, .int .i64 0, .int .i64 0, .string ⟨#[]⟩] 28)
    have hb3 := hb2.alloc hb2.size (.cells #[.int .u8 8, .int .i64 0, .int .i64 0, .int .i64 0, .int .i64 0, .string ⟨#[]⟩] 28)
    have hcp3 := hcp2.alloc (.cells #[.int .u8 8, .int .i64 0, .int .i64 0, .int .i64 0, .int .i64 0, .string ⟨#[]⟩] 28)
    have hcq3 := hcq2.alloc (.cells #[.int .u8 8, .int .i64 0, .int .i64 0, .int .i64 0, .int .i64 0, .string ⟨#[]⟩] 28)
    have hcr3 := RdC.one ((V4.alloc (.cells #[.int .u8 1, .int .i64 0, .int .i64 0, .int .i64 0, .int .i64 0, .string ⟨#[]⟩] 28)).setCell ⟨W.heap.size, 2, none⟩ (.slice (some ⟨V4.heap.size, 0, none⟩) 1 1)) (oneI 8)
    rw [hz5] at hcr3
    have hr4 := hr3.third (.slice (some ⟨V4.heap.size + 1, 0, none⟩) 1 1)
    have hp4 := hp3.one (o := 2) (g' := W.heap.size + 1) (.slice (some ⟨V4.heap.size + 1, 0, none⟩) 1 1) (by have := HPW.out; omega)
    have hq4 := hq3.one (o := 2) (g' := W.heap.size + 1) (.slice (some ⟨V4.heap.size + 1, 0, none⟩) 1 1) (by omega)
    have hb4 := hb3.setCell (p := ⟨W.heap.size + 1, 2, none⟩) (by have := HZW.out; show w.heap.size ≤ W.heap.size + 1; omega) (.slice (some ⟨V4.heap.size + 1, 0, none⟩) 1 1)
    have hcp4 := hcp3.far (b := W.heap.size + 1) (o := 2) (.slice (some ⟨V4.heap.size + 1, 0, none⟩) 1 1) (by have := HZW.out; omega)
    have hcq4 := hcq3.far (b := W.heap.size + 1) (o := 2) (.slice (some ⟨V4.heap.size + 1, 0, none⟩) 1 1) (by omega)
    have hcr4 := hcr3.far (b := W.heap.size + 1) (o := 2) (.slice (some ⟨V4.heap.size + 1, 0, none⟩) 1 1) (by omega)
    obtain ⟨-, x0, x1, x2, y0, y1, y2⟩ := id hq1
    obtain ⟨-, x3, x4, x5, y3, y4, y5⟩ := id hr3
    obtain ⟨Z, HZ⟩ := named ((((V4.alloc (.cells #[.int .u8 1, .int .i64 0, .int .i64 0, .int .i64 0, .int .i64 0, .string ⟨#[]⟩] 28)).setCell ⟨W.heap.size, 2, none⟩ (.slice (some ⟨V4.heap.size, 0, none⟩) 1 1)).alloc (.cells #[.int .u8 8, .int .i64 0, .int .i64 0, .int .i64 0, .int .i64 0, .string ⟨#[]⟩] 28)).setCell ⟨W.heap.size + 1, 2, none⟩ (.slice (some ⟨V4.heap.size + 1, 0, none⟩) 1 1))
    have HZP := hide (show C3 Z pb _ _ _ by rw [HZ.out]; exact hp4)
    have HZQ := hide (show C3 Z (W.heap.size) _ _ _ by rw [HZ.out]; exact hq4)
    have HZR := hide (show C3 Z (W.heap.size + 1) _ _ _ by rw [HZ.out]; exact hr4)
    have HZB := hide (show Below w.heap.size w Z by rw [HZ.out]; exact hb4)
    have HZCP := hide (show RdC Z _ _ by rw [HZ.out]; exact hcp4)
    have HZCQ := hide (show RdC Z _ _ by rw [HZ.out]; exact hcq4)
    have HZCR := hide (show RdC Z _ _ by rw [HZ.out]; exact hcr4)
    clear hz4 hz5 hq1 hp1 hr1 hb1 hcp1 hcq1 hq2 hp2 hr2 hb2 hcp2 hcq2 hq3 hp3 hr3 hb3 hcp3 hcq3 hcr3 hr4 hp4 hq4 hb4 hcp4 hcq4 hcr4
    go_wp2_with fail
    rw [← HZ.out]
    refine (show_any ⟨3, 2, 0, 1, 0, ⟨#[]⟩⟩ (wf_small _ _ _ _ _ _ (by omega) (by omega) (by omega) (by omega) (by omega) (by decide)) Z (hl.below HZB.out) (by decide)).mono ?_
    rintro e Z1 ⟨rfl, hz1⟩
    rw [show1]
    have HB1 := hide (below_call HZB.out hz1)
    have HZ1 := hide hz1
    clear x0 x1 x2 x3 x4 x5 y0 y1 y2 y3 y4 y5 hz1
    go_wp2_with fail
    refine (show_any ⟨10, 1, 0, 2, 0, ⟨#[112, 97, 121]⟩⟩ (wf_small _ _ _ _ _ _ (by omega) (by omega) (by omega) (by omega) (by omega) (by decide)) Z1 (hl.below HB1.out) (by decide)).mono ?_
    rintro e Z2 ⟨rfl, hz2⟩
    rw [show2]
    have HB2 := hide (below_call HB1.out hz2)
    have HZ2' := hide (below_call HZ1.out hz2)
    obtain ⟨-, x0, x1, x2, -⟩ := id (HZP.out.below HZ2'.out)
    clear hz2
    go_wp2_with fail
    refine (check_any ⟨⟨#[112]⟩, 1, [oneI 15]⟩ (.slice (some ⟨w.heap.size, 0, none⟩) 1 1) 0 Z2 (hl.below HB2.out).kinds (HZCP.out.below HZ2'.out) (oneI_wf 15 (by omega))).mono ?_
    rintro e Z3 ⟨rfl, hz3⟩
    rw [err15]
    have HB3 := hide (below_call HB2.out hz3)
    have HZ3' := hide (below_call HZ2'.out hz3)
    clear x0 x1 x2 hz3
    obtain ⟨-, x0, x1, x2, -⟩ := id (HZQ.out.below HZ3'.out)
    go_wp2_with fail
    refine (check_any ⟨⟨#[112]⟩, 1, [oneI 1]⟩ (.slice (some ⟨V4.heap.size, 0, none⟩) 1 1) 0 Z3 (hl.below HB3.out).kinds (HZCQ.out.below HZ3'.out) (oneI_wf 1 (by omega))).mono ?_
    rintro e Z4 ⟨rfl, hz4⟩
    rw [err1]
    have HB4 := hide (below_call HB3.out hz4)
    have HZ4' := hide (below_call HZ3'.out hz4)
    clear x0 x1 x2 hz4
    obtain ⟨-, x0, x1, x2, -⟩ := id (HZR.out.below HZ4'.out)
    go_wp2_with fail
    refine (check_any ⟨⟨#[112]⟩, 1, [oneI 8]⟩ (.slice (some ⟨V4.heap.size + 1, 0, none⟩) 1 1) 0 Z4 (hl.below HB4.out).kinds (HZCR.out.below HZ4'.out) (oneI_wf 8 (by omega))).mono ?_
    rintro e Z5 ⟨rfl, hz5⟩
    rw [err8]
    have HB5 := hide (below_call HB4.out hz5)
    clear x0 x1 x2 hz5
    go_wp2
    go_ret
    exact ⟨rfl, HB5.out⟩
  case' b3_3 =>
    go_simp
    rw [← HV1.out]
    refine hK.out _ _ HS1.out (fun _ => ?_)
    clear hK K
    try simp only [Act.put, List.setIfInBounds_toArray, List.set_cons_zero, List.set_cons_succ]
    refine wpAnyH_ready (rs := [2]) (by kernel_rfl) (by simp) ?_
    refine AllReadyH.cons (o := { dst := some 2, op := Go.Op.alloc 24, type := 0, pos := "law.go:15", after := #[], guard := none }) rfl (fun K hK => ?_) AllReadyH.nil
    go_simp
    rw [← HV2.out]
    refine hK.out _ _ HS2.out (fun _ => ?_)
    clear hK K
    try simp only [Act.put, List.setIfInBounds_toArray, List.set_cons_zero, List.set_cons_succ]
    refine wpAnyH_ready (rs := [4]) (by kernel_rfl) (by simp) ?_
    refine AllReadyH.cons (o := { dst := none, op := Go.Op.store 24 (Go.Operand.tmp 2) (Go.Operand.tmp 7), type := 0, pos := "law.go:15", after := #[{ on := 2, ground := Go.Ground.data }, { on := 0, ground := Go.Ground.data }, { on := 0, ground := Go.Ground.phase }, { on := 1, ground := Go.Ground.textOnly Go.Departure.lateStores }, { on := 2, ground := Go.Ground.phase }, { on := 3, ground := Go.Ground.phase }], guard := none }) rfl (fun K hK => ?_) AllReadyH.nil
    go_simp
    obtain ⟨V3, HV3⟩ := named (set3 V2 (W.heap.size + 1) (.string ⟨#[112]⟩) (.int .i64 1) (.slice (some ⟨w.heap.size, 0, none⟩) 1 1))
    show K _ (set3 V2 (W.heap.size + 1) (.string ⟨#[112]⟩) (.int .i64 1) (.slice (some ⟨w.heap.size, 0, none⟩) 1 1))
    rw [← HV3.out]
    have HQ3 := hide (show C3 V3 (W.heap.size + 1) (.string ⟨#[112]⟩) (.int .i64 1) (.slice (some ⟨w.heap.size, 0, none⟩) 1 1) by rw [HV3.out]; exact HB2.out.set _ _ _)
    have HR3 := hide (show C3 V3 (W.heap.size) (.string ⟨#[]⟩) (.int .i64 0) (.slice none 0 0) by rw [HV3.out]; exact HA2.out.other _ _ _ (by omega))
    have HP3 := hide (show C3 V3 pb (.string ⟨#[112]⟩) (.int .i64 1) (.slice (some ⟨w.heap.size, 0, none⟩) 1 1) by rw [HV3.out]; exact HP2.out.other _ _ _ (by have := HPW.out; omega))
    have HBV3 := hide (show Below w.heap.size w V3 by rw [HV3.out]; exact below_set3 HBV.out _ _ _ (by have := HZW.out; omega))
    have HRP3 := hide (show RdC V3 (.slice (some ⟨w.heap.size, 0, none⟩) 1 1) [oneI 15] by rw [HV3.out]; exact ((HRP.out.far _ (by have := HZW.out; omega)).far _ (by have := HZW.out; omega)).far _ (by have := HZW.out; omega))
    have hz3 : V3.heap.size = W.heap.size + 2 := by rw [HV3.out, set3_size]; exact HZ2.out
    have hs3 : V3.cell? ⟨pb, 0, none⟩ = some (.string ⟨#[112]⟩) ∧ V3.cell? ⟨pb, 1, none⟩ = some (.int .i64 1) ∧ V3.cell? ⟨pb, 2, none⟩ = some (.slice (some ⟨w.heap.size, 0, none⟩) 1 1) := ⟨HP3.out.2.1, HP3.out.2.2.1, HP3.out.2.2.2.1⟩
    obtain ⟨-, k0, k1, k2, m0, m1, m2⟩ := id HR3.out
    refine hK.out _ _ hs3 (fun _ => ?_)
    clear hK K
    try simp only [Act.put, List.setIfInBounds_toArray, List.set_cons_zero, List.set_cons_succ]
    refine wpAnyH_ready (rs := [5]) (by kernel_rfl) (by simp) ?_
    refine AllReadyH.cons (o := { dst := none, op := Go.Op.store 24 (Go.Operand.tmp 3) (Go.Operand.tmp 8), type := 0, pos := "law.go:15", after := #[{ on := 3, ground := Go.Ground.data }, { on := 1, ground := Go.Ground.data }, { on := 4, ground := Go.Ground.chain }, { on := 0, ground := Go.Ground.phase }, { on := 1, ground := Go.Ground.phase }, { on := 2, ground := Go.Ground.phase }, { on := 3, ground := Go.Ground.phase }, { on := 4, ground := Go.Ground.phase }], guard := none }) rfl (fun K hK => ?_) AllReadyH.nil
    go_simp
    obtain ⟨V4, HV4⟩ := named (set3 V3 (W.heap.size) (.string ⟨#[112]⟩) (.int .i64 1) (.slice (some ⟨w.heap.size, 0, none⟩) 1 1))
    show K _ (set3 V3 (W.heap.size) (.string ⟨#[112]⟩) (.int .i64 1) (.slice (some ⟨w.heap.size, 0, none⟩) 1 1))
    rw [← HV4.out]
    have HQ4 := hide (show C3 V4 (W.heap.size + 1) (.string ⟨#[112]⟩) (.int .i64 1) (.slice (some ⟨w.heap.size, 0, none⟩) 1 1) by rw [HV4.out]; exact HQ3.out.other _ _ _ (by omega))
    have HR4 := hide (show C3 V4 (W.heap.size) (.string ⟨#[112]⟩) (.int .i64 1) (.slice (some ⟨w.heap.size, 0, none⟩) 1 1) by rw [HV4.out]; exact HR3.out.set _ _ _)
    have HP4 := hide (show C3 V4 pb (.string ⟨#[112]⟩) (.int .i64 1) (.slice (some ⟨w.heap.size, 0, none⟩) 1 1) by rw [HV4.out]; exact HP3.out.other _ _ _ (by have := HPW.out; omega))
    have HBV4 := hide (show Below w.heap.size w V4 by rw [HV4.out]; exact below_set3 HBV3.out _ _ _ (by have := HZW.out; omega))
    have HRP4 := hide (show RdC V4 (.slice (some ⟨w.heap.size, 0, none⟩) 1 1) [oneI 15] by rw [HV4.out]; exact ((HRP3.out.far _ (by have := HZW.out; omega)).far _ (by have := HZW.out; omega)).far _ (by have := HZW.out; omega))
    have hz4 : V4.heap.size = W.heap.size + 2 := by rw [HV4.out, set3_size]; exact hz3
    have hs4 : V4.cell? ⟨pb, 0, none⟩ = some (.string ⟨#[112]⟩) ∧ V4.cell? ⟨pb, 1, none⟩ = some (.int .i64 1) ∧ V4.cell? ⟨pb, 2, none⟩ = some (.slice (some ⟨w.heap.size, 0, none⟩) 1 1) := ⟨HP4.out.2.1, HP4.out.2.2.1, HP4.out.2.2.2.1⟩
    refine hK.out _ _ hs4 (fun _ => ?_)
    clear hK K
    try simp only [Act.put, List.setIfInBounds_toArray, List.set_cons_zero, List.set_cons_succ]
    refine wpAnyH_done (by kernel_rfl) ?_ _
    clear hs0 a0 a1 a2 f0 f1 f2 b0 b1 b2 e0 e1 e2 k0 k1 k2 m0 m1 m2 hs3 hs4 hz3
    have hq1 := HQ4.out.alloc (.cells #[.int .u8 1, .int .i64 0, .int .i64 0, .int .i64 0, .int .i64 0, .string ⟨#[]⟩] 28)
    have hp1 := HP4.out.alloc (.cells #[.int .u8 1, .int .i64 0, .int .i64 0, .int .i64 0, .int .i64 0, .string ⟨#[]⟩] 28)
    have hr1 := HR4.out.alloc (.cells #[.int .u8 1, .int .i64 0, .int .i64 0, .int .i64 0, .int .i64 0, .string ⟨#[]⟩] 28)
    have hb1 := HBV4.out.alloc HBV4.out.size (.cells #[.int .u8 1, .int .i64 0, .int .i64 0, .int .i64 0, .int .i64 0, .string ⟨#[]⟩] 28)
    have hcp1 := HRP4.out.alloc (.cells #[.int .u8 1, .int .i64 0, .int .i64 0, .int .i64 0, .int .i64 0, .string ⟨#[]⟩] 28)
    have hcq1 := RdC.one V4 (oneI 1)
    have hq2 := hq1.third (.slice (some ⟨V4.heap.size, 0, none⟩) 1 1)
    have hp2 := hp1.one (o := 2) (g' := W.heap.size + 1) (.slice (some ⟨V4.heap.size, 0, none⟩) 1 1) (by have := HPW.out; omega)
    have hr2 := hr1.one (o := 2) (g' := W.heap.size + 1) (.slice (some ⟨V4.heap.size, 0, none⟩) 1 1) (by omega)
    have hb2 := hb1.setCell (p := ⟨W.heap.size + 1, 2, none⟩) (by have := HZW.out; show w.heap.size ≤ W.heap.size + 1; omega) (.slice (some ⟨V4.heap.size, 0, none⟩) 1 1)
    have hcp2 := hcp1.far (b := W.heap.size + 1) (o := 2) (.slice (some ⟨V4.heap.size, 0, none⟩) 1 1) (by have := HZW.out; omega)
    have hcq2 := hcq1.far (b := W.heap.size + 1) (o := 2) (.slice (some ⟨V4.heap.size, 0, none⟩) 1 1) (by omega)
    have hz5 : ((V4.alloc (.cells #[.int .u8 1, .int .i64 0, .int .i64 0, .int .i64 0, .int .i64 0, .string ⟨#[]⟩] 28)).setCell ⟨W.heap.size + 1, 2, none⟩ (.slice (some ⟨V4.heap.size, 0, none⟩) 1 1)).heap.size = V4.heap.size + 1 := by simp [World.setCell]
    have hq3 := hq2.alloc (.cells #[.int .u8 8, .int .i64 0, .int .i64 0, .int .i64 0, .int .i64 0, .string ⟨#[]⟩] 28)
    have hp3 := hp2.alloc (.cells #[.int .u8 8, .int .i64 0, .int .i64 0, .int .i64 0, .int .i64 0, .string ⟨#[]⟩] 28)
    have hr3 := hr2.alloc (.cells #[.int .u8 8, .int .i64 0, .int .i64 0, .int .i64 0, .int .i64 0, .string ⟨#[]⟩] 28)
    have hb3 := hb2.alloc hb2.size (.cells #[.int .u8 8, .int .i64 0, .int .i64 0, .int .i64 0, .int .i64 0, .string ⟨#[]⟩] 28)
    have hcp3 := hcp2.alloc (.cells #[.int .u8 8, .int .i64 0, .int .i64 0, .int .i64 0, .int .i64 0, .string ⟨#[]⟩] 28)
    have hcq3 := hcq2.alloc (.cells #[.int .u8 8, .int .i64 0, .int .i64 0, .int .i64 0, .int .i64 0, .string ⟨#[]⟩] 28)
    have hcr3 := RdC.one ((V4.alloc (.cells #[.int .u8 1, .int .i64 0, .int .i64 0, .int .i64 0, .int .i64 0, .string ⟨#[]⟩] 28)).setCell ⟨W.heap.size + 1, 2, none⟩ (.slice (some ⟨V4.heap.size, 0, none⟩) 1 1)) (oneI 8)
    rw [hz5] at hcr3
    have hr4 := hr3.third (.slice (some ⟨V4.heap.size + 1, 0, none⟩) 1 1)
    have hp4 := hp3.one (o := 2) (g' := W.heap.size) (.slice (some ⟨V4.heap.size + 1, 0, none⟩) 1 1) (by have := HPW.out; omega)
    have hq4 := hq3.one (o := 2) (g' := W.heap.size) (.slice (some ⟨V4.heap.size + 1, 0, none⟩) 1 1) (by omega)
    have hb4 := hb3.setCell (p := ⟨W.heap.size, 2, none⟩) (by have := HZW.out; show w.heap.size ≤ W.heap.size; omega) (.slice (some ⟨V4.heap.size + 1, 0, none⟩) 1 1)
    have hcp4 := hcp3.far (b := W.heap.size) (o := 2) (.slice (some ⟨V4.heap.size + 1, 0, none⟩) 1 1) (by have := HZW.out; omega)
    have hcq4 := hcq3.far (b := W.heap.size) (o := 2) (.slice (some ⟨V4.heap.size + 1, 0, none⟩) 1 1) (by omega)
    have hcr4 := hcr3.far (b := W.heap.size) (o := 2) (.slice (some ⟨V4.heap.size + 1, 0, none⟩) 1 1) (by omega)
    obtain ⟨-, x0, x1, x2, y0, y1, y2⟩ := id hq1
    obtain ⟨-, x3, x4, x5, y3, y4, y5⟩ := id hr3
    obtain ⟨Z, HZ⟩ := named ((((V4.alloc (.cells #[.int .u8 1, .int .i64 0, .int .i64 0, .int .i64 0, .int .i64 0, .string ⟨#[]⟩] 28)).setCell ⟨W.heap.size + 1, 2, none⟩ (.slice (some ⟨V4.heap.size, 0, none⟩) 1 1)).alloc (.cells #[.int .u8 8, .int .i64 0, .int .i64 0, .int .i64 0, .int .i64 0, .string ⟨#[]⟩] 28)).setCell ⟨W.heap.size, 2, none⟩ (.slice (some ⟨V4.heap.size + 1, 0, none⟩) 1 1))
    have HZP := hide (show C3 Z pb _ _ _ by rw [HZ.out]; exact hp4)
    have HZQ := hide (show C3 Z (W.heap.size + 1) _ _ _ by rw [HZ.out]; exact hq4)
    have HZR := hide (show C3 Z (W.heap.size) _ _ _ by rw [HZ.out]; exact hr4)
    have HZB := hide (show Below w.heap.size w Z by rw [HZ.out]; exact hb4)
    have HZCP := hide (show RdC Z _ _ by rw [HZ.out]; exact hcp4)
    have HZCQ := hide (show RdC Z _ _ by rw [HZ.out]; exact hcq4)
    have HZCR := hide (show RdC Z _ _ by rw [HZ.out]; exact hcr4)
    clear hz4 hz5 hq1 hp1 hr1 hb1 hcp1 hcq1 hq2 hp2 hr2 hb2 hcp2 hcq2 hq3 hp3 hr3 hb3 hcp3 hcq3 hcr3 hr4 hp4 hq4 hb4 hcp4 hcq4 hcr4
    go_wp2_with fail
    rw [← HZ.out]
    refine (show_any ⟨3, 2, 0, 1, 0, ⟨#[]⟩⟩ (wf_small _ _ _ _ _ _ (by omega) (by omega) (by omega) (by omega) (by omega) (by decide)) Z (hl.below HZB.out) (by decide)).mono ?_
    rintro e Z1 ⟨rfl, hz1⟩
    rw [show1]
    have HB1 := hide (below_call HZB.out hz1)
    have HZ1 := hide hz1
    clear x0 x1 x2 x3 x4 x5 y0 y1 y2 y3 y4 y5 hz1
    go_wp2_with fail
    refine (show_any ⟨10, 1, 0, 2, 0, ⟨#[112, 97, 121]⟩⟩ (wf_small _ _ _ _ _ _ (by omega) (by omega) (by omega) (by omega) (by omega) (by decide)) Z1 (hl.below HB1.out) (by decide)).mono ?_
    rintro e Z2 ⟨rfl, hz2⟩
    rw [show2]
    have HB2 := hide (below_call HB1.out hz2)
    have HZ2' := hide (below_call HZ1.out hz2)
    obtain ⟨-, x0, x1, x2, -⟩ := id (HZP.out.below HZ2'.out)
    clear hz2
    go_wp2_with fail
    refine (check_any ⟨⟨#[112]⟩, 1, [oneI 15]⟩ (.slice (some ⟨w.heap.size, 0, none⟩) 1 1) 0 Z2 (hl.below HB2.out).kinds (HZCP.out.below HZ2'.out) (oneI_wf 15 (by omega))).mono ?_
    rintro e Z3 ⟨rfl, hz3⟩
    rw [err15]
    have HB3 := hide (below_call HB2.out hz3)
    have HZ3' := hide (below_call HZ2'.out hz3)
    clear x0 x1 x2 hz3
    obtain ⟨-, x0, x1, x2, -⟩ := id (HZQ.out.below HZ3'.out)
    go_wp2_with fail
    refine (check_any ⟨⟨#[112]⟩, 1, [oneI 1]⟩ (.slice (some ⟨V4.heap.size, 0, none⟩) 1 1) 0 Z3 (hl.below HB3.out).kinds (HZCQ.out.below HZ3'.out) (oneI_wf 1 (by omega))).mono ?_
    rintro e Z4 ⟨rfl, hz4⟩
    rw [err1]
    have HB4 := hide (below_call HB3.out hz4)
    have HZ4' := hide (below_call HZ3'.out hz4)
    clear x0 x1 x2 hz4
    obtain ⟨-, x0, x1, x2, -⟩ := id (HZR.out.below HZ4'.out)
    go_wp2_with fail
    refine (check_any ⟨⟨#[112]⟩, 1, [oneI 8]⟩ (.slice (some ⟨V4.heap.size + 1, 0, none⟩) 1 1) 0 Z4 (hl.below HB4.out).kinds (HZCR.out.below HZ4'.out) (oneI_wf 8 (by omega))).mono ?_
    rintro e Z5 ⟨rfl, hz5⟩
    rw [err8]
    have HB5 := hide (below_call HB4.out hz5)
    clear x0 x1 x2 hz5
    go_wp2
    go_ret
    exact ⟨rfl, HB5.out⟩

end Go.Proofs.YtpiiehenmkinaaaDoor
