/-
  What memory is changed, rows of a call's own; maps keyed by numbers, as functions: plain lemmas, with no walk. Own work.
-/
import Derived.Test.YtemlanalaihkoaaRows
import Derived.Test.YtemlanalaihkoaaMb
import Derived.WalkSpells
import Derived.WalkLawsBesides
import Derived.Laws.AppendOwnNone
import Derived.Maps.OwnSet
import Derived.Maps.OwnOps
import Derived.WideKeyEntry
namespace Go.Proofs.Ytemlanalaihkoaa
open Go.RowKit Go.ChangeMaps
set_option maxRecDepth 100000

/-- a name for a term, kept from the walk -/
theorem named {α : Type} (a : α) : ∃ x, Hid (x = a) := ⟨a, rfl⟩
theorem ret_int {k : IntKind} {a b : Int} (h : a = b) : Ending.returned (.int k a) = .returned (.int k b) := by rw [h]
theorem ret_bool {a b : Bool} (h : a = b) : Ending.returned (.bool a) = .returned (.bool b) := by rw [h]

/-- what has been changed lies in F, or is new -/
structure Chg (F : Nat → Prop) (w w' : World) : Prop where
  os : w'.os = w.os
  tape : w'.tape = w.tape
  output : w'.output = w.output
  size : w.heap.size ≤ w'.heap.size
  block : ∀ k, k < w.heap.size → ¬ F k → w'.heap[k]? = w.heap[k]?

theorem Chg.refl (F : Nat → Prop) (w : World) : Chg F w w := ⟨rfl, rfl, rfl, Nat.le_refl _, fun _ _ _ => rfl⟩
theorem Chg.trans {F G : Nat → Prop} {a b c : World} (h : Chg F a b) (k : Chg G b c) (hg : ∀ i, i < a.heap.size → G i → F i) : Chg F a c :=
  ⟨k.os.trans h.os, k.tape.trans h.tape, k.output.trans h.output, Nat.le_trans h.size k.size, fun i hi hf => (k.block i (Nat.lt_of_lt_of_le hi h.size) (fun hG => hf (hg i hi hG))).trans (h.block i hi hf)⟩
theorem Chg.mono {F G : Nat → Prop} {a b : World} (h : Chg F a b) (hg : ∀ i, i < a.heap.size → F i → G i) : Chg G a b :=
  ⟨h.os, h.tape, h.output, h.size, fun i hi hG => h.block i hi (fun hF => hG (hg i hi hF))⟩
theorem Chg.below {F : Nat → Prop} {w w' : World} (h : Chg F w w') (B : Nat) (hB : ∀ k, F k → B ≤ k) (hw : B ≤ w.heap.size) : Below B w w' :=
  ⟨h.os, h.tape, h.output, h.size, fun k hk => h.block k (by omega) (fun hF => by have := hB k hF; omega)⟩
theorem Chg.ofBelow {w w' : World} (h : Below w.heap.size w w') (F : Nat → Prop) : Chg F w w' :=
  ⟨h.os, h.tape, h.output, h.size, fun k hk _ => h.block k hk⟩
theorem Chg.drew {F : Nat → Prop} {a w : World} (h : Chg F a w) : Chg F a w.drew := ⟨h.os, h.tape, h.output, h.size, h.block⟩
theorem Chg.alloc {F : Nat → Prop} {a w : World} (h : Chg F a w) (o : Obj) : Chg F a (w.alloc o) :=
  ⟨h.os, h.tape, h.output, by have := h.size; simp; omega, fun k hk hF => (Below.heap_alloc _ _ _ (by have := h.size; omega)).trans (h.block k hk hF)⟩
theorem Chg.setCell {F : Nat → Prop} {a w : World} (h : Chg F a w) {p : Addr} (hp : F p.block ∨ a.heap.size ≤ p.block) (u : Value) : Chg F a (w.setCell p u) :=
  ⟨h.os, h.tape, h.output, by have := h.size; simp [World.setCell]; omega, fun k hk hF => by
    rw [Below.heap_setCell _ _ _ _ (by rintro rfl; rcases hp with hp | hp; exact hF hp; omega)]
    exact h.block k hk hF⟩
theorem Chg.grown {F : Nat → Prop} {a w w' : World} {row : Option Nat} (h : Chg F a w) (hg : w.grownBy w' row) (hr : ∀ k, row = some k → F k ∨ a.heap.size ≤ k) : Chg F a w' :=
  ⟨hg.os.trans h.os, hg.tape.trans h.tape, hg.output.trans h.output, Nat.le_trans h.size hg.size, fun k hk hF =>
    (hg.block k (by have := h.size; omega) (fun e => by rcases hr k e.symm with x | x; exact hF x; omega)).trans (h.block k hk hF)⟩
theorem Chg.cell {F : Nat → Prop} {w w' : World} (h : Chg F w w') {b : Nat} (hl : b < w.heap.size) (hb : ¬ F b) (o : Nat) : w'.cell? ⟨b, o, none⟩ = w.cell? ⟨b, o, none⟩ := World.cell?_of_block (w := w) (a := ⟨b, o, none⟩) (h.block b hl hb)
theorem Chg.frozen {F : Nat → Prop} {w w' : World} (h : Chg F w w') {b : Nat} (hl : b < w.heap.size) (hb : ¬ F b) (o : Nat) : w'.frozen? ⟨b, o, none⟩ = w.frozen? ⟨b, o, none⟩ := World.frozen?_of_block (w := w) (a := ⟨b, o, none⟩) (h.block b hl hb)
theorem grownBy.drew {a b : World} {r : Option Nat} (h : a.grownBy b r) : a.grownBy b.drew r := ⟨h.os, h.tape, h.output, h.size, h.block⟩
theorem grownBy.ofDrew {a b : World} {r : Option Nat} (h : a.drew.grownBy b r) : a.grownBy b r := ⟨h.os, h.tape, h.output, h.size, h.block⟩

theorem cell_of {w : World} {b : Nat} {cur : Array Value} {t : TypeId} (h : w.heap[b]? = some (.cells cur t (0, 0))) (o : Nat) : w.cell? ⟨b, o, none⟩ = cur[o]? := by
  simp [World.cell?, h]
theorem frozen_of {w : World} {b : Nat} {cur : Array Value} {t : TypeId} (h : w.heap[b]? = some (.cells cur t (0, 0))) (o : Nat) : w.frozen? ⟨b, o, none⟩ = false := by
  simp [World.frozen?, h]
theorem lt_of {w : World} {b : Nat} {o : Obj} (h : w.heap[b]? = some o) : b < w.heap.size := (Array.getElem?_eq_some_iff.1 h).1
theorem rowHeap {w w' : World} {v : Value} {e k n : Nat} {xs : List Value} (h : w.ownsRow 0 e k v n xs) (hk : ∀ a, v.ownBlock = some a → w'.heap[a]? = w.heap[a]?) : w'.ownsRow 0 e k v n xs := by
  refine ⟨h.1, ?_⟩
  rcases h.2 with h2 | ⟨g, cap, cur, hv, hb2, hg, r⟩
  · exact .inl h2
  · exact .inr ⟨g, cap, cur, hv, hb2, by rw [hk g (by rw [hv]; rfl)]; exact hg, r⟩
theorem row_elem {w : World} {v : Value} {e k n : Nat} {xs : List Value} (h : w.ownsRow 0 e k v n xs) {a : Nat} (ha : v.ownBlock = some a) : ∃ cur, w.heap[a]? = some (.cells cur e (0, 0)) := by
  rcases h.2 with ⟨rfl, _⟩ | ⟨g, cap, cur, rfl, _, hg, _⟩
  · cases ha
  · cases ha; exact ⟨cur, hg⟩
theorem ne_of_elem {w : World} {a b : Nat} {c d : Array Value} {e f : TypeId} (ha : w.heap[a]? = some (.cells c e (0, 0))) (hb : w.heap[b]? = some (.cells d f (0, 0))) (hne : e ≠ f) : a ≠ b := by
  rintro rfl
  rw [ha] at hb
  cases hb
  exact hne rfl

theorem run_append_own' {P : Program} (w : World) (base : Nat) (t ty e : TypeId) (i : TypeInfo) (z : Value) (size bytes : Nat) (ht : P.underlying t = some (.slice e)) (hi : P.info? e = some i) (hz : i.zero = some z)
    (hsize : i.size = size) (hby : i.bytes = bytes) (hzs : z.cells.size = size) (hsz : 0 < size)
    (v : Value) (n : Nat) (xs : List Value) (hown : w.ownsRow base e size v n xs)
    (a : Addr) (m c : Nat) (news : List Value) (hl : news.length = m * size) (hnews : ∀ j u, news[j]? = some u → w.cell? (a.add j) = some u) (h1 : ∀ u ∈ news, u.oneCell' = true)
    (h63 : n + m ≤ maxLen) (hbytes : (n + m) * bytes ≤ 140737488355328) (hbase : base ≤ w.heap.size) :
    ∃ v' w', (Builtin.append_ #[t, t] ty #[v, .slice (some a) m c]).run P w = .ok v' w' ∧ w'.ownsRow base e size v' (n + m) (xs ++ news) ∧ w.grownBy w' v.ownBlock ∧
      (v'.ownBlock = v.ownBlock ∨ v'.ownBlock = some w.heap.size) := by
  obtain ⟨v', w', hr, ho, hg, _⟩ := run_append_own (P := P) w base t ty e i z size bytes ht hi hz hsize hby hzs hsz v n xs hown a m c news hl hnews h1 h63 hbytes hbase
  refine ⟨v', w', hr, ho, hg, ?_⟩
  have hsmall : n + m ≤ 9223372036854775807 := by simp only [maxLen] at h63; omega
  subst hsize
  subst hby
  rcases hown.2 with ⟨rfl, rfl⟩ | ⟨g, cap, cur, rfl, hbg, hgg, hnc, hcm, hcs, htake⟩
  · by_cases hm : m = 0
    · subst hm
      have hn : news = [] := List.eq_nil_of_length_eq_zero (by simpa using hl)
      subst hn
      have hrun : (Builtin.append_ #[t, t] ty #[.slice none 0 0, .slice (some a) 0 c]).run P w = .ok (.slice none 0 0) w := by
        simp [Builtin.append_, run_underlying ht, sizeOf, typeInfo, hi, Builtin.lenOf, Builtin.firstCells, loadCells, loadCellsFrom]
      rw [hrun] at hr
      cases hr
      exact .inl rfl
    · have hrun := run_append_nil (P := P) w t ty e i z ht hi hz a m c news hl hnews (by omega) (by omega) (by have hb := hbytes; simp only [Nat.zero_add] at hb; omega)
      rw [hrun] at hr
      cases hr
      exact .inr rfl
  · by_cases hroom : n + m ≤ cap
    · have hfit : n * i.size + news.length ≤ cur.size := by rw [hl, hcs, ← Nat.add_mul]; exact Nat.mul_le_mul_right _ hroom
      have hrun := run_append_room (P := P) w t ty e i ht hi g n cap cur hgg a m c news hl hnews h1 hroom hfit
      rw [hrun] at hr
      cases hr
      exact .inl rfl
    · have holds : ∀ j u, xs[j]? = some u → w.cell? ((⟨g, 0, none⟩ : Addr).add j) = some u := hown.cells (g := g) rfl
      have hrun := run_append_grow (P := P) w t ty e i z ht hi hz ⟨g, 0, none⟩ n cap xs hown.1 holds a m c news hl hnews (by omega) (by omega) (growslice_fits (by omega) hbytes)
      rw [hrun] at hr
      cases hr
      exact .inr rfl

/-! maps -/
def I64 (x : Int) : Prop := -9223372036854775808 ≤ x ∧ x ≤ 9223372036854775807
theorem law3 : Maps.Keyed Try.prog 3 := Maps.int_keyed Try.underlying3
theorem zero3 (w : World) : (zeroValue 3).run Try.prog w = .ok (.int .i64 0) w := by kernel_rfl
theorem zero2 (w : World) : (zeroValue 2).run Try.prog w = .ok (.int .i64 0) w := by kernel_rfl
theorem key3 {id : Int} (h : I64 id) : keyOf Try.prog 3 (.int .i64 id) = some (.int .i64 id) := Maps.keyOf_int_mk Try.underlying3 (WalkArith.wf_i64 h)
theorem keyLit {id : Int} (h : I64 id) : WideAt.IsKeyLit (.int .i64 id) := law3.key (key3 h)

/-- the map type t has elements of type e, which are numbers -/
structure MT (t e : TypeId) : Prop where
  mt : Try.prog.underlying t = some (.map 3 e)
  me : Try.prog.underlying e = some (.int .i64)
  mz : ∀ w, (zeroValue e).run Try.prog w = .ok (.int .i64 0) w
theorem mt76 : MT 76 3 := ⟨Try.underlying76, Try.underlying3, zero3⟩
theorem mt65 : MT 65 2 := ⟨Try.underlying65, Try.underlying2, zero2⟩

def setM (l : Int → Option Int) (id v : Int) : Int → Option Int := fun x => if x = id then some v else l x
def delM (l : Int → Option Int) (id : Int) : Int → Option Int := fun x => if x = id then none else l x
/-- block b is a map of m entries, which are those of l -/
def Mp (w : World) (b m : Nat) (e : TypeId) (l : Int → Option Int) : Prop :=
  ∃ D, w.ownsMap (H := Unit) Try.prog 3 (plainElem Try.prog e) b m D ∧ Maps.size D = m ∧
    ∀ id, I64 id → Maps.has D (.int .i64 id) = (l id).isSome ∧ ∀ v, l id = some v → I64 v ∧ ∀ z, D.atKey (.int .i64 id) z = .lit (.int .i64 v)

theorem own_tight {w : World} {b n : Nat} {e : TypeId} {D : DataW Unit} (h : w.ownsMap Try.prog 3 (plainElem Try.prog e) b n D) : w.ownsMap Try.prog 3 (plainElem Try.prog e) b (Maps.size D) D := by
  obtain ⟨es, clock, hb, F, hs, rfl⟩ := h
  exact ⟨es, clock, hb, F, by simp [Maps.size, length_sorted], rfl⟩
theorem Mp.made (w : World) (e : TypeId) : Mp (w.alloc (.map #[] 0)) w.heap.size 0 e (fun _ => none) :=
  ⟨_, World.ownsMap_made _ _ _ _, rfl, fun id _ => ⟨rfl, fun v h => by cases h⟩⟩
theorem Mp.lt {w : World} {b m : Nat} {e : TypeId} {l : Int → Option Int} (h : Mp w b m e l) : b < w.heap.size := by
  obtain ⟨D, h1, -⟩ := h
  exact h1.lt
theorem Mp.isMap {w : World} {b m : Nat} {e : TypeId} {l : Int → Option Int} (h : Mp w b m e l) : ∃ es c, w.heap[b]? = some (.map es c) := by
  obtain ⟨D, ⟨es, c, hb, -⟩, -⟩ := h
  exact ⟨es, c, hb⟩
theorem Mp.heap {w w' : World} {b m : Nat} {e : TypeId} {l : Int → Option Int} (h : Mp w b m e l) (hk : w'.heap[b]? = w.heap[b]?) : Mp w' b m e l := by
  obtain ⟨D, ⟨es, c, hb, r⟩, h2⟩ := h
  exact ⟨D, ⟨es, c, hk.trans hb, r⟩, h2⟩
theorem Mp.congr {w : World} {b m : Nat} {e : TypeId} {l l' : Int → Option Int} (h : Mp w b m e l) (hl : ∀ id, I64 id → l' id = l id) : Mp w b m e l' := by
  obtain ⟨D, h1, h2, h3⟩ := h
  exact ⟨D, h1, h2, fun id hi => by rw [hl id hi]; exact h3 id hi⟩
theorem Mp.look_ok {w : World} {b m : Nat} {t e : TypeId} {l : Int → Option Int} (M : MT t e) (h : Mp w b m e l) {id : Int} (hi : I64 id) :
    (Instr.lookup t (.map (some b)) (.int .i64 id) true).run Try.prog w = .ok (.tuple #[.int .i64 ((l id).getD 0), .bool (l id).isSome]) w := by
  obtain ⟨D, h1, h2, h3⟩ := h
  obtain ⟨h4, h5⟩ := h3 id hi
  obtain ⟨v, ps, hr, hv⟩ := h1.look_ok law3 M.mt (M.mz w) (plainElem_int M.me (WalkArith.wf_i64 (n := 0) (by omega))) (key3 hi)
  rw [hr, h4]
  cases hl : l id with
  | none =>
    rw [hl] at h4
    rw [Maps.atKey_of_not_has h4] at hv
    obtain ⟨c, rfl, hc, -⟩ := plainElem_int_inv M.me hv
    simp only [Prod.mk.injEq, DataW.lit.injEq, Lit.int.injEq, true_and] at hc
    rw [hc.1]; rfl
  | some x =>
    rw [(h5 x hl).2] at hv
    obtain ⟨c, rfl, hc, -⟩ := plainElem_int_inv M.me hv
    simp only [Prod.mk.injEq, DataW.lit.injEq, Lit.int.injEq, true_and] at hc
    rw [hc.1]; rfl
theorem Mp.look {w : World} {b m : Nat} {t e : TypeId} {l : Int → Option Int} (M : MT t e) (h : Mp w b m e l) {id : Int} (hi : I64 id) :
    (Instr.lookup t (.map (some b)) (.int .i64 id) false).run Try.prog w = .ok (.int .i64 ((l id).getD 0)) w := by
  obtain ⟨D, h1, h2, h3⟩ := h
  obtain ⟨h4, h5⟩ := h3 id hi
  obtain ⟨c, hr, hv, -⟩ := h1.lookup_int law3 M.mt M.me (M.mz w) (key3 hi)
  rw [hr]
  cases hl : l id with
  | none =>
    rw [hl] at h4
    rw [Maps.atKey_of_not_has h4] at hv
    cases hv; rfl
  | some x =>
    rw [(h5 x hl).2] at hv
    cases hv; rfl
theorem Mp.len {w : World} {b m : Nat} {t e : TypeId} {l : Int → Option Int} (M : MT t e) (h : Mp w b m e l) (ty : TypeId) : (Builtin.len_ #[t] ty #[.map (some b)]).run Try.prog w = .ok (.int .i64 m) w := by
  obtain ⟨D, h1, h2, -⟩ := h
  rw [h1.len M.mt ty, h2]
theorem put_l {D : DataW Unit} {l : Int → Option Int} (hm : Maps.IsMap D) {id v : Int} (hi : I64 id) (hv : I64 v)
    (h : ∀ id, I64 id → Maps.has D (.int .i64 id) = (l id).isSome ∧ ∀ v, l id = some v → I64 v ∧ ∀ z, D.atKey (.int .i64 id) z = .lit (.int .i64 v)) :
    ∀ x, I64 x → Maps.has (D.put (.int .i64 id) (.lit (.int .i64 v))) (.int .i64 x) = (setM l id v x).isSome ∧ ∀ y, setM l id v x = some y → I64 y ∧ ∀ z, (D.put (.int .i64 id) (.lit (.int .i64 v))).atKey (.int .i64 x) z = .lit (.int .i64 y) := by
  intro x hx
  unfold setM
  by_cases e : x = id
  · subst e
    rw [if_pos rfl]
    refine ⟨Maps.has_put_same hm (keyLit hi) _, fun y hy => ?_⟩
    have hy := Option.some.inj hy
    subst hy
    exact ⟨hv, fun z => Maps.atKey_put_same hm (keyLit hi) _ _⟩
  · rw [if_neg e]
    have hne : Lit.int .i64 x ≠ Lit.int .i64 id := fun h' => e (by cases h'; rfl)
    obtain ⟨h1, h2⟩ := h x hx
    refine ⟨by rw [Maps.has_put_other hne, h1], fun y hy => ⟨(h2 y hy).1, fun z => ?_⟩⟩
    rw [Maps.atKey_put_other hne, (h2 y hy).2 z]
theorem Mp.store {w : World} {b m : Nat} {t e : TypeId} {l : Int → Option Int} (M : MT t e) (h : Mp w b m e l) (hm : m < 1000000) {id v : Int} (hi : I64 id) (hv : I64 v) :
    ∃ w', (Instr.mapUpdate t (.map (some b)) (.int .i64 id) (.int .i64 v)).run Try.prog w = .ok () w' ∧ Mp w' b (if (l id).isSome then m else m + 1) e (setM l id v) ∧ w.grownBy w' (some b) ∧ w'.heap.size = w.heap.size := by
  obtain ⟨D, h1, h2, h3⟩ := h
  obtain ⟨w', hr, ho, ht⟩ := h1.store law3 M.mt (by unfold maxLen; omega) (key3 hi) (plainElem_int M.me (WalkArith.wf_i64 hv))
  refine ⟨w', hr, ⟨_, ?_, ?_, put_l h1.isMap hi hv h3⟩, ht.grown, ?_⟩
  · have := own_tight ho
    rwa [Maps.size_put (h1.tidy law3), (h3 id hi).1, h2] at this
  · rw [Maps.size_put (h1.tidy law3), (h3 id hi).1, h2]
  · obtain ⟨es, c, es', c', hb, rfl⟩ := ht
    simp [setBlock]
theorem Mp.drop {w : World} {b m : Nat} {t e : TypeId} {l : Int → Option Int} (M : MT t e) (h : Mp w b m e l) {id : Int} (hi : I64 id) (ty : TypeId) :
    ∃ w', (Builtin.delete_ #[t, 3] ty #[.map (some b), .int .i64 id]).run Try.prog w = .ok (.tuple #[]) w' ∧ Mp w' b (if (l id).isSome then m - 1 else m) e (delM l id) ∧ w.grownBy w' (some b) ∧ w'.heap.size = w.heap.size := by
  obtain ⟨D, h1, h2, h3⟩ := h
  obtain ⟨w', hr, ho, ht⟩ := h1.drop law3 M.mt (key3 hi) ty
  have hsz : Maps.size (D.del (.int .i64 id)) = if (l id).isSome then m - 1 else m := by
    have := Maps.size_del (k := .int .i64 id) (h1.tidy law3)
    rw [(h3 id hi).1] at this
    split
    · rename_i e; rw [if_pos e] at this; omega
    · rename_i e; rw [if_neg e] at this; omega
  refine ⟨w', hr, ⟨_, ?_, hsz, fun x hx => ?_⟩, ht.grown, ?_⟩
  · have := own_tight ho
    rwa [hsz] at this
  · unfold delM
    by_cases e : x = id
    · subst e
      rw [if_pos rfl]
      exact ⟨Maps.has_del_same, fun v hv => by cases hv⟩
    · rw [if_neg e]
      have hne : Lit.int .i64 x ≠ Lit.int .i64 id := fun h' => e (by cases h'; rfl)
      obtain ⟨g1, g2⟩ := h3 x hx
      refine ⟨by rw [Maps.has_del_other hne, g1], fun y hy => ⟨(g2 y hy).1, fun z => ?_⟩⟩
      rw [Maps.atKey_del_other hne, (g2 y hy).2 z]
  · obtain ⟨es, c, es', c', hb, rfl⟩ := ht
    simp [setBlock]
open Go.WideElems in
/-- m[k] = v by way of the entry, at a key that is there -/
theorem Mp.entry {w : World} {b m : Nat} {t e : TypeId} {l : Int → Option Int} (M : MT t e) (h : Mp w b m e l) (hm : m < 1000000) {id : Int} (hi : I64 id) (hl : (l id).isSome = true) :
    ∃ (v0 : Value) (st : Int), (Instr.mapEntry t (.map (some b)) (.int .i64 id)).run Try.prog w = .ok (.tuple #[v0, .int .i64 st]) w ∧
      ∀ v, I64 v → ∃ w', (Instr.entryStore t (.map (some b)) (.int .i64 st) (.int .i64 v)).run Try.prog w = .ok () w' ∧ Mp w' b m e (setM l id v) ∧ w.grownBy w' (some b) ∧ w'.heap.size = w.heap.size := by
  have hh := h
  obtain ⟨D, h1, h2, h3⟩ := hh
  have hh1 := h1
  obtain ⟨es, clock, hb, F, hs, hD⟩ := hh1
  obtain ⟨s1, s2, _⟩ := F.stamped
  rcases law3.find w (key3 hi) es.toList F.keys with ⟨k1, k2⟩ | ⟨j, e0, k1, k2, k3⟩
  · exfalso
    have hrun : (Instr.lookup t (.map (some b)) (.int .i64 id) true).run Try.prog w = .ok (.tuple #[.int .i64 0, .bool false]) w := by
      simp [Instr.lookup, run_underlying M.mt, MapKept.run_getObj_map hb, law3.check w _ (key3 hi), k1, M.mz, Result.andThen]
    rw [h.look_ok M hi, hl] at hrun
    simp at hrun
  · have hj : es[j]? = some e0 := by simpa using k2
    have hsame : es.modify j (fun e => { e with key := .int .i64 id }) = es := by
      apply Array.ext'
      rw [Array.toList_modify, modify_eq_set _ _ _ _ k2]
      have : ({ e0 with key := .int .i64 id } : MapEntry) = e0 := by rw [← k3]
      rw [this]
      exact set_self _ _ _ k2
    have hset : w.heap.setIfInBounds b (.map es clock) = w.heap := by
      apply Array.ext'
      rw [Array.toList_setIfInBounds]
      exact set_self _ _ _ (by simpa using hb)
    refine ⟨e0.val, e0.born, ?_, fun v hv => ?_⟩
    · have hw : setBlock w b (.map es clock) = w := by
        unfold setBlock
        rw [hset]
      have := (show (Instr.mapEntry t (.map (some b)) (.int .i64 id)).run Try.prog w = .ok (.tuple #[e0.val, goInt e0.born]) (setBlock w b (.map es clock)) from by
        simp [Instr.mapEntry, run_underlying M.mt, MapKept.run_getObj_map hb, law3.check w false (key3 hi), k1, hj, k3, law3.stays w (key3 hi), hsame, MapKept.run_setObj_map _ hb, Result.andThen, setBlock])
      rw [hw] at this
      exact this
    · obtain ⟨w', hr, r⟩ := h.store M hm hi hv
      rw [if_pos hl] at r
      refine ⟨w', ?_, r⟩
      rw [← hr]
      have hidx : es.findIdx? (fun e => ((e.born : Nat) : Int) == ((e0.born : Nat) : Int)) = some j := by
        rw [findIdx_arr]
        exact findIdx_born s2 k2
      have hmod : es.modify j (fun e => { e with val := .int .i64 v }) = es.modify j (fun e' => { e' with key := .int .i64 id, val := .int .i64 v }) := by
        apply Array.ext'
        rw [Array.toList_modify, Array.toList_modify, modify_eq_set _ _ _ _ k2, modify_eq_set _ _ _ _ k2, ← k3]
      simp [Instr.entryStore, Instr.mapUpdate, run_underlying M.mt, MapKept.run_getObj_map hb, law3.check w false (key3 hi), k1, hj, k3, law3.stays w (key3 hi), asInt, asIntOf, hidx, hmod, MapKept.run_setObj_map _ hb, Result.andThen]
end Go.Proofs.Ytemlanalaihkoaa
