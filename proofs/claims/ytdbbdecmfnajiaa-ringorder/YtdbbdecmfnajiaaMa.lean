/-
  What memory is changed, rows of a call's own; maps keyed by texts, as functions: plain lemmas, with no walk. Own work.
-/
import Derived.Test.YtdbbdecmfnajiaaRows
import Derived.WalkKit
import Derived.WalkSpells
import Derived.WalkLawsBesides
import Derived.Laws.AppendOwnNone
import Derived.Maps.OwnSet
import Derived.Maps.OwnOps
import Derived.Maps.RangeWalk
import Derived.StringKeys
namespace Go.Proofs.Ytdbbdecmfnajiaa
open Go.RowKit Go.ChangeMaps
set_option maxRecDepth 100000

theorem hide {p : Prop} (h : p) : Hid p := h
/-- a name for a term, kept from the walk -/
theorem named {α : Type} (a : α) : ∃ x, Hid (x = a) := ⟨a, rfl⟩
theorem ret_int {k : IntKind} {a b : Int} (h : a = b) : Ending.returned (.int k a) = .returned (.int k b) := by rw [h]
theorem ret_bool {a b : Bool} (h : a = b) : Ending.returned (.bool a) = .returned (.bool b) := by rw [h]
def I64 (x : Int) : Prop := -9223372036854775808 ≤ x ∧ x ≤ 9223372036854775807

/-- what has been changed lies in F, or is new -/
structure Chg (F : Nat → Prop) (w w' : World) : Prop where
  os : w'.os = w.os
  tape : w'.tape = w.tape
  output : w'.output = w.output
  size : w.heap.size ≤ w'.heap.size
  block : ∀ k, k < w.heap.size → ¬ F k → w'.heap[k]? = w.heap[k]?

theorem Chg.refl (F : Nat → Prop) (w : World) : Chg F w w := ⟨rfl, rfl, rfl, Nat.le_refl _, fun _ _ _ => rfl⟩
theorem Chg.trans {F G : Nat → Prop} {a b c : World} (h : Chg F a b) (k : Chg G b c) (hg : ∀ i, i < a.heap.size → G i → F i) : Chg F a c :=
  ⟨k.os.trans h.os, k.tape.trans h.tape, k.output.trans h.output, Nat.le_trans h.size k.size, fun i hi hf => (k.block i (Nat.lt_of_lt_of_le hi h.size) (fun hG => hf (hg i hi hG))).trans (h.block i hi hf)⟩
theorem Chg.mono {F G : Nat → Prop} {a b : World} (h : Chg F a b) (hg : ∀ i, i < a.heap.size → F i → G i) : Chg G a b :=
  ⟨h.os, h.tape, h.output, h.size, fun i hi hG => h.block i hi (fun hF => hG (hg i hi hF))⟩
theorem Chg.below {F : Nat → Prop} {w w' : World} (h : Chg F w w') (B : Nat) (hB : ∀ k, F k → B ≤ k) (hw : B ≤ w.heap.size) : Below B w w' :=
  ⟨h.os, h.tape, h.output, h.size, fun k hk => h.block k (by omega) (fun hF => by have := hB k hF; omega)⟩
theorem Chg.ofBelow {w w' : World} (h : Below w.heap.size w w') (F : Nat → Prop) : Chg F w w' :=
  ⟨h.os, h.tape, h.output, h.size, fun k hk _ => h.block k hk⟩
theorem Chg.drew {F : Nat → Prop} {a w : World} (h : Chg F a w) : Chg F a w.drew := ⟨h.os, h.tape, h.output, h.size, h.block⟩
theorem Chg.alloc {F : Nat → Prop} {a w : World} (h : Chg F a w) (o : Obj) : Chg F a (w.alloc o) :=
  ⟨h.os, h.tape, h.output, by have := h.size; simp; omega, fun k hk hF => (Below.heap_alloc _ _ _ (by have := h.size; omega)).trans (h.block k hk hF)⟩
theorem Chg.setCell {F : Nat → Prop} {a w : World} (h : Chg F a w) {p : Addr} (hp : F p.block ∨ a.heap.size ≤ p.block) (u : Value) : Chg F a (w.setCell p u) :=
  ⟨h.os, h.tape, h.output, by have := h.size; simp [World.setCell]; omega, fun k hk hF => by
    rw [Below.heap_setCell _ _ _ _ (by rintro rfl; rcases hp with hp | hp; exact hF hp; omega)]
    exact h.block k hk hF⟩
theorem Chg.grown {F : Nat → Prop} {a w w' : World} {row : Option Nat} (h : Chg F a w) (hg : w.grownBy w' row) (hr : ∀ k, row = some k → F k ∨ a.heap.size ≤ k) : Chg F a w' :=
  ⟨hg.os.trans h.os, hg.tape.trans h.tape, hg.output.trans h.output, Nat.le_trans h.size hg.size, fun k hk hF =>
    (hg.block k (by have := h.size; omega) (fun e => by rcases hr k e.symm with x | x; exact hF x; omega)).trans (h.block k hk hF)⟩
theorem Chg.cell {F : Nat → Prop} {w w' : World} (h : Chg F w w') {b : Nat} (hl : b < w.heap.size) (hb : ¬ F b) (o : Nat) : w'.cell? ⟨b, o, none⟩ = w.cell? ⟨b, o, none⟩ := World.cell?_of_block (w := w) (a := ⟨b, o, none⟩) (h.block b hl hb)
theorem Chg.frozen {F : Nat → Prop} {w w' : World} (h : Chg F w w') {b : Nat} (hl : b < w.heap.size) (hb : ¬ F b) (o : Nat) : w'.frozen? ⟨b, o, none⟩ = w.frozen? ⟨b, o, none⟩ := World.frozen?_of_block (w := w) (a := ⟨b, o, none⟩) (h.block b hl hb)
theorem grownBy.drew {a b : World} {r : Option Nat} (h : a.grownBy b r) : a.grownBy b.drew r := ⟨h.os, h.tape, h.output, h.size, h.block⟩
theorem grownBy.ofDrew {a b : World} {r : Option Nat} (h : a.drew.grownBy b r) : a.grownBy b r := ⟨h.os, h.tape, h.output, h.size, h.block⟩

theorem cell_of {w : World} {b : Nat} {cur : Array Value} {t : TypeId} (h : w.heap[b]? = some (.cells cur t (0, 0))) (o : Nat) : w.cell? ⟨b, o, none⟩ = cur[o]? := by
  simp [World.cell?, h]
theorem frozen_of {w : World} {b : Nat} {cur : Array Value} {t : TypeId} (h : w.heap[b]? = some (.cells cur t (0, 0))) (o : Nat) : w.frozen? ⟨b, o, none⟩ = false := by
  simp [World.frozen?, h]
theorem lt_of {w : World} {b : Nat} {o : Obj} (h : w.heap[b]? = some o) : b < w.heap.size := (Array.getElem?_eq_some_iff.1 h).1
theorem rowHeap {w w' : World} {v : Value} {e k n : Nat} {xs : List Value} (h : w.ownsRow 0 e k v n xs) (hk : ∀ a, v.ownBlock = some a → w'.heap[a]? = w.heap[a]?) : w'.ownsRow 0 e k v n xs := by
  refine ⟨h.1, ?_⟩
  rcases h.2 with h2 | ⟨g, cap, cur, hv, hb2, hg, r⟩
  · exact .inl h2
  · exact .inr ⟨g, cap, cur, hv, hb2, by rw [hk g (by rw [hv]; rfl)]; exact hg, r⟩
theorem row_elem {w : World} {v : Value} {e k n : Nat} {xs : List Value} (h : w.ownsRow 0 e k v n xs) {a : Nat} (ha : v.ownBlock = some a) : ∃ cur, w.heap[a]? = some (.cells cur e (0, 0)) := by
  rcases h.2 with ⟨rfl, _⟩ | ⟨g, cap, cur, rfl, _, hg, _⟩
  · cases ha
  · cases ha; exact ⟨cur, hg⟩
theorem ne_of_elem {w : World} {a b : Nat} {c d : Array Value} {e f : TypeId} (ha : w.heap[a]? = some (.cells c e (0, 0))) (hb : w.heap[b]? = some (.cells d f (0, 0))) (hne : e ≠ f) : a ≠ b := by
  rintro rfl
  rw [ha] at hb
  cases hb
  exact hne rfl

theorem run_append_own' {P : Program} (w : World) (base : Nat) (t ty e : TypeId) (i : TypeInfo) (z : Value) (size bytes : Nat) (ht : P.underlying t = some (.slice e)) (hi : P.info? e = some i) (hz : i.zero = some z)
    (hsize : i.size = size) (hby : i.bytes = bytes) (hzs : z.cells.size = size) (hsz : 0 < size)
    (v : Value) (n : Nat) (xs : List Value) (hown : w.ownsRow base e size v n xs)
    (a : Addr) (m c : Nat) (news : List Value) (hl : news.length = m * size) (hnews : ∀ j u, news[j]? = some u → w.cell? (a.add j) = some u) (h1 : ∀ u ∈ news, u.oneCell' = true)
    (h63 : n + m ≤ maxLen) (hbytes : (n + m) * bytes ≤ 140737488355328) (hbase : base ≤ w.heap.size) :
    ∃ v' w', (Builtin.append_ #[t, t] ty #[v, .slice (some a) m c]).run P w = .ok v' w' ∧ w'.ownsRow base e size v' (n + m) (xs ++ news) ∧ w.grownBy w' v.ownBlock ∧
      (v'.ownBlock = v.ownBlock ∨ v'.ownBlock = some w.heap.size) := by
  obtain ⟨v', w', hr, ho, hg, _⟩ := run_append_own (P := P) w base t ty e i z size bytes ht hi hz hsize hby hzs hsz v n xs hown a m c news hl hnews h1 h63 hbytes hbase
  refine ⟨v', w', hr, ho, hg, ?_⟩
  have hsmall : n + m ≤ 9223372036854775807 := by simp only [maxLen] at h63; omega
  subst hsize
  subst hby
  rcases hown.2 with ⟨rfl, rfl⟩ | ⟨g, cap, cur, rfl, hbg, hgg, hnc, hcm, hcs, htake⟩
  · by_cases hm : m = 0
    · subst hm
      have hn : news = [] := List.eq_nil_of_length_eq_zero (by simpa using hl)
      subst hn
      have hrun : (Builtin.append_ #[t, t] ty #[.slice none 0 0, .slice (some a) 0 c]).run P w = .ok (.slice none 0 0) w := by
        simp [Builtin.append_, run_underlying ht, sizeOf, typeInfo, hi, Builtin.lenOf, Builtin.firstCells, loadCells, loadCellsFrom]
      rw [hrun] at hr
      cases hr
      exact .inl rfl
    · have hrun := run_append_nil (P := P) w t ty e i z ht hi hz a m c news hl hnews (by omega) (by omega) (by have hb := hbytes; simp only [Nat.zero_add] at hb; omega)
      rw [hrun] at hr
      cases hr
      exact .inr rfl
  · by_cases hroom : n + m ≤ cap
    · have hfit : n * i.size + news.length ≤ cur.size := by rw [hl, hcs, ← Nat.add_mul]; exact Nat.mul_le_mul_right _ hroom
      have hrun := run_append_room (P := P) w t ty e i ht hi g n cap cur hgg a m c news hl hnews h1 hroom hfit
      rw [hrun] at hr
      cases hr
      exact .inl rfl
    · have holds : ∀ j u, xs[j]? = some u → w.cell? ((⟨g, 0, none⟩ : Addr).add j) = some u := hown.cells (g := g) rfl
      have hrun := run_append_grow (P := P) w t ty e i z ht hi hz ⟨g, 0, none⟩ n cap xs hown.1 holds a m c news hl hnews (by omega) (by omega) (growslice_fits (by omega) hbytes)
      rw [hrun] at hr
      cases hr
      exact .inr rfl


/-! maps keyed by texts -/
theorem law9 : Maps.Keyed Try.prog 9 := Maps.string_keyed Try.underlying9
def lit (s : ByteArray) : Lit := .string s.data.toList
theorem lit_inj {s t : ByteArray} (h : lit s = lit t) : s = t := by
  unfold lit at h
  cases s; cases t
  simp only [Lit.string.injEq] at h
  congr 1
  exact Array.toList_inj.1 h
theorem key9 {s : ByteArray} (hs : s.size ≤ maxLen) : keyOf Try.prog 9 (.string s) = some (lit s) := WideMaps.keyOf_string_mk Try.underlying9 hs
theorem keyLit {s : ByteArray} (hs : s.size ≤ maxLen) : WideAt.IsKeyLit (lit s) := law9.key (key9 hs)
theorem key_inv {key : Value} {kl : Lit} (h : keyOf Try.prog 9 key = some kl) : ∃ s : ByteArray, key = .string s ∧ s.size ≤ maxLen ∧ kl = lit s := by
  have h' := h
  cases key <;> simp [keyOf, Try.underlying9, mapKey] at h
  rename_i s
  exact ⟨s, rfl, h.1, h.2.symm⟩
/-- an element as it is -/
def rv (v : Value) : Option (DataW Value × List MemPlace) := some (.held v, [])

/-- the map type t has elements of type e, whose nought is z -/
structure MT (t e : TypeId) (z : Value) : Prop where
  mt : Try.prog.underlying t = some (.map 9 e)
  mz : ∀ w, (zeroValue e).run Try.prog w = .ok z w
theorem mt70 : MT 70 89 (.pointer none) := ⟨Try.underlying70, fun w => by kernel_rfl⟩
theorem mt63 : MT 63 22 (.slice none 0 0) := ⟨Try.underlying63, fun w => by kernel_rfl⟩

abbrev MF := ByteArray → Option Value
def setM (l : MF) (k : ByteArray) (v : Value) : MF := fun x => if x = k then some v else l x
def delM (l : MF) (k : ByteArray) : MF := fun x => if x = k then none else l x
/-- what is held is what l tells -/
def HoldsM (D : DataW Value) (l : MF) : Prop := ∀ s : ByteArray, s.size ≤ maxLen → Maps.has D (lit s) = (l s).isSome ∧ ∀ v, l s = some v → ∀ z, D.atKey (lit s) z = .held v
/-- block b is a map of m entries, which are those of l -/
def Mp (w : World) (b m : Nat) (l : MF) : Prop :=
  ∃ D, w.ownsMap (H := Value) Try.prog 9 rv b m D ∧ Maps.size D = m ∧ HoldsM D l

theorem own_tight {w : World} {b n : Nat} {D : DataW Value} (h : w.ownsMap Try.prog 9 rv b n D) : w.ownsMap Try.prog 9 rv b (Maps.size D) D := by
  obtain ⟨es, clock, hb, F, hs, rfl⟩ := h
  exact ⟨es, clock, hb, F, by simp [Maps.size, length_sorted], rfl⟩
theorem Mp.made (w : World) : Mp (w.alloc (.map #[] 0)) w.heap.size 0 (fun _ => none) :=
  ⟨_, World.ownsMap_made _ _ _ _, rfl, fun id _ => ⟨rfl, fun v h => by cases h⟩⟩
theorem Mp.lt {w : World} {b m : Nat} {l : MF} (h : Mp w b m l) : b < w.heap.size := by
  obtain ⟨D, h1, -⟩ := h
  exact h1.lt
theorem Mp.isMap {w : World} {b m : Nat} {l : MF} (h : Mp w b m l) : ∃ es c, w.heap[b]? = some (.map es c) := by
  obtain ⟨D, ⟨es, c, hb, -⟩, -⟩ := h
  exact ⟨es, c, hb⟩
theorem Mp.heap {w w' : World} {b m : Nat} {l : MF} (h : Mp w b m l) (hk : w'.heap[b]? = w.heap[b]?) : Mp w' b m l := by
  obtain ⟨D, ⟨es, c, hb, r⟩, h2⟩ := h
  exact ⟨D, ⟨es, c, hk.trans hb, r⟩, h2⟩
theorem Mp.congr {w : World} {b m : Nat} {l l' : MF} (h : Mp w b m l) (hl : ∀ s : ByteArray, s.size ≤ maxLen → l' s = l s) : Mp w b m l' := by
  obtain ⟨D, h1, h2, h3⟩ := h
  exact ⟨D, h1, h2, fun id hi => by rw [hl id hi]; exact h3 id hi⟩
theorem Mp.look_ok {w : World} {b m : Nat} {t e : TypeId} {z : Value} {l : MF} (M : MT t e z) (h : Mp w b m l) {s : ByteArray} (hs : s.size ≤ maxLen) :
    (Instr.lookup t (.map (some b)) (.string s) true).run Try.prog w = .ok (.tuple #[(l s).getD z, .bool (l s).isSome]) w := by
  obtain ⟨D, h1, h2, h3⟩ := h
  obtain ⟨h4, h5⟩ := h3 s hs
  obtain ⟨v, ps, hr, hv⟩ := h1.look_ok law9 M.mt (M.mz w) (zd := .held z) (zp := []) rfl (key9 hs)
  rw [hr, h4]
  cases hl : l s with
  | none =>
    rw [hl] at h4
    rw [Maps.atKey_of_not_has h4] at hv
    unfold rv at hv
    simp only [Option.some.injEq, Prod.mk.injEq, DataW.held.injEq] at hv
    rw [hv.1]; rfl
  | some x =>
    rw [h5 x hl] at hv
    unfold rv at hv
    simp only [Option.some.injEq, Prod.mk.injEq, DataW.held.injEq] at hv
    rw [hv.1]; rfl
theorem Mp.look {w : World} {b m : Nat} {t e : TypeId} {z : Value} {l : MF} (M : MT t e z) (h : Mp w b m l) {s : ByteArray} (hs : s.size ≤ maxLen) :
    (Instr.lookup t (.map (some b)) (.string s) false).run Try.prog w = .ok ((l s).getD z) w := by
  have hh := h
  obtain ⟨D, ⟨es, clock, hb, F, _, rfl⟩, h2, h3⟩ := hh
  obtain ⟨h4, h5⟩ := h3 s hs
  rcases Maps.fit_look false law9 M.mt (M.mz w) hb F (key9 hs) with ⟨hrun, _, hat⟩ | ⟨e0, y, _, _, hrun, hRv, hat, _⟩
  · rw [Maps.has_false_of_atKey hat] at h4
    have : l s = none := by cases hl : l s with
      | none => rfl
      | some x => rw [hl] at h4; cases h4
    rw [this]
    exact hrun
  · rw [Maps.has_true_of_atKey hat] at h4
    obtain ⟨x, hx⟩ := Option.isSome_iff_exists.1 h4.symm
    have h6 := h5 x hx (.held z)
    rw [hat] at h6
    unfold rv at hRv
    have hRv := Option.some.inj hRv
    rw [hx]
    have : e0.val = x := by
      rw [← hRv] at h6
      simpa using h6
    rw [this] at hrun
    exact hrun
theorem Mp.len {w : World} {b m : Nat} {t e : TypeId} {z : Value} {l : MF} (M : MT t e z) (h : Mp w b m l) (ty : TypeId) : (Builtin.len_ #[t] ty #[.map (some b)]).run Try.prog w = .ok (.int .i64 m) w := by
  obtain ⟨D, h1, h2, -⟩ := h
  rw [h1.len M.mt ty, h2]
theorem put_l {D : DataW Value} {l : MF} (hm : Maps.IsMap D) {s : ByteArray} {v : Value} (hs : s.size ≤ maxLen) (h : HoldsM D l) : HoldsM (D.put (lit s) (.held v)) (setM l s v) := by
  intro x hx
  unfold setM
  by_cases e : x = s
  · subst e
    rw [if_pos rfl]
    refine ⟨Maps.has_put_same hm (keyLit hx) _, fun y hy z => ?_⟩
    have hy := Option.some.inj hy
    subst hy
    exact Maps.atKey_put_same hm (keyLit hx) _ _
  · rw [if_neg e]
    have hne : lit x ≠ lit s := fun h' => e (lit_inj h')
    obtain ⟨h1, h2⟩ := h x hx
    refine ⟨by rw [Maps.has_put_other hne, h1], fun y hy z => ?_⟩
    rw [Maps.atKey_put_other hne, h2 y hy z]
theorem Mp.store {w : World} {b m : Nat} {t e : TypeId} {z : Value} {l : MF} (M : MT t e z) (h : Mp w b m l) (hm : m < 1000000) {s : ByteArray} (hs : s.size ≤ maxLen) (v : Value) :
    ∃ w', (Instr.mapUpdate t (.map (some b)) (.string s) v).run Try.prog w = .ok () w' ∧ Mp w' b (if (l s).isSome then m else m + 1) (setM l s v) ∧ w.grownBy w' (some b) ∧ w'.heap.size = w.heap.size := by
  obtain ⟨D, h1, h2, h3⟩ := h
  obtain ⟨w', hr, ho, ht⟩ := h1.store law9 M.mt (by unfold maxLen; omega) (key9 hs) (d := .held v) (ps := []) rfl
  refine ⟨w', hr, ⟨_, ?_, ?_, put_l h1.isMap hs h3⟩, ht.grown, ?_⟩
  · have := own_tight ho
    rwa [Maps.size_put (h1.tidy law9), (h3 s hs).1, h2] at this
  · rw [Maps.size_put (h1.tidy law9), (h3 s hs).1, h2]
  · obtain ⟨es, c, es', c', hb, rfl⟩ := ht
    simp [setBlock]
theorem Mp.drop {w : World} {b m : Nat} {t e : TypeId} {z : Value} {l : MF} (M : MT t e z) (h : Mp w b m l) {s : ByteArray} (hs : s.size ≤ maxLen) (ty : TypeId) :
    ∃ w', (Builtin.delete_ #[t, 9] ty #[.map (some b), .string s]).run Try.prog w = .ok (.tuple #[]) w' ∧ Mp w' b (if (l s).isSome then m - 1 else m) (delM l s) ∧ w.grownBy w' (some b) ∧ w'.heap.size = w.heap.size := by
  obtain ⟨D, h1, h2, h3⟩ := h
  obtain ⟨w', hr, ho, ht⟩ := h1.drop law9 M.mt (key9 hs) ty
  have hsz : Maps.size (D.del (lit s)) = if (l s).isSome then m - 1 else m := by
    have := Maps.size_del (k := lit s) (h1.tidy law9)
    rw [(h3 s hs).1] at this
    split
    · rename_i e; rw [if_pos e] at this; omega
    · rename_i e; rw [if_neg e] at this; omega
  refine ⟨w', hr, ⟨_, ?_, hsz, fun x hx => ?_⟩, ht.grown, ?_⟩
  · have := own_tight ho
    rwa [hsz] at this
  · unfold delM
    by_cases e : x = s
    · subst e
      rw [if_pos rfl]
      exact ⟨Maps.has_del_same, fun v hv => by cases hv⟩
    · rw [if_neg e]
      have hne : lit x ≠ lit s := fun h' => e (lit_inj h')
      obtain ⟨g1, g2⟩ := h3 x hx
      refine ⟨by rw [Maps.has_del_other hne, g1], fun y hy z => ?_⟩
      rw [Maps.atKey_del_other hne, g2 y hy z]
  · obtain ⟨es, c, es', c', hb, rfl⟩ := ht
    simp [setBlock]

/-- a range over a map, under way: 'left' tells which texts are still to come -/
def Rng (w : World) (b r m : Nat) (l : MF) (left : ByteArray → Bool) (cnt : Nat) : Prop :=
  ∃ D lf, w.ranges (H := Value) Try.prog 9 rv b r m D lf cnt ∧ Maps.size D = m ∧ HoldsM D l ∧ (∀ s : ByteArray, s.size ≤ maxLen → left s = lf (lit s)) ∧ ∀ kl, lf kl = true → ∃ s : ByteArray, s.size ≤ maxLen ∧ kl = lit s
theorem Rng.mp {w : World} {b r m cnt : Nat} {l : MF} {left : ByteArray → Bool} (h : Rng w b r m l left cnt) : Mp w b m l := by
  obtain ⟨D, lf, h1, h2, h3, -⟩ := h
  exact ⟨D, h1.owns, h2, h3⟩
theorem Rng.lt {w : World} {b r m cnt : Nat} {l : MF} {left : ByteArray → Bool} (h : Rng w b r m l left cnt) : r < w.heap.size := by
  obtain ⟨D, lf, h1, -⟩ := h
  exact h1.lt
theorem Rng.left_eq {w : World} {b r m cnt : Nat} {l : MF} {left : ByteArray → Bool} (h : Rng w b r m l left cnt) : w.rangeLeft b r = cnt := by
  obtain ⟨D, lf, h1, -⟩ := h
  exact h1.left_eq
theorem Rng.kept {w w' : World} {b r m cnt : Nat} {l : MF} {left : ByteArray → Bool} {row : Option Nat} (h : Rng w b r m l left cnt) (hg : w.grownBy w' row) (hb : some b ≠ row) (hr : some r ≠ row) : Rng w' b r m l left cnt := by
  obtain ⟨D, lf, h1, h2⟩ := h
  exact ⟨D, lf, h1.kept hg hb hr, h2⟩
theorem Mp.range {w : World} {b m : Nat} {t e : TypeId} {z : Value} {l : MF} (M : MT t e z) (h : Mp w b m l) :
    ∃ w', (Instr.range t (.map (some b))).run Try.prog w = .ok (.pointer (some ⟨w.heap.size, 0, none⟩)) w' ∧ Rng w' b w.heap.size m l (fun s => (l s).isSome && decide (s.size ≤ maxLen)) m ∧ w.grownBy w' none ∧ w'.heap.size = w.heap.size + 1 := by
  obtain ⟨D, h1, h2, h3⟩ := h
  obtain ⟨w', hr, h4, h5, h6⟩ := h1.range law9 M.mt
  rw [h2] at h4
  refine ⟨w', hr, ⟨D, Maps.has D, h4, h2, h3, fun s hs => by rw [(h3 s hs).1]; simp [hs], fun kl hk => ?_⟩, h5, h6⟩
  obtain ⟨es, clock, _, F, _, rfl⟩ := h1
  obtain ⟨p, hp, hpk⟩ := List.any_eq_true.1 hk
  obtain ⟨x, hx, rfl⟩ := List.mem_map.1 (mem_sorted.1 hp)
  obtain ⟨y, hy⟩ := F.reads x hx
  obtain ⟨s, -, hs, hl⟩ := key_inv (WideElems.rd_key hy)
  refine ⟨s, hs, ?_⟩
  rw [← WideAt.sameKey_eq hpk, WideElems.rg_of hy, hl]
theorem Rng.next {w : World} {b r m cnt : Nat} {l : MF} {left : ByteArray → Bool} (h : Rng w b r m l left cnt) (ty : TypeId) :
    (cnt = 0 ∧ (∀ s : ByteArray, s.size ≤ maxLen → left s = false) ∧ (Instr.next (.pointer (some ⟨r, 0, none⟩)) false ty).run Try.prog w = .ok (.tuple #[.bool false]) w) ∨
    ∃ (s : ByteArray) (v : Value) (w' : World) (cnt' : Nat), s.size ≤ maxLen ∧ left s = true ∧ l s = some v ∧ (Instr.next (.pointer (some ⟨r, 0, none⟩)) false ty).run Try.prog w = .ok (.tuple #[.bool true, .string s, v]) w' ∧
      Rng w' b r m l (fun x => left x && decide (x ≠ s)) cnt' ∧ cnt' < cnt ∧ w.grownBy w' (some r) ∧ w'.heap.size = w.heap.size ∧ (Instr.entry (.pointer (some ⟨r, 0, none⟩))).run Try.prog w' = .ok (.tuple #[.string s, v]) w' := by
  obtain ⟨D, lf, h1, h2, h3, h4, h5⟩ := h
  rcases h1.next law9 ty with ⟨c0, hl, hrun⟩ | ⟨key, v, kl, y, w', cnt', hkey, hlk, hv, hat, hrun, hrg, hlt, hgr, hsz, hen⟩
  · exact .inl ⟨c0, fun s hs => by rw [h4 s hs, hl], hrun⟩
  · obtain ⟨s, rfl, hs, rfl⟩ := key_inv hkey
    have hls : l s = some v := by
      obtain ⟨g1, g2⟩ := h3 s hs
      unfold rv at hv
      simp only [Option.some.injEq] at hv
      subst hv
      cases hl : l s with
      | none =>
        rw [hl] at g1
        have q1 := hat (.held (.bool true))
        have q2 := hat (.held (.bool false))
        have q3 := Maps.atKey_of_not_has (D := D) (k := lit s) (z := .held (.bool true)) g1
        rw [q1] at q3
        have q4 := Maps.atKey_of_not_has (D := D) (k := lit s) (z := .held (.bool false)) g1
        rw [q2] at q4
        rw [q3] at q4
        simp at q4
      | some x =>
        have := g2 x hl (.held .nilFunc)
        rw [hat] at this
        simp only [DataW.held.injEq] at this
        rw [this]
    refine .inr ⟨s, v, w', cnt', hs, by rw [h4 s hs]; exact hlk, hls, hrun, ⟨D, _, hrg, h2, h3, fun x hx => ?_, fun kl hk => h5 kl (by simp at hk; exact hk.1)⟩, hlt, hgr, hsz, hen⟩
    show (left x && decide (x ≠ s)) = _
    rw [h4 x hx]
    congr 1
    by_cases e : x = s
    · subst e
      rw [WideAt.sameKey_self (keyLit hx)]
      simp
    · have : (lit x).sameKey (lit s) = false := by
        cases hsk : (lit x).sameKey (lit s) with
        | false => rfl
        | true => exact absurd (lit_inj (WideAt.sameKey_eq hsk)) e
      rw [this]
      simp [e]
end Go.Proofs.Ytdbbdecmfnajiaa
