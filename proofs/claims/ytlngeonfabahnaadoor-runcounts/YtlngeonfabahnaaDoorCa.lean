/-
  Maps keyed by letters, as functions; closures that a map holds: plain lemmas, with no walk. Own work.
-/
import Derived.Test.YtlngeonfabahnaaDoorProg
import Derived.Test.YtlngeonfabahnaaDoorPg
import Derived.Test.YtlngeonfabahnaaDoorLow
import Derived.WalkSpells
import Derived.WalkLawsBesides
import Derived.Maps.OwnSet
import Derived.Maps.OwnOps
import Derived.Maps.Keyed
import Derived.Deep.QuietTactic
import Derived.BigQuiet
import Derived.Deep.RegionHeld
namespace Go.Proofs.YtlngeonfabahnaaDoor
open Go.RowKit Go.ChangeMaps
set_option maxRecDepth 100000

theorem law5 : Maps.Keyed Tryd.prog 5 := Maps.int_keyed Tryd.underlying5
def LT (n : Nat) : Prop := n < 256
def lit (n : Nat) : Lit := .int .u8 (n : Int)
theorem lit_inj {s t : Nat} (h : lit s = lit t) : s = t := by
  unfold lit at h
  simp only [Lit.int.injEq, true_and] at h
  omega
theorem key5 {s : Nat} (hs : LT s) : keyOf Tryd.prog 5 (.int .u8 (s : Int)) = some (lit s) := Maps.keyOf_int_mk Tryd.underlying5 (WalkArith.wf_u8 (by unfold LT at hs; omega))
theorem keyLit {s : Nat} (hs : LT s) : WideAt.IsKeyLit (lit s) := law5.key (key5 hs)
/-- an element as it is -/
def rv (v : Value) : Option (DataW Value × List MemPlace) := some (.held v, [])

/-- the map type t has elements of type e, whose nought is z -/
structure MT (t e : TypeId) (z : Value) : Prop where
  mt : Tryd.prog.underlying t = some (.map 5 e)
  mz : ∀ w, (zeroValue e).run Tryd.prog w = .ok z w
theorem mt74 : MT 74 80 .nilFunc := ⟨Tryd.underlying74, fun w => by kernel_rfl⟩

abbrev MF := Nat → Option Value
def setM (l : MF) (k : Nat) (v : Value) : MF := fun x => if x = k then some v else l x
def delM (l : MF) (k : Nat) : MF := fun x => if x = k then none else l x
/-- what is held is what l tells -/
def HoldsM (D : DataW Value) (l : MF) : Prop := ∀ s : Nat, LT s → Maps.has D (lit s) = (l s).isSome ∧ ∀ v, l s = some v → ∀ z, D.atKey (lit s) z = .held v
/-- block b is a map of m entries, which are those of l -/
def Mp (w : World) (b m : Nat) (l : MF) : Prop :=
  ∃ D, w.ownsMap (H := Value) Tryd.prog 5 rv b m D ∧ Maps.size D = m ∧ HoldsM D l

theorem own_tight {w : World} {b n : Nat} {D : DataW Value} (h : w.ownsMap Tryd.prog 5 rv b n D) : w.ownsMap Tryd.prog 5 rv b (Maps.size D) D := by
  obtain ⟨es, clock, hb, F, hs, rfl⟩ := h
  exact ⟨es, clock, hb, F, by simp [Maps.size, length_sorted], rfl⟩
theorem Mp.made (w : World) : Mp (w.alloc (.map #[] 0)) w.heap.size 0 (fun _ => none) :=
  ⟨_, World.ownsMap_made _ _ _ _, rfl, fun id _ => ⟨rfl, fun v h => by cases h⟩⟩
theorem Mp.lt {w : World} {b m : Nat} {l : MF} (h : Mp w b m l) : b < w.heap.size := by
  obtain ⟨D, h1, -⟩ := h
  exact h1.lt
theorem Mp.isMap {w : World} {b m : Nat} {l : MF} (h : Mp w b m l) : ∃ es c, w.heap[b]? = some (.map es c) := by
  obtain ⟨D, ⟨es, c, hb, -⟩, -⟩ := h
  exact ⟨es, c, hb⟩
theorem Mp.heap {w w' : World} {b m : Nat} {l : MF} (h : Mp w b m l) (hk : w'.heap[b]? = w.heap[b]?) : Mp w' b m l := by
  obtain ⟨D, ⟨es, c, hb, r⟩, h2⟩ := h
  exact ⟨D, ⟨es, c, hk.trans hb, r⟩, h2⟩
theorem Mp.congr {w : World} {b m : Nat} {l l' : MF} (h : Mp w b m l) (hl : ∀ s : Nat, LT s → l' s = l s) : Mp w b m l' := by
  obtain ⟨D, h1, h2, h3⟩ := h
  exact ⟨D, h1, h2, fun id hi => by rw [hl id hi]; exact h3 id hi⟩
theorem Mp.look_ok {w : World} {b m : Nat} {t e : TypeId} {z : Value} {l : MF} (M : MT t e z) (h : Mp w b m l) {s : Nat} (hs : LT s) :
    (Instr.lookup t (.map (some b)) (.int .u8 (s : Int)) true).run Tryd.prog w = .ok (.tuple #[(l s).getD z, .bool (l s).isSome]) w := by
  obtain ⟨D, h1, h2, h3⟩ := h
  obtain ⟨h4, h5⟩ := h3 s hs
  obtain ⟨v, ps, hr, hv⟩ := h1.look_ok law5 M.mt (M.mz w) (zd := .held z) (zp := []) rfl (key5 hs)
  rw [hr, h4]
  cases hl : l s with
  | none =>
    rw [hl] at h4
    rw [Maps.atKey_of_not_has h4] at hv
    unfold rv at hv
    simp only [Option.some.injEq, Prod.mk.injEq, DataW.held.injEq] at hv
    rw [hv.1]; rfl
  | some x =>
    rw [h5 x hl] at hv
    unfold rv at hv
    simp only [Option.some.injEq, Prod.mk.injEq, DataW.held.injEq] at hv
    rw [hv.1]; rfl
theorem Mp.look {w : World} {b m : Nat} {t e : TypeId} {z : Value} {l : MF} (M : MT t e z) (h : Mp w b m l) {s : Nat} (hs : LT s) :
    (Instr.lookup t (.map (some b)) (.int .u8 (s : Int)) false).run Tryd.prog w = .ok ((l s).getD z) w := by
  have hh := h
  obtain ⟨D, ⟨es, clock, hb, F, _, rfl⟩, h2, h3⟩ := hh
  obtain ⟨h4, h5⟩ := h3 s hs
  rcases Maps.fit_look false law5 M.mt (M.mz w) hb F (key5 hs) with ⟨hrun, _, hat⟩ | ⟨e0, y, _, _, hrun, hRv, hat, _⟩
  · rw [Maps.has_false_of_atKey hat] at h4
    have : l s = none := by cases hl : l s with
      | none => rfl
      | some x => rw [hl] at h4; cases h4
    rw [this]
    exact hrun
  · rw [Maps.has_true_of_atKey hat] at h4
    obtain ⟨x, hx⟩ := Option.isSome_iff_exists.1 h4.symm
    have h6 := h5 x hx (.held z)
    rw [hat] at h6
    unfold rv at hRv
    have hRv := Option.some.inj hRv
    rw [hx]
    have : e0.val = x := by
      rw [← hRv] at h6
      simpa using h6
    rw [this] at hrun
    exact hrun
theorem Mp.len {w : World} {b m : Nat} {t e : TypeId} {z : Value} {l : MF} (M : MT t e z) (h : Mp w b m l) (ty : TypeId) : (Builtin.len_ #[t] ty #[.map (some b)]).run Tryd.prog w = .ok (.int .i64 m) w := by
  obtain ⟨D, h1, h2, -⟩ := h
  rw [h1.len M.mt ty, h2]
theorem put_l {D : DataW Value} {l : MF} (hm : Maps.IsMap D) {s : Nat} {v : Value} (hs : LT s) (h : HoldsM D l) : HoldsM (D.put (lit s) (.held v)) (setM l s v) := by
  intro x hx
  unfold setM
  by_cases e : x = s
  · subst e
    rw [if_pos rfl]
    refine ⟨Maps.has_put_same hm (keyLit hx) _, fun y hy z => ?_⟩
    have hy := Option.some.inj hy
    subst hy
    exact Maps.atKey_put_same hm (keyLit hx) _ _
  · rw [if_neg e]
    have hne : lit x ≠ lit s := fun h' => e (lit_inj h')
    obtain ⟨h1, h2⟩ := h x hx
    refine ⟨by rw [Maps.has_put_other hne, h1], fun y hy z => ?_⟩
    rw [Maps.atKey_put_other hne, h2 y hy z]
theorem Mp.store {w : World} {b m : Nat} {t e : TypeId} {z : Value} {l : MF} (M : MT t e z) (h : Mp w b m l) (hm : m < 1000000) {s : Nat} (hs : LT s) (v : Value) :
    ∃ w', (Instr.mapUpdate t (.map (some b)) (.int .u8 (s : Int)) v).run Tryd.prog w = .ok () w' ∧ Mp w' b (if (l s).isSome then m else m + 1) (setM l s v) ∧ w.grownBy w' (some b) ∧ w'.heap.size = w.heap.size := by
  obtain ⟨D, h1, h2, h3⟩ := h
  obtain ⟨w', hr, ho, ht⟩ := h1.store law5 M.mt (by unfold maxLen; omega) (key5 hs) (d := .held v) (ps := []) rfl
  refine ⟨w', hr, ⟨_, ?_, ?_, put_l h1.isMap hs h3⟩, ht.grown, ?_⟩
  · have := own_tight ho
    rwa [Maps.size_put (h1.tidy law5), (h3 s hs).1, h2] at this
  · rw [Maps.size_put (h1.tidy law5), (h3 s hs).1, h2]
  · obtain ⟨es, c, es', c', hb, rfl⟩ := ht
    simp [setBlock]
end Go.Proofs.YtlngeonfabahnaaDoor
