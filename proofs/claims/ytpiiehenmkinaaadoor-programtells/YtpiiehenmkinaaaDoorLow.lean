/-
  Small facts: string(b) under a name, a literal as what is read, what a call leaves. Own work.
-/
import Derived.Test.YtpiiehenmkinaaaDoorWf
namespace Go.Proofs.YtpiiehenmkinaaaDoor
open Go.RowKit

/-- string(b), under a name that the walk does not lay open -/
def toStr (v : Value) : Sem Value := convert 25 9 v
theorem run_toStr (v : Value) (w : World) : (convert 25 9 v).run Tryd.prog w = (toStr v).run Tryd.prog w := rfl
theorem run_str (w : World) (v : Value) (l : List UInt8) (h : Rd w v l) : (toStr v).run Tryd.prog w = .ok (.string ⟨l.toArray⟩) w := by
  unfold toStr
  obtain ⟨ao, cap, rfl, h1, h2, h3, h4⟩ := h
  cases ao with
  | none =>
    have hc := h3 rfl
    have hl : l = [] := List.eq_nil_of_length_eq_zero (by omega)
    subst hl
    rw [run_convert_bytes_string w 25 9 5 _ _ _ Tryd.underlying25 Tryd.underlying5 Tryd.underlying9]
    rfl
  | some a => exact run_convert_bytes_back w 25 9 5 a cap l Tryd.underlying25 Tryd.underlying5 Tryd.underlying9 (fun j hj => h4 a rfl j hj)
theorem Rd.lit (w : World) (cs : Array Value) (l : List UInt8) (n : Nat) (e : TypeId) (m : Nat × Nat) (h : cs = (BV l).toArray) (hn : n = l.length) (hl : n ≤ maxLen) : Rd (w.alloc (.cells cs e m)) (.slice (some ⟨w.heap.size, 0, none⟩) n n) l := by
  subst h
  subst hn
  refine ⟨_, _, rfl, Nat.le_refl _, hl, by simp, fun a ha i hi => ?_⟩
  obtain rfl := Option.some.inj ha
  have : (⟨w.heap.size, 0, none⟩ : Addr).add i = ⟨w.heap.size, i, none⟩ := by unfold Addr.add; split <;> simp_all
  rw [this, cell_of_row _ w.heap.size i (BV l).toArray e m (heap_alloc_new w _)]
  simp [BV, hi]
theorem below_alloc_call {w w1 w2 : World} {o : Obj} (h : Below w.heap.size w w1) (hb : Below (w1.alloc o).heap.size (w1.alloc o) w2) : Below w.heap.size w w2 :=
  (h.alloc h.size o).trans (hb.mono (by have := h.size; simp; omega))
theorem below_call {w w1 w2 : World} (h : Below w.heap.size w w1) (hb : Below w1.heap.size w1 w2) : Below w.heap.size w w2 := h.trans (hb.mono h.size)
end Go.Proofs.YtpiiehenmkinaaaDoor
