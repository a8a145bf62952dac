/-
  Rings beside lists held in a map: how they begin, what is told of one name, how the map is gone through. Own work.
-/
import Derived.Test.YtdbbdecmfnajiaaOa
namespace Go.Proofs.Ytdbbdecmfnajiaa
open Go.RowKit Go.Sort

theorem OI.new {w0 w1 : World} {r : Value} {size : Nat} {F : Nat → Prop} (h1 : Rg w1 r size 0 (fun _ => none) F) (hF : ∀ b, F b → w0.heap.size ≤ b) (hb : Below w0.heap.size w0 w1) : OI w0 (w1.alloc (.map #[] 0)) r size w1.heap.size 0 := by
  have hB : Below w1.heap.size w1 (w1.alloc (.map #[] 0)) := (Below.refl _ _).alloc (Nat.le_refl _) _
  exact ⟨0, _, F, 0, fun _ => none, fun _ => [], ⟨(⟨h1, hF, hb, hb.size⟩ : Rq w0.heap.size w0 w1 r size 0 (fun _ => none) F).below hB, Mp.made w1, hb.size, fun h => by have := h1.sub _ h; omega, fun s x h => (by cases h), fun s v h => (by cases h), fun _ _ => rfl⟩, fun _ => rfl, Nat.le_refl _, Nat.le_refl _, fun _ => Nat.zero_le _⟩
/-- what is told of one name, at whatever world behind -/
theorem OR.tail {w0 w : World} {r : Value} {size hb i xb : Nat} {xo : Array Value} (h : OR w0 w r size hb i xb xo) (s : ByteArray) (hs : right s) : ∃ (hv : Value) (n : Nat), n ≤ size ∧ ∀ u, Below w.heap.size w u →
    Calls Try.prog 18 #[r, .string s] u (fun e w' => e = .returned (.int .i64 n) ∧ Below u.heap.size u w') ∧
    Calls Try.prog 14 #[r, .string s] u (fun e w' => e = .returned (.int .i64 ((size - n : Nat) : Int)) ∧ Below u.heap.size u w') ∧
    (Instr.lookup 63 (.map (some hb)) (.string s) false).run Try.prog u = .ok hv u ∧ Calls Try.prog 29 #[r, .string s, hv] u (fun e w' => e = .returned (.bool true) ∧ Below u.heap.size u w') := by
  obtain ⟨m, A, F, hn, H, LH, h1, h2, h3, h4, h5, h6⟩ := h
  refine ⟨(H s).getD (.slice none 0 0), (LH s).length, h5 s, fun u hu => ?_⟩
  have g1 := h1.below hu
  have hl65 := (g1.rq.rg.cap s).1
  rw [h2] at hl65
  have k1 := len_r g1.rq.rg s hs.max
  have k2 := room_r g1.rq.rg s hs.max
  have k3 := has_r g1.rq.rg s hs.max (g1.look s).1 (by omega)
  rw [h2] at k1
  rw [h2, g1.capA hs, show max ((size : Int) - (LH s).length) 0 = ((size - (LH s).length : Nat) : Int) by have := h5 s; omega] at k2
  rw [h2, decide_eq_true rfl] at k3
  exact ⟨k1, k2, g1.mp.look mt63 hs.max, k3⟩
theorem OR.op {w0 w : World} {r : Value} {size hb i xb : Nat} {xo : Array Value} (h : OR w0 w r size hb i xb xo) : w.heap[xb]? = some (.cells xo 43 (0, 0)) := by
  obtain ⟨m, A, F, hn, H, LH, h1, h2, h3, h4, h5, h6⟩ := h
  exact h6.h
/-- the map is gone through: those met that have numbers -/
structure FI (wb u : World) (hb rg hn : Nat) (H : MF) (A : PR) (left : ByteArray → Bool) (cnt : Nat) (vs : List (List UInt8)) : Prop where
  rng : Rng u hb rg hn H left cnt
  be : Below wb.heap.size wb u
  nd : vs.Nodup
  mem : ∀ s : ByteArray, s.data.toList ∈ vs ↔ lA A s ≠ [] ∧ left s = false
theorem same_len {A : PR} {N vs : List (List UInt8)} (hN : NamesOf A N) (hd : vs.Nodup) (hm : ∀ s : ByteArray, s.data.toList ∈ vs ↔ lA A s ≠ []) : N.length = vs.length := by
  have : ∀ x : List UInt8, x ∈ N ↔ x ∈ vs := fun x => by
    have a := hN.mem ⟨x.toArray⟩
    have b := hm ⟨x.toArray⟩
    simp only at a b
    rw [a, b]
  exact (List.perm_ext_iff_of_nodup hN.nd hd |>.2 this).length_eq
end Go.Proofs.Ytdbbdecmfnajiaa
