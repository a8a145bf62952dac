/-
  The map of lists is gone through: the steps. Own work.
-/
import Derived.Test.YtdbbdecmfnajiaaOd
namespace Go.Proofs.Ytdbbdecmfnajiaa
open Go.RowKit Go.Sort

theorem Rg.nm {w : World} {r : Value} {most : Int} {m : Nat} {A : PR} {F : Nat → Prop} (h : Rg w r most m A F) {s : ByteArray} (hl : lA A s ≠ []) : right s := by
  obtain ⟨rb, sb, mb, E, h1, h2, h3, h4, h5⟩ := h
  unfold lA at hl
  rw [h3] at hl
  cases hE : E s with
  | none => rw [hE] at hl; exact absurd rfl hl
  | some q => exact h2.rt s q hE
theorem gb_of {w w' : World} (h : Below w.heap.size w w') : w.grownBy w' none := ⟨h.os, h.tape, h.output, h.size, fun k hk _ => h.block k hk⟩
theorem FI.start {w0 w w1 : World} {r : Value} {size : Int} {hb m hn : Nat} {A : PR} {F : Nat → Prop} {H : MF} {LH : ByteArray → List Int} (h1 : OS w0 w r size hb m A F hn H LH) (h2 : ∀ s, lA A s = LH s)
    (hrg : Rng w1 hb w.heap.size hn H (fun s => (H s).isSome && decide (s.size ≤ maxLen)) hn) (hg : w.grownBy w1 none) : FI w w1 hb w.heap.size hn H A (fun s => (H s).isSome && decide (s.size ≤ maxLen)) hn [] := by
  refine ⟨hrg, (Below.refl _ w).grown hg (Nat.le_refl _) fun k e => (by cases e), List.nodup_nil, fun s => ?_⟩
  simp only [List.not_mem_nil, false_iff]
  rintro ⟨hne, hf⟩
  have hsz := (h1.rq.rg.nm hne).max
  rw [h2] at hne
  cases hH : H s with
  | none => exact hne (h1.no s hH)
  | some v => rw [hH] at hf; simp [hsz] at hf
theorem FI.below {wb u u' : World} {hb rg hn cnt : Nat} {H : MF} {A : PR} {left : ByteArray → Bool} {vs : List (List UInt8)} (h : FI wb u hb rg hn H A left cnt vs) (hB : Below u.heap.size u u') : FI wb u' hb rg hn H A left cnt vs :=
  ⟨h.rng.kept (gb_of hB) (fun e => by cases e) (fun e => by cases e), h.be.trans (hB.mono h.be.size), h.nd, h.mem⟩
theorem FI.step {wb w u : World} {hb rg hn cnt cnt' : Nat} {H : MF} {A : PR} {left : ByteArray → Bool} {vs : List (List UInt8)} {s : ByteArray} (h : FI wb w hb rg hn H A left cnt vs)
    (hrg : Rng u hb rg hn H (fun x => left x && decide (x ≠ s)) cnt') (hgr : w.grownBy u (some rg)) (hle : wb.heap.size ≤ rg) (hls : left s = true) :
    FI wb u hb rg hn H A (fun x => left x && decide (x ≠ s)) cnt' (if lA A s = [] then vs else s.data.toList :: vs) := by
  have hmem : ∀ t : ByteArray, (left t && decide (t ≠ s)) = false ↔ (left t = false ∨ t = s) := fun t => by
    by_cases e : t = s <;> simp [e]
  have hnot : s.data.toList ∉ vs := fun hm => by
    have := ((h.mem s).1 hm).2
    rw [hls] at this; cases this
  refine ⟨hrg, h.be.grown hgr h.be.size fun k e => by cases e; exact hle, ?_, fun t => ?_⟩
  · split
    · exact h.nd
    · exact List.nodup_cons.2 ⟨hnot, h.nd⟩
  · rw [hmem]
    by_cases hL : lA A s = []
    · rw [if_pos hL, h.mem t]
      refine ⟨fun h => ⟨h.1, .inl h.2⟩, fun h => ⟨h.1, h.2.resolve_right fun e => ?_⟩⟩
      subst e
      exact h.1 hL
    · rw [if_neg hL, List.mem_cons, h.mem t]
      constructor
      · rintro (e | e)
        · have e2 : t = s := by
            cases t; cases s
            simp only [ByteArray.mk.injEq]
            exact Array.ext' e
          subst e2
          exact ⟨hL, .inr rfl⟩
        · exact ⟨e.1, .inl e.2⟩
      · rintro ⟨e1, e2 | e2⟩
        · exact .inr ⟨e1, e2⟩
        · subst e2; exact .inl rfl
end Go.Proofs.Ytdbbdecmfnajiaa
