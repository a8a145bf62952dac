/-
  Rings as their callers see them: what stands by each name; the contracts of New, Put, Cap. Own work.
-/
import Derived.Test.YtdbbdecmfnajiaaMl
namespace Go.Proofs.Ytdbbdecmfnajiaa
open Go.RowKit

/-- what lay outside of F is as it was, and outside of G -/
structure Step (F : Nat → Prop) (w w' : World) (G : Nat → Prop) : Prop where
  chg : Chg F w w'
  new : ∀ b, G b → F b ∨ w.heap.size ≤ b
theorem Step.below {F : Nat → Prop} {w w' : World} (hb : Below w.heap.size w w') : Step F w w' F := ⟨Chg.ofBelow hb F, fun _ h => .inl h⟩
theorem Step.trans {F G H : Nat → Prop} {w w' w'' : World} (h : Step F w w' G) (k : Step G w' w'' H) : Step F w w'' H :=
  ⟨h.chg.trans k.chg fun i hi hG => (h.new i hG).elim id fun h' => by omega, fun b hH => (k.new b hH).elim (h.new b) fun h' => .inr (by have := h.chg.size; omega)⟩

/-- caps and numbers by the names -/
abbrev PR := ByteArray → Option (Int × List Int)
def lA (A : PR) (s : ByteArray) : List Int := match A s with
  | some x => x.2
  | none => []
def capA (most : Int) (A : PR) (s : ByteArray) : Int := match A s with
  | some x => x.1
  | none => if right s then most else 0
def setA (A : PR) (s : ByteArray) (o : Option (Int × List Int)) : PR := fun t => if t = s then o else A t
def keepO (most c : Int) (L : List Int) : Option (Int × List Int) := if L = [] ∧ c = most then none else some (c, L)
def keepN (A : PR) (s : ByteArray) (o : Option (Int × List Int)) (m : Nat) : Nat := if o.isSome then (if (A s).isSome then m else m + 1) else (if (A s).isSome then m - 1 else m)
theorem setA_same (A : PR) (s : ByteArray) (o : Option (Int × List Int)) : setA A s o s = o := by simp [setA]
theorem setA_other (A : PR) (s t : ByteArray) (o : Option (Int × List Int)) (h : t ≠ s) : setA A s o t = A t := by simp [setA, h]

/-- r is rings that New made, of that cap; by the names they have A, m of them, in the blocks of F -/
def Rg (w : World) (r : Value) (most : Int) (m : Nat) (A : PR) (F : Nat → Prop) : Prop :=
  ∃ rb sb mb E, r = .pointer (some ⟨rb, 0, none⟩) ∧ Rs w rb sb mb most m E ∧ (∀ s, A s = (E s).map fun q => (q.most, q.L)) ∧ (∀ b, Rb rb sb mb E b → F b) ∧ ∀ b, F b → b < w.heap.size
theorem Rg.sub {w : World} {r : Value} {most : Int} {m : Nat} {A : PR} {F : Nat → Prop} (h : Rg w r most m A F) (b : Nat) (hb : F b) : b < w.heap.size := by
  obtain ⟨rb, sb, mb, E, h1, h2, h3, h4, h5⟩ := h
  exact h5 b hb
theorem Rg.heap {w w' : World} {r : Value} {most : Int} {m : Nat} {A : PR} {F : Nat → Prop} (h : Rg w r most m A F) (hs : w.heap.size ≤ w'.heap.size) (hk : ∀ b, F b → w'.heap[b]? = w.heap[b]?) : Rg w' r most m A F := by
  obtain ⟨rb, sb, mb, E, h1, h2, h3, h4, h5⟩ := h
  exact ⟨rb, sb, mb, E, h1, h2.heap fun b hb => hk b (h4 b hb), h3, h4, fun b hb => Nat.lt_of_lt_of_le (h5 b hb) hs⟩
theorem Rg.below {w w' : World} {r : Value} {most : Int} {m : Nat} {A : PR} {F : Nat → Prop} (h : Rg w r most m A F) (hb : Below w.heap.size w w') : Rg w' r most m A F :=
  h.heap hb.size fun b hF => hb.block b (h.sub b hF)
theorem Rg.ptr {w : World} {r : Value} {most : Int} {m : Nat} {A : PR} {F : Nat → Prop} (h : Rg w r most m A F) : ∃ rb, r = .pointer (some ⟨rb, 0, none⟩) := by
  obtain ⟨rb, sb, mb, E, h1, h2, h3, h4, h5⟩ := h
  exact ⟨rb, h1⟩
theorem Rg.rt {w : World} {r : Value} {most : Int} {m : Nat} {A : PR} {F : Nat → Prop} (h : Rg w r most m A F) (s : ByteArray) (hs : ¬ right s) : A s = none := by
  obtain ⟨rb, sb, mb, E, h1, h2, h3, h4, h5⟩ := h
  rw [h3]
  cases hE : E s with
  | none => rfl
  | some q => exact absurd (h2.rt s q hE) hs
theorem Rg.mo {w : World} {r : Value} {most : Int} {m : Nat} {A : PR} {F : Nat → Prop} (h : Rg w r most m A F) : capOk most ∧ m ≤ 1000 := by
  obtain ⟨rb, sb, mb, E, h1, h2, h3, h4, h5⟩ := h
  exact ⟨h2.mo, h2.many⟩
theorem Rg.cap {w : World} {r : Value} {most : Int} {m : Nat} {A : PR} {F : Nat → Prop} (h : Rg w r most m A F) (s : ByteArray) : (lA A s).length ≤ 65536 ∧ 0 ≤ capA most A s ∧ capA most A s ≤ 65536 := by
  obtain ⟨rb, sb, mb, E, h1, h2, h3, h4, h5⟩ := h
  unfold lA capA
  rw [h3]
  have hm := h2.mo
  unfold capOk at hm
  cases hE : E s with
  | none => simp only [Option.map_none]; refine ⟨by simp, ?_⟩; split <;> omega
  | some q => have := (h2.hq s q hE).1; exact ⟨this.cm, this.mo⟩

/-- what find hands out -/
structure Fnd (w w1 : World) (E : EM) (most : Int) (A : PR) (s : ByteArray) (q : Qd) : Prop where
  be : Below w.heap.size w w1
  qm : QM w1 q
  mo : q.most = capA most A s
  l : q.L = lA A s
  wh : right s → E s = some q ∨ (E s = none ∧ ∀ b, q.bk b → w.heap.size ≤ b)
theorem find_any {w : World} {rb sb mb m : Nat} {most : Int} {E : EM} {A : PR} (h : Rs w rb sb mb most m E) (hA : ∀ s, A s = (E s).map fun q => (q.most, q.L)) (s : ByteArray) (hs : s.size ≤ maxLen) :
    Calls Try.prog 43 #[.pointer (some ⟨rb, 0, none⟩), .string s] w fun e w1 => ∃ q, e = .returned (.pointer (some ⟨q.qb, 0, none⟩)) ∧ Fnd w w1 E most A s q := by
  by_cases hr : right s
  · cases hE : E s with
    | some q =>
      refine (find_yes h hr hE).mono ?_
      rintro e u ⟨rfl, rfl⟩
      exact ⟨q, rfl, Below.refl _ _, h.hq s q hE, by unfold capA; rw [hA, hE]; rfl, by unfold lA; rw [hA, hE]; rfl, fun _ => .inl hE⟩
    | none =>
      refine (find_new h hr hE).mono ?_
      rintro e u ⟨rfl, h1, h2⟩
      exact ⟨noQ w.heap.size most, rfl, h1, h2, by unfold capA; rw [hA, hE]; simp [hr, noQ], by unfold lA; rw [hA, hE]; rfl, fun _ => .inr ⟨hE, fun b hb => by rw [noQ_bk hb]; exact Nat.le_refl _⟩⟩
  · have hE : E s = none := by
      cases hE : E s with
      | none => rfl
      | some q => exact absurd (h.rt s q hE) hr
    refine (find_none w _ s hs (.inr ⟨hr, rb, sb, rfl, h.r0⟩)).mono ?_
    rintro e u ⟨rfl, h1, h2⟩
    exact ⟨noQ w.heap.size 0, rfl, h1, h2, by unfold capA; rw [hA, hE]; simp [hr, noQ], by unfold lA; rw [hA, hE]; rfl, fun hr' => absurd hr' hr⟩

/-- a queue was found, and changed -/
theorem rp_of {w w1 w2 : World} {rb sb mb m : Nat} {most : Int} {E : EM} {A : PR} {s : ByteArray} {q q' : Qd} (h : Rs w rb sb mb most m E) (hs : right s) (hf : Fnd w w1 E most A s q) (hst : QStep w1 w2 q q') (hroom : E s = none → m < 1000 ∨ (q'.L = [] ∧ q'.most = most)) :
    Rp w2 rb sb mb most m E s q' := by
  have h1 := h.below hf.be
  have hz := hf.be.size
  have far : ∀ b, b < w.heap.size → (∀ q0, E s = some q0 → ¬ q0.bk b) → ¬ q.bk b := fun b hb hn hq => by
    rcases hf.wh hs with h2 | ⟨h2, h3⟩
    · exact hn q h2 hq
    · have := h3 b hq; omega
  have fr : ∀ b, b < w.heap.size → (∀ q0, E s = some q0 → ¬ q0.bk b) → w2.heap[b]? = w1.heap[b]? := fun b hb hn => hst.chg.block b (by omega) (far b hb hn)
  obtain ⟨es, ck, hmm⟩ := h.hm.isMap
  refine ⟨(fr rb (lt_of h.hr) fun q0 hq0 => (h.hq s q0 hq0).not_cells h.hr (by decide) (by decide)).trans h1.hr, (fr sb (lt_of h.hs) fun q0 hq0 => (h.hq s q0 hq0).not_cells h.hs (by decide) (by decide)).trans h1.hs,
    h1.hm.heap (fr mb h.hm.lt fun q0 hq0 => (h.hq s q0 hq0).not_map hmm), fun t r ht hr => (h1.hq t r hr).heap fun b hb => fr b ((h.hq t r hr).lt b hb) fun q0 hq0 hb' => h.ap t s r q0 ht hr hq0 b hb hb', fun t t' r r' ht ht' hne hr hr' => h.ap t t' r r' hne hr hr',
    fun t r ht hr b hb hb' => ?_, fun q0 hq0 => ?_, hst.qm, h.mo, h.rt, h.many, hroom⟩
  · have hbl := (h.hq t r hr).lt b hb
    rcases hst.nw b hb' with h2 | h2
    · exact far b hbl (fun q0 hq0 hb' => h.ap t s r q0 ht hr hq0 b hb hb') h2
    · omega
  · rw [hst.qb]
    rcases hf.wh hs with h2 | ⟨h2, h3⟩
    · rw [h2] at hq0; rw [Option.some.inj hq0]
    · rw [h2] at hq0; cases hq0
/-- behind keep -/
theorem rg_of {w w1 w2 w3 : World} {rb sb mb m : Nat} {most : Int} {E : EM} {A : PR} {F : Nat → Prop} {s : ByteArray} {q q' : Qd} (h : Rs w rb sb mb most m E) (hA : ∀ s, A s = (E s).map fun q => (q.most, q.L)) (hF : ∀ b, Rb rb sb mb E b → F b)
    (hs : right s) (hf : Fnd w w1 E most A s q) (hst : QStep w1 w2 q q') (hk : KeepEnd w2 w3 rb sb mb most m E s q') :
    ∃ G, Rg w3 (.pointer (some ⟨rb, 0, none⟩)) most (keepN A s (keepO most q'.most q'.L) m) (setA A s (keepO most q'.most q'.L)) G ∧ Step F w w3 G := by
  obtain ⟨k1, k2⟩ := hk
  have hz := hf.be.size
  have hz2 := hst.chg.size
  have hz3 := k2.size
  have ek : (kept most q').map (fun q => (q.most, q.L)) = keepO most q'.most q'.L := by unfold kept keepO; split <;> rfl
  have es : (kept most q').isSome = (keepO most q'.most q'.L).isSome := by rw [← ek]; cases kept most q' <;> rfl
  have hqF : ∀ b, q.bk b → F b ∨ w.heap.size ≤ b := fun b hb => by
    rcases hf.wh hs with h2 | ⟨h2, h3⟩
    · exact .inl (hF b (.inr (.inr (.inr ⟨s, q, h2, hb⟩))))
    · exact .inr (h3 b hb)
  refine ⟨fun b => (F b ∨ w.heap.size ≤ b) ∧ b < w3.heap.size, ⟨rb, sb, mb, _, rfl, ?_, fun t => ?_, fun b hb => ⟨?_, k1.lt b hb⟩, fun b hb => hb.2⟩, ?_, fun b hb => hb.1⟩
  · have e1 : keepN A s (keepO most q'.most q'.L) m = keptM E s (kept most q') m := by
      unfold keepN keptM
      rw [es, hA]
      cases E s <;> rfl
    rw [e1]
    exact k1
  · unfold setA setE
    by_cases e : t = s
    · rw [if_pos e, if_pos e, ek]
    · rw [if_neg e, if_neg e, hA]
  · rcases hb with rfl | rfl | rfl | ⟨t, r, ht, hb⟩
    · exact .inl (hF _ (.inl rfl))
    · exact .inl (hF _ (.inr (.inl rfl)))
    · exact .inl (hF _ (.inr (.inr (.inl rfl))))
    · unfold setE at ht
      by_cases e : t = s
      · rw [if_pos e] at ht
        have : r = q' := by
          unfold kept at ht
          split at ht
          · cases ht
          · exact (Option.some.inj ht).symm
        subst this
        rcases hst.nw b hb with h2 | h2
        · exact hqF b h2
        · exact .inr (by omega)
      · rw [if_neg e] at ht
        exact .inl (hF b (.inr (.inr (.inr ⟨t, r, ht, hb⟩))))
  · have c1 : Chg F w w1 := Chg.ofBelow hf.be F
    have c2 : Chg F w w2 := c1.trans hst.chg fun i hi hq => (hqF i hq).elim id fun h => by omega
    exact c2.trans k2 fun i hi hm => by
      subst hm
      exact hF _ (.inr (.inr (.inl rfl)))

set_option maxRecDepth 100000 in
set_option maxHeartbeats 1600000 in
theorem full_any {w : World} {rb sb mb m : Nat} {most : Int} {E : EM} (h : Rs w rb sb mb most m E) {s : ByteArray} (hs : right s) :
    Calls Try.prog 45 #[.pointer (some ⟨sb, 0, none⟩), .string s] w fun e w' => e = .returned (.bool (decide (E s = none ∧ m = 1000))) ∧ w' = w := by
  have s1 := h.s1
  have hl := h.hm.look_ok mt70 hs.max
  have hlen := fun ty => h.hm.len mt70 ty
  have hm := h.many
  cases hE : E s with
  | some q =>
    have e1 : ptrs E s = some (.pointer (some ⟨q.qb, 0, none⟩)) := by unfold ptrs; rw [hE]; rfl
    rw [e1] at hl
    simp only [Option.getD_some, Option.isSome_some] at hl
    rw [decide_eq_false (fun h => by cases h.1)]
    clear h
    go_enter Try.func45, Try.ntmps45
    go_wp2_with fail
    go_ret
    exact ⟨rfl, rfl⟩
  | none =>
    have e1 : ptrs E s = none := by unfold ptrs; rw [hE]; rfl
    rw [e1] at hl
    simp only [Option.getD_none, Option.isSome_none] at hl
    by_cases hk : m = 1000
    · subst hk
      rw [decide_eq_true ⟨rfl, rfl⟩]
      clear h
      go_enter Try.func45, Try.ntmps45
      go_wp2_with fail
      go_ret
      exact ⟨rfl, rfl⟩
    · rw [decide_eq_false (fun h => hk h.2)]
      have hkI : ((m : Int) == 1000) = false := beq_eq_false_iff_ne.2 (by omega)
      clear h
      go_enter Try.func45, Try.ntmps45
      go_wp2_with fail
      go_ret
      exact ⟨rfl, rfl⟩
end Go.Proofs.Ytdbbdecmfnajiaa
