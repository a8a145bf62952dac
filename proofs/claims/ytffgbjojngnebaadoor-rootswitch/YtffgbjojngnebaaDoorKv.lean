/-
  What a law keeps beside a disk: blocks of its own, written and read; lives that are read. Own work.
-/
import Derived.Test.YtffgbjojngnebaaDoorKu
import Derived.Test.YtffgbjojngnebaaDoorLTurns
namespace Go.Proofs.YtffgbjojngnebaaDoor
open Go.RowKit

theorem chg_set3 (w : World) (g : Nat) (a b c : Value) : Chg (fun k => k = g ∨ k = g) w (set3 w g a b c) := (((Chg.refl _ w).setCell (.inl (.inl rfl)) _).setCell (.inl (.inl rfl)) _).setCell (.inl (.inl rfl)) _
theorem Ap.set3 {B : Nat} {w0 w : World} {d : Value} {D : AD} {F : Nat → Prop} (h : Ap B w0 w d D F) (g : Nat) (hF : ¬ F g) (hB : B ≤ g) (a b c : Value) : Ap B w0 (set3 w g a b c) d D F :=
  h.out (chg_set3 w g a b c) fun k hk => by
    obtain rfl : k = g := by omega
    exact ⟨hF, hB⟩
theorem RdK.set3 {w : World} {F : Nat → Prop} {v : Value} {l : List UInt8} (h : RdK w F v l) (g : Nat) (hg : ∀ a, v.ownBlock = some a → l ≠ [] → a ≠ g) (a b c : Value) : RdK (set3 w g a b c) F v l :=
  ⟨h.1.chg (chg_set3 w g a b c) fun x hx hl hk => hg x hx hl (by omega), h.2⟩
/-- a block of four cells -/
def C4 (w : World) (g : Nat) (a b c e : Value) : Prop := g < w.heap.size ∧ w.cell? ⟨g, 0, none⟩ = some a ∧ w.cell? ⟨g, 1, none⟩ = some b ∧ w.cell? ⟨g, 2, none⟩ = some c ∧ w.cell? ⟨g, 3, none⟩ = some e
theorem C4.new (w : World) (a b c e : Value) (t : TypeId) : C4 (w.alloc (.cells #[a, b, c, e] t)) w.heap.size a b c e := by
  refine ⟨?_, ?_, ?_, ?_, ?_⟩
  all_goals simp [go_sem]
theorem C4.below {w w' : World} {g : Nat} {a b c e : Value} (h : C4 w g a b c e) (hb : Below w.heap.size w w') : C4 w' g a b c e :=
  ⟨Nat.lt_of_lt_of_le h.1 hb.size, (hb.cell (p := ⟨g, 0, none⟩) h.1).trans h.2.1, (hb.cell (p := ⟨g, 1, none⟩) h.1).trans h.2.2.1, (hb.cell (p := ⟨g, 2, none⟩) h.1).trans h.2.2.2.1, (hb.cell (p := ⟨g, 3, none⟩) h.1).trans h.2.2.2.2⟩
theorem C4.step {w w' : World} {F G : Nat → Prop} {g : Nat} {a b c e : Value} (h : C4 w g a b c e) (hF : ¬ F g) (hs : Step F w w' G) : C4 w' g a b c e ∧ ¬ G g := by
  refine ⟨⟨Nat.lt_of_lt_of_le h.1 hs.chg.size, (hs.chg.cell h.1 hF 0).trans h.2.1, (hs.chg.cell h.1 hF 1).trans h.2.2.1, (hs.chg.cell h.1 hF 2).trans h.2.2.2.1, (hs.chg.cell h.1 hF 3).trans h.2.2.2.2⟩, fun hG => ?_⟩
  rcases hs.new g hG with h' | h'
  · exact hF h'
  · have := h.1; omega
theorem C4.set3 {w : World} {g g' : Nat} {a b c e : Value} (h : C4 w g a b c e) (hg : g ≠ g') (x y z : Value) : C4 (set3 w g' x y z) g a b c e := by
  have q : ∀ o, (Go.Proofs.YtffgbjojngnebaaDoor.set3 w g' x y z).cell? ⟨g, o, none⟩ = w.cell? ⟨g, o, none⟩ := fun o => by
    unfold Go.Proofs.YtffgbjojngnebaaDoor.set3
    rw [cell_other _ _ _ _ _ _ (.inl hg), cell_other _ _ _ _ _ _ (.inl hg), cell_other _ _ _ _ _ _ (.inl hg)]
  exact ⟨by rw [set3_size]; exact h.1, (q 0).trans h.2.1, (q 1).trans h.2.2.1, (q 2).trans h.2.2.2.1, (q 3).trans h.2.2.2.2⟩
theorem Ap.rdI {w0 w : World} {d : Value} {D : AD} {F : Nat → Prop} {v : Value} {l : List Int} (h : Ap w0.heap.size w0 w d D F) (hr : RdI w0 v l) : RdI w v l ∧ ∀ a, v.ownBlock = some a → l ≠ [] → ¬ F a := by
  refine ⟨hr.below h.bel, fun a ha hl hF => ?_⟩
  obtain ⟨ao, cap, hv, h1, h2, h3, h4⟩ := hr
  have h5 := (h.sub a hF).1
  subst hv
  cases ao with
  | none => simp [Value.ownBlock] at ha
  | some x =>
    have hp : 0 < l.length := List.length_pos_iff.2 hl
    have hc := h4 x rfl 0 hp
    have := World.block_lt_of_cell? w0 _ hc
    have e : (x.add 0).block = x.block := by unfold Addr.add; split <;> simp_all
    rw [e] at this
    have hx : x.block = a := by
      simp [Value.ownBlock] at ha
      exact ha
    omega

structure Lf where
  rv : Value
  rs : List (AR × Value)
  arm : Int
  kv : Value
  ks : List Int
  tv : Value
  ts : List Int
structure Lf.good (w : World) (x : Lf) : Prop where
  rs : RdR w x.rv x.rs
  ks : RdI w x.kv x.ks
  kr : ∀ z ∈ x.ks, z ≤ 9223372036854775807
  ts : RdI w x.tv x.ts
  tr : ∀ z ∈ x.ts, z ≤ 9223372036854775807
def RdLv (w : World) (v : Value) (xs : List Lf) : Prop :=
  ∃ ao cap, v = .slice ao xs.length cap ∧ xs.length ≤ cap ∧ cap ≤ maxLen ∧ ∀ k (h : k < xs.length), ∃ b off, ao = some ⟨b, off, none⟩ ∧ b < w.heap.size ∧
    w.cell? ⟨b, off + k * 4, none⟩ = some xs[k].rv ∧ w.cell? ⟨b, off + k * 4 + 1, none⟩ = some (.int .i64 xs[k].arm) ∧ w.cell? ⟨b, off + k * 4 + 2, none⟩ = some xs[k].kv ∧ w.cell? ⟨b, off + k * 4 + 3, none⟩ = some xs[k].tv ∧ xs[k].good w
end Go.Proofs.YtffgbjojngnebaaDoor
