/-
  A heap as a tree in a row of places: plain lemmas, with no walk. Timers are pairs (Due, Id). Own work.
-/
import Derived.WalkKit
namespace Go.Proofs.Ytemlanalaihkoaa

abbrev Tm := Int × Int
/-- one timer is ahead of another -/
def Ah (a b : Tm) : Prop := a.1 < b.1 ∨ (a.1 = b.1 ∧ a.2 < b.2)
instance (a b : Tm) : Decidable (Ah a b) := by unfold Ah; infer_instance
theorem Ah.irr (a : Tm) : ¬ Ah a a := by unfold Ah; omega
theorem Ah.trans {a b c : Tm} (h : Ah a b) (k : Ah b c) : Ah a c := by unfold Ah at *; omega
theorem Ah.tri (a b : Tm) : Ah a b ∨ a = b ∨ Ah b a := by
  unfold Ah
  obtain ⟨x, y⟩ := a
  obtain ⟨u, v⟩ := b
  simp only [Prod.mk.injEq]
  omega
theorem Ah.asy {a b : Tm} (h : Ah a b) : ¬ Ah b a := by unfold Ah at *; omega
theorem Ah.ntrans {a b c : Tm} (h : ¬ Ah b a) (k : ¬ Ah c b) : ¬ Ah c a := by unfold Ah at *; omega
theorem Ah.lt_le {a b c : Tm} (h : Ah a b) (k : ¬ Ah c b) : Ah a c := by unfold Ah at *; omega

/-- the timers of two places changed about -/
def swp (f : Nat → Tm) (a b : Nat) : Nat → Tm := fun i => if i = a then f b else if i = b then f a else f i
theorem swp_l (f : Nat → Tm) (a b : Nat) : swp f a b a = f b := by simp [swp]
theorem swp_r (f : Nat → Tm) (a b : Nat) : swp f a b b = f a := by
  unfold swp; by_cases h : b = a
  · rw [if_pos h, h]
  · rw [if_neg h, if_pos rfl]
theorem swp_o (f : Nat → Tm) (a b i : Nat) (h1 : i ≠ a) (h2 : i ≠ b) : swp f a b i = f i := by simp [swp, h1, h2]

/-- of n places each is behind the one above it -/
def HO (f : Nat → Tm) (n : Nat) : Prop := ∀ i, 0 < i → i < n → ¬ Ah (f i) (f ((i - 1) / 2))
/-- so it is but for one place -/
structure Wr (f : Nat → Tm) (n p : Nat) : Prop where
  ord : ∀ i, 0 < i → i < n → i ≠ p → (i - 1) / 2 ≠ p → ¬ Ah (f i) (f ((i - 1) / 2))
  grand : 0 < p → ∀ c, c < n → 0 < c → (c - 1) / 2 = p → ¬ Ah (f c) (f ((p - 1) / 2))

theorem Wr.up {f : Nat → Tm} {n p : Nat} (h : Wr f n p) (h0 : 0 < p) (hn : p < n) (ha : Ah (f p) (f ((p - 1) / 2))) : Wr (swp f p ((p - 1) / 2)) n ((p - 1) / 2) := by
  have hu : (p - 1) / 2 < p := by omega
  refine ⟨fun i i0 hi h1 h2 => ?_, fun u0 c hc c0 hcu => ?_⟩
  · by_cases e : i = p
    · subst e; exact absurd rfl h2
    · rw [swp_o f _ _ i e h1]
      by_cases e2 : (i - 1) / 2 = p
      · rw [e2, swp_l]
        exact h.grand h0 i hi i0 e2
      · rw [swp_o f _ _ _ e2 h2]
        exact h.ord i i0 hi e e2
  · have hg : ((p - 1) / 2 - 1) / 2 ≠ p := by omega
    have hg2 : ((p - 1) / 2 - 1) / 2 ≠ (p - 1) / 2 := by omega
    rw [swp_o f _ _ _ hg hg2]
    have hp := h.ord ((p - 1) / 2) u0 (by omega) (by omega) hg
    by_cases e : c = p
    · rw [e, swp_l]; exact hp
    · rw [swp_o f _ _ c e (by omega)]
      have hs := h.ord c c0 hc e (by omega)
      rw [hcu] at hs
      exact Ah.ntrans hp hs

theorem Wr.down {f : Nat → Tm} {n p d : Nat} (h : Wr f n p) (hd : d < n) (d0 : 0 < d) (hdp : (d - 1) / 2 = p) (hmin : ∀ c, c < n → 0 < c → (c - 1) / 2 = p → ¬ Ah (f c) (f d)) (ha : Ah (f d) (f p)) :
    Wr (swp f p d) n d ∧ (0 < d → ¬ Ah (swp f p d d) (swp f p d ((d - 1) / 2))) := by
  have hlt : p < d := by omega
  refine ⟨⟨fun i i0 hi h1 h2 => ?_, fun _ c hc c0 hcd => ?_⟩, fun _ => ?_⟩
  · by_cases e : i = p
    · subst e
      rw [swp_l, swp_o f _ _ ((i - 1) / 2) (by omega) (by omega)]
      exact h.grand i0 d hd d0 hdp
    · rw [swp_o f _ _ i e h1]
      by_cases e2 : (i - 1) / 2 = p
      · rw [e2, swp_l]
        exact hmin i hi i0 e2
      · rw [swp_o f _ _ _ e2 h2]
        exact h.ord i i0 hi e e2
  · rw [hdp, swp_l, swp_o f _ _ c (by omega) (by omega)]
    have := h.ord c c0 hc (by omega) (by omega)
    rw [hcd] at this
    exact this
  · rw [swp_r, hdp, swp_l]
    exact ha.asy

theorem Wr.done {f : Nat → Tm} {n p : Nat} (h : Wr f n p) (hu : 0 < p → ¬ Ah (f p) (f ((p - 1) / 2))) (hd : ∀ c, c < n → 0 < c → (c - 1) / 2 = p → ¬ Ah (f c) (f p)) : HO f n := by
  intro i i0 hi
  by_cases e : i = p
  · subst e; exact hu i0
  · by_cases e2 : (i - 1) / 2 = p
    · rw [e2]; exact hd i hi i0 e2
    · exact h.ord i i0 hi e e2

/-- the place below p whose timer is ahead; p itself, if there is none -/
def belowF (f : Nat → Tm) (n p : Nat) : Nat := if n ≤ 2 * p + 1 then p else if 2 * p + 2 < n ∧ Ah (f (2 * p + 2)) (f (2 * p + 1)) then 2 * p + 2 else 2 * p + 1
theorem below_lt (f : Nat → Tm) (n p : Nat) (h : p < n) : belowF f n p < n := by unfold belowF; split; exact h; split <;> omega
theorem below_min (f : Nat → Tm) (n p : Nat) : ∀ c, c < n → 0 < c → (c - 1) / 2 = p → ¬ Ah (f c) (f (belowF f n p)) := by
  intro c hc c0 hp
  unfold belowF
  rw [if_neg (by omega)]
  have : c = 2 * p + 1 ∨ c = 2 * p + 2 := by omega
  split
  · rename_i h
    rcases this with rfl | rfl
    · exact h.2.asy
    · exact Ah.irr _
  · rename_i h
    rcases this with rfl | rfl
    · exact Ah.irr _
    · exact fun h' => h ⟨hc, h'⟩
theorem below_child (f : Nat → Tm) (n p : Nat) (h : Ah (f (belowF f n p)) (f p)) : 0 < belowF f n p ∧ (belowF f n p - 1) / 2 = p ∧ p < belowF f n p := by
  unfold belowF at *
  split at h
  · exact absurd h (Ah.irr _)
  · rename_i h1
    rw [if_neg h1]
    split <;> omega

/-- the timer of one place is another one -/
def setF (f : Nat → Tm) (p : Nat) (x : Tm) : Nat → Tm := fun i => if i = p then x else f i
theorem setF_same (f : Nat → Tm) (p : Nat) (x : Tm) : setF f p x p = x := by simp [setF]
theorem setF_other (f : Nat → Tm) (p : Nat) (x : Tm) (i : Nat) (h : i ≠ p) : setF f p x i = f i := by simp [setF, h]
theorem Wr.put {f : Nat → Tm} {n : Nat} (h : HO f n) (x : Tm) : Wr (setF f n x) (n + 1) n := by
  refine ⟨fun i i0 hi h1 h2 => ?_, fun _ c hc c0 hcp => by omega⟩
  rw [setF_other _ _ _ _ h1, setF_other _ _ _ _ h2]
  exact h i i0 (by omega)
theorem Wr.strike {f : Nat → Tm} {n p : Nat} (h : HO f (n + 1)) (hp : p < n) : Wr (setF f p (f n)) n p := by
  refine ⟨fun i i0 hi h1 h2 => ?_, fun p0 c hc c0 hcp => ?_⟩
  · rw [setF_other _ _ _ _ h1, setF_other _ _ _ _ h2]
    exact h i i0 (by omega)
  · rw [setF_other _ _ _ c (by omega), setF_other _ _ _ _ (by omega)]
    have a := h c c0 (by omega)
    have b := h p p0 (by omega)
    rw [hcp] at a
    exact Ah.ntrans b a
theorem HO.less {f : Nat → Tm} {n : Nat} (h : HO f (n + 1)) : HO f n := fun i i0 hi => h i i0 (by omega)
theorem HO.congr {f g : Nat → Tm} {n : Nat} (h : HO f n) (e : ∀ i, i < n → g i = f i) : HO g n := by
  intro i i0 hi
  rw [e i hi, e _ (by omega)]
  exact h i i0 hi
theorem HO.first {f : Nat → Tm} {n : Nat} (h : HO f n) : ∀ i, i < n → ¬ Ah (f i) (f 0) := by
  intro i
  induction i using Nat.strongRecOn with
  | _ i ih =>
    intro hi
    by_cases e : i = 0
    · rw [e]; exact Ah.irr _
    · exact Ah.ntrans (ih ((i - 1) / 2) (by omega) (by omega)) (h i (by omega) hi)

/-- where a timer stands, by its Id -/
def PL (l : Int → Option Nat) (f : Nat → Tm) (n : Nat) : Prop := ∀ id i, l id = some i ↔ i < n ∧ (f i).2 = id
def setL (l : Int → Option Nat) (id : Int) (i : Nat) : Int → Option Nat := fun x => if x = id then some i else l x
def delLk (l : Int → Option Nat) (id : Int) : Int → Option Nat := fun x => if x = id then none else l x
theorem PL.inj {l : Int → Option Nat} {f : Nat → Tm} {n : Nat} (h : PL l f n) {i j : Nat} (hi : i < n) (hj : j < n) (e : (f i).2 = (f j).2) : i = j := by
  have a := (h (f j).2 i).2 ⟨hi, e⟩
  have b := (h (f j).2 j).2 ⟨hj, rfl⟩
  rw [a] at b
  exact Option.some.inj b
theorem PL.swp {l : Int → Option Nat} {f : Nat → Tm} {n : Nat} (h : PL l f n) {a b : Nat} (ha : a < n) (hb : b < n) : PL (setL (setL l (f b).2 a) (f a).2 b) (Go.Proofs.Ytemlanalaihkoaa.swp f a b) n := by
  intro id i
  have ia := @PL.inj l f n h i a
  have ib := @PL.inj l f n h i b
  have iab := @PL.inj l f n h a b ha hb
  have hh := h id i
  unfold setL Go.Proofs.Ytemlanalaihkoaa.swp
  by_cases e1 : id = (f a).2
  · rw [if_pos e1]
    constructor
    · intro e
      have e := Option.some.inj e
      subst e
      refine ⟨hb, ?_⟩
      by_cases e3 : b = a
      · rw [if_pos e3, e1, e3]
      · rw [if_neg e3, if_pos rfl, e1]
    · rintro ⟨hi, e⟩
      split at e
      · rename_i e4
        rw [e4, iab (by rw [e, e1])]
      · split at e
        · rename_i e5; rw [e5]
        · rename_i n1 n2
          exact absurd (ia hi ha (by rw [e, e1])) n1
  · rw [if_neg e1]
    by_cases e2 : id = (f b).2
    · rw [if_pos e2]
      constructor
      · intro e
        have e := Option.some.inj e
        subst e
        exact ⟨ha, by rw [if_pos rfl, e2]⟩
      · rintro ⟨hi, e⟩
        split at e
        · rename_i e4; rw [e4]
        · split at e
          · exact absurd e.symm e1
          · rename_i n1 n2
            exact absurd (ib hi hb (by rw [e, e2])) n2
    · rw [if_neg e2, hh]
      constructor
      · rintro ⟨hi, e⟩
        refine ⟨hi, ?_⟩
        rw [if_neg (fun e' => e1 (by rw [← e, e'])), if_neg (fun e' => e2 (by rw [← e, e']))]
        exact e
      · rintro ⟨hi, e⟩
        refine ⟨hi, ?_⟩
        split at e
        · exact absurd e.symm e2
        · split at e
          · exact absurd e.symm e1
          · exact e
theorem PL.put {l : Int → Option Nat} {f : Nat → Tm} {n : Nat} (h : PL l f n) (x : Tm) (hx : l x.2 = none) : PL (setL l x.2 n) (setF f n x) (n + 1) := by
  intro id i
  have hh := h id i
  unfold setL setF
  by_cases e : id = x.2
  · rw [if_pos e]
    constructor
    · intro e'
      have e' := Option.some.inj e'
      subst e'
      exact ⟨by omega, by rw [if_pos rfl, e]⟩
    · rintro ⟨hi, e'⟩
      split at e'
      · rename_i h'; rw [h']
      · have := hh.2 ⟨by omega, e'⟩
        rw [e, hx] at this
        cases this
  · rw [if_neg e, hh]
    constructor
    · rintro ⟨hi, e'⟩
      exact ⟨by omega, by rw [if_neg (by omega)]; exact e'⟩
    · rintro ⟨hi, e'⟩
      split at e'
      · exact absurd e'.symm e
      · exact ⟨by omega, e'⟩
theorem PL.strike {l : Int → Option Nat} {f : Nat → Tm} {n p : Nat} (h : PL l f (n + 1)) (hp : p ≤ n) : PL (delLk (setL l (f n).2 p) (f p).2) (setF f p (f n)) n := by
  intro id i
  have hh := h id i
  have ip := @PL.inj l f (n + 1) h i p
  have im := @PL.inj l f (n + 1) h i n
  have ipn := @PL.inj l f (n + 1) h p n (by omega) (by omega)
  unfold delLk setL setF
  by_cases e : id = (f p).2
  · rw [if_pos e]
    constructor
    · intro e'; cases e'
    · rintro ⟨hi, e'⟩
      split at e'
      · have := ipn (by rw [← e, e'])
        omega
      · rename_i n1
        exact absurd (ip (by omega) (by omega) (by rw [e', e])) n1
  · rw [if_neg e]
    by_cases e2 : id = (f n).2
    · rw [if_pos e2]
      constructor
      · intro e'
        have e' := Option.some.inj e'
        subst e'
        refine ⟨?_, by rw [if_pos rfl, e2]⟩
        rcases Nat.lt_or_ge p n with h' | h'
        · exact h'
        · exact absurd (by rw [e2, show n = p by omega]) e
      · rintro ⟨hi, e'⟩
        split at e'
        · rename_i h'; rw [h']
        · have := im (by omega) (by omega) (by rw [e', e2])
          omega
    · rw [if_neg e2, hh]
      constructor
      · rintro ⟨hi, e'⟩
        have : i ≠ n := fun h' => e2 (by rw [← e', h'])
        refine ⟨by omega, ?_⟩
        rw [if_neg (fun h' => e (by rw [← e', h']))]
        exact e'
      · rintro ⟨hi, e'⟩
        split at e'
        · exact absurd e'.symm e2
        · exact ⟨by omega, e'⟩
end Go.Proofs.Ytemlanalaihkoaa
