/-
  What a life of roots comes to, and what a crash leaves of it: plain lemmas, with no walk. Own work.
-/
import Derived.Test.YtffgbjojngnebaaDoorKt
namespace Go.Proofs.YtffgbjojngnebaaDoor
open Go.RowKit

def swD (t x y : Option (List UInt8 × Nat)) (fu : Int) (dk : Bool) : AD := ⟨fs3 t x y, 1048576, fu, dk⟩
def safeO (x : Option (List UInt8 × Nat)) : Prop := ∀ p, x = some p → p.2 = p.1.length
/-- how the three files stand: the two that count are safe -/
structure Sw (t x y : Option (List UInt8 × Nat)) : Prop where
  zt : szO t ≤ 200
  zx : szO x ≤ 200
  zy : szO y ≤ 200
  st : ∀ p, t = some p → p.2 ≤ p.1.length
  sx : safeO x
  sy : safeO y
theorem Sw.none : Sw none none none := ⟨by decide, by decide, by decide, fun p h => (by cases h), fun p h => (by cases h), fun p h => (by cases h)⟩
theorem safe_set (n : ByteArray) (b : List UInt8) (x y : Option (List UInt8 × Nat)) (hx : safeO x) (hy : safeO y) : safeO (setX n (b, b.length) x) ∧ safeO (setY n (b, b.length) y) := by
  have hb : safeO (some (b, b.length)) := fun p h => by
    obtain rfl := Option.some.inj h
    rfl
  unfold setX setY
  split
  · exact ⟨hb, hy⟩
  · exact ⟨hx, hb⟩
theorem sw_write (t x y : Option (List UInt8 × Nat)) (fu : Int) (dk : Bool) (h : Sw t x y) (hfu : -1 ≤ fu) (hdk : dk = true → fu = -1) (b : Int) (l : List UInt8) (hl : l.length ≤ 150) :
    writeR (swD t x y fu dk) b l = (swD t x y fu dk, noR, 2) ∨
    (∃ t', writeR (swD t x y fu dk) b l = (swD t' x y (-1) true, noR, 15) ∧ Sw t' x y) ∨
    ∃ x' y' fu', writeR (swD t x y fu dk) b l = (swD none x' y' fu' false, nxT x y b l, 0) ∧ -1 ≤ fu' ∧ Sw none x' y' ∧ top x' y' = nxT x y b l := by
  cases dk with
  | true =>
    obtain rfl := hdk rfl
    exact .inr (.inl ⟨t, by unfold writeR; rw [if_pos (show (swD t x y (-1) true).dark = true from rfl)], h⟩)
  | false =>
    have e : nextR (swD t x y fu false) b l = nxT x y b l := by
      unfold nextR swD nxT
      rw [root3']
    cases hr : isR (nxT x y b l) with
    | false =>
      left
      unfold writeR
      rw [if_neg (by simp [swD]), e, if_pos hr]
    | true =>
      right
      have hsz : (frameL (bodyR (nxT x y b l))).length ≤ 195 := by
        have := frameR_size (nxT x y b l)
        simp only [nxT] at this ⊢
        omega
      have z1 := h.zx
      have z2 := h.zy
      unfold writeR
      rw [if_neg (by simp [swD]), e, if_neg (by simp [hr])]
      rcases place3 t x y 1048576 fu (nameR (nxT x y b l).serial) (frameL (bodyR (nxT x y b l))) (nameR_or _) (by omega) hfu with ⟨t', e1, h0, ht⟩ | ⟨fu', e1, h1, h2⟩
      · left
        have e2 : placeR (swD t x y fu false) (nameR (nxT x y b l).serial) (frameL (bodyR (nxT x y b l))) = _ := e1
        rw [e2, if_pos (by simp)]
        refine ⟨t', rfl, ?_⟩
        rcases ht with rfl | rfl | rfl | rfl
        · exact h
        · exact ⟨by decide, z1, z2, fun p h => (by cases h), h.sx, h.sy⟩
        · exact ⟨by simp only [szO]; omega, z1, z2, fun p h => (by obtain rfl := Option.some.inj h; simp), h.sx, h.sy⟩
        · exact ⟨by simp only [szO]; omega, z1, z2, fun p h => (by obtain rfl := Option.some.inj h; simp), h.sx, h.sy⟩
      · right
        have e2 : placeR (swD t x y fu false) (nameR (nxT x y b l).serial) (frameL (bodyR (nxT x y b l))) = _ := e1
        rw [e2, if_neg (by simp)]
        obtain ⟨w1, w2⟩ := szO_set (nameR (nxT x y b l).serial) (frameL (bodyR (nxT x y b l)), (frameL (bodyR (nxT x y b l))).length) x y z1 z2 (by simp only; omega)
        obtain ⟨s1, s2⟩ := safe_set (nameR (nxT x y b l).serial) (frameL (bodyR (nxT x y b l))) x y h.sx h.sy
        refine ⟨_, _, fu', rfl, h2, ⟨by decide, w1, w2, fun p h => (by cases h), s1, s2⟩, top_set x y _ _ hr ?_ _⟩
        show (top x y).serial < (top x y).serial + 1
        omega
theorem crash_safe (n : ByteArray) (p : List UInt8 × Nat) (h : p.2 = p.1.length) (k t : Int) (hk : 0 ≤ k) : crashF ⟨n, p.1, p.2⟩ k t = ⟨n, p.1, p.2⟩ := by
  rw [h]
  exact crashF_safe n p.1 k t hk
theorem crash3 (t x y : Option (List UInt8 × Nat)) (h : Sw t x y) (ks ts : List Int) (fu : Int) (dk : Bool) : ∃ t', crashD (swD t x y fu dk) ks ts = swD t' x y (-1) false ∧ Sw t' x y := by
  have key : ∃ t', crashL ks ts (fs3 t x y) = fs3 t' x y ∧ Sw t' x y := by
    have hk : ∀ i, 0 ≤ toldL ks i := toldL_ge ks
    cases t with
    | none =>
      refine ⟨none, ?_, h⟩
      cases x with
      | none =>
        cases y with
        | none => rfl
        | some q => simp only [fs3, ent, crashL, List.nil_append, List.mapIdx_cons, List.mapIdx_nil, crash_safe _ q (h.sy q rfl) _ _ (hk _)]
      | some p =>
        cases y with
        | none => simp only [fs3, ent, crashL, List.nil_append, List.append_nil, List.mapIdx_cons, List.mapIdx_nil, crash_safe _ p (h.sx p rfl) _ _ (hk _)]
        | some q => simp only [fs3, ent, crashL, List.nil_append, List.cons_append, List.mapIdx_cons, List.mapIdx_nil, crash_safe _ p (h.sx p rfl) _ _ (hk _), crash_safe _ q (h.sy q rfl) _ _ (hk _)]
    | some u =>
      have hc := crashF_le ⟨nNew, u.1, u.2⟩ (toldL ks 0) (toldL ts 0) (h.st u rfl)
      have hs : (crashF ⟨nNew, u.1, u.2⟩ (toldL ks 0) (toldL ts 0)).safe ≤ (crashF ⟨nNew, u.1, u.2⟩ (toldL ks 0) (toldL ts 0)).bytes.length := by
        have hu := h.st u rfl
        have hkp : keptN ⟨nNew, u.1, u.2⟩ (toldL ks 0) ≤ u.1.length := by
          unfold keptN
          simp only
          omega
        unfold crashF
        simp only [List.length_append, List.length_take, List.length_replicate]
        omega
      refine ⟨some ((crashF ⟨nNew, u.1, u.2⟩ (toldL ks 0) (toldL ts 0)).bytes, (crashF ⟨nNew, u.1, u.2⟩ (toldL ks 0) (toldL ts 0)).safe), ?_, ⟨?_, h.zx, h.zy, ?_, h.sx, h.sy⟩⟩
      · have hn : ∀ k t : Int, (crashF ⟨nNew, u.1, u.2⟩ k t).name = nNew := fun _ _ => rfl
        cases x with
        | none =>
          cases y with
          | none => rfl
          | some q => simp only [fs3, ent, crashL, List.nil_append, List.cons_append, List.mapIdx_cons, List.mapIdx_nil, crash_safe _ q (h.sy q rfl) _ _ (hk _)]; rfl
        | some p =>
          cases y with
          | none => simp only [fs3, ent, crashL, List.nil_append, List.append_nil, List.cons_append, List.mapIdx_cons, List.mapIdx_nil, crash_safe _ p (h.sx p rfl) _ _ (hk _)]; rfl
          | some q => simp only [fs3, ent, crashL, List.nil_append, List.cons_append, List.mapIdx_cons, List.mapIdx_nil, crash_safe _ p (h.sx p rfl) _ _ (hk _), crash_safe _ q (h.sy q rfl) _ _ (hk _)]; rfl
      · have := h.zt
        simp only [szO] at this ⊢
        exact Nat.le_trans hc this
      · intro p hp
        obtain rfl := Option.some.inj hp
        exact hs
  obtain ⟨t', e, hw⟩ := key
  refine ⟨t', ?_, hw⟩
  unfold crashD swD
  rw [e]
theorem sw_read (t x y : Option (List UInt8 × Nat)) (fu : Int) : readR (swD t x y fu false) = (top x y, decide (0 < (top x y).serial), 0) := by
  unfold readR
  rw [if_neg (by simp [swD])]
  have e : rootD (swD t x y fu false) = top x y := root3' _ _ _ _ _
  rw [e]
theorem sw_arm (t x y : Option (List UInt8 × Nat)) (n : Int) (hn : 0 ≤ n) : armD (swD t x y (-1) false) n = swD t x y n false := by
  unfold armD swD
  rw [if_neg (by simp)]
  simp only [Int.max_eq_left hn]
end Go.Proofs.YtffgbjojngnebaaDoor
