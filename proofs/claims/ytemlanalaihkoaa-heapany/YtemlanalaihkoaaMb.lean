/-
  Timers in order, as a list: plain lemmas, with no walk. Own work.
-/
import Derived.Test.YtemlanalaihkoaaMa
namespace Go.Proofs.Ytemlanalaihkoaa

/-- the timers are in order, no two of one Id -/
structure Srt (L : List Tm) : Prop where
  ord : L.Pairwise Ah
  ids : L.Pairwise (fun a b => a.2 ≠ b.2)
theorem Srt.nil : Srt [] := ⟨List.Pairwise.nil, List.Pairwise.nil⟩
theorem Srt.tail {x : Tm} {L : List Tm} (h : Srt (x :: L)) : Srt L := ⟨(List.pairwise_cons.1 h.ord).2, (List.pairwise_cons.1 h.ids).2⟩
theorem Srt.sub {L M : List Tm} (h : Srt L) (hs : M.Sublist L) : Srt M := ⟨h.ord.sublist hs, h.ids.sublist hs⟩
theorem Srt.head {x : Tm} {L : List Tm} (h : Srt (x :: L)) : ∀ y ∈ L, Ah x y := (List.pairwise_cons.1 h.ord).1
theorem pw_mem {α : Type} {R : α → α → Prop} (hr : ∀ a b, R a b → R b a) {L : List α} (h : L.Pairwise R) {x y : α} (hx : x ∈ L) (hy : y ∈ L) (hne : x ≠ y) : R x y := by
  induction L with
  | nil => cases hx
  | cons z t ih =>
    obtain ⟨h1, h2⟩ := List.pairwise_cons.1 h
    rcases List.mem_cons.1 hx with rfl | hx'
    · rcases List.mem_cons.1 hy with rfl | hy'
      · exact absurd rfl hne
      · exact h1 _ hy'
    · rcases List.mem_cons.1 hy with rfl | hy'
      · exact hr _ _ (h1 _ hx')
      · exact ih h2 hx' hy'
theorem Srt.one {L : List Tm} (h : Srt L) {x y : Tm} (hx : x ∈ L) (hy : y ∈ L) (e : x.2 = y.2) : x = y := by
  by_cases hne : x = y
  · exact hne
  · exact absurd e (pw_mem (fun _ _ h => Ne.symm h) h.ids hx hy hne)
/-- two rows in order that have the same timers are one -/
theorem ord_ext : ∀ {L M : List Tm}, L.Pairwise Ah → M.Pairwise Ah → (∀ x, x ∈ L ↔ x ∈ M) → L = M
  | [], [], _, _, _ => rfl
  | [], y :: M, _, _, h => by have := (h y).2 List.mem_cons_self; cases this
  | x :: L, [], _, _, h => by have := (h x).1 List.mem_cons_self; cases this
  | x :: L, y :: M, hL, hM, h => by
    obtain ⟨l1, l2⟩ := List.pairwise_cons.1 hL
    obtain ⟨m1, m2⟩ := List.pairwise_cons.1 hM
    have e : x = y := by
      rcases List.mem_cons.1 ((h x).1 List.mem_cons_self) with e | hx
      · exact e
      · rcases List.mem_cons.1 ((h y).2 List.mem_cons_self) with e | hy
        · exact e.symm
        · exact absurd (l1 _ hy) (m1 _ hx).asy
    subst e
    rw [ord_ext l2 m2 fun z => ?_]
    constructor
    · intro hz
      rcases List.mem_cons.1 ((h z).1 (List.mem_cons_of_mem _ hz)) with e | h'
      · exact absurd (e ▸ l1 _ hz) (Ah.irr _)
      · exact h'
    · intro hz
      rcases List.mem_cons.1 ((h z).2 (List.mem_cons_of_mem _ hz)) with e | h'
      · exact absurd (e ▸ m1 _ hz) (Ah.irr _)
      · exact h'

/-- a timer laid in where it belongs -/
def insL (t : Tm) : List Tm → List Tm
  | [] => [t]
  | x :: r => if Ah x t then x :: insL t r else t :: x :: r
/-- all but that of an Id -/
def delL (id : Int) (L : List Tm) : List Tm := L.filter fun x => decide (x.2 ≠ id)
/-- is there one of an Id? -/
def hasL (id : Int) (L : List Tm) : Bool := L.any fun x => decide (x.2 = id)
theorem hasL_iff {id : Int} {L : List Tm} : hasL id L = true ↔ ∃ x ∈ L, x.2 = id := by simp [hasL]
theorem hasL_false {id : Int} {L : List Tm} : hasL id L = false ↔ ∀ x ∈ L, x.2 ≠ id := by simp [hasL]
theorem mem_ins (t x : Tm) (L : List Tm) : x ∈ insL t L ↔ x = t ∨ x ∈ L := by
  induction L with
  | nil => simp [insL]
  | cons y r ih =>
    unfold insL
    split
    · simp only [List.mem_cons, ih]
      constructor <;> (rintro (h | h | h) <;> simp [h])
    · simp
theorem len_ins (t : Tm) (L : List Tm) : (insL t L).length = L.length + 1 := by
  induction L with
  | nil => rfl
  | cons y r ih =>
    unfold insL
    split
    · simp [ih]
    · simp
theorem Srt.ins {L : List Tm} (h : Srt L) {t : Tm} (ht : hasL t.2 L = false) : Srt (insL t L) := by
  induction L with
  | nil => exact ⟨List.pairwise_singleton _ _, List.pairwise_singleton _ _⟩
  | cons y r ih =>
    have hf := hasL_false.1 ht
    obtain ⟨a1, a2⟩ := List.pairwise_cons.1 h.ord
    obtain ⟨b1, b2⟩ := List.pairwise_cons.1 h.ids
    have ih' := ih ⟨a2, b2⟩ (hasL_false.2 fun x hx => hf x (List.mem_cons_of_mem _ hx))
    unfold insL
    split
    · rename_i hy
      refine ⟨List.pairwise_cons.2 ⟨fun z hz => ?_, ih'.ord⟩, List.pairwise_cons.2 ⟨fun z hz => ?_, ih'.ids⟩⟩
      · rcases (mem_ins _ _ _).1 hz with rfl | hz
        · exact hy
        · exact a1 _ hz
      · rcases (mem_ins _ _ _).1 hz with rfl | hz
        · exact hf _ List.mem_cons_self
        · exact b1 _ hz
    · rename_i hy
      have hty : Ah t y := by
        rcases Ah.tri y t with h' | h' | h'
        · exact absurd h' hy
        · exact absurd (by rw [h']) (hf y List.mem_cons_self)
        · exact h'
      refine ⟨List.pairwise_cons.2 ⟨fun z hz => ?_, h.ord⟩, List.pairwise_cons.2 ⟨fun z hz => fun e => hf z hz e.symm, h.ids⟩⟩
      rcases List.mem_cons.1 hz with rfl | hz
      · exact hty
      · exact hty.trans (a1 _ hz)
theorem mem_del {id : Int} {x : Tm} {L : List Tm} : x ∈ delL id L ↔ x ∈ L ∧ x.2 ≠ id := by simp [delL]
theorem Srt.del {L : List Tm} (h : Srt L) (id : Int) : Srt (delL id L) := h.sub List.filter_sublist
theorem len_del {L : List Tm} (h : Srt L) {x : Tm} (hx : x ∈ L) : (delL x.2 L).length + 1 = L.length := by
  induction L with
  | nil => cases hx
  | cons y r ih =>
    have hs := h.tail
    obtain ⟨b1, -⟩ := List.pairwise_cons.1 h.ids
    rcases List.mem_cons.1 hx with rfl | hx
    · have : delL x.2 r = r := List.filter_eq_self.2 fun z hz => by simpa using fun e => b1 z hz e.symm
      unfold delL at this ⊢
      rw [List.filter_cons_of_neg (by simp), this]
      simp
    · have hne : y.2 ≠ x.2 := b1 _ hx
      have := ih hs hx
      unfold delL at this ⊢
      rw [List.filter_cons_of_pos (by simpa using hne)]
      simp only [List.length_cons]
      omega
theorem del_none {id : Int} {L : List Tm} (h : hasL id L = false) : delL id L = L := List.filter_eq_self.2 fun z hz => by simpa using hasL_false.1 h z hz
theorem del_head {x : Tm} {L : List Tm} (h : Srt (x :: L)) : delL x.2 (x :: L) = L := by
  obtain ⟨b1, -⟩ := List.pairwise_cons.1 h.ids
  have : delL x.2 L = L := List.filter_eq_self.2 fun z hz => by simpa using fun e => b1 z hz e.symm
  unfold delL at this ⊢
  rw [List.filter_cons_of_neg (by simp), this]

/-- the row of places holds just these timers -/
structure SL (L : List Tm) (f : Nat → Tm) (n : Nat) : Prop where
  srt : Srt L
  len : L.length = n
  mem : ∀ x, x ∈ L ↔ ∃ i, i < n ∧ f i = x
theorem SL.congr {L : List Tm} {f g : Nat → Tm} {n : Nat} (h : SL L f n) (e : ∀ x, (∃ i, i < n ∧ g i = x) ↔ ∃ i, i < n ∧ f i = x) : SL L g n :=
  ⟨h.srt, h.len, fun x => (h.mem x).trans (e x).symm⟩
theorem swp_mem (f : Nat → Tm) (n a b : Nat) (ha : a < n) (hb : b < n) (x : Tm) : (∃ i, i < n ∧ swp f a b i = x) ↔ ∃ i, i < n ∧ f i = x := by
  constructor
  · rintro ⟨i, hi, e⟩
    unfold swp at e
    split at e
    · exact ⟨b, hb, e⟩
    · split at e
      · exact ⟨a, ha, e⟩
      · exact ⟨i, hi, e⟩
  · rintro ⟨i, hi, e⟩
    by_cases h1 : i = a
    · subst h1; exact ⟨b, hb, by rw [swp_r, e]⟩
    · by_cases h2 : i = b
      · subst h2; exact ⟨a, ha, by rw [swp_l, e]⟩
      · exact ⟨i, hi, by rw [swp_o _ _ _ _ h1 h2, e]⟩
theorem SL.swp {L : List Tm} {f : Nat → Tm} {n a b : Nat} (h : SL L f n) (ha : a < n) (hb : b < n) : SL L (Go.Proofs.Ytemlanalaihkoaa.swp f a b) n := h.congr (swp_mem f n a b ha hb)
theorem SL.put {L : List Tm} {f : Nat → Tm} {n : Nat} (h : SL L f n) {t : Tm} (ht : hasL t.2 L = false) : SL (insL t L) (setF f n t) (n + 1) := by
  refine ⟨h.srt.ins ht, by rw [len_ins, h.len], fun x => ?_⟩
  rw [mem_ins, h.mem]
  constructor
  · rintro (rfl | ⟨i, hi, e⟩)
    · exact ⟨n, by omega, setF_same _ _ _⟩
    · exact ⟨i, by omega, by rw [setF_other _ _ _ _ (by omega), e]⟩
  · rintro ⟨i, hi, e⟩
    by_cases h1 : i = n
    · subst h1; rw [setF_same] at e; exact .inl e.symm
    · rw [setF_other _ _ _ _ h1] at e
      exact .inr ⟨i, by omega, e⟩
theorem SL.at {L : List Tm} {f : Nat → Tm} {n : Nat} (h : SL L f n) {i : Nat} (hi : i < n) : f i ∈ L := (h.mem _).2 ⟨i, hi, rfl⟩
theorem SL.strike {L : List Tm} {f : Nat → Tm} {n p : Nat} {l : Int → Option Nat} (h : SL L f (n + 1)) (hp : p ≤ n) (hl : PL l f (n + 1)) : SL (delL (f p).2 L) (setF f p (f n)) n := by
  have hlen := len_del h.srt (h.at (i := p) (by omega))
  refine ⟨h.srt.del _, by rw [h.len] at hlen; omega, fun x => ?_⟩
  rw [mem_del, h.mem]
  constructor
  · rintro ⟨⟨i, hi, e⟩, hne⟩
    have hip : i ≠ p := fun h' => hne (by rw [← e, h'])
    by_cases h1 : i = n
    · subst h1; exact ⟨p, by omega, by rw [setF_same, e]⟩
    · exact ⟨i, by omega, by rw [setF_other _ _ _ _ hip, e]⟩
  · rintro ⟨i, hi, e⟩
    by_cases h1 : i = p
    · subst h1
      rw [setF_same] at e
      refine ⟨⟨n, by omega, e⟩, fun h' => ?_⟩
      have := hl.inj (i := n) (j := i) (by omega) (by omega) (by rw [e, h'])
      omega
    · rw [setF_other _ _ _ _ h1] at e
      refine ⟨⟨i, by omega, e⟩, fun h' => h1 (hl.inj (by omega) (by omega) (by rw [e, h']))⟩
theorem SL.has {L : List Tm} {f : Nat → Tm} {n : Nat} {l : Int → Option Nat} (h : SL L f n) (hl : PL l f n) (id : Int) : (l id).isSome = hasL id L := by
  rw [Bool.eq_iff_iff, hasL_iff, Option.isSome_iff_exists]
  constructor
  · rintro ⟨i, e⟩
    obtain ⟨hi, e'⟩ := (hl _ _).1 e
    exact ⟨_, h.at hi, e'⟩
  · rintro ⟨x, hx, e⟩
    obtain ⟨i, hi, e'⟩ := (h.mem _).1 hx
    exact ⟨i, (hl _ _).2 ⟨hi, by rw [e', e]⟩⟩
theorem SL.first {x : Tm} {L : List Tm} {f : Nat → Tm} {n : Nat} (h : SL (x :: L) f n) (ho : HO f n) : f 0 = x := by
  have hn : n = L.length + 1 := by rw [← h.len]; rfl
  rcases List.mem_cons.1 (h.at (i := 0) (by omega)) with e | h0
  · exact e
  · obtain ⟨i, hi, e⟩ := (h.mem x).1 List.mem_cons_self
    have := ho.first i hi
    rw [e] at this
    exact absurd (h.srt.head _ h0) this
/-- the timer of an Id -/
def getL (id : Int) (L : List Tm) : Option Tm := L.find? fun x => decide (x.2 = id)
theorem getL_of {L : List Tm} (h : Srt L) {x : Tm} (hx : x ∈ L) : getL x.2 L = some x := by
  unfold getL
  cases e : L.find? fun y => decide (y.2 = x.2) with
  | none => exact absurd (List.find?_eq_none.1 e x hx) (by simp)
  | some y =>
    have h1 := List.find?_some e
    have h2 := List.mem_of_find?_eq_some e
    rw [h.one h2 hx (by simpa using h1)]
theorem getL_none {id : Int} {L : List Tm} (h : hasL id L = false) : getL id L = none := by
  unfold getL
  rw [List.find?_eq_none]
  intro x hx
  simpa using hasL_false.1 h x hx
/-- how many are due, one behind the other -/
def dueL (now : Int) (L : List Tm) : List Tm := L.takeWhile fun x => decide (x.1 ≤ now)
def restL (now : Int) (L : List Tm) : List Tm := L.dropWhile fun x => decide (x.1 ≤ now)
theorem due_rest (now : Int) (L : List Tm) : dueL now L ++ restL now L = L := List.takeWhile_append_dropWhile
end Go.Proofs.Ytemlanalaihkoaa
