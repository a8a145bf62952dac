/-
  Several of my texts in one: Pa Ca Cb Cc Cd Ce Cf. Own work.
-/
import Derived.Test.YtpiiehenmkinaaaDoorU1
import Derived.Maps.OwnSet
import Derived.Maps.OwnOps
import Derived.Maps.Keyed
/-
  Programs as lists: what may be one, its bytes, what is read of any bytes. Own work, no walk.
-/
namespace Go.Proofs.YtpiiehenmkinaaaDoor
open Go.RowKit

/-- an instruction -/
structure Ins where
  op : Nat
  a : Int
  b : Int
  c : Int
  n : Int
  s : ByteArray
/-- a program -/
structure Prg where
  name : ByteArray
  regs : Int
  code : List Ins
def IR (x : Int) : Prop := -9223372036854775808 ≤ x ∧ x ≤ 9223372036854775807
/-- an instruction whose fields are of their types -/
structure Ins.wf (i : Ins) : Prop where
  op : i.op < 256
  a : IR i.a
  b : IR i.b
  c : IR i.c
  n : IR i.n
  s : i.s.size ≤ maxLen

/-- the letters of what a field may be: r 114, j 106, p 112, n 110, s 115, none 46 -/
def fields : Nat → List Nat
  | 1 => [114, 46, 46, 110, 46]
  | 2 => [114, 114, 46, 46, 46]
  | 3 => [114, 114, 114, 46, 46]
  | 4 => [114, 114, 114, 46, 46]
  | 5 => [114, 114, 114, 46, 46]
  | 6 => [114, 114, 114, 46, 46]
  | 7 => [114, 114, 114, 46, 46]
  | 8 => [46, 46, 46, 106, 46]
  | 9 => [114, 46, 46, 106, 46]
  | 10 => [114, 114, 112, 46, 115]
  | 11 => [114, 114, 46, 46, 46]
  | 12 => [114, 114, 46, 46, 115]
  | 13 => [114, 114, 114, 46, 46]
  | 14 => [114, 46, 46, 46, 46]
  | 15 => [114, 46, 46, 46, 46]
  | 16 => [114, 46, 46, 46, 46]
  | _ => []
def fit (regs places pol : Int) (l : Nat) (x : Int) : Bool :=
  if l = 114 then decide (0 ≤ x ∧ x < regs) else if l = 106 then decide (0 ≤ x ∧ x < places) else if l = 112 then decide (0 ≤ x ∧ x < pol)
  else if l = 110 then true else if l = 115 then decide (1 ≤ x ∧ x ≤ 40) else decide (0 ≤ x ∧ x < 1)
def vals (i : Ins) : List Int := [i.a, i.b, i.c, i.n, (i.s.size : Int)]
def fits (regs places pol : Int) : List Nat → List Int → Bool
  | l :: ls, x :: xs => fit regs places pol l x && fits regs places pol ls xs
  | [], _ => true
  | _, [] => true
def insB (regs places pol : Int) (i : Ins) : Bool := decide ((fields i.op).length = 5) && fits regs places pol (fields i.op) (vals i)
def endsB (l : List Ins) : Bool :=
  match l.getLast? with
  | none => false
  | some i => decide (i.op = 8 ∨ i.op = 15 ∨ i.op = 16)
def okP (p : Prg) (pol : Int) : Bool :=
  decide (1 ≤ p.name.size ∧ p.name.size ≤ 40) && decide (1 ≤ p.regs ∧ p.regs ≤ 16) && decide (p.code.length ≤ 500) && endsB p.code && p.code.all (insB p.regs p.code.length pol)

/-- a text as bytes -/
def nm (s : ByteArray) : List UInt8 := s.data.toList
theorem nm_len (s : ByteArray) : (nm s).length = s.size := by
  show s.data.toList.length = s.data.size
  rw [Array.length_toList]
theorem nm_mk (l : List UInt8) : nm ⟨l.toArray⟩ = l := by simp [nm]
theorem mk_nm (s : ByteArray) : (⟨(nm s).toArray⟩ : ByteArray) = s := by
  cases s
  show (⟨_⟩ : ByteArray) = ⟨_⟩
  congr 1
def insL (i : Ins) : List UInt8 := U i.op ++ (U i.a ++ (U i.b ++ (U i.c ++ (U (foldI i.n) ++ blobL (nm i.s)))))
def headL (p : Prg) : List UInt8 := blobL (nm p.name) ++ (U p.regs ++ U (p.code.length : Int))
def codeL (l : List Ins) : List UInt8 := (l.map insL).flatten
def bytesP (p : Prg) : List UInt8 := headL p ++ codeL p.code

/-- a reader: the place, was something wrong -/
abbrev RS := Nat × Bool
def numR (l : List UInt8) (most : Nat) (st : RS) : Nat × RS :=
  if st.2 = true then (0, st) else if (getU l st.1).2.2 ≠ 0 ∨ most < (getU l st.1).1 then (0, (st.1, true)) else ((getU l st.1).1, ((getU l st.1).2.1, false))
def sigR (l : List UInt8) (st : RS) : Int × RS :=
  if st.2 = true then (0, st) else (unfoldI (getU l st.1).1, ((getU l st.1).2.1, decide ((getU l st.1).2.2 ≠ 0)))
def txtR (l : List UInt8) (st : RS) : List UInt8 × RS :=
  if st.2 = true then ([], st) else ((getB l st.1 40).1, ((getB l st.1 40).2.1, decide ((getB l st.1 40).2.2 ≠ 0)))
def insR (l : List UInt8) (st : RS) : Ins × RS :=
  (⟨(numR l 255 st).1, (numR l 16 (numR l 255 st).2).1, (numR l 16 (numR l 16 (numR l 255 st).2).2).1, (numR l 20 (numR l 16 (numR l 16 (numR l 255 st).2).2).2).1,
    (sigR l (numR l 20 (numR l 16 (numR l 16 (numR l 255 st).2).2).2).2).1, ⟨(txtR l (sigR l (numR l 20 (numR l 16 (numR l 16 (numR l 255 st).2).2).2).2).2).1.toArray⟩⟩,
    (txtR l (sigR l (numR l 20 (numR l 16 (numR l 16 (numR l 255 st).2).2).2).2).2).2)
def codeR (l : List UInt8) : Nat → RS → List Ins → List Ins × RS
  | 0, st, acc => (acc, st)
  | k + 1, st, acc => if st.2 = true then (acc, st) else codeR l k (insR l st).2 (acc ++ [(insR l st).1])
def prgR (l : List UInt8) : Prg × RS :=
  (⟨⟨(txtR l (0, false)).1.toArray⟩, ((numR l 16 (txtR l (0, false)).2).1 : Nat), (codeR l (numR l 500 (numR l 16 (txtR l (0, false)).2).2).1 (numR l 500 (numR l 16 (txtR l (0, false)).2).2).2 []).1⟩,
    (codeR l (numR l 500 (numR l 16 (txtR l (0, false)).2).2).1 (numR l 500 (numR l 16 (txtR l (0, false)).2).2).2 []).2)
def noP : Prg := ⟨⟨#[]⟩, 0, []⟩
def goodR (l : List UInt8) : Bool := !(prgR l).2.2 && decide ((prgR l).2.1 = l.length) && okP (prgR l).1 20
/-- what is read of bytes; whether it may be -/
def readR (l : List UInt8) : Prg × Nat := if goodR l = true then ((prgR l).1, 0) else (noP, 100)

/-- these bytes stand from p on, till q -/
def At (l : List UInt8) (p : Nat) (x : List UInt8) (q : Nat) : Prop := p ≤ l.length ∧ l.drop p = x ++ l.drop q ∧ q = p + x.length
theorem At.len {l : List UInt8} {p q : Nat} {x : List UInt8} (h : At l p x q) : q ≤ l.length := by
  obtain ⟨h1, h2, h3⟩ := h
  have := congrArg List.length h2
  simp only [List.length_drop, List.length_append] at this
  omega
theorem At.join {l : List UInt8} {p m q : Nat} {x y : List UInt8} (h : At l p x m) (k : At l m y q) : At l p (x ++ y) q := by
  obtain ⟨h1, h2, h3⟩ := h
  obtain ⟨k1, k2, k3⟩ := k
  exact ⟨h1, by rw [h2, k2, List.append_assoc], by rw [k3, h3, List.length_append]; omega⟩
theorem At.split {l : List UInt8} {p q : Nat} {x y : List UInt8} (h : At l p (x ++ y) q) : At l p x (p + x.length) ∧ At l (p + x.length) y q := by
  have hq := h.len
  obtain ⟨h1, h2, h3⟩ := h
  rw [List.length_append] at h3
  have e : l.drop (p + x.length) = y ++ l.drop q := by
    rw [← List.drop_drop, h2, List.append_assoc, List.drop_left]
  exact ⟨⟨h1, by rw [h2, e, List.append_assoc], rfl⟩, ⟨by omega, e, by omega⟩⟩
theorem At.nil {l : List UInt8} {p : Nat} (h : p ≤ l.length) : At l p [] p := ⟨h, rfl, rfl⟩
theorem At.form {l : List UInt8} {p q : Nat} {x : List UInt8} (h : At l p x q) : l = l.take p ++ (x ++ l.drop q) ∧ (l.take p).length = p := by
  obtain ⟨h1, h2, h3⟩ := h
  exact ⟨by rw [← h2, List.take_append_drop], by rw [List.length_take]; omega⟩
theorem At.whole (x rest : List UInt8) : At (x ++ rest) 0 x x.length := ⟨Nat.zero_le _, by simp, by simp⟩

theorem rdU_inv (p i acc n q : Nat) (l : List UInt8) (hi : i ≤ 10) (h : rdU p i acc l = (n, q, 0)) :
    ∃ m, n = acc + m * 2 ^ (7 * i) ∧ q = p + i + (sev (10 - i) m).length ∧ l.take (sev (10 - i) m).length = sev (10 - i) m ∧ (0 < i → 0 < m) := by
  induction l generalizing i acc with
  | nil => simp [rdU] at h
  | cons x t ih =>
    by_cases h10 : i = 10
    · rw [rdU, if_pos h10] at h
      simp at h
    · have hlt : i < 10 := by omega
      rw [rdU_cons _ _ _ _ _ hlt] at h
      have hx8 : x.toNat < 256 := x.toNat_lt
      cases hm : mayB x.toNat i with
      | false => rw [if_pos hm] at h; simp at h
      | true =>
        rw [if_neg (by rw [hm]; simp)] at h
        by_cases hx : x.toNat < 128
        · rw [if_pos hx] at h
          simp only [Prod.mk.injEq, and_true] at h
          have hs : sev (10 - i) x.toNat = [x] := by
            rw [show 10 - i = (9 - i) + 1 by omega, sev, if_pos hx]
            simp
          refine ⟨x.toNat, ?_, ?_, ?_, ?_⟩
          · rw [← h.1, Nat.mod_eq_of_lt hx]
          · rw [hs, ← h.2]; rfl
          · rw [hs]; rfl
          · intro hi0
            simp [mayB] at hm
            omega
        · rw [if_neg hx] at h
          obtain ⟨m, h1, h2, h3, h4⟩ := ih (i + 1) _ (by omega) h
          have hm0 := h4 (by omega)
          have hs : sev (10 - i) (x.toNat % 128 + 128 * m) = x :: sev (10 - (i + 1)) m := by
            rw [show 10 - i = (10 - (i + 1)) + 1 by omega, sev, if_neg (by omega)]
            congr 1
            · rw [← UInt8.toNat_inj, UInt8.toNat_ofNat']
              omega
            · congr 1
              omega
          refine ⟨x.toNat % 128 + 128 * m, ?_, ?_, ?_, by omega⟩
          · rw [h1, Nat.add_assoc]
            congr 1
            have e : 2 ^ (7 * (i + 1)) = 128 * 2 ^ (7 * i) := by rw [Nat.mul_add, Nat.pow_add]; omega
            rw [e, Nat.add_mul, ← Nat.mul_assoc, Nat.mul_comm m 128]
          · rw [hs, List.length_cons, h2]; omega
          · rw [hs, List.length_cons, List.take_succ_cons, h3]
theorem getU_at (l : List UInt8) (p n q : Nat) (h : getU l p = (n, q, 0)) : At l p (U n) q := by
  unfold getU at h
  split at h
  · simp at h
  · rename_i hp
    rw [Int.toNat_natCast] at h
    obtain ⟨m, h1, h2, h3, -⟩ := rdU_inv p 0 0 n q _ (by omega) h
    simp only [Nat.mul_zero, Nat.pow_zero, Nat.mul_one, Nat.zero_add, Nat.add_zero] at h1 h2
    subst h1
    have h3' : (l.drop p).take (U n).length = U n := h3
    have h2' : q = p + (U n).length := h2
    refine ⟨by omega, ?_, h2'⟩
    rw [h2', ← List.drop_drop]
    calc l.drop p = (l.drop p).take (U n).length ++ (l.drop p).drop (U n).length := (List.take_append_drop _ _).symm
      _ = U n ++ (l.drop p).drop (U n).length := by rw [h3']
theorem getB_at (l : List UInt8) (p : Nat) (k : Int) (h : (getB l p k).2.2 = 0) : At l p (blobL (getB l p k).1) (getB l p k).2.1 ∧ ((getB l p k).1.length : Int) ≤ k := by
  cases hg : getU l p with
  | mk n r =>
    obtain ⟨q, e⟩ := r
    unfold getB at h ⊢
    rw [hg] at h ⊢
    simp only at h ⊢
    by_cases he : e ≠ 0
    · rw [if_pos he] at h
      exact absurd h he
    · have he0 : e = 0 := by omega
      subst he0
      rw [if_neg he] at h ⊢
      by_cases h2 : k < 0 ∨ k < (n : Int)
      · rw [if_pos h2] at h
        simp at h
      · rw [if_neg h2] at h ⊢
        by_cases h4 : l.length - q < n
        · rw [if_pos h4] at h
          simp at h
        · rw [if_neg h4]
          have ha := getU_at l p n q hg
          have hq := ha.len
          have hl : ((l.drop q).take n).length = n := by rw [List.length_take, List.length_drop]; omega
          refine ⟨?_, by show (((l.drop q).take n).length : Int) ≤ k; omega⟩
          show At l p (blobL ((l.drop q).take n)) (q + n)
          unfold blobL
          rw [hl]
          refine ha.join ⟨hq, ?_, by rw [hl]⟩
          rw [← List.drop_drop, List.take_append_drop]

theorem numR_back {l : List UInt8} {p q : Nat} (n : Int) (most : Nat) (h : At l p (U n) q) (h0 : 0 ≤ n) (h1 : n ≤ most) (h2 : most ≤ 18446744073709551615) : numR l most (p, false) = (n.toNat, (q, false)) := by
  obtain ⟨m, rfl⟩ := Int.eq_ofNat_of_zero_le h0
  obtain ⟨e1, e2⟩ := h.form
  have hg := getU_U m (by omega) (l.take p) (l.drop q)
  rw [← e1, e2, ← h.2.2] at hg
  unfold numR
  simp only [hg]
  rw [if_neg (by simp), if_neg (by omega)]
  rfl
theorem sigR_back {l : List UInt8} {p q : Nat} (n : Int) (h : At l p (U (foldI n)) q) (hn : IR n) : sigR l (p, false) = (n, (q, false)) := by
  have hr := foldI_range n hn.1 hn.2
  obtain ⟨m, hm⟩ := Int.eq_ofNat_of_zero_le hr.1
  rw [hm] at h
  obtain ⟨e1, e2⟩ := h.form
  have hg := getU_U m (by omega) (l.take p) (l.drop q)
  rw [← e1, e2, ← h.2.2] at hg
  unfold sigR
  simp only [hg]
  rw [if_neg (by simp), ← hm, unfold_fold]
  rfl
theorem txtR_back {l : List UInt8} {p q : Nat} (b : List UInt8) (h : At l p (blobL b) q) (hb : b.length ≤ 40) : txtR l (p, false) = (b, (q, false)) := by
  obtain ⟨e1, e2⟩ := h.form
  have hg := getB_blob b (l.take p) (l.drop q) 40 (by omega) (by omega)
  rw [← e1, e2, ← h.2.2] at hg
  unfold txtR
  simp only [hg]
  rw [if_neg (by simp)]
  rfl
theorem numR_inv {l : List UInt8} {most : Nat} {st : RS} (h : (numR l most st).2.2 = false) : st.2 = false ∧ At l st.1 (U (numR l most st).1) (numR l most st).2.1 ∧ (numR l most st).1 ≤ most := by
  unfold numR at h ⊢
  by_cases h1 : st.2 = true
  · rw [if_pos h1] at h
    rw [h1] at h
    cases h
  · rw [if_neg h1] at h ⊢
    by_cases h2 : (getU l st.1).2.2 ≠ 0 ∨ most < (getU l st.1).1
    · rw [if_pos h2] at h
      cases h
    · rw [if_neg h2]
      refine ⟨by simpa using h1, getU_at _ _ _ _ ?_, by show (getU l st.1).1 ≤ most; omega⟩
      show getU l st.1 = _
      have h3 : (getU l st.1).2.2 = 0 := by omega
      rw [← h3]
theorem sigR_inv {l : List UInt8} {st : RS} (h : (sigR l st).2.2 = false) : st.2 = false ∧ At l st.1 (U (foldI (sigR l st).1)) (sigR l st).2.1 ∧ IR (sigR l st).1 := by
  unfold sigR at h ⊢
  by_cases h1 : st.2 = true
  · rw [if_pos h1] at h
    rw [h1] at h
    cases h
  · rw [if_neg h1] at h ⊢
    have h3 : (getU l st.1).2.2 = 0 := by simpa using h
    have hlt := getU_lt l st.1
    refine ⟨by simpa using h1, ?_, unfoldI_range _ (by omega) (by omega)⟩
    show At l st.1 (U (foldI (unfoldI (getU l st.1).1))) (getU l st.1).2.1
    rw [fold_unfold _ (by omega)]
    refine getU_at _ _ _ _ ?_
    rw [← h3]
theorem txtR_inv {l : List UInt8} {st : RS} (h : (txtR l st).2.2 = false) : st.2 = false ∧ At l st.1 (blobL (txtR l st).1) (txtR l st).2.1 ∧ (txtR l st).1.length ≤ 40 := by
  unfold txtR at h ⊢
  by_cases h1 : st.2 = true
  · rw [if_pos h1] at h
    rw [h1] at h
    cases h
  · rw [if_neg h1] at h ⊢
    have h3 : (getB l st.1 40).2.2 = 0 := by simpa using h
    obtain ⟨k1, k2⟩ := getB_at l st.1 40 h3
    exact ⟨by simpa using h1, k1, by show (getB l st.1 40).1.length ≤ 40; omega⟩
theorem insR_inv {l : List UInt8} {st : RS} (h : (insR l st).2.2 = false) : st.2 = false ∧ At l st.1 (insL (insR l st).1) (insR l st).2.1 ∧ (insR l st).1.wf := by
  obtain ⟨g6, k6, b6⟩ := txtR_inv (l := l) (st := (sigR l (numR l 20 (numR l 16 (numR l 16 (numR l 255 st).2).2).2).2).2) h
  obtain ⟨g5, k5, b5⟩ := sigR_inv g6
  obtain ⟨g4, k4, b4⟩ := numR_inv g5
  obtain ⟨g3, k3, b3⟩ := numR_inv g4
  obtain ⟨g2, k2, b2⟩ := numR_inv g3
  obtain ⟨g1, k1, b1⟩ := numR_inv g2
  refine ⟨g1, ?_, ?_⟩
  · unfold insL
    have e : nm (insR l st).1.s = (txtR l (sigR l (numR l 20 (numR l 16 (numR l 16 (numR l 255 st).2).2).2).2).2).1 := nm_mk _
    rw [e]
    exact k1.join (k2.join (k3.join (k4.join (k5.join k6))))
  · refine ⟨by show (numR l 255 st).1 < 256; omega, ?_, ?_, ?_, b5, ?_⟩
    · show IR ((numR l 16 (numR l 255 st).2).1 : Int)
      unfold IR; omega
    · show IR ((numR l 16 (numR l 16 (numR l 255 st).2).2).1 : Int)
      unfold IR; omega
    · show IR ((numR l 20 (numR l 16 (numR l 16 (numR l 255 st).2).2).2).1 : Int)
      unfold IR; omega
    · have e : (insR l st).1.s.size = (txtR l (sigR l (numR l 20 (numR l 16 (numR l 16 (numR l 255 st).2).2).2).2).2).1.length := by
        rw [← nm_len]
        exact congrArg List.length (nm_mk _)
      rw [e]
      unfold maxLen
      omega
theorem codeR_inv {l : List UInt8} (k : Nat) (st : RS) (acc : List Ins) (hp : st.2 = false → st.1 ≤ l.length) (h : (codeR l k st acc).2.2 = false) :
    ∃ new, (codeR l k st acc).1 = acc ++ new ∧ new.length = k ∧ st.2 = false ∧ At l st.1 (codeL new) (codeR l k st acc).2.1 ∧ ∀ i ∈ new, i.wf := by
  induction k generalizing st acc with
  | zero => exact ⟨[], by simp [codeR], rfl, h, At.nil (hp h), fun i hi => by cases hi⟩
  | succ k ih =>
    rw [codeR] at h ⊢
    by_cases h1 : st.2 = true
    · rw [if_pos h1] at h
      rw [h1] at h
      cases h
    · rw [if_neg h1] at h ⊢
      have hle : (insR l st).2.2 = false → (insR l st).2.1 ≤ l.length := fun hf => (insR_inv hf).2.1.len
      obtain ⟨new, e1, e2, e3, e4, e5⟩ := ih _ _ hle h
      obtain ⟨g1, g2, g3⟩ := insR_inv e3
      refine ⟨(insR l st).1 :: new, by rw [e1]; simp, by simp [e2], g1, ?_, ?_⟩
      · have : codeL ((insR l st).1 :: new) = insL (insR l st).1 ++ codeL new := by simp [codeL]
        rw [this]
        exact g2.join e4
      · intro i hi
        rcases List.mem_cons.1 hi with rfl | hi
        · exact g3
        · exact e5 i hi
theorem prgR_inv {l : List UInt8} (h : (prgR l).2.2 = false) : At l 0 (bytesP (prgR l).1) (prgR l).2.1 ∧ (∀ i ∈ (prgR l).1.code, i.wf) ∧ (prgR l).1.name.size ≤ 40 ∧ IR (prgR l).1.regs ∧ (prgR l).1.code.length ≤ 500 := by
  obtain ⟨new, e1, e2, e3, e4, e5⟩ := codeR_inv (l := l) (numR l 500 (numR l 16 (txtR l (0, false)).2).2).1 (numR l 500 (numR l 16 (txtR l (0, false)).2).2).2 [] (fun hf => (numR_inv hf).2.1.len) h
  obtain ⟨g3, k3, b3⟩ := numR_inv e3
  obtain ⟨g2, k2, b2⟩ := numR_inv g3
  obtain ⟨g1, k1, b1⟩ := txtR_inv g2
  rw [List.nil_append] at e1
  have ec : (prgR l).1.code = new := e1
  have en : nm (prgR l).1.name = (txtR l (0, false)).1 := nm_mk _
  refine ⟨?_, ?_, ?_, ?_, ?_⟩
  · unfold bytesP headL
    rw [ec, en, e2]
    exact (k1.join (k2.join k3)).join e4
  · rw [ec]; exact e5
  · rw [← nm_len, en]; exact b1
  · show IR ((numR l 16 (txtR l (0, false)).2).1 : Int)
    unfold IR; omega
  · rw [ec, e2]; exact b3
theorem insB_range {regs places : Int} {i : Ins} (h : insB regs places 20 i = true) (hr : regs ≤ 16) : (0 ≤ i.a ∧ i.a ≤ 16) ∧ (0 ≤ i.b ∧ i.b ≤ 16) ∧ (0 ≤ i.c ∧ i.c ≤ 20) ∧ i.s.size ≤ 40 ∧ 1 ≤ i.op ∧ i.op ≤ 16 := by
  obtain ⟨op, a, b, c, n, s⟩ := i
  unfold insB at h
  by_cases ho : op ≤ 16
  · have : op = 0 ∨ op = 1 ∨ op = 2 ∨ op = 3 ∨ op = 4 ∨ op = 5 ∨ op = 6 ∨ op = 7 ∨ op = 8 ∨ op = 9 ∨ op = 10 ∨ op = 11 ∨ op = 12 ∨ op = 13 ∨ op = 14 ∨ op = 15 ∨ op = 16 := by omega
    rcases this with rfl | rfl | rfl | rfl | rfl | rfl | rfl | rfl | rfl | rfl | rfl | rfl | rfl | rfl | rfl | rfl | rfl <;>
      simp [fields, fits, vals, fit] at h ⊢ <;> omega
  · have : fields op = [] := by
      unfold fields
      split <;> first | rfl | omega
    rw [this] at h
    simp at h
theorem insR_back {l : List UInt8} {p q : Nat} {i : Ins} (h : At l p (insL i) q) (hw : i.wf) (ha : 0 ≤ i.a ∧ i.a ≤ 16) (hb : 0 ≤ i.b ∧ i.b ≤ 16) (hc : 0 ≤ i.c ∧ i.c ≤ 20) (hs : i.s.size ≤ 40) : insR l (p, false) = (i, (q, false)) := by
  obtain ⟨op, a, b, c, n, s⟩ := i
  unfold insL at h
  obtain ⟨h1, h⟩ := h.split
  obtain ⟨h2, h⟩ := h.split
  obtain ⟨h3, h⟩ := h.split
  obtain ⟨h4, h⟩ := h.split
  obtain ⟨h5, h6⟩ := h.split
  have hop := hw.op
  have hn := hw.n
  have e1 := numR_back (op : Int) 255 h1 (by omega) (by simp only at hop; omega) (by omega)
  have e2 := numR_back a 16 h2 ha.1 (by simp only at ha; omega) (by omega)
  have e3 := numR_back b 16 h3 hb.1 (by simp only at hb; omega) (by omega)
  have e4 := numR_back c 20 h4 hc.1 (by simp only at hc; omega) (by omega)
  have e5 := sigR_back n h5 hn
  have e6 := txtR_back (nm s) h6 (by rw [nm_len]; exact hs)
  unfold insR
  simp only [e1, e2, e3, e4, e5, e6]
  simp only at ha hb hc
  rw [mk_nm, Int.toNat_of_nonneg ha.1, Int.toNat_of_nonneg hb.1, Int.toNat_of_nonneg hc.1, Int.toNat_natCast]
theorem codeR_back {l : List UInt8} (code : List Ins) {p q : Nat} (acc : List Ins) (h : At l p (codeL code) q) (hw : ∀ i ∈ code, i.wf ∧ (0 ≤ i.a ∧ i.a ≤ 16) ∧ (0 ≤ i.b ∧ i.b ≤ 16) ∧ (0 ≤ i.c ∧ i.c ≤ 20) ∧ i.s.size ≤ 40) :
    codeR l code.length (p, false) acc = (acc ++ code, (q, false)) := by
  induction code generalizing p acc with
  | nil =>
    have : q = p := h.2.2
    rw [this]
    simp [codeR]
  | cons i code ih =>
    have e : codeL (i :: code) = insL i ++ codeL code := by simp [codeL]
    rw [e] at h
    obtain ⟨h1, h2⟩ := h.split
    obtain ⟨w1, w2, w3, w4, w5⟩ := hw i (by simp)
    have e1 := insR_back h1 w1 w2 w3 w4 w5
    rw [List.length_cons, codeR, if_neg (by simp), e1]
    simp only
    rw [ih (acc ++ [i]) h2 (fun j hj => hw j (by simp [hj]))]
    simp
theorem prgR_back (p : Prg) (rest : List UInt8) (h : okP p 20 = true) (hw : ∀ i ∈ p.code, i.wf) : prgR (bytesP p ++ rest) = (p, ((bytesP p).length, false)) := by
  unfold okP at h
  simp only [Bool.and_eq_true, decide_eq_true_eq, List.all_eq_true] at h
  obtain ⟨⟨⟨⟨hn, hr⟩, hl⟩, he⟩, hi⟩ := h
  have hA := At.whole (bytesP p) rest
  obtain ⟨L, HL⟩ : ∃ L, L = bytesP p ++ rest := ⟨_, rfl⟩
  rw [← HL] at hA ⊢
  clear HL
  obtain ⟨Q, HQ⟩ : ∃ Q, Q = (bytesP p).length := ⟨_, rfl⟩
  rw [← HQ] at hA ⊢
  clear HQ
  unfold bytesP headL at hA
  obtain ⟨h1, h4⟩ := hA.split
  obtain ⟨h1, h2⟩ := h1.split
  obtain ⟨h2, h3⟩ := h2.split
  have e1 := txtR_back (nm p.name) h1 (by rw [nm_len]; exact hn.2)
  have e2 := numR_back p.regs 16 h2 (by omega) (by omega) (by omega)
  have e3 := numR_back (p.code.length : Int) 500 h3 (by omega) (by omega) (by omega)
  rw [Int.toNat_natCast] at e3
  have e4 := codeR_back p.code [] h4 (fun i hm => by
    have := insB_range (hi i hm) hr.2
    exact ⟨hw i hm, this.1, this.2.1, this.2.2.1, this.2.2.2.1⟩)
  unfold prgR
  simp only [e1, e2, e3, e4, List.nil_append]
  rw [mk_nm, Int.toNat_of_nonneg (by omega)]
theorem read_bytes (p : Prg) (h : okP p 20 = true) (hw : ∀ i ∈ p.code, i.wf) : readR (bytesP p) = (p, 0) := by
  have := prgR_back p [] h hw
  rw [List.append_nil] at this
  unfold readR goodR
  rw [this]
  simp [h]
theorem read_inv (l : List UInt8) (h : (readR l).2 = 0) : goodR l = true ∧ readR l = ((prgR l).1, 0) ∧ okP (prgR l).1 20 = true ∧ bytesP (prgR l).1 = l ∧ ∀ i ∈ (prgR l).1.code, i.wf := by
  unfold readR at h ⊢
  by_cases hg : goodR l = true
  · rw [if_pos hg]
    have hg' := hg
    unfold goodR at hg'
    simp only [Bool.and_eq_true, Bool.not_eq_true', decide_eq_true_eq] at hg'
    obtain ⟨⟨g1, g2⟩, g3⟩ := hg'
    obtain ⟨k1, k2, -⟩ := prgR_inv g1
    refine ⟨hg, rfl, g3, ?_, k2⟩
    have h2 := k1.2.1
    rw [g2] at h2
    simpa using h2.symm
  · rw [if_neg hg] at h
    cases h
/-- of a beginning of a program's bytes, and with more, nothing is read -/
theorem read_cut (p : Prg) (h : okP p 20 = true) (hw : ∀ i ∈ p.code, i.wf) (k : Nat) (hk : k < (bytesP p).length) : (readR ((bytesP p).take k)).2 = 100 := by
  by_cases h0 : (readR ((bytesP p).take k)).2 = 0
  · obtain ⟨-, -, h3, h4, h5⟩ := read_inv _ h0
    obtain ⟨q, hq⟩ : ∃ q, q = (prgR ((bytesP p).take k)).1 := ⟨_, rfl⟩
    rw [← hq] at h3 h4 h5
    have e1 := prgR_back q ((bytesP p).drop k) h3 h5
    rw [h4, List.take_append_drop] at e1
    have e2 := prgR_back p [] h hw
    rw [List.append_nil] at e2
    rw [e2] at e1
    have := congrArg (fun x => x.2.1) e1
    simp only [List.length_take] at this
    omega
  · unfold readR at h0 ⊢
    split
    · rename_i hg; rw [if_pos hg] at h0; exact absurd rfl h0
    · rfl
theorem read_more (p : Prg) (h : okP p 20 = true) (hw : ∀ i ∈ p.code, i.wf) (x : UInt8) : (readR (bytesP p ++ [x])).2 = 100 := by
  have e1 := prgR_back p [x] h hw
  unfold readR
  rw [if_neg]
  unfold goodR
  rw [e1]
  simp
theorem bytesP_inj (p q : Prg) (h : okP p 20 = true) (hw : ∀ i ∈ p.code, i.wf) (h2 : okP q 20 = true) (hw2 : ∀ i ∈ q.code, i.wf) (e : bytesP p = bytesP q) : p = q := by
  have e1 := read_bytes p h hw
  have e2 := read_bytes q h2 hw2
  rw [e, e2] at e1
  exact (congrArg Prod.fst e1).symm
theorem bytesP_pos (p : Prg) : 0 < (bytesP p).length := by
  unfold bytesP headL blobL
  simp only [List.length_append]
  have := U_pos ((nm p.name).length : Int)
  omega
end Go.Proofs.YtpiiehenmkinaaaDoor

/-
  Maps keyed by letters, as functions; closures that a map holds: plain lemmas, with no walk. Own work.
-/
namespace Go.Proofs.YtpiiehenmkinaaaDoor
open Go.RowKit Go.ChangeMaps
set_option maxRecDepth 100000

theorem law5 : Maps.Keyed Tryd.prog 5 := Maps.int_keyed Tryd.underlying5
def LT (n : Nat) : Prop := n < 256
def lit (n : Nat) : Lit := .int .u8 (n : Int)
theorem lit_inj {s t : Nat} (h : lit s = lit t) : s = t := by
  unfold lit at h
  simp only [Lit.int.injEq, true_and] at h
  omega
theorem key5 {s : Nat} (hs : LT s) : keyOf Tryd.prog 5 (.int .u8 (s : Int)) = some (lit s) := Maps.keyOf_int_mk Tryd.underlying5 (WalkArith.wf_u8 (by unfold LT at hs; omega))
theorem keyLit {s : Nat} (hs : LT s) : WideAt.IsKeyLit (lit s) := law5.key (key5 hs)
/-- an element as it is -/
def rv (v : Value) : Option (DataW Value × List MemPlace) := some (.held v, [])

/-- the map type t has elements of type e, whose nought is z -/
structure MT (t e : TypeId) (z : Value) : Prop where
  mt : Tryd.prog.underlying t = some (.map 5 e)
  mz : ∀ w, (zeroValue e).run Tryd.prog w = .ok z w
theorem mt74 : MT 74 95 .nilFunc := ⟨Tryd.underlying74, fun w => by kernel_rfl⟩

abbrev MF := Nat → Option Value
def setM (l : MF) (k : Nat) (v : Value) : MF := fun x => if x = k then some v else l x
def delM (l : MF) (k : Nat) : MF := fun x => if x = k then none else l x
/-- what is held is what l tells -/
def HoldsM (D : DataW Value) (l : MF) : Prop := ∀ s : Nat, LT s → Maps.has D (lit s) = (l s).isSome ∧ ∀ v, l s = some v → ∀ z, D.atKey (lit s) z = .held v
/-- block b is a map of m entries, which are those of l -/
def Mp (w : World) (b m : Nat) (l : MF) : Prop :=
  ∃ D, w.ownsMap (H := Value) Tryd.prog 5 rv b m D ∧ Maps.size D = m ∧ HoldsM D l

theorem own_tight {w : World} {b n : Nat} {D : DataW Value} (h : w.ownsMap Tryd.prog 5 rv b n D) : w.ownsMap Tryd.prog 5 rv b (Maps.size D) D := by
  obtain ⟨es, clock, hb, F, hs, rfl⟩ := h
  exact ⟨es, clock, hb, F, by simp [Maps.size, length_sorted], rfl⟩
theorem Mp.made (w : World) : Mp (w.alloc (.map #[] 0)) w.heap.size 0 (fun _ => none) :=
  ⟨_, World.ownsMap_made _ _ _ _, rfl, fun id _ => ⟨rfl, fun v h => by cases h⟩⟩
theorem Mp.lt {w : World} {b m : Nat} {l : MF} (h : Mp w b m l) : b < w.heap.size := by
  obtain ⟨D, h1, -⟩ := h
  exact h1.lt
theorem Mp.isMap {w : World} {b m : Nat} {l : MF} (h : Mp w b m l) : ∃ es c, w.heap[b]? = some (.map es c) := by
  obtain ⟨D, ⟨es, c, hb, -⟩, -⟩ := h
  exact ⟨es, c, hb⟩
theorem Mp.heap {w w' : World} {b m : Nat} {l : MF} (h : Mp w b m l) (hk : w'.heap[b]? = w.heap[b]?) : Mp w' b m l := by
  obtain ⟨D, ⟨es, c, hb, r⟩, h2⟩ := h
  exact ⟨D, ⟨es, c, hk.trans hb, r⟩, h2⟩
theorem Mp.congr {w : World} {b m : Nat} {l l' : MF} (h : Mp w b m l) (hl : ∀ s : Nat, LT s → l' s = l s) : Mp w b m l' := by
  obtain ⟨D, h1, h2, h3⟩ := h
  exact ⟨D, h1, h2, fun id hi => by rw [hl id hi]; exact h3 id hi⟩
theorem Mp.look_ok {w : World} {b m : Nat} {t e : TypeId} {z : Value} {l : MF} (M : MT t e z) (h : Mp w b m l) {s : Nat} (hs : LT s) :
    (Instr.lookup t (.map (some b)) (.int .u8 (s : Int)) true).run Tryd.prog w = .ok (.tuple #[(l s).getD z, .bool (l s).isSome]) w := by
  obtain ⟨D, h1, h2, h3⟩ := h
  obtain ⟨h4, h5⟩ := h3 s hs
  obtain ⟨v, ps, hr, hv⟩ := h1.look_ok law5 M.mt (M.mz w) (zd := .held z) (zp := []) rfl (key5 hs)
  rw [hr, h4]
  cases hl : l s with
  | none =>
    rw [hl] at h4
    rw [Maps.atKey_of_not_has h4] at hv
    unfold rv at hv
    simp only [Option.some.injEq, Prod.mk.injEq, DataW.held.injEq] at hv
    rw [hv.1]; rfl
  | some x =>
    rw [h5 x hl] at hv
    unfold rv at hv
    simp only [Option.some.injEq, Prod.mk.injEq, DataW.held.injEq] at hv
    rw [hv.1]; rfl
theorem Mp.look {w : World} {b m : Nat} {t e : TypeId} {z : Value} {l : MF} (M : MT t e z) (h : Mp w b m l) {s : Nat} (hs : LT s) :
    (Instr.lookup t (.map (some b)) (.int .u8 (s : Int)) false).run Tryd.prog w = .ok ((l s).getD z) w := by
  have hh := h
  obtain ⟨D, ⟨es, clock, hb, F, _, rfl⟩, h2, h3⟩ := hh
  obtain ⟨h4, h5⟩ := h3 s hs
  rcases Maps.fit_look false law5 M.mt (M.mz w) hb F (key5 hs) with ⟨hrun, _, hat⟩ | ⟨e0, y, _, _, hrun, hRv, hat, _⟩
  · rw [Maps.has_false_of_atKey hat] at h4
    have : l s = none := by cases hl : l s with
      | none => rfl
      | some x => rw [hl] at h4; cases h4
    rw [this]
    exact hrun
  · rw [Maps.has_true_of_atKey hat] at h4
    obtain ⟨x, hx⟩ := Option.isSome_iff_exists.1 h4.symm
    have h6 := h5 x hx (.held z)
    rw [hat] at h6
    unfold rv at hRv
    have hRv := Option.some.inj hRv
    rw [hx]
    have : e0.val = x := by
      rw [← hRv] at h6
      simpa using h6
    rw [this] at hrun
    exact hrun
theorem Mp.len {w : World} {b m : Nat} {t e : TypeId} {z : Value} {l : MF} (M : MT t e z) (h : Mp w b m l) (ty : TypeId) : (Builtin.len_ #[t] ty #[.map (some b)]).run Tryd.prog w = .ok (.int .i64 m) w := by
  obtain ⟨D, h1, h2, -⟩ := h
  rw [h1.len M.mt ty, h2]
theorem put_l {D : DataW Value} {l : MF} (hm : Maps.IsMap D) {s : Nat} {v : Value} (hs : LT s) (h : HoldsM D l) : HoldsM (D.put (lit s) (.held v)) (setM l s v) := by
  intro x hx
  unfold setM
  by_cases e : x = s
  · subst e
    rw [if_pos rfl]
    refine ⟨Maps.has_put_same hm (keyLit hx) _, fun y hy z => ?_⟩
    have hy := Option.some.inj hy
    subst hy
    exact Maps.atKey_put_same hm (keyLit hx) _ _
  · rw [if_neg e]
    have hne : lit x ≠ lit s := fun h' => e (lit_inj h')
    obtain ⟨h1, h2⟩ := h x hx
    refine ⟨by rw [Maps.has_put_other hne, h1], fun y hy z => ?_⟩
    rw [Maps.atKey_put_other hne, h2 y hy z]
theorem Mp.store {w : World} {b m : Nat} {t e : TypeId} {z : Value} {l : MF} (M : MT t e z) (h : Mp w b m l) (hm : m < 1000000) {s : Nat} (hs : LT s) (v : Value) :
    ∃ w', (Instr.mapUpdate t (.map (some b)) (.int .u8 (s : Int)) v).run Tryd.prog w = .ok () w' ∧ Mp w' b (if (l s).isSome then m else m + 1) (setM l s v) ∧ w.grownBy w' (some b) ∧ w'.heap.size = w.heap.size := by
  obtain ⟨D, h1, h2, h3⟩ := h
  obtain ⟨w', hr, ho, ht⟩ := h1.store law5 M.mt (by unfold maxLen; omega) (key5 hs) (d := .held v) (ps := []) rfl
  refine ⟨w', hr, ⟨_, ?_, ?_, put_l h1.isMap hs h3⟩, ht.grown, ?_⟩
  · have := own_tight ho
    rwa [Maps.size_put (h1.tidy law5), (h3 s hs).1, h2] at this
  · rw [Maps.size_put (h1.tidy law5), (h3 s hs).1, h2]
  · obtain ⟨es, c, es', c', hb, rfl⟩ := ht
    simp [setBlock]
end Go.Proofs.YtpiiehenmkinaaaDoor

/-
  Contracts of program's small functions: lengthMayBe, nameMayBe, what makes a closure, the closures, kindOf, Word. Own work.
-/
namespace Go.Proofs.YtpiiehenmkinaaaDoor
open Go.RowKit

/-- the words of the Ops -/
def wordL : Nat → List Nat
  | 1 => [115, 101, 116]
  | 2 => [109, 111, 118, 101]
  | 3 => [97, 100, 100]
  | 4 => [115, 117, 98]
  | 5 => [109, 117, 108]
  | 6 => [108, 101, 115, 115]
  | 7 => [115, 97, 109, 101]
  | 8 => [106, 117, 109, 112]
  | 9 => [117, 110, 108, 101, 115, 115]
  | 10 => [97, 99, 116]
  | 11 => [115, 108, 101, 101, 112]
  | 12 => [99, 104, 105, 108, 100]
  | 13 => [119, 97, 105, 116]
  | 14 => [115, 105, 103, 110, 97, 108]
  | 15 => [100, 111, 110, 101]
  | 16 => [102, 97, 105, 108]
  | _ => []
def txt (l : List Nat) : ByteArray := ⟨(l.map UInt8.ofNat).toArray⟩
def wordS (o : Nat) : ByteArray := txt (wordL o)
def fieldS (o : Nat) : ByteArray := txt (fields o)
theorem over17 (o : Nat) (h : 17 ≤ o) : wordS o = ⟨#[]⟩ ∧ fieldS o = ⟨#[]⟩ := by
  have h1 : wordL o = [] := by
    unfold wordL
    split <;> first | rfl | omega
  have h2 : fields o = [] := by
    unfold fields
    split <;> first | rfl | omega
  unfold wordS fieldS
  rw [h1, h2]
  exact ⟨rfl, rfl⟩

/-- what the program lays ahead of all calls stands in this world -/
structure Kinds (w : World) : Prop where
  lt : 0 < w.heap.size
  word : ∀ o, o < 17 → w.cell? ⟨0, o * 2, none⟩ = some (.string (wordS o))
  field : ∀ o, o < 17 → w.cell? ⟨0, o * 2 + 1, none⟩ = some (.string (fieldS o))
theorem Kinds.below {w w' : World} (h : Kinds w) (hb : Below w.heap.size w w') : Kinds w' :=
  ⟨Nat.lt_of_lt_of_le h.lt hb.size, fun o ho => (hb.cell (p := ⟨0, o * 2, none⟩) h.lt).trans (h.word o ho), fun o ho => (hb.cell (p := ⟨0, o * 2 + 1, none⟩) h.lt).trans (h.field o ho)⟩
theorem Kinds.alloc {w : World} (h : Kinds w) (o : Obj) : Kinds (w.alloc o) := h.below ((Below.refl _ _).alloc (Nat.le_refl _) _)

theorem lengthMayBe_any (n : Int) (w : World) : Calls Tryd.prog 58 #[.int .i64 n] w fun e w' => e = .returned (.bool (decide (1 ≤ n ∧ n ≤ 40))) ∧ w' = w := by
  go_enter Tryd.func58, Tryd.ntmps58
  go_wp2
  all_goals go_ret
  all_goals refine ⟨ret_bool ?_, rfl⟩
  all_goals rw [Bool.eq_iff_iff]
  all_goals simp [*]
  all_goals omega
set_option maxRecDepth 100000 in
theorem nameMayBe_any (s : ByteArray) (w : World) : Calls Tryd.prog 35 #[.string s] w fun e w' => e = .returned (.bool (decide (1 ≤ s.size ∧ s.size ≤ 40))) ∧ w' = w := by
  go_enter Tryd.func35, Tryd.ntmps35
  go_wp2_with fail
  refine (lengthMayBe_any _ w).mono ?_
  rintro e w1 ⟨rfl, rfl⟩
  go_wp2
  go_ret
  refine ⟨ret_bool ?_, rfl⟩
  rw [Bool.eq_iff_iff]
  simp
  omega
theorem always_any (n : Int) (w : World) : Calls Tryd.prog 61 #[.int .i64 n] w fun e w' => e = .returned (.bool true) ∧ w' = w := by
  go_enter Tryd.func61, Tryd.ntmps61
  go_wp2
  go_ret
  exact ⟨rfl, rfl⟩
theorem below_fn_any (x n : Int) (b : Nat) (w : World) (h : w.cell? ⟨b, 0, none⟩ = some (.int .i64 n)) : Calls Tryd.prog 60 #[.int .i64 x, .pointer (some ⟨b, 0, none⟩)] w fun e w' => e = .returned (.bool (decide (0 ≤ x ∧ x < n))) ∧ w' = w := by
  go_enter Tryd.func60, Tryd.ntmps60
  go_wp2
  all_goals go_ret
  all_goals refine ⟨ret_bool ?_, rfl⟩
  all_goals rw [Bool.eq_iff_iff]
  all_goals simp [*]
  all_goals omega
theorem below_any (n : Int) (w : World) : Calls Tryd.prog 59 #[.int .i64 n] w fun e w' => e = .returned (.func (.func 60) #[] #[.pointer (some ⟨w.heap.size, 0, none⟩)]) ∧ w' = w.alloc (.cells #[.int .i64 n] 3) := by
  go_enter Tryd.func59, Tryd.ntmps59
  go_wp2
  go_ret
  exact ⟨rfl, rfl⟩
set_option maxRecDepth 100000 in
theorem kindOf_any (o : Nat) (ho : o < 256) (w : World) (hk : Kinds w) : Calls Tryd.prog 46 #[.int .u8 o] w fun e w' => e = .returned (.agg #[.string (wordS o), .string (fieldS o)]) ∧ Below w.heap.size w w' := by
  have HO : Hid (o < 256) := ho
  by_cases h : 17 ≤ o
  · obtain ⟨e1, e2⟩ := over17 o h
    rw [e1, e2]
    have h' : (17 : Int) ≤ (o : Int) := by omega
    go_enter Tryd.func46, Tryd.ntmps46
    go_wp2
    refine bodyPost_ret (v := .agg #[.string ⟨#[]⟩, .string ⟨#[]⟩]) (by simp [results, Tryd.results46, go_sem]) rfl ?_
    exact ⟨rfl, (Below.refl _ _).alloc (Nat.le_refl _) _⟩
  · have h' : ¬ (17 : Int) ≤ (o : Int) := by omega
    have h2 : (o : Int) < 17 := by omega
    have c0 := (hk.alloc (.cells #[.string ⟨#[]⟩, .string ⟨#[]⟩] 85)).word o (by omega)
    have c1 := (hk.alloc (.cells #[.string ⟨#[]⟩, .string ⟨#[]⟩] 85)).field o (by omega)
    obtain ⟨x0, X0⟩ := named (wordS o)
    obtain ⟨x1, X1⟩ := named (fieldS o)
    rw [← X0.out] at c0 ⊢
    rw [← X1.out] at c1 ⊢
    go_enter Tryd.func46, Tryd.ntmps46
    go_wp2
    refine bodyPost_ret (v := .agg #[.string x0, .string x1]) (by simp [results, Tryd.results46, go_sem]) rfl ?_
    exact ⟨rfl, by first | exact (Below.refl _ _).alloc (Nat.le_refl _) _ | skip⟩
end Go.Proofs.YtpiiehenmkinaaaDoor

/-
  The contract of rulesOf: a map whose closures tell what a field may be. Own work.
-/
namespace Go.Proofs.YtpiiehenmkinaaaDoor
open Go.RowKit

/-- what makes 'below', with its number in block b -/
def clo (b : Nat) : Value := .func (.func 60) #[] #[.pointer (some ⟨b, 0, none⟩)]
/-- what the map holds -/
def rulesM (r j p z : Nat) : MF := setM (setM (setM (setM (setM (setM (fun _ => none) 114 (clo r)) 106 (clo j)) 112 (clo p)) 110 (.func (.func 61) #[] #[])) 115 (.func (.func 58) #[] #[])) 46 (clo z)
/-- a map of rules: of so many registers, places, policies -/
def Rules (w : World) (v : Value) (regs places pol : Int) : Prop :=
  ∃ b r j p z, v = .map (some b) ∧ Mp w b 6 (rulesM r j p z) ∧ w.cell? ⟨r, 0, none⟩ = some (.int .i64 regs) ∧ w.cell? ⟨j, 0, none⟩ = some (.int .i64 places) ∧ w.cell? ⟨p, 0, none⟩ = some (.int .i64 pol) ∧ w.cell? ⟨z, 0, none⟩ = some (.int .i64 1)
theorem Rules.below {w w' : World} {v : Value} {regs places pol : Int} (h : Rules w v regs places pol) (hb : Below w.heap.size w w') : Rules w' v regs places pol := by
  obtain ⟨b, r, j, p, z, rfl, h1, h2, h3, h4, h5⟩ := h
  exact ⟨b, r, j, p, z, rfl, h1.heap (hb.block b h1.lt), by rw [hb.cell (World.block_lt_of_cell? w _ h2)]; exact h2, by rw [hb.cell (World.block_lt_of_cell? w _ h3)]; exact h3, by rw [hb.cell (World.block_lt_of_cell? w _ h4)]; exact h4, by rw [hb.cell (World.block_lt_of_cell? w _ h5)]; exact h5⟩
theorem hide {p : Prop} (h : p) : Hid p := h
/-- rules under way -/
def RSt (w0 w : World) (n : Nat) (l : MF) (cs : List (Nat × Int)) : Prop :=
  Below w0.heap.size w0 w ∧ Mp w w0.heap.size n l ∧ ∀ c ∈ cs, w0.heap.size < c.1 ∧ c.1 < w.heap.size ∧ w.cell? ⟨c.1, 0, none⟩ = some (.int .i64 c.2)
theorem RSt.start (w : World) : RSt w (w.alloc (.map #[] 0)) 0 (fun _ => none) [] := ⟨(Below.refl _ _).alloc (Nat.le_refl _) _, Mp.made w, fun c h => by cases h⟩
theorem RSt.clo {w0 w : World} {n : Nat} {l : MF} {cs : List (Nat × Int)} (h : RSt w0 w n l cs) (x : Int) : RSt w0 (w.alloc (.cells #[.int .i64 x] 3)) n l ((w.heap.size, x) :: cs) := by
  obtain ⟨h1, h2, h3⟩ := h
  have hlt := h2.lt
  have hb : Below w.heap.size w (w.alloc (.cells #[.int .i64 x] 3)) := (Below.refl _ _).alloc (Nat.le_refl _) _
  refine ⟨h1.alloc h1.size _, h2.heap (hb.block _ hlt), fun c hc => ?_⟩
  rcases List.mem_cons.1 hc with rfl | hc
  · refine ⟨hlt, by simp, ?_⟩
    simp
  · obtain ⟨g1, g2, g3⟩ := h3 c hc
    exact ⟨g1, by simp; omega, by rw [hb.cell g2]; exact g3⟩
theorem RSt.put {w0 w : World} {n : Nat} {l : MF} {cs : List (Nat × Int)} (h : RSt w0 w n l cs) (s : Nat) (hs : LT s) (hn : l s = none) (v : Value) (hlt : n < 1000 := by omega) :
    ∃ w', (Instr.mapUpdate 74 (.map (some w0.heap.size)) (.int .u8 (s : Int)) v).run Tryd.prog w = .ok () w' ∧ RSt w0 w' (n + 1) (setM l s v) cs := by
  obtain ⟨h1, h2, h3⟩ := h
  obtain ⟨w', hr, hm, hg, hz⟩ := h2.store mt74 (by omega) hs v
  rw [hn] at hm
  refine ⟨w', hr, h1.grown hg h1.size (fun k hk => by cases hk; exact Nat.le_refl _), hm, fun c hc => ?_⟩
  obtain ⟨g1, g2, g3⟩ := h3 c hc
  refine ⟨g1, by omega, ?_⟩
  rw [World.cell?_of_block (w := w) (a := ⟨c.1, 0, none⟩) (hg.block c.1 g2 (fun e => by have := Option.some.inj e; omega))]
  exact g3
set_option maxRecDepth 100000 in
set_option maxHeartbeats 1600000 in
theorem rulesOf_any (regs places pol : Int) (w : World) : Calls Tryd.prog 37 #[.int .i64 regs, .int .i64 places, .int .i64 pol] w fun e w' => ∃ v, e = .returned v ∧ Rules w' v regs places pol ∧ Below w.heap.size w w' := by
  have s0 := RSt.start w
  have e0 : (w.alloc (.map #[] 0)).heap.size = w.heap.size + 1 := by simp
  have t0 := s0.clo regs
  rw [e0] at t0
  obtain ⟨v0, r0', s1⟩ := t0.put 114 (by unfold LT; omega) rfl (clo (w.heap.size + 1))
  have r0 : (Instr.mapUpdate 74 (.map (some w.heap.size)) (.int .u8 114) (clo (w.heap.size + 1))).run Tryd.prog ((w.alloc (.map #[] 0)).alloc (.cells #[.int .i64 regs] 3)) = .ok () v0 := r0'
  clear r0'
  unfold clo at r0
  have t1 := s1.clo places
  obtain ⟨v1, r1', s2⟩ := t1.put 106 (by unfold LT; omega) rfl (clo (v0.heap.size))
  have r1 : (Instr.mapUpdate 74 (.map (some w.heap.size)) (.int .u8 106) (clo (v0.heap.size))).run Tryd.prog (v0.alloc (.cells #[.int .i64 places] 3)) = .ok () v1 := r1'
  clear r1'
  unfold clo at r1
  have t2 := s2.clo pol
  obtain ⟨v2, r2', s3⟩ := t2.put 112 (by unfold LT; omega) rfl (clo (v1.heap.size))
  have r2 : (Instr.mapUpdate 74 (.map (some w.heap.size)) (.int .u8 112) (clo (v1.heap.size))).run Tryd.prog (v1.alloc (.cells #[.int .i64 pol] 3)) = .ok () v2 := r2'
  clear r2'
  unfold clo at r2
  obtain ⟨v3, r3', s4⟩ := s3.put 110 (by unfold LT; omega) rfl (.func (.func 61) #[] #[])
  have r3 : (Instr.mapUpdate 74 (.map (some w.heap.size)) (.int .u8 110) (.func (.func 61) #[] #[])).run Tryd.prog v2 = .ok () v3 := r3'
  clear r3'
  obtain ⟨v4, r4', s5⟩ := s4.put 115 (by unfold LT; omega) rfl (.func (.func 58) #[] #[])
  have r4 : (Instr.mapUpdate 74 (.map (some w.heap.size)) (.int .u8 115) (.func (.func 58) #[] #[])).run Tryd.prog v3 = .ok () v4 := r4'
  clear r4'
  have t5 := s5.clo 1
  obtain ⟨v5, r5', s6⟩ := t5.put 46 (by unfold LT; omega) rfl (clo (v4.heap.size))
  have r5 : (Instr.mapUpdate 74 (.map (some w.heap.size)) (.int .u8 46) (clo (v4.heap.size))).run Tryd.prog (v4.alloc (.cells #[.int .i64 1] 3)) = .ok () v5 := r5'
  clear r5'
  unfold clo at r5
  have HS := hide s6
  clear s0 s1 s2 s3 s4 s5 s6 t0 t1 t2 t5 e0
  have hmm := @run_makeMap Tryd.prog
  go_enter Tryd.func37, Tryd.ntmps37
  go_wp2
  go_ret
  obtain ⟨k1, k2, k3⟩ := HS.out
  exact ⟨_, rfl, ⟨_, _, _, _, _, rfl, k2, (k3 (w.heap.size + 1, regs) (by simp)).2.2, (k3 (v0.heap.size, places) (by simp)).2.2, (k3 (v1.heap.size, pol) (by simp)).2.2, (k3 (v4.heap.size, 1) (by simp)).2.2⟩, k1⟩
end Go.Proofs.YtpiiehenmkinaaaDoor

/-
  The contract of hasItsOwn. Own work.
-/
namespace Go.Proofs.YtpiiehenmkinaaaDoor
open Go.RowKit

/-- an instruction as its cells, as a value -/
def insC (i : Ins) : List Value := [.int .u8 i.op, .int .i64 i.a, .int .i64 i.b, .int .i64 i.c, .int .i64 i.n, .string i.s]
def insV (i : Ins) : Value := .agg (insC i).toArray
theorem fields_len (o : Nat) : fields o = [] ∨ (fields o).length = 5 ∧ ∀ l ∈ fields o, l = 114 ∨ l = 106 ∨ l = 112 ∨ l = 110 ∨ l = 115 ∨ l = 46 := by
  unfold fields
  split <;> first | exact .inl rfl | (refine .inr ⟨rfl, ?_⟩; decide)
theorem fieldS_size (o : Nat) : (fieldS o).size = (fields o).length := by
  show ((fields o).map UInt8.ofNat).toArray.size = _
  simp
theorem letter_lt {l : Nat} (h : l = 114 ∨ l = 106 ∨ l = 112 ∨ l = 110 ∨ l = 115 ∨ l = 46) : LT l := by unfold LT; omega
/-- the first k fields fit -/
def fitTo (regs places pol : Int) (i : Ins) (k : Nat) : Bool := fits regs places pol ((fields i.op).take k) (vals i)
theorem fits_take (regs places pol : Int) (ls : List Nat) (xs : List Int) (k : Nat) (h : k < ls.length) (h2 : k < xs.length) : fits regs places pol (ls.take (k + 1)) xs = (fits regs places pol (ls.take k) xs && fit regs places pol ls[k] xs[k]) := by
  induction ls generalizing xs k with
  | nil => simp at h
  | cons l ls ih =>
    cases xs with
    | nil => simp at h2
    | cons x xs =>
      cases k with
      | zero => simp [fits]
      | succ k =>
        simp only [List.take_succ_cons, fits, List.getElem_cons_succ]
        rw [ih xs k (by simpa using h) (by simpa using h2), Bool.and_assoc]
theorem fits_false (regs places pol : Int) (ls : List Nat) (xs : List Int) (k : Nat) (h : k < ls.length) (h2 : k < xs.length) (hf : fit regs places pol ls[k] xs[k] = false) : fits regs places pol ls xs = false := by
  induction ls generalizing xs k with
  | nil => simp at h
  | cons l ls ih =>
    cases xs with
    | nil => simp at h2
    | cons x xs =>
      cases k with
      | zero => simp only [List.getElem_cons_zero] at hf; simp [fits, hf]
      | succ k =>
        simp only [List.getElem_cons_succ] at hf
        rw [fits, ih xs k (by simpa using h) (by simpa using h2) hf, Bool.and_false]
theorem run_sx (s : ByteArray) (k : Nat) (hk : k < s.size) (w : World) : (Instr.index 9 (.string s) (.int .i64 (k : Int))).run Tryd.prog w = .ok (.int .u8 (s[k].toNat : Int)) w := by
  have h0 : (0 : Int) ≤ (k : Int) := by omega
  simp [Instr.index, asIntOf, run_underlying Tryd.underlying9, getElem?_pos, hk]
theorem run_ix5 (x0 x1 x2 x3 x4 : Int) (k : Nat) (hk : k < 5) (w : World) : (Instr.index 97 (.agg #[.int .i64 x0, .int .i64 x1, .int .i64 x2, .int .i64 x3, .int .i64 x4]) (.int .i64 (k : Int))).run Tryd.prog w = .ok (.int .i64 ([x0, x1, x2, x3, x4][k])) w := by
  have : k = 0 ∨ k = 1 ∨ k = 2 ∨ k = 3 ∨ k = 4 := by omega
  rcases this with rfl | rfl | rfl | rfl | rfl
  · show _ = Result.ok (Value.int .i64 x0) w
    kernel_rfl
  · show _ = Result.ok (Value.int .i64 x1) w
    kernel_rfl
  · show _ = Result.ok (Value.int .i64 x2) w
    kernel_rfl
  · show _ = Result.ok (Value.int .i64 x3) w
    kernel_rfl
  · show _ = Result.ok (Value.int .i64 x4) w
    kernel_rfl
theorem fieldS_get (o k : Nat) (hk : k < (fields o).length) (h2 : k < (fieldS o).size) : (fieldS o)[k].toNat = (fields o)[k] := by
  have hl : LT (fields o)[k] := by
    rcases fields_len o with h | ⟨-, h⟩
    · rw [h] at hk; simp at hk
    · exact letter_lt (h _ (List.getElem_mem hk))
  have e : (fieldS o)[k] = UInt8.ofNat (fields o)[k] := by
    have e2 : ((fields o).map UInt8.ofNat).toArray[k]'(by simpa using hk) = UInt8.ofNat (fields o)[k] := by simp
    exact e2
  rw [e, UInt8.toNat_ofNat']
  unfold LT at hl
  omega
theorem run_word (x y : ByteArray) (w : World) : (Instr.field 85 (.agg #[.string x, .string y]) 0).run Tryd.prog w = .ok (.string x) w := by kernel_rfl
theorem run_fields (x y : ByteArray) (w : World) : (Instr.field 85 (.agg #[.string x, .string y]) 1).run Tryd.prog w = .ok (.string y) w := by kernel_rfl
theorem rules_at {w : World} {b r j p z : Nat} (h : Mp w b 6 (rulesM r j p z)) (l : Nat) (hl : LT l) : (Instr.lookup 74 (.map (some b)) (.int .u8 (l : Int)) false).run Tryd.prog w = .ok ((rulesM r j p z l).getD .nilFunc) w := h.look mt74 hl

set_option maxRecDepth 100000 in
set_option maxHeartbeats 1600000 in
theorem hasItsOwn_any (i : Ins) (hw : i.wf) (v : Value) (regs places pol : Int) (w : World) (hk : Kinds w) (hR : Rules w v regs places pol) :
    Calls Tryd.prog 38 #[insV i, v] w fun e w' => e = .returned (.bool (insB regs places pol i)) ∧ Below w.heap.size w w' := by
  obtain ⟨op, a, b, c, n, s⟩ := i
  obtain ⟨ho, -⟩ := hw
  obtain ⟨mb, rb, jb, pb, zb, rfl, hR1, hR2, hR3, hR4, hR5⟩ := hR
  simp only at ho
  obtain ⟨W, HW⟩ := named (w.alloc (.cells #[.int .u8 (op : Int), .int .i64 a, .int .i64 b, .int .i64 c, .int .i64 n, .string s] 28))
  have hbW : Below w.heap.size w W := by rw [HW.out]; exact (Below.refl _ _).alloc (Nat.le_refl _) _
  have hsW : W.heap.size = w.heap.size + 1 := by rw [HW.out]; simp
  have hcW : W.heap[w.heap.size]? = some (.cells #[.int .u8 (op : Int), .int .i64 a, .int .i64 b, .int .i64 c, .int .i64 n, .string s] 28 (0, 0)) := by rw [HW.out]; exact heap_alloc_new w _
  have hcc := fun o => cell_of_row W w.heap.size o _ 28 (0, 0) hcW
  have c0 : W.cell? ⟨w.heap.size, 0, none⟩ = some (.int .u8 (op : Int)) := hcc 0
  have kk := kindOf_any op ho W (hk.below hbW)
  show Calls Tryd.prog 38 #[.agg #[.int .u8 (op : Int), .int .i64 a, .int .i64 b, .int .i64 c, .int .i64 n, .string s], .map (some mb)] w _
  go_enter Tryd.func38, Tryd.ntmps38
  go_wp2_with fail
  rw [← HW.out]
  refine kk.mono ?_
  rintro e w1 ⟨rfl, hb1⟩
  have hsz1 := hb1.size
  have hlt1 : w.heap.size < W.heap.size := by omega
  have hb1' : Below w.heap.size w w1 := below_call hbW hb1
  have d1 := (hb1.cell (p := ⟨w.heap.size, 1, none⟩) hlt1).trans (hcc 1)
  have d2 := (hb1.cell (p := ⟨w.heap.size, 2, none⟩) hlt1).trans (hcc 2)
  have d3 := (hb1.cell (p := ⟨w.heap.size, 3, none⟩) hlt1).trans (hcc 3)
  have d4 := (hb1.cell (p := ⟨w.heap.size, 4, none⟩) hlt1).trans (hcc 4)
  have d5 := (hb1.cell (p := ⟨w.heap.size, 5, none⟩) hlt1).trans (hcc 5)
  have e1 : w1.cell? ⟨w.heap.size, 1, none⟩ = some (.int .i64 a) := d1
  have e2 : w1.cell? ⟨w.heap.size, 2, none⟩ = some (.int .i64 b) := d2
  have e3 : w1.cell? ⟨w.heap.size, 3, none⟩ = some (.int .i64 c) := d3
  have e4 : w1.cell? ⟨w.heap.size, 4, none⟩ = some (.int .i64 n) := d4
  have e5 : w1.cell? ⟨w.heap.size, 5, none⟩ = some (.string s) := d5
  have hfs := fieldS_size op
  have HB1 := hide hb1'
  have HR1 := hide (show Mp w1 mb 6 (rulesM rb jb pb zb) ∧ _ ∧ _ ∧ _ ∧ _ from ⟨hR1.heap (hb1'.block mb hR1.lt), (hb1'.cell (World.block_lt_of_cell? w _ hR2)).trans hR2, (hb1'.cell (World.block_lt_of_cell? w _ hR3)).trans hR3, (hb1'.cell (World.block_lt_of_cell? w _ hR4)).trans hR4, (hb1'.cell (World.block_lt_of_cell? w _ hR5)).trans hR5⟩)
  have HFL := hide (fields_len op)
  have hrf := run_fields
  obtain ⟨fs, HFS⟩ := named (fieldS op)
  rw [← HFS.out] at hfs ⊢
  clear d1 d2 d3 d4 d5 hb1 hcc hcW c0 kk hsW hbW hb1' hR1 hR2 hR3 hR4 hR5
  rcases HFL.out with h0 | ⟨h5, hl⟩
  · have hz : fs.size = 0 := by rw [hfs, h0]; rfl
    have hz' : ¬ ((fs.size : Int) = 5) := by omega
    go_wp2
    go_ret
    refine ⟨ret_bool ?_, HB1.out.alloc HB1.out.size _⟩
    unfold insB
    simp [h0]
  · have hz : fs.size = 5 := by rw [hfs, h5]
    have hz' : (fs.size : Int) = 5 := by omega
    have HZ := hide hz
    go_wp2
    go_loop [29] (fun iv => ∃ k : Nat, k ≤ 5 ∧ iv = .int .i64 k ∧ fitTo regs places pol ⟨op, a, b, c, n, s⟩ k = true) (fun iv => 5 - (intOf iv).toNat)
    case atStart => exact ⟨0, by omega, rfl, by simp [fitTo, fits]⟩
    case round =>
      obtain ⟨k, hk5, rfl, hfit⟩ := hrel
      have HFT := hide hfit
      clear hfit
      by_cases hlt : k < 5
      · have hkf : k < (fields op).length := by omega
        have hix := run_ix5 a b c n (s.size : Int) k hlt
        have hsx := fun w => run_sx fs k (by omega) w
        have hge : fs[k].toNat = (fields op)[k] := by
          have e := HFS.out
          subst e
          exact fieldS_get op k hkf _
        obtain ⟨l, HL⟩ := named ((fields op)[k])
        obtain ⟨x, HX⟩ := named ([a, b, c, n, (s.size : Int)][k])
        rw [← HX.out] at hix
        rw [hge, ← HL.out] at hsx
        have hlet := hl _ (List.getElem_mem hkf)
        rw [← HL.out] at hlet
        have HLE := hide hlet
        have hb3 : Below w1.heap.size w1 (w1.alloc (.cells #[.int .i64 a, .int .i64 b, .int .i64 c, .int .i64 n, .int .i64 (s.size : Int)] 97)) := (Below.refl _ _).alloc (Nat.le_refl _) _
        have hlk := rules_at (HR1.out.1.heap (hb3.block mb HR1.out.1.lt)) l (letter_lt hlet)
        have q1 := (hb3.cell (World.block_lt_of_cell? w1 _ HR1.out.2.1)).trans HR1.out.2.1
        have q2 := (hb3.cell (World.block_lt_of_cell? w1 _ HR1.out.2.2.1)).trans HR1.out.2.2.1
        have q3 := (hb3.cell (World.block_lt_of_cell? w1 _ HR1.out.2.2.2.1)).trans HR1.out.2.2.2.1
        have q4 := (hb3.cell (World.block_lt_of_cell? w1 _ HR1.out.2.2.2.2)).trans HR1.out.2.2.2.2
        have hnext : fitTo regs places pol ⟨op, a, b, c, n, s⟩ (k + 1) = fit regs places pol l x := by
          unfold fitTo
          rw [fits_take _ _ _ _ _ k hkf (by simpa [vals] using hlt)]
          have := HFT.out
          unfold fitTo at this
          rw [this, Bool.true_and, HL.out, HX.out]
          rfl
        have hno : fit regs places pol l x = false → insB regs places pol ⟨op, a, b, c, n, s⟩ = false := by
          intro hf
          unfold insB
          rw [fits_false _ _ _ _ _ k hkf (by simpa [vals] using hlt) (by rw [← HL.out]; rw [HX.out] at hf; exact hf), Bool.and_false]
        have HN := hide hnext
        have HNO := hide hno
        clear hnext hno hb3 hge hl hlet
        rcases HLE.out with rfl | rfl | rfl | rfl | rfl | rfl
        · have hlk' : (Instr.lookup 74 (.map (some mb)) (.int .u8 114) false).run Tryd.prog (w1.alloc (.cells #[.int .i64 a, .int .i64 b, .int .i64 c, .int .i64 n, .int .i64 (s.size : Int)] 97)) = .ok (.func (.func 60) #[] #[.pointer (some ⟨rb, 0, none⟩)]) (w1.alloc (.cells #[.int .i64 a, .int .i64 b, .int .i64 c, .int .i64 n, .int .i64 (s.size : Int)] 97)) := hlk
          clear hlk
          go_wp2_with fail
          refine (below_fn_any _ _ _ _ q1).mono ?_
          rintro e u ⟨rfl, rfl⟩
          cases hB : decide (0 ≤ x ∧ x < regs) with
          | false =>
            go_wp2
            go_ret
            exact ⟨ret_bool (HNO.out (by simp only [fit]; first | exact hB | simpa using hB)).symm, HB1.out.alloc HB1.out.size _⟩
          | true =>
            go_wp2
            go_round
            case rel => exact ⟨k + 1, by omega, by go_num, by rw [HN.out]; simp only [fit]; first | exact hB | simpa using hB⟩
            case measure => simp [intOf]; omega
        · have hlk' : (Instr.lookup 74 (.map (some mb)) (.int .u8 106) false).run Tryd.prog (w1.alloc (.cells #[.int .i64 a, .int .i64 b, .int .i64 c, .int .i64 n, .int .i64 (s.size : Int)] 97)) = .ok (.func (.func 60) #[] #[.pointer (some ⟨jb, 0, none⟩)]) (w1.alloc (.cells #[.int .i64 a, .int .i64 b, .int .i64 c, .int .i64 n, .int .i64 (s.size : Int)] 97)) := hlk
          clear hlk
          go_wp2_with fail
          refine (below_fn_any _ _ _ _ q2).mono ?_
          rintro e u ⟨rfl, rfl⟩
          cases hB : decide (0 ≤ x ∧ x < places) with
          | false =>
            go_wp2
            go_ret
            exact ⟨ret_bool (HNO.out (by simp only [fit]; first | exact hB | simpa using hB)).symm, HB1.out.alloc HB1.out.size _⟩
          | true =>
            go_wp2
            go_round
            case rel => exact ⟨k + 1, by omega, by go_num, by rw [HN.out]; simp only [fit]; first | exact hB | simpa using hB⟩
            case measure => simp [intOf]; omega
        · have hlk' : (Instr.lookup 74 (.map (some mb)) (.int .u8 112) false).run Tryd.prog (w1.alloc (.cells #[.int .i64 a, .int .i64 b, .int .i64 c, .int .i64 n, .int .i64 (s.size : Int)] 97)) = .ok (.func (.func 60) #[] #[.pointer (some ⟨pb, 0, none⟩)]) (w1.alloc (.cells #[.int .i64 a, .int .i64 b, .int .i64 c, .int .i64 n, .int .i64 (s.size : Int)] 97)) := hlk
          clear hlk
          go_wp2_with fail
          refine (below_fn_any _ _ _ _ q3).mono ?_
          rintro e u ⟨rfl, rfl⟩
          cases hB : decide (0 ≤ x ∧ x < pol) with
          | false =>
            go_wp2
            go_ret
            exact ⟨ret_bool (HNO.out (by simp only [fit]; first | exact hB | simpa using hB)).symm, HB1.out.alloc HB1.out.size _⟩
          | true =>
            go_wp2
            go_round
            case rel => exact ⟨k + 1, by omega, by go_num, by rw [HN.out]; simp only [fit]; first | exact hB | simpa using hB⟩
            case measure => simp [intOf]; omega
        · have hlk' : (Instr.lookup 74 (.map (some mb)) (.int .u8 110) false).run Tryd.prog (w1.alloc (.cells #[.int .i64 a, .int .i64 b, .int .i64 c, .int .i64 n, .int .i64 (s.size : Int)] 97)) = .ok (.func (.func 61) #[] #[]) (w1.alloc (.cells #[.int .i64 a, .int .i64 b, .int .i64 c, .int .i64 n, .int .i64 (s.size : Int)] 97)) := hlk
          clear hlk
          go_wp2_with fail
          refine (always_any _ _).mono ?_
          rintro e u ⟨rfl, rfl⟩
          have hB : true = true := rfl
          go_wp2
          go_round
          case rel => exact ⟨k + 1, by omega, by go_num, by rw [HN.out]; simp only [fit]; rfl⟩
          case measure => simp [intOf]; omega
        · have hlk' : (Instr.lookup 74 (.map (some mb)) (.int .u8 115) false).run Tryd.prog (w1.alloc (.cells #[.int .i64 a, .int .i64 b, .int .i64 c, .int .i64 n, .int .i64 (s.size : Int)] 97)) = .ok (.func (.func 58) #[] #[]) (w1.alloc (.cells #[.int .i64 a, .int .i64 b, .int .i64 c, .int .i64 n, .int .i64 (s.size : Int)] 97)) := hlk
          clear hlk
          go_wp2_with fail
          refine (lengthMayBe_any _ _).mono ?_
          rintro e u ⟨rfl, rfl⟩
          cases hB : decide (1 ≤ x ∧ x ≤ 40) with
          | false =>
            go_wp2
            go_ret
            exact ⟨ret_bool (HNO.out (by simp only [fit]; first | exact hB | simpa using hB)).symm, HB1.out.alloc HB1.out.size _⟩
          | true =>
            go_wp2
            go_round
            case rel => exact ⟨k + 1, by omega, by go_num, by rw [HN.out]; simp only [fit]; first | exact hB | simpa using hB⟩
            case measure => simp [intOf]; omega
        · have hlk' : (Instr.lookup 74 (.map (some mb)) (.int .u8 46) false).run Tryd.prog (w1.alloc (.cells #[.int .i64 a, .int .i64 b, .int .i64 c, .int .i64 n, .int .i64 (s.size : Int)] 97)) = .ok (.func (.func 60) #[] #[.pointer (some ⟨zb, 0, none⟩)]) (w1.alloc (.cells #[.int .i64 a, .int .i64 b, .int .i64 c, .int .i64 n, .int .i64 (s.size : Int)] 97)) := hlk
          clear hlk
          go_wp2_with fail
          refine (below_fn_any _ _ _ _ q4).mono ?_
          rintro e u ⟨rfl, rfl⟩
          cases hB : decide (0 ≤ x ∧ x < 1) with
          | false =>
            go_wp2
            go_ret
            exact ⟨ret_bool (HNO.out (by simp only [fit]; first | exact hB | simpa using hB)).symm, HB1.out.alloc HB1.out.size _⟩
          | true =>
            go_wp2
            go_round
            case rel => exact ⟨k + 1, by omega, by go_num, by rw [HN.out]; simp only [fit]; first | exact hB | simpa using hB⟩
            case measure => simp [intOf]; omega
      · have hk : k = 5 := by omega
        subst hk
        go_wp2
        go_ret
        refine ⟨ret_bool ?_, HB1.out.alloc HB1.out.size _⟩
        have := HFT.out
        unfold fitTo at this
        rw [List.take_of_length_le (l := fields op) (i := 5) (by omega)] at this
        unfold insB
        rw [this]
        simp [h5]
end Go.Proofs.YtpiiehenmkinaaaDoor

/-
  Rows of instructions in memory; the contracts of ends and Check. Own work.
-/
namespace Go.Proofs.YtpiiehenmkinaaaDoor
open Go.RowKit

/-- a slice that reads as these instructions -/
def RdC (w : World) (v : Value) (l : List Ins) : Prop :=
  ∃ ao cap, v = .slice ao l.length cap ∧ l.length ≤ cap ∧ cap ≤ maxLen ∧ (ao = none → cap = 0) ∧ ∀ k (h : k < l.length), ∃ b off, ao = some ⟨b, off, none⟩ ∧ ∀ j u, (insC l[k])[j]? = some u → w.cell? ⟨b, off + k * 6 + j, none⟩ = some u
theorem RdC.below {w w' : World} {v : Value} {l : List Ins} (h : RdC w v l) (hb : Below w.heap.size w w') : RdC w' v l := by
  obtain ⟨ao, cap, hv, h1, h2, h3, h4⟩ := h
  refine ⟨ao, cap, hv, h1, h2, h3, fun k hk => ?_⟩
  obtain ⟨b, off, e, hc⟩ := h4 k hk
  exact ⟨b, off, e, fun j u hu => by rw [hb.cell (World.block_lt_of_cell? w _ (hc j u hu))]; exact hc j u hu⟩
theorem RdC.alloc {w : World} {v : Value} {l : List Ins} (h : RdC w v l) (o : Obj) : RdC (w.alloc o) v l := h.below ((Below.refl _ _).alloc (Nat.le_refl _) _)
theorem RdC.nil (w : World) : RdC w (.slice none 0 0) [] := ⟨none, 0, rfl, Nat.le_refl _, by simp [maxLen], fun _ => rfl, fun k h => by simp at h⟩
theorem RdC.shape {w : World} {v : Value} {l : List Ins} (h : RdC w v l) : ∃ ao cap, v = .slice ao l.length cap ∧ l.length ≤ 9223372036854775807 := by
  obtain ⟨ao, cap, hv, h1, h2, _⟩ := h
  refine ⟨ao, cap, hv, ?_⟩
  unfold maxLen at h2
  omega
/-- the cells of the k-th -/
theorem RdC.at {w : World} {ao : Option Addr} {n cap : Nat} {l : List Ins} (h : RdC w (.slice ao n cap) l) (k : Nat) (hk : k < l.length) : ∃ b off, ao = some ⟨b, off, none⟩ ∧ b < w.heap.size ∧
    w.cell? ⟨b, off + k * 6, none⟩ = some (.int .u8 l[k].op) ∧ w.cell? ⟨b, off + k * 6 + 1, none⟩ = some (.int .i64 l[k].a) ∧ w.cell? ⟨b, off + k * 6 + 2, none⟩ = some (.int .i64 l[k].b) ∧ w.cell? ⟨b, off + k * 6 + 3, none⟩ = some (.int .i64 l[k].c) ∧
    w.cell? ⟨b, off + k * 6 + 4, none⟩ = some (.int .i64 l[k].n) ∧ w.cell? ⟨b, off + k * 6 + 5, none⟩ = some (.string l[k].s) := by
  obtain ⟨ao', cap', hv, h1, h2, h3, h4⟩ := h
  cases hv
  obtain ⟨b, off, e, hc⟩ := h4 k hk
  have h0 := hc 0 _ rfl
  exact ⟨b, off, e, World.block_lt_of_cell? w _ h0, h0, hc 1 _ rfl, hc 2 _ rfl, hc 3 _ rfl, hc 4 _ rfl, hc 5 _ rfl⟩

theorem ends_nil : endsB [] = false := rfl
theorem ends_at (l : List Ins) (m : Nat) (h : l.length = m + 1) : endsB l = decide ((l[m]'(by omega)).op = 8 ∨ (l[m]'(by omega)).op = 15 ∨ (l[m]'(by omega)).op = 16) := by
  unfold endsB
  have : l.getLast? = some (l[m]'(by omega)) := by
    rw [List.getLast?_eq_getElem?, show l.length - 1 = m by omega]
    exact List.getElem?_eq_getElem (by omega)
  rw [this]
set_option maxRecDepth 100000 in
set_option maxHeartbeats 800000 in
theorem ends_any (v : Value) (l : List Ins) (w : World) (hv : RdC w v l) : Calls Tryd.prog 36 #[v] w fun e w' => e = .returned (.bool (endsB l)) ∧ w' = w := by
  obtain ⟨ao, cap, rfl, hlen⟩ := hv.shape
  cases hL : l.length with
  | zero =>
    have : l = [] := List.eq_nil_of_length_eq_zero hL
    subst this
    go_enter Tryd.func36, Tryd.ntmps36
    go_wp2
    go_ret
    exact ⟨rfl, rfl⟩
  | succ m =>
    rw [hL] at hv hlen
    obtain ⟨b, off, rfl, hlt, c0, -⟩ := hv.at m (by omega)
    rw [ends_at l m hL]
    obtain ⟨x, HX⟩ := named ((l[m]'(by omega)).op)
    rw [← HX.out] at c0 ⊢
    have h1 : ((m + 1 : Nat) : Int) - 1 = (m : Int) := by omega
    have h2 : ((m : Int) + 1 = 0) = False := by simp; omega
    clear hL HX
    go_enter Tryd.func36, Tryd.ntmps36
    go_wp2
    all_goals go_ret
    all_goals refine ⟨ret_bool ?_, rfl⟩
    all_goals rw [Bool.eq_iff_iff]
    all_goals simp
    all_goals omega
end Go.Proofs.YtpiiehenmkinaaaDoor

/-
  The contract of Check. Own work.
-/
namespace Go.Proofs.YtpiiehenmkinaaaDoor
open Go.RowKit

/-- a program as a value, its code in cv -/
def prgV (p : Prg) (cv : Value) : Value := .agg #[.string p.name, .int .i64 p.regs, cv]
def codeB (p : Prg) (pol : Int) (k : Nat) : Bool := (p.code.take k).all (insB p.regs p.code.length pol)
theorem okP_no1 {p : Prg} {pol : Int} (h : decide (1 ≤ p.name.size ∧ p.name.size ≤ 40) = false) : okP p pol = false := by unfold okP; rw [h]; rfl
theorem okP_no2 {p : Prg} {pol : Int} (h : ¬ (1 ≤ p.regs ∧ p.regs ≤ 16)) : okP p pol = false := by unfold okP; simp [h]
theorem okP_no3 {p : Prg} {pol : Int} (h : ¬ p.code.length ≤ 500) : okP p pol = false := by unfold okP; simp [h]
theorem okP_no4 {p : Prg} {pol : Int} (h : endsB p.code = false) : okP p pol = false := by unfold okP; simp [h]
theorem okP_no5 {p : Prg} {pol : Int} (k : Nat) (hk : k < p.code.length) (h : insB p.regs p.code.length pol p.code[k] = false) : okP p pol = false := by
  unfold okP
  have : p.code.all (insB p.regs p.code.length pol) = false := by
    rw [List.all_eq_false]
    exact ⟨_, List.getElem_mem hk, by rw [h]; simp⟩
  rw [this, Bool.and_false]
theorem okP_yes {p : Prg} {pol : Int} (h1 : decide (1 ≤ p.name.size ∧ p.name.size ≤ 40) = true) (h2 : 1 ≤ p.regs ∧ p.regs ≤ 16) (h3 : p.code.length ≤ 500) (h4 : endsB p.code = true) (h5 : codeB p pol p.code.length = true) : okP p pol = true := by
  unfold okP
  unfold codeB at h5
  rw [List.take_length] at h5
  rw [h1, h4, h5]
  simp [h2, h3]
theorem codeB_succ (p : Prg) (pol : Int) (k : Nat) (hk : k < p.code.length) : codeB p pol (k + 1) = (codeB p pol k && insB p.regs p.code.length pol p.code[k]) := by
  unfold codeB
  rw [List.take_succ_eq_append_getElem hk, List.all_append]
  simp
def errP (p : Prg) (pol : Int) : Int := if okP p pol = true then 0 else 100

set_option maxRecDepth 100000 in
set_option maxHeartbeats 1600000 in
theorem check_any (p : Prg) (cv : Value) (pol : Int) (w : World) (hk : Kinds w) (hc : RdC w cv p.code) (hw : ∀ i ∈ p.code, i.wf) :
    Calls Tryd.prog 14 #[prgV p cv, .int .i64 pol] w fun e w' => e = .returned (.int .i64 (errP p pol)) ∧ Below w.heap.size w w' := by
  obtain ⟨name, regs, code⟩ := p
  obtain ⟨ao, cap, rfl, hlen⟩ := hc.shape
  simp only at hc hw hlen
  show Calls Tryd.prog 14 #[.agg #[.string name, .int .i64 regs, .slice ao code.length cap], .int .i64 pol] w _
  have kn := fun w => nameMayBe_any name w
  obtain ⟨bn, HBN⟩ := named (decide (1 ≤ name.size ∧ name.size ≤ 40))
  rw [← HBN.out] at kn
  obtain ⟨n, HN⟩ := named code.length
  rw [← HN.out] at hlen hc ⊢
  have HC := hide hc
  have HK := hide hk
  have HWF := hide hw
  obtain ⟨Q, HQ⟩ := named (errP ⟨name, regs, code⟩ pol)
  rw [← HQ.out]
  have no : okP ⟨name, regs, code⟩ pol = false → Q = 100 := fun h => by rw [HQ.out]; unfold errP; rw [h]; rfl
  have NO := hide no
  clear no hc hk hw
  go_enter Tryd.func14, Tryd.ntmps14
  go_wp2_with fail
  refine (kn _).mono ?_
  rintro e w1 ⟨rfl, rfl⟩
  clear kn
  cases hbn : bn with
  | false =>
    go_wp2
    go_ret
    exact ⟨by rw [NO.out (okP_no1 (by rw [← HBN.out]; exact hbn))]; rfl, (Below.refl _ _).alloc (Nat.le_refl _) _⟩
  | true =>
    by_cases hr : 1 ≤ regs ∧ regs ≤ 16
    · by_cases h5 : n ≤ 500
      · have g1 : ¬ regs < 1 := by omega
        have g2 : ¬ (16 : Int) < regs := by omega
        have g3 : ¬ (500 : Int) < (n : Int) := by omega
        go_wp2_with fail
        refine (ends_any _ code _ ?_).mono ?_
        · exact HC.out.alloc _
        rintro e w1 ⟨rfl, rfl⟩
        cases hbe : endsB code with
        | false =>
          go_wp2
          go_ret
          exact ⟨by rw [NO.out (okP_no4 hbe)]; rfl, (Below.refl _ _).alloc (Nat.le_refl _) _⟩
        | true =>
          have hB0 : Below w.heap.size w (w.alloc (.cells #[.string name, .int .i64 regs, .slice ao n cap] 24)) := (Below.refl _ _).alloc (Nat.le_refl _) _
          go_wp2_with fail
          obtain ⟨W, HW⟩ := named (w.alloc (.cells #[.string name, .int .i64 regs, .slice ao n cap] 24))
          have hcW : W.heap[w.heap.size]? = some (.cells #[.string name, .int .i64 regs, .slice ao n cap] 24 (0, 0)) := by rw [HW.out]; exact heap_alloc_new w _
          have hW2 : W.cell? ⟨w.heap.size, 2, none⟩ = some (.slice ao n cap) := cell_of_row W w.heap.size 2 _ 24 (0, 0) hcW
          have hsW : W.heap.size = w.heap.size + 1 := by rw [HW.out]; simp
          rw [← HW.out] at hB0 ⊢
          refine (rulesOf_any regs n pol W).mono ?_
          rintro e w1 ⟨rv, rfl, hR, hb1⟩
          have hsz1 := hb1.size
          have hW2' := (hb1.cell (p := ⟨w.heap.size, 2, none⟩) (by show w.heap.size < W.heap.size; omega)).trans hW2
          have HR := hide hR
          have HB := hide (below_call hB0 hb1)
          have HLT := hide (show w.heap.size < w1.heap.size by omega)
          clear hcW hW2 hsW hB0 hb1 hsz1 hR
          go_wp2
          go_loopw [42] (fun iv wr => ∃ k : Nat, k ≤ n ∧ iv = .int .i64 k ∧ codeB ⟨name, regs, code⟩ pol k = true ∧ Below w1.heap.size w1 wr) (fun iv _ => n - (intOf iv).toNat)
          case atStart => exact ⟨0, by omega, rfl, by simp [codeB], Below.refl _ _⟩
          case round =>
            obtain ⟨k, hkn, rfl, hcb, hbr⟩ := hrel
            have HCB := hide hcb
            have hbw : Below w.heap.size w wr := below_call HB.out hbr
            by_cases hlt : k < n
            · obtain ⟨b, off, hao, hblt, c0, c1, c2, c3, c4, c5⟩ := (HC.out.below hbw).at k (by rw [← HN.out]; exact hlt)
              subst hao
              have HWI := hide (HWF.out _ (List.getElem_mem (show k < code.length by rw [← HN.out]; exact hlt)))
              obtain ⟨i, HI⟩ := named (code[k]'(by rw [← HN.out]; exact hlt))
              rw [← HI.out] at c0 c1 c2 c3 c4 c5 HWI
              have hsr := hbr.size
              have HK2 := hide (HK.out.below hbw)
              have HR2 := hide (HR.out.below hbr)
              have HBR := hide hbr
              have HBW := hide hbw
              clear hcb hbr hbw
              go_wp2_with fail
              obtain ⟨X, HX⟩ := named (wr.alloc (.cells #[.int .u8 (i.op : Int), .int .i64 i.a, .int .i64 i.b, .int .i64 i.c, .int .i64 i.n, .string i.s] 28))
              have hbX : Below wr.heap.size wr X := by rw [HX.out]; exact (Below.refl _ _).alloc (Nat.le_refl _) _
              rw [← HX.out]
              refine (hasItsOwn_any i HWI.out rv regs n pol X (HK2.out.below hbX) (HR2.out.below hbX)).mono ?_
              rintro e w2 ⟨rfl, hb2⟩
              have hbr2 : Below w1.heap.size w1 w2 := below_call HBR.out (below_call hbX hb2)
              have HBR2 := hide hbr2
              have hin : insB regs (n : Int) pol i = insB regs (code.length : Int) pol (code[k]'(by rw [← HN.out]; exact hlt)) := by rw [← HI.out, HN.out]
              have HIN := hide hin
              clear hin hbr2 hb2 hbX
              cases hib : insB regs (n : Int) pol i with
              | false =>
                go_wp2
                go_ret
                exact ⟨by rw [NO.out (okP_no5 (p := ⟨name, regs, code⟩) k (by show k < code.length; rw [← HN.out]; exact hlt) (by rw [← hib]; exact HIN.out.symm))]; rfl, below_call HB.out HBR2.out⟩
              | true =>
                go_wp2
                go_roundw
                case rel =>
                  refine ⟨k + 1, by omega, by go_num, ?_, HBR2.out⟩
                  rw [codeB_succ _ _ k (by show k < code.length; rw [← HN.out]; exact hlt), HCB.out, Bool.true_and]
                  show insB regs (code.length : Int) pol (code[k]'_) = true
                  rw [← HIN.out]
                  exact hib
                case measure => simp [intOf]; omega
            · have hkn2 : k = n := by omega
              subst hkn2
              go_wp2
              go_ret
              refine ⟨?_, hbw⟩
              have hok : okP ⟨name, regs, code⟩ pol = true := okP_yes (by rw [← HBN.out]; exact hbn) hr (by show code.length ≤ 500; rw [← HN.out]; exact h5) hbe (by show codeB _ _ code.length = true; rw [← HN.out]; exact HCB.out)
              rw [HQ.out]
              unfold errP
              rw [hok]
              rfl
      · have g1 : ¬ regs < 1 := by omega
        have g2 : ¬ (16 : Int) < regs := by omega
        have g3 : (500 : Int) < (n : Int) := by omega
        go_wp2
        go_ret
        exact ⟨by rw [NO.out (okP_no3 (by show ¬ code.length ≤ 500; rw [← HN.out]; exact h5))]; rfl, (Below.refl _ _).alloc (Nat.le_refl _) _⟩
    · by_cases g1 : regs < 1
      · go_wp2
        go_ret
        exact ⟨by rw [NO.out (okP_no2 hr)]; rfl, (Below.refl _ _).alloc (Nat.le_refl _) _⟩
      · have g2 : (16 : Int) < regs := by omega
        go_wp2
        go_ret
        exact ⟨by rw [NO.out (okP_no2 hr)]; rfl, (Below.refl _ _).alloc (Nat.le_refl _) _⟩
end Go.Proofs.YtpiiehenmkinaaaDoor
