/-
  Programs as lists: what may be one, its bytes, what is read of any bytes. Own work, no walk.
-/
import Derived.Test.YtpiiehenmkinaaaDoorMathe
import Derived.Test.YtpiiehenmkinaaaDoorWc
namespace Go.Proofs.YtpiiehenmkinaaaDoor
open Go.RowKit

/-- an instruction -/
structure Ins where
  op : Nat
  a : Int
  b : Int
  c : Int
  n : Int
  s : ByteArray
/-- a program -/
structure Prg where
  name : ByteArray
  regs : Int
  code : List Ins
def IR (x : Int) : Prop := -9223372036854775808 ≤ x ∧ x ≤ 9223372036854775807
/-- an instruction whose fields are of their types -/
structure Ins.wf (i : Ins) : Prop where
  op : i.op < 256
  a : IR i.a
  b : IR i.b
  c : IR i.c
  n : IR i.n
  s : i.s.size ≤ maxLen

/-- the letters of what a field may be: r 114, j 106, p 112, n 110, s 115, none 46 -/
def fields : Nat → List Nat
  | 1 => [114, 46, 46, 110, 46]
  | 2 => [114, 114, 46, 46, 46]
  | 3 => [114, 114, 114, 46, 46]
  | 4 => [114, 114, 114, 46, 46]
  | 5 => [114, 114, 114, 46, 46]
  | 6 => [114, 114, 114, 46, 46]
  | 7 => [114, 114, 114, 46, 46]
  | 8 => [46, 46, 46, 106, 46]
  | 9 => [114, 46, 46, 106, 46]
  | 10 => [114, 114, 112, 46, 115]
  | 11 => [114, 114, 46, 46, 46]
  | 12 => [114, 114, 46, 46, 115]
  | 13 => [114, 114, 114, 46, 46]
  | 14 => [114, 46, 46, 46, 46]
  | 15 => [114, 46, 46, 46, 46]
  | 16 => [114, 46, 46, 46, 46]
  | _ => []
def fit (regs places pol : Int) (l : Nat) (x : Int) : Bool :=
  if l = 114 then decide (0 ≤ x ∧ x < regs) else if l = 106 then decide (0 ≤ x ∧ x < places) else if l = 112 then decide (0 ≤ x ∧ x < pol)
  else if l = 110 then true else if l = 115 then decide (1 ≤ x ∧ x ≤ 40) else decide (0 ≤ x ∧ x < 1)
def vals (i : Ins) : List Int := [i.a, i.b, i.c, i.n, (i.s.size : Int)]
def fits (regs places pol : Int) : List Nat → List Int → Bool
  | l :: ls, x :: xs => fit regs places pol l x && fits regs places pol ls xs
  | [], _ => true
  | _, [] => true
def insB (regs places pol : Int) (i : Ins) : Bool := decide ((fields i.op).length = 5) && fits regs places pol (fields i.op) (vals i)
def endsB (l : List Ins) : Bool :=
  match l.getLast? with
  | none => false
  | some i => decide (i.op = 8 ∨ i.op = 15 ∨ i.op = 16)
def okP (p : Prg) (pol : Int) : Bool :=
  decide (1 ≤ p.name.size ∧ p.name.size ≤ 40) && decide (1 ≤ p.regs ∧ p.regs ≤ 16) && decide (p.code.length ≤ 500) && endsB p.code && p.code.all (insB p.regs p.code.length pol)

/-- a text as bytes -/
def nm (s : ByteArray) : List UInt8 := s.data.toList
theorem nm_len (s : ByteArray) : (nm s).length = s.size := by
  show s.data.toList.length = s.data.size
  rw [Array.length_toList]
theorem nm_mk (l : List UInt8) : nm ⟨l.toArray⟩ = l := by simp [nm]
theorem mk_nm (s : ByteArray) : (⟨(nm s).toArray⟩ : ByteArray) = s := by
  cases s
  show (⟨_⟩ : ByteArray) = ⟨_⟩
  congr 1
def insL (i : Ins) : List UInt8 := U i.op ++ (U i.a ++ (U i.b ++ (U i.c ++ (U (foldI i.n) ++ blobL (nm i.s)))))
def headL (p : Prg) : List UInt8 := blobL (nm p.name) ++ (U p.regs ++ U (p.code.length : Int))
def codeL (l : List Ins) : List UInt8 := (l.map insL).flatten
def bytesP (p : Prg) : List UInt8 := headL p ++ codeL p.code

/-- a reader: the place, was something wrong -/
abbrev RS := Nat × Bool
def numR (l : List UInt8) (most : Nat) (st : RS) : Nat × RS :=
  if st.2 = true then (0, st) else if (getU l st.1).2.2 ≠ 0 ∨ most < (getU l st.1).1 then (0, (st.1, true)) else ((getU l st.1).1, ((getU l st.1).2.1, false))
def sigR (l : List UInt8) (st : RS) : Int × RS :=
  if st.2 = true then (0, st) else (unfoldI (getU l st.1).1, ((getU l st.1).2.1, decide ((getU l st.1).2.2 ≠ 0)))
def txtR (l : List UInt8) (st : RS) : List UInt8 × RS :=
  if st.2 = true then ([], st) else ((getB l st.1 40).1, ((getB l st.1 40).2.1, decide ((getB l st.1 40).2.2 ≠ 0)))
def insR (l : List UInt8) (st : RS) : Ins × RS :=
  (⟨(numR l 255 st).1, (numR l 16 (numR l 255 st).2).1, (numR l 16 (numR l 16 (numR l 255 st).2).2).1, (numR l 20 (numR l 16 (numR l 16 (numR l 255 st).2).2).2).1,
    (sigR l (numR l 20 (numR l 16 (numR l 16 (numR l 255 st).2).2).2).2).1, ⟨(txtR l (sigR l (numR l 20 (numR l 16 (numR l 16 (numR l 255 st).2).2).2).2).2).1.toArray⟩⟩,
    (txtR l (sigR l (numR l 20 (numR l 16 (numR l 16 (numR l 255 st).2).2).2).2).2).2)
def codeR (l : List UInt8) : Nat → RS → List Ins → List Ins × RS
  | 0, st, acc => (acc, st)
  | k + 1, st, acc => if st.2 = true then (acc, st) else codeR l k (insR l st).2 (acc ++ [(insR l st).1])
def prgR (l : List UInt8) : Prg × RS :=
  (⟨⟨(txtR l (0, false)).1.toArray⟩, ((numR l 16 (txtR l (0, false)).2).1 : Nat), (codeR l (numR l 500 (numR l 16 (txtR l (0, false)).2).2).1 (numR l 500 (numR l 16 (txtR l (0, false)).2).2).2 []).1⟩,
    (codeR l (numR l 500 (numR l 16 (txtR l (0, false)).2).2).1 (numR l 500 (numR l 16 (txtR l (0, false)).2).2).2 []).2)
def noP : Prg := ⟨⟨#[]⟩, 0, []⟩
def goodR (l : List UInt8) : Bool := !(prgR l).2.2 && decide ((prgR l).2.1 = l.length) && okP (prgR l).1 20
/-- what is read of bytes; whether it may be -/
def readR (l : List UInt8) : Prg × Nat := if goodR l = true then ((prgR l).1, 0) else (noP, 100)

/-- these bytes stand from p on, till q -/
def At (l : List UInt8) (p : Nat) (x : List UInt8) (q : Nat) : Prop := p ≤ l.length ∧ l.drop p = x ++ l.drop q ∧ q = p + x.length
theorem At.len {l : List UInt8} {p q : Nat} {x : List UInt8} (h : At l p x q) : q ≤ l.length := by
  obtain ⟨h1, h2, h3⟩ := h
  have := congrArg List.length h2
  simp only [List.length_drop, List.length_append] at this
  omega
theorem At.join {l : List UInt8} {p m q : Nat} {x y : List UInt8} (h : At l p x m) (k : At l m y q) : At l p (x ++ y) q := by
  obtain ⟨h1, h2, h3⟩ := h
  obtain ⟨k1, k2, k3⟩ := k
  exact ⟨h1, by rw [h2, k2, List.append_assoc], by rw [k3, h3, List.length_append]; omega⟩
theorem At.split {l : List UInt8} {p q : Nat} {x y : List UInt8} (h : At l p (x ++ y) q) : At l p x (p + x.length) ∧ At l (p + x.length) y q := by
  have hq := h.len
  obtain ⟨h1, h2, h3⟩ := h
  rw [List.length_append] at h3
  have e : l.drop (p + x.length) = y ++ l.drop q := by
    rw [← List.drop_drop, h2, List.append_assoc, List.drop_left]
  exact ⟨⟨h1, by rw [h2, e, List.append_assoc], rfl⟩, ⟨by omega, e, by omega⟩⟩
theorem At.nil {l : List UInt8} {p : Nat} (h : p ≤ l.length) : At l p [] p := ⟨h, rfl, rfl⟩
theorem At.form {l : List UInt8} {p q : Nat} {x : List UInt8} (h : At l p x q) : l = l.take p ++ (x ++ l.drop q) ∧ (l.take p).length = p := by
  obtain ⟨h1, h2, h3⟩ := h
  exact ⟨by rw [← h2, List.take_append_drop], by rw [List.length_take]; omega⟩
theorem At.whole (x rest : List UInt8) : At (x ++ rest) 0 x x.length := ⟨Nat.zero_le _, by simp, by simp⟩

theorem rdU_inv (p i acc n q : Nat) (l : List UInt8) (hi : i ≤ 10) (h : rdU p i acc l = (n, q, 0)) :
    ∃ m, n = acc + m * 2 ^ (7 * i) ∧ q = p + i + (sev (10 - i) m).length ∧ l.take (sev (10 - i) m).length = sev (10 - i) m ∧ (0 < i → 0 < m) := by
  induction l generalizing i acc with
  | nil => simp [rdU] at h
  | cons x t ih =>
    by_cases h10 : i = 10
    · rw [rdU, if_pos h10] at h
      simp at h
    · have hlt : i < 10 := by omega
      rw [rdU_cons _ _ _ _ _ hlt] at h
      have hx8 : x.toNat < 256 := x.toNat_lt
      cases hm : mayB x.toNat i with
      | false => rw [if_pos hm] at h; simp at h
      | true =>
        rw [if_neg (by rw [hm]; simp)] at h
        by_cases hx : x.toNat < 128
        · rw [if_pos hx] at h
          simp only [Prod.mk.injEq, and_true] at h
          have hs : sev (10 - i) x.toNat = [x] := by
            rw [show 10 - i = (9 - i) + 1 by omega, sev, if_pos hx]
            simp
          refine ⟨x.toNat, ?_, ?_, ?_, ?_⟩
          · rw [← h.1, Nat.mod_eq_of_lt hx]
          · rw [hs, ← h.2]; rfl
          · rw [hs]; rfl
          · intro hi0
            simp [mayB] at hm
            omega
        · rw [if_neg hx] at h
          obtain ⟨m, h1, h2, h3, h4⟩ := ih (i + 1) _ (by omega) h
          have hm0 := h4 (by omega)
          have hs : sev (10 - i) (x.toNat % 128 + 128 * m) = x :: sev (10 - (i + 1)) m := by
            rw [show 10 - i = (10 - (i + 1)) + 1 by omega, sev, if_neg (by omega)]
            congr 1
            · rw [← UInt8.toNat_inj, UInt8.toNat_ofNat']
              omega
            · congr 1
              omega
          refine ⟨x.toNat % 128 + 128 * m, ?_, ?_, ?_, by omega⟩
          · rw [h1, Nat.add_assoc]
            congr 1
            have e : 2 ^ (7 * (i + 1)) = 128 * 2 ^ (7 * i) := by rw [Nat.mul_add, Nat.pow_add]; omega
            rw [e, Nat.add_mul, ← Nat.mul_assoc, Nat.mul_comm m 128]
          · rw [hs, List.length_cons, h2]; omega
          · rw [hs, List.length_cons, List.take_succ_cons, h3]
theorem getU_at (l : List UInt8) (p n q : Nat) (h : getU l p = (n, q, 0)) : At l p (U n) q := by
  unfold getU at h
  split at h
  · simp at h
  · rename_i hp
    rw [Int.toNat_natCast] at h
    obtain ⟨m, h1, h2, h3, -⟩ := rdU_inv p 0 0 n q _ (by omega) h
    simp only [Nat.mul_zero, Nat.pow_zero, Nat.mul_one, Nat.zero_add, Nat.add_zero] at h1 h2
    subst h1
    have h3' : (l.drop p).take (U n).length = U n := h3
    have h2' : q = p + (U n).length := h2
    refine ⟨by omega, ?_, h2'⟩
    rw [h2', ← List.drop_drop]
    calc l.drop p = (l.drop p).take (U n).length ++ (l.drop p).drop (U n).length := (List.take_append_drop _ _).symm
      _ = U n ++ (l.drop p).drop (U n).length := by rw [h3']
theorem getB_at (l : List UInt8) (p : Nat) (k : Int) (h : (getB l p k).2.2 = 0) : At l p (blobL (getB l p k).1) (getB l p k).2.1 ∧ ((getB l p k).1.length : Int) ≤ k := by
  cases hg : getU l p with
  | mk n r =>
    obtain ⟨q, e⟩ := r
    unfold getB at h ⊢
    rw [hg] at h ⊢
    simp only at h ⊢
    by_cases he : e ≠ 0
    · rw [if_pos he] at h
      exact absurd h he
    · have he0 : e = 0 := by omega
      subst he0
      rw [if_neg he] at h ⊢
      by_cases h2 : k < 0 ∨ k < (n : Int)
      · rw [if_pos h2] at h
        simp at h
      · rw [if_neg h2] at h ⊢
        by_cases h4 : l.length - q < n
        · rw [if_pos h4] at h
          simp at h
        · rw [if_neg h4]
          have ha := getU_at l p n q hg
          have hq := ha.len
          have hl : ((l.drop q).take n).length = n := by rw [List.length_take, List.length_drop]; omega
          refine ⟨?_, by show (((l.drop q).take n).length : Int) ≤ k; omega⟩
          show At l p (blobL ((l.drop q).take n)) (q + n)
          unfold blobL
          rw [hl]
          refine ha.join ⟨hq, ?_, by rw [hl]⟩
          rw [← List.drop_drop, List.take_append_drop]

theorem numR_back {l : List UInt8} {p q : Nat} (n : Int) (most : Nat) (h : At l p (U n) q) (h0 : 0 ≤ n) (h1 : n ≤ most) (h2 : most ≤ 18446744073709551615) : numR l most (p, false) = (n.toNat, (q, false)) := by
  obtain ⟨m, rfl⟩ := Int.eq_ofNat_of_zero_le h0
  obtain ⟨e1, e2⟩ := h.form
  have hg := getU_U m (by omega) (l.take p) (l.drop q)
  rw [← e1, e2, ← h.2.2] at hg
  unfold numR
  simp only [hg]
  rw [if_neg (by simp), if_neg (by omega)]
  rfl
theorem sigR_back {l : List UInt8} {p q : Nat} (n : Int) (h : At l p (U (foldI n)) q) (hn : IR n) : sigR l (p, false) = (n, (q, false)) := by
  have hr := foldI_range n hn.1 hn.2
  obtain ⟨m, hm⟩ := Int.eq_ofNat_of_zero_le hr.1
  rw [hm] at h
  obtain ⟨e1, e2⟩ := h.form
  have hg := getU_U m (by omega) (l.take p) (l.drop q)
  rw [← e1, e2, ← h.2.2] at hg
  unfold sigR
  simp only [hg]
  rw [if_neg (by simp), ← hm, unfold_fold]
  rfl
theorem txtR_back {l : List UInt8} {p q : Nat} (b : List UInt8) (h : At l p (blobL b) q) (hb : b.length ≤ 40) : txtR l (p, false) = (b, (q, false)) := by
  obtain ⟨e1, e2⟩ := h.form
  have hg := getB_blob b (l.take p) (l.drop q) 40 (by omega) (by omega)
  rw [← e1, e2, ← h.2.2] at hg
  unfold txtR
  simp only [hg]
  rw [if_neg (by simp)]
  rfl
theorem numR_inv {l : List UInt8} {most : Nat} {st : RS} (h : (numR l most st).2.2 = false) : st.2 = false ∧ At l st.1 (U (numR l most st).1) (numR l most st).2.1 ∧ (numR l most st).1 ≤ most := by
  unfold numR at h ⊢
  by_cases h1 : st.2 = true
  · rw [if_pos h1] at h
    rw [h1] at h
    cases h
  · rw [if_neg h1] at h ⊢
    by_cases h2 : (getU l st.1).2.2 ≠ 0 ∨ most < (getU l st.1).1
    · rw [if_pos h2] at h
      cases h
    · rw [if_neg h2]
      refine ⟨by simpa using h1, getU_at _ _ _ _ ?_, by show (getU l st.1).1 ≤ most; omega⟩
      show getU l st.1 = _
      have h3 : (getU l st.1).2.2 = 0 := by omega
      rw [← h3]
theorem sigR_inv {l : List UInt8} {st : RS} (h : (sigR l st).2.2 = false) : st.2 = false ∧ At l st.1 (U (foldI (sigR l st).1)) (sigR l st).2.1 ∧ IR (sigR l st).1 := by
  unfold sigR at h ⊢
  by_cases h1 : st.2 = true
  · rw [if_pos h1] at h
    rw [h1] at h
    cases h
  · rw [if_neg h1] at h ⊢
    have h3 : (getU l st.1).2.2 = 0 := by simpa using h
    have hlt := getU_lt l st.1
    refine ⟨by simpa using h1, ?_, unfoldI_range _ (by omega) (by omega)⟩
    show At l st.1 (U (foldI (unfoldI (getU l st.1).1))) (getU l st.1).2.1
    rw [fold_unfold _ (by omega)]
    refine getU_at _ _ _ _ ?_
    rw [← h3]
theorem txtR_inv {l : List UInt8} {st : RS} (h : (txtR l st).2.2 = false) : st.2 = false ∧ At l st.1 (blobL (txtR l st).1) (txtR l st).2.1 ∧ (txtR l st).1.length ≤ 40 := by
  unfold txtR at h ⊢
  by_cases h1 : st.2 = true
  · rw [if_pos h1] at h
    rw [h1] at h
    cases h
  · rw [if_neg h1] at h ⊢
    have h3 : (getB l st.1 40).2.2 = 0 := by simpa using h
    obtain ⟨k1, k2⟩ := getB_at l st.1 40 h3
    exact ⟨by simpa using h1, k1, by show (getB l st.1 40).1.length ≤ 40; omega⟩
theorem insR_inv {l : List UInt8} {st : RS} (h : (insR l st).2.2 = false) : st.2 = false ∧ At l st.1 (insL (insR l st).1) (insR l st).2.1 ∧ (insR l st).1.wf := by
  obtain ⟨g6, k6, b6⟩ := txtR_inv (l := l) (st := (sigR l (numR l 20 (numR l 16 (numR l 16 (numR l 255 st).2).2).2).2).2) h
  obtain ⟨g5, k5, b5⟩ := sigR_inv g6
  obtain ⟨g4, k4, b4⟩ := numR_inv g5
  obtain ⟨g3, k3, b3⟩ := numR_inv g4
  obtain ⟨g2, k2, b2⟩ := numR_inv g3
  obtain ⟨g1, k1, b1⟩ := numR_inv g2
  refine ⟨g1, ?_, ?_⟩
  · unfold insL
    have e : nm (insR l st).1.s = (txtR l (sigR l (numR l 20 (numR l 16 (numR l 16 (numR l 255 st).2).2).2).2).2).1 := nm_mk _
    rw [e]
    exact k1.join (k2.join (k3.join (k4.join (k5.join k6))))
  · refine ⟨by show (numR l 255 st).1 < 256; omega, ?_, ?_, ?_, b5, ?_⟩
    · show IR ((numR l 16 (numR l 255 st).2).1 : Int)
      unfold IR; omega
    · show IR ((numR l 16 (numR l 16 (numR l 255 st).2).2).1 : Int)
      unfold IR; omega
    · show IR ((numR l 20 (numR l 16 (numR l 16 (numR l 255 st).2).2).2).1 : Int)
      unfold IR; omega
    · have e : (insR l st).1.s.size = (txtR l (sigR l (numR l 20 (numR l 16 (numR l 16 (numR l 255 st).2).2).2).2).2).1.length := by
        rw [← nm_len]
        exact congrArg List.length (nm_mk _)
      rw [e]
      unfold maxLen
      omega
theorem codeR_inv {l : List UInt8} (k : Nat) (st : RS) (acc : List Ins) (hp : st.2 = false → st.1 ≤ l.length) (h : (codeR l k st acc).2.2 = false) :
    ∃ new, (codeR l k st acc).1 = acc ++ new ∧ new.length = k ∧ st.2 = false ∧ At l st.1 (codeL new) (codeR l k st acc).2.1 ∧ ∀ i ∈ new, i.wf := by
  induction k generalizing st acc with
  | zero => exact ⟨[], by simp [codeR], rfl, h, At.nil (hp h), fun i hi => by cases hi⟩
  | succ k ih =>
    rw [codeR] at h ⊢
    by_cases h1 : st.2 = true
    · rw [if_pos h1] at h
      rw [h1] at h
      cases h
    · rw [if_neg h1] at h ⊢
      have hle : (insR l st).2.2 = false → (insR l st).2.1 ≤ l.length := fun hf => (insR_inv hf).2.1.len
      obtain ⟨new, e1, e2, e3, e4, e5⟩ := ih _ _ hle h
      obtain ⟨g1, g2, g3⟩ := insR_inv e3
      refine ⟨(insR l st).1 :: new, by rw [e1]; simp, by simp [e2], g1, ?_, ?_⟩
      · have : codeL ((insR l st).1 :: new) = insL (insR l st).1 ++ codeL new := by simp [codeL]
        rw [this]
        exact g2.join e4
      · intro i hi
        rcases List.mem_cons.1 hi with rfl | hi
        · exact g3
        · exact e5 i hi
theorem prgR_inv {l : List UInt8} (h : (prgR l).2.2 = false) : At l 0 (bytesP (prgR l).1) (prgR l).2.1 ∧ (∀ i ∈ (prgR l).1.code, i.wf) ∧ (prgR l).1.name.size ≤ 40 ∧ IR (prgR l).1.regs ∧ (prgR l).1.code.length ≤ 500 := by
  obtain ⟨new, e1, e2, e3, e4, e5⟩ := codeR_inv (l := l) (numR l 500 (numR l 16 (txtR l (0, false)).2).2).1 (numR l 500 (numR l 16 (txtR l (0, false)).2).2).2 [] (fun hf => (numR_inv hf).2.1.len) h
  obtain ⟨g3, k3, b3⟩ := numR_inv e3
  obtain ⟨g2, k2, b2⟩ := numR_inv g3
  obtain ⟨g1, k1, b1⟩ := txtR_inv g2
  rw [List.nil_append] at e1
  have ec : (prgR l).1.code = new := e1
  have en : nm (prgR l).1.name = (txtR l (0, false)).1 := nm_mk _
  refine ⟨?_, ?_, ?_, ?_, ?_⟩
  · unfold bytesP headL
    rw [ec, en, e2]
    exact (k1.join (k2.join k3)).join e4
  · rw [ec]; exact e5
  · rw [← nm_len, en]; exact b1
  · show IR ((numR l 16 (txtR l (0, false)).2).1 : Int)
    unfold IR; omega
  · rw [ec, e2]; exact b3
theorem insB_range {regs places : Int} {i : Ins} (h : insB regs places 20 i = true) (hr : regs ≤ 16) : (0 ≤ i.a ∧ i.a ≤ 16) ∧ (0 ≤ i.b ∧ i.b ≤ 16) ∧ (0 ≤ i.c ∧ i.c ≤ 20) ∧ i.s.size ≤ 40 ∧ 1 ≤ i.op ∧ i.op ≤ 16 := by
  obtain ⟨op, a, b, c, n, s⟩ := i
  unfold insB at h
  by_cases ho : op ≤ 16
  · have : op = 0 ∨ op = 1 ∨ op = 2 ∨ op = 3 ∨ op = 4 ∨ op = 5 ∨ op = 6 ∨ op = 7 ∨ op = 8 ∨ op = 9 ∨ op = 10 ∨ op = 11 ∨ op = 12 ∨ op = 13 ∨ op = 14 ∨ op = 15 ∨ op = 16 := by omega
    rcases this with rfl | rfl | rfl | rfl | rfl | rfl | rfl | rfl | rfl | rfl | rfl | rfl | rfl | rfl | rfl | rfl | rfl <;>
      simp [fields, fits, vals, fit] at h ⊢ <;> omega
  · have : fields op = [] := by
      unfold fields
      split <;> first | rfl | omega
    rw [this] at h
    simp at h
theorem insR_back {l : List UInt8} {p q : Nat} {i : Ins} (h : At l p (insL i) q) (hw : i.wf) (ha : 0 ≤ i.a ∧ i.a ≤ 16) (hb : 0 ≤ i.b ∧ i.b ≤ 16) (hc : 0 ≤ i.c ∧ i.c ≤ 20) (hs : i.s.size ≤ 40) : insR l (p, false) = (i, (q, false)) := by
  obtain ⟨op, a, b, c, n, s⟩ := i
  unfold insL at h
  obtain ⟨h1, h⟩ := h.split
  obtain ⟨h2, h⟩ := h.split
  obtain ⟨h3, h⟩ := h.split
  obtain ⟨h4, h⟩ := h.split
  obtain ⟨h5, h6⟩ := h.split
  have hop := hw.op
  have hn := hw.n
  have e1 := numR_back (op : Int) 255 h1 (by omega) (by simp only at hop; omega) (by omega)
  have e2 := numR_back a 16 h2 ha.1 (by simp only at ha; omega) (by omega)
  have e3 := numR_back b 16 h3 hb.1 (by simp only at hb; omega) (by omega)
  have e4 := numR_back c 20 h4 hc.1 (by simp only at hc; omega) (by omega)
  have e5 := sigR_back n h5 hn
  have e6 := txtR_back (nm s) h6 (by rw [nm_len]; exact hs)
  unfold insR
  simp only [e1, e2, e3, e4, e5, e6]
  simp only at ha hb hc
  rw [mk_nm, Int.toNat_of_nonneg ha.1, Int.toNat_of_nonneg hb.1, Int.toNat_of_nonneg hc.1, Int.toNat_natCast]
theorem codeR_back {l : List UInt8} (code : List Ins) {p q : Nat} (acc : List Ins) (h : At l p (codeL code) q) (hw : ∀ i ∈ code, i.wf ∧ (0 ≤ i.a ∧ i.a ≤ 16) ∧ (0 ≤ i.b ∧ i.b ≤ 16) ∧ (0 ≤ i.c ∧ i.c ≤ 20) ∧ i.s.size ≤ 40) :
    codeR l code.length (p, false) acc = (acc ++ code, (q, false)) := by
  induction code generalizing p acc with
  | nil =>
    have : q = p := h.2.2
    rw [this]
    simp [codeR]
  | cons i code ih =>
    have e : codeL (i :: code) = insL i ++ codeL code := by simp [codeL]
    rw [e] at h
    obtain ⟨h1, h2⟩ := h.split
    obtain ⟨w1, w2, w3, w4, w5⟩ := hw i (by simp)
    have e1 := insR_back h1 w1 w2 w3 w4 w5
    rw [List.length_cons, codeR, if_neg (by simp), e1]
    simp only
    rw [ih (acc ++ [i]) h2 (fun j hj => hw j (by simp [hj]))]
    simp
theorem prgR_back (p : Prg) (rest : List UInt8) (h : okP p 20 = true) (hw : ∀ i ∈ p.code, i.wf) : prgR (bytesP p ++ rest) = (p, ((bytesP p).length, false)) := by
  unfold okP at h
  simp only [Bool.and_eq_true, decide_eq_true_eq, List.all_eq_true] at h
  obtain ⟨⟨⟨⟨hn, hr⟩, hl⟩, he⟩, hi⟩ := h
  have hA := At.whole (bytesP p) rest
  obtain ⟨L, HL⟩ : ∃ L, L = bytesP p ++ rest := ⟨_, rfl⟩
  rw [← HL] at hA ⊢
  clear HL
  obtain ⟨Q, HQ⟩ : ∃ Q, Q = (bytesP p).length := ⟨_, rfl⟩
  rw [← HQ] at hA ⊢
  clear HQ
  unfold bytesP headL at hA
  obtain ⟨h1, h4⟩ := hA.split
  obtain ⟨h1, h2⟩ := h1.split
  obtain ⟨h2, h3⟩ := h2.split
  have e1 := txtR_back (nm p.name) h1 (by rw [nm_len]; exact hn.2)
  have e2 := numR_back p.regs 16 h2 (by omega) (by omega) (by omega)
  have e3 := numR_back (p.code.length : Int) 500 h3 (by omega) (by omega) (by omega)
  rw [Int.toNat_natCast] at e3
  have e4 := codeR_back p.code [] h4 (fun i hm => by
    have := insB_range (hi i hm) hr.2
    exact ⟨hw i hm, this.1, this.2.1, this.2.2.1, this.2.2.2.1⟩)
  unfold prgR
  simp only [e1, e2, e3, e4, List.nil_append]
  rw [mk_nm, Int.toNat_of_nonneg (by omega)]
theorem read_bytes (p : Prg) (h : okP p 20 = true) (hw : ∀ i ∈ p.code, i.wf) : readR (bytesP p) = (p, 0) := by
  have := prgR_back p [] h hw
  rw [List.append_nil] at this
  unfold readR goodR
  rw [this]
  simp [h]
theorem read_inv (l : List UInt8) (h : (readR l).2 = 0) : goodR l = true ∧ readR l = ((prgR l).1, 0) ∧ okP (prgR l).1 20 = true ∧ bytesP (prgR l).1 = l ∧ ∀ i ∈ (prgR l).1.code, i.wf := by
  unfold readR at h ⊢
  by_cases hg : goodR l = true
  · rw [if_pos hg]
    have hg' := hg
    unfold goodR at hg'
    simp only [Bool.and_eq_true, Bool.not_eq_true', decide_eq_true_eq] at hg'
    obtain ⟨⟨g1, g2⟩, g3⟩ := hg'
    obtain ⟨k1, k2, -⟩ := prgR_inv g1
    refine ⟨hg, rfl, g3, ?_, k2⟩
    have h2 := k1.2.1
    rw [g2] at h2
    simpa using h2.symm
  · rw [if_neg hg] at h
    cases h
/-- of a beginning of a program's bytes, and with more, nothing is read -/
theorem read_cut (p : Prg) (h : okP p 20 = true) (hw : ∀ i ∈ p.code, i.wf) (k : Nat) (hk : k < (bytesP p).length) : (readR ((bytesP p).take k)).2 = 100 := by
  by_cases h0 : (readR ((bytesP p).take k)).2 = 0
  · obtain ⟨-, -, h3, h4, h5⟩ := read_inv _ h0
    obtain ⟨q, hq⟩ : ∃ q, q = (prgR ((bytesP p).take k)).1 := ⟨_, rfl⟩
    rw [← hq] at h3 h4 h5
    have e1 := prgR_back q ((bytesP p).drop k) h3 h5
    rw [h4, List.take_append_drop] at e1
    have e2 := prgR_back p [] h hw
    rw [List.append_nil] at e2
    rw [e2] at e1
    have := congrArg (fun x => x.2.1) e1
    simp only [List.length_take] at this
    omega
  · unfold readR at h0 ⊢
    split
    · rename_i hg; rw [if_pos hg] at h0; exact absurd rfl h0
    · rfl
theorem read_more (p : Prg) (h : okP p 20 = true) (hw : ∀ i ∈ p.code, i.wf) (x : UInt8) : (readR (bytesP p ++ [x])).2 = 100 := by
  have e1 := prgR_back p [x] h hw
  unfold readR
  rw [if_neg]
  unfold goodR
  rw [e1]
  simp
theorem bytesP_inj (p q : Prg) (h : okP p 20 = true) (hw : ∀ i ∈ p.code, i.wf) (h2 : okP q 20 = true) (hw2 : ∀ i ∈ q.code, i.wf) (e : bytesP p = bytesP q) : p = q := by
  have e1 := read_bytes p h hw
  have e2 := read_bytes q h2 hw2
  rw [e, e2] at e1
  exact (congrArg Prod.fst e1).symm
theorem bytesP_pos (p : Prg) : 0 < (bytesP p).length := by
  unfold bytesP headL blobL
  simp only [List.length_append]
  have := U_pos ((nm p.name).length : Int)
  omega
end Go.Proofs.YtpiiehenmkinaaaDoor
