/-
  What the independent reading's Read tells, as lists: it is what Read tells. Own work, no walk.
-/
import Derived.Test.YtpiiehenmkinaaaDoorJc
import Derived.Test.YtpiiehenmkinaaaDoorEi
import Derived.Test.YtpiiehenmkinaaaDoorEd
namespace Go.Proofs.YtpiiehenmkinaaaDoor
open Go.RowKit

def q0 (l : List UInt8) (st : RS) : Nat × RS := numR l 1000 st
def q1 (l : List UInt8) (st : RS) : Nat × RS := numR l 1000 (q0 l st).2
def q2 (l : List UInt8) (st : RS) : Nat × RS := numR l 1000 (q1 l st).2
def q3 (l : List UInt8) (st : RS) : Nat × RS := numR l 1000 (q2 l st).2
def brkQ (l : List UInt8) (st : RS) : Bool := (q3 l st).2.2 || decide ((getU l (q3 l st).2.1).2.2 ≠ 0)
def q5 (l : List UInt8) (st : RS) : List UInt8 × RS := txtQ l ((getU l (q3 l st).2.1).2.1, false)
def insQ (l : List UInt8) (st : RS) : Ins := ⟨(q0 l st).1 % 256, (q1 l st).1, (q2 l st).1, (q3 l st).1, unfoldI (getU l (q3 l st).2.1).1, ⟨(q5 l st).1.toArray⟩⟩
def codeQ (l : List UInt8) : Nat → RS → List Ins → List Ins × RS
  | 0, st, acc => (acc, st)
  | k + 1, st, acc => if st.2 = true then (acc, st) else if brkQ l st = true then (acc, ((q3 l st).2.1, true)) else codeQ l k (q5 l st).2 (acc ++ [insQ l st])
def nameQ (l : List UInt8) : List UInt8 × RS := txtQ l (0, false)
def regsQ (l : List UInt8) : Nat × RS := numR l 1000 (nameQ l).2
def cntQ (l : List UInt8) : Nat × RS := numR l 1000 (regsQ l).2
def endQ (l : List UInt8) : List Ins × RS := codeQ l (cntQ l).1 (cntQ l).2 []
def prgQ (l : List UInt8) : Prg := ⟨⟨(nameQ l).1.toArray⟩, ((regsQ l).1 : Nat), (endQ l).1⟩
def goodQ (l : List UInt8) : Bool := !(endQ l).2.2 && (okP (prgQ l) 20 && decide (bytesP (prgQ l) = l))

theorem txtQ_len (l : List UInt8) (st : RS) : (txtQ l st).1.length ≤ 40 := by
  unfold txtQ
  split
  · simp
  · rename_i h
    have := (getB_at l st.1 40 (by omega)).2
    show (getB l st.1 40).1.length ≤ 40
    omega
theorem insQ_wf (l : List UInt8) (st : RS) : (insQ l st).wf := by
  have hlt := getU_lt l (q3 l st).2.1
  have h1 := numR_le l 1000 (q0 l st).2
  have h2 := numR_le l 1000 (q1 l st).2
  have h3 := numR_le l 1000 (q2 l st).2
  have h5 := txtQ_len l ((getU l (q3 l st).2.1).2.1, false)
  refine ⟨Nat.mod_lt _ (by decide), ?_, ?_, ?_, unfoldI_range _ (by omega) (by omega), ?_⟩
  · show IR ((numR l 1000 (q0 l st).2).1 : Int)
    unfold IR; omega
  · show IR ((numR l 1000 (q1 l st).2).1 : Int)
    unfold IR; omega
  · show IR ((numR l 1000 (q2 l st).2).1 : Int)
    unfold IR; omega
  · show (txtQ l ((getU l (q3 l st).2.1).2.1, false)).1.toArray.size ≤ maxLen
    simp only [List.size_toArray]
    unfold maxLen
    omega
theorem codeQ_wf (l : List UInt8) (k : Nat) (st : RS) (acc : List Ins) (h : ∀ i ∈ acc, i.wf) : ∀ i ∈ (codeQ l k st acc).1, i.wf := by
  induction k generalizing st acc with
  | zero => exact h
  | succ k ih =>
    rw [codeQ]
    split
    · exact h
    · split
      · exact h
      · refine ih _ _ (fun i hi => ?_)
        rcases List.mem_append.1 hi with hi | hi
        · exact h i hi
        · obtain rfl := List.mem_singleton.1 hi
          exact insQ_wf l st
theorem prgQ_wf (l : List UInt8) : ∀ i ∈ (prgQ l).code, i.wf := codeQ_wf l _ _ [] (fun i hi => by cases hi)
theorem txtQ_back {l : List UInt8} {p q : Nat} (b : List UInt8) (h : At l p (blobL b) q) (hb : b.length ≤ 40) : txtQ l (p, false) = (b, (q, false)) := by
  obtain ⟨e1, e2⟩ := h.form
  have hg := getB_blob b (l.take p) (l.drop q) 40 (by omega) (by omega)
  rw [← e1, e2, ← h.2.2] at hg
  unfold txtQ
  simp only [hg]
  rw [if_neg (by simp)]
theorem insQ_back {l : List UInt8} {p q : Nat} {i : Ins} (h : At l p (insL i) q) (hw : i.wf) (ha : 0 ≤ i.a ∧ i.a ≤ 16) (hb : 0 ≤ i.b ∧ i.b ≤ 16) (hc : 0 ≤ i.c ∧ i.c ≤ 20) (hs : i.s.size ≤ 40) : brkQ l (p, false) = false ∧ insQ l (p, false) = i ∧ (q5 l (p, false)).2 = (q, false) := by
  obtain ⟨op, a, b, c, n, s⟩ := i
  unfold insL at h
  obtain ⟨h1, h⟩ := h.split
  obtain ⟨h2, h⟩ := h.split
  obtain ⟨h3, h⟩ := h.split
  obtain ⟨h4, h⟩ := h.split
  obtain ⟨h5, h6⟩ := h.split
  have hop := hw.op
  have hn := hw.n
  have e0 := numR_back (op : Int) 1000 h1 (by omega) (by simp only at hop; omega) (by omega)
  have e1 := numR_back a 1000 h2 ha.1 (by simp only at ha; omega) (by omega)
  have e2 := numR_back b 1000 h3 hb.1 (by simp only at hb; omega) (by omega)
  have e3 := numR_back c 1000 h4 hc.1 (by simp only at hc; omega) (by omega)
  have e6 := txtQ_back (nm s) h6 (by rw [nm_len]; exact hs)
  have hr := foldI_range n hn.1 hn.2
  have e5 : getU l (p + (U (op : Int)).length + (U a).length + (U b).length + (U c).length : Nat) = ((foldI n).toNat, p + (U (op : Int)).length + (U a).length + (U b).length + (U c).length + (U (foldI n)).length, 0) := by
    obtain ⟨m, hm⟩ := Int.eq_ofNat_of_zero_le hr.1
    simp only at h5
    rw [hm] at h5 ⊢
    obtain ⟨k1, k2⟩ := h5.form
    have hg := getU_U m (by omega) (l.take (p + (U (op : Int)).length + (U a).length + (U b).length + (U c).length)) (l.drop (p + (U (op : Int)).length + (U a).length + (U b).length + (U c).length + (U ((m : Nat) : Int)).length))
    rw [← k1, k2] at hg
    rw [hg]
    rfl
  have f0 := e0
  have f1 := (congrArg (fun x : Nat × RS => numR l 1000 x.2) f0).trans e1
  have f2 := (congrArg (fun x : Nat × RS => numR l 1000 x.2) f1).trans e2
  have f3 := (congrArg (fun x : Nat × RS => numR l 1000 x.2) f2).trans e3
  change q0 l (p, false) = _ at f0
  change q1 l (p, false) = _ at f1
  change q2 l (p, false) = _ at f2
  change q3 l (p, false) = _ at f3
  have f4 : (q3 l (p, false)).2.2 = false := by rw [f3]
  have f5 := (congrArg (fun x : Nat × RS => getU l x.2.1) f3).trans e5
  change getU l (q3 l (p, false)).2.1 = _ at f5
  have f6 := (congrArg (fun x : Nat × Nat × Nat => txtQ l (x.2.1, false)) f5).trans e6
  change q5 l (p, false) = _ at f6
  refine ⟨by unfold brkQ; rw [f4, f5]; rfl, ?_, by rw [f6]⟩
  unfold insQ
  rw [f0, f1, f2, f5, f6, f3]
  simp only at ha hb hc hop hn
  have hun : unfoldI (foldI n).toNat = n := by
    obtain ⟨m, hm⟩ := Int.eq_ofNat_of_zero_le hr.1
    rw [hm]
    show unfoldI m = n
    have := unfold_fold n
    rw [hm] at this
    exact this
  show (⟨op % 256, (a.toNat : Int), (b.toNat : Int), (c.toNat : Int), unfoldI (foldI n).toNat, ⟨(nm s).toArray⟩⟩ : Ins) = _
  rw [hun, mk_nm, Int.toNat_of_nonneg ha.1, Int.toNat_of_nonneg hb.1, Int.toNat_of_nonneg hc.1, Nat.mod_eq_of_lt hop]
theorem codeQ_back {l : List UInt8} (code : List Ins) {p q : Nat} (acc : List Ins) (h : At l p (codeL code) q) (hw : ∀ i ∈ code, i.wf ∧ (0 ≤ i.a ∧ i.a ≤ 16) ∧ (0 ≤ i.b ∧ i.b ≤ 16) ∧ (0 ≤ i.c ∧ i.c ≤ 20) ∧ i.s.size ≤ 40) :
    codeQ l code.length (p, false) acc = (acc ++ code, (q, false)) := by
  induction code generalizing p acc with
  | nil =>
    have : q = p := h.2.2
    rw [this]
    simp [codeQ]
  | cons i code ih =>
    have e : codeL (i :: code) = insL i ++ codeL code := by simp [codeL]
    rw [e] at h
    obtain ⟨h1, h2⟩ := h.split
    obtain ⟨w1, w2, w3, w4, w5⟩ := hw i (by simp)
    obtain ⟨e1, e2, e3⟩ := insQ_back h1 w1 w2 w3 w4 w5
    rw [List.length_cons, codeQ, if_neg (by simp), if_neg (by rw [e1]; simp), e2, e3]
    rw [ih (acc ++ [i]) h2 (fun j hj => hw j (by simp [hj]))]
    simp
theorem prgQ_back (p : Prg) (h : okP p 20 = true) (hw : ∀ i ∈ p.code, i.wf) : prgQ (bytesP p) = p ∧ (endQ (bytesP p)).2.2 = false := by
  have hok := h
  unfold okP at h
  simp only [Bool.and_eq_true, decide_eq_true_eq, List.all_eq_true] at h
  obtain ⟨⟨⟨⟨hn, hr⟩, hl⟩, he⟩, hi⟩ := h
  have hA := At.whole (bytesP p) []
  rw [List.append_nil] at hA
  obtain ⟨L, HL⟩ : ∃ L, L = bytesP p := ⟨_, rfl⟩
  rw [← HL] at hA ⊢
  obtain ⟨Q, HQ⟩ : ∃ Q, Q = L.length := ⟨_, rfl⟩
  have hA2 : At L 0 (bytesP p) Q := by rw [← HL, HQ]; exact hA
  clear hA HL HQ
  unfold bytesP headL at hA2
  obtain ⟨h1, h4⟩ := hA2.split
  obtain ⟨h1, h2⟩ := h1.split
  obtain ⟨h2, h3⟩ := h2.split
  have e1 := txtQ_back (nm p.name) h1 (by rw [nm_len]; exact hn.2)
  have e2 := numR_back p.regs 1000 h2 (by omega) (by omega) (by omega)
  have e3 := numR_back (p.code.length : Int) 1000 h3 (by omega) (by omega) (by omega)
  rw [Int.toNat_natCast] at e3
  have e4 := codeQ_back p.code [] h4 (fun i hm => by
    have := insB_range (hi i hm) hr.2
    exact ⟨hw i hm, this.1, this.2.1, this.2.2.1, this.2.2.2.1⟩)
  have f1 := e1
  have f2 := (congrArg (fun x : List UInt8 × RS => numR L 1000 x.2) f1).trans e2
  have f3 := (congrArg (fun x : Nat × RS => numR L 1000 x.2) f2).trans e3
  change nameQ L = _ at f1
  change regsQ L = _ at f2
  change cntQ L = _ at f3
  have f4 : endQ L = (p.code, (Q, false)) := by
    unfold endQ
    rw [f3]
    exact e4
  refine ⟨?_, by rw [f4]⟩
  unfold prgQ
  rw [f1, f2, f4]
  show (⟨⟨(nm p.name).toArray⟩, (p.regs.toNat : Int), p.code⟩ : Prg) = p
  rw [mk_nm, Int.toNat_of_nonneg (by omega)]
/-- both readings of any bytes are one -/
theorem readQ_eq (l : List UInt8) : readR l = if goodQ l = true then (prgQ l, 0) else (noP, 100) := by
  by_cases hg : goodQ l = true
  · rw [if_pos hg]
    unfold goodQ at hg
    simp only [Bool.and_eq_true, Bool.not_eq_true', decide_eq_true_eq] at hg
    obtain ⟨g1, g2, g3⟩ := hg
    have := read_bytes (prgQ l) g2 (prgQ_wf l)
    rw [g3] at this
    exact this
  · rw [if_neg hg]
    by_cases h0 : (readR l).2 = 0
    · exfalso
      obtain ⟨-, -, h3, h4, h5⟩ := read_inv l h0
      obtain ⟨k1, k2⟩ := prgQ_back _ h3 h5
      rw [h4] at k1 k2
      apply hg
      unfold goodQ
      rw [k2, k1, h3, decide_eq_true h4]
      rfl
    · unfold readR at h0 ⊢
      split
      · rename_i hh; rw [if_pos hh] at h0; exact absurd rfl h0
      · rfl
end Go.Proofs.YtpiiehenmkinaaaDoor
