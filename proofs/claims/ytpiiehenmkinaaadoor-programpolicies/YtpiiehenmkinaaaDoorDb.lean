/-
  What Check says as the number of policies changes. Own work, no walk.
-/
import Derived.Test.YtpiiehenmkinaaaDoorDa
namespace Go.Proofs.YtpiiehenmkinaaaDoor
open Go.RowKit

theorem fit_mono {regs places a b : Int} (h : a ≤ b) (l : Nat) (x : Int) (hf : fit regs places a l x = true) : fit regs places b l x = true := by
  unfold fit at hf ⊢
  by_cases h1 : l = 114
  · rw [if_pos h1] at hf ⊢; exact hf
  · rw [if_neg h1] at hf ⊢
    by_cases h2 : l = 106
    · rw [if_pos h2] at hf ⊢; exact hf
    · rw [if_neg h2] at hf ⊢
      by_cases h3 : l = 112
      · rw [if_pos h3, decide_eq_true_eq] at hf ⊢
        omega
      · rw [if_neg h3] at hf ⊢
        exact hf
theorem fits_mono {regs places a b : Int} (h : a ≤ b) (ls : List Nat) (xs : List Int) (hf : fits regs places a ls xs = true) : fits regs places b ls xs = true := by
  induction ls generalizing xs with
  | nil => cases xs <;> rfl
  | cons l ls ih =>
    cases xs with
    | nil => rfl
    | cons x xs =>
      rw [fits, Bool.and_eq_true] at hf ⊢
      exact ⟨fit_mono h l x hf.1, ih xs hf.2⟩
theorem okP_mono {p : Prg} {a b : Int} (h : a ≤ b) (hp : okP p a = true) : okP p b = true := by
  unfold okP at hp ⊢
  simp only [Bool.and_eq_true, decide_eq_true_eq, List.all_eq_true] at hp ⊢
  refine ⟨hp.1, fun i hi => ?_⟩
  have := hp.2 i hi
  unfold insB at this ⊢
  rw [Bool.and_eq_true] at this ⊢
  exact ⟨this.1, fits_mono h _ _ this.2⟩
theorem insB_pol {regs places M : Int} {i : Ins} (h : insB regs places M i = true) (pol : Int) : insB regs places pol i = (if i.op = 10 then decide (i.c < pol) else true) ∧ (i.op = 10 → 0 ≤ i.c ∧ i.c < M) := by
  obtain ⟨op, a, b, c, n, s⟩ := i
  unfold insB at h ⊢
  by_cases ho : op ≤ 16
  · have : op = 0 ∨ op = 1 ∨ op = 2 ∨ op = 3 ∨ op = 4 ∨ op = 5 ∨ op = 6 ∨ op = 7 ∨ op = 8 ∨ op = 9 ∨ op = 10 ∨ op = 11 ∨ op = 12 ∨ op = 13 ∨ op = 14 ∨ op = 15 ∨ op = 16 := by omega
    rcases this with rfl | rfl | rfl | rfl | rfl | rfl | rfl | rfl | rfl | rfl | rfl | rfl | rfl | rfl | rfl | rfl | rfl <;>
      simp [fields, fits, vals, fit] at h ⊢ <;> first | done | omega | simp_all
    all_goals first | done | omega
  · have : fields op = [] := by
      unfold fields
      split <;> first | rfl | omega
    rw [this] at h
    simp at h
def needW (z : Int) (i : Ins) : Int := if i.op = 10 then max z (wrap64 (i.c + 1)) else z
def needL (l : List Ins) : Int := l.foldl needW 0
theorem needL_succ (l : List Ins) (k : Nat) (hk : k < l.length) : needL (l.take (k + 1)) = needW (needL (l.take k)) l[k] := by
  unfold needL
  rw [List.take_succ_eq_append_getElem hk, List.foldl_append]
  rfl
theorem need_spec (l : List Ins) (M : Int) (hM : M ≤ 1048576) (z : Int) (hz : 0 ≤ z ∧ z ≤ M) (h : ∀ i ∈ l, i.op = 10 → 0 ≤ i.c ∧ i.c < M) :
    (0 ≤ l.foldl needW z ∧ l.foldl needW z ≤ M) ∧ z ≤ l.foldl needW z ∧ (∀ i ∈ l, i.op = 10 → i.c < l.foldl needW z) ∧ (l.foldl needW z = z ∨ ∃ i ∈ l, i.op = 10 ∧ i.c + 1 = l.foldl needW z) := by
  induction l generalizing z with
  | nil => exact ⟨hz, Int.le_refl _, (fun i hi => by cases hi), .inl rfl⟩
  | cons x t ih =>
    have hx := h x (by simp)
    have ht : ∀ i ∈ t, i.op = 10 → 0 ≤ i.c ∧ i.c < M := fun i hi => h i (by simp [hi])
    rw [List.foldl_cons]
    by_cases ho : x.op = 10
    · obtain ⟨h1, h2⟩ := hx ho
      have e : needW z x = max z (x.c + 1) := by
        unfold needW wrap64
        rw [if_pos ho]
        congr 1
        omega
      rw [e]
      obtain ⟨g1, g2, g3, g4⟩ := ih (max z (x.c + 1)) (by omega) ht
      refine ⟨g1, by omega, fun i hi hop => ?_, ?_⟩
      · rcases List.mem_cons.1 hi with rfl | hi
        · omega
        · exact g3 i hi hop
      · rcases g4 with g4 | ⟨i, hi, hop, hic⟩
        · by_cases hzx : z < x.c + 1
          · exact .inr ⟨x, by simp, ho, by rw [g4]; omega⟩
          · exact .inl (by rw [g4]; omega)
        · exact .inr ⟨i, by simp [hi], hop, hic⟩
    · have e : needW z x = z := by unfold needW; rw [if_neg ho]
      rw [e]
      obtain ⟨g1, g2, g3, g4⟩ := ih z hz ht
      refine ⟨g1, g2, fun i hi hop => ?_, ?_⟩
      · rcases List.mem_cons.1 hi with rfl | hi
        · exact absurd hop ho
        · exact g3 i hi hop
      · rcases g4 with g4 | ⟨i, hi, hop, hic⟩
        · exact .inl g4
        · exact .inr ⟨i, by simp [hi], hop, hic⟩
theorem okP_need {p : Prg} (h : okP p 1048576 = true) : okP p (needL p.code) = true ∧ (needL p.code ≠ 0 → okP p (needL p.code - 1) = false) ∧ 0 ≤ needL p.code ∧ needL p.code ≤ 1048576 := by
  have hin := (okP_in h).2.2.2.2
  obtain ⟨g1, -, g3, g4⟩ := need_spec p.code 1048576 (Int.le_refl _) 0 ⟨by omega, by omega⟩ (fun i hi hop => (insB_pol (hin i hi) 0).2 hop)
  have hn : p.code.foldl needW 0 = needL p.code := rfl
  rw [hn] at g1 g3 g4
  refine ⟨?_, fun hne => ?_, g1⟩
  · have hc := h
    unfold okP at hc ⊢
    simp only [Bool.and_eq_true, decide_eq_true_eq, List.all_eq_true] at hc ⊢
    refine ⟨hc.1, fun i hi => ?_⟩
    rw [(insB_pol (hin i hi) (needL p.code)).1]
    split
    · rename_i ho
      exact decide_eq_true (g3 i hi ho)
    · rfl
  · rcases g4 with g4 | ⟨i, hi, hop, hic⟩
    · exact absurd g4 hne
    · obtain ⟨k, hk, rfl⟩ := List.getElem_of_mem hi
      refine okP_no5 k hk ?_
      rw [(insB_pol (hin _ hi) (needL p.code - 1)).1, if_pos hop, decide_eq_false_iff_not]
      omega
theorem errP_ne {p : Prg} {pol : Int} : errP p pol = 0 ↔ okP p pol = true := by
  unfold errP
  cases okP p pol <;> simp
end Go.Proofs.YtpiiehenmkinaaaDoor
