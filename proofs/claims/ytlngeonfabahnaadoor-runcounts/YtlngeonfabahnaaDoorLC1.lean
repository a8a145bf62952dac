/-
  The pure side of RunCounts. Own work.
-/
import Derived.Test.YtlngeonfabahnaaDoorLF
import Derived.Test.YtlngeonfabahnaaDoorLt
import Derived.Test.YtlngeonfabahnaaDoorLO
namespace Go.Proofs.YtlngeonfabahnaaDoor
open Go Go.RowKit
set_option linter.unusedSimpArgs false
set_option linter.unusedVariables false

def oneS : ByteArray := ⟨#[111, 110, 101]⟩
def actC : Ins := ⟨10, 1, 0, 0, 0, oneS⟩
def trio (i : Nat) : List Ins := [⟨1, 2, 0, 0, (i : Int), ⟨#[]⟩⟩, ⟨13, 3, 2, 4, 0, ⟨#[]⟩⟩, ⟨3, 5, 5, 3, 0, ⟨#[]⟩⟩]
/-- the code behind k beginnings and m waits -/
def cod (k : Nat) : Nat → List Ins
  | 0 => List.replicate k actC
  | m + 1 => cod k m ++ trio (k - m)
def sumC (k : Nat) : List Ins := cod k k ++ [⟨15, 5, 0, 0, 0, ⟨#[]⟩⟩]
def sumP (k : Nat) : Prg := ⟨⟨#[115, 117, 109]⟩, 6, sumC k⟩
def valC (vs : List Int) (i : Nat) : Int := if i ≤ vs.length then vs.getD (i - 1) 0 else (i : Int)
def knwC (vs : List Int) (k : Nat) : Nat → List (Int × Oc)
  | 0 => []
  | m + 1 => knwC vs k m ++ [(((k - m : Nat) : Int), ((((k - m) % 3 : Nat) : Int), valC vs (k - m)))]
def wantC (vs : List Int) (k : Nat) : Nat → Int
  | 0 => 0
  | m + 1 => wr (wantC vs k m + valC vs (k - m))
def cmsC (j : Nat) : List Cm := (List.range j).map fun i => ⟨i + 1, 1, oneS, 9, 0⟩
theorem cms_len (j : Nat) : (cmsC j).length = j := by simp [cmsC]
theorem cms_succ (j : Nat) : cmsC (j + 1) = cmsC j ++ [⟨j + 1, 1, oneS, 9, 0⟩] := by simp [cmsC, List.range_succ]
theorem cms_at (j i : Nat) (h : i < (cmsC j).length) : (cmsC j)[i] = ⟨i + 1, 1, oneS, 9, 0⟩ := by simp [cmsC]
theorem cod_len (k m : Nat) : (cod k m).length = k + 3 * m := by
  induction m with
  | zero => simp [cod]
  | succ m ih => simp [cod, trio, ih]; omega
theorem knw_len (vs : List Int) (k m : Nat) : (knwC vs k m).length = m := by
  induction m with
  | zero => rfl
  | succ m ih => simp [knwC, ih]
theorem cod_pre (k m d : Nat) : cod k m <+: cod k (m + d) := by
  induction d with
  | zero => exact List.prefix_refl _
  | succ d ih => exact ih.trans (List.prefix_append _ _)
theorem sum_ok (k : Nat) (h : k ≤ 20) : okP (sumP k) 20 = true := by
  have : ∀ j : Fin 21, okP (sumP j.val) 20 = true := by decide +kernel
  exact this ⟨k, by omega⟩
theorem cod_wf (k m : Nat) (h : k ≤ 20) : ∀ i ∈ cod k m, i.wf := by
  induction m with
  | zero =>
    intro i hi
    obtain rfl := (List.mem_replicate.1 hi).2
    exact wf_small _ (by decide) (by decide) (by decide) (by decide) ir0 (by decide)
  | succ m ih =>
    intro i hi
    rcases List.mem_append.1 hi with hi | hi
    · exact ih i hi
    · simp only [trio, List.mem_cons, List.not_mem_nil, or_false] at hi
      rcases hi with rfl | rfl | rfl
      · exact wf_small _ (show (1 : Nat) < 256 by decide) (show (0 : Int) ≤ 2 ∧ (2 : Int) < 1000 by decide) (show (0 : Int) ≤ 0 ∧ (0 : Int) < 1000 by decide) (show (0 : Int) ≤ 0 ∧ (0 : Int) < 1000 by decide) ⟨by show _ ≤ ((k - m : Nat) : Int); omega, by show ((k - m : Nat) : Int) ≤ _; omega⟩ (show (0 : Nat) ≤ 1000 by decide)
      · exact wf_small _ (by decide) (by decide) (by decide) (by decide) ir0 (by decide)
      · exact wf_small _ (by decide) (by decide) (by decide) (by decide) ir0 (by decide)
theorem sum_wf (k : Nat) (h : k ≤ 20) : ∀ i ∈ sumC k, i.wf := by
  intro i hi
  rcases List.mem_append.1 hi with hi | hi
  · exact cod_wf k k h i hi
  · simp at hi
    subst hi
    exact wf_small _ (by decide) (by decide) (by decide) (by decide) ir0 (by decide)
theorem insAt_of {code pre post : List Ins} {x : Ins} (h : code = pre ++ x :: post) (n : Int) (hn : n = (pre.length : Nat)) : insAt code n = x := by
  subst h hn
  simp [insAt]
theorem at_act (k j : Nat) (h : j < k) : insAt (sumC k) (j : Int) = actC := by
  obtain ⟨post, hp⟩ := cod_pre k 0 k
  rw [Nat.zero_add] at hp
  have e : sumC k = List.replicate j actC ++ actC :: (List.replicate (k - j - 1) actC ++ (post ++ [⟨15, 5, 0, 0, 0, ⟨#[]⟩⟩])) := by
    unfold sumC
    rw [← hp]
    have : cod k 0 = List.replicate j actC ++ (actC :: List.replicate (k - j - 1) actC) := by
      show List.replicate k actC = _
      rw [← List.replicate_succ, List.replicate_append_replicate]
      congr 1; omega
    rw [this]
    simp
  exact insAt_of e _ (by simp)
theorem at_trio (k m : Nat) (h : m < k) : insAt (sumC k) ((k + 3 * m : Nat) : Int) = ⟨1, 2, 0, 0, ((k - m : Nat) : Int), ⟨#[]⟩⟩ ∧ insAt (sumC k) ((k + 3 * m + 1 : Nat) : Int) = ⟨13, 3, 2, 4, 0, ⟨#[]⟩⟩ ∧ insAt (sumC k) ((k + 3 * m + 2 : Nat) : Int) = ⟨3, 5, 5, 3, 0, ⟨#[]⟩⟩ := by
  obtain ⟨post, hp⟩ := cod_pre k (m + 1) (k - (m + 1))
  rw [show m + 1 + (k - (m + 1)) = k by omega] at hp
  have e : sumC k = cod k m ++ (trio (k - m) ++ (post ++ [⟨15, 5, 0, 0, 0, ⟨#[]⟩⟩])) := by
    unfold sumC
    rw [← hp]
    show (cod k m ++ trio (k - m)) ++ post ++ _ = _
    simp
  refine ⟨insAt_of (pre := cod k m) e _ (by rw [cod_len]), insAt_of (pre := cod k m ++ [⟨1, 2, 0, 0, ((k - m : Nat) : Int), ⟨#[]⟩⟩]) (by rw [e]; simp [trio]; rfl) _ (by simp [cod_len]), insAt_of (pre := cod k m ++ [⟨1, 2, 0, 0, ((k - m : Nat) : Int), ⟨#[]⟩⟩, ⟨13, 3, 2, 4, 0, ⟨#[]⟩⟩]) (by rw [e]; simp [trio]; rfl) _ (by simp [cod_len])⟩
theorem at_done (k : Nat) : insAt (sumC k) ((k + 3 * k : Nat) : Int) = ⟨15, 5, 0, 0, 0, ⟨#[]⟩⟩ := insAt_of (pre := cod k k) rfl _ (by rw [cod_len])

/-- how the run stands -/
structure CI (s : St) (n : Nat) (r : Int) (l : List Cm) : Prop where
  at_ : s.at_ = 0
  place : s.place = (n : Nat)
  r0 : s.regs 0 = 9
  r5 : s.regs 5 = r
  cmds : s.cmds = l
theorem setR_ne (r : Nat → Int) (k v : Int) (x : Nat) (h : ¬ x = k.toNat) : setR r k v x = r x := if_neg h
theorem it_one (kn : Int → Option Oc) (sg : List Int) (code : List Ins) (s : St) (h : s.at_ = 0) : it kn sg code 1 s = step kn sg code s := by
  rw [it, if_pos h, it]
theorem it_snoc (kn : Int → Option Oc) (sg : List Int) (code : List Ins) (n : Nat) (s : St) (h : (it kn sg code n s).at_ = 0) : it kn sg code (n + 1) s = step kn sg code (it kn sg code n s) := by
  rw [it_add, it_one _ _ _ _ h]
theorem ci_act (kn : Int → Option Oc) (k j : Nat) (h : j < k) (hk : k ≤ 20) (s : St) (hs : CI s j 0 (cmsC j)) : CI (step kn [] (sumC k) s) (j + 1) 0 (cmsC (j + 1)) := by
  obtain ⟨h0, h1, h2, h3, h4⟩ := hs
  have hi := at_act k j h
  have hl : ¬ s.cmds.length = 200 := by rw [h4, cms_len]; omega
  unfold step doI
  rw [h1, hi]
  show CI (cnt (beginI actC 1 (getR (s.go ((j : Int) + 1)) 0) (s.go ((j : Int) + 1)))) _ _ _
  unfold beginI
  rw [if_neg (by exact hl)]
  refine ⟨h0, by show ((j : Int) + 1) = _; omega, ?_, ?_, ?_⟩
  · exact (setR_ne s.regs 1 ((s.cmds.length + 1 : Nat) : Int) 0 (by decide)).trans h2
  · exact (setR_ne s.regs 1 ((s.cmds.length + 1 : Nat) : Int) 5 (by decide)).trans h3
  · show s.cmds ++ [⟨s.cmds.length + 1, 1, oneS, s.regs 0, 0⟩] = _
    rw [h4, h2, cms_len, cms_succ]
theorem ci_one (kn : Int → Option Oc) (k : Nat) (hk : k ≤ 20) (j : Nat) (hj : j ≤ k) : CI (it kn [] (sumC k) j (st0 9)) j 0 (cmsC j) := by
  induction j with
  | zero => exact ⟨rfl, rfl, rfl, rfl, rfl⟩
  | succ j ih =>
    have hi := ih (by omega)
    rw [it_snoc _ _ _ _ _ hi.at_]
    exact ci_act kn k j (by omega) hk _ hi
/-- the first of three -/
theorem ci_set (kn : Int → Option Oc) (k m : Nat) (h : m < k) (r : Int) (s : St) (hs : CI s (k + 3 * m) r (cmsC k)) : CI (step kn [] (sumC k) s) (k + 3 * m + 1) r (cmsC k) ∧ (step kn [] (sumC k) s).regs 2 = ((k - m : Nat) : Int) := by
  obtain ⟨h0, h1, h2, h3, h4⟩ := hs
  unfold step doI
  rw [h1, (at_trio k m h).1]
  refine ⟨⟨h0, by show (((k + 3 * m : Nat) : Int) + 1) = _; omega, ?_, ?_, h4⟩, rfl⟩
  · exact (setR_ne s.regs 2 ((k - m : Nat) : Int) 0 (by decide)).trans h2
  · exact (setR_ne s.regs 2 ((k - m : Nat) : Int) 5 (by decide)).trans h3
theorem ci_wait (kn : Int → Option Oc) (k m : Nat) (h : m < k) (r : Int) (s : St) (hs : CI s (k + 3 * m + 1) r (cmsC k)) (h2 : s.regs 2 = ((k - m : Nat) : Int)) :
    (∀ o, kn ((k - m : Nat) : Int) = some o → CI (step kn [] (sumC k) s) (k + 3 * m + 2) r (cmsC k) ∧ (step kn [] (sumC k) s).regs 3 = o.2) ∧
    (kn ((k - m : Nat) : Int) = none → (step kn [] (sumC k) s).at_ = 2 ∧ (step kn [] (sumC k) s).on = ((k - m : Nat) : Int)) := by
  obtain ⟨h0, h1, h20, h3, h4⟩ := hs
  unfold step doI
  rw [h1, (at_trio k m h).2.1]
  show (∀ o, _ → CI (cnt (waitI kn ⟨13, 3, 2, 4, 0, ⟨#[]⟩⟩ (s.go (((k + 3 * m + 1 : Nat) : Int) + 1)))) _ _ _ ∧ (cnt (waitI kn ⟨13, 3, 2, 4, 0, ⟨#[]⟩⟩ (s.go (((k + 3 * m + 1 : Nat) : Int) + 1)))).regs 3 = _) ∧ (_ → (cnt (waitI kn ⟨13, 3, 2, 4, 0, ⟨#[]⟩⟩ (s.go (((k + 3 * m + 1 : Nat) : Int) + 1)))).at_ = _ ∧ (cnt (waitI kn ⟨13, 3, 2, 4, 0, ⟨#[]⟩⟩ (s.go (((k + 3 * m + 1 : Nat) : Int) + 1)))).on = _)
  have hg : getR (s.go (((k + 3 * m + 1 : Nat) : Int) + 1)) 2 = ((k - m : Nat) : Int) := h2
  unfold waitI
  simp only [hg]
  rw [if_pos (show isCmd (s.go _) _ by
    refine ⟨by omega, ?_⟩
    show _ ≤ (s.cmds.length : Int)
    rw [h4, cms_len]; omega)]
  refine ⟨fun o ho => ?_, fun hn => ?_⟩
  · rw [ho]
    refine ⟨⟨h0, by show (((k + 3 * m + 1 : Nat) : Int) + 1) = _; omega, ?_, ?_, h4⟩, rfl⟩
    · exact (setR_ne (setR s.regs 3 o.2) 4 o.1 0 (by decide)).trans ((setR_ne s.regs 3 o.2 0 (by decide)).trans h20)
    · exact (setR_ne (setR s.regs 3 o.2) 4 o.1 5 (by decide)).trans ((setR_ne s.regs 3 o.2 5 (by decide)).trans h3)
  · rw [hn]
    exact ⟨rfl, rfl⟩
theorem ci_add (kn : Int → Option Oc) (k m : Nat) (h : m < k) (r v : Int) (s : St) (hs : CI s (k + 3 * m + 2) r (cmsC k)) (h3 : s.regs 3 = v) : CI (step kn [] (sumC k) s) (k + 3 * (m + 1)) (wr (r + v)) (cmsC k) := by
  obtain ⟨h0, h1, h20, h5, h4⟩ := hs
  unfold step doI
  rw [h1, (at_trio k m h).2.2]
  refine ⟨h0, by show (((k + 3 * m + 2 : Nat) : Int) + 1) = _; omega, ?_, ?_, h4⟩
  · exact (setR_ne s.regs 5 (wr (s.regs 5 + s.regs 3)) 0 (by decide)).trans h20
  · show setR s.regs 5 (wr (s.regs 5 + s.regs 3)) 5 = _
    unfold setR
    rw [if_pos (by decide), h5, h3]
theorem knw_none (vs : List Int) (k m : Nat) (hm : m ≤ k) (n : Int) (h : n ≤ ((k - m : Nat) : Int)) : knOf (knwC vs k m) n = none := by
  induction m with
  | zero => rfl
  | succ m ih =>
    rw [knwC, knOf_snoc, ih (by omega) (by omega)]
    show (if ((k - m : Nat) : Int) = n then _ else none) = none
    rw [if_neg (by omega)]
theorem knw_some (vs : List Int) (k M m : Nat) (hM : M ≤ k) (h : m < M) : knOf (knwC vs k M) ((k - m : Nat) : Int) = some ((((k - m) % 3 : Nat) : Int), valC vs (k - m)) := by
  induction M with
  | zero => omega
  | succ M ih =>
    rw [knwC, knOf_snoc]
    by_cases e : m = M
    · subst e
      rw [knw_none vs k m (by omega) _ (Int.le_refl _)]
      exact if_pos rfl
    · rw [ih (by omega) (by omega)]
theorem ci_two (vs : List Int) (k : Nat) (hk : k ≤ 20) (m : Nat) (hm : m ≤ k) : CI (it (knOf (knwC vs k k)) [] (sumC k) (k + 3 * m) (st0 9)) (k + 3 * m) (wantC vs k m) (cmsC k) := by
  induction m with
  | zero => exact ci_one _ k hk k (Nat.le_refl _)
  | succ m ih =>
    have h0 := ih (by omega)
    obtain ⟨h1, r1⟩ := ci_set (knOf (knwC vs k k)) k m (by omega) _ _ h0
    rw [← it_snoc _ _ _ _ _ h0.at_] at h1 r1
    obtain ⟨h2, r2⟩ := (ci_wait (knOf (knwC vs k k)) k m (by omega) _ _ h1 r1).1 _ (knw_some vs k k m (Nat.le_refl _) (by omega))
    rw [← it_snoc _ _ _ _ _ h1.at_] at h2 r2
    have h3 := ci_add (knOf (knwC vs k k)) k m (by omega) _ _ _ h2 r2
    rw [← it_snoc _ _ _ _ _ h2.at_] at h3
    exact h3
/-- the run that is told all -/
theorem sum_run (vs : List Int) (k : Nat) (hk : k ≤ 20) : ∃ s, runR (sumP k) 9 (knwC vs k k) [] 10000 = (s, 0) ∧ s.at_ = 1 ∧ s.ost = 0 ∧ s.ova = wantC vs k k ∧ s.cmds = cmsC k := by
  have h0 := ci_two vs k hk k (Nat.le_refl _)
  have e1 : it (knOf (knwC vs k k)) [] (sumC k) (k + 3 * k + 1) (st0 9) = endI 0 (wantC vs k k) { it (knOf (knwC vs k k)) [] (sumC k) (k + 3 * k) (st0 9) with place := ((k + 3 * k : Nat) : Int) + 1, steps := (it (knOf (knwC vs k k)) [] (sumC k) (k + 3 * k) (st0 9)).steps + 1 } := by
    rw [it_snoc _ _ _ _ _ h0.at_]
    unfold step doI
    rw [h0.place, at_done]
    show cnt (endI 0 (getR _ 5) _, true) = _
    rw [show getR ((it (knOf (knwC vs k k)) [] (sumC k) (k + 3 * k) (st0 9)).go (((k + 3 * k : Nat) : Int) + 1)) 5 = wantC vs k k from h0.r5]
    rfl
  have e2 : it (knOf (knwC vs k k)) [] (sumC k) 10000 (st0 9) = it (knOf (knwC vs k k)) [] (sumC k) (k + 3 * k + 1) (st0 9) := by
    rw [show (10000 : Nat) = (k + 3 * k + 1) + (10000 - (k + 3 * k + 1)) by omega, it_add, it_stood _ _ _ _ _ (by rw [e1]; show ¬ (1 : Nat) = 0; decide)]
  refine ⟨_, runR_good (sumP k) 9 _ _ 10000 (sum_ok k hk) (by omega), ?_⟩
  unfold runP
  show (fin (it _ _ (sumC k) 10000 _)).at_ = 1 ∧ (fin (it _ _ (sumC k) 10000 _)).ost = 0 ∧ (fin (it _ _ (sumC k) 10000 _)).ova = _ ∧ (fin (it _ _ (sumC k) 10000 _)).cmds = _
  rw [e2, e1]
  exact ⟨rfl, rfl, rfl, h0.cmds⟩
/-- the run that is not told the last -/
theorem sum_wait (l : List (Int × Oc)) (k : Nat) (hk : k ≤ 20) (h1 : 1 ≤ k) (hn : knOf l (k : Int) = none) : ∃ s, runR (sumP k) 9 l [] 10000 = (s, 0) ∧ s.at_ = 2 ∧ s.on = (k : Int) := by
  have h0 := ci_one (knOf l) k hk k (Nat.le_refl _)
  obtain ⟨h1', r1⟩ := ci_set (knOf l) k 0 (by omega) _ _ h0
  rw [← it_snoc _ _ _ _ _ h0.at_] at h1' r1
  obtain ⟨e1, e2⟩ := (ci_wait (knOf l) k 0 (by omega) _ _ h1' r1).2 (by simpa using hn)
  rw [← it_snoc _ _ _ _ _ h1'.at_] at e1 e2
  have e3 : it (knOf l) [] (sumC k) 10000 (st0 9) = it (knOf l) [] (sumC k) (k + 1 + 1) (st0 9) := by
    rw [show (10000 : Nat) = (k + 1 + 1) + (10000 - (k + 1 + 1)) by omega, it_add, it_stood _ _ _ _ _ (by rw [e1]; decide)]
  refine ⟨_, runR_good (sumP k) 9 _ _ 10000 (sum_ok k hk) (by omega), ?_⟩
  unfold runP
  show (fin (it _ _ (sumC k) 10000 _)).at_ = 2 ∧ (fin (it _ _ (sumC k) 10000 _)).on = _
  have e4 : fin (it (knOf l) [] (sumC k) (k + 1 + 1) (st0 9)) = it (knOf l) [] (sumC k) (k + 1 + 1) (st0 9) := by unfold fin; rw [if_neg (by rw [e1]; decide)]
  rw [e3, e4]
  exact ⟨e1, by rw [e2]; simp⟩
theorem knw_rest (vs : List Int) (k m : Nat) (hm : m ≤ k) (h : 1 ≤ k) : knOf ((knwC vs k m).drop 1) (k : Int) = none := by
  induction m with
  | zero => rfl
  | succ m ih =>
    cases m with
    | zero => rfl
    | succ m =>
      rw [knwC, List.drop_append_of_le_length (by rw [knw_len]; omega), knOf_snoc, ih (by omega)]
      show (if ((k - (m + 1) : Nat) : Int) = (k : Int) then _ else none) = none
      rw [if_neg (by omega)]
end Go.Proofs.YtlngeonfabahnaaDoor
