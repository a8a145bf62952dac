/-
  What stays so of a disk, whatever is done: plain lemmas, with no walk. Own work.
-/
import Derived.Test.YtloigepmmhcibaaPure
namespace Go.Proofs.Ytloigepmmhcibaa

theorem used_append (a b : List AF) : used (a ++ b) = used a + used b := by simp [used]
theorem used_cons (f : AF) (t : List AF) : used (f :: t) = f.bytes.length + used t := by simp [used]
theorem used_split (fs : List AF) (i : Nat) : used fs = used (fs.take i) + used (fs.drop i) := by rw [← used_append, List.take_append_drop]
theorem used_at (fs : List AF) (i : Nat) (h : i < fs.length) : used fs = used (fs.take i) + (fs[i].bytes.length + used (fs.drop (i + 1))) := by
  rw [used_split fs i, List.drop_eq_getElem_cons h, used_cons]

/-- files that a disk may have -/
structure good (most : Nat) (fs : List AF) : Prop where
  sorted : sorted fs
  safe : ∀ f ∈ fs, f.safe ≤ f.bytes.length
  room : used fs ≤ most
  many : fs.length ≤ 200

theorem AD.ok.good {D : AD} (h : D.ok) : good D.most D.files := ⟨h.sorted, h.safe, h.room, h.many⟩
theorem lookF_is {fs : List AF} {n : ByteArray} (h : isF fs n = true) : ∃ hl : posF fs n < fs.length, lookF fs n = fs[posF fs n] ∧ fs[posF fs n].name = n := by
  obtain ⟨hl, hn⟩ := isF_lt h
  refine ⟨hl, ?_, hn⟩
  unfold lookF
  rw [if_pos h, List.getD_eq_getElem?_getD, List.getElem?_eq_getElem hl]
  rfl
theorem lookF_no {fs : List AF} {n : ByteArray} (h : isF fs n = false) : lookF fs n = ⟨⟨#[]⟩, [], 0⟩ := by
  unfold lookF
  rw [if_neg (by rw [h]; simp)]
theorem putF_is {fs : List AF} {f : AF} (h : isF fs f.name = true) : putF fs f = fs.take (posF fs f.name) ++ f :: fs.drop (posF fs f.name + 1) := by
  unfold putF
  rw [if_pos h]
theorem putF_no {fs : List AF} {f : AF} (h : isF fs f.name = false) : putF fs f = fs.take (posF fs f.name) ++ f :: fs.drop (posF fs f.name) := by
  unfold putF
  rw [if_neg (by rw [h]; simp)]
theorem mem_putF {fs : List AF} {f x : AF} (h : x ∈ putF fs f) : x = f ∨ x ∈ fs := by
  unfold putF at h
  rcases List.mem_append.1 h with h | h
  · exact .inr (List.mem_of_mem_take h)
  · rcases List.mem_cons.1 h with h | h
    · exact .inl h
    · exact .inr (List.mem_of_mem_drop h)

theorem good_put_is {most : Nat} {fs : List AF} (h : good most fs) (f : AF) (hi : isF fs f.name = true) (hs : f.safe ≤ f.bytes.length) (hu : used fs + f.bytes.length ≤ most + (lookF fs f.name).bytes.length) : good most (putF fs f) := by
  obtain ⟨hl, hlook, hname⟩ := lookF_is hi
  refine ⟨sorted_putF h.sorted f, fun x hx => ?_, ?_, ?_⟩
  · rcases mem_putF hx with rfl | hx
    · exact hs
    · exact h.safe x hx
  · rw [putF_is hi, used_append, used_cons]
    have := used_at fs _ hl
    rw [hlook] at hu
    omega
  · rw [putF_is hi]
    have := h.many
    simp only [List.length_append, List.length_take, List.length_cons, List.length_drop]
    omega
theorem good_put_no {most : Nat} {fs : List AF} (h : good most fs) (f : AF) (hi : isF fs f.name = false) (hs : f.safe ≤ f.bytes.length) (hu : used fs + f.bytes.length ≤ most) (hl : fs.length < 200) : good most (putF fs f) := by
  have hp := posF_le fs f.name
  refine ⟨sorted_putF h.sorted f, fun x hx => ?_, ?_, ?_⟩
  · rcases mem_putF hx with rfl | hx
    · exact hs
    · exact h.safe x hx
  · rw [putF_no hi, used_append, used_cons]
    have := used_split fs (posF fs f.name)
    omega
  · rw [putF_no hi]
    simp only [List.length_append, List.length_take, List.length_cons, List.length_drop]
    omega
theorem good_drop {most : Nat} {fs : List AF} (h : good most fs) (i : Nat) : good most (dropF fs i) := by
  refine ⟨sorted_dropF h.sorted i, fun x hx => ?_, ?_, ?_⟩
  · unfold dropF at hx
    rcases List.mem_append.1 hx with hx | hx
    · exact h.safe x (List.mem_of_mem_take hx)
    · exact h.safe x (List.mem_of_mem_drop hx)
  · unfold dropF
    rw [used_append]
    have h1 := h.room
    by_cases hl : i < fs.length
    · have := used_at fs i hl
      omega
    · rw [List.take_of_length_le (by omega), List.drop_eq_nil_of_le (by omega)]
      simpa [used] using h1
  · unfold dropF
    have := h.many
    simp only [List.length_append, List.length_take, List.length_drop]
    omega
theorem dropF_used {fs : List AF} (i : Nat) (hl : i < fs.length) : used (dropF fs i) + fs[i].bytes.length = used fs ∧ (dropF fs i).length + 1 = fs.length := by
  unfold dropF
  rw [used_append]
  have := used_at fs i hl
  simp only [List.length_append, List.length_take, List.length_drop]
  omega

theorem look_safe {most : Nat} {fs : List AF} (h : good most fs) (n : ByteArray) : (lookF fs n).safe ≤ (lookF fs n).bytes.length := by
  cases hi : isF fs n with
  | false => rw [lookF_no hi]; simp
  | true =>
    obtain ⟨hl, hlook, _⟩ := lookF_is hi
    rw [hlook]
    exact h.safe _ (List.getElem_mem hl)
theorem look_used {fs : List AF} (n : ByteArray) : (lookF fs n).bytes.length ≤ used fs := by
  cases hi : isF fs n with
  | false => rw [lookF_no hi]; simp
  | true =>
    obtain ⟨hl, hlook, _⟩ := lookF_is hi
    rw [hlook]
    have := used_at fs _ hl
    omega

theorem good_sync {most : Nat} {fs : List AF} (h : good most fs) (n : ByteArray) (hi : isF fs n = true) : good most (syncF n fs) :=
  good_put_is h _ hi (Nat.le_refl _) (by have := h.room; simp only; omega)
theorem good_cut {most : Nat} {fs : List AF} (h : good most fs) (n : ByteArray) (k : Nat) (hi : isF fs n = true) (hk : k ≤ (lookF fs n).bytes.length) : good most (cutF n k fs) :=
  good_put_is h _ hi (by simp only [List.length_take]; omega) (by have := h.room; simp only [List.length_take]; omega)
theorem good_app {most : Nat} {fs : List AF} (h : good most fs) (n : ByteArray) (b : List UInt8) (hu : used fs + b.length ≤ most) (hm : isF fs n = false → fs.length < 200) : good most (appF n b fs) := by
  have hs := look_safe h n
  cases hi : isF fs n with
  | true => exact good_put_is h _ hi (by simp only [List.length_append]; omega) (by simp only [List.length_append]; omega)
  | false =>
    refine good_put_no h _ hi (by simp only [List.length_append]; omega) ?_ (hm hi)
    simp only [lookF_no hi, List.nil_append]
    exact hu
theorem good_ren {most : Nat} {fs : List AF} (h : good most fs) (a b : ByteArray) (hi : isF fs a = true) : good most (renF a b fs) := by
  obtain ⟨hl, hlook, hname⟩ := lookF_is hi
  have hs := look_safe h a
  obtain ⟨hd1, hd2⟩ := dropF_used (posF fs a) hl
  have hg := good_drop h (posF fs a)
  have hm := h.many
  have hr := h.room
  rw [hlook] at hs
  unfold renF
  rw [hlook]
  cases hj : isF (dropF fs (posF fs a)) b with
  | true => exact good_put_is hg _ hj hs (by simp only; omega)
  | false => exact good_put_no hg _ hj hs (by simp only; omega) (by omega)

theorem burn_ok {D : AD} (h : D.ok) (g : List AF → List AF) (hg : good D.most (g D.files)) : (burn D g).1.ok := by
  unfold burn
  have hf := h.fuse
  split
  · exact ⟨h.sorted, h.safe, h.room, h.most, h.many, by simp⟩
  · refine ⟨hg.sorted, hg.safe, hg.room, h.most, hg.many, ?_⟩
    simp only
    split <;> omega

theorem crash_len (f : AF) (k t : Int) (hs : f.safe ≤ f.bytes.length) : (crashF f k t).bytes.length ≤ f.bytes.length ∧ (crashF f k t).safe = (crashF f k t).bytes.length := by
  unfold crashF
  have h1 : keptN f k ≤ f.bytes.length := by unfold keptN; omega
  have h2 : keptN f k + noughtsN f k t ≤ f.bytes.length := by unfold noughtsN; omega
  simp only [List.length_append, List.length_take, List.length_replicate]
  omega
theorem crashL_get (ks ts : List Int) (fs : List AF) (i : Nat) (h : i < (crashL ks ts fs).length) : (crashL ks ts fs)[i] = crashF (fs[i]'(by simpa [crashL] using h)) (toldL ks i) (toldL ts i) := by
  simp [crashL]
theorem crashL_len (ks ts : List Int) (fs : List AF) : (crashL ks ts fs).length = fs.length := by simp [crashL]
theorem used_le_of (a b : List AF) (hl : a.length = b.length) (h : ∀ i (h1 : i < a.length) (h2 : i < b.length), a[i].bytes.length ≤ b[i].bytes.length) : used a ≤ used b := by
  induction a generalizing b with
  | nil => simp [used]
  | cons x t ih =>
    cases b with
    | nil => simp at hl
    | cons y u =>
      rw [used_cons, used_cons]
      have h0 := h 0 (by simp) (by simp)
      have h1 := ih u (by simpa using hl) (fun i h1 h2 => by
        have := h (i + 1) (by simpa using h1) (by simpa using h2)
        simpa using this)
      simp at h0
      omega
theorem good_crash {most : Nat} {fs : List AF} (h : good most fs) (ks ts : List Int) : good most (crashL ks ts fs) := by
  have hl := crashL_len ks ts fs
  refine ⟨?_, fun x hx => ?_, ?_, ?_⟩
  · unfold sorted
    rw [List.pairwise_iff_getElem]
    intro i j hi hj hij
    rw [crashL_get, crashL_get]
    exact sorted_lt h.sorted i j (by omega) hij
  · obtain ⟨i, hi, rfl⟩ := List.mem_iff_getElem.1 hx
    rw [crashL_get]
    have := (crash_len (fs[i]'(by omega)) (toldL ks i) (toldL ts i) (h.safe _ (List.getElem_mem _))).2
    omega
  · refine Nat.le_trans (used_le_of _ _ hl fun i h1 h2 => ?_) h.room
    rw [crashL_get]
    exact (crash_len _ _ _ (h.safe _ (List.getElem_mem _))).1
  · rw [hl]; exact h.many
theorem crash_ok {D : AD} (h : D.ok) (ks ts : List Int) : (crashD D ks ts).ok := by
  have hg := good_crash h.good ks ts
  exact ⟨hg.sorted, hg.safe, hg.room, h.most, hg.many, by simp [crashD]⟩
theorem new_ok (most : Nat) (h : most ≤ 16777216) : (newD most).ok := ⟨List.Pairwise.nil, (fun f hf => absurd hf List.not_mem_nil), (by simp [newD, used]), h, (by simp [newD]), (by simp [newD])⟩
theorem arm_ok {D : AD} (h : D.ok) (n : Int) (hn : n ≤ 9223372036854775807) : (armD D n).ok := by
  unfold armD
  split
  · exact h
  · exact ⟨h.sorted, h.safe, h.room, h.most, h.many, by simp only; omega⟩
theorem ok_append {D : AD} (h : D.ok) (n : ByteArray) (b : List UInt8) : (appendD D n b).1.ok := by
  unfold appendD
  split
  · exact h
  · split
    · exact h
    · split
      · exact h
      · rename_i hc
        have hm := h.many
        exact burn_ok h _ (good_app h.good n b (by omega) (fun hi => by
          rcases Nat.lt_or_ge D.files.length 200 with h1 | h1
          · exact h1
          · exact absurd (.inr ⟨hi, by omega⟩) hc))
end Go.Proofs.Ytloigepmmhcibaa
