/-
  Numbers move up by one place: plain lemmas, and the contract of closeUp. Own work.
-/
import Derived.Test.YtdbbdecmfnajiaaMh
namespace Go.Proofs.Ytdbbdecmfnajiaa
open Go.RowKit

def pos (first n i : Nat) : Nat := (first + i) % n
theorem pos_eq {first n i : Nat} (hf : first < n) (hi : i < n) : pos first n i = if first + i < n then first + i else first + i - n := by
  unfold pos
  split
  · exact Nat.mod_eq_of_lt ‹_›
  · rw [Nat.mod_eq_sub_mod (by omega), Nat.mod_eq_of_lt (by omega)]
theorem pos_ne {first n i j : Nat} (hf : first < n) (hi : i < n) (hj : j < n) (h : i ≠ j) : pos first n i ≠ pos first n j := by
  rw [pos_eq hf hi, pos_eq hf hj]
  split <;> split <;> omega
theorem pos_lt {first n i : Nat} (hn : 0 < n) : pos first n i < n := Nat.mod_lt _ hn

/-- how far the numbers have moved up behind k rounds -/
def Sh (f0 f : Nat → Int) (first n count : Nat) (x : Int) (k : Nat) (fnd : Bool) (gap : Nat) : Prop :=
  (fnd = false ∧ f = f0 ∧ ∀ i, i < k → f0 (pos first n i) ≠ x) ∨
  (fnd = true ∧ ∃ j, j < k ∧ f0 (pos first n j) = x ∧ (∀ i, i < j → f0 (pos first n i) ≠ x) ∧ gap = pos first n (k - 1) ∧ (∀ i, i < j → f (pos first n i) = f0 (pos first n i)) ∧
    (∀ i, j ≤ i → i + 1 < k → f (pos first n i) = f0 (pos first n (i + 1))) ∧ ∀ i, k ≤ i → i < count → f (pos first n i) = f0 (pos first n i))
theorem Sh.start (f : Nat → Int) (first n count : Nat) (x : Int) : Sh f f first n count x 0 false 0 := .inl ⟨rfl, rfl, fun i hi => by omega⟩
theorem Sh.not {f0 f : Nat → Int} {first n count k gap : Nat} {x : Int} (h : Sh f0 f first n count x k false gap) (hx : f (pos first n k) ≠ x) : Sh f0 f first n count x (k + 1) false gap := by
  rcases h with ⟨_, rfl, h⟩ | ⟨h, _⟩
  · refine .inl ⟨rfl, rfl, fun i hi => ?_⟩
    by_cases e : i = k
    · rw [e]; exact hx
    · exact h i (by omega)
  · cases h
theorem Sh.here {f0 f : Nat → Int} {first n count k gap : Nat} {x : Int} (h : Sh f0 f first n count x k false gap) (hx : f (pos first n k) = x) : Sh f0 f first n count x (k + 1) true (pos first n k) := by
  rcases h with ⟨_, rfl, h⟩ | ⟨h, _⟩
  · exact .inr ⟨rfl, k, by omega, hx, h, rfl, fun _ _ => rfl, fun i h1 h2 => by omega, fun _ _ _ => rfl⟩
  · cases h
theorem Sh.found {f0 f : Nat → Int} {first n count k gap : Nat} {x : Int} (h : Sh f0 f first n count x k true gap) (hf : first < n) (hk : k < count) (hc : count ≤ n) :
    gap < n ∧ gap ≠ pos first n k ∧ Sh f0 (setF f gap (f (pos first n k))) first n count x (k + 1) true (pos first n k) := by
  rcases h with ⟨h, _⟩ | ⟨_, j, h1, h2, h3, rfl, h4, h5, h6⟩
  · cases h
  · refine ⟨pos_lt (by omega), pos_ne hf (by omega) (by omega) (by omega), .inr ⟨rfl, j, by omega, h2, h3, rfl, fun i hi => ?_, fun i hi1 hi2 => ?_, fun i hi1 hi2 => ?_⟩⟩
    · unfold setF
      rw [if_neg (pos_ne hf (by omega) (by omega) (by omega))]
      exact h4 i hi
    · unfold setF
      by_cases e : i = k - 1
      · rw [e, if_pos rfl, h6 k (Nat.le_refl _) hk, show k - 1 + 1 = k by omega]
      · rw [if_neg (pos_ne hf (by omega) (by omega) e)]
        exact h5 i hi1 (by omega)
    · unfold setF
      rw [if_neg (pos_ne hf (by omega) (by omega) (by omega))]
      exact h6 i (by omega) hi2
theorem qL_pos (f : Nat → Int) (first n count i : Nat) (h : i < count) : (qL f first n count)[i]? = some (f (pos first n i)) := qL_get f first n count i h
theorem erase_at {L : List Int} {x : Int} (j : Nat) (hj : L[j]? = some x) (hn : ∀ i, i < j → L[i]? ≠ some x) : L.erase x = L.take j ++ L.drop (j + 1) := by
  induction L generalizing j with
  | nil => simp at hj
  | cons y t ih =>
    cases j with
    | zero =>
      simp at hj
      subst hj
      simp
    | succ j =>
      have h0 : y ≠ x := fun e => hn 0 (by omega) (by simp [e])
      rw [List.erase_cons_tail (by simpa using h0), List.take_succ_cons, List.drop_succ_cons, List.cons_append, ih j (by simpa using hj) fun i hi => by have := hn (i + 1) (by omega); simpa using this]
theorem Sh.out_no {f0 f : Nat → Int} {first n count gap : Nat} {x : Int} (h : Sh f0 f first n count x count false gap) : f = f0 ∧ x ∉ qL f0 first n count := by
  rcases h with ⟨_, rfl, h⟩ | ⟨h, _⟩
  · refine ⟨rfl, fun hx => ?_⟩
    obtain ⟨i, hi⟩ := List.mem_iff_getElem?.1 hx
    have hl : i < count := by
      have := (List.getElem?_eq_some_iff.1 hi).1
      rwa [qL_len] at this
    rw [qL_pos _ _ _ _ _ hl] at hi
    exact h i hl (Option.some.inj hi)
  · cases h
theorem Sh.out_yes {f0 f : Nat → Int} {first n count gap : Nat} {x : Int} (h : Sh f0 f first n count x count true gap) : x ∈ qL f0 first n count ∧ 0 < count ∧ qL f first n (count - 1) = (qL f0 first n count).erase x := by
  rcases h with ⟨h, _⟩ | ⟨_, j, h1, h2, h3, -, h4, h5, h6⟩
  · cases h
  · have hj : (qL f0 first n count)[j]? = some x := by rw [qL_pos _ _ _ _ _ h1, h2]
    refine ⟨List.mem_of_getElem? hj, by omega, ?_⟩
    rw [erase_at j hj fun i hi e => by
      rw [qL_pos _ _ _ _ _ (by omega)] at e
      exact h3 i hi (Option.some.inj e)]
    apply List.ext_getElem?
    intro i
    have hlen : (qL f0 first n count).length = count := qL_len _ _ _ _
    by_cases hi : i < count - 1
    · rw [qL_pos _ _ _ _ _ hi]
      by_cases hij : i < j
      · rw [List.getElem?_append_left (by rw [List.length_take]; omega), List.getElem?_take, if_pos hij, qL_pos _ _ _ _ _ (by omega), h4 i hij]
      · rw [List.getElem?_append_right (by rw [List.length_take]; omega), List.getElem?_drop, List.length_take, hlen, show j + 1 + (i - min j count) = i + 1 by omega, qL_pos _ _ _ _ _ (by omega), h5 i (by omega) (by omega)]
    · rw [List.getElem?_eq_none (by rw [qL_len]; omega), List.getElem?_eq_none (by rw [List.length_append, List.length_take, List.length_drop]; omega)]

/-- behind k numbers of closeUp -/
structure CI (w0 : World) (qb n first count : Nat) (pv : Value) (hdr : Obj) (f0 : Nat → Int) (x : Int) (b0 b1 b2 b3 k : Nat) (u : World) : Prop where
  chg : Chg (fun b => pv.ownBlock = some b) w0 u
  qh : u.heap[qb]? = some hdr
  h1 : u.heap[b1]? = some (.cells #[pv] 22 (0, 0))
  h3 : u.heap[b3]? = some (.cells #[.int .i64 x] 3 (0, 0))
  st : ∃ fnd gap f, u.heap[b0]? = some (.cells #[.bool fnd] 4 (0, 0)) ∧ u.heap[b2]? = some (.cells #[.int .i64 (gap : Nat)] 3 (0, 0)) ∧ Pl u pv n f ∧ Sh f0 f first n count x k fnd gap ∧ (fnd = false → Below w0.heap.size w0 u)

theorem CI.drew {w0 u : World} {qb n first count b0 b1 b2 b3 k : Nat} {pv : Value} {hdr : Obj} {f0 : Nat → Int} {x : Int} (h : CI w0 qb n first count pv hdr f0 x b0 b1 b2 b3 k u) (j : Nat) : CI w0 qb n first count pv hdr f0 x b0 b1 b2 b3 k (u.drewN j) := by
  obtain ⟨h1, h2, h3, h4, fnd, gap, f, h5, h6, h7, h8, h9⟩ := h
  exact ⟨⟨h1.os, h1.tape, h1.output, h1.size, h1.block⟩, h2, h3, h4, fnd, gap, f, h5, h6, h7.heap fun _ _ => rfl, h8, fun e => (h9 e).trans ((drewN_below u j).mono (h9 e).size)⟩

theorem CI.step {w0 u : World} {qb n first count b0 b1 b2 b3 k : Nat} {pv : Value} {hdr : Obj} {f0 : Nat → Int} {x : Int} (h : CI w0 qb n first count pv hdr f0 x b0 b1 b2 b3 k u) (hf : first < n) (hk : k < count) (hc : count ≤ n)
    (hq : pv.ownBlock ≠ some qb) (hq0 : qb < w0.heap.size) (hpv : ∀ a, pv.ownBlock = some a → a < w0.heap.size) (n0 : w0.heap.size ≤ b0) (n2 : w0.heap.size ≤ b2) (n3 : w0.heap.size ≤ b3) (h23 : b2 ≠ b3) :
    Calls Try.prog 82 #[.int .i64 ((first + k) % n : Nat), .pointer (some ⟨b0, 0, none⟩), .pointer (some ⟨b1, 0, none⟩), .pointer (some ⟨b2, 0, none⟩), .pointer (some ⟨b3, 0, none⟩)] u fun e u' => e = .returned (.tuple #[]) ∧ CI w0 qb n first count pv hdr f0 x b0 b1 b2 b3 (k + 1) u' := by
  obtain ⟨h1, hqh, hb1, hb3, fnd, gap, f, hb0, hb2, hpl, hsh, hno⟩ := h
  obtain ⟨g, rfl, hgl, hn2, hfz, hcell⟩ := hpl.at (by omega)
  have hg0 := hpv g rfl
  have hat : pos first n k < n := pos_lt (by omega)
  have h02 : b0 ≠ b2 := ne_of_elem hb0 hb2 (by decide)
  have h12 : b1 ≠ b2 := ne_of_elem hb1 hb2 (by decide)
  have h10 : b1 ≠ b0 := ne_of_elem hb1 hb0 (by decide)
  have h30 : b3 ≠ b0 := ne_of_elem hb3 hb0 (by decide)
  have h1g : b1 ≠ g := by
    obtain ⟨cur, hcu⟩ := hpl.elem g rfl
    exact ne_of_elem hb1 hcu (by decide)
  have hqg : qb ≠ g := fun e => hq (by rw [e]; rfl)
  have c0 : u.cell? ⟨b0, 0, none⟩ = some (.bool fnd) := by rw [cell_of hb0]; rfl
  have c1 : u.cell? ⟨b1, 0, none⟩ = some (.slice (some ⟨g, 0, none⟩) n n) := by rw [cell_of hb1]; rfl
  have c2 : u.cell? ⟨b2, 0, none⟩ = some (.int .i64 gap) := by rw [cell_of hb2]; rfl
  have c3 : u.cell? ⟨b3, 0, none⟩ = some (.int .i64 x) := by rw [cell_of hb3]; rfl
  cases fnd with
  | false =>
    by_cases hx : f (pos first n k) = x
    · refine (close_here c0 c1 ((hcell _ hat).trans (by rw [hx])) c3 c2 (frozen_of hb0 0) (frozen_of hb2 0) hat h02).mono ?_
      rintro e u' ⟨rfl, j, rfl⟩
      have a2 := heap_setCell_same u b2 0 _ 3 (.int .i64 (pos first n k)) hb2
      have a0 := heap_setCell_same (u.setCell ⟨b2, 0, none⟩ (.int .i64 (pos first n k))) b0 0 _ 4 (.bool true) ((Below.heap_setCell _ _ _ _ h02).trans hb0)
      have far : ∀ b, b ≠ b2 → b ≠ b0 → ((u.setCell ⟨b2, 0, none⟩ (.int .i64 (pos first n k))).setCell ⟨b0, 0, none⟩ (.bool true)).heap[b]? = u.heap[b]? := fun b e1 e2 => (Below.heap_setCell _ _ _ _ e2).trans (Below.heap_setCell _ _ _ _ e1)
      refine ⟨rfl, CI.drew ⟨(h1.setCell (p := ⟨b2, 0, none⟩) (.inr n2) _).setCell (p := ⟨b0, 0, none⟩) (.inr n0) _, (far qb (by omega) (by omega)).trans hqh, (far b1 h12 h10).trans hb1, (far b3 (Ne.symm h23) h30).trans hb3, true, pos first n k, f, by simpa using a0, ?_, hpl.heap fun a e => ?_, hsh.here hx, fun e => by cases e⟩ j⟩
      · rw [Below.heap_setCell _ _ _ _ (Ne.symm h02)]; simpa using a2
      · cases e; exact far g (by omega) (by omega)
    · refine (close_not c0 c1 (hcell _ hat) c3 hat hx).mono ?_
      rintro e u' ⟨rfl, j, rfl⟩
      exact ⟨rfl, CI.drew ⟨h1, hqh, hb1, hb3, false, gap, f, hb0, hb2, hpl, hsh.not hx, hno⟩ j⟩
  | true =>
    obtain ⟨g1, g2, g3⟩ := hsh.found hf hk hc
    refine (close_found c0 c1 c2 (hcell _ hat) (hcell _ g1) hfz (frozen_of hb2 0) hat g1 g2 h12 h1g (by omega)).mono ?_
    rintro e u' ⟨rfl, j, rfl⟩
    have hps := hpl.set gap g1 (f (pos first n k))
    have a2 := heap_setCell_same (u.setCell ⟨g, gap, none⟩ (.int .i64 (f (pos first n k)))) b2 0 _ 3 (.int .i64 (pos first n k)) ((Below.heap_setCell _ _ _ _ (by simp only; omega)).trans hb2)
    have far : ∀ b, b ≠ g → b ≠ b2 → ((u.setCell ⟨g, gap, none⟩ (.int .i64 (f (pos first n k)))).setCell ⟨b2, 0, none⟩ (.int .i64 (pos first n k))).heap[b]? = u.heap[b]? := fun b e1 e2 => (Below.heap_setCell _ _ _ _ e2).trans (Below.heap_setCell _ _ _ _ e1)
    refine ⟨rfl, CI.drew ⟨(h1.setCell (p := ⟨g, gap, none⟩) (.inl rfl) _).setCell (p := ⟨b2, 0, none⟩) (.inr n2) _, (far qb hqg (by omega)).trans hqh, (far b1 h1g h12).trans hb1, (far b3 (by omega) (Ne.symm h23)).trans hb3, true, pos first n k, _, ?_, ?_, hps.heap fun a e => ?_, g3, fun e => by cases e⟩ j⟩
    · exact (far b0 (by omega) h02).trans hb0
    · simpa using a2
    · cases e; exact Below.heap_setCell _ _ _ _ (by simp only; omega)

set_option maxRecDepth 100000 in
set_option maxHeartbeats 1600000 in
theorem closeUp_any {w : World} {qb n first count : Nat} {pv : Value} {most : Int} {f : Nat → Int} (h : Qm w qb pv most n first count f) (x : Int) :
    Calls Try.prog 66 #[pv, .func (.func 54) #[.pointer (some ⟨qb, 0, none⟩)] #[], .int .i64 x] w fun e w' => ∃ fnd gap g, e = .returned (.bool fnd) ∧ Chg (fun b => pv.ownBlock = some b) w w' ∧ Qm w' qb pv most n first count g ∧ Sh f g first n count x count fnd gap ∧ (fnd = false → Below w.heap.size w w') := by
  obtain ⟨hn2, hsh⟩ := h.pl.shape
  obtain ⟨b, HB⟩ := named w.heap.size
  obtain ⟨W, HW⟩ := named ((((w.alloc (.cells #[pv] 22)).alloc (.cells #[.int .i64 x] 3)).alloc (.cells #[.int .i64 0] 3)).alloc (.cells #[.bool false] 4))
  have hb : Below w.heap.size w W := by rw [HW.out]; exact (((((Below.refl _ _).alloc (Nat.le_refl _) _).alloc (by simp) _).alloc (by simp; omega) _).alloc (by simp; omega) _)
  have e1 : W.heap[w.heap.size]? = some (.cells #[pv] 22 (0, 0)) := by
    rw [HW.out, Below.heap_alloc _ _ _ (by simp <;> omega), Below.heap_alloc _ _ _ (by simp <;> omega), Below.heap_alloc _ _ _ (by simp)]; exact heap_new w _
  have e3 : W.heap[w.heap.size + 1]? = some (.cells #[.int .i64 x] 3 (0, 0)) := by
    rw [HW.out, Below.heap_alloc _ _ _ (by simp <;> omega), Below.heap_alloc _ _ _ (by simp)]
    have := heap_new (w.alloc (.cells #[pv] 22)) (.cells #[.int .i64 x] 3)
    simpa using this
  have e2 : W.heap[w.heap.size + 1 + 1]? = some (.cells #[.int .i64 0] 3 (0, 0)) := by
    rw [HW.out, Below.heap_alloc _ _ _ (by simp)]
    have := heap_new ((w.alloc (.cells #[pv] 22)).alloc (.cells #[.int .i64 x] 3)) (.cells #[.int .i64 0] 3)
    simpa using this
  have e0 : W.heap[w.heap.size + 1 + 1 + 1]? = some (.cells #[.bool false] 4 (0, 0)) := by
    rw [HW.out]
    have := heap_new (((w.alloc (.cells #[pv] 22)).alloc (.cells #[.int .i64 x] 3)).alloc (.cells #[.int .i64 0] 3)) (.cells #[.bool false] 4)
    simpa using this
  have hq := h.below hb
  have hci : CI w qb n first count pv (.cells #[.int .i64 most, pv, .int .i64 first, .int .i64 count] 93 (0, 0)) f x (w.heap.size + 1 + 1 + 1) w.heap.size (w.heap.size + 1 + 1) (w.heap.size + 1) 0 W :=
    ⟨Chg.ofBelow hb _, hq.cs, e1, e3, false, 0, f, e0, e2, hq.pl, Sh.start _ _ _ _ _, fun _ => hb⟩
  have kr := round82 (w.heap.size + 1 + 1 + 1) w.heap.size (w.heap.size + 1 + 1) (w.heap.size + 1) (CI w qb n first count pv (.cells #[.int .i64 most, pv, .int .i64 first, .int .i64 count] 93 (0, 0)) f x (w.heap.size + 1 + 1 + 1) w.heap.size (w.heap.size + 1 + 1) (w.heap.size + 1))
    ⟨h.le, fun h0 => by rcases h.fi with h1 | ⟨h1, h2⟩; exact h1; have := h.le; omega⟩ hn2 h.cm hsh hci (fun k u hk => hk.qh) (fun k u j hk => hk.drew j)
    (fun k u hk hI => hI.step (by rcases h.fi with h1 | ⟨h1, h2⟩; exact h1; have := h.le; omega) hk h.le h.row_ne (lt_of h.cs) (fun a e => h.pl.lt a e) (by omega) (by omega) (by omega) (by omega))
  obtain ⟨ao, rfl⟩ := hsh
  have HQ := hide h
  clear hb e0 e1 e2 e3 hq hci h
  go_enter Try.func66, Try.ntmps66
  go_wp2_with fail
  rw [← HW.out]
  (with_reducible refine Calls.mono kr ?_)
  clear kr
  rintro e u ⟨rfl, hc, hqh, -, -, fnd, gap, g, hb0, -, hpl, hs, hno⟩
  have HNO := hide hno
  have c0 : u.cell? ⟨w.heap.size + 1 + 1 + 1, 0, none⟩ = some (.bool fnd) := by rw [cell_of hb0]; rfl
  have HC := hide hc
  have HH := hide hqh
  have HPL := hide hpl
  have HS := hide hs
  clear hc hqh hb0 hpl hs hno
  go_wp2_with fail
  go_ret
  exact ⟨fnd, gap, g, rfl, HC.out, ⟨HH.out, HPL.out, HQ.out.fi, HQ.out.le, HQ.out.mo, HQ.out.cm⟩, HS.out, HNO.out⟩
end Go.Proofs.Ytdbbdecmfnajiaa
