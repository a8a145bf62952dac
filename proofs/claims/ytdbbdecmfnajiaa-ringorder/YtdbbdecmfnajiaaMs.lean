/-
  The contracts of has, takes; rings of which one queue alone is in use. Own work.
-/
import Derived.Test.YtdbbdecmfnajiaaMr
namespace Go.Proofs.Ytdbbdecmfnajiaa
open Go.RowKit Go.Sort

set_option maxRecDepth 100000 in
set_option maxHeartbeats 3200000 in
theorem has_r {w : World} {r : Value} {most : Int} {m : Nat} {A : PR} {F : Nat → Prop} (h : Rg w r most m A F) (s : ByteArray) (hs : s.size ≤ maxLen) {v : Value} {l : List Int} (hv : RdI w v l) (hl : l.length ≤ 1000000) :
    Calls Try.prog 29 #[r, .string s, v] w fun e w' => e = .returned (.bool (decide (lA A s = l))) ∧ Below w.heap.size w w' := by
  have kl := look_r h s hs
  have ka := fun u (hb : Below w.heap.size w u) => all_r (h.below hb) s hs
  have kn := fun u (hb : Below w.heap.size w u) => len_r (h.below hb) s hs
  have hcl := (h.cap s).1
  have KA := hide ka
  have KN := hide kn
  have HV := hide hv
  obtain ⟨ao, cap, rfl⟩ := hv.shape
  obtain ⟨rb, rfl⟩ := h.ptr
  clear h ka kn hv
  by_cases he : lA A s = l
  · rw [decide_eq_true he]
    cases l with
    | nil =>
      have hh : headA A s = (0, false) := by unfold headA; rw [he]
      rw [hh] at kl
      have HE := hide he
      clear he hh
      go_enter Try.func29, Try.ntmps29
      go_wp2_with fail
      (with_reducible refine Calls.mono kl ?_)
      clear kl
      rintro e u ⟨rfl, hb⟩
      have k2 := KA.out u hb
      have HB := hide hb
      clear hb
      go_wp2_with fail
      (with_reducible refine Calls.mono k2 ?_)
      clear k2
      rintro e u2 ⟨v2, rfl, ho, hb2⟩
      have hB2 := below_call HB.out hb2
      have k3 := sameInts_any ho.rd (HV.out.below hB2) (by rw [HE.out]; simp) hl
      rw [HE.out, decide_eq_true rfl] at k3
      have HB2 := hide hB2
      obtain ⟨ao2, c2, rfl⟩ := ho.shape
      clear hB2 hb2 ho
      go_wp2_with fail
      (with_reducible refine Calls.mono k3 ?_)
      clear k3
      rintro e u3 ⟨rfl, hb3⟩
      have hB3 := below_call HB2.out hb3
      have k4 := KN.out u3 hB3
      rw [HE.out] at k4
      have HB3 := hide hB3
      clear hB3 hb3
      go_wp2_with fail
      (with_reducible refine Calls.mono k4 ?_)
      clear k4
      rintro e u4 ⟨rfl, hb4⟩
      have HB4 := hide (below_call HB3.out hb4)
      clear hb4
      go_wp2_with fail
      go_ret
      exact ⟨rfl, HB4.out⟩
    | cons x t =>
      have hh : headA A s = (x, true) := by unfold headA; rw [he]
      rw [hh] at kl
      have HE := hide he
      obtain ⟨c, HC⟩ := named (x :: t).length
      have hc0 : 0 < c := by rw [HC.out, List.length_cons]; omega
      have hcI : (0 : Int) < (c : Int) := by omega
      rw [← HC.out]
      clear he hh
      go_enter Try.func29, Try.ntmps29
      go_wp2_with fail
      (with_reducible refine Calls.mono kl ?_)
      clear kl
      rintro e u ⟨rfl, hb⟩
      have k2 := KA.out u hb
      have HB := hide hb
      clear hb
      go_wp2_with fail
      (with_reducible refine Calls.mono k2 ?_)
      clear k2
      rintro e u2 ⟨v2, rfl, ho, hb2⟩
      have hB2 := below_call HB.out hb2
      have k3 := sameInts_any ho.rd (HV.out.below hB2) (by rw [HE.out]; exact hl) hl
      rw [HE.out, decide_eq_true rfl, ← HC.out] at k3
      have HB2 := hide hB2
      obtain ⟨ao2, c2, rfl⟩ := ho.shape
      clear hB2 hb2 ho
      go_wp2_with fail
      (with_reducible refine Calls.mono k3 ?_)
      clear k3
      rintro e u3 ⟨rfl, hb3⟩
      have hB3 := below_call HB2.out hb3
      have k4 := KN.out u3 hB3
      rw [HE.out, ← HC.out] at k4
      have HB3 := hide hB3
      clear hB3 hb3
      go_wp2_with fail
      (with_reducible refine Calls.mono k4 ?_)
      clear k4
      rintro e u4 ⟨rfl, hb4⟩
      have hB4 := below_call HB3.out hb4
      obtain ⟨b, off, hab, c0⟩ := (HV.out.below hB4).at 0 (by simp)
      subst hab
      simp only [Nat.add_zero, List.getElem_cons_zero] at c0
      have HB4 := hide hB4
      clear hB4 hb4
      go_wp2_with fail
      go_ret
      exact ⟨by simp, HB4.out⟩
  · rw [decide_eq_false he]
    have HE := hide he
    obtain ⟨h1, H1⟩ := named (headA A s).1
    obtain ⟨h2, H2⟩ := named (headA A s).2
    rw [← H1.out, ← H2.out] at kl
    obtain ⟨n, HN⟩ := named l.length
    rw [← HN.out]
    clear he
    go_enter Try.func29, Try.ntmps29
    go_wp2_with fail
    (with_reducible refine Calls.mono kl ?_)
    clear kl
    rintro e u ⟨rfl, hb⟩
    have k2 := KA.out u hb
    have HB := hide hb
    clear hb
    go_wp2_with fail
    (with_reducible refine Calls.mono k2 ?_)
    clear k2
    rintro e u2 ⟨v2, rfl, ho, hb2⟩
    have hB2 := below_call HB.out hb2
    have k3 := sameInts_any ho.rd (HV.out.below hB2) (by omega) hl
    rw [decide_eq_false HE.out, ← HN.out] at k3
    have HB2 := hide hB2
    obtain ⟨ao2, c2, rfl⟩ := ho.shape
    obtain ⟨p, HP⟩ := named (lA A s).length
    rw [← HP.out] at k3 ⊢
    clear hB2 hb2 ho
    go_wp2_with fail
    (with_reducible refine Calls.mono k3 ?_)
    clear k3
    rintro e u3 ⟨rfl, hb3⟩
    have HB3 := hide (below_call HB2.out hb3)
    clear hb3
    go_wp2_with fail
    go_ret
    exact ⟨rfl, HB3.out⟩

set_option maxRecDepth 100000 in
set_option maxHeartbeats 3200000 in
theorem takes_r {w : World} {r : Value} {most : Int} {m : Nat} {A : PR} {F : Nat → Prop} (h : Rg w r most m A F) (s : ByteArray) (hs : s.size ≤ maxLen) (x : Int) (ok : Bool) (hh : headA A s = (x, ok)) :
    Calls Try.prog 17 #[r, .string s, .int .i64 x, .bool ok] w fun e w' => e = .returned (.bool true) ∧ ∃ G, Rg w' r most (takeR most m A s).2 (takeR most m A s).1 G ∧ Step F w w' G := by
  have kt := take_r h s hs
  rw [hh] at kt
  obtain ⟨rb, rfl⟩ := h.ptr
  clear h hh
  go_enter Try.func17, Try.ntmps17
  go_wp2_with fail
  (with_reducible refine Calls.mono kt ?_)
  clear kt
  rintro e u ⟨rfl, hk⟩
  have HK := hide hk
  clear hk
  go_wp2_with fail
  go_ret
  exact ⟨by simp, HK.out⟩

/-- rings among new blocks: what lay below B is as it was -/
structure Rq (B : Nat) (w0 w : World) (r : Value) (most : Int) (m : Nat) (A : PR) (F : Nat → Prop) : Prop where
  rg : Rg w r most m A F
  new : ∀ b, F b → B ≤ b
  bel : Below B w0 w
  le : B ≤ w.heap.size
theorem Rq.below {B : Nat} {w0 w w' : World} {r : Value} {most : Int} {m : Nat} {A : PR} {F : Nat → Prop} (q : Rq B w0 w r most m A F) (hb : Below w.heap.size w w') : Rq B w0 w' r most m A F :=
  ⟨q.rg.below hb, q.new, q.bel.trans (hb.mono q.le), Nat.le_trans q.le hb.size⟩
theorem Rq.step {B : Nat} {w0 w w' : World} {r : Value} {most : Int} {m m' : Nat} {A A' : PR} {F G : Nat → Prop} (q : Rq B w0 w r most m A F) (hp : Rg w' r most m' A' G) (hs : Step F w w' G) : Rq B w0 w' r most m' A' G :=
  ⟨hp, fun b hb => (hs.new b hb).elim (q.new b) fun h => Nat.le_trans q.le h, q.bel.trans (hs.chg.below B q.new q.le), Nat.le_trans q.le hs.chg.size⟩

/-- one queue alone -/
def A1 (most : Int) (s : ByteArray) (c : Int) (L : List Int) : PR := setA (fun _ => none) s (keepO most c L)
def m1 (most c : Int) (L : List Int) : Nat := if (keepO most c L).isSome then 1 else 0
def S1 (w0 w : World) (r : Value) (most : Int) (s : ByteArray) (c : Int) (L : List Int) : Prop := ∃ F, Rq w0.heap.size w0 w r most (m1 most c L) (A1 most s c L) F
theorem A1_set (most : Int) (s : ByteArray) (c : Int) (L : List Int) (o : Option (Int × List Int)) : setA (A1 most s c L) s o = setA (fun _ => none) s o := by
  funext t; unfold A1 setA; by_cases e : t = s <;> simp [e]
theorem A1_l (most : Int) (s : ByteArray) (c : Int) (L : List Int) : lA (A1 most s c L) s = L := by
  unfold lA A1 setA keepO
  simp only [if_true]
  by_cases h : L = [] ∧ c = most
  · rw [if_pos h, h.1]
  · rw [if_neg h]
theorem A1_cap (most : Int) (s : ByteArray) (hs : right s) (c : Int) (L : List Int) : capA most (A1 most s c L) s = c := by
  unfold capA A1 setA keepO
  simp only [if_true]
  by_cases h : L = [] ∧ c = most
  · rw [if_pos h]; simp [hs, h.2]
  · rw [if_neg h]
theorem A1_m (most : Int) (s : ByteArray) (c c' : Int) (L L' : List Int) : keepN (A1 most s c L) s (keepO most c' L') (m1 most c L) = m1 most c' L' := by
  unfold keepN m1
  have : A1 most s c L s = keepO most c L := by unfold A1 setA; simp
  rw [this]
  cases (keepO most c L).isSome <;> cases (keepO most c' L').isSome <;> rfl
theorem A1_new (most : Int) (s : ByteArray) : (fun _ => none : PR) = A1 most s most [] := by
  funext t; unfold A1 setA keepO; by_cases e : t = s <;> simp [e]
theorem A1_none (most : Int) (s : ByteArray) (c : Int) (L : List Int) : ¬ (A1 most s c L s = none ∧ m1 most c L = 1000) := by
  rintro ⟨-, h⟩
  unfold m1 at h
  split at h <;> omega
theorem A1_names {most : Int} {s : ByteArray} {c : Int} {L : List Int} {N : List (List UInt8)} (h : NamesOf (A1 most s c L) N) : N = if L = [] then [] else [s.data.toList] := by
  have hm : ∀ t : ByteArray, t.data.toList ∈ N ↔ t = s ∧ L ≠ [] := fun t => by
    rw [h.mem t]
    by_cases e : t = s
    · subst e; rw [A1_l]; simp
    · have : lA (A1 most s c L) t = [] := by unfold lA A1 setA; simp [e]
      rw [this]; simp [e]
  have hl : ∀ x ∈ N, x = s.data.toList ∧ L ≠ [] := fun x hx => by
    have := (hm ⟨x.toArray⟩).1 (by simpa using hx)
    exact ⟨by rw [← this.1], this.2⟩
  split
  · rename_i hL
    cases N with
    | nil => rfl
    | cons x t => exact absurd hL (hl x List.mem_cons_self).2
  · rename_i hL
    have hin := (hm s).2 ⟨rfl, hL⟩
    cases N with
    | nil => cases hin
    | cons x t =>
      have hx := (hl x List.mem_cons_self).1
      subst hx
      cases t with
      | nil => rfl
      | cons y t =>
        have hy := (hl y (by simp)).1
        subst hy
        have := h.nd
        simp at this

section
variable {w0 w : World} {r : Value} {most c : Int} {s : ByteArray} {L : List Int}
theorem S1.new {w' : World} {F : Nat → Prop} (h : Rg w' r most 0 (fun _ => none) F) (hF : ∀ b, F b → w0.heap.size ≤ b) (hb : Below w0.heap.size w0 w') (s : ByteArray) : S1 w0 w' r most s most [] := by
  refine ⟨F, ?_, hF, hb, hb.size⟩
  rw [← A1_new]
  have : m1 most most [] = 0 := by unfold m1 keepO; simp
  rw [this]
  exact h
theorem S1.ptr (h : S1 w0 w r most s c L) : ∃ rb, r = .pointer (some ⟨rb, 0, none⟩) := by obtain ⟨F, h⟩ := h; exact h.rg.ptr
theorem S1.bel (h : S1 w0 w r most s c L) : Below w0.heap.size w0 w := by obtain ⟨F, h⟩ := h; exact h.bel
theorem S1.below {w' : World} (h : S1 w0 w r most s c L) (hb : Below w.heap.size w w') : S1 w0 w' r most s c L := by
  obtain ⟨F, h⟩ := h
  exact ⟨F, h.below hb⟩
theorem S1.put (h : S1 w0 w r most s c L) (hs : right s) (x : Int) (hl : (L.length : Int) < c) :
    Calls Try.prog 12 #[r, .string s, .int .i64 x] w fun e w' => e = .returned (.int .i64 0) ∧ S1 w0 w' r most s c (L ++ [x]) := by
  obtain ⟨F, h⟩ := h
  have hp : putR most (m1 most c L) (A1 most s c L) s x = (0, A1 most s c (L ++ [x]), m1 most c (L ++ [x])) := by
    unfold putR
    rw [if_neg (fun h => h hs), A1_l, A1_cap most s hs, if_neg (by omega), if_neg (A1_none most s c L), A1_set, A1_m]
    rfl
  have k := put_r h.rg s hs.max x
  rw [hp] at k
  refine k.mono ?_
  rintro e w' ⟨rfl, G, h1, h2⟩
  exact ⟨rfl, G, h.step h1 h2⟩
theorem S1.busy (h : S1 w0 w r most s c L) (hs : right s) (x : Int) (hl : c ≤ (L.length : Int)) :
    Calls Try.prog 12 #[r, .string s, .int .i64 x] w fun e w' => e = .returned (.int .i64 50) ∧ S1 w0 w' r most s c L := by
  obtain ⟨F, h⟩ := h
  have hp : putR most (m1 most c L) (A1 most s c L) s x = (50, A1 most s c L, m1 most c L) := by
    unfold putR
    rw [if_neg (fun h => h hs), A1_l, A1_cap most s hs, if_pos hl]
  have k := put_r h.rg s hs.max x
  rw [hp] at k
  refine k.mono ?_
  rintro e w' ⟨rfl, G, h1, h2⟩
  exact ⟨rfl, G, h.step h1 h2⟩
theorem S1.cap (h : S1 w0 w r most s c L) (hs : right s) (c' : Int) (hc : capOk c') :
    Calls Try.prog 13 #[r, .string s, .int .i64 c'] w fun e w' => e = .returned (.int .i64 0) ∧ S1 w0 w' r most s c' L := by
  obtain ⟨F, h⟩ := h
  have hp : capR most (m1 most c L) (A1 most s c L) s c' = (0, A1 most s c' L, m1 most c' L) := by
    unfold capR
    rw [if_neg (fun h => h ⟨hs, hc⟩), A1_l, if_neg (fun h => A1_none most s c L h.2), A1_set, A1_m]
    rfl
  have k := cap_r h.rg s hs.max c'
  rw [hp] at k
  refine k.mono ?_
  rintro e w' ⟨rfl, G, h1, h2⟩
  exact ⟨rfl, G, h.step h1 h2⟩
theorem S1.takes (h : S1 w0 w r most s c L) (hs : right s) {x : Int} {t : List Int} (hl : L = x :: t) :
    Calls Try.prog 17 #[r, .string s, .int .i64 x, .bool true] w fun e w' => e = .returned (.bool true) ∧ S1 w0 w' r most s c t := by
  obtain ⟨F, h⟩ := h
  have hp : takeR most (m1 most c L) (A1 most s c L) s = (A1 most s c t, m1 most c t) := by
    unfold takeR
    rw [A1_l, hl]
    simp only
    rw [← hl, A1_cap most s hs, A1_set, A1_m]
    rfl
  have k := takes_r h.rg s hs.max x true (by unfold headA; rw [A1_l, hl])
  rw [hp] at k
  refine k.mono ?_
  rintro e w' ⟨rfl, G, h1, h2⟩
  exact ⟨rfl, G, h.step h1 h2⟩
theorem S1.take (h : S1 w0 w r most s c L) (hs : right s) {x : Int} {t : List Int} (hl : L = x :: t) :
    Calls Try.prog 23 #[r, .string s] w fun e w' => e = .returned (.tuple #[.int .i64 x, .bool true]) ∧ S1 w0 w' r most s c t := by
  obtain ⟨F, h⟩ := h
  have hp : takeR most (m1 most c L) (A1 most s c L) s = (A1 most s c t, m1 most c t) := by
    unfold takeR
    rw [A1_l, hl]
    simp only
    rw [← hl, A1_cap most s hs, A1_set, A1_m]
    rfl
  have hh : headA (A1 most s c L) s = (x, true) := by unfold headA; rw [A1_l, hl]
  have k := take_r h.rg s hs.max
  rw [hp, hh] at k
  refine k.mono ?_
  rintro e w' ⟨rfl, G, h1, h2⟩
  exact ⟨rfl, G, h.step h1 h2⟩
theorem S1.drop (h : S1 w0 w r most s c L) (hs : right s) (x : Int) :
    Calls Try.prog 25 #[r, .string s, .int .i64 x] w fun e w' => e = .returned (.bool (decide (x ∈ L))) ∧ S1 w0 w' r most s c (L.erase x) := by
  obtain ⟨F, h⟩ := h
  have k := drop_r h.rg s hs.max x
  rw [A1_l] at k
  refine k.mono ?_
  rintro e w' ⟨rfl, G, h1, h2⟩
  refine ⟨rfl, G, h.step ?_ h2⟩
  unfold dropR at h1
  rw [A1_l, A1_cap most s hs] at h1
  by_cases hx : x ∈ L
  · rw [if_pos hx, A1_set, A1_m] at h1
    exact h1
  · rw [if_neg hx] at h1
    rw [List.erase_of_not_mem hx]
    exact h1
theorem S1.len (h : S1 w0 w r most s c L) (hs : right s) : Calls Try.prog 18 #[r, .string s] w fun e w' => e = .returned (.int .i64 L.length) ∧ S1 w0 w' r most s c L := by
  obtain ⟨F, h⟩ := h
  have k := len_r h.rg s hs.max
  rw [A1_l] at k
  refine k.mono ?_
  rintro e w' ⟨rfl, hb⟩
  exact ⟨rfl, F, h.below hb⟩
theorem S1.room (h : S1 w0 w r most s c L) (hs : right s) : Calls Try.prog 14 #[r, .string s] w fun e w' => e = .returned (.int .i64 (max (c - L.length) 0)) ∧ S1 w0 w' r most s c L := by
  obtain ⟨F, h⟩ := h
  have k := room_r h.rg s hs.max
  rw [A1_l, A1_cap most s hs] at k
  refine k.mono ?_
  rintro e w' ⟨rfl, hb⟩
  exact ⟨rfl, F, h.below hb⟩
theorem S1.has (h : S1 w0 w r most s c L) (hs : right s) {v : Value} {l : List Int} (hv : RdI w v l) (hl : l.length ≤ 1000000) : Calls Try.prog 29 #[r, .string s, v] w fun e w' => e = .returned (.bool (decide (L = l))) ∧ S1 w0 w' r most s c L ∧ Below w.heap.size w w' := by
  obtain ⟨F, h⟩ := h
  have k := has_r h.rg s hs.max hv hl
  rw [A1_l] at k
  refine k.mono ?_
  rintro e w' ⟨rfl, hb⟩
  exact ⟨rfl, ⟨F, h.below hb⟩, hb⟩
theorem S1.all (h : S1 w0 w r most s c L) (hs : right s) : Calls Try.prog 32 #[r, .string s] w fun e w' => ∃ v, e = .returned v ∧ OwnI w' w.heap.size v L ∧ S1 w0 w' r most s c L ∧ Below w.heap.size w w' := by
  obtain ⟨F, h⟩ := h
  have k := all_r h.rg s hs.max
  rw [A1_l] at k
  refine k.mono ?_
  rintro e w' ⟨v, rfl, ho, hb⟩
  exact ⟨v, rfl, ho, ⟨F, h.below hb⟩, hb⟩
theorem S1.names (h : S1 w0 w r most s c L) : Calls Try.prog 16 #[r] w fun e w' => ∃ v, e = .returned v ∧ OwnS w' w.heap.size v (if L = [] then [] else [s.data.toList]) ∧ S1 w0 w' r most s c L ∧ Below w.heap.size w w' := by
  obtain ⟨F, h⟩ := h
  refine (names_r h.rg).mono ?_
  rintro e w' ⟨v, N, rfl, ho, hn, -, hb⟩
  rw [← A1_names hn]
  exact ⟨v, rfl, ho, ⟨F, h.below hb⟩, hb⟩
end
end Go.Proofs.Ytdbbdecmfnajiaa
