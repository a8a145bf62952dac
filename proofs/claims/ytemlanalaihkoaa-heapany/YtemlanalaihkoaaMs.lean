/-
  filled, pops. Own work.
-/
import Derived.Test.YtemlanalaihkoaaMr
namespace Go.Proofs.Ytemlanalaihkoaa
open Go.RowKit Go.Sort

/-- timers laid in one after the other -/
def acc (l : List Tm) : List Tm := l.foldl (fun L x => insL x L) []
theorem acc_snoc (l : List Tm) (x : Tm) : acc (l ++ [x]) = insL x (acc l) := by simp [acc]
theorem acc_len (l : List Tm) : (acc l).length = l.length := by
  have h : ∀ (l L : List Tm), (l.foldl (fun L x => insL x L) L).length = L.length + l.length := by
    intro l
    induction l with
    | nil => intro L; simp
    | cons x r ih => intro L; rw [List.foldl_cons, ih, len_ins, List.length_cons]; omega
  have := h l []
  unfold acc
  simpa using this
theorem acc_take (l : List Tm) (k : Nat) (h : k < l.length) : acc (l.take (k + 1)) = insL l[k] (acc (l.take k)) := by rw [List.take_succ_eq_append_getElem h, acc_snoc]

/-- a heap among new blocks: what lay below B is as it was -/
structure Hq (B : Nat) (w0 w : World) (h : Value) (most : Nat) (L : List Tm) (F : Nat → Prop) : Prop where
  hp : Hp w h most L F
  new : ∀ b, F b → B ≤ b
  bel : Below B w0 w
  le : B ≤ w.heap.size
theorem Hq.below {B : Nat} {w0 w w' : World} {h : Value} {most : Nat} {L : List Tm} {F : Nat → Prop} (q : Hq B w0 w h most L F) (hb : Below w.heap.size w w') : Hq B w0 w' h most L F :=
  ⟨q.hp.below hb, q.new, q.bel.trans (hb.mono q.le), Nat.le_trans q.le hb.size⟩
theorem Hq.step {B : Nat} {w0 w w' : World} {h : Value} {most : Nat} {L L' : List Tm} {F G : Nat → Prop} (q : Hq B w0 w h most L F) (hp : Hp w' h most L' G) (hs : Step F w w' G) : Hq B w0 w' h most L' G :=
  ⟨hp, fun b hb => (hs.new b hb).elim (q.new b) fun h => Nat.le_trans q.le h, q.bel.trans (hs.chg.below B q.new q.le), Nat.le_trans q.le hs.chg.size⟩

set_option maxRecDepth 100000 in
set_option maxHeartbeats 1600000 in
theorem filled_any {w : World} {v : Value} {l : List Tm} (m : Nat) (h1 : 1 ≤ m) (h2 : m ≤ 65536) (hv : RdT w v l) (hlm : l.length ≤ m) (hr : ∀ x ∈ l, I64 x.1 ∧ I64 x.2) (hd : ∀ k (h : k < l.length), hasL l[k].2 (acc (l.take k)) = false) :
    Calls Try.prog 12 #[.int .i64 m, v] w fun e w' => ∃ h, e = .returned (.tuple #[h, .bool true]) ∧ ∃ F, Hq w.heap.size w w' h m (acc l) F := by
  have kn := new_any w m h1 h2
  have HV := hide hv
  obtain ⟨ao, cap, rfl⟩ := hv.shape
  obtain ⟨n, HN⟩ := named l.length
  rw [← HN.out] at hlm ⊢
  have HR := hide hr
  have HD := hide hd
  clear hv hr hd
  go_enter Try.func12, Try.ntmps12
  go_wp2_with fail
  (with_reducible refine Calls.mono kn ?_)
  clear kn
  rintro e w1 ⟨h, rfl, F, k1, k2, k3⟩
  have HQ : Hid (Hq w.heap.size w w1 h m (acc (l.take 0)) F) := ⟨k1, k2, k3, k3.size⟩
  obtain ⟨hb, hhe, -⟩ := k1.ne
  subst hhe
  clear k1 k2 k3
  go_wp2_with fail
  go_loopw [8, 9] (fun ok i wr => ∃ k F, k ≤ n ∧ ok = .bool true ∧ i = .int .i64 (k : Nat) ∧ Hid (Hq w.heap.size w wr (.pointer (some ⟨hb, 0, none⟩)) m (acc (l.take k)) F)) (fun _ i _ => n - (intOf i).toNat)
  case atStart => exact ⟨0, F, Nat.zero_le _, rfl, rfl, HQ⟩
  case round =>
    obtain ⟨k, F, hk, rfl, rfl, HK⟩ := hrel
    clear HQ
    by_cases hlt : k < n
    · have hl : k < l.length := by rw [← HN.out]; exact hlt
      obtain ⟨b, off, hab, a0, a1⟩ := (HV.out.below HK.out.bel).at k hl
      rw [HN.out] at HN
      cases hab
      have hkI : (k : Int) < (n : Int) := by omega
      have kp := put_ok HK.out.hp l[k] (HR.out _ (List.getElem_mem hl)) (HD.out k hl) (by rw [acc_len, List.length_take]; omega)
      rw [← acc_take l k hl] at kp
      obtain ⟨x0, HX0⟩ := named l[k].1
      obtain ⟨x1, HX1⟩ := named l[k].2
      simp only [← HX0.out, ← HX1.out] at a0 a1 kp
      go_wp2_with fail
      (with_reducible refine Calls.mono kp ?_)
      clear kp
      rintro e w2 ⟨rfl, G, g1, g2⟩
      have HK2 := hide (HK.out.step g1 g2)
      clear g1 g2
      go_wp2_with fail
      go_roundw
      case rel => exact ⟨k + 1, G, hlt, rfl, by go_num, HK2⟩
      case measure => simp [intOf]; omega
    · have hkn : k = n := by omega
      have HE : Hid (Hq w.heap.size w wr (.pointer (some ⟨hb, 0, none⟩)) m (acc l) F) := by
        have := HK.out
        rw [List.take_of_length_le (by rw [← HN.out]; omega)] at this
        exact this
      have hkI : ¬ (k : Int) < (n : Int) := by omega
      clear hkn HK
      go_wp2_with fail
      go_ret2
      exact ⟨_, rfl, F, HE.out⟩

set_option maxRecDepth 100000 in
set_option maxHeartbeats 1600000 in
theorem pops_yes {w : World} {h : Value} {most : Nat} {x : Tm} {L : List Tm} {F : Nat → Prop} (hp : Hp w h most (x :: L) F) :
    Calls Try.prog 39 #[h, .agg #[.int .i64 x.1, .int .i64 x.2], .bool true] w fun e w' => e = .returned (.bool true) ∧ Hp w' h most L F ∧ Step F w w' F := by
  obtain ⟨W, HW⟩ := named (w.alloc (.cells #[.int .i64 x.1, .int .i64 x.2] 30))
  have hB : Below w.heap.size w W := by rw [HW.out]; exact (Below.refl _ _).alloc (Nat.le_refl _) _
  have hC := C2.new w (.int .i64 x.1) (.int .i64 x.2) 30
  rw [← HW.out] at hC
  have kn := next_yes (hp.below hB)
  have HC := hide hC
  have HB := hide hB
  have HP := hide (hp.below hB)
  have hsub := hide hp.sub
  obtain ⟨hb, rfl, -⟩ := hp.ne
  obtain ⟨x0, x1⟩ := x
  clear hp hC hB
  go_enter Try.func39, Try.ntmps39
  go_wp2_with (rw [← HW.out])
  (with_reducible refine Calls.mono kn ?_)
  clear kn
  rintro e w1 ⟨rfl, hb1⟩
  obtain ⟨W2, HW2⟩ := named (w1.alloc (.cells #[.int .i64 x0, .int .i64 x1] 30))
  have hB2 : Below w1.heap.size w1 W2 := by rw [HW2.out]; exact (Below.refl _ _).alloc (Nat.le_refl _) _
  have hC2 := C2.new w1 (.int .i64 x0) (.int .i64 x1) 30
  rw [← HW2.out] at hC2
  have hp2 := (HP.out.below hb1).below hB2
  have kp := pop_yes hp2
  have HC2 := hide hC2
  have HC1 := hide ((HC.out.below hb1).below hB2)
  have HB2 := hide (below_call (below_call HB.out hb1) hB2)
  have HB1 := hide (below_call HB.out hb1)
  clear hp2 hC2 hB2 hb1 HP HC
  go_wp2_with (rw [← HW2.out])
  (with_reducible refine Calls.mono kp ?_)
  clear kp
  rintro e w3 ⟨rfl, q1, q2⟩
  have nF1 : ¬ F w.heap.size := fun hF => by have := hsub.out _ hF; omega
  have nF2 : ¬ F w1.heap.size := fun hF => by have := hsub.out _ hF; have := HB1.out.size; omega
  obtain ⟨W4, HW4⟩ := named (w3.alloc (.cells #[.int .i64 x0, .int .i64 x1] 30))
  have hB4 : Below w3.heap.size w3 W4 := by rw [HW4.out]; exact (Below.refl _ _).alloc (Nat.le_refl _) _
  have hC4 := C2.new w3 (.int .i64 x0) (.int .i64 x1) 30
  rw [← HW4.out] at hC4
  obtain ⟨-, a0, a1, -, -⟩ := (HC1.out.chg q2.chg nF1).below hB4
  obtain ⟨-, b0, b1, -, -⟩ := (HC2.out.chg q2.chg nF2).below hB4
  obtain ⟨-, c0, c1, -, -⟩ := hC4
  have HE : Hid (Hp W4 (.pointer (some ⟨hb, 0, none⟩)) most L F ∧ Step F w W4 F) := ⟨q1.below hB4, ((Step.below HB2.out).trans q2).trans (Step.below hB4)⟩
  clear q1 q2 hB4 HC1 HC2 HB2
  go_wp2_with (rw [← HW4.out])
  go_ret
  exact ⟨rfl, HE.out⟩
set_option maxRecDepth 100000 in
set_option maxHeartbeats 1600000 in
theorem pops_no {w : World} {h : Value} {most : Nat} {F : Nat → Prop} (hp : Hp w h most [] F) :
    Calls Try.prog 39 #[h, .agg #[.int .i64 0, .int .i64 0], .bool false] w fun e w' => e = .returned (.bool true) ∧ Below w.heap.size w w' := by
  obtain ⟨W, HW⟩ := named (w.alloc (.cells #[.int .i64 0, .int .i64 0] 30))
  have hB : Below w.heap.size w W := by rw [HW.out]; exact (Below.refl _ _).alloc (Nat.le_refl _) _
  have hC := C2.new w (.int .i64 0) (.int .i64 0) 30
  rw [← HW.out] at hC
  have kn := next_no (hp.below hB)
  have HC := hide hC
  have HB := hide hB
  have HP := hide (hp.below hB)
  obtain ⟨hb, rfl, -⟩ := hp.ne
  clear hp hC hB
  go_enter Try.func39, Try.ntmps39
  go_wp2_with (rw [← HW.out])
  (with_reducible refine Calls.mono kn ?_)
  clear kn
  rintro e w1 ⟨rfl, hb1⟩
  obtain ⟨W2, HW2⟩ := named (w1.alloc (.cells #[.int .i64 0, .int .i64 0] 30))
  have hB2 : Below w1.heap.size w1 W2 := by rw [HW2.out]; exact (Below.refl _ _).alloc (Nat.le_refl _) _
  have hC2 := C2.new w1 (.int .i64 0) (.int .i64 0) 30
  rw [← HW2.out] at hC2
  have kp := pop_no ((HP.out.below hb1).below hB2)
  have HC2 := hide hC2
  have HC1 := hide ((HC.out.below hb1).below hB2)
  have HB2 := hide (below_call (below_call HB.out hb1) hB2)
  clear hC2 hB2 hb1 HP HC
  go_wp2_with fail
  rw [← HW2.out]
  (with_reducible refine Calls.mono kp ?_)
  clear kp
  rintro e w3 ⟨rfl, q1⟩
  obtain ⟨W4, HW4⟩ := named (w3.alloc (.cells #[.int .i64 0, .int .i64 0] 30))
  have hB4 : Below w3.heap.size w3 W4 := by rw [HW4.out]; exact (Below.refl _ _).alloc (Nat.le_refl _) _
  have hC4 := C2.new w3 (.int .i64 0) (.int .i64 0) 30
  rw [← HW4.out] at hC4
  obtain ⟨-, a0, a1, -, -⟩ := (HC1.out.below q1).below hB4
  obtain ⟨-, b0, b1, -, -⟩ := (HC2.out.below q1).below hB4
  obtain ⟨-, c0, c1, -, -⟩ := hC4
  have HE := hide (below_call (below_call HB2.out q1) hB4)
  rw [HW4.out] at a0 a1 b0 b1 c0 c1
  clear q1 hB4 HC1 HC2 HB2
  go_wp2_with fail
  rw [← HW4.out]
  go_ret
  exact ⟨rfl, HE.out⟩
end Go.Proofs.Ytemlanalaihkoaa
