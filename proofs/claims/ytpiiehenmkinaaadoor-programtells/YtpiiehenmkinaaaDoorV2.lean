/-
  One of my texts, J2. Own work.
-/
import Derived.Test.YtpiiehenmkinaaaDoorU4
/-
  The independent reading's instr, Op by Op. Own work.
-/
namespace Go.Proofs.YtpiiehenmkinaaaDoor
open Go.RowKit

set_option maxRecDepth 100000 in
set_option maxHeartbeats 3200000 in
theorem refInstr_3 (name : ByteArray) (regs : Int) (ao : Option Addr) (m cap : Nat) (a b c n : Int) (s : ByteArray) (pol : Int) (w : World) :
    Calls Tryd.prog 40 #[.agg #[.string name, .int .i64 regs, .slice ao m cap], .agg #[.int .u8 3, .int .i64 a, .int .i64 b, .int .i64 c, .int .i64 n, .string s], .int .i64 pol] w fun e w' => e = .returned (.bool (insB regs m pol ⟨3, a, b, c, n, s⟩)) ∧ Below w.heap.size w w' := by
  have H0 := Two.new w name regs (.slice ao m cap) 3 a b c n s
  obtain ⟨W, HW⟩ := named ((w.alloc (.cells #[.string name, .int .i64 regs, .slice ao m cap] 24)).alloc (.cells #[.int .u8 3, .int .i64 a, .int .i64 b, .int .i64 c, .int .i64 n, .string s] 28))
  have HB := hide (show Below w.heap.size w W by rw [HW.out]; exact ((Below.refl _ _).alloc (Nat.le_refl _) _).alloc (by simp) _)
  rw [← HW.out] at H0
  have HT := hide H0
  clear H0
  obtain ⟨R, HR⟩ := named (insB regs m pol ⟨3, a, b, c, n, s⟩)
  have HE : Hid (R = insB regs m pol ⟨3, a, b, c, n, s⟩) := HR
  rw [← HR.out]
  by_cases hn : 0 ≤ n
  · skip
    obtain ⟨-, q0, q1, q2, q3, q4, q5, q6, q7, q8⟩ := id HT.out
    rw [HW.out] at q0 q1 q2 q3 q4 q5 q6 q7 q8
    go_enter Tryd.func40, Tryd.ntmps40
    go_wp2_with fail
    rw [← HW.out]
    refine (refReg_any name regs (.slice ao m cap) a _).mono ?_
    rintro e u0 ⟨rfl, hu0⟩
    have hb0 : Below W.heap.size W u0 := by rw [hu0]; exact (Below.refl _ _).alloc (Nat.le_refl _) _
    have HB0 := hide (below_call HB.out hb0)
    have HT0 := hide (HT.out.below hb0)
    clear q0 q1 q2 q3 q4 q5 q6 q7 q8
    obtain ⟨-, q0, q1, q2, q3, q4, q5, q6, q7, q8⟩ := id HT0.out
    clear hu0 hb0
    by_cases h0 : 0 ≤ a ∧ a < regs
    · rw [decide_eq_true h0]
      go_wp2_with fail
      refine (refReg_any name regs (.slice ao m cap) b _).mono ?_
      rintro e u1 ⟨rfl, hu1⟩
      have hb1 : Below u0.heap.size u0 u1 := by rw [hu1]; exact (Below.refl _ _).alloc (Nat.le_refl _) _
      have HB1 := hide (below_call HB0.out hb1)
      have HT1 := hide (HT0.out.below hb1)
      clear q0 q1 q2 q3 q4 q5 q6 q7 q8
      obtain ⟨-, q0, q1, q2, q3, q4, q5, q6, q7, q8⟩ := id HT1.out
      clear hu1 hb1
      by_cases h1 : 0 ≤ b ∧ b < regs
      · rw [decide_eq_true h1]
        go_wp2_with fail
        refine (refReg_any name regs (.slice ao m cap) c _).mono ?_
        rintro e u2 ⟨rfl, hu2⟩
        have hb2 : Below u1.heap.size u1 u2 := by rw [hu2]; exact (Below.refl _ _).alloc (Nat.le_refl _) _
        have HB2 := hide (below_call HB1.out hb2)
        have HT2 := hide (HT1.out.below hb2)
        clear q0 q1 q2 q3 q4 q5 q6 q7 q8
        obtain ⟨-, q0, q1, q2, q3, q4, q5, q6, q7, q8⟩ := id HT2.out
        clear hu2 hb2
        by_cases h2 : 0 ≤ c ∧ c < regs
        · rw [decide_eq_true h2]
          by_cases h3 : n = 0
          · have g3 := h3
            by_cases h4 : s.size = 0
            · have g4 := str_nil_b s h4
              go_wp2
              go_ret
              exact ⟨ret_bool (by rw [HE.out]; symm; simp [insB, fields, vals, fits, fit]; omega), HB2.out⟩
            · have g4 := str_nil_nb s h4
              go_wp2
              go_ret
              exact ⟨ret_bool (by rw [HE.out]; symm; rw [Bool.eq_false_iff]; intro hh; simp [insB, fields, vals, fits, fit] at hh; omega), HB2.out⟩
          · skip
            go_wp2
            go_ret
            exact ⟨ret_bool (by rw [HE.out]; symm; rw [Bool.eq_false_iff]; intro hh; simp [insB, fields, vals, fits, fit] at hh; omega), HB2.out⟩
        · rw [decide_eq_false h2]
          go_wp2
          go_ret
          exact ⟨ret_bool (by rw [HE.out]; symm; rw [Bool.eq_false_iff]; intro hh; simp [insB, fields, vals, fits, fit] at hh; omega), HB2.out⟩
      · rw [decide_eq_false h1]
        go_wp2
        go_ret
        exact ⟨ret_bool (by rw [HE.out]; symm; rw [Bool.eq_false_iff]; intro hh; simp [insB, fields, vals, fits, fit] at hh; omega), HB1.out⟩
    · rw [decide_eq_false h0]
      go_wp2
      go_ret
      exact ⟨ret_bool (by rw [HE.out]; symm; rw [Bool.eq_false_iff]; intro hh; simp [insB, fields, vals, fits, fit] at hh; omega), HB0.out⟩
  · skip
    obtain ⟨-, q0, q1, q2, q3, q4, q5, q6, q7, q8⟩ := id HT.out
    rw [HW.out] at q0 q1 q2 q3 q4 q5 q6 q7 q8
    go_enter Tryd.func40, Tryd.ntmps40
    go_wp2_with fail
    rw [← HW.out]
    refine (refReg_any name regs (.slice ao m cap) a _).mono ?_
    rintro e u0 ⟨rfl, hu0⟩
    have hb0 : Below W.heap.size W u0 := by rw [hu0]; exact (Below.refl _ _).alloc (Nat.le_refl _) _
    have HB0 := hide (below_call HB.out hb0)
    have HT0 := hide (HT.out.below hb0)
    clear q0 q1 q2 q3 q4 q5 q6 q7 q8
    obtain ⟨-, q0, q1, q2, q3, q4, q5, q6, q7, q8⟩ := id HT0.out
    clear hu0 hb0
    by_cases h0 : 0 ≤ a ∧ a < regs
    · rw [decide_eq_true h0]
      go_wp2_with fail
      refine (refReg_any name regs (.slice ao m cap) b _).mono ?_
      rintro e u1 ⟨rfl, hu1⟩
      have hb1 : Below u0.heap.size u0 u1 := by rw [hu1]; exact (Below.refl _ _).alloc (Nat.le_refl _) _
      have HB1 := hide (below_call HB0.out hb1)
      have HT1 := hide (HT0.out.below hb1)
      clear q0 q1 q2 q3 q4 q5 q6 q7 q8
      obtain ⟨-, q0, q1, q2, q3, q4, q5, q6, q7, q8⟩ := id HT1.out
      clear hu1 hb1
      by_cases h1 : 0 ≤ b ∧ b < regs
      · rw [decide_eq_true h1]
        go_wp2_with fail
        refine (refReg_any name regs (.slice ao m cap) c _).mono ?_
        rintro e u2 ⟨rfl, hu2⟩
        have hb2 : Below u1.heap.size u1 u2 := by rw [hu2]; exact (Below.refl _ _).alloc (Nat.le_refl _) _
        have HB2 := hide (below_call HB1.out hb2)
        have HT2 := hide (HT1.out.below hb2)
        clear q0 q1 q2 q3 q4 q5 q6 q7 q8
        obtain ⟨-, q0, q1, q2, q3, q4, q5, q6, q7, q8⟩ := id HT2.out
        clear hu2 hb2
        by_cases h2 : 0 ≤ c ∧ c < regs
        · rw [decide_eq_true h2]
          have h3 : ¬ n = 0 := by omega
          go_wp2
          go_ret
          exact ⟨ret_bool (by rw [HE.out]; symm; rw [Bool.eq_false_iff]; intro hh; simp [insB, fields, vals, fits, fit] at hh; omega), HB2.out⟩
        · rw [decide_eq_false h2]
          go_wp2
          go_ret
          exact ⟨ret_bool (by rw [HE.out]; symm; rw [Bool.eq_false_iff]; intro hh; simp [insB, fields, vals, fits, fit] at hh; omega), HB2.out⟩
      · rw [decide_eq_false h1]
        go_wp2
        go_ret
        exact ⟨ret_bool (by rw [HE.out]; symm; rw [Bool.eq_false_iff]; intro hh; simp [insB, fields, vals, fits, fit] at hh; omega), HB1.out⟩
    · rw [decide_eq_false h0]
      go_wp2
      go_ret
      exact ⟨ret_bool (by rw [HE.out]; symm; rw [Bool.eq_false_iff]; intro hh; simp [insB, fields, vals, fits, fit] at hh; omega), HB0.out⟩
set_option maxRecDepth 100000 in
set_option maxHeartbeats 3200000 in
theorem refInstr_4 (name : ByteArray) (regs : Int) (ao : Option Addr) (m cap : Nat) (a b c n : Int) (s : ByteArray) (pol : Int) (w : World) :
    Calls Tryd.prog 40 #[.agg #[.string name, .int .i64 regs, .slice ao m cap], .agg #[.int .u8 4, .int .i64 a, .int .i64 b, .int .i64 c, .int .i64 n, .string s], .int .i64 pol] w fun e w' => e = .returned (.bool (insB regs m pol ⟨4, a, b, c, n, s⟩)) ∧ Below w.heap.size w w' := by
  have H0 := Two.new w name regs (.slice ao m cap) 4 a b c n s
  obtain ⟨W, HW⟩ := named ((w.alloc (.cells #[.string name, .int .i64 regs, .slice ao m cap] 24)).alloc (.cells #[.int .u8 4, .int .i64 a, .int .i64 b, .int .i64 c, .int .i64 n, .string s] 28))
  have HB := hide (show Below w.heap.size w W by rw [HW.out]; exact ((Below.refl _ _).alloc (Nat.le_refl _) _).alloc (by simp) _)
  rw [← HW.out] at H0
  have HT := hide H0
  clear H0
  obtain ⟨R, HR⟩ := named (insB regs m pol ⟨4, a, b, c, n, s⟩)
  have HE : Hid (R = insB regs m pol ⟨4, a, b, c, n, s⟩) := HR
  rw [← HR.out]
  by_cases hn : 0 ≤ n
  · skip
    obtain ⟨-, q0, q1, q2, q3, q4, q5, q6, q7, q8⟩ := id HT.out
    rw [HW.out] at q0 q1 q2 q3 q4 q5 q6 q7 q8
    go_enter Tryd.func40, Tryd.ntmps40
    go_wp2_with fail
    rw [← HW.out]
    refine (refReg_any name regs (.slice ao m cap) a _).mono ?_
    rintro e u0 ⟨rfl, hu0⟩
    have hb0 : Below W.heap.size W u0 := by rw [hu0]; exact (Below.refl _ _).alloc (Nat.le_refl _) _
    have HB0 := hide (below_call HB.out hb0)
    have HT0 := hide (HT.out.below hb0)
    clear q0 q1 q2 q3 q4 q5 q6 q7 q8
    obtain ⟨-, q0, q1, q2, q3, q4, q5, q6, q7, q8⟩ := id HT0.out
    clear hu0 hb0
    by_cases h0 : 0 ≤ a ∧ a < regs
    · rw [decide_eq_true h0]
      go_wp2_with fail
      refine (refReg_any name regs (.slice ao m cap) b _).mono ?_
      rintro e u1 ⟨rfl, hu1⟩
      have hb1 : Below u0.heap.size u0 u1 := by rw [hu1]; exact (Below.refl _ _).alloc (Nat.le_refl _) _
      have HB1 := hide (below_call HB0.out hb1)
      have HT1 := hide (HT0.out.below hb1)
      clear q0 q1 q2 q3 q4 q5 q6 q7 q8
      obtain ⟨-, q0, q1, q2, q3, q4, q5, q6, q7, q8⟩ := id HT1.out
      clear hu1 hb1
      by_cases h1 : 0 ≤ b ∧ b < regs
      · rw [decide_eq_true h1]
        go_wp2_with fail
        refine (refReg_any name regs (.slice ao m cap) c _).mono ?_
        rintro e u2 ⟨rfl, hu2⟩
        have hb2 : Below u1.heap.size u1 u2 := by rw [hu2]; exact (Below.refl _ _).alloc (Nat.le_refl _) _
        have HB2 := hide (below_call HB1.out hb2)
        have HT2 := hide (HT1.out.below hb2)
        clear q0 q1 q2 q3 q4 q5 q6 q7 q8
        obtain ⟨-, q0, q1, q2, q3, q4, q5, q6, q7, q8⟩ := id HT2.out
        clear hu2 hb2
        by_cases h2 : 0 ≤ c ∧ c < regs
        · rw [decide_eq_true h2]
          by_cases h3 : n = 0
          · have g3 := h3
            by_cases h4 : s.size = 0
            · have g4 := str_nil_b s h4
              go_wp2
              go_ret
              exact ⟨ret_bool (by rw [HE.out]; symm; simp [insB, fields, vals, fits, fit]; omega), HB2.out⟩
            · have g4 := str_nil_nb s h4
              go_wp2
              go_ret
              exact ⟨ret_bool (by rw [HE.out]; symm; rw [Bool.eq_false_iff]; intro hh; simp [insB, fields, vals, fits, fit] at hh; omega), HB2.out⟩
          · skip
            go_wp2
            go_ret
            exact ⟨ret_bool (by rw [HE.out]; symm; rw [Bool.eq_false_iff]; intro hh; simp [insB, fields, vals, fits, fit] at hh; omega), HB2.out⟩
        · rw [decide_eq_false h2]
          go_wp2
          go_ret
          exact ⟨ret_bool (by rw [HE.out]; symm; rw [Bool.eq_false_iff]; intro hh; simp [insB, fields, vals, fits, fit] at hh; omega), HB2.out⟩
      · rw [decide_eq_false h1]
        go_wp2
        go_ret
        exact ⟨ret_bool (by rw [HE.out]; symm; rw [Bool.eq_false_iff]; intro hh; simp [insB, fields, vals, fits, fit] at hh; omega), HB1.out⟩
    · rw [decide_eq_false h0]
      go_wp2
      go_ret
      exact ⟨ret_bool (by rw [HE.out]; symm; rw [Bool.eq_false_iff]; intro hh; simp [insB, fields, vals, fits, fit] at hh; omega), HB0.out⟩
  · skip
    obtain ⟨-, q0, q1, q2, q3, q4, q5, q6, q7, q8⟩ := id HT.out
    rw [HW.out] at q0 q1 q2 q3 q4 q5 q6 q7 q8
    go_enter Tryd.func40, Tryd.ntmps40
    go_wp2_with fail
    rw [← HW.out]
    refine (refReg_any name regs (.slice ao m cap) a _).mono ?_
    rintro e u0 ⟨rfl, hu0⟩
    have hb0 : Below W.heap.size W u0 := by rw [hu0]; exact (Below.refl _ _).alloc (Nat.le_refl _) _
    have HB0 := hide (below_call HB.out hb0)
    have HT0 := hide (HT.out.below hb0)
    clear q0 q1 q2 q3 q4 q5 q6 q7 q8
    obtain ⟨-, q0, q1, q2, q3, q4, q5, q6, q7, q8⟩ := id HT0.out
    clear hu0 hb0
    by_cases h0 : 0 ≤ a ∧ a < regs
    · rw [decide_eq_true h0]
      go_wp2_with fail
      refine (refReg_any name regs (.slice ao m cap) b _).mono ?_
      rintro e u1 ⟨rfl, hu1⟩
      have hb1 : Below u0.heap.size u0 u1 := by rw [hu1]; exact (Below.refl _ _).alloc (Nat.le_refl _) _
      have HB1 := hide (below_call HB0.out hb1)
      have HT1 := hide (HT0.out.below hb1)
      clear q0 q1 q2 q3 q4 q5 q6 q7 q8
      obtain ⟨-, q0, q1, q2, q3, q4, q5, q6, q7, q8⟩ := id HT1.out
      clear hu1 hb1
      by_cases h1 : 0 ≤ b ∧ b < regs
      · rw [decide_eq_true h1]
        go_wp2_with fail
        refine (refReg_any name regs (.slice ao m cap) c _).mono ?_
        rintro e u2 ⟨rfl, hu2⟩
        have hb2 : Below u1.heap.size u1 u2 := by rw [hu2]; exact (Below.refl _ _).alloc (Nat.le_refl _) _
        have HB2 := hide (below_call HB1.out hb2)
        have HT2 := hide (HT1.out.below hb2)
        clear q0 q1 q2 q3 q4 q5 q6 q7 q8
        obtain ⟨-, q0, q1, q2, q3, q4, q5, q6, q7, q8⟩ := id HT2.out
        clear hu2 hb2
        by_cases h2 : 0 ≤ c ∧ c < regs
        · rw [decide_eq_true h2]
          have h3 : ¬ n = 0 := by omega
          go_wp2
          go_ret
          exact ⟨ret_bool (by rw [HE.out]; symm; rw [Bool.eq_false_iff]; intro hh; simp [insB, fields, vals, fits, fit] at hh; omega), HB2.out⟩
        · rw [decide_eq_false h2]
          go_wp2
          go_ret
          exact ⟨ret_bool (by rw [HE.out]; symm; rw [Bool.eq_false_iff]; intro hh; simp [insB, fields, vals, fits, fit] at hh; omega), HB2.out⟩
      · rw [decide_eq_false h1]
        go_wp2
        go_ret
        exact ⟨ret_bool (by rw [HE.out]; symm; rw [Bool.eq_false_iff]; intro hh; simp [insB, fields, vals, fits, fit] at hh; omega), HB1.out⟩
    · rw [decide_eq_false h0]
      go_wp2
      go_ret
      exact ⟨ret_bool (by rw [HE.out]; symm; rw [Bool.eq_false_iff]; intro hh; simp [insB, fields, vals, fits, fit] at hh; omega), HB0.out⟩
set_option maxRecDepth 100000 in
set_option maxHeartbeats 3200000 in
theorem refInstr_5 (name : ByteArray) (regs : Int) (ao : Option Addr) (m cap : Nat) (a b c n : Int) (s : ByteArray) (pol : Int) (w : World) :
    Calls Tryd.prog 40 #[.agg #[.string name, .int .i64 regs, .slice ao m cap], .agg #[.int .u8 5, .int .i64 a, .int .i64 b, .int .i64 c, .int .i64 n, .string s], .int .i64 pol] w fun e w' => e = .returned (.bool (insB regs m pol ⟨5, a, b, c, n, s⟩)) ∧ Below w.heap.size w w' := by
  have H0 := Two.new w name regs (.slice ao m cap) 5 a b c n s
  obtain ⟨W, HW⟩ := named ((w.alloc (.cells #[.string name, .int .i64 regs, .slice ao m cap] 24)).alloc (.cells #[.int .u8 5, .int .i64 a, .int .i64 b, .int .i64 c, .int .i64 n, .string s] 28))
  have HB := hide (show Below w.heap.size w W by rw [HW.out]; exact ((Below.refl _ _).alloc (Nat.le_refl _) _).alloc (by simp) _)
  rw [← HW.out] at H0
  have HT := hide H0
  clear H0
  obtain ⟨R, HR⟩ := named (insB regs m pol ⟨5, a, b, c, n, s⟩)
  have HE : Hid (R = insB regs m pol ⟨5, a, b, c, n, s⟩) := HR
  rw [← HR.out]
  by_cases hn : 0 ≤ n
  · skip
    obtain ⟨-, q0, q1, q2, q3, q4, q5, q6, q7, q8⟩ := id HT.out
    rw [HW.out] at q0 q1 q2 q3 q4 q5 q6 q7 q8
    go_enter Tryd.func40, Tryd.ntmps40
    go_wp2_with fail
    rw [← HW.out]
    refine (refReg_any name regs (.slice ao m cap) a _).mono ?_
    rintro e u0 ⟨rfl, hu0⟩
    have hb0 : Below W.heap.size W u0 := by rw [hu0]; exact (Below.refl _ _).alloc (Nat.le_refl _) _
    have HB0 := hide (below_call HB.out hb0)
    have HT0 := hide (HT.out.below hb0)
    clear q0 q1 q2 q3 q4 q5 q6 q7 q8
    obtain ⟨-, q0, q1, q2, q3, q4, q5, q6, q7, q8⟩ := id HT0.out
    clear hu0 hb0
    by_cases h0 : 0 ≤ a ∧ a < regs
    · rw [decide_eq_true h0]
      go_wp2_with fail
      refine (refReg_any name regs (.slice ao m cap) b _).mono ?_
      rintro e u1 ⟨rfl, hu1⟩
      have hb1 : Below u0.heap.size u0 u1 := by rw [hu1]; exact (Below.refl _ _).alloc (Nat.le_refl _) _
      have HB1 := hide (below_call HB0.out hb1)
      have HT1 := hide (HT0.out.below hb1)
      clear q0 q1 q2 q3 q4 q5 q6 q7 q8
      obtain ⟨-, q0, q1, q2, q3, q4, q5, q6, q7, q8⟩ := id HT1.out
      clear hu1 hb1
      by_cases h1 : 0 ≤ b ∧ b < regs
      · rw [decide_eq_true h1]
        go_wp2_with fail
        refine (refReg_any name regs (.slice ao m cap) c _).mono ?_
        rintro e u2 ⟨rfl, hu2⟩
        have hb2 : Below u1.heap.size u1 u2 := by rw [hu2]; exact (Below.refl _ _).alloc (Nat.le_refl _) _
        have HB2 := hide (below_call HB1.out hb2)
        have HT2 := hide (HT1.out.below hb2)
        clear q0 q1 q2 q3 q4 q5 q6 q7 q8
        obtain ⟨-, q0, q1, q2, q3, q4, q5, q6, q7, q8⟩ := id HT2.out
        clear hu2 hb2
        by_cases h2 : 0 ≤ c ∧ c < regs
        · rw [decide_eq_true h2]
          by_cases h3 : n = 0
          · have g3 := h3
            by_cases h4 : s.size = 0
            · have g4 := str_nil_b s h4
              go_wp2
              go_ret
              exact ⟨ret_bool (by rw [HE.out]; symm; simp [insB, fields, vals, fits, fit]; omega), HB2.out⟩
            · have g4 := str_nil_nb s h4
              go_wp2
              go_ret
              exact ⟨ret_bool (by rw [HE.out]; symm; rw [Bool.eq_false_iff]; intro hh; simp [insB, fields, vals, fits, fit] at hh; omega), HB2.out⟩
          · skip
            go_wp2
            go_ret
            exact ⟨ret_bool (by rw [HE.out]; symm; rw [Bool.eq_false_iff]; intro hh; simp [insB, fields, vals, fits, fit] at hh; omega), HB2.out⟩
        · rw [decide_eq_false h2]
          go_wp2
          go_ret
          exact ⟨ret_bool (by rw [HE.out]; symm; rw [Bool.eq_false_iff]; intro hh; simp [insB, fields, vals, fits, fit] at hh; omega), HB2.out⟩
      · rw [decide_eq_false h1]
        go_wp2
        go_ret
        exact ⟨ret_bool (by rw [HE.out]; symm; rw [Bool.eq_false_iff]; intro hh; simp [insB, fields, vals, fits, fit] at hh; omega), HB1.out⟩
    · rw [decide_eq_false h0]
      go_wp2
      go_ret
      exact ⟨ret_bool (by rw [HE.out]; symm; rw [Bool.eq_false_iff]; intro hh; simp [insB, fields, vals, fits, fit] at hh; omega), HB0.out⟩
  · skip
    obtain ⟨-, q0, q1, q2, q3, q4, q5, q6, q7, q8⟩ := id HT.out
    rw [HW.out] at q0 q1 q2 q3 q4 q5 q6 q7 q8
    go_enter Tryd.func40, Tryd.ntmps40
    go_wp2_with fail
    rw [← HW.out]
    refine (refReg_any name regs (.slice ao m cap) a _).mono ?_
    rintro e u0 ⟨rfl, hu0⟩
    have hb0 : Below W.heap.size W u0 := by rw [hu0]; exact (Below.refl _ _).alloc (Nat.le_refl _) _
    have HB0 := hide (below_call HB.out hb0)
    have HT0 := hide (HT.out.below hb0)
    clear q0 q1 q2 q3 q4 q5 q6 q7 q8
    obtain ⟨-, q0, q1, q2, q3, q4, q5, q6, q7, q8⟩ := id HT0.out
    clear hu0 hb0
    by_cases h0 : 0 ≤ a ∧ a < regs
    · rw [decide_eq_true h0]
      go_wp2_with fail
      refine (refReg_any name regs (.slice ao m cap) b _).mono ?_
      rintro e u1 ⟨rfl, hu1⟩
      have hb1 : Below u0.heap.size u0 u1 := by rw [hu1]; exact (Below.refl _ _).alloc (Nat.le_refl _) _
      have HB1 := hide (below_call HB0.out hb1)
      have HT1 := hide (HT0.out.below hb1)
      clear q0 q1 q2 q3 q4 q5 q6 q7 q8
      obtain ⟨-, q0, q1, q2, q3, q4, q5, q6, q7, q8⟩ := id HT1.out
      clear hu1 hb1
      by_cases h1 : 0 ≤ b ∧ b < regs
      · rw [decide_eq_true h1]
        go_wp2_with fail
        refine (refReg_any name regs (.slice ao m cap) c _).mono ?_
        rintro e u2 ⟨rfl, hu2⟩
        have hb2 : Below u1.heap.size u1 u2 := by rw [hu2]; exact (Below.refl _ _).alloc (Nat.le_refl _) _
        have HB2 := hide (below_call HB1.out hb2)
        have HT2 := hide (HT1.out.below hb2)
        clear q0 q1 q2 q3 q4 q5 q6 q7 q8
        obtain ⟨-, q0, q1, q2, q3, q4, q5, q6, q7, q8⟩ := id HT2.out
        clear hu2 hb2
        by_cases h2 : 0 ≤ c ∧ c < regs
        · rw [decide_eq_true h2]
          have h3 : ¬ n = 0 := by omega
          go_wp2
          go_ret
          exact ⟨ret_bool (by rw [HE.out]; symm; rw [Bool.eq_false_iff]; intro hh; simp [insB, fields, vals, fits, fit] at hh; omega), HB2.out⟩
        · rw [decide_eq_false h2]
          go_wp2
          go_ret
          exact ⟨ret_bool (by rw [HE.out]; symm; rw [Bool.eq_false_iff]; intro hh; simp [insB, fields, vals, fits, fit] at hh; omega), HB2.out⟩
      · rw [decide_eq_false h1]
        go_wp2
        go_ret
        exact ⟨ret_bool (by rw [HE.out]; symm; rw [Bool.eq_false_iff]; intro hh; simp [insB, fields, vals, fits, fit] at hh; omega), HB1.out⟩
    · rw [decide_eq_false h0]
      go_wp2
      go_ret
      exact ⟨ret_bool (by rw [HE.out]; symm; rw [Bool.eq_false_iff]; intro hh; simp [insB, fields, vals, fits, fit] at hh; omega), HB0.out⟩
end Go.Proofs.YtpiiehenmkinaaaDoor
