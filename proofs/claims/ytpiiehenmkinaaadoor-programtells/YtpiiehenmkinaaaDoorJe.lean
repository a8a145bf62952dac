/-
  The independent reading's instr, Check. Own work.
-/
import Derived.Test.YtpiiehenmkinaaaDoorJ1
import Derived.Test.YtpiiehenmkinaaaDoorJ2
import Derived.Test.YtpiiehenmkinaaaDoorJ3
import Derived.Test.YtpiiehenmkinaaaDoorJ4
import Derived.Test.YtpiiehenmkinaaaDoorJ5
namespace Go.Proofs.YtpiiehenmkinaaaDoor
open Go.RowKit

set_option maxRecDepth 100000 in
set_option maxHeartbeats 3200000 in
theorem refInstr_none (name : ByteArray) (regs : Int) (ao : Option Addr) (m cap : Nat) (op : Nat) (a b c n : Int) (s : ByteArray) (pol : Int) (w : World) (h : op = 0 ∨ 16 < op) :
    Calls Tryd.prog 40 #[.agg #[.string name, .int .i64 regs, .slice ao m cap], .agg #[.int .u8 (op : Int), .int .i64 a, .int .i64 b, .int .i64 c, .int .i64 n, .string s], .int .i64 pol] w fun e w' => e = .returned (.bool false) ∧ Below w.heap.size w w' := by
  obtain ⟨z, HZ⟩ := named (op : Int)
  rw [← HZ.out]
  have z1 : ¬ z = 1 := by rw [HZ.out]; omega
  have z2 : ¬ z = 2 := by rw [HZ.out]; omega
  have z3 : ¬ z = 3 := by rw [HZ.out]; omega
  have z4 : ¬ z = 4 := by rw [HZ.out]; omega
  have z5 : ¬ z = 5 := by rw [HZ.out]; omega
  have z6 : ¬ z = 6 := by rw [HZ.out]; omega
  have z7 : ¬ z = 7 := by rw [HZ.out]; omega
  have z8 : ¬ z = 8 := by rw [HZ.out]; omega
  have z9 : ¬ z = 9 := by rw [HZ.out]; omega
  have z10 : ¬ z = 10 := by rw [HZ.out]; omega
  have z11 : ¬ z = 11 := by rw [HZ.out]; omega
  have z12 : ¬ z = 12 := by rw [HZ.out]; omega
  have z13 : ¬ z = 13 := by rw [HZ.out]; omega
  have z14 : ¬ z = 14 := by rw [HZ.out]; omega
  have z15 : ¬ z = 15 := by rw [HZ.out]; omega
  have z16 : ¬ z = 16 := by rw [HZ.out]; omega
  by_cases hn : 0 ≤ n
  · go_enter Tryd.func40, Tryd.ntmps40
    go_wp2
    go_ret
    exact ⟨rfl, ((Below.refl _ _).alloc (Nat.le_refl _) _).alloc (by simp) _⟩
  · go_enter Tryd.func40, Tryd.ntmps40
    go_wp2
    go_ret
    exact ⟨rfl, ((Below.refl _ _).alloc (Nat.le_refl _) _).alloc (by simp) _⟩
theorem fields_none (o : Nat) (h : o = 0 ∨ 16 < o) : fields o = [] := by
  unfold fields
  split <;> first | rfl | omega
theorem refInstr_any (p : Prg) (cv : Value) (i : Ins) (pol : Int) (w : World) (hc : RdC w cv p.code) :
    Calls Tryd.prog 40 #[prgV p cv, insV i, .int .i64 pol] w fun e w' => e = .returned (.bool (insB p.regs p.code.length pol i)) ∧ Below w.heap.size w w' := by
  obtain ⟨name, regs, code⟩ := p
  obtain ⟨op, a, b, c, n, s⟩ := i
  obtain ⟨ao, cap, rfl, -⟩ := hc.shape
  have hh : op = 0 ∨ 16 < op ∨ op = 1 ∨ op = 2 ∨ op = 3 ∨ op = 4 ∨ op = 5 ∨ op = 6 ∨ op = 7 ∨ op = 8 ∨ op = 9 ∨ op = 10 ∨ op = 11 ∨ op = 12 ∨ op = 13 ∨ op = 14 ∨ op = 15 ∨ op = 16 := by omega
  rcases hh with h | h | h | h | h | h | h | h | h | h | h | h | h | h | h | h | h | h
  · rw [insB_none _ _ _ _ (fields_none _ (.inl h))]
    exact refInstr_none name regs ao code.length cap op a b c n s pol w (.inl h)
  · rw [insB_none _ _ _ _ (fields_none _ (.inr h))]
    exact refInstr_none name regs ao code.length cap op a b c n s pol w (.inr h)
  · subst h
    exact refInstr_1 name regs ao code.length cap a b c n s pol w
  · subst h
    exact refInstr_2 name regs ao code.length cap a b c n s pol w
  · subst h
    exact refInstr_3 name regs ao code.length cap a b c n s pol w
  · subst h
    exact refInstr_4 name regs ao code.length cap a b c n s pol w
  · subst h
    exact refInstr_5 name regs ao code.length cap a b c n s pol w
  · subst h
    exact refInstr_6 name regs ao code.length cap a b c n s pol w
  · subst h
    exact refInstr_7 name regs ao code.length cap a b c n s pol w
  · subst h
    exact refInstr_8 name regs ao code.length cap a b c n s pol w
  · subst h
    exact refInstr_9 name regs ao code.length cap a b c n s pol w
  · subst h
    exact refInstr_10 name regs ao code.length cap a b c n s pol w
  · subst h
    exact refInstr_11 name regs ao code.length cap a b c n s pol w
  · subst h
    exact refInstr_12 name regs ao code.length cap a b c n s pol w
  · subst h
    exact refInstr_13 name regs ao code.length cap a b c n s pol w
  · subst h
    exact refInstr_14 name regs ao code.length cap a b c n s pol w
  · subst h
    exact refInstr_15 name regs ao code.length cap a b c n s pol w
  · subst h
    exact refInstr_16 name regs ao code.length cap a b c n s pol w
end Go.Proofs.YtpiiehenmkinaaaDoor
