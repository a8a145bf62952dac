/-
  The independent reading's instr: what it stands on. Own work.
-/
import Derived.Test.YtpiiehenmkinaaaDoorJa
import Derived.Test.YtpiiehenmkinaaaDoorCf
namespace Go.Proofs.YtpiiehenmkinaaaDoor
open Go.RowKit

theorem insB_none (regs places pol : Int) (i : Ins) (h : fields i.op = []) : insB regs places pol i = false := by
  unfold insB
  rw [h]
  rfl
theorem str_nil (s : ByteArray) : s.toList = [] ↔ s.size = 0 := by
  rw [ByteArray.toList_eq]
  show s.data.toList = [] ↔ s.data.size = 0
  rw [Array.toList_eq_nil_iff, Array.size_eq_zero_iff]
theorem str_nil_b (s : ByteArray) (h : s.size = 0) : (s.toList == []) = true := by rw [(str_nil s).2 h]; rfl
theorem str_nil_nb (s : ByteArray) (h : ¬ s.size = 0) : (s.toList == []) = false := by
  rw [beq_eq_false_iff_ne]
  exact fun e => h ((str_nil s).1 e)
/-- a program's head and an instruction, each in a block -/
def Two (w : World) (p q : Nat) (name : ByteArray) (regs : Int) (cv : Value) (z a b c n : Int) (s : ByteArray) : Prop :=
  (p < w.heap.size ∧ q < w.heap.size) ∧ w.cell? ⟨p, 0, none⟩ = some (.string name) ∧ w.cell? ⟨p, 1, none⟩ = some (.int .i64 regs) ∧ w.cell? ⟨p, 2, none⟩ = some cv ∧
  w.cell? ⟨q, 0, none⟩ = some (.int .u8 z) ∧ w.cell? ⟨q, 1, none⟩ = some (.int .i64 a) ∧ w.cell? ⟨q, 2, none⟩ = some (.int .i64 b) ∧ w.cell? ⟨q, 3, none⟩ = some (.int .i64 c) ∧ w.cell? ⟨q, 4, none⟩ = some (.int .i64 n) ∧ w.cell? ⟨q, 5, none⟩ = some (.string s)
theorem Two.below {w w' : World} {p q : Nat} {name : ByteArray} {regs : Int} {cv : Value} {z a b c n : Int} {s : ByteArray} (h : Two w p q name regs cv z a b c n s) (hb : Below w.heap.size w w') : Two w' p q name regs cv z a b c n s := by
  obtain ⟨⟨k1, k2⟩, h0, h1, h2, h3, h4, h5, h6, h7, h8⟩ := h
  exact ⟨⟨Nat.lt_of_lt_of_le k1 hb.size, Nat.lt_of_lt_of_le k2 hb.size⟩, (hb.cell (p := ⟨p, 0, none⟩) k1).trans h0, (hb.cell (p := ⟨p, 1, none⟩) k1).trans h1, (hb.cell (p := ⟨p, 2, none⟩) k1).trans h2,
    (hb.cell (p := ⟨q, 0, none⟩) k2).trans h3, (hb.cell (p := ⟨q, 1, none⟩) k2).trans h4, (hb.cell (p := ⟨q, 2, none⟩) k2).trans h5, (hb.cell (p := ⟨q, 3, none⟩) k2).trans h6, (hb.cell (p := ⟨q, 4, none⟩) k2).trans h7, (hb.cell (p := ⟨q, 5, none⟩) k2).trans h8⟩
theorem Two.new (w : World) (name : ByteArray) (regs : Int) (cv : Value) (z a b c n : Int) (s : ByteArray) : Two ((w.alloc (.cells #[.string name, .int .i64 regs, cv] 24)).alloc (.cells #[.int .u8 z, .int .i64 a, .int .i64 b, .int .i64 c, .int .i64 n, .string s] 28)) w.heap.size (w.heap.size + 1) name regs cv z a b c n s := by
  obtain ⟨V, HV⟩ := named (w.alloc (.cells #[.string name, .int .i64 regs, cv] 24))
  have hs : V.heap.size = w.heap.size + 1 := by rw [HV.out]; simp
  have h1 : V.heap[w.heap.size]? = some (.cells #[.string name, .int .i64 regs, cv] 24 (0, 0)) := by rw [HV.out]; exact heap_alloc_new w _
  rw [← HV.out]
  have hb : Below V.heap.size V (V.alloc (.cells #[.int .u8 z, .int .i64 a, .int .i64 b, .int .i64 c, .int .i64 n, .string s] 28)) := (Below.refl _ _).alloc (Nat.le_refl _) _
  have h2 : (V.alloc (.cells #[.int .u8 z, .int .i64 a, .int .i64 b, .int .i64 c, .int .i64 n, .string s] 28)).heap[w.heap.size + 1]? = some (.cells #[.int .u8 z, .int .i64 a, .int .i64 b, .int .i64 c, .int .i64 n, .string s] 28 (0, 0)) := by rw [← hs]; exact heap_alloc_new V _
  have c1 := fun o => cell_of_row _ w.heap.size o _ 24 (0, 0) h1
  have c2 := fun o => cell_of_row _ (w.heap.size + 1) o _ 28 (0, 0) h2
  have k1 : w.heap.size < V.heap.size := by omega
  exact ⟨⟨by simp; omega, by simp; omega⟩, (hb.cell (p := ⟨w.heap.size, 0, none⟩) k1).trans (c1 0), (hb.cell (p := ⟨w.heap.size, 1, none⟩) k1).trans (c1 1), (hb.cell (p := ⟨w.heap.size, 2, none⟩) k1).trans (c1 2), c2 0, c2 1, c2 2, c2 3, c2 4, c2 5⟩
end Go.Proofs.YtpiiehenmkinaaaDoor
