/-
  Programs as lists: what may be one, its bytes, what is read of any bytes. Own work, no walk.
-/
import Derived.Test.YtlngeonfabahnaaDoorBase
namespace Go.Proofs.YtlngeonfabahnaaDoor
open Go.RowKit

/-- an instruction -/
structure Ins where
  op : Nat
  a : Int
  b : Int
  c : Int
  n : Int
  s : ByteArray
/-- a program -/
structure Prg where
  name : ByteArray
  regs : Int
  code : List Ins
def IR (x : Int) : Prop := -9223372036854775808 ≤ x ∧ x ≤ 9223372036854775807
/-- an instruction whose fields are of their types -/
structure Ins.wf (i : Ins) : Prop where
  op : i.op < 256
  a : IR i.a
  b : IR i.b
  c : IR i.c
  n : IR i.n
  s : i.s.size ≤ maxLen

/-- the letters of what a field may be: r 114, j 106, p 112, n 110, s 115, none 46 -/
def fields : Nat → List Nat
  | 1 => [114, 46, 46, 110, 46]
  | 2 => [114, 114, 46, 46, 46]
  | 3 => [114, 114, 114, 46, 46]
  | 4 => [114, 114, 114, 46, 46]
  | 5 => [114, 114, 114, 46, 46]
  | 6 => [114, 114, 114, 46, 46]
  | 7 => [114, 114, 114, 46, 46]
  | 8 => [46, 46, 46, 106, 46]
  | 9 => [114, 46, 46, 106, 46]
  | 10 => [114, 114, 112, 46, 115]
  | 11 => [114, 114, 46, 46, 46]
  | 12 => [114, 114, 46, 46, 115]
  | 13 => [114, 114, 114, 46, 46]
  | 14 => [114, 46, 46, 46, 46]
  | 15 => [114, 46, 46, 46, 46]
  | 16 => [114, 46, 46, 46, 46]
  | _ => []
def fit (regs places pol : Int) (l : Nat) (x : Int) : Bool :=
  if l = 114 then decide (0 ≤ x ∧ x < regs) else if l = 106 then decide (0 ≤ x ∧ x < places) else if l = 112 then decide (0 ≤ x ∧ x < pol)
  else if l = 110 then true else if l = 115 then decide (1 ≤ x ∧ x ≤ 40) else decide (0 ≤ x ∧ x < 1)
def vals (i : Ins) : List Int := [i.a, i.b, i.c, i.n, (i.s.size : Int)]
def fits (regs places pol : Int) : List Nat → List Int → Bool
  | l :: ls, x :: xs => fit regs places pol l x && fits regs places pol ls xs
  | [], _ => true
  | _, [] => true
def insB (regs places pol : Int) (i : Ins) : Bool := decide ((fields i.op).length = 5) && fits regs places pol (fields i.op) (vals i)
def endsB (l : List Ins) : Bool :=
  match l.getLast? with
  | none => false
  | some i => decide (i.op = 8 ∨ i.op = 15 ∨ i.op = 16)
def okP (p : Prg) (pol : Int) : Bool :=
  decide (1 ≤ p.name.size ∧ p.name.size ≤ 40) && decide (1 ≤ p.regs ∧ p.regs ≤ 16) && decide (p.code.length ≤ 500) && endsB p.code && p.code.all (insB p.regs p.code.length pol)

/-- a text as bytes -/
def nm (s : ByteArray) : List UInt8 := s.data.toList
theorem nm_len (s : ByteArray) : (nm s).length = s.size := by
  show s.data.toList.length = s.data.size
  rw [Array.length_toList]
theorem nm_mk (l : List UInt8) : nm ⟨l.toArray⟩ = l := by simp [nm]
theorem mk_nm (s : ByteArray) : (⟨(nm s).toArray⟩ : ByteArray) = s := by
  cases s
  show (⟨_⟩ : ByteArray) = ⟨_⟩
  congr 1
end Go.Proofs.YtlngeonfabahnaaDoor
