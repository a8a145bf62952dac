/-
  The contract of the document's bit. Own work.
-/
import Derived.Test.YtlpjfcfajagobaaRg
import Derived.Test.YtlpjfcfajagobaaMathd
namespace Go.Proofs.Ytlpjfcfajagobaa
open Go.RowKit

/-- the i-th bit of bytes, behind them none -/
def dbit (l : List UInt8) (i : Nat) : Bool := decide (i < 8 * l.length) && (byt l (i / 8)).testBit (i % 8)

set_option maxRecDepth 100000 in
set_option maxHeartbeats 2000000 in
theorem refBit_any (v : Value) (l : List UInt8) (i : Nat) (w : World) (hrd : Rd w v l) (hl : l.length ≤ 1000000) (hi : i ≤ 10000000) :
    Calls Try.prog 41 #[v, .int .i64 i] w fun e w' => e = .returned (.bool (dbit l i != decide (i < 32))) ∧ w = w' := by
  have hdec : decide ((i : Int) < 32) = decide (i < 32) := by
    rw [Bool.eq_iff_iff]; simp; omega
  have HDEC : Hid _ := hdec
  clear hdec
  rcases hrd.cases with ⟨rfl, ao, cap, rfl, h1, h2⟩ | ⟨b, off, cap, rfl, h1, h2, h3, h4, h5⟩
  · have e : dbit [] i = false := by simp [dbit]
    rw [e]
    clear h1 h2 hrd
    go_enter Try.func41, Try.ntmps41
    go_wp2
    go_ret
    refine ⟨congrArg (fun z => Ending.returned (Value.bool z)) ?_, rfl⟩
    rw [← HDEC.out]
    try simp
  · by_cases hlt : i < 8 * l.length
    · have e : dbit l i = (byt l (i / 8)).testBit (i % 8) := by simp [dbit, hlt]
      rw [e]
      have hc : w.cell? ⟨b, off + i / 8, none⟩ = some (.int .u8 (byt l (i / 8) : Int)) := by
        rw [byt_eq l (i / 8) (by omega)]
        exact h5 (i / 8) (by omega)
      have hj : i / 8 < l.length := by omega
      have hjI : ((i / 8 : Nat) : Int) < (l.length : Int) := by omega
      have hjE : (i : Int) / 8 = ((i / 8 : Nat) : Int) := by omega
      have hrE : (i : Int) % 8 = ((i % 8 : Nat) : Int) := by omega
      have hx := byt_lt l (i / 8)
      obtain ⟨x, HX⟩ := named (byt l (i / 8))
      rw [← HX.out] at hc hx ⊢
      have htb : (((x : Int) / 2 ^ (i % 8)).tmod 2 == 1) = x.testBit (i % 8) := by
        rw [Int.tmod_eq_emod_of_nonneg (Int.ediv_nonneg (by omega) (by have := Nat.two_pow_pos (i % 8); have e : (2 : Int) ^ (i % 8) = ((2 ^ (i % 8) : Nat) : Int) := by simp
                                                                       omega)), Nat.testBit_eq_decide_div_mod_eq, Bool.eq_iff_iff]
        simp only [beq_iff_eq, decide_eq_true_eq]
        have : (2 : Int) ^ (i % 8) = ((2 ^ (i % 8) : Nat) : Int) := by simp
        rw [this]
        omega
      have hltI : (i : Int) < 8 * (l.length : Int) := by omega
      obtain ⟨j, HJ⟩ := named (i / 8)
      rw [← HJ.out] at hc hj hjI hjE
      obtain ⟨r, HR⟩ := named (i % 8)
      have HTB : Hid _ := htb
      rw [← HR.out] at hrE HTB ⊢
      clear htb
      have hr8 : r < 8 := by rw [HR.out]; omega
      clear h5 hrd e
      go_enter Try.func41, Try.ntmps41
      go_wp2
      go_ret
      refine ⟨congrArg (fun z => Ending.returned (Value.bool z)) ?_, rfl⟩
      rw [← HDEC.out, ← HTB.out]
      rfl
    · have e : dbit l i = false := by simp [dbit, hlt]
      rw [e]
      have hltI : ¬ (i : Int) < 8 * (l.length : Int) := by omega
      clear h5 hrd e
      go_enter Try.func41, Try.ntmps41
      go_wp2
      go_ret
      refine ⟨congrArg (fun z => Ending.returned (Value.bool z)) ?_, rfl⟩
      rw [← HDEC.out]
end Go.Proofs.Ytlpjfcfajagobaa
