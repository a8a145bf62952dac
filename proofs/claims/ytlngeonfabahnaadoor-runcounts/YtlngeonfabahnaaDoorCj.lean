/-
  Great, Same. Own work.
-/
import Derived.Test.YtlngeonfabahnaaDoorCi
namespace Go.Proofs.YtlngeonfabahnaaDoor
open Go.RowKit

theorem str_ne {a b : ByteArray} (h : a ≠ b) : (a.toList == b.toList) = false := by
  rw [beq_eq_false_iff_ne, ByteArray.toList_eq, ByteArray.toList_eq]
  exact fun e => h (ByteArray.ext (Array.toList_inj.1 e))
theorem str_eq (a : ByteArray) : (a.toList == a.toList) = true := by simp

def GreatR (p : Prg) (v : Value) : Prop := ∃ g, v = .bool g ∧ (g = false → p.code.length ≤ 600 ∧ p.name.size ≤ 3000)
set_option maxRecDepth 100000 in
set_option maxHeartbeats 1600000 in
theorem great_any (p : Prg) (cv : Value) (w : World) (hc : RdC w cv p.code) : Calls Tryd.prog 10 #[prgV p cv] w fun e w' => ∃ v, e = .returned v ∧ GreatR p v ∧ Below w.heap.size w w' := by
  obtain ⟨name, regs, code⟩ := p
  obtain ⟨ao, cap, rfl, hlen⟩ := hc.shape
  simp only at hc hlen ⊢
  show Calls Tryd.prog 10 #[.agg #[.string name, .int .i64 regs, .slice ao code.length cap]] w _
  have hbW : Below w.heap.size w (w.alloc (.cells #[.string name, .int .i64 regs, .slice ao code.length cap] 24)) := (Below.refl _ _).alloc (Nat.le_refl _) _
  have HC := hide (hc.below hbW)
  have HB := hide hbW
  obtain ⟨n, HN⟩ := named code.length
  rw [← HN.out] at HC HB hlen ⊢
  clear hc hbW
  by_cases h1 : n ≤ 600
  · have h1' : ¬ (600 : Int) < n := by omega
    by_cases h2 : name.size ≤ 3000
    · have h2' : ¬ (3000 : Int) < (name.size : Int) := by omega
      go_enter Tryd.func10, Tryd.ntmps10
      go_wp2
      go_loop [3, 18] (fun nv i => ∃ (k : Nat) (z : Int), k ≤ n ∧ i = .int .i64 k ∧ nv = .int .i64 z) (fun _ i => n - (intOf i).toNat)
      case atStart => exact ⟨0, 0, Nat.zero_le _, rfl, rfl⟩
      case round =>
        obtain ⟨k, z, hk, rfl, rfl⟩ := hrel
        by_cases hlt : k < n
        · obtain ⟨b, off, hab, -, a0, a1, a2, a3, a4, a5⟩ := HC.out.at k (by rw [← HN.out]; exact hlt)
          subst hab
          have hkI : (k : Int) < (n : Int) := by omega
          obtain ⟨x, HX⟩ := named (code[k]'(by rw [← HN.out]; exact hlt))
          rw [← HX.out] at a5
          clear a0 a1 a2 a3 a4
          go_wp2
          go_round
          case rel => exact ⟨k + 1, _, hlt, by go_num, rfl⟩
          case measure => simp [intOf]; omega
        · have hkn : k = n := by omega
          subst hkn
          go_wp2
          go_ret
          exact ⟨_, rfl, ⟨_, rfl, fun _ => ⟨by rw [HN.out] at h1; exact h1, h2⟩⟩, HB.out⟩
    · have h2' : (3000 : Int) < (name.size : Int) := by omega
      go_enter Tryd.func10, Tryd.ntmps10
      go_wp2
      go_ret
      exact ⟨_, rfl, ⟨true, rfl, fun h => by cases h⟩, HB.out⟩
  · have h1' : (600 : Int) < n := by omega
    go_enter Tryd.func10, Tryd.ntmps10
    go_wp2
    go_ret
    exact ⟨_, rfl, ⟨true, rfl, fun h => by cases h⟩, HB.out⟩

end Go.Proofs.YtlngeonfabahnaaDoor
