/-
  What comes of a file that is written anew beside, synced, and renamed, with a fuse: plain lemmas, with no walk. Own work.
-/
import Derived.Test.YtloigepmmhcibaaPureb
namespace Go.Proofs.Ytloigepmmhcibaa

def nRoot : ByteArray := ⟨#[114, 111, 111, 116]⟩
def nNext : ByteArray := ⟨#[110, 101, 120, 116]⟩

theorem toldL_ge (l : List Int) (i : Nat) : 0 ≤ toldL l i := by
  unfold toldL
  split <;> omega
theorem crashF_safe (n : ByteArray) (b : List UInt8) (keep tear : Int) (hk : 0 ≤ keep) : crashF ⟨n, b, b.length⟩ keep tear = ⟨n, b, b.length⟩ := by
  have h1 : keptN ⟨n, b, b.length⟩ keep = b.length := by
    unfold keptN
    simp only [Nat.sub_self]
    omega
  have h2 : noughtsN ⟨n, b, b.length⟩ keep tear = 0 := by
    unfold noughtsN
    rw [h1]
    simp only
    omega
  unfold crashF
  rw [h1, h2]
  simp
theorem crashF_le (f : AF) (keep tear : Int) (hs : f.safe ≤ f.bytes.length) : (crashF f keep tear).bytes.length ≤ f.bytes.length := by
  have h1 : keptN f keep ≤ f.bytes.length := by
    unfold keptN
    omega
  have h2 : keptN f keep + noughtsN f keep tear ≤ f.bytes.length := by
    unfold noughtsN
    omega
  unfold crashF
  simp only [List.length_append, List.length_take, List.length_replicate]
  omega

variable (E N : List UInt8)
theorem sw1 (hE : E.length ≤ 200) : appendD (newD 4096) nRoot E = (⟨[⟨nRoot, E, 0⟩], 4096, -1, false⟩, 0) := by
  unfold appendD
  rw [if_neg (by simp [newD]), if_neg (by simp [show right nRoot = true by kernel_rfl]), if_neg (by simp [newD, used]; omega)]
  rfl
theorem sw2 : syncD ⟨[⟨nRoot, E, 0⟩], 4096, -1, false⟩ nRoot = (⟨[⟨nRoot, E, E.length⟩], 4096, -1, false⟩, 0) := rfl
theorem sw3 (k : Nat) : armD ⟨[⟨nRoot, E, E.length⟩], 4096, -1, false⟩ k = ⟨[⟨nRoot, E, E.length⟩], 4096, k, false⟩ := by
  unfold armD
  simp
theorem sw40 (hE : E.length ≤ 200) (hN : N.length ≤ 200) : appendD ⟨[⟨nRoot, E, E.length⟩], 4096, (0 : Nat), false⟩ nNext N = (⟨[⟨nRoot, E, E.length⟩], 4096, -1, true⟩, 15) := by
  unfold appendD
  rw [if_neg (by simp), if_neg (by simp [show right nNext = true by kernel_rfl]), if_neg (by simp [used]; omega)]
  rfl
theorem sw4 (k : Nat) (hE : E.length ≤ 200) (hN : N.length ≤ 200) : appendD ⟨[⟨nRoot, E, E.length⟩], 4096, (k + 1 : Nat), false⟩ nNext N = (⟨[⟨nNext, N, 0⟩, ⟨nRoot, E, E.length⟩], 4096, k, false⟩, 0) := by
  unfold appendD
  rw [if_neg (by simp), if_neg (by simp [show right nNext = true by kernel_rfl]), if_neg (by simp [used]; omega)]
  unfold burn
  rw [if_neg (by simp; omega)]
  simp only [if_pos (show (0 : Int) < ((k + 1 : Nat) : Int) by omega)]
  rw [show ((k + 1 : Nat) : Int) - 1 = k by omega]
  rfl
theorem sw5d : syncD ⟨[⟨nRoot, E, E.length⟩], 4096, -1, true⟩ nNext = (⟨[⟨nRoot, E, E.length⟩], 4096, -1, true⟩, 15) := rfl
theorem sw6d (fs : List AF) : renameD ⟨fs, 4096, -1, true⟩ nNext nRoot = (⟨fs, 4096, -1, true⟩, 15) := rfl
theorem sw50 : syncD ⟨[⟨nNext, N, 0⟩, ⟨nRoot, E, E.length⟩], 4096, (0 : Nat), false⟩ nNext = (⟨[⟨nNext, N, 0⟩, ⟨nRoot, E, E.length⟩], 4096, -1, true⟩, 15) := rfl
theorem sw5 (k : Nat) : syncD ⟨[⟨nNext, N, 0⟩, ⟨nRoot, E, E.length⟩], 4096, (k + 1 : Nat), false⟩ nNext = (⟨[⟨nNext, N, N.length⟩, ⟨nRoot, E, E.length⟩], 4096, k, false⟩, 0) := by
  unfold syncD
  rw [if_neg (by simp), if_neg (by rw [show isF _ nNext = true from rfl]; simp)]
  unfold burn
  rw [if_neg (by simp; omega)]
  simp only [if_pos (show (0 : Int) < ((k + 1 : Nat) : Int) by omega)]
  rw [show ((k + 1 : Nat) : Int) - 1 = k by omega]
  rfl
theorem sw60 : renameD ⟨[⟨nNext, N, N.length⟩, ⟨nRoot, E, E.length⟩], 4096, (0 : Nat), false⟩ nNext nRoot = (⟨[⟨nNext, N, N.length⟩, ⟨nRoot, E, E.length⟩], 4096, -1, true⟩, 15) := rfl
theorem sw6 (k : Nat) : renameD ⟨[⟨nNext, N, N.length⟩, ⟨nRoot, E, E.length⟩], 4096, (k + 1 : Nat), false⟩ nNext nRoot = (⟨[⟨nRoot, N, N.length⟩], 4096, k, false⟩, 0) := by
  unfold renameD
  rw [if_neg (by simp), if_neg (by rw [show isF _ nNext = true from rfl]; simp), if_neg (by rw [show right nRoot = true by kernel_rfl]; simp)]
  unfold burn
  rw [if_neg (by simp; omega)]
  simp only [if_pos (show (0 : Int) < ((k + 1 : Nat) : Int) by omega)]
  rw [show ((k + 1 : Nat) : Int) - 1 = k by omega]
  rfl
theorem sw7 (l : List UInt8) (m : Nat) (fu : Int) (dk : Bool) (ks ts : List Int) : crashD ⟨[⟨nRoot, l, l.length⟩], m, fu, dk⟩ ks ts = ⟨[⟨nRoot, l, l.length⟩], m, -1, false⟩ := by
  unfold crashD crashL
  simp only [List.mapIdx_cons, List.mapIdx_nil]
  rw [crashF_safe _ _ _ _ (toldL_ge _ _)]
theorem sw7b (s : Nat) (m : Nat) (fu : Int) (dk : Bool) (ks ts : List Int) : ∃ g : AF, crashD ⟨[⟨nNext, N, s⟩, ⟨nRoot, E, E.length⟩], m, fu, dk⟩ ks ts = ⟨[⟨nNext, g.bytes, g.safe⟩, ⟨nRoot, E, E.length⟩], m, -1, false⟩ ∧ g = crashF ⟨nNext, N, s⟩ (toldL ks 0) (toldL ts 0) := by
  refine ⟨_, ?_, rfl⟩
  unfold crashD crashL
  simp only [List.mapIdx_cons, List.mapIdx_nil]
  rw [crashF_safe nRoot _ _ _ (toldL_ge _ _)]
  rfl
theorem sw8 (l : List UInt8) (s : Nat) (fu : Int) : readD ⟨[⟨nRoot, l, s⟩], 4096, fu, false⟩ nRoot = (l, 0) ∧ readD ⟨[⟨nRoot, l, s⟩], 4096, fu, false⟩ nNext = ([], 16) := ⟨rfl, rfl⟩
theorem sw8b (l : List UInt8) (s t : Nat) (fu : Int) : readD ⟨[⟨nNext, N, s⟩, ⟨nRoot, l, t⟩], 4096, fu, false⟩ nRoot = (l, 0) ∧ readD ⟨[⟨nNext, N, s⟩, ⟨nRoot, l, t⟩], 4096, fu, false⟩ nNext = (N, 0) := ⟨rfl, rfl⟩
end Go.Proofs.Ytloigepmmhcibaa
