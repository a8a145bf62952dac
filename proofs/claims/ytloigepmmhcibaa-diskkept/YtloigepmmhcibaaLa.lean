/-
  string(b) under a name of its own; holds, where it answers true. Own work.
-/
import Derived.Test.YtloigepmmhcibaaEg
import Derived.Deep.RegionHeld
namespace Go.Proofs.Ytloigepmmhcibaa
open Go.RowKit

/-- string(b), under a name that the walk does not lay open -/
def toStr (v : Value) : Sem Value := convert 30 9 v
theorem run_toStr (v : Value) (w : World) : (convert 30 9 v).run Try.prog w = (toStr v).run Try.prog w := rfl
theorem run_str (w : World) (v : Value) (l : List UInt8) (h : Rd w v l) : (toStr v).run Try.prog w = .ok (.string ⟨l.toArray⟩) w := by
  unfold toStr
  obtain ⟨ao, cap, rfl, h1, h2, h3, h4⟩ := h
  cases ao with
  | none =>
    have hc := h3 rfl
    have hl : l = [] := List.eq_nil_of_length_eq_zero (by omega)
    subst hl
    rw [run_convert_bytes_string w 30 9 5 _ _ _ Try.underlying30 Try.underlying5 Try.underlying9]
    rfl
  | some a => exact run_convert_bytes_back w 30 9 5 a cap l Try.underlying30 Try.underlying5 Try.underlying9 (fun j hj => h4 a rfl j hj)

set_option maxRecDepth 100000 in
set_option maxHeartbeats 1000000 in
theorem holds_true {w : World} {F : Nat → Prop} {d : Value} {D : AD} (h : Dk w F d D) (n : ByteArray) (l : List UInt8) (k : Nat) (hr : readD D n = (l, 0)) (hl : (lookF D.files n).bytes.length = l.length) (hk : (lookF D.files n).safe = k) :
    Calls Try.prog 21 #[d, .string n, .string ⟨l.toArray⟩, .int .i64 k] w fun e w' => e = .returned (.bool true) ∧ Below w.heap.size w w' := by
  have HL : Hid _ := hl
  have HK : Hid _ := hk
  have HR : Hid _ := hr
  clear hl hk hr
  have hT := run_toStr
  have hsz : ByteArray.size ⟨l.toArray⟩ = l.length := by simp [ByteArray.size]
  go_enter Try.func21, Try.ntmps21
  go_wp2_with fail
  refine (read_any h n).mono ?_
  rintro e w1 ⟨v, rfl, ho, hb⟩
  rw [HR.out] at ho ⊢
  have hs0 := run_str w1.drew _ l ho.rd.drew
  have hs1 := run_str w1 _ l ho.rd
  go_wp2_with fail
  refine (size_any (h.below hb) n).mono ?_
  rintro e w2 ⟨rfl, hb2⟩
  rw [HL.out]
  go_wp2_with fail
  refine (synced_any ((h.below hb).below hb2) n).mono ?_
  rintro e w3 ⟨rfl, hb3⟩
  rw [HK.out]
  go_wp2_with fail
  go_ret
  exact ⟨rfl, (hb.trans (hb2.mono hb.size)).trans (hb3.mono (Nat.le_trans hb.size hb2.size))⟩

set_option maxRecDepth 100000 in
set_option maxHeartbeats 1000000 in
theorem join_one {w : World} {base : Nat} {v : Value} {n : ByteArray} (h : OwnS w base v [n]) (sep : ByteArray) :
    Calls Try.prog 65 #[v, .string sep] w fun e w' => e = .returned (.string n) ∧ w' = w := by
  rcases h.2 with h2 | ⟨g, cap, cur, rfl, hb, hg, hcap, _, hsz, hr⟩
  · cases h2.2
  have hc : w.cell? ⟨g, 0, none⟩ = some (.string n) := by
    rw [cell_of hg]
    have h0 : cur.toList[0]? = some (.string n) := by
      have := congrArg (fun l => l[0]?) hr
      simpa using this
    rw [Array.getElem?_toList] at h0
    exact h0
  have hcap : 1 ≤ cap := by simpa using hcap
  go_enter Try.func65, Try.ntmps65
  go_wp2_with fail
  go_ret
  exact ⟨rfl, rfl⟩
end Go.Proofs.Ytloigepmmhcibaa
