/-
  What the law DiskKept asks of lists: keeps that are alike for each file, and nothing torn.
-/
import Derived.Test.YtloigepmmhcibaaLLeaves
namespace Go.Proofs.Ytloigepmmhcibaa
open Go.RowKit

/-- the number that each file is told, by the way -/
def wayK (way many : Nat) : Nat := if way = 0 then 0 else if way = 1 then 1073741824 else many
/-- how many bytes the law wants to stay -/
def wayW (way many safe len : Nat) : Nat := if way = 0 then safe else if way = 1 then len else min (safe + many) len
theorem told_same (n k i : Nat) (h : i < n) : toldL (List.replicate n (k : Int)) i = k := by
  unfold toldL
  rw [List.length_replicate, if_pos h, List.getD_eq_getElem?_getD, List.getElem?_replicate_of_lt h]
  simp only [Option.getD_some]
  omega
theorem told_nil (i : Nat) : toldL [] i = 0 := by
  unfold toldL
  simp
theorem kept_file (f : AF) (hs : f.safe ≤ f.bytes.length) (hl : f.bytes.length ≤ 1073741824) (way many : Nat) :
    (crashF f (wayK way many : Nat) 0).bytes = f.bytes.take (wayW way many f.safe f.bytes.length) := by
  have hz : noughtsN f (wayK way many : Nat) 0 = 0 := by unfold noughtsN; omega
  have hk : keptN f (wayK way many : Nat) = wayW way many f.safe f.bytes.length := by
    unfold keptN wayK wayW
    split
    · omega
    · split <;> omega
  simp only [crashF, hz, hk, List.replicate_zero, List.append_nil]
theorem wayW_le (way many safe len : Nat) (h : safe ≤ len) : wayW way many safe len ≤ len := by
  unfold wayW
  split
  · exact h
  · split <;> omega
/-- as bytes: what is left is what the law's cut of the text gives -/
theorem kept_text (D : AD) (hok : D.ok) (hm : D.most ≤ 1073741824) (way many i : Nat) (hi : i < D.files.length) :
    ∃ h : i < (crashD D (List.replicate D.files.length (wayK way many : Int)) []).files.length,
      (⟨((crashD D (List.replicate D.files.length (wayK way many : Int)) []).files[i]).bytes.toArray⟩ : ByteArray)
        = (⟨(D.files[i]).bytes.toArray⟩ : ByteArray).extract 0 (wayW way many (D.files[i]).safe (D.files[i]).bytes.length) := by
  refine ⟨by simpa [crashD, crashL] using hi, ?_⟩
  have hlen : (D.files[i]).bytes.length ≤ 1073741824 := by
    have h1 := used_at D.files i hi
    have h2 := hok.room
    omega
  have e : (crashD D (List.replicate D.files.length (wayK way many : Int)) []).files[i]'(by simpa [crashD, crashL] using hi) = crashF (D.files[i]) (wayK way many : Nat) 0 := by
    simp only [crashD, crashL, List.getElem_mapIdx]
    rw [told_same _ _ _ hi, told_nil]
  rw [e, kept_file _ (hok.safe _ (List.getElem_mem hi)) hlen]
  apply ByteArray.ext
  simp only [ByteArray.data_extract]
  rw [← Array.toList_inj]
  simp only [Array.toList_extract, List.extract_eq_take_drop, List.drop_zero, Nat.sub_zero]
end Go.Proofs.Ytloigepmmhcibaa
