/-
  The contracts of the small functions of the statements: writes, signed, refused (where they answer true). Own work.
-/
import Derived.Test.YtgeljaliddedfaaWg
import Derived.Deep.RegionHeld
namespace Go.Proofs.Ytgeljaliddedfaa
open Go.RowKit

/-- string(b), under a name that the walk does not lay open -/
def toStr (v : Value) : Sem Value := convert 22 9 v
theorem run_toStr (v : Value) (w : World) : (convert 22 9 v).run Try.prog w = (toStr v).run Try.prog w := rfl
theorem run_str (w : World) (v : Value) (l : List UInt8) (h : Rd w v l) : (toStr v).run Try.prog w = .ok (.string ⟨l.toArray⟩) w := by
  unfold toStr
  obtain ⟨ao, cap, rfl, h1, h2, h3, h4⟩ := h
  cases ao with
  | none =>
    have hc := h3 rfl
    have hl : l = [] := List.eq_nil_of_length_eq_zero (by omega)
    subst hl
    rw [run_convert_bytes_string w 22 9 5 _ _ _ Try.underlying22 Try.underlying5 Try.underlying9]
    rfl
  | some a => exact run_convert_bytes_back w 22 9 5 a cap l Try.underlying22 Try.underlying5 Try.underlying9 (fun j hj => h4 a rfl j hj)

set_option maxRecDepth 100000 in
set_option maxHeartbeats 800000 in
theorem writes_true (n : Nat) (v : Value) (l : List UInt8) (w : World) (hn : n ≤ 18446744073709551615) (hrd : Rd w v l) (hl : l.length ≤ 1000) (hU : U n = l) (hg : getU l 0 = (n, l.length, 0)) :
    Calls Try.prog 12 #[.int .u64 n, v] w fun e w' => e = .returned (.bool true) ∧ Below w.heap.size w w' := by
  obtain ⟨ao, cap, hv, -⟩ := id hrd
  subst hv
  have HN : Hid _ := hn
  have HU : Hid _ := hU
  have HG : Hid _ := hg
  clear hn hU hg
  have hT := run_toStr
  have hs0 := run_str w.drew _ l hrd.drew
  go_enter Try.func12, Try.ntmps12
  go_wp2_with fail
  refine (getUint_any _ l 0 _ hrd (by omega)).mono ?_
  rintro e w1 ⟨rfl, hw1⟩
  subst hw1
  rw [HG.out]
  go_wp2_with fail
  go_region_held (fun w' => Sem.run Try.prog (toStr (.slice ao l.length cap)) w' = .ok (.string ⟨l.toArray⟩) w') (first | exact hs0 | exact hs1)
    (first | (go_at_call 28; refine (uint_any _ [] n _ ?_ ?_ (Rd.nil _) ?_).mono ?_; omega; (have := HN.out; omega); simp; rintro e w2 ⟨v2, rfl, hown2, hb2⟩; rw [HU.out, List.nil_append] at hown2; have hs1 := run_str w2 _ l (hrd.drew.below hb2); have hs2 := run_str w2 _ l hown2.rd; obtain ⟨a2, c2, hv2, -⟩ := id hown2.rd; subst hv2))
  go_wp2
  go_ret
  exact ⟨rfl, (Below.refl w.heap.size w).drew.trans hb2⟩

set_option maxRecDepth 100000 in
set_option maxHeartbeats 800000 in
theorem signed_true (i : Int) (n : Nat) (v : Value) (l : List UInt8) (w : World) (h0 : -9223372036854775808 ≤ i) (h1 : i ≤ 9223372036854775807) (hrd : Rd w v l) (hl : l.length ≤ 1000) (hU : U (foldI i) = l) (hg : getU l 0 = (n, l.length, 0)) (hn : unfoldI n = i) :
    Calls Try.prog 11 #[.int .i64 i, v] w fun e w' => e = .returned (.bool true) ∧ Below w.heap.size w w' := by
  obtain ⟨ao, cap, hv, -⟩ := id hrd
  subst hv
  have HB : Hid (-9223372036854775808 ≤ i ∧ i ≤ 9223372036854775807) := ⟨h0, h1⟩
  have HU : Hid _ := hU
  have HG : Hid _ := hg
  have HN : Hid _ := hn
  clear h0 h1 hU hg hn
  have hT := run_toStr
  have hs0 := run_str w.drew _ l hrd.drew
  go_enter Try.func11, Try.ntmps11
  go_wp2_with fail
  refine (getInt_any _ l 0 _ hrd (by omega)).mono ?_
  rintro e w1 ⟨rfl, hw1⟩
  subst hw1
  rw [HG.out]
  simp only [HN.out]
  go_wp2_with fail
  go_region_held (fun w' => Sem.run Try.prog (toStr (.slice ao l.length cap)) w' = .ok (.string ⟨l.toArray⟩) w') (first | exact hs0 | exact hs1)
    (first | (go_at_call 10; refine (int_any _ [] i _ HB.out.1 HB.out.2 (Rd.nil _) ?_).mono ?_; simp; rintro e w2 ⟨v2, rfl, hown2, hb2⟩; rw [HU.out, List.nil_append] at hown2; have hs1 := run_str w2 _ l (hrd.drew.below hb2); have hs2 := run_str w2 _ l hown2.rd; obtain ⟨a2, c2, hv2, -⟩ := id hown2.rd; subst hv2))
  go_wp2
  go_ret
  exact ⟨rfl, (Below.refl w.heap.size w).drew.trans hb2⟩

set_option maxRecDepth 100000 in
set_option maxHeartbeats 800000 in
theorem refused_true (er at_ : Int) (v : Value) (l : List UInt8) (w : World) (hrd : Rd w v l) (hl : l.length ≤ 1000) (hg : ((getU l at_).1 : Int) = 0 ∧ ((getU l at_).2.1 : Int) = 0 ∧ ((getU l at_).2.2 : Int) = er) :
    Calls Try.prog 13 #[.int .i64 er, .int .i64 at_, v] w fun e w' => e = .returned (.bool true) ∧ Below w.heap.size w w' := by
  obtain ⟨ao, cap, hv, -⟩ := id hrd
  subst hv
  have HG : Hid _ := hg
  have HU : Hid (unfoldI 0 = 0) := rfl
  clear hg
  go_enter Try.func13, Try.ntmps13
  go_wp2_with fail
  refine (getUint_any _ l at_ _ hrd (by omega)).mono ?_
  rintro e w1 ⟨rfl, hw1⟩
  subst hw1
  rw [HG.out.1, HG.out.2.1, HG.out.2.2]
  go_wp2_with fail
  refine (getInt_any _ l at_ _ hrd (by omega)).mono ?_
  rintro e w1 ⟨rfl, hw1⟩
  subst hw1
  rw [HG.out.1, HG.out.2.1, HG.out.2.2, HU.out]
  go_wp2
  go_ret
  exact ⟨rfl, Below.refl _ _⟩
end Go.Proofs.Ytgeljaliddedfaa
