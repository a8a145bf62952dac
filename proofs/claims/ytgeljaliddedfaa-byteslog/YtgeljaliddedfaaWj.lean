/-
  The contracts of the statement's own functions put and got. Own work.
-/
import Derived.Test.YtgeljaliddedfaaWi
import Derived.Test.YtgeljaliddedfaaWf
import Derived.Test.YtgeljaliddedfaaMathe
import Derived.Deep.RegionHeld
import Derived.Deep.RegionWith
namespace Go.Proofs.Ytgeljaliddedfaa
open Go.RowKit

theorem three_below {W w1 : World} {B : Nat} {a b c : Value} (hB : B < W.heap.size) (hb : Below W.heap.size W w1) (h : W.cell? ⟨B, 0, none⟩ = some a ∧ W.cell? ⟨B, 1, none⟩ = some b ∧ W.cell? ⟨B, 2, none⟩ = some c) :
    w1.cell? ⟨B, 0, none⟩ = some a ∧ w1.cell? ⟨B, 1, none⟩ = some b ∧ w1.cell? ⟨B, 2, none⟩ = some c :=
  ⟨(hb.cell (p := ⟨B, 0, none⟩) hB).trans h.1, (hb.cell (p := ⟨B, 1, none⟩) hB).trans h.2.1, (hb.cell (p := ⟨B, 2, none⟩) hB).trans h.2.2⟩

set_option maxRecDepth 100000 in
set_option maxHeartbeats 2000000 in
theorem put_any (n : Nat) (i : Int) (vb o : Value) (b lo : List UInt8) (w : World) (hn : n ≤ 18446744073709551615) (h0 : -9223372036854775808 ≤ i) (h1 : i ≤ 9223372036854775807) (hb : Rd w vb b) (ho : Rd w o lo) (hlb : b.length ≤ 100) (hlo : lo.length ≤ 1000000) :
    Calls Try.prog 33 #[.agg #[.int .u64 n, .int .i64 i, vb], o] w fun e w' => ∃ v, e = .returned v ∧ Own w' w.heap.size v (lo ++ entryL n i b) ∧ Below w.heap.size w w' := by
  have hsl := sealed_length n i b hlb
  have hE : entryL n i b = U ((bodyL n i b ++ be4 (crc (bodyL n i b))).length : Int) ++ (bodyL n i b ++ be4 (crc (bodyL n i b))) := rfl
  have hbl : bodyL n i b = (U n ++ U (foldI i)) ++ (U b.length ++ b) := rfl
  obtain ⟨X, HX⟩ := named (entryL n i b)
  rw [← HX.out] at hE ⊢
  obtain ⟨body, HBo⟩ := named (bodyL n i b)
  rw [← HBo.out] at hE hbl hsl
  have HE : Hid _ := hE
  have HBL : Hid _ := hbl
  have HSL : Hid _ := hsl
  have HN : Hid _ := hn
  have HI : Hid (-9223372036854775808 ≤ i ∧ i ≤ 9223372036854775807) := ⟨h0, h1⟩
  have hul := U_len n
  have hul2 := U_len (foldI i)
  have HUL : Hid _ := hul
  have HUL2 : Hid _ := hul2
  clear hE hbl hsl hn h0 h1 hul hul2
  obtain ⟨ab, cb, hv, -⟩ := id hb
  subst hv
  obtain ⟨ao, co, hv, -⟩ := id ho
  subst hv
  obtain ⟨p1, Hp1⟩ := named (U (n : Int))
  obtain ⟨p2, Hp2⟩ := named (U (n : Int) ++ U (foldI i))
  obtain ⟨sd, Hsd⟩ := named (body ++ be4 (crc body))
  obtain ⟨W, HW⟩ := named (w.alloc (.cells #[.int .u64 n, .int .i64 i, .slice ab b.length cb] 47)).drew
  have hWs : w.heap.size < W.heap.size := by rw [HW.out]; simp
  have hWb : Below w.heap.size w W := by rw [HW.out]; exact ((Below.refl _ _).alloc (Nat.le_refl _) _).drew
  have hS0 : W.cell? ⟨w.heap.size, 0, none⟩ = some (.int .u64 n) ∧ W.cell? ⟨w.heap.size, 1, none⟩ = some (.int .i64 i) ∧ W.cell? ⟨w.heap.size, 2, none⟩ = some (.slice ab b.length cb) := by
    rw [HW.out]
    refine ⟨?_, ?_, ?_⟩ <;> simp
  have hbW := hb.below hWb
  have hoW := ho.below hWb
  go_enter Try.func33, Try.ntmps33
  go_wp2_with fail
  go_region_held (fun w' => w'.cell? ⟨w.heap.size, 0, none⟩ = some (.int .u64 n) ∧ w'.cell? ⟨w.heap.size, 1, none⟩ = some (.int .i64 i) ∧ w'.cell? ⟨w.heap.size, 2, none⟩ = some (.slice ab b.length cb)) (first | exact hS5 | exact hS4 | exact hS3 | exact hS2 | exact hS1 | (rw [HW.out] at hS0; exact hS0))
    (first | (go_at_call 28; rw [← HW.out]; refine (uint_any _ [] n _ ?_ ?_ (Rd.nil _) ?_).mono ?_; omega; (have := HN.out; omega); simp; rintro e w1 ⟨v1, rfl, hown1, hb1⟩; rw [List.nil_append, ← Hp1.out] at hown1; have hS1 := three_below hWs hb1 hS0; obtain ⟨a1, c1, hv1, -⟩ := id hown1.rd; subst hv1) | (go_at_call 10; refine (int_any _ p1 i _ HI.out.1 HI.out.2 hown1.rd ?_).mono ?_; (rw [Hp1.out]; have := HUL.out; omega); rintro e w2 ⟨v2, rfl, hown2, hb2⟩; rw [Hp1.out, ← Hp2.out] at hown2; have hS2 := three_below (Nat.lt_of_lt_of_le hWs hb1.size) hb2 hS1; obtain ⟨a2, c2, hv2, -⟩ := id hown2.rd; subst hv2) | (go_at_call_of 29 (Value.slice ab b.length cb); refine (blob_any _ _ p2 b _ hown2.rd ((hbW.below hb1).below hb2) ?_).mono ?_; (rw [Hp2.out, List.length_append]; have := HUL.out; have := HUL2.out; omega); rintro e w3 ⟨v3, rfl, hown3, hb3⟩; rw [Hp2.out, ← HBL.out] at hown3; have hS3 := three_below (Nat.lt_of_lt_of_le (Nat.lt_of_lt_of_le hWs hb1.size) hb2.size) hb3 hS2; obtain ⟨a3, c3, hv3, -⟩ := id hown3.rd; subst hv3) | (go_at_call 16; refine (seal_any _ body _ hown3.rd ?_).mono ?_; (have := HSL.out; rw [List.length_append] at this; omega); rintro e w4 ⟨v4, rfl, hown4, hb4⟩; rw [← Hsd.out] at hown4; have hS4 := three_below (Nat.lt_of_lt_of_le (Nat.lt_of_lt_of_le (Nat.lt_of_lt_of_le hWs hb1.size) hb2.size) hb3.size) hb4 hS3; obtain ⟨a4, c4, hv4, -⟩ := id hown4.rd; subst hv4) | (go_at_call_of 29 (Value.slice ao lo.length co); refine (blob_any _ _ lo sd _ ((((hoW.below hb1).below hb2).below hb3).below hb4) hown4.rd ?_).mono ?_; (rw [Hsd.out]; have := HSL.out; omega); rintro e w5 ⟨v5, rfl, hown5, hb5⟩; have hS5 := three_below (Nat.lt_of_lt_of_le (Nat.lt_of_lt_of_le (Nat.lt_of_lt_of_le (Nat.lt_of_lt_of_le hWs hb1.size) hb2.size) hb3.size) hb4.size) hb5 hS4))
  go_wp2
  go_ret
  refine ⟨_, rfl, ?_, below_call (below_call (below_call (below_call (below_call hWb hb1) hb2) hb3) hb4) hb5⟩
  have hsz : w.heap.size ≤ w4.heap.size := (below_call (below_call (below_call (below_call hWb hb1) hb2) hb3) hb4).size
  have := hown5.mono hsz
  rw [HE.out, ← Hsd.out]
  exact this
end Go.Proofs.Ytgeljaliddedfaa
