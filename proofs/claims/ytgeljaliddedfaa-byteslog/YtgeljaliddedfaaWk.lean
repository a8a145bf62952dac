/-
  The contract of the statement's own function got. Own work.
-/
import Derived.Test.YtgeljaliddedfaaWj
namespace Go.Proofs.Ytgeljaliddedfaa
open Go.RowKit

theorem frozen_below {W w1 : World} {B k : Nat} (hB : B < W.heap.size) (hb : Below W.heap.size W w1) (h : W.frozen? ⟨B, k, none⟩ = false) : w1.frozen? ⟨B, k, none⟩ = false :=
  (hb.frozen (p := ⟨B, k, none⟩) hB).trans h
theorem frozen_new (w : World) (c : Array Value) (t : TypeId) (k : Nat) : (w.alloc (.cells c t)).frozen? ⟨w.heap.size, k, none⟩ = false := by
  unfold World.frozen?
  rw [show (w.alloc (.cells c t)).heap[(⟨w.heap.size, k, none⟩ : Addr).block]? = some (.cells c t (0, 0)) from heap_alloc_new w _]
  simp

set_option maxRecDepth 100000 in
set_option maxHeartbeats 2000000 in
theorem got_short (v : Value) (L : List UInt8) (p : Int) (w : World) (hrd : Rd w v L) (hl : L.length ≤ 100000) (hg : getB L p 1048576 = ([], 0, 11)) :
    Calls Try.prog 34 #[v, .int .i64 p] w fun e w' => e = .returned (.tuple #[.agg #[.int .u64 0, .int .i64 0, .slice none 0 0], .int .i64 0, .int .i64 11]) ∧ Below w.heap.size w w' := by
  have HG : Hid _ := hg
  clear hg
  obtain ⟨ao, co, hv, -⟩ := id hrd
  subst hv
  obtain ⟨W, HW⟩ := named (w.alloc (.cells #[.int .u64 0, .int .i64 0, .slice none 0 0] 47))
  have hWs : w.heap.size < W.heap.size := by rw [HW.out]; simp
  have hWb : Below w.heap.size w W := by rw [HW.out]; exact ((Below.refl _ _).alloc (Nat.le_refl _) _)
  have hS0 : W.cell? ⟨w.heap.size, 0, none⟩ = some (.int .u64 0) ∧ W.cell? ⟨w.heap.size, 1, none⟩ = some (.int .i64 0) ∧ W.cell? ⟨w.heap.size, 2, none⟩ = some (.slice none 0 0) := by
    rw [HW.out]
    refine ⟨?_, ?_, ?_⟩ <;> simp
  have hF0 : ∀ k, W.frozen? ⟨w.heap.size, k, none⟩ = false := fun k => by rw [HW.out]; exact frozen_new _ _ _ _
  go_enter Try.func34, Try.ntmps34
  go_wp2_with fail
  rw [← HW.out]
  refine (getBlob_any _ L p 1048576 _ (hrd.below hWb) (by omega) (by omega)).mono ?_
  rintro e w1 ⟨v1, rfl, hown1, hb1⟩
  rw [HG.out] at hown1 ⊢
  have hS1 := three_below hWs hb1 hS0
  have hF1 : ∀ k, w1.frozen? ⟨w.heap.size, k, none⟩ = false := fun k => frozen_below hWs hb1 (hF0 k)
  have hs1 := Nat.lt_of_lt_of_le hWs hb1.size
  obtain ⟨a1, c1, hv1, -⟩ := id hown1.rd
  subst hv1
  have hB1 := below_call hWb hb1
  have HS0 : Hid _ := hS0
  have HF0 : Hid _ := hF0
  clear hS0 hF0 hb1
  go_wp2_with fail
  refine (unseal_any _ [] _ hown1.rd (by simp)).mono ?_
  rintro e w2 ⟨v2, rfl, -, hb2⟩
  have hun : unsealL [] = ([], 11) := rfl
  rw [hun]
  have hS2 := three_below hs1 hb2 hS1
  have hF2 : ∀ k, w2.frozen? ⟨w.heap.size, k, none⟩ = false := fun k => frozen_below hs1 hb2 (hF1 k)
  have hB2 := below_call hB1 hb2
  obtain ⟨x0, x1, x2⟩ := hS2
  have f0 := hF2 0
  have f1 := hF2 1
  have f2 := hF2 2
  clear hun hS1 hF1 hF2 hb2 hown1 hB1
  go_wp2_with fail
  refine bodyPost_ret (v := .tuple #[.agg #[.int .u64 0, .int .i64 0, .slice none 0 0], .int .i64 0, .int .i64 11]) (by simp [results, Try.results34, go_sem, x0, x1, x2]) rfl ⟨rfl, ?_⟩
  exact (((hB2.setCell (Nat.le_refl _) _).setCell (Nat.le_refl _) _).setCell (Nat.le_refl _) _)

set_option maxRecDepth 100000 in
set_option maxHeartbeats 2000000 in
theorem got_ok (v : Value) (L S body B : List UInt8) (p : Int) (nx n p1 z p2 : Nat) (i : Int) (w : World) (hrd : Rd w v L) (hl : L.length ≤ 100000) (hSl : S.length ≤ 1000) (hbl : body.length ≤ 1000)
    (hg : getB L p 1048576 = (S, nx, 0)) (hu : unsealL S = (body, 0)) (hN : getU body 0 = (n, p1, 0)) (hI : getU body p1 = (z, p2, 0)) (hz : unfoldI z = i) (hB : getB body p2 body.length = (B, body.length, 0)) :
    Calls Try.prog 34 #[v, .int .i64 p] w fun e w' => ∃ vb, e = .returned (.tuple #[.agg #[.int .u64 n, .int .i64 i, vb], .int .i64 nx, .int .i64 0]) ∧ Rd w' vb B ∧ Below w.heap.size w w' := by
  have HG : Hid _ := hg
  have HU : Hid _ := hu
  have HN : Hid _ := hN
  have HI : Hid _ := hI
  have HZ : Hid _ := hz
  have HB : Hid _ := hB
  clear hg hu hN hI hz hB
  obtain ⟨ao, co, hv, -⟩ := id hrd
  subst hv
  obtain ⟨W, HW⟩ := named (w.alloc (.cells #[.int .u64 0, .int .i64 0, .slice none 0 0] 47))
  have hWs : w.heap.size < W.heap.size := by rw [HW.out]; simp
  have hWb : Below w.heap.size w W := by rw [HW.out]; exact ((Below.refl _ _).alloc (Nat.le_refl _) _)
  have hS0 : W.cell? ⟨w.heap.size, 0, none⟩ = some (.int .u64 0) ∧ W.cell? ⟨w.heap.size, 1, none⟩ = some (.int .i64 0) ∧ W.cell? ⟨w.heap.size, 2, none⟩ = some (.slice none 0 0) := by
    rw [HW.out]
    refine ⟨?_, ?_, ?_⟩ <;> simp
  have hF0 : ∀ k, W.frozen? ⟨w.heap.size, k, none⟩ = false := fun k => by rw [HW.out]; exact frozen_new _ _ _ _
  go_enter Try.func34, Try.ntmps34
  go_wp2_with fail
  rw [← HW.out]
  refine (getBlob_any _ L p 1048576 _ (hrd.below hWb) (by omega) (by omega)).mono ?_
  rintro e w1 ⟨v1, rfl, hown1, hb1⟩
  rw [HG.out] at hown1 ⊢
  have hS1 := three_below hWs hb1 hS0
  have hF1 : ∀ k, w1.frozen? ⟨w.heap.size, k, none⟩ = false := fun k => frozen_below hWs hb1 (hF0 k)
  have hs1 := Nat.lt_of_lt_of_le hWs hb1.size
  obtain ⟨a1, c1, hv1, -⟩ := id hown1.rd
  subst hv1
  have hB1 := below_call hWb hb1
  clear hS0 hF0 hb1
  go_wp2_with fail
  refine (unseal_any _ S _ hown1.rd (by omega)).mono ?_
  rintro e w2 ⟨v2, rfl, hown2, hb2⟩
  rw [HU.out] at hown2 ⊢
  have hS2 := three_below hs1 hb2 hS1
  have hF2 : ∀ k, w2.frozen? ⟨w.heap.size, k, none⟩ = false := fun k => frozen_below hs1 hb2 (hF1 k)
  have hs2 := Nat.lt_of_lt_of_le hs1 hb2.size
  have hB2 := below_call hB1 hb2
  obtain ⟨a2, c2, hv2, -⟩ := id hown2.rd
  subst hv2
  clear hS1 hF1 hb2 hown1 hB1
  go_wp2_with fail
  have hrd2 := hown2.rd.alloc
  refine (getUint_any _ body 0 _ (hown2.rd.alloc _) (by omega)).mono ?_
  rintro e w3 ⟨rfl, hw3⟩
  subst hw3
  rw [HN.out]
  go_wp2_with fail
  refine (getInt_any _ body p1 _ (hown2.rd.alloc _) (by omega)).mono ?_
  rintro e w3 ⟨rfl, hw3⟩
  subst hw3
  rw [HI.out]
  simp only [HZ.out]
  go_wp2_with fail
  obtain ⟨V, HV⟩ := named (w2.alloc (.cells #[.int .u64 n, .int .i64 i, .slice none 0 0] 47))
  have hVs : w2.heap.size < V.heap.size := by rw [HV.out]; simp
  have hVb : Below w2.heap.size w2 V := by rw [HV.out]; exact ((Below.refl _ _).alloc (Nat.le_refl _) _)
  have hT0 : V.cell? ⟨w2.heap.size, 0, none⟩ = some (.int .u64 n) ∧ V.cell? ⟨w2.heap.size, 1, none⟩ = some (.int .i64 i) ∧ V.cell? ⟨w2.heap.size, 2, none⟩ = some (.slice none 0 0) := by
    rw [HV.out]
    refine ⟨?_, ?_, ?_⟩ <;> simp
  have hG0 : ∀ k, V.frozen? ⟨w2.heap.size, k, none⟩ = false := fun k => by rw [HV.out]; exact frozen_new _ _ _ _
  have hSV := three_below hs2 hVb hS2
  have hFV : ∀ k, V.frozen? ⟨w.heap.size, k, none⟩ = false := fun k => frozen_below hs2 hVb (hF2 k)
  have hsV := Nat.lt_of_lt_of_le hs2 hVb.size
  have hBV := below_call hB2 hVb
  rw [← HV.out]
  refine (getBlob_any _ body p2 body.length _ (hown2.rd.below hVb) (by omega) (by omega)).mono ?_
  rintro e w4 ⟨v4, rfl, hown4, hb4⟩
  rw [HB.out] at hown4 ⊢
  have hS4 := three_below hsV hb4 hSV
  have hT4 := three_below hVs hb4 hT0
  have f0 := frozen_below hsV hb4 (hFV 0)
  have f1 := frozen_below hsV hb4 (hFV 1)
  have f2 := frozen_below hsV hb4 (hFV 2)
  have k2 := frozen_below hVs hb4 (hG0 2)
  obtain ⟨a4, c4, hv4, -⟩ := id hown4.rd
  subst hv4
  have hrd4 := hown4.rd
  have hB4 := below_call hBV hb4
  obtain ⟨x0, x1, x2⟩ := hS4
  obtain ⟨y0, y1, y2⟩ := hT4
  have hne : ¬ w2.heap.size = w.heap.size := by omega
  have hne' : ¬ w.heap.size = w2.heap.size := by omega
  clear hS2 hF2 hT0 hG0 hSV hFV hBV hb4 hown2 hrd2 hVb hrd4
  go_wp2_with fail
  refine bodyPost_ret (v := .tuple #[.agg #[.int .u64 n, .int .i64 i, .slice a4 B.length c4], .int .i64 nx, .int .i64 0]) (by simp [results, Try.results34, go_sem, x0, x1, x2]) rfl ⟨_, rfl, ?_, ?_⟩
  · have s1 : Own _ V.heap.size (.slice a4 B.length c4) B := ownsRow_setCell_below hown4 (a := ⟨w2.heap.size, 2, none⟩) hVs (.slice a4 B.length c4)
    have s2 : Own _ V.heap.size (.slice a4 B.length c4) B := ownsRow_setCell_below s1 (a := ⟨w.heap.size, 0, none⟩) hsV (.int .u64 n)
    have s3 : Own _ V.heap.size (.slice a4 B.length c4) B := ownsRow_setCell_below s2 (a := ⟨w.heap.size, 1, none⟩) hsV (.int .i64 i)
    have s4 : Own _ V.heap.size (.slice a4 B.length c4) B := ownsRow_setCell_below s3 (a := ⟨w.heap.size, 2, none⟩) hsV (.slice a4 B.length c4)
    exact s4.rd
  · exact ((((hB4.setCell (Nat.le_of_lt hs2) _).setCell (Nat.le_refl _) _).setCell (Nat.le_refl _) _).setCell (Nat.le_refl _) _)
end Go.Proofs.Ytgeljaliddedfaa
