/-
  The law FrameTells answers true, whatever the bytes and the place: Put and Get answer as the document defines. No condition.
-/
import Derived.Test.YtlpjfcfajagobaaRm
namespace Go.Proofs.Ytlpjfcfajagobaa
open Go.RowKit

set_option maxRecDepth 100000 in
set_option maxHeartbeats 800000 in
theorem tells_off (vo vb vi : Value) (o b i : List UInt8) (p : Int) (w : World) (hro : Rd w vo o) (hrb : Rd w vb b) (hri : Rd w vi i) (ho : o.length ≤ 140737488351232) (hb : b.length ≤ 140737488351232) (hi : i.length ≤ 140737488351232) (hbad : 2000 < o.length + b.length + i.length) :
    Calls Try.prog 4 #[vo, vb, vi, .int .i64 p] w fun e w' => e = .returned (.bool true) ∧ Below w.heap.size w w' := by
  obtain ⟨a0, c0, rfl, -⟩ := hro
  obtain ⟨a1, c1, rfl, -⟩ := hrb
  obtain ⟨a2, c2, rfl, -⟩ := hri
  have h : (2000 : Int) < (o.length : Int) + b.length + i.length := by omega
  clear hbad
  go_enter Try.func4, Try.ntmps4
  go_wp2_with fail
  refine (awake_true _).mono ?_
  rintro e w7 ⟨rfl, hb7⟩
  go_wp2
  go_ret
  exact ⟨rfl, hb7⟩

set_option maxRecDepth 100000 in
set_option maxHeartbeats 1600000 in
theorem tells_in (vo vb vi : Value) (o b i : List UInt8) (p : Int) (w : World) (hro : Rd w vo o) (hrb : Rd w vb b) (hri : Rd w vi i) (hsm : o.length + b.length + i.length ≤ 2000) :
    Calls Try.prog 4 #[vo, vb, vi, .int .i64 p] w fun e w' => e = .returned (.bool true) ∧ Below w.heap.size w w' := by
  obtain ⟨a0, c0, hv, -⟩ := id hro
  subst hv
  obtain ⟨a1, c1, hv, -⟩ := id hrb
  subst hv
  obtain ⟨a2, c2, hv, -⟩ := id hri
  subst hv
  have h : ¬ (2000 : Int) < (o.length : Int) + b.length + i.length := by omega
  have HB : Hid (o.length ≤ 2000 ∧ b.length ≤ 2000 ∧ i.length ≤ 2000) := by refine ⟨?_, ?_, ?_⟩ <;> omega
  obtain ⟨P, HP⟩ := named (putL o b)
  obtain ⟨G, HG⟩ := named (getF i p)
  go_enter Try.func4, Try.ntmps4
  go_wp2_with fail
  refine (copyBytes_any _ o _ hro (by have := HB.out; omega)).mono ?_
  rintro e w1 ⟨v1, rfl, hown1, hb1⟩
  obtain ⟨d1, e1, hv, -⟩ := id hown1.rd
  subst hv
  have hr1 := hown1.rd
  have hro1 := hro.below hb1
  have hrb1 := hrb.below hb1
  have hri1 := hri.below hb1
  have hB1 : Below w.heap.size w w1 := hb1
  clear hown1 hb1 hro hrb hri
  go_wp2_with fail
  refine (put_any _ _ o b _ hr1 hrb1 (by have := HB.out; omega)).mono ?_
  rintro e w2 ⟨v2, rfl, hown2, hb2⟩
  rw [← HP.out] at hown2 ⊢
  obtain ⟨d2, e2, hv, -⟩ := id hown2.rd
  subst hv
  have hx2 := hown2.rd
  have hro2 := hro1.below hb2
  have hrb2 := hrb1.below hb2
  have hri2 := hri1.below hb2
  have hB2 := below_call hB1 hb2
  clear hown2 hb2 hro1 hrb1 hri1 hr1 hB1
  go_wp2_with fail
  refine (refPut_any _ _ o b _ hro2 hrb2 (by have := HB.out; omega) (by have := HB.out; omega)).mono ?_
  rintro e w3 ⟨v3, rfl, hown3, hb3⟩
  rw [← HP.out] at hown3 ⊢
  obtain ⟨d3, e3, hv, -⟩ := id hown3.rd
  subst hv
  have hy3 := hown3.rd
  have hx3 := hx2.below hb3
  have hri3 := hri2.below hb3
  have hB3 := below_call hB2 hb3
  clear hown3 hb3 hro2 hrb2 hri2 hx2 hB2
  go_wp2_with fail
  refine (copyBytes_any _ i _ hri3 (by have := HB.out; omega)).mono ?_
  rintro e w4 ⟨v4, rfl, hown4, hb4⟩
  obtain ⟨d4, e4, hv, -⟩ := id hown4.rd
  subst hv
  have hin4 := hown4.rd
  have hy4 := hy3.below hb4
  have hx4 := hx3.below hb4
  have hri4 := hri3.below hb4
  have hB4 := below_call hB3 hb4
  clear hown4 hb4 hri3 hx3 hy3 hB3
  go_wp2_with fail
  refine (get_any _ i p _ hin4 (by have := HB.out; omega)).mono ?_
  rintro e w5 ⟨v5, rfl, hown5, hb5⟩
  rw [← HG.out] at hown5 ⊢
  obtain ⟨d5, e5, hv, -⟩ := id hown5.rd
  subst hv
  have hp5 := hown5.rd
  have hin5 := hin4.below hb5
  have hy5 := hy4.below hb5
  have hx5 := hx4.below hb5
  have hri5 := hri4.below hb5
  have hB5 := below_call hB4 hb5
  clear hown5 hb5 hri4 hx4 hy4 hB4 hin4
  go_wp2_with fail
  refine (refGet_any _ i p _ hri5 (by have := HB.out; omega)).mono ?_
  rintro e w6 ⟨v6, rfl, hown6, hb6⟩
  rw [← HG.out] at hown6 ⊢
  obtain ⟨d6, e6, hv, -⟩ := id hown6.rd
  subst hv
  have hq6 := hown6.rd
  have hp6 := hp5.below hb6
  have hin6 := hin5.below hb6
  have hy6 := hy5.below hb6
  have hx6 := hx5.below hb6
  have hri6 := hri5.below hb6
  have hB6 := below_call hB5 hb6
  clear hown6 hb6 hri5 hx5 hy5 hB5 hin5 hp5
  go_wp2_with fail
  refine (same_any _ _ _ _ _ hx6 hy6).mono ?_
  rintro e w7 ⟨rfl, hw7⟩
  subst hw7
  rw [decide_eq_true rfl]
  go_wp2_with fail
  refine (same_any _ _ _ _ _ hp6 hq6).mono ?_
  rintro e w8 ⟨rfl, hw8⟩
  subst hw8
  rw [decide_eq_true rfl]
  go_wp2_with fail
  refine (same_any _ _ _ _ _ hin6 hri6).mono ?_
  rintro e w9 ⟨rfl, hw9⟩
  subst hw9
  rw [decide_eq_true rfl]
  go_wp2_with fail
  refine (awake_true _).mono ?_
  rintro e w10 ⟨rfl, hb10⟩
  go_wp2
  go_ret
  exact ⟨rfl, below_call hB6 hb10⟩

theorem tells_walk (vo vb vi : Value) (o b i : List UInt8) (p : Int) (w : World) (hro : Rd w vo o) (hrb : Rd w vb b) (hri : Rd w vi i) (ho : o.length ≤ 140737488351232) (hb : b.length ≤ 140737488351232) (hi : i.length ≤ 140737488351232) :
    Calls Try.prog 4 #[vo, vb, vi, .int .i64 p] w fun e w' => e = .returned (.bool true) ∧ Below w.heap.size w w' := by
  by_cases h : 2000 < o.length + b.length + i.length
  · exact tells_off vo vb vi o b i p w hro hrb hri ho hb hi h
  · exact tells_in vo vb vi o b i p w hro hrb hri (by omega)
end Go.Proofs.Ytlpjfcfajagobaa
