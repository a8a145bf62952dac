/-
  The law BytesBehind answers true, whatever the four lists of bytes: how the check of two wholes differs that go on alike behind two begins hangs on these, and on how much comes behind. No condition.
-/
import Derived.Test.YtgeljaliddedfaaWi
import Derived.Test.YtgeljaliddedfaaMathc
import Derived.Deep.RegionHeld
import Derived.Deep.RegionWith
namespace Go.Proofs.Ytgeljaliddedfaa
open Go.RowKit

set_option maxRecDepth 100000 in
set_option maxHeartbeats 800000 in
theorem whole_any (v0 v1 : Value) (l0 l1 : List UInt8) (w : World) (h0 : Rd w v0 l0) (h1 : Rd w v1 l1) (hl0 : l0.length ≤ 200) (hl1 : l1.length ≤ 200) :
    Calls Try.prog 36 #[v0, v1] w fun e w' => e = .returned (.int .u32 (crc (l0 ++ l1)).toNat) ∧ Below w.heap.size w w' := by
  obtain ⟨i0, hi, hz0, hz1, hz2⟩ := info_parts Try.info5
  obtain ⟨R, HR⟩ := named (crc (l0 ++ l1))
  rw [← HR.out]
  obtain ⟨a1, c1, hv1, -⟩ := id h1
  subst hv1
  go_enter Try.func36, Try.ntmps36
  go_wp2_with fail
  refine (copyBytes_any v0 l0 _ h0 (by omega)).mono ?_
  rintro e w1 ⟨v2, rfl, hown, hb⟩
  have hrd1 := h1.below hb
  have hsz := hb.size
  go_wp2_with (at_builtin; go_must (refine wpList_append_rd _ rfl (.tmp 6) (.tmp 7) 22 rfl i0 Try.underlying22 hi hz0 hz1 hz2 w.heap.size _ _ rfl rfl l0 l1 hown hrd1 ?_ hsz ?_))
  · omega
  intro v' w' hown' hg
  have hb' : Below w.heap.size w w' := hb.grown hg hsz (fun k hk => (World.ownsRow.lt hown k hk).1)
  clear hg
  go_wp2_with fail
  refine (crc_any _ (l0 ++ l1) _ hown'.rd).mono ?_
  rintro e w3 ⟨rfl, hw3⟩
  subst hw3
  rw [← HR.out]
  go_wp2
  go_ret
  exact ⟨rfl, hb'⟩

set_option maxRecDepth 100000 in
set_option maxHeartbeats 2000000 in
theorem behind_big (va vb vc vd : Value) (la lb lc ld : List UInt8) (w : World) (ha : Rd w va la) (hb : Rd w vb lb) (hc : Rd w vc lc) (hd : Rd w vd ld)
    (hbig : 200 < la.length ∨ 200 < lb.length ∨ 200 < lc.length ∨ 200 < ld.length) :
    Calls Try.prog 8 #[va, vb, vc, vd] w fun e w' => e = .returned (.bool true) ∧ Below w.heap.size w w' := by
  obtain ⟨aa, ca, rfl, -⟩ := ha
  obtain ⟨ab, cb, rfl, -⟩ := hb
  obtain ⟨ac, cc, rfl, -⟩ := hc
  obtain ⟨ad, cd, rfl, -⟩ := hd
  by_cases h1 : 200 < la.length
  · have h1' : (200 : Int) < la.length := by omega
    clear hbig
    go_enter Try.func8, Try.ntmps8
    go_wp2_with fail
    refine (awake_true _).mono ?_
    rintro e w7 ⟨rfl, hb7⟩
    go_wp2
    go_ret
    exact ⟨rfl, hb7⟩
  · have h1' : ¬ (200 : Int) < la.length := by omega
    by_cases h2 : 200 < lb.length
    · have h2' : (200 : Int) < lb.length := by omega
      clear hbig
      go_enter Try.func8, Try.ntmps8
      go_wp2_with fail
      refine (awake_true _).mono ?_
      rintro e w7 ⟨rfl, hb7⟩
      go_wp2
      go_ret
      exact ⟨rfl, hb7⟩
    · have h2' : ¬ (200 : Int) < lb.length := by omega
      by_cases h3 : 200 < lc.length
      · have h3' : (200 : Int) < lc.length := by omega
        clear hbig
        go_enter Try.func8, Try.ntmps8
        go_wp2_with fail
        refine (awake_true _).mono ?_
        rintro e w7 ⟨rfl, hb7⟩
        go_wp2
        go_ret
        exact ⟨rfl, hb7⟩
      · have h3' : ¬ (200 : Int) < lc.length := by omega
        have h4' : (200 : Int) < ld.length := by omega
        clear hbig
        go_enter Try.func8, Try.ntmps8
        go_wp2_with fail
        refine (awake_true _).mono ?_
        rintro e w7 ⟨rfl, hb7⟩
        go_wp2
        go_ret
        exact ⟨rfl, hb7⟩
theorem run_min_i64 (a b : Nat) (ty : TypeId) (w : World) : (Builtin.min_ #[3, 3] ty #[.int .i64 (a : Int), .int .i64 (b : Int)]).run Try.prog w = .ok (.int .i64 ((min a b : Nat) : Int)) w := by
  by_cases h : a ≤ b
  · rw [Nat.min_eq_left h]
    by_cases h2 : a = b
    · subst h2; simp [Builtin.min_, Builtin.min2]
    · have : (a : Int) < b := by omega
      simp [Builtin.min_, Builtin.min2]
      omega
  · rw [Nat.min_eq_right (by omega)]
    have : (b : Int) < a := by omega
    simp [Builtin.min_, Builtin.min2, this]

set_option maxRecDepth 100000 in
set_option maxHeartbeats 4000000 in
theorem behind_small (va vb vc vd : Value) (la lb lc ld : List UInt8) (w : World) (ha : Rd w va la) (hb : Rd w vb lb) (hc : Rd w vc lc) (hd : Rd w vd ld)
    (h1 : la.length ≤ 200) (h2 : lb.length ≤ 200) (h3 : lc.length ≤ 200) (h4 : ld.length ≤ 200) :
    Calls Try.prog 8 #[va, vb, vc, vd] w fun e w' => e = .returned (.bool true) ∧ Below w.heap.size w w' := by
  obtain ⟨aa, ca, hv, hca, hma, -⟩ := id ha
  subst hv
  obtain ⟨ab, cb, hv, hcb, hmb, -⟩ := id hb
  subst hv
  obtain ⟨ac, cc, hv, hcc, hmc, -⟩ := id hc
  subst hv
  obtain ⟨ad, cd, hv, hcd, hmd, -⟩ := id hd
  subst hv
  have h1' : ¬ (200 : Int) < la.length := by omega
  have h2' : ¬ (200 : Int) < lb.length := by omega
  have h3' : ¬ (200 : Int) < lc.length := by omega
  have h4' : ¬ (200 : Int) < ld.length := by omega
  have hmn := run_min_i64 la.length lb.length
  have hmm := run_min_i64 lc.length ld.length
  have hn1 : min la.length lb.length ≤ la.length := Nat.min_le_left _ _
  have hn2 : min la.length lb.length ≤ lb.length := Nat.min_le_right _ _
  have hm1 : min lc.length ld.length ≤ lc.length := Nat.min_le_left _ _
  have hm2 : min lc.length ld.length ≤ ld.length := Nat.min_le_right _ _
  obtain ⟨n, HN⟩ := named (min la.length lb.length)
  obtain ⟨m, HM⟩ := named (min lc.length ld.length)
  simp only [← HN.out] at hmn hn1 hn2
  simp only [← HM.out] at hmm hm1 hm2
  have rA := ha.take n hn1
  have rB := hb.take n hn2
  have rC := hc.take m hm1
  have rD := hd.take m hm2
  have lA : (la.take n).length = n := by rw [List.length_take]; omega
  have lB : (lb.take n).length = n := by rw [List.length_take]; omega
  have lC : (lc.take m).length = m := by rw [List.length_take]; omega
  have lD : (ld.take m).length = m := by rw [List.length_take]; omega
  have hs := crc_diff_same (la.take n) (lb.take n) (lc.take m) (ld.take m) (by rw [lC, lD])
  have hz := crc_diff_zero (la.take n) (lb.take n) (lc.take m)
  obtain ⟨A, HA⟩ := named (la.take n)
  obtain ⟨B, HB⟩ := named (lb.take n)
  obtain ⟨C, HC⟩ := named (lc.take m)
  obtain ⟨D, HD⟩ := named (ld.take m)
  rw [← HA.out] at rA lA hs hz
  rw [← HB.out] at rB lB hs hz
  rw [← HC.out] at rC lC hs hz
  rw [← HD.out] at rD lD hs
  have qA : A.length ≤ 200 := by omega
  have qB : B.length ≤ 200 := by omega
  have qC : C.length ≤ 200 := by omega
  have qD : D.length ≤ 200 := by omega
  have i1 : (n : Int) ≤ (ca : Int) := by omega
  have i2 : (n : Int) ≤ (cb : Int) := by omega
  have i3 : (m : Int) ≤ (cc : Int) := by omega
  have i4 : (m : Int) ≤ (cd : Int) := by omega
  have HS : Hid _ := hs
  have HZ : Hid _ := hz
  clear lA lB lC lD ha hb hc hd hs hz hma hmb hmc hmd
  go_enter Try.func8, Try.ntmps8
  go_wp2_with fail
  go_region_held (fun _ => True) (trivial)
    (first | (go_at_call_of 36 (Value.slice aa n ca); refine (whole_any _ _ A C _ ?_ ?_ qA qC).mono ?_; exact rA.drew; exact rC.drew; rintro e w1 ⟨rfl, hb1⟩) | (go_at_call_of 36 (Value.slice ab n cb); refine (whole_any _ _ B C _ ?_ ?_ qB qC).mono ?_; exact rB.drew.below hb1; exact rC.drew.below hb1; rintro e w2 ⟨rfl, hb2⟩))
  have hB2 : Below w.heap.size w w2 := ((Below.refl w.heap.size w).drew.trans hb1).trans (hb2.mono hb1.size)
  have rA2 := (rA.drew.below hb1).below hb2
  have rB2 := (rB.drew.below hb1).below hb2
  have rD2 := (rD.drew.below hb1).below hb2
  clear rA rB rC rD hb1 hb2
  have hO := HS.out
  have hZ := HZ.out
  obtain ⟨O, HO⟩ := named (crc (A ++ C) ^^^ crc (B ++ C))
  rw [← HO.out] at hO hZ
  rw [xor_u32, ← HO.out]
  have HO2 : Hid _ := hO
  have HZ2 : Hid _ := hZ
  clear hO hZ HS HZ
  go_wp2_with fail
  go_region_held (fun _ => True) (trivial)
    (first | (go_at_call_of 36 (Value.slice aa n ca); refine (whole_any _ _ A D _ ?_ ?_ qA qD).mono ?_; exact rA2.drew; exact rD2.drew; rintro e w3 ⟨rfl, hb3⟩) | (go_at_call_of 36 (Value.slice ab n cb); refine (whole_any _ _ B D _ ?_ ?_ qB qD).mono ?_; exact rB2.drew.below hb3; exact rD2.drew.below hb3; rintro e w4 ⟨rfl, hb4⟩))
  have hB4 : Below w.heap.size w w4 := hB2.trans ((((Below.refl w2.heap.size w2).drew.trans hb3).trans (hb4.mono hb3.size)).mono hB2.size)
  have rA4 := (rA2.drew.below hb3).below hb4
  have rB4 := (rB2.drew.below hb3).below hb4
  clear rA2 rB2 rD2 hb3 hb4 hB2
  rw [xor_u32, ← HO2.out]
  have hq : ((O.toNat : Int) == 0) = (((crc A).toNat : Int) == ((crc B).toNat : Int)) := by
    rw [Bool.eq_iff_iff]
    simp only [beq_iff_eq]
    constructor
    · intro h
      have : O = 0#32 := BitVec.eq_of_toNat_eq (by simp; omega)
      rw [HZ2.out.1 this]
    · intro h
      have : crc A = crc B := BitVec.eq_of_toNat_eq (by omega)
      rw [HZ2.out.2 this]
      rfl
  have hoo : ((O.toNat : Int) == (O.toNat : Int)) = true := by simp
  obtain ⟨cA, HcA⟩ := named (crc A)
  obtain ⟨cB, HcB⟩ := named (crc B)
  rw [← HcA.out, ← HcB.out] at hq
  go_wp2_with fail
  go_region_held (fun _ => True) (trivial)
    (first | (go_at_call_of 17 (Value.slice aa n ca); refine (crc_any _ A _ ?_).mono ?_; exact rA4.drew; rintro e w5 ⟨rfl, hw5⟩; subst hw5; rw [← HcA.out]) | (go_at_call_of 17 (Value.slice ab n cb); refine (crc_any _ B _ ?_).mono ?_; exact rB4.drew; rintro e w6 ⟨rfl, hw6⟩; subst hw6; rw [← HcB.out]) | (go_at_call 18; refine (awake_true _).mono ?_; rintro e w7 ⟨rfl, hb7⟩))
  go_wp2
  go_ret
  exact ⟨rfl, hB4.trans (((Below.refl w4.heap.size w4).drew.trans hb7).mono hB4.size)⟩

theorem behind_walk (va vb vc vd : Value) (la lb lc ld : List UInt8) (w : World) (ha : Rd w va la) (hb : Rd w vb lb) (hc : Rd w vc lc) (hd : Rd w vd ld) :
    Calls Try.prog 8 #[va, vb, vc, vd] w fun e w' => e = .returned (.bool true) ∧ Below w.heap.size w w' := by
  by_cases h : 200 < la.length ∨ 200 < lb.length ∨ 200 < lc.length ∨ 200 < ld.length
  · exact behind_big va vb vc vd la lb lc ld w ha hb hc hd h
  · exact behind_small va vb vc vd la lb lc ld w ha hb hc hd (by omega) (by omega) (by omega) (by omega)
end Go.Proofs.Ytgeljaliddedfaa
