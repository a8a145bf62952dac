/-
  Several of my texts in one: Jb Jk. Own work.
-/
import Derived.Test.YtpiiehenmkinaaaDoorU3
import Derived.Test.YtpiiehenmkinaaaDoorU4
import Derived.Test.YtpiiehenmkinaaaDoorU8
/-
  The independent reading's digits. Own work.
-/
namespace Go.Proofs.YtpiiehenmkinaaaDoor
open Go.RowKit

theorem itoa_pos (u : Nat) : Lib.itoa (u : Int) = Lib.decDigits u := by
  unfold Lib.itoa
  rw [if_neg (by omega)]
  rfl
theorem itoa_negs (u : Nat) (h : 1 ≤ u) : Lib.itoa (-(u : Int)) = 45 :: Lib.decDigits u := by
  unfold Lib.itoa
  rw [if_pos (by omega)]
  simp
theorem dec_big (u : Nat) (h : ¬ u < 10) : Lib.decDigits u = Lib.decDigits (u / 10) ++ Lib.decDigits (u % 10) := by
  rw [Lib.decDigits, dif_neg h, Lib.decDigits_one (show u % 10 < 10 by omega)]
theorem cat_mk (a b : List UInt8) : (⟨a.toArray⟩ : ByteArray) ++ ⟨b.toArray⟩ = ⟨(a ++ b).toArray⟩ := by
  apply ByteArray.ext
  simp [ByteArray.data_append]
theorem cat_minus (b : List UInt8) : (⟨#[45]⟩ : ByteArray) ++ ⟨b.toArray⟩ = ⟨(45 :: b).toArray⟩ := by
  apply ByteArray.ext
  simp [ByteArray.data_append]
theorem dec_len (u : Nat) (h : u ≤ 9223372036854775808) : (Lib.decDigits u).length ≤ 21 := by
  by_cases h2 : u ≤ 9223372036854775807
  · have := Lib.itoa_length_le (u : Int) (by omega) (by omega)
    rwa [itoa_pos] at this
  · have := Lib.itoa_length_le (-(u : Int)) (by omega) (by omega)
    rw [itoa_negs u (by omega)] at this
    simp only [List.length_cons] at this
    omega
set_option maxRecDepth 100000 in
theorem dig_one (u : Nat) (h : u < 10) (w : World) : Calls Tryd.prog 45 #[.int .i64 u] w fun e w' => e = .returned (.string ⟨(Lib.itoa (u : Int)).toArray⟩) ∧ Below w.heap.size w w' := by
  have h1 : ¬ (u : Int) < 0 := by omega
  have h2 : (u : Int) < 10 := by omega
  rw [itoa_pos, Lib.decDigits_one h]
  have hts := run_toStr
  have hrs := run_str _ _ _ (Rd.one w (UInt8.ofNat (48 + u)) (48 + (u : Int)) 5 (by rw [UInt8.toNat_ofNat']; omega))
  go_enter Tryd.func45, Tryd.ntmps45
  go_wp2
  go_ret
  exact ⟨rfl, (Below.refl _ _).alloc (Nat.le_refl _) _⟩
set_option maxRecDepth 100000 in
theorem dig_pos (u : Nat) : ∀ (w : World), u ≤ 9223372036854775807 → Calls Tryd.prog 45 #[.int .i64 u] w fun e w' => e = .returned (.string ⟨(Lib.itoa (u : Int)).toArray⟩) ∧ Below w.heap.size w w' := by
  induction u using Nat.strongRecOn with
  | _ u ih =>
    intro w hu
    by_cases h : u < 10
    · exact dig_one u h w
    · have h1 : ¬ (u : Int) < 0 := by omega
      have h2 : ¬ (u : Int) < 10 := by omega
      rw [itoa_pos, dec_big u h]
      have IH := hide ih
      clear ih
      have e1 : ((u / 10 : Nat) : Int) = (u : Int) / 10 := by omega
      have e2 : ((u % 10 : Nat) : Int) = (u : Int) % 10 := by omega
      have i1 := IH.out (u / 10) (by omega)
      have i2 := IH.out (u % 10) (by omega)
      rw [itoa_pos] at i1 i2
      have b1 := dec_len (u / 10) (by omega)
      have b2 := dec_len (u % 10) (by omega)
      obtain ⟨d1, D1⟩ := named (Lib.decDigits (u / 10))
      obtain ⟨d2, D2⟩ := named (Lib.decDigits (u % 10))
      rw [← D1.out] at b1
      rw [← D2.out] at b2
      have b3 : ¬ 9223372036854775807 < d1.length + d2.length := by omega
      rw [← D1.out, e1] at i1
      rw [← D2.out, e2] at i2
      rw [← D1.out, ← D2.out]
      have I1 := hide i1
      have I2 := hide i2
      clear i1 i2 e1 e2 h
      go_enter Tryd.func45, Tryd.ntmps45
      go_wp2_with fail
      refine (I1.out w (by omega)).mono ?_
      rintro e w1 ⟨rfl, hb1⟩
      go_wp2_with fail
      refine (I2.out w1 (by omega)).mono ?_
      rintro e w2 ⟨rfl, hb2⟩
      go_wp2
      go_ret
      exact ⟨by rw [cat_mk]; rfl, below_call hb1 hb2⟩
set_option maxRecDepth 100000 in
set_option maxHeartbeats 1600000 in
theorem dig_neg (u : Nat) : ∀ (w : World), 1 ≤ u → u ≤ 9223372036854775808 → Calls Tryd.prog 45 #[.int .i64 (-(u : Int))] w fun e w' => e = .returned (.string ⟨(Lib.itoa (-(u : Int))).toArray⟩) ∧ Below w.heap.size w w' := by
  induction u using Nat.strongRecOn with
  | _ u ih =>
    intro w h0 hu
    have h1 : (-(u : Int)) < 0 := by omega
    rw [itoa_negs u h0]
    obtain ⟨z, HZ⟩ := named (-(u : Int))
    rw [← HZ.out] at h1 ⊢
    have hz2 : -9223372036854775808 ≤ z ∧ z < 0 := by rw [HZ.out]; omega
    by_cases h : u < 10
    · have hz3 : -10 < z := by rw [HZ.out]; omega
      have i1 := dig_one u h
      have e1 : Int.tdiv z 10 = 0 := by
        rw [HZ.out, Int.neg_tdiv, Int.tdiv_eq_ediv_of_nonneg (by omega)]
        omega
      have e2 : -z = (u : Int) := by rw [HZ.out]; omega
      rw [itoa_pos] at i1
      have b1 := dec_len u (by omega)
      obtain ⟨d1, D1⟩ := named (Lib.decDigits u)
      rw [← D1.out] at b1
      have b3 : ¬ 9223372036854775807 < 1 + d1.length := by omega
      rw [← D1.out] at i1 ⊢
      rw [← e2] at i1
      have I1 := hide i1
      clear i1 e2
      go_enter Tryd.func45, Tryd.ntmps45
      go_wp2_with fail
      refine (I1.out w).mono ?_
      rintro e w1 ⟨rfl, hb1⟩
      go_wp2
      go_ret
      exact ⟨by rw [cat_minus]; rfl, hb1⟩
    · have e1 : Int.tdiv z 10 = -((u / 10 : Nat) : Int) := by
        rw [HZ.out, Int.neg_tdiv, Int.tdiv_eq_ediv_of_nonneg (by omega)]
        omega
      have e2 : Int.tmod z 10 = -((u % 10 : Nat) : Int) := by
        rw [HZ.out, Int.neg_tmod, Int.tmod_eq_emod_of_nonneg (by omega)]
        omega
      have e3 : ¬ (-((u / 10 : Nat) : Int)) = 0 := by omega
      have i1 := ih (u / 10) (by omega)
      have i2 := dig_pos (u % 10)
      rw [itoa_negs (u / 10) (by omega)] at i1
      rw [itoa_pos] at i2
      rw [dec_big u h]
      have b1 := dec_len (u / 10) (by omega)
      have b2 := dec_len (u % 10) (by omega)
      obtain ⟨d1, D1⟩ := named (Lib.decDigits (u / 10))
      obtain ⟨d2, D2⟩ := named (Lib.decDigits (u % 10))
      rw [← D1.out] at b1
      rw [← D2.out] at b2
      have b3 : ¬ 9223372036854775807 < d1.length + d2.length := by omega
      rw [← D1.out] at i1 ⊢
      rw [← D2.out] at i2 ⊢
      obtain ⟨q, HQ⟩ := named (u / 10)
      obtain ⟨r, HR⟩ := named (u % 10)
      rw [← HQ.out] at i1 e1 e3
      rw [← HR.out] at i2 e2
      have hq : 1 ≤ q ∧ q ≤ 922337203685477580 := by rw [HQ.out]; omega
      have hr : r < 10 := by rw [HR.out]; omega
      have I1 := hide i1
      have I2 := hide i2
      clear i1 i2 ih h
      have e4 : -(-(r : Int)) = (r : Int) := by omega
      go_enter Tryd.func45, Tryd.ntmps45
      go_wp2_with fail
      refine (I1.out w (by omega) (by omega)).mono ?_
      rintro e w1 ⟨rfl, hb1⟩
      go_wp2_with fail
      refine (I2.out w1 (by omega)).mono ?_
      rintro e w2 ⟨rfl, hb2⟩
      go_wp2
      go_ret
      exact ⟨by rw [cat_mk]; rfl, below_call hb1 hb2⟩
theorem digits_any (n : Int) (w : World) (h : IR n) : Calls Tryd.prog 45 #[.int .i64 n] w fun e w' => e = .returned (.string ⟨(Lib.itoa n).toArray⟩) ∧ Below w.heap.size w w' := by
  by_cases h0 : 0 ≤ n
  · obtain ⟨u, rfl⟩ := Int.eq_ofNat_of_zero_le h0
    exact dig_pos u w (by have := h.2; omega)
  · obtain ⟨u, hu⟩ := Int.eq_ofNat_of_zero_le (show 0 ≤ -n by omega)
    have : n = -(u : Int) := by omega
    subst this
    exact dig_neg u w (by omega) (by have := h.1; omega)
end Go.Proofs.YtpiiehenmkinaaaDoor

/-
  The independent reading's Show. Own work.
-/
namespace Go.Proofs.YtpiiehenmkinaaaDoor
open Go.RowKit

theorem ba_ext {a b : ByteArray} (h : a.data.toList = b.data.toList) : a = b := ByteArray.ext (Array.toList_inj.1 h)
theorem show_cat (i : Ins) : showB i = if i.s = ⟨#[]⟩ then ((((((((wordT i.op ++ ⟨#[32]⟩) ++ ⟨(Lib.itoa i.a).toArray⟩) ++ ⟨#[32]⟩) ++ ⟨(Lib.itoa i.b).toArray⟩) ++ ⟨#[32]⟩) ++ ⟨(Lib.itoa i.c).toArray⟩) ++ ⟨#[32]⟩) ++ ⟨(Lib.itoa i.n).toArray⟩)
    else (((((((((wordT i.op ++ ⟨#[32]⟩) ++ ⟨(Lib.itoa i.a).toArray⟩) ++ ⟨#[32]⟩) ++ ⟨(Lib.itoa i.b).toArray⟩) ++ ⟨#[32]⟩) ++ ⟨(Lib.itoa i.c).toArray⟩) ++ ⟨#[32]⟩) ++ ⟨(Lib.itoa i.n).toArray⟩) ++ ⟨#[32]⟩) ++ i.s := by
  unfold showB txts
  split
  · apply ba_ext
    simp [Lib.join, ByteArray.data_append]
  · apply ba_ext
    simp [Lib.join, ByteArray.data_append]
set_option maxRecDepth 100000 in
set_option maxHeartbeats 3200000 in
theorem refShow_any (i : Ins) (hw : i.wf) (w : World) (hs : i.s.size ≤ 3000) : Calls Tryd.prog 19 #[insV i] w fun e w' => e = .returned (.string (showB i)) ∧ Below w.heap.size w w' := by
  have hsc := show_cat i
  obtain ⟨op, a, b, c, n, s⟩ := i
  simp only at hs hsc
  have hwop := hw.op
  simp only at hwop
  have ka := fun w => digits_any a w hw.a
  have kb := fun w => digits_any b w hw.b
  have kc := fun w => digits_any c w hw.c
  have kn := fun w => digits_any n w hw.n
  have ko := fun w => digits_any (op : Int) w ⟨by omega, by omega⟩
  have kw := fun w => refWord_any op hwop w
  have la := itoa_len a hw.a
  have lb := itoa_len b hw.b
  have lc := itoa_len c hw.c
  have ln := itoa_len n hw.n
  have lo := itoa_len (op : Int) ⟨by omega, by omega⟩
  have lw := wordT_len op hwop
  have sz : ∀ l : List UInt8, (⟨l.toArray⟩ : ByteArray).size = l.length := fun l => by show l.toArray.size = _; simp
  rw [← sz] at la lb lc ln lo
  have lw2 : (wordT op).size ≤ 3000 := by show (wordT op).data.size ≤ 3000; rw [← Array.length_toList]; exact lw
  have hwt0 : wordL op = [] → wordT op = (⟨#[111, 112]⟩ : ByteArray) ++ ⟨(Lib.itoa (op : Int)).toArray⟩ := fun h => by rw [cat_op]; unfold wordT; rw [if_pos h]
  have hwt1 : wordL op ≠ [] → wordT op = wordS op := fun h => by unfold wordT; rw [if_neg h]
  have hemp := wordS_emp op
  have hwne : wordL op = [] → wordS op = ⟨#[]⟩ := fun h => by unfold wordS; rw [h]; rfl
  obtain ⟨DA, HDA⟩ := named (⟨(Lib.itoa a).toArray⟩ : ByteArray)
  obtain ⟨DB, HDB⟩ := named (⟨(Lib.itoa b).toArray⟩ : ByteArray)
  obtain ⟨DC, HDC⟩ := named (⟨(Lib.itoa c).toArray⟩ : ByteArray)
  obtain ⟨DN, HDN⟩ := named (⟨(Lib.itoa n).toArray⟩ : ByteArray)
  obtain ⟨DO, HDO⟩ := named (⟨(Lib.itoa (op : Int)).toArray⟩ : ByteArray)
  obtain ⟨SH, HSH⟩ := named (showB ⟨op, a, b, c, n, s⟩)
  rw [← HDA.out] at ka la hsc
  rw [← HDB.out] at kb lb hsc
  rw [← HDC.out] at kc lc hsc
  rw [← HDN.out] at kn ln hsc
  rw [← HDO.out] at ko lo hwt0
  rw [← HSH.out] at hsc ⊢
  have KA := hide ka
  have KB := hide kb
  have KC := hide kc
  have KN := hide kn
  have KO := hide ko
  have HSC := hide hsc
  obtain ⟨WT, HWT⟩ := named (wordT op)
  rw [← HWT.out] at HSC hwt0 hwt1 lw2
  obtain ⟨WS, HWS⟩ := named (wordS op)
  rw [← HWS.out] at hwt1 hwne kw hemp
  obtain ⟨W, HW⟩ := named (w.alloc (.cells #[.int .u8 (op : Int), .int .i64 a, .int .i64 b, .int .i64 c, .int .i64 n, .string s] 28))
  obtain ⟨ib, HIB⟩ := named w.heap.size
  have HI := hide (show C6 W ib (.int .u8 (op : Int)) (.int .i64 a) (.int .i64 b) (.int .i64 c) (.int .i64 n) (.string s) by rw [HW.out, HIB.out]; exact C6.new _ _ _ _ _ _ _ _)
  have HBW := hide (show Below w.heap.size w W by rw [HW.out]; exact (Below.refl _ _).alloc (Nat.le_refl _) _)
  clear ka kb kc kn ko hsc sz lw hw
  show Calls Tryd.prog 19 #[.agg #[.int .u8 (op : Int), .int .i64 a, .int .i64 b, .int .i64 c, .int .i64 n, .string s]] w _
  go_enter Tryd.func19, Tryd.ntmps19
  go_wp2_with fail
  rw [← HW.out, ← HIB.out]
  refine (kw W).mono ?_
  rintro e w1 ⟨rfl, hb1⟩
  have HI1 := hide (HI.out.below hb1)
  have HB1 := hide (below_call HBW.out hb1)
  obtain ⟨x0, x1, x2, x3, x4, x5⟩ := Cells6 HI1.out
  clear kw hb1
  by_cases h0 : wordL op = []
  · have hws := hwne h0
    have hwt := hwt0 h0
    subst hws
    clear hwne hwt1 hwt0 hemp
    have b0 : ¬ 9223372036854775807 < 2 + DO.size := by omega
    go_wp2_with fail
    refine (KO.out w1).mono ?_
    rintro e w2 ⟨rfl, hb2⟩
    have HI2 := hide (HI1.out.below hb2)
    have HB2 := hide (below_call HB1.out hb2)
    clear x0 x1 x2 x3 x4 x5 hb2
    have b1 : ¬ 9223372036854775807 < 2 + DO.size + 1 := by omega
    have b2 : ¬ 9223372036854775807 < 2 + DO.size + 1 + DA.size := by omega
    have b3 : ¬ 9223372036854775807 < 2 + DO.size + 1 + DA.size + 1 := by omega
    have b4 : ¬ 9223372036854775807 < 2 + DO.size + 1 + DA.size + 1 + DB.size := by omega
    have b5 : ¬ 9223372036854775807 < 2 + DO.size + 1 + DA.size + 1 + DB.size + 1 := by omega
    have b6 : ¬ 9223372036854775807 < 2 + DO.size + 1 + DA.size + 1 + DB.size + 1 + DC.size := by omega
    have b7 : ¬ 9223372036854775807 < 2 + DO.size + 1 + DA.size + 1 + DB.size + 1 + DC.size + 1 := by omega
    have b8 : ¬ 9223372036854775807 < 2 + DO.size + 1 + DA.size + 1 + DB.size + 1 + DC.size + 1 + DN.size := by omega
    have b9 : ¬ 9223372036854775807 < 2 + DO.size + 1 + DA.size + 1 + DB.size + 1 + DC.size + 1 + DN.size + 1 := by omega
    have b10 : ¬ 9223372036854775807 < 2 + DO.size + 1 + DA.size + 1 + DB.size + 1 + DC.size + 1 + DN.size + 1 + s.size := by omega
    go_wp2_with fail
    have hs0 : w2.drew.cell? ⟨ib, 0, none⟩ = some (.int .u8 (op : Int)) ∧ w2.drew.cell? ⟨ib, 1, none⟩ = some (.int .i64 a) ∧ w2.drew.cell? ⟨ib, 2, none⟩ = some (.int .i64 b) ∧ w2.drew.cell? ⟨ib, 3, none⟩ = some (.int .i64 c) ∧ w2.drew.cell? ⟨ib, 4, none⟩ = some (.int .i64 n) ∧ w2.drew.cell? ⟨ib, 5, none⟩ = some (.string s) := Cells6 HI2.out
    refine wp_region_held_drew (S := (fun w' => w'.cell? ⟨ib, 0, none⟩ = some (.int .u8 (op : Int)) ∧ w'.cell? ⟨ib, 1, none⟩ = some (.int .i64 a) ∧ w'.cell? ⟨ib, 2, none⟩ = some (.int .i64 b) ∧ w'.cell? ⟨ib, 3, none⟩ = some (.int .i64 c) ∧ w'.cell? ⟨ib, 4, none⟩ = some (.int .i64 n) ∧ w'.cell? ⟨ib, 5, none⟩ = some (.string s))) (by kernel_rfl) hs0 (fun _ => ?_)
    refine wpAnyH_take (i := 0) (oi := { dst := some 14, op := Go.Op.move (Go.Operand.tmp 3), type := 9, pos := "ref.go:38", after := #[], guard := none }) (v := ?_) rfl (by kernel_rfl) (by kernel_rfl) (by kernel_rfl) (fun _ _ _ h => h) (Or.inl ⟨by rfl, ?hy1⟩) hs0 ?_
    case hy1 =>
      intro u hu
      obtain ⟨u0, u1, u2, u3, u4, u5⟩ := hu
      go_simp
      try with_reducible rfl
    simp only [Act.put, List.setIfInBounds_toArray, List.set_cons_zero, List.set_cons_succ]
    refine wpAnyH_take (i := 1) (oi := { dst := some 15, op := Go.Op.binOp Go.BinOp.add 9 (Go.Operand.tmp 14) (Go.Operand.const (Go.Value.string { data := #[32] })) 9, type := 9, pos := "ref.go:38", after := #[{ on := 0, ground := Go.Ground.data }], guard := none }) (v := ?_) rfl (by kernel_rfl) (by kernel_rfl) (by kernel_rfl) (fun _ _ _ h => h) (Or.inl ⟨by rfl, ?hy2⟩) hs0 ?_
    case hy2 =>
      intro u hu
      obtain ⟨u0, u1, u2, u3, u4, u5⟩ := hu
      go_simp
      try with_reducible rfl
    simp only [Act.put, List.setIfInBounds_toArray, List.set_cons_zero, List.set_cons_succ]
    refine wpAnyH_take (i := 2) (oi := { dst := some 16, op := Go.Op.fieldAddr 28 (Go.Operand.tmp 1) 1, type := 0, pos := "ref.go:38", after := #[], guard := none }) (v := ?_) rfl (by kernel_rfl) (by kernel_rfl) (by kernel_rfl) (fun _ _ _ h => h) (Or.inl ⟨by rfl, ?hy3⟩) hs0 ?_
    case hy3 =>
      intro u hu
      obtain ⟨u0, u1, u2, u3, u4, u5⟩ := hu
      go_simp
      try with_reducible rfl
    simp only [Act.put, List.setIfInBounds_toArray, List.set_cons_zero, List.set_cons_succ]
    refine wpAnyH_take (i := 3) (oi := { dst := some 17, op := Go.Op.load 3 (Go.Operand.tmp 16), type := 3, pos := "ref.go:38", after := #[{ on := 2, ground := Go.Ground.data }], guard := none }) (v := ?_) rfl (by kernel_rfl) (by kernel_rfl) (by kernel_rfl) (fun _ _ _ h => h) (Or.inl ⟨by rfl, ?hy4⟩) hs0 ?_
    case hy4 =>
      intro u hu
      obtain ⟨u0, u1, u2, u3, u4, u5⟩ := hu
      go_simp
      try with_reducible rfl
    simp only [Act.put, List.setIfInBounds_toArray, List.set_cons_zero, List.set_cons_succ]
    refine wpAnyH_take (i := 7) (oi := { dst := some 21, op := Go.Op.fieldAddr 28 (Go.Operand.tmp 1) 2, type := 0, pos := "ref.go:38", after := #[], guard := none }) (v := ?_) rfl (by kernel_rfl) (by kernel_rfl) (by kernel_rfl) (fun _ _ _ h => h) (Or.inl ⟨by rfl, ?hy5⟩) hs0 ?_
    case hy5 =>
      intro u hu
      obtain ⟨u0, u1, u2, u3, u4, u5⟩ := hu
      go_simp
      try with_reducible rfl
    simp only [Act.put, List.setIfInBounds_toArray, List.set_cons_zero, List.set_cons_succ]
    refine wpAnyH_take (i := 8) (oi := { dst := some 22, op := Go.Op.load 3 (Go.Operand.tmp 21), type := 3, pos := "ref.go:38", after := #[{ on := 7, ground := Go.Ground.data }], guard := none }) (v := ?_) rfl (by kernel_rfl) (by kernel_rfl) (by kernel_rfl) (fun _ _ _ h => h) (Or.inl ⟨by rfl, ?hy6⟩) hs0 ?_
    case hy6 =>
      intro u hu
      obtain ⟨u0, u1, u2, u3, u4, u5⟩ := hu
      go_simp
      try with_reducible rfl
    simp only [Act.put, List.setIfInBounds_toArray, List.set_cons_zero, List.set_cons_succ]
    refine wpAnyH_take (i := 12) (oi := { dst := some 26, op := Go.Op.fieldAddr 28 (Go.Operand.tmp 1) 3, type := 0, pos := "ref.go:38", after := #[], guard := none }) (v := ?_) rfl (by kernel_rfl) (by kernel_rfl) (by kernel_rfl) (fun _ _ _ h => h) (Or.inl ⟨by rfl, ?hy7⟩) hs0 ?_
    case hy7 =>
      intro u hu
      obtain ⟨u0, u1, u2, u3, u4, u5⟩ := hu
      go_simp
      try with_reducible rfl
    simp only [Act.put, List.setIfInBounds_toArray, List.set_cons_zero, List.set_cons_succ]
    refine wpAnyH_take (i := 13) (oi := { dst := some 27, op := Go.Op.load 3 (Go.Operand.tmp 26), type := 3, pos := "ref.go:38", after := #[{ on := 12, ground := Go.Ground.data }], guard := none }) (v := ?_) rfl (by kernel_rfl) (by kernel_rfl) (by kernel_rfl) (fun _ _ _ h => h) (Or.inl ⟨by rfl, ?hy8⟩) hs0 ?_
    case hy8 =>
      intro u hu
      obtain ⟨u0, u1, u2, u3, u4, u5⟩ := hu
      go_simp
      try with_reducible rfl
    simp only [Act.put, List.setIfInBounds_toArray, List.set_cons_zero, List.set_cons_succ]
    refine wpAnyH_take (i := 17) (oi := { dst := some 31, op := Go.Op.fieldAddr 28 (Go.Operand.tmp 1) 4, type := 0, pos := "ref.go:38", after := #[], guard := none }) (v := ?_) rfl (by kernel_rfl) (by kernel_rfl) (by kernel_rfl) (fun _ _ _ h => h) (Or.inl ⟨by rfl, ?hy9⟩) hs0 ?_
    case hy9 =>
      intro u hu
      obtain ⟨u0, u1, u2, u3, u4, u5⟩ := hu
      go_simp
      try with_reducible rfl
    simp only [Act.put, List.setIfInBounds_toArray, List.set_cons_zero, List.set_cons_succ]
    refine wpAnyH_take (i := 18) (oi := { dst := some 32, op := Go.Op.load 2 (Go.Operand.tmp 31), type := 2, pos := "ref.go:38", after := #[{ on := 17, ground := Go.Ground.data }], guard := none }) (v := ?_) rfl (by kernel_rfl) (by kernel_rfl) (by kernel_rfl) (fun _ _ _ h => h) (Or.inl ⟨by rfl, ?hy10⟩) hs0 ?_
    case hy10 =>
      intro u hu
      obtain ⟨u0, u1, u2, u3, u4, u5⟩ := hu
      go_simp
      try with_reducible rfl
    simp only [Act.put, List.setIfInBounds_toArray, List.set_cons_zero, List.set_cons_succ]
    refine wpAnyH_ready (rs := [4]) (by kernel_rfl) (by simp) ?_
    refine AllReadyH.cons (o := { dst := some 18, op := Go.Op.call { callee := Go.Callee.value (Go.Operand.func 45), args := #[Go.Operand.tmp 17], argTypes := #[2] }, type := 9, pos := "ref.go:38", after := #[{ on := 3, ground := Go.Ground.data }], guard := none }) rfl (fun K hK => ?_) AllReadyH.nil
    go_simp
    refine (KA.out w2.drew).mono ?_
    rintro e w3 ⟨rfl, hb⟩
    have hb : Below w2.heap.size w2 w3 := ⟨hb.os, hb.tape, hb.output, hb.size, hb.block⟩
    have HI3 := hide (HI2.out.below hb)
    have HB3 := hide (below_call HB2.out hb)
    have hs3 := Cells6 HI3.out
    clear hb
    refine hK.out _ _ hs3 (fun _ => ?_)
    clear hK K
    try simp only [Act.put, List.setIfInBounds_toArray, List.set_cons_zero, List.set_cons_succ]
    refine wpAnyH_take (i := 5) (oi := { dst := some 19, op := Go.Op.binOp Go.BinOp.add 9 (Go.Operand.tmp 15) (Go.Operand.tmp 18) 9, type := 9, pos := "ref.go:38", after := #[{ on := 1, ground := Go.Ground.data }, { on := 4, ground := Go.Ground.data }], guard := none }) (v := ?_) rfl (by kernel_rfl) (by kernel_rfl) (by kernel_rfl) (fun _ _ _ h => h) (Or.inl ⟨by rfl, ?hy12⟩) hs3 ?_
    case hy12 =>
      intro u hu
      obtain ⟨u0, u1, u2, u3, u4, u5⟩ := hu
      go_simp
      try with_reducible rfl
    simp only [Act.put, List.setIfInBounds_toArray, List.set_cons_zero, List.set_cons_succ]
    refine wpAnyH_take (i := 6) (oi := { dst := some 20, op := Go.Op.binOp Go.BinOp.add 9 (Go.Operand.tmp 19) (Go.Operand.const (Go.Value.string { data := #[32] })) 9, type := 9, pos := "ref.go:38", after := #[{ on := 5, ground := Go.Ground.data }], guard := none }) (v := ?_) rfl (by kernel_rfl) (by kernel_rfl) (by kernel_rfl) (fun _ _ _ h => h) (Or.inl ⟨by rfl, ?hy13⟩) hs3 ?_
    case hy13 =>
      intro u hu
      obtain ⟨u0, u1, u2, u3, u4, u5⟩ := hu
      go_simp
      try with_reducible rfl
    simp only [Act.put, List.setIfInBounds_toArray, List.set_cons_zero, List.set_cons_succ]
    refine wpAnyH_ready (rs := [9]) (by kernel_rfl) (by simp) ?_
    refine AllReadyH.cons (o := { dst := some 23, op := Go.Op.call { callee := Go.Callee.value (Go.Operand.func 45), args := #[Go.Operand.tmp 22], argTypes := #[2] }, type := 9, pos := "ref.go:38", after := #[{ on := 8, ground := Go.Ground.data }, { on := 4, ground := Go.Ground.chain }], guard := none }) rfl (fun K hK => ?_) AllReadyH.nil
    go_simp
    refine (KB.out w3).mono ?_
    rintro e w4 ⟨rfl, hb⟩
    have hb : Below w3.heap.size w3 w4 := ⟨hb.os, hb.tape, hb.output, hb.size, hb.block⟩
    have HI4 := hide (HI3.out.below hb)
    have HB4 := hide (below_call HB3.out hb)
    have hs4 := Cells6 HI4.out
    clear hb
    refine hK.out _ _ hs4 (fun _ => ?_)
    clear hK K
    try simp only [Act.put, List.setIfInBounds_toArray, List.set_cons_zero, List.set_cons_succ]
    refine wpAnyH_take (i := 10) (oi := { dst := some 24, op := Go.Op.binOp Go.BinOp.add 9 (Go.Operand.tmp 20) (Go.Operand.tmp 23) 9, type := 9, pos := "ref.go:38", after := #[{ on := 6, ground := Go.Ground.data }, { on := 9, ground := Go.Ground.data }], guard := none }) (v := ?_) rfl (by kernel_rfl) (by kernel_rfl) (by kernel_rfl) (fun _ _ _ h => h) (Or.inl ⟨by rfl, ?hy15⟩) hs4 ?_
    case hy15 =>
      intro u hu
      obtain ⟨u0, u1, u2, u3, u4, u5⟩ := hu
      go_simp
      try with_reducible rfl
    simp only [Act.put, List.setIfInBounds_toArray, List.set_cons_zero, List.set_cons_succ]
    refine wpAnyH_take (i := 11) (oi := { dst := some 25, op := Go.Op.binOp Go.BinOp.add 9 (Go.Operand.tmp 24) (Go.Operand.const (Go.Value.string { data := #[32] })) 9, type := 9, pos := "ref.go:38", after := #[{ on := 10, ground := Go.Ground.data }], guard := none }) (v := ?_) rfl (by kernel_rfl) (by kernel_rfl) (by kernel_rfl) (fun _ _ _ h => h) (Or.inl ⟨by rfl, ?hy16⟩) hs4 ?_
    case hy16 =>
      intro u hu
      obtain ⟨u0, u1, u2, u3, u4, u5⟩ := hu
      go_simp
      try with_reducible rfl
    simp only [Act.put, List.setIfInBounds_toArray, List.set_cons_zero, List.set_cons_succ]
    refine wpAnyH_ready (rs := [14]) (by kernel_rfl) (by simp) ?_
    refine AllReadyH.cons (o := { dst := some 28, op := Go.Op.call { callee := Go.Callee.value (Go.Operand.func 45), args := #[Go.Operand.tmp 27], argTypes := #[2] }, type := 9, pos := "ref.go:38", after := #[{ on := 13, ground := Go.Ground.data }, { on := 9, ground := Go.Ground.chain }], guard := none }) rfl (fun K hK => ?_) AllReadyH.nil
    go_simp
    refine (KC.out w4).mono ?_
    rintro e w5 ⟨rfl, hb⟩
    have hb : Below w4.heap.size w4 w5 := ⟨hb.os, hb.tape, hb.output, hb.size, hb.block⟩
    have HI5 := hide (HI4.out.below hb)
    have HB5 := hide (below_call HB4.out hb)
    have hs5 := Cells6 HI5.out
    clear hb
    refine hK.out _ _ hs5 (fun _ => ?_)
    clear hK K
    try simp only [Act.put, List.setIfInBounds_toArray, List.set_cons_zero, List.set_cons_succ]
    refine wpAnyH_take (i := 15) (oi := { dst := some 29, op := Go.Op.binOp Go.BinOp.add 9 (Go.Operand.tmp 25) (Go.Operand.tmp 28) 9, type := 9, pos := "ref.go:38", after := #[{ on := 11, ground := Go.Ground.data }, { on := 14, ground := Go.Ground.data }], guard := none }) (v := ?_) rfl (by kernel_rfl) (by kernel_rfl) (by kernel_rfl) (fun _ _ _ h => h) (Or.inl ⟨by rfl, ?hy18⟩) hs5 ?_
    case hy18 =>
      intro u hu
      obtain ⟨u0, u1, u2, u3, u4, u5⟩ := hu
      go_simp
      try with_reducible rfl
    simp only [Act.put, List.setIfInBounds_toArray, List.set_cons_zero, List.set_cons_succ]
    refine wpAnyH_take (i := 16) (oi := { dst := some 30, op := Go.Op.binOp Go.BinOp.add 9 (Go.Operand.tmp 29) (Go.Operand.const (Go.Value.string { data := #[32] })) 9, type := 9, pos := "ref.go:38", after := #[{ on := 15, ground := Go.Ground.data }], guard := none }) (v := ?_) rfl (by kernel_rfl) (by kernel_rfl) (by kernel_rfl) (fun _ _ _ h => h) (Or.inl ⟨by rfl, ?hy19⟩) hs5 ?_
    case hy19 =>
      intro u hu
      obtain ⟨u0, u1, u2, u3, u4, u5⟩ := hu
      go_simp
      try with_reducible rfl
    simp only [Act.put, List.setIfInBounds_toArray, List.set_cons_zero, List.set_cons_succ]
    refine wpAnyH_ready (rs := [19]) (by kernel_rfl) (by simp) ?_
    refine AllReadyH.cons (o := { dst := some 33, op := Go.Op.call { callee := Go.Callee.value (Go.Operand.func 45), args := #[Go.Operand.tmp 32], argTypes := #[2] }, type := 9, pos := "ref.go:38", after := #[{ on := 18, ground := Go.Ground.data }, { on := 14, ground := Go.Ground.chain }], guard := none }) rfl (fun K hK => ?_) AllReadyH.nil
    go_simp
    refine (KN.out w5).mono ?_
    rintro e w6 ⟨rfl, hb⟩
    have hb : Below w5.heap.size w5 w6 := ⟨hb.os, hb.tape, hb.output, hb.size, hb.block⟩
    have HI6 := hide (HI5.out.below hb)
    have HB6 := hide (below_call HB5.out hb)
    have hs6 := Cells6 HI6.out
    clear hb
    refine hK.out _ _ hs6 (fun _ => ?_)
    clear hK K
    try simp only [Act.put, List.setIfInBounds_toArray, List.set_cons_zero, List.set_cons_succ]
    refine wpAnyH_take (i := 20) (oi := { dst := some 34, op := Go.Op.binOp Go.BinOp.add 9 (Go.Operand.tmp 30) (Go.Operand.tmp 33) 9, type := 9, pos := "ref.go:38", after := #[{ on := 16, ground := Go.Ground.data }, { on := 19, ground := Go.Ground.data }], guard := none }) (v := ?_) rfl (by kernel_rfl) (by kernel_rfl) (by kernel_rfl) (fun _ _ _ h => h) (Or.inl ⟨by rfl, ?hy21⟩) hs6 ?_
    case hy21 =>
      intro u hu
      obtain ⟨u0, u1, u2, u3, u4, u5⟩ := hu
      go_simp
      try with_reducible rfl
    simp only [Act.put, List.setIfInBounds_toArray, List.set_cons_zero, List.set_cons_succ]
    refine wpAnyH_ready (rs := [21]) (by kernel_rfl) (by simp) ?_
    refine AllReadyH.cons (o := { dst := some 3, op := Go.Op.assign (Go.Operand.tmp 34), type := 9, pos := "ref.go:38", after := #[{ on := 20, ground := Go.Ground.data }, { on := 19, ground := Go.Ground.chain }, { on := 0, ground := Go.Ground.phase }, { on := 1, ground := Go.Ground.phase }, { on := 2, ground := Go.Ground.phase }, { on := 3, ground := Go.Ground.phase }, { on := 4, ground := Go.Ground.phase }, { on := 5, ground := Go.Ground.phase }, { on := 6, ground := Go.Ground.phase }, { on := 7, ground := Go.Ground.phase }, { on := 8, ground := Go.Ground.phase }, { on := 9, ground := Go.Ground.phase }, { on := 10, ground := Go.Ground.phase }, { on := 11, ground := Go.Ground.phase }, { on := 12, ground := Go.Ground.phase }, { on := 13, ground := Go.Ground.phase }, { on := 14, ground := Go.Ground.phase }, { on := 15, ground := Go.Ground.phase }, { on := 16, ground := Go.Ground.phase }, { on := 17, ground := Go.Ground.phase }, { on := 18, ground := Go.Ground.phase }, { on := 19, ground := Go.Ground.phase }, { on := 20, ground := Go.Ground.phase }], guard := none }) rfl (fun K hK => ?_) AllReadyH.nil
    go_simp
    refine hK.out _ _ hs6 (fun _ => ?_)
    clear hK K
    try simp only [Act.put, List.setIfInBounds_toArray, List.set_cons_zero, List.set_cons_succ]
    refine wpAnyH_done (by kernel_rfl) ?_ _
    obtain ⟨x0, x1, x2, x3, x4, x5⟩ := Cells6 HI6.out
    by_cases h4 : s.size = 0
    · have g4 := str_nil_b s h4
      have hse : s = ⟨#[]⟩ := ba_ext (by show s.data.toList = []; rw [Array.toList_eq_nil_iff]; exact Array.eq_empty_of_size_eq_zero h4)
      have hR := HSC.out
      rw [if_pos hse] at hR
      clear hse
      go_wp2
      go_ret
      exact ⟨by rw [hR, hwt]; rfl, HB6.out⟩
    · have g4 := str_nil_nb s h4
      have hR := HSC.out
      rw [if_neg (fun e => h4 (by rw [e]; rfl))] at hR
      go_wp2
      go_ret
      exact ⟨by rw [hR, hwt]; rfl, HB6.out⟩
  · have hwt := hwt1 h0
    subst hwt
    have hsz : ¬ WT.size = 0 := fun h => by
      apply h0
      have e1 : WT = ⟨#[]⟩ := ba_ext (by show WT.data.toList = []; rw [Array.toList_eq_nil_iff]; exact Array.eq_empty_of_size_eq_zero h)
      rw [e1] at hemp
      cases hL : wordL op with
      | nil => rfl
      | cons x t =>
        rw [hL, ByteArray.toList_eq] at hemp
        simp at hemp
    have g0 := str_nil_nb WT hsz
    obtain ⟨w2, HW2⟩ := named w1
    have HI2 := hide (show C6 w2 ib (.int .u8 (op : Int)) (.int .i64 a) (.int .i64 b) (.int .i64 c) (.int .i64 n) (.string s) by rw [HW2.out]; exact HI1.out)
    have HB2 := hide (show Below w.heap.size w w2 by rw [HW2.out]; exact HB1.out)
    rw [← HW2.out] at x0 x1 x2 x3 x4 x5 ⊢
    clear hwne hwt1 hwt0 hemp hsz x0 x1 x2 x3 x4 x5
    have b1 : ¬ 9223372036854775807 < WT.size + 1 := by omega
    have b2 : ¬ 9223372036854775807 < WT.size + 1 + DA.size := by omega
    have b3 : ¬ 9223372036854775807 < WT.size + 1 + DA.size + 1 := by omega
    have b4 : ¬ 9223372036854775807 < WT.size + 1 + DA.size + 1 + DB.size := by omega
    have b5 : ¬ 9223372036854775807 < WT.size + 1 + DA.size + 1 + DB.size + 1 := by omega
    have b6 : ¬ 9223372036854775807 < WT.size + 1 + DA.size + 1 + DB.size + 1 + DC.size := by omega
    have b7 : ¬ 9223372036854775807 < WT.size + 1 + DA.size + 1 + DB.size + 1 + DC.size + 1 := by omega
    have b8 : ¬ 9223372036854775807 < WT.size + 1 + DA.size + 1 + DB.size + 1 + DC.size + 1 + DN.size := by omega
    have b9 : ¬ 9223372036854775807 < WT.size + 1 + DA.size + 1 + DB.size + 1 + DC.size + 1 + DN.size + 1 := by omega
    have b10 : ¬ 9223372036854775807 < WT.size + 1 + DA.size + 1 + DB.size + 1 + DC.size + 1 + DN.size + 1 + s.size := by omega
    go_wp2_with fail
    have hs0 : w2.drew.cell? ⟨ib, 0, none⟩ = some (.int .u8 (op : Int)) ∧ w2.drew.cell? ⟨ib, 1, none⟩ = some (.int .i64 a) ∧ w2.drew.cell? ⟨ib, 2, none⟩ = some (.int .i64 b) ∧ w2.drew.cell? ⟨ib, 3, none⟩ = some (.int .i64 c) ∧ w2.drew.cell? ⟨ib, 4, none⟩ = some (.int .i64 n) ∧ w2.drew.cell? ⟨ib, 5, none⟩ = some (.string s) := Cells6 HI2.out
    refine wp_region_held_drew (S := (fun w' => w'.cell? ⟨ib, 0, none⟩ = some (.int .u8 (op : Int)) ∧ w'.cell? ⟨ib, 1, none⟩ = some (.int .i64 a) ∧ w'.cell? ⟨ib, 2, none⟩ = some (.int .i64 b) ∧ w'.cell? ⟨ib, 3, none⟩ = some (.int .i64 c) ∧ w'.cell? ⟨ib, 4, none⟩ = some (.int .i64 n) ∧ w'.cell? ⟨ib, 5, none⟩ = some (.string s))) (by kernel_rfl) hs0 (fun _ => ?_)
    refine wpAnyH_take (i := 0) (oi := { dst := some 14, op := Go.Op.move (Go.Operand.tmp 3), type := 9, pos := "ref.go:38", after := #[], guard := none }) (v := ?_) rfl (by kernel_rfl) (by kernel_rfl) (by kernel_rfl) (fun _ _ _ h => h) (Or.inl ⟨by rfl, ?hy23⟩) hs0 ?_
    case hy23 =>
      intro u hu
      obtain ⟨u0, u1, u2, u3, u4, u5⟩ := hu
      go_simp
      try with_reducible rfl
    simp only [Act.put, List.setIfInBounds_toArray, List.set_cons_zero, List.set_cons_succ]
    refine wpAnyH_take (i := 1) (oi := { dst := some 15, op := Go.Op.binOp Go.BinOp.add 9 (Go.Operand.tmp 14) (Go.Operand.const (Go.Value.string { data := #[32] })) 9, type := 9, pos := "ref.go:38", after := #[{ on := 0, ground := Go.Ground.data }], guard := none }) (v := ?_) rfl (by kernel_rfl) (by kernel_rfl) (by kernel_rfl) (fun _ _ _ h => h) (Or.inl ⟨by rfl, ?hy24⟩) hs0 ?_
    case hy24 =>
      intro u hu
      obtain ⟨u0, u1, u2, u3, u4, u5⟩ := hu
      go_simp
      try with_reducible rfl
    simp only [Act.put, List.setIfInBounds_toArray, List.set_cons_zero, List.set_cons_succ]
    refine wpAnyH_take (i := 2) (oi := { dst := some 16, op := Go.Op.fieldAddr 28 (Go.Operand.tmp 1) 1, type := 0, pos := "ref.go:38", after := #[], guard := none }) (v := ?_) rfl (by kernel_rfl) (by kernel_rfl) (by kernel_rfl) (fun _ _ _ h => h) (Or.inl ⟨by rfl, ?hy25⟩) hs0 ?_
    case hy25 =>
      intro u hu
      obtain ⟨u0, u1, u2, u3, u4, u5⟩ := hu
      go_simp
      try with_reducible rfl
    simp only [Act.put, List.setIfInBounds_toArray, List.set_cons_zero, List.set_cons_succ]
    refine wpAnyH_take (i := 3) (oi := { dst := some 17, op := Go.Op.load 3 (Go.Operand.tmp 16), type := 3, pos := "ref.go:38", after := #[{ on := 2, ground := Go.Ground.data }], guard := none }) (v := ?_) rfl (by kernel_rfl) (by kernel_rfl) (by kernel_rfl) (fun _ _ _ h => h) (Or.inl ⟨by rfl, ?hy26⟩) hs0 ?_
    case hy26 =>
      intro u hu
      obtain ⟨u0, u1, u2, u3, u4, u5⟩ := hu
      go_simp
      try with_reducible rfl
    simp only [Act.put, List.setIfInBounds_toArray, List.set_cons_zero, List.set_cons_succ]
    refine wpAnyH_take (i := 7) (oi := { dst := some 21, op := Go.Op.fieldAddr 28 (Go.Operand.tmp 1) 2, type := 0, pos := "ref.go:38", after := #[], guard := none }) (v := ?_) rfl (by kernel_rfl) (by kernel_rfl) (by kernel_rfl) (fun _ _ _ h => h) (Or.inl ⟨by rfl, ?hy27⟩) hs0 ?_
    case hy27 =>
      intro u hu
      obtain ⟨u0, u1, u2, u3, u4, u5⟩ := hu
      go_simp
      try with_reducible rfl
    simp only [Act.put, List.setIfInBounds_toArray, List.set_cons_zero, List.set_cons_succ]
    refine wpAnyH_take (i := 8) (oi := { dst := some 22, op := Go.Op.load 3 (Go.Operand.tmp 21), type := 3, pos := "ref.go:38", after := #[{ on := 7, ground := Go.Ground.data }], guard := none }) (v := ?_) rfl (by kernel_rfl) (by kernel_rfl) (by kernel_rfl) (fun _ _ _ h => h) (Or.inl ⟨by rfl, ?hy28⟩) hs0 ?_
    case hy28 =>
      intro u hu
      obtain ⟨u0, u1, u2, u3, u4, u5⟩ := hu
      go_simp
      try with_reducible rfl
    simp only [Act.put, List.setIfInBounds_toArray, List.set_cons_zero, List.set_cons_succ]
    refine wpAnyH_take (i := 12) (oi := { dst := some 26, op := Go.Op.fieldAddr 28 (Go.Operand.tmp 1) 3, type := 0, pos := "ref.go:38", after := #[], guard := none }) (v := ?_) rfl (by kernel_rfl) (by kernel_rfl) (by kernel_rfl) (fun _ _ _ h => h) (Or.inl ⟨by rfl, ?hy29⟩) hs0 ?_
    case hy29 =>
      intro u hu
      obtain ⟨u0, u1, u2, u3, u4, u5⟩ := hu
      go_simp
      try with_reducible rfl
    simp only [Act.put, List.setIfInBounds_toArray, List.set_cons_zero, List.set_cons_succ]
    refine wpAnyH_take (i := 13) (oi := { dst := some 27, op := Go.Op.load 3 (Go.Operand.tmp 26), type := 3, pos := "ref.go:38", after := #[{ on := 12, ground := Go.Ground.data }], guard := none }) (v := ?_) rfl (by kernel_rfl) (by kernel_rfl) (by kernel_rfl) (fun _ _ _ h => h) (Or.inl ⟨by rfl, ?hy30⟩) hs0 ?_
    case hy30 =>
      intro u hu
      obtain ⟨u0, u1, u2, u3, u4, u5⟩ := hu
      go_simp
      try with_reducible rfl
    simp only [Act.put, List.setIfInBounds_toArray, List.set_cons_zero, List.set_cons_succ]
    refine wpAnyH_take (i := 17) (oi := { dst := some 31, op := Go.Op.fieldAddr 28 (Go.Operand.tmp 1) 4, type := 0, pos := "ref.go:38", after := #[], guard := none }) (v := ?_) rfl (by kernel_rfl) (by kernel_rfl) (by kernel_rfl) (fun _ _ _ h => h) (Or.inl ⟨by rfl, ?hy31⟩) hs0 ?_
    case hy31 =>
      intro u hu
      obtain ⟨u0, u1, u2, u3, u4, u5⟩ := hu
      go_simp
      try with_reducible rfl
    simp only [Act.put, List.setIfInBounds_toArray, List.set_cons_zero, List.set_cons_succ]
    refine wpAnyH_take (i := 18) (oi := { dst := some 32, op := Go.Op.load 2 (Go.Operand.tmp 31), type := 2, pos := "ref.go:38", after := #[{ on := 17, ground := Go.Ground.data }], guard := none }) (v := ?_) rfl (by kernel_rfl) (by kernel_rfl) (by kernel_rfl) (fun _ _ _ h => h) (Or.inl ⟨by rfl, ?hy32⟩) hs0 ?_
    case hy32 =>
      intro u hu
      obtain ⟨u0, u1, u2, u3, u4, u5⟩ := hu
      go_simp
      try with_reducible rfl
    simp only [Act.put, List.setIfInBounds_toArray, List.set_cons_zero, List.set_cons_succ]
    refine wpAnyH_ready (rs := [4]) (by kernel_rfl) (by simp) ?_
    refine AllReadyH.cons (o := { dst := some 18, op := Go.Op.call { callee := Go.Callee.value (Go.Operand.func 45), args := #[Go.Operand.tmp 17], argTypes := #[2] }, type := 9, pos := "ref.go:38", after := #[{ on := 3, ground := Go.Ground.data }], guard := none }) rfl (fun K hK => ?_) AllReadyH.nil
    go_simp
    refine (KA.out w2.drew).mono ?_
    rintro e w3 ⟨rfl, hb⟩
    have hb : Below w2.heap.size w2 w3 := ⟨hb.os, hb.tape, hb.output, hb.size, hb.block⟩
    have HI3 := hide (HI2.out.below hb)
    have HB3 := hide (below_call HB2.out hb)
    have hs3 := Cells6 HI3.out
    clear hb
    refine hK.out _ _ hs3 (fun _ => ?_)
    clear hK K
    try simp only [Act.put, List.setIfInBounds_toArray, List.set_cons_zero, List.set_cons_succ]
    refine wpAnyH_take (i := 5) (oi := { dst := some 19, op := Go.Op.binOp Go.BinOp.add 9 (Go.Operand.tmp 15) (Go.Operand.tmp 18) 9, type := 9, pos := "ref.go:38", after := #[{ on := 1, ground := Go.Ground.data }, { on := 4, ground := Go.Ground.data }], guard := none }) (v := ?_) rfl (by kernel_rfl) (by kernel_rfl) (by kernel_rfl) (fun _ _ _ h => h) (Or.inl ⟨by rfl, ?hy34⟩) hs3 ?_
    case hy34 =>
      intro u hu
      obtain ⟨u0, u1, u2, u3, u4, u5⟩ := hu
      go_simp
      try with_reducible rfl
    simp only [Act.put, List.setIfInBounds_toArray, List.set_cons_zero, List.set_cons_succ]
    refine wpAnyH_take (i := 6) (oi := { dst := some 20, op := Go.Op.binOp Go.BinOp.add 9 (Go.Operand.tmp 19) (Go.Operand.const (Go.Value.string { data := #[32] })) 9, type := 9, pos := "ref.go:38", after := #[{ on := 5, ground := Go.Ground.data }], guard := none }) (v := ?_) rfl (by kernel_rfl) (by kernel_rfl) (by kernel_rfl) (fun _ _ _ h => h) (Or.inl ⟨by rfl, ?hy35⟩) hs3 ?_
    case hy35 =>
      intro u hu
      obtain ⟨u0, u1, u2, u3, u4, u5⟩ := hu
      go_simp
      try with_reducible rfl
    simp only [Act.put, List.setIfInBounds_toArray, List.set_cons_zero, List.set_cons_succ]
    refine wpAnyH_ready (rs := [9]) (by kernel_rfl) (by simp) ?_
    refine AllReadyH.cons (o := { dst := some 23, op := Go.Op.call { callee := Go.Callee.value (Go.Operand.func 45), args := #[Go.Operand.tmp 22], argTypes := #[2] }, type := 9, pos := "ref.go:38", after := #[{ on := 8, ground := Go.Ground.data }, { on := 4, ground := Go.Ground.chain }], guard := none }) rfl (fun K hK => ?_) AllReadyH.nil
    go_simp
    refine (KB.out w3).mono ?_
    rintro e w4 ⟨rfl, hb⟩
    have hb : Below w3.heap.size w3 w4 := ⟨hb.os, hb.tape, hb.output, hb.size, hb.block⟩
    have HI4 := hide (HI3.out.below hb)
    have HB4 := hide (below_call HB3.out hb)
    have hs4 := Cells6 HI4.out
    clear hb
    refine hK.out _ _ hs4 (fun _ => ?_)
    clear hK K
    try simp only [Act.put, List.setIfInBounds_toArray, List.set_cons_zero, List.set_cons_succ]
    refine wpAnyH_take (i := 10) (oi := { dst := some 24, op := Go.Op.binOp Go.BinOp.add 9 (Go.Operand.tmp 20) (Go.Operand.tmp 23) 9, type := 9, pos := "ref.go:38", after := #[{ on := 6, ground := Go.Ground.data }, { on := 9, ground := Go.Ground.data }], guard := none }) (v := ?_) rfl (by kernel_rfl) (by kernel_rfl) (by kernel_rfl) (fun _ _ _ h => h) (Or.inl ⟨by rfl, ?hy37⟩) hs4 ?_
    case hy37 =>
      intro u hu
      obtain ⟨u0, u1, u2, u3, u4, u5⟩ := hu
      go_simp
      try with_reducible rfl
    simp only [Act.put, List.setIfInBounds_toArray, List.set_cons_zero, List.set_cons_succ]
    refine wpAnyH_take (i := 11) (oi := { dst := some 25, op := Go.Op.binOp Go.BinOp.add 9 (Go.Operand.tmp 24) (Go.Operand.const (Go.Value.string { data := #[32] })) 9, type := 9, pos := "ref.go:38", after := #[{ on := 10, ground := Go.Ground.data }], guard := none }) (v := ?_) rfl (by kernel_rfl) (by kernel_rfl) (by kernel_rfl) (fun _ _ _ h => h) (Or.inl ⟨by rfl, ?hy38⟩) hs4 ?_
    case hy38 =>
      intro u hu
      obtain ⟨u0, u1, u2, u3, u4, u5⟩ := hu
      go_simp
      try with_reducible rfl
    simp only [Act.put, List.setIfInBounds_toArray, List.set_cons_zero, List.set_cons_succ]
    refine wpAnyH_ready (rs := [14]) (by kernel_rfl) (by simp) ?_
    refine AllReadyH.cons (o := { dst := some 28, op := Go.Op.call { callee := Go.Callee.value (Go.Operand.func 45), args := #[Go.Operand.tmp 27], argTypes := #[2] }, type := 9, pos := "ref.go:38", after := #[{ on := 13, ground := Go.Ground.data }, { on := 9, ground := Go.Ground.chain }], guard := none }) rfl (fun K hK => ?_) AllReadyH.nil
    go_simp
    refine (KC.out w4).mono ?_
    rintro e w5 ⟨rfl, hb⟩
    have hb : Below w4.heap.size w4 w5 := ⟨hb.os, hb.tape, hb.output, hb.size, hb.block⟩
    have HI5 := hide (HI4.out.below hb)
    have HB5 := hide (below_call HB4.out hb)
    have hs5 := Cells6 HI5.out
    clear hb
    refine hK.out _ _ hs5 (fun _ => ?_)
    clear hK K
    try simp only [Act.put, List.setIfInBounds_toArray, List.set_cons_zero, List.set_cons_succ]
    refine wpAnyH_take (i := 15) (oi := { dst := some 29, op := Go.Op.binOp Go.BinOp.add 9 (Go.Operand.tmp 25) (Go.Operand.tmp 28) 9, type := 9, pos := "ref.go:38", after := #[{ on := 11, ground := Go.Ground.data }, { on := 14, ground := Go.Ground.data }], guard := none }) (v := ?_) rfl (by kernel_rfl) (by kernel_rfl) (by kernel_rfl) (fun _ _ _ h => h) (Or.inl ⟨by rfl, ?hy40⟩) hs5 ?_
    case hy40 =>
      intro u hu
      obtain ⟨u0, u1, u2, u3, u4, u5⟩ := hu
      go_simp
      try with_reducible rfl
    simp only [Act.put, List.setIfInBounds_toArray, List.set_cons_zero, List.set_cons_succ]
    refine wpAnyH_take (i := 16) (oi := { dst := some 30, op := Go.Op.binOp Go.BinOp.add 9 (Go.Operand.tmp 29) (Go.Operand.const (Go.Value.string { data := #[32] })) 9, type := 9, pos := "ref.go:38", after := #[{ on := 15, ground := Go.Ground.data }], guard := none }) (v := ?_) rfl (by kernel_rfl) (by kernel_rfl) (by kernel_rfl) (fun _ _ _ h => h) (Or.inl ⟨by rfl, ?hy41⟩) hs5 ?_
    case hy41 =>
      intro u hu
      obtain ⟨u0, u1, u2, u3, u4, u5⟩ := hu
      go_simp
      try with_reducible rfl
    simp only [Act.put, List.setIfInBounds_toArray, List.set_cons_zero, List.set_cons_succ]
    refine wpAnyH_ready (rs := [19]) (by kernel_rfl) (by simp) ?_
    refine AllReadyH.cons (o := { dst := some 33, op := Go.Op.call { callee := Go.Callee.value (Go.Operand.func 45), args := #[Go.Operand.tmp 32], argTypes := #[2] }, type := 9, pos := "ref.go:38", after := #[{ on := 18, ground := Go.Ground.data }, { on := 14, ground := Go.Ground.chain }], guard := none }) rfl (fun K hK => ?_) AllReadyH.nil
    go_simp
    refine (KN.out w5).mono ?_
    rintro e w6 ⟨rfl, hb⟩
    have hb : Below w5.heap.size w5 w6 := ⟨hb.os, hb.tape, hb.output, hb.size, hb.block⟩
    have HI6 := hide (HI5.out.below hb)
    have HB6 := hide (below_call HB5.out hb)
    have hs6 := Cells6 HI6.out
    clear hb
    refine hK.out _ _ hs6 (fun _ => ?_)
    clear hK K
    try simp only [Act.put, List.setIfInBounds_toArray, List.set_cons_zero, List.set_cons_succ]
    refine wpAnyH_take (i := 20) (oi := { dst := some 34, op := Go.Op.binOp Go.BinOp.add 9 (Go.Operand.tmp 30) (Go.Operand.tmp 33) 9, type := 9, pos := "ref.go:38", after := #[{ on := 16, ground := Go.Ground.data }, { on := 19, ground := Go.Ground.data }], guard := none }) (v := ?_) rfl (by kernel_rfl) (by kernel_rfl) (by kernel_rfl) (fun _ _ _ h => h) (Or.inl ⟨by rfl, ?hy43⟩) hs6 ?_
    case hy43 =>
      intro u hu
      obtain ⟨u0, u1, u2, u3, u4, u5⟩ := hu
      go_simp
      try with_reducible rfl
    simp only [Act.put, List.setIfInBounds_toArray, List.set_cons_zero, List.set_cons_succ]
    refine wpAnyH_ready (rs := [21]) (by kernel_rfl) (by simp) ?_
    refine AllReadyH.cons (o := { dst := some 3, op := Go.Op.assign (Go.Operand.tmp 34), type := 9, pos := "ref.go:38", after := #[{ on := 20, ground := Go.Ground.data }, { on := 19, ground := Go.Ground.chain }, { on := 0, ground := Go.Ground.phase }, { on := 1, ground := Go.Ground.phase }, { on := 2, ground := Go.Ground.phase }, { on := 3, ground := Go.Ground.phase }, { on := 4, ground := Go.Ground.phase }, { on := 5, ground := Go.Ground.phase }, { on := 6, ground := Go.Ground.phase }, { on := 7, ground := Go.Ground.phase }, { on := 8, ground := Go.Ground.phase }, { on := 9, ground := Go.Ground.phase }, { on := 10, ground := Go.Ground.phase }, { on := 11, ground := Go.Ground.phase }, { on := 12, ground := Go.Ground.phase }, { on := 13, ground := Go.Ground.phase }, { on := 14, ground := Go.Ground.phase }, { on := 15, ground := Go.Ground.phase }, { on := 16, ground := Go.Ground.phase }, { on := 17, ground := Go.Ground.phase }, { on := 18, ground := Go.Ground.phase }, { on := 19, ground := Go.Ground.phase }, { on := 20, ground := Go.Ground.phase }], guard := none }) rfl (fun K hK => ?_) AllReadyH.nil
    go_simp
    refine hK.out _ _ hs6 (fun _ => ?_)
    clear hK K
    try simp only [Act.put, List.setIfInBounds_toArray, List.set_cons_zero, List.set_cons_succ]
    refine wpAnyH_done (by kernel_rfl) ?_ _
    obtain ⟨x0, x1, x2, x3, x4, x5⟩ := Cells6 HI6.out
    by_cases h4 : s.size = 0
    · have g4 := str_nil_b s h4
      have hse : s = ⟨#[]⟩ := ba_ext (by show s.data.toList = []; rw [Array.toList_eq_nil_iff]; exact Array.eq_empty_of_size_eq_zero h4)
      have hR := HSC.out
      rw [if_pos hse] at hR
      clear hse
      go_wp2
      go_ret
      exact ⟨by rw [hR]; rfl, HB6.out⟩
    · have g4 := str_nil_nb s h4
      have hR := HSC.out
      rw [if_neg (fun e => h4 (by rw [e]; rfl))] at hR
      go_wp2
      go_ret
      exact ⟨by rw [hR]; rfl, HB6.out⟩
end Go.Proofs.YtpiiehenmkinaaaDoor
