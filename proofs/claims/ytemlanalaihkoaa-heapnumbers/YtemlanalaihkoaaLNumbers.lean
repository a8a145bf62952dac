/-
  The law HeapNumbers. Own work.
-/
import Derived.Test.YtemlanalaihkoaaMt
namespace Go.Proofs.Ytemlanalaihkoaa
open Go.RowKit Go.Sort

/-- how many of the first k are due -/
def cnt (k : Nat) : Nat := k / 1000 * 500 + (k % 1000 - 500)
theorem cnt_succ (k : Nat) : cnt (k + 1) = cnt k + if 500 ≤ k % 1000 then 1 else 0 := by
  unfold cnt
  split <;> omega
def cntD (L : List Tm) : Nat := (L.filter fun x => decide (x.1 ≤ -500)).length
theorem cntD_cons (x : Tm) (L : List Tm) : cntD (x :: L) = cntD L + if x.1 ≤ -500 then 1 else 0 := by
  unfold cntD
  by_cases h : x.1 ≤ -500 <;> simp [h]
theorem cntD_ins (x : Tm) (L : List Tm) : cntD (insL x L) = cntD L + if x.1 ≤ -500 then 1 else 0 := by
  induction L with
  | nil => exact cntD_cons x []
  | cons y r ih =>
    unfold insL
    split
    · rw [cntD_cons, ih, cntD_cons]; exact Nat.add_right_comm _ _ _
    · rw [cntD_cons]
theorem due_cnt {L : List Tm} (h : Srt L) : (dueL (-500) L).length = cntD L := by
  have ho := h.ord
  clear h
  induction L with
  | nil => rfl
  | cons x r ih =>
    have hr := List.pairwise_cons.1 ho
    unfold dueL cntD at *
    by_cases hx : x.1 ≤ -500
    · simp [hx]
      simpa using ih hr.2
    · have : r.filter (fun x => decide (x.1 ≤ -500)) = [] := by
        rw [List.filter_eq_nil_iff]
        intro y hy
        have := hr.1 y hy
        rcases this with h1 | ⟨h1, -⟩ <;> simp <;> omega
      simp [hx, this]

set_option maxRecDepth 100000 in
set_option maxHeartbeats 800000 in
theorem new_bad (w : World) (m : Int) (h : m < 1 ∨ 65536 < m) : Calls Try.prog 11 #[.int .i64 m] w fun e w' => e = .returned (.tuple #[.pointer none, .int .i64 2]) ∧ w' = w := by
  rcases h with h | h
  · go_enter Try.func11, Try.ntmps11
    go_wp2
    go_ret2
    exact ⟨rfl, rfl⟩
  · have h' : ¬ m < 1 := by omega
    go_enter Try.func11, Try.ntmps11
    go_wp2
    go_ret2
    exact ⟨rfl, rfl⟩

set_option maxRecDepth 100000 in
set_option maxHeartbeats 12800000 in
theorem numbers_walk (w : World) : Calls Try.prog 3 #[] w fun e w' => e = .returned (.bool true) ∧ Below w.heap.size w w' := by
  have kt := fun a b w => t_any a b w
  have KF := hide (show ∀ (u : World) (v : Value), RdT u v [(9223372036854775807, -1), (-9223372036854775808, 4611686018427387904), (0, 0), (-9223372036854775808, -4611686018427387904)] → Calls Try.prog 12 #[.int .i64 4, v] u fun e w' => ∃ h, e = .returned (.tuple #[h, .bool true]) ∧ ∃ F, Hq u.heap.size u w' h 4 [(-9223372036854775808, -4611686018427387904), (-9223372036854775808, 4611686018427387904), (0, 0), (9223372036854775807, -1)] F from fun u v hv =>
    filled_any 4 (by omega) (by omega) hv (by decide) (by unfold I64; decide) (by decide))
  have KE := hide (show ∀ u : World, RdT (u.alloc (.cells #[.int .i64 9223372036854775807, .int .i64 (-1), .int .i64 (-9223372036854775808), .int .i64 4611686018427387904, .int .i64 0, .int .i64 0, .int .i64 (-9223372036854775808), .int .i64 (-4611686018427387904)] 30)) (.slice (some ⟨u.heap.size, 0, none⟩) 4 4) [(9223372036854775807, -1), (-9223372036854775808, 4611686018427387904), (0, 0), (-9223372036854775808, -4611686018427387904)] from fun u => RdT.lit u _ 4 _ rfl rfl (by decide))
  obtain ⟨W, HW⟩ := named (w.alloc (.cells #[.int .i64 0, .int .i64 (-1), .int .i64 65537] 3))
  have hB : Below w.heap.size w W := by rw [HW.out]; exact (Below.refl _ _).alloc (Nat.le_refl _) _
  have hc := heap_new w (.cells #[.int .i64 0, .int .i64 (-1), .int .i64 65537] 3)
  rw [← HW.out] at hc
  have e0 : W.cell? ⟨w.heap.size, 0, none⟩ = some (.int .i64 0) := by rw [cell_of hc]; rfl
  have e1 : W.cell? ⟨w.heap.size, 1, none⟩ = some (.int .i64 (-1)) := by rw [cell_of hc]; rfl
  have e2 : W.cell? ⟨w.heap.size, 2, none⟩ = some (.int .i64 65537) := by rw [cell_of hc]; rfl
  have HBW := hide hB
  clear hB hc
  go_enter Try.func3, Try.ntmps3
  go_wp2_with fail
  rw [← HW.out]
  go_loopw [23] (fun iv wr => ∃ k : Nat, k ≤ 3 ∧ iv = .int .i64 k ∧ wr = W) (fun iv _ => 3 - (intOf iv).toNat)
  case atStart => exact ⟨0, by omega, rfl, rfl⟩
  case round =>
    obtain ⟨k, hk, rfl, rfl⟩ := hrel
    rcases (show k = 0 ∨ k = 1 ∨ k = 2 ∨ k = 3 by omega) with rfl | rfl | rfl | rfl
    · have kn := new_bad wr 0 (by omega)
      go_wp2_with fail
      (with_reducible refine Calls.mono kn ?_)
      rintro e u ⟨rfl, rfl⟩
      go_wp2_with fail
      go_roundw
      case rel => exact ⟨1, by simp⟩
      case measure => simp [intOf]
    · have kn := new_bad wr (-1) (by omega)
      go_wp2_with fail
      (with_reducible refine Calls.mono kn ?_)
      rintro e u ⟨rfl, rfl⟩
      go_wp2_with fail
      go_roundw
      case rel => exact ⟨2, by simp⟩
      case measure => simp [intOf]
    · have kn := new_bad wr 65537 (by omega)
      go_wp2_with fail
      (with_reducible refine Calls.mono kn ?_)
      rintro e u ⟨rfl, rfl⟩
      go_wp2_with fail
      go_roundw
      case rel => exact ⟨3, by simp⟩
      case measure => simp [intOf]
    · go_wp2_with fail
      (with_reducible refine Calls.mono (kt _ _ _) ?_); rintro e v1 ⟨rfl, hb1⟩
      go_wp2_with fail
      (with_reducible refine Calls.mono (kt _ _ _) ?_); rintro e v2 ⟨rfl, hb2⟩
      go_wp2_with fail
      (with_reducible refine Calls.mono (kt _ _ _) ?_); rintro e v3 ⟨rfl, hb3⟩
      go_wp2_with fail
      (with_reducible refine Calls.mono (kt _ _ _) ?_); rintro e v4 ⟨rfl, hb4⟩
      obtain ⟨v5, HV5⟩ := named (v4.alloc (.cells #[.int .i64 9223372036854775807, .int .i64 (-1), .int .i64 (-9223372036854775808), .int .i64 4611686018427387904, .int .i64 0, .int .i64 0, .int .i64 (-9223372036854775808), .int .i64 (-4611686018427387904)] 30))
      have hb5 : Below v4.heap.size v4 v5 := by rw [HV5.out]; exact (Below.refl _ _).alloc (Nat.le_refl _) _
      have HB5 := hide (below_call HBW.out (below_call (below_call (below_call (below_call hb1 hb2) hb3) hb4) hb5))
      have kf := KF.out v5 _ (by rw [HV5.out]; exact KE.out v4)
      clear hb1 hb2 hb3 hb4 hb5 KF KE HBW
      go_wp2_with fail
      rw [← HV5.out]
      (with_reducible refine Calls.mono kf ?_)
      clear kf HV5
      rintro e v6 ⟨h, rfl, F, q⟩
      obtain ⟨hb, hhe, -⟩ := q.hp.ne
      subst hhe
      have Q6 := hide q
      clear q
      go_wp2_with fail
      (with_reducible refine Calls.mono (kt _ _ _) ?_); rintro e v7 ⟨rfl, hb7⟩
      have Q7 := hide (Q6.out.below hb7)
      have kp := put_full Q7.out.hp (1, 9) (by unfold I64; decide) (by decide) rfl
      clear Q6 hb7
      go_wp2_with fail
      (with_reducible refine Calls.mono kp ?_); rintro e v8 ⟨rfl, hb8⟩
      have Q8 := hide (Q7.out.below hb8)
      clear Q7 hb8 kp
      go_wp2_with fail
      (with_reducible refine Calls.mono (kt _ _ _) ?_); rintro e v9 ⟨rfl, hb9⟩
      have Q9 := hide (Q8.out.below hb9)
      have kp := put_there Q9.out.hp (1, 0) (by unfold I64; decide) (by decide)
      clear Q8 hb9
      go_wp2_with fail
      (with_reducible refine Calls.mono kp ?_); rintro e v10 ⟨rfl, hb10⟩
      have Q10 := hide (Q9.out.below hb10)
      have kl := len_any Q10.out.hp
      clear Q9 hb10 kp
      go_wp2_with fail
      (with_reducible refine Calls.mono kl ?_); rintro e v11 ⟨rfl, rfl⟩
      have kd := drop_no Q10.out.hp 7 (by unfold I64; decide) (by decide)
      clear kl
      go_wp2_with fail
      (with_reducible refine Calls.mono kd ?_); rintro e v12 ⟨rfl, hb12⟩
      obtain ⟨v13, HV13⟩ := named (v12.alloc (.cells #[.int .i64 0, .int .i64 0] 30))
      have hb13 : Below v12.heap.size v12 v13 := by rw [HV13.out]; exact (Below.refl _ _).alloc (Nat.le_refl _) _
      have Q13 := hide ((Q10.out.below hb12).below hb13)
      have kg := get_any Q13.out.hp 4611686018427387904 (by unfold I64; decide)
      have hg1 : getV 4611686018427387904 [(-9223372036854775808, -4611686018427387904), (-9223372036854775808, 4611686018427387904), (0, 0), (9223372036854775807, -1)] = (-9223372036854775808, 4611686018427387904) := by decide
      have hg2 : hasL 4611686018427387904 [(-9223372036854775808, -4611686018427387904), (-9223372036854775808, 4611686018427387904), (0, 0), (9223372036854775807, -1)] = true := by decide
      rw [hg1, hg2] at kg
      clear Q10 hb12 hb13 kd hg1 hg2
      go_wp2_with fail
      rw [← HV13.out]
      (with_reducible refine Calls.mono kg ?_); rintro e v14 ⟨rfl, hb14⟩
      obtain ⟨v15, HV15⟩ := named (v14.alloc (.cells #[.int .i64 (-9223372036854775808), .int .i64 4611686018427387904] 30))
      obtain ⟨gx, HGX⟩ := named v14.heap.size
      have hb15 : Below v14.heap.size v14 v15 := by rw [HV15.out]; exact (Below.refl _ _).alloc (Nat.le_refl _) _
      have HC15 := hide (show v15.heap[gx]? = some (.cells #[.int .i64 (-9223372036854775808), .int .i64 4611686018427387904] 30 (0, 0)) by rw [HV15.out, HGX.out]; exact heap_new _ _)
      have HGF : Hid (¬ F gx) := fun hF => by have := (Q13.out.below hb14).hp.sub _ hF; rw [HGX.out] at this; omega
      have Q15 := hide ((Q13.out.below hb14).below hb15)
      have kg := get_any Q15.out.hp 9 (by unfold I64; decide)
      have hg1 : getV 9 [(-9223372036854775808, -4611686018427387904), (-9223372036854775808, 4611686018427387904), (0, 0), (9223372036854775807, -1)] = (0, 0) := by decide
      have hg2 : hasL 9 [(-9223372036854775808, -4611686018427387904), (-9223372036854775808, 4611686018427387904), (0, 0), (9223372036854775807, -1)] = false := by decide
      rw [hg1, hg2] at kg
      clear Q13 hb14 hb15 hg1 hg2 HV13
      go_wp2_with (rw [← HV15.out])
      (try rw [← HGX.out])
      (with_reducible refine Calls.mono kg ?_); rintro e v16 ⟨rfl, hb16⟩
      obtain ⟨v17, HV17⟩ := named (v16.alloc (.cells #[.int .i64 0, .int .i64 0] 30))
      have hb17 : Below v16.heap.size v16 v17 := by rw [HV17.out]; exact (Below.refl _ _).alloc (Nat.le_refl _) _
      have hb1617 := below_call hb16 hb17
      have Q17 := hide (Q15.out.below hb1617)
      have HC17 := hide ((hb1617.block _ (lt_of HC15.out)).trans HC15.out)
      have kd := due_any Q17.out.hp (-9223372036854775808)
      have hd1 : dueL (-9223372036854775808) [(-9223372036854775808, -4611686018427387904), (-9223372036854775808, 4611686018427387904), (0, 0), (9223372036854775807, -1)] = [(-9223372036854775808, -4611686018427387904), (-9223372036854775808, 4611686018427387904)] := by decide
      have hd2 : restL (-9223372036854775808) [(-9223372036854775808, -4611686018427387904), (-9223372036854775808, 4611686018427387904), (0, 0), (9223372036854775807, -1)] = [(0, 0), (9223372036854775807, -1)] := by decide
      rw [hd1, hd2] at kd
      clear hb16 hb17 hb1617 Q15 HC15 hd1 hd2 kg HV15
      go_wp2_with fail
      rw [← HV17.out]
      (with_reducible refine Calls.mono kd ?_); rintro e v18 ⟨ev, rfl, hoe, k1, k2⟩
      have Q18 := hide (Q17.out.step k1 k2)
      have HC18 := hide ((k2.chg.block gx (lt_of HC17.out) HGF.out).trans HC17.out)
      have HE18 := hide hoe
      have HEF : Hid (∀ g, ev.ownBlock = some g → ¬ F g) := fun g hg hF => by have h1 := (hoe.lt g hg).1; have h2 := Q17.out.hp.sub g hF; omega
      clear Q17 HC17 hoe k1 k2 kd HV17
      go_wp2_with fail
      (with_reducible refine Calls.mono (kt _ _ _) ?_); rintro e v19 ⟨rfl, hb19⟩
      have Q19 := hide (Q18.out.below hb19)
      have HC19 := hide ((hb19.block _ (lt_of HC18.out)).trans HC18.out)
      have HE19 := hide (HE18.out.below hb19)
      have kp := put_ok Q19.out.hp (5, 4611686018427387904) (by unfold I64; decide) (by decide) (by decide)
      have hi1 : insL (5, 4611686018427387904) [(0, 0), (9223372036854775807, -1)] = [(0, 0), (5, 4611686018427387904), (9223372036854775807, -1)] := by decide
      rw [hi1] at kp
      clear Q18 HC18 HE18 hb19 hi1
      go_wp2_with fail
      (with_reducible refine Calls.mono kp ?_); rintro e v20 ⟨rfl, G, k1, k2⟩
      have Q20 := hide (Q19.out.step k1 k2)
      have HC20 := hide ((k2.chg.block gx (lt_of HC19.out) HGF.out).trans HC19.out)
      have HE20 := hide (HE19.out.chg k2.chg HEF.out)
      have ka := all_any Q20.out.hp
      clear Q19 HC19 HE19 k1 k2 kp HGF HEF
      go_wp2_with fail
      (with_reducible refine Calls.mono ka ?_); rintro e v21 ⟨av, rfl, hoa, hb21⟩
      have Q21 := hide (Q20.out.below hb21)
      have HX21 := hide ((hb21.block _ (lt_of HC20.out)).trans HC20.out)
      have HE21 := hide (HE20.out.below hb21).rd
      have HA21 := hide hoa.rd
      have HB21 := hide (below_call HB5.out Q21.out.bel)
      have kn := new_any v21 65536 (by omega) (by omega)
      clear Q20 HC20 HE20 hoa hb21 ka Q21 HB5 HW e0 e1 e2 hk
      go_wp2_with fail
      (with_reducible refine Calls.mono kn ?_); rintro e v22 ⟨h', rfl, F', k1, k2, k3⟩
      obtain ⟨gb, hge, -⟩ := k1.ne
      subst hge
      have HQ : Hid (Hq v21.heap.size v21 v22 (.pointer (some ⟨gb, 0, none⟩)) 65536 [] F') := ⟨k1, k2, k3, k3.size⟩
      clear k1 k2 k3 kn
      go_wp2_with fail
      go_loopw [18] (fun iv wr => ∃ (k : Nat) (L : List Tm) (F : Nat → Prop), iv = .int .i64 k ∧ k ≤ 65536 ∧ Hid (Hq v21.heap.size v21 wr (.pointer (some ⟨gb, 0, none⟩)) 65536 L F) ∧ Hid (L.length = k) ∧ Hid (∀ y ∈ L, 0 ≤ y.2 ∧ y.2 < k) ∧ Hid (cntD L = cnt k)) (fun iv _ => 65536 - (intOf iv).toNat)
      case atStart => exact ⟨0, [], F', rfl, by omega, HQ, rfl, (fun y hy => by cases hy), rfl⟩
      case round =>
        obtain ⟨k, L, F2, rfl, hk, HK, HLE, HID, HCN⟩ := hrel
        clear HQ
        by_cases hlt : k < 65536
        · have hkI : (k : Int) < 65536 := by omega
          have hrem : (-(k : Int)).tmod 1000 = -((k % 1000 : Nat) : Int) := by rw [Int.neg_tmod, Int.tmod_eq_emod_of_nonneg (by omega)]; omega
          have hrem2 : ((k : Int)).tmod 1000 = ((k % 1000 : Nat) : Int) := by rw [Int.tmod_eq_emod_of_nonneg (by omega)]; omega
          obtain ⟨d, HD⟩ := named (k % 1000)
          rw [← HD.out] at hrem hrem2
          have hd3 : d < 1000 := by rw [HD.out]; omega
          go_wp2_with fail
          (with_reducible refine Calls.mono (kt _ _ _) ?_); rintro e y1 ⟨rfl, hb1⟩
          have K1 := hide (HK.out.below hb1)
          have hno : hasL (k : Int) L = false := hasL_false.2 fun y hy => by have := (HID.out y hy).2; omega
          have kp := put_ok K1.out.hp (-(d : Int), (k : Int)) (by unfold I64; constructor <;> constructor <;> simp only <;> omega) hno (by rw [HLE.out]; exact hlt)
          have HLE1 : Hid ((insL (-(d : Int), (k : Int)) L).length = k + 1) := by show _ = _; rw [len_ins, HLE.out]
          have HID1 : Hid (∀ y ∈ insL (-(d : Int), (k : Int)) L, 0 ≤ y.2 ∧ y.2 < (k + 1 : Nat)) := fun y hy => by
            rcases (mem_ins _ _ _).1 hy with rfl | hy
            · constructor <;> simp only <;> omega
            · have := HID.out y hy; omega
          have HCN1 : Hid (cntD (insL (-(d : Int), (k : Int)) L) = cnt (k + 1)) := by
            show _ = _
            rw [cntD_ins, HCN.out, cnt_succ, ← HD.out]
            congr 1
            by_cases h : 500 ≤ d
            · rw [if_pos h, if_pos (by simp only; omega)]
            · rw [if_neg h, if_neg (by simp only; omega)]
          clear HK hb1 hno HLE HID HCN HD hrem hrem2
          go_wp2_with fail
          (with_reducible refine Calls.mono kp ?_); rintro e y2 ⟨rfl, G2, k1, k2⟩
          have K2 := hide (K1.out.step k1 k2)
          clear k1 k2 kp K1
          go_wp2_with fail
          go_roundw
          case rel => exact ⟨k + 1, _, G2, by go_num, hlt, K2, HLE1, HID1, HCN1⟩
          case measure => simp [intOf]; omega
        · have hk6 : k = 65536 := by omega
          subst hk6
          go_wp2_with fail
          (with_reducible refine Calls.mono (kt _ _ _) ?_); rintro e y1 ⟨rfl, hb1⟩
          have K1 := hide (HK.out.below hb1)
          have hno : hasL (-1) L = false := hasL_false.2 fun y hy => by have := (HID.out y hy).1; omega
          have kp := put_full K1.out.hp (0, -1) (by unfold I64; decide) hno HLE.out
          clear HK hb1 hno
          go_wp2_with fail
          (with_reducible refine Calls.mono kp ?_); rintro e y2 ⟨rfl, hb2⟩
          have K2 := hide (K1.out.below hb2)
          have kd := due_any K2.out.hp (-500)
          have hdl : (dueL (-500) L).length = 32536 := by rw [due_cnt K2.out.hp.srt, HCN.out]; rfl
          have HRL : Hid ((restL (-500) L).length = 33000) := by
            have h1 := congrArg List.length (due_rest (-500) L)
            rw [List.length_append, hdl, HLE.out] at h1
            show _ = _
            omega
          clear kp K1 hb2
          go_wp2_with fail
          (with_reducible refine Calls.mono kd ?_); rintro e y3 ⟨nv, rfl, ho, k1, k2⟩
          obtain ⟨no, ncap, rfl⟩ := ho.shape
          have Q3 := hide (K2.out.step k1 k2)
          rw [hdl]
          obtain ⟨R, HR⟩ := named (restL (-500) L)
          rw [← HR.out] at Q3 HRL
          clear ho k1 k2 kd K2 hdl HLE HID HCN HR
          have HSA : Hid (∀ u : World, Below v21.heap.size v21 u → u.cell? ⟨gx, 0, none⟩ = some (.int .i64 (-9223372036854775808)) ∧ u.cell? ⟨gx, 1, none⟩ = some (.int .i64 4611686018427387904)) := fun u hu => by
            have hc := (hu.block _ (lt_of HX21.out)).trans HX21.out
            exact ⟨by rw [cell_of hc]; rfl, by rw [cell_of hc]; rfl⟩
          have HEA : Hid (∀ u : World, Below v21.heap.size v21 u → RdT u ev [(-9223372036854775808, -4611686018427387904), (-9223372036854775808, 4611686018427387904)]) := fun u hu => HE21.out.below hu
          have HAA : Hid (∀ u : World, Below v21.heap.size v21 u → RdT u av [(0, 0), (5, 4611686018427387904), (9223372036854775807, -1)]) := fun u hu => HA21.out.below hu
          have KE2 := hide (show ∀ u : World, RdT (u.alloc (.cells #[.int .i64 (-9223372036854775808), .int .i64 (-4611686018427387904), .int .i64 (-9223372036854775808), .int .i64 4611686018427387904] 30)) (.slice (some ⟨u.heap.size, 0, none⟩) 2 2) [(-9223372036854775808, -4611686018427387904), (-9223372036854775808, 4611686018427387904)] from fun u => RdT.lit u _ 2 _ rfl rfl (by decide))
          have KE3 := hide (show ∀ u : World, RdT (u.alloc (.cells #[.int .i64 0, .int .i64 0, .int .i64 5, .int .i64 4611686018427387904, .int .i64 9223372036854775807, .int .i64 (-1)] 30)) (.slice (some ⟨u.heap.size, 0, none⟩) 3 3) [(0, 0), (5, 4611686018427387904), (9223372036854775807, -1)] from fun u => RdT.lit u _ 3 _ rfl rfl (by decide))
          have HQ0 := hide (Q3.out.below (Below.refl _ _).drew)
          have hs0 := HSA.out _ HQ0.out.bel
          have hw33 : IntKind.i64.wrap 33000 = 33000 := by rw [IntKind.wrap_i64]; omega
          clear HX21 HE21 HA21 Q3
          go_wp2_with fail
          refine wp_region_held_drew (S := (fun u => u.cell? ⟨gx, 0, none⟩ = some (.int .i64 (-9223372036854775808)) ∧ u.cell? ⟨gx, 1, none⟩ = some (.int .i64 4611686018427387904))) (by kernel_rfl) hs0 (fun _ => ?_)
          refine wpAnyH_take (i := 0) (oi := { dst := some 116, op := Go.Op.move (Go.Operand.tmp 8), type := 24, pos := "law.go:73", after := #[], guard := none }) (v := ?_) rfl (by kernel_rfl) (by kernel_rfl) (by kernel_rfl) (fun _ _ _ h => h) (Or.inl ⟨by rfl, ?hy1⟩) hs0 ?_
          case hy1 =>
            intro u hu
            obtain ⟨u0, u1⟩ := hu
            go_simp
            try with_reducible rfl
          simp only [Act.put, List.setIfInBounds_toArray, List.set_cons_zero, List.set_cons_succ]
          refine wpAnyH_take (i := 1) (oi := { dst := some 117, op := Go.Op.binOp Go.BinOp.eql 3 (Go.Operand.tmp 116) (Go.Operand.const (Go.Value.int Go.IntKind.i64 40)) 3, type := 4, pos := "law.go:73", after := #[{ on := 0, ground := Go.Ground.data }], guard := none }) (v := ?_) rfl (by kernel_rfl) (by kernel_rfl) (by kernel_rfl) (fun _ _ _ h => h) (Or.inl ⟨by rfl, ?hy2⟩) hs0 ?_
          case hy2 =>
            intro u hu
            obtain ⟨u0, u1⟩ := hu
            go_simp
            try with_reducible rfl
          simp only [Act.put, List.setIfInBounds_toArray, List.set_cons_zero, List.set_cons_succ]
          refine wpAnyH_take (i := 2) (oi := { dst := some 118, op := Go.Op.move (Go.Operand.tmp 117), type := 4, pos := "law.go:73", after := #[{ on := 1, ground := Go.Ground.data }], guard := none }) (v := ?_) rfl (by kernel_rfl) (by kernel_rfl) (by kernel_rfl) (fun _ _ _ h => h) (Or.inl ⟨by rfl, ?hy3⟩) hs0 ?_
          case hy3 =>
            intro u hu
            obtain ⟨u0, u1⟩ := hu
            go_simp
            try with_reducible rfl
          simp only [Act.put, List.setIfInBounds_toArray, List.set_cons_zero, List.set_cons_succ]
          refine wpAnyH_take (i := 3) (oi := { dst := some 119, op := Go.Op.move (Go.Operand.tmp 10), type := 4, pos := "law.go:73", after := #[{ on := 2, ground := Go.Ground.guard }], guard := some (2, true) }) (v := ?_) rfl (by kernel_rfl) (by kernel_rfl) (by kernel_rfl) (fun _ _ _ h => h) (Or.inl ⟨by rfl, ?hy4⟩) hs0 ?_
          case hy4 =>
            intro u hu
            obtain ⟨u0, u1⟩ := hu
            go_simp
            try with_reducible rfl
          simp only [Act.put, List.setIfInBounds_toArray, List.set_cons_zero, List.set_cons_succ]
          refine wpAnyH_take (i := 4) (oi := { dst := some 120, op := Go.Op.pick (Go.Operand.tmp 118) (Go.Operand.tmp 119) (Go.Operand.const (Go.Value.bool false)), type := 4, pos := "law.go:73", after := #[{ on := 2, ground := Go.Ground.data }, { on := 3, ground := Go.Ground.data }], guard := none }) (v := ?_) rfl (by kernel_rfl) (by kernel_rfl) (by kernel_rfl) (fun _ _ _ h => h) (Or.inl ⟨by rfl, ?hy5⟩) hs0 ?_
          case hy5 =>
            intro u hu
            obtain ⟨u0, u1⟩ := hu
            go_simp
            try with_reducible rfl
          simp only [Act.put, List.setIfInBounds_toArray, List.set_cons_zero, List.set_cons_succ]
          refine wpAnyH_take (i := 5) (oi := { dst := some 121, op := Go.Op.move (Go.Operand.tmp 120), type := 4, pos := "law.go:73", after := #[{ on := 4, ground := Go.Ground.data }, { on := 2, ground := Go.Ground.chain }], guard := none }) (v := ?_) rfl (by kernel_rfl) (by kernel_rfl) (by kernel_rfl) (fun _ _ _ h => h) (Or.inl ⟨by rfl, ?hy6⟩) hs0 ?_
          case hy6 =>
            intro u hu
            obtain ⟨u0, u1⟩ := hu
            go_simp
            try with_reducible rfl
          simp only [Act.put, List.setIfInBounds_toArray, List.set_cons_zero, List.set_cons_succ]
          refine wpAnyH_take (i := 6) (oi := { dst := some 122, op := Go.Op.load 30 (Go.Operand.tmp 9), type := 30, pos := "law.go:73", after := #[{ on := 5, ground := Go.Ground.guard }], guard := some (5, true) }) (v := ?_) rfl (by kernel_rfl) (by kernel_rfl) (by kernel_rfl) (fun _ _ _ h => h) (Or.inl ⟨by rfl, ?hy7⟩) hs0 ?_
          case hy7 =>
            intro u hu
            obtain ⟨u0, u1⟩ := hu
            go_simp
            try with_reducible rfl
          simp only [Act.put, List.setIfInBounds_toArray, List.set_cons_zero, List.set_cons_succ]
          refine wpAnyH_ready (rs := [7]) (by kernel_rfl) (by simp) ?_
          refine AllReadyH.cons (o := { dst := some 123, op := Go.Op.call { callee := Go.Callee.value (Go.Operand.func 13), args := #[Go.Operand.const (Go.Value.int Go.IntKind.i64 (-9223372036854775808)), Go.Operand.const (Go.Value.int Go.IntKind.i64 4611686018427387904)], argTypes := #[2, 3] }, type := 30, pos := "law.go:73", after := #[{ on := 5, ground := Go.Ground.chain }, { on := 5, ground := Go.Ground.guard }], guard := some (5, true) }) rfl (fun K hK => ?_) AllReadyH.nil
          go_simp
          (with_reducible refine Calls.mono (kt _ _ _) ?_)
          rintro e u1 ⟨rfl, hb⟩
          have HQ1 := hide (HQ0.out.below hb)
          have hs1 := HSA.out _ HQ1.out.bel
          clear hb
          refine hK.out _ _ hs1 (fun _ => ?_)
          clear hK K
          try simp only [Act.put, List.setIfInBounds_toArray, List.set_cons_zero, List.set_cons_succ]
          refine wpAnyH_take (i := 8) (oi := { dst := some 124, op := Go.Op.binOp Go.BinOp.eql 30 (Go.Operand.tmp 122) (Go.Operand.tmp 123) 30, type := 4, pos := "law.go:73", after := #[{ on := 6, ground := Go.Ground.data }, { on := 7, ground := Go.Ground.data }, { on := 5, ground := Go.Ground.guard }], guard := some (5, true) }) (v := ?_) rfl (by kernel_rfl) (by kernel_rfl) (by kernel_rfl) (fun _ _ _ h => h) (Or.inl ⟨by rfl, ?hy9⟩) hs1 ?_
          case hy9 =>
            intro u hu
            obtain ⟨u0, u1⟩ := hu
            go_simp
            try with_reducible rfl
          simp only [Act.put, List.setIfInBounds_toArray, List.set_cons_zero, List.set_cons_succ]
          refine wpAnyH_take (i := 9) (oi := { dst := some 125, op := Go.Op.pick (Go.Operand.tmp 121) (Go.Operand.tmp 124) (Go.Operand.const (Go.Value.bool false)), type := 4, pos := "law.go:73", after := #[{ on := 5, ground := Go.Ground.data }, { on := 8, ground := Go.Ground.data }], guard := none }) (v := ?_) rfl (by kernel_rfl) (by kernel_rfl) (by kernel_rfl) (fun _ _ _ h => h) (Or.inl ⟨by rfl, ?hy10⟩) hs1 ?_
          case hy10 =>
            intro u hu
            obtain ⟨u0, u1⟩ := hu
            go_simp
            try with_reducible rfl
          simp only [Act.put, List.setIfInBounds_toArray, List.set_cons_zero, List.set_cons_succ]
          refine wpAnyH_take (i := 10) (oi := { dst := some 126, op := Go.Op.move (Go.Operand.tmp 125), type := 4, pos := "law.go:73", after := #[{ on := 9, ground := Go.Ground.data }, { on := 7, ground := Go.Ground.chain }], guard := none }) (v := ?_) rfl (by kernel_rfl) (by kernel_rfl) (by kernel_rfl) (fun _ _ _ h => h) (Or.inl ⟨by rfl, ?hy11⟩) hs1 ?_
          case hy11 =>
            intro u hu
            obtain ⟨u0, u1⟩ := hu
            go_simp
            try with_reducible rfl
          simp only [Act.put, List.setIfInBounds_toArray, List.set_cons_zero, List.set_cons_succ]
          refine wpAnyH_take (i := 11) (oi := { dst := some 127, op := Go.Op.move (Go.Operand.tmp 12), type := 4, pos := "law.go:73", after := #[{ on := 10, ground := Go.Ground.guard }], guard := some (10, true) }) (v := ?_) rfl (by kernel_rfl) (by kernel_rfl) (by kernel_rfl) (fun _ _ _ h => h) (Or.inl ⟨by rfl, ?hy12⟩) hs1 ?_
          case hy12 =>
            intro u hu
            obtain ⟨u0, u1⟩ := hu
            go_simp
            try with_reducible rfl
          simp only [Act.put, List.setIfInBounds_toArray, List.set_cons_zero, List.set_cons_succ]
          refine wpAnyH_take (i := 12) (oi := { dst := some 128, op := Go.Op.unOp Go.UnOp.not 4 (Go.Operand.tmp 127), type := 4, pos := "law.go:73", after := #[{ on := 11, ground := Go.Ground.data }, { on := 10, ground := Go.Ground.guard }], guard := some (10, true) }) (v := ?_) rfl (by kernel_rfl) (by kernel_rfl) (by kernel_rfl) (fun _ _ _ h => h) (Or.inl ⟨by rfl, ?hy13⟩) hs1 ?_
          case hy13 =>
            intro u hu
            obtain ⟨u0, u1⟩ := hu
            go_simp
            try with_reducible rfl
          simp only [Act.put, List.setIfInBounds_toArray, List.set_cons_zero, List.set_cons_succ]
          refine wpAnyH_take (i := 13) (oi := { dst := some 129, op := Go.Op.pick (Go.Operand.tmp 126) (Go.Operand.tmp 128) (Go.Operand.const (Go.Value.bool false)), type := 4, pos := "law.go:73", after := #[{ on := 10, ground := Go.Ground.data }, { on := 12, ground := Go.Ground.data }], guard := none }) (v := ?_) rfl (by kernel_rfl) (by kernel_rfl) (by kernel_rfl) (fun _ _ _ h => h) (Or.inl ⟨by rfl, ?hy14⟩) hs1 ?_
          case hy14 =>
            intro u hu
            obtain ⟨u0, u1⟩ := hu
            go_simp
            try with_reducible rfl
          simp only [Act.put, List.setIfInBounds_toArray, List.set_cons_zero, List.set_cons_succ]
          refine wpAnyH_take (i := 14) (oi := { dst := some 130, op := Go.Op.move (Go.Operand.tmp 129), type := 4, pos := "law.go:73", after := #[{ on := 13, ground := Go.Ground.data }, { on := 10, ground := Go.Ground.chain }], guard := none }) (v := ?_) rfl (by kernel_rfl) (by kernel_rfl) (by kernel_rfl) (fun _ _ _ h => h) (Or.inl ⟨by rfl, ?hy15⟩) hs1 ?_
          case hy15 =>
            intro u hu
            obtain ⟨u0, u1⟩ := hu
            go_simp
            try with_reducible rfl
          simp only [Act.put, List.setIfInBounds_toArray, List.set_cons_zero, List.set_cons_succ]
          refine wpAnyH_take (i := 15) (oi := { dst := some 131, op := Go.Op.move (Go.Operand.tmp 13), type := 38, pos := "law.go:73", after := #[{ on := 14, ground := Go.Ground.guard }], guard := some (14, true) }) (v := ?_) rfl (by kernel_rfl) (by kernel_rfl) (by kernel_rfl) (fun _ _ _ h => h) (Or.inl ⟨by rfl, ?hy16⟩) hs1 ?_
          case hy16 =>
            intro u hu
            obtain ⟨u0, u1⟩ := hu
            go_simp
            try with_reducible rfl
          simp only [Act.put, List.setIfInBounds_toArray, List.set_cons_zero, List.set_cons_succ]
          refine wpAnyH_ready (rs := [16]) (by kernel_rfl) (by simp) ?_
          refine AllReadyH.cons (o := { dst := some 132, op := Go.Op.call { callee := Go.Callee.value (Go.Operand.func 13), args := #[Go.Operand.const (Go.Value.int Go.IntKind.i64 (-9223372036854775808)), Go.Operand.const (Go.Value.int Go.IntKind.i64 (-4611686018427387904))], argTypes := #[2, 3] }, type := 30, pos := "law.go:73", after := #[{ on := 14, ground := Go.Ground.chain }, { on := 14, ground := Go.Ground.guard }], guard := some (14, true) }) rfl (fun K hK => ?_) AllReadyH.nil
          go_simp
          (with_reducible refine Calls.mono (kt _ _ _) ?_)
          rintro e u2 ⟨rfl, hb⟩
          have HQ2 := hide (HQ1.out.below hb)
          have hs2 := HSA.out _ HQ2.out.bel
          clear hb
          refine hK.out _ _ hs2 (fun _ => ?_)
          clear hK K
          try simp only [Act.put, List.setIfInBounds_toArray, List.set_cons_zero, List.set_cons_succ]
          refine wpAnyH_ready (rs := [17]) (by kernel_rfl) (by simp) ?_
          refine AllReadyH.cons (o := { dst := some 133, op := Go.Op.call { callee := Go.Callee.value (Go.Operand.func 13), args := #[Go.Operand.const (Go.Value.int Go.IntKind.i64 (-9223372036854775808)), Go.Operand.const (Go.Value.int Go.IntKind.i64 4611686018427387904)], argTypes := #[2, 3] }, type := 30, pos := "law.go:73", after := #[{ on := 16, ground := Go.Ground.chain }, { on := 14, ground := Go.Ground.guard }], guard := some (14, true) }) rfl (fun K hK => ?_) AllReadyH.nil
          go_simp
          (with_reducible refine Calls.mono (kt _ _ _) ?_)
          rintro e u3 ⟨rfl, hb⟩
          have HQ3 := hide (HQ2.out.below hb)
          have hs3 := HSA.out _ HQ3.out.bel
          clear hb
          refine hK.out _ _ hs3 (fun _ => ?_)
          clear hK K
          try simp only [Act.put, List.setIfInBounds_toArray, List.set_cons_zero, List.set_cons_succ]
          refine wpAnyH_ready (rs := [18]) (by kernel_rfl) (by simp) ?_
          refine AllReadyH.cons (o := { dst := some 134, op := Go.Op.buildSlice 38 2 #[(0, Go.Operand.tmp 132), (1, Go.Operand.tmp 133)], type := 38, pos := "law.go:73", after := #[{ on := 16, ground := Go.Ground.data }, { on := 17, ground := Go.Ground.data }, { on := 14, ground := Go.Ground.guard }], guard := some (14, true) }) rfl (fun K hK => ?_) AllReadyH.nil
          go_simp
          have HQ4 := hide (HQ3.out.below ((Below.refl _ _).alloc (Nat.le_refl _) (.cells #[.int .i64 (-9223372036854775808), .int .i64 (-4611686018427387904), .int .i64 (-9223372036854775808), .int .i64 4611686018427387904] 30)))
          have hs4 := HSA.out _ HQ4.out.bel
          refine hK.out _ _ hs4 (fun _ => ?_)
          clear hK K
          try simp only [Act.put, List.setIfInBounds_toArray, List.set_cons_zero, List.set_cons_succ]
          refine wpAnyH_ready (rs := [19]) (by kernel_rfl) (by simp) ?_
          refine AllReadyH.cons (o := { dst := some 135, op := Go.Op.call { callee := Go.Callee.value (Go.Operand.func 20), args := #[Go.Operand.tmp 131, Go.Operand.tmp 134], argTypes := #[38, 38] }, type := 4, pos := "law.go:73", after := #[{ on := 15, ground := Go.Ground.data }, { on := 18, ground := Go.Ground.data }, { on := 17, ground := Go.Ground.chain }, { on := 14, ground := Go.Ground.guard }], guard := some (14, true) }) rfl (fun K hK => ?_) AllReadyH.nil
          have ks5 := same_any (HEA.out _ HQ4.out.bel) (KE2.out _) (by decide)
          simp only [decide_true] at ks5
          go_simp
          (with_reducible refine Calls.mono ks5 ?_)
          rintro e u5 ⟨rfl, hb⟩
          have HQ5 := hide (HQ4.out.below hb)
          have hs5 := HSA.out _ HQ5.out.bel
          clear hb ks5
          refine hK.out _ _ hs5 (fun _ => ?_)
          clear hK K
          try simp only [Act.put, List.setIfInBounds_toArray, List.set_cons_zero, List.set_cons_succ]
          refine wpAnyH_take (i := 20) (oi := { dst := some 136, op := Go.Op.pick (Go.Operand.tmp 130) (Go.Operand.tmp 135) (Go.Operand.const (Go.Value.bool false)), type := 4, pos := "law.go:73", after := #[{ on := 14, ground := Go.Ground.data }, { on := 19, ground := Go.Ground.data }], guard := none }) (v := ?_) rfl (by kernel_rfl) (by kernel_rfl) (by kernel_rfl) (fun _ _ _ h => h) (Or.inl ⟨by rfl, ?hy21⟩) hs5 ?_
          case hy21 =>
            intro u hu
            obtain ⟨u0, u1⟩ := hu
            go_simp
            try with_reducible rfl
          simp only [Act.put, List.setIfInBounds_toArray, List.set_cons_zero, List.set_cons_succ]
          refine wpAnyH_take (i := 21) (oi := { dst := some 137, op := Go.Op.move (Go.Operand.tmp 136), type := 4, pos := "law.go:73", after := #[{ on := 20, ground := Go.Ground.data }, { on := 19, ground := Go.Ground.chain }], guard := none }) (v := ?_) rfl (by kernel_rfl) (by kernel_rfl) (by kernel_rfl) (fun _ _ _ h => h) (Or.inl ⟨by rfl, ?hy22⟩) hs5 ?_
          case hy22 =>
            intro u hu
            obtain ⟨u0, u1⟩ := hu
            go_simp
            try with_reducible rfl
          simp only [Act.put, List.setIfInBounds_toArray, List.set_cons_zero, List.set_cons_succ]
          refine wpAnyH_take (i := 22) (oi := { dst := some 138, op := Go.Op.move (Go.Operand.tmp 14), type := 24, pos := "law.go:73", after := #[{ on := 21, ground := Go.Ground.guard }], guard := some (21, true) }) (v := ?_) rfl (by kernel_rfl) (by kernel_rfl) (by kernel_rfl) (fun _ _ _ h => h) (Or.inl ⟨by rfl, ?hy23⟩) hs5 ?_
          case hy23 =>
            intro u hu
            obtain ⟨u0, u1⟩ := hu
            go_simp
            try with_reducible rfl
          simp only [Act.put, List.setIfInBounds_toArray, List.set_cons_zero, List.set_cons_succ]
          refine wpAnyH_take (i := 23) (oi := { dst := some 139, op := Go.Op.binOp Go.BinOp.eql 24 (Go.Operand.tmp 138) (Go.Operand.const (Go.Value.int Go.IntKind.i64 0)) 24, type := 4, pos := "law.go:73", after := #[{ on := 22, ground := Go.Ground.data }, { on := 21, ground := Go.Ground.guard }], guard := some (21, true) }) (v := ?_) rfl (by kernel_rfl) (by kernel_rfl) (by kernel_rfl) (fun _ _ _ h => h) (Or.inl ⟨by rfl, ?hy24⟩) hs5 ?_
          case hy24 =>
            intro u hu
            obtain ⟨u0, u1⟩ := hu
            go_simp
            try with_reducible rfl
          simp only [Act.put, List.setIfInBounds_toArray, List.set_cons_zero, List.set_cons_succ]
          refine wpAnyH_take (i := 24) (oi := { dst := some 140, op := Go.Op.pick (Go.Operand.tmp 137) (Go.Operand.tmp 139) (Go.Operand.const (Go.Value.bool false)), type := 4, pos := "law.go:73", after := #[{ on := 21, ground := Go.Ground.data }, { on := 23, ground := Go.Ground.data }], guard := none }) (v := ?_) rfl (by kernel_rfl) (by kernel_rfl) (by kernel_rfl) (fun _ _ _ h => h) (Or.inl ⟨by rfl, ?hy25⟩) hs5 ?_
          case hy25 =>
            intro u hu
            obtain ⟨u0, u1⟩ := hu
            go_simp
            try with_reducible rfl
          simp only [Act.put, List.setIfInBounds_toArray, List.set_cons_zero, List.set_cons_succ]
          refine wpAnyH_take (i := 25) (oi := { dst := some 141, op := Go.Op.move (Go.Operand.tmp 140), type := 4, pos := "law.go:73", after := #[{ on := 24, ground := Go.Ground.data }, { on := 21, ground := Go.Ground.chain }], guard := none }) (v := ?_) rfl (by kernel_rfl) (by kernel_rfl) (by kernel_rfl) (fun _ _ _ h => h) (Or.inl ⟨by rfl, ?hy26⟩) hs5 ?_
          case hy26 =>
            intro u hu
            obtain ⟨u0, u1⟩ := hu
            go_simp
            try with_reducible rfl
          simp only [Act.put, List.setIfInBounds_toArray, List.set_cons_zero, List.set_cons_succ]
          refine wpAnyH_take (i := 26) (oi := { dst := some 142, op := Go.Op.move (Go.Operand.tmp 15), type := 38, pos := "law.go:73", after := #[{ on := 25, ground := Go.Ground.guard }], guard := some (25, true) }) (v := ?_) rfl (by kernel_rfl) (by kernel_rfl) (by kernel_rfl) (fun _ _ _ h => h) (Or.inl ⟨by rfl, ?hy27⟩) hs5 ?_
          case hy27 =>
            intro u hu
            obtain ⟨u0, u1⟩ := hu
            go_simp
            try with_reducible rfl
          simp only [Act.put, List.setIfInBounds_toArray, List.set_cons_zero, List.set_cons_succ]
          refine wpAnyH_ready (rs := [27]) (by kernel_rfl) (by simp) ?_
          refine AllReadyH.cons (o := { dst := some 143, op := Go.Op.call { callee := Go.Callee.value (Go.Operand.func 13), args := #[Go.Operand.const (Go.Value.int Go.IntKind.i64 0), Go.Operand.const (Go.Value.int Go.IntKind.i64 0)], argTypes := #[2, 3] }, type := 30, pos := "law.go:73", after := #[{ on := 25, ground := Go.Ground.chain }, { on := 25, ground := Go.Ground.guard }], guard := some (25, true) }) rfl (fun K hK => ?_) AllReadyH.nil
          go_simp
          (with_reducible refine Calls.mono (kt _ _ _) ?_)
          rintro e u6 ⟨rfl, hb⟩
          have HQ6 := hide (HQ5.out.below hb)
          have hs6 := HSA.out _ HQ6.out.bel
          clear hb
          refine hK.out _ _ hs6 (fun _ => ?_)
          clear hK K
          try simp only [Act.put, List.setIfInBounds_toArray, List.set_cons_zero, List.set_cons_succ]
          refine wpAnyH_ready (rs := [28]) (by kernel_rfl) (by simp) ?_
          refine AllReadyH.cons (o := { dst := some 144, op := Go.Op.call { callee := Go.Callee.value (Go.Operand.func 13), args := #[Go.Operand.const (Go.Value.int Go.IntKind.i64 5), Go.Operand.const (Go.Value.int Go.IntKind.i64 4611686018427387904)], argTypes := #[2, 3] }, type := 30, pos := "law.go:73", after := #[{ on := 27, ground := Go.Ground.chain }, { on := 25, ground := Go.Ground.guard }], guard := some (25, true) }) rfl (fun K hK => ?_) AllReadyH.nil
          go_simp
          (with_reducible refine Calls.mono (kt _ _ _) ?_)
          rintro e u7 ⟨rfl, hb⟩
          have HQ7 := hide (HQ6.out.below hb)
          have hs7 := HSA.out _ HQ7.out.bel
          clear hb
          refine hK.out _ _ hs7 (fun _ => ?_)
          clear hK K
          try simp only [Act.put, List.setIfInBounds_toArray, List.set_cons_zero, List.set_cons_succ]
          refine wpAnyH_ready (rs := [29]) (by kernel_rfl) (by simp) ?_
          refine AllReadyH.cons (o := { dst := some 145, op := Go.Op.call { callee := Go.Callee.value (Go.Operand.func 13), args := #[Go.Operand.const (Go.Value.int Go.IntKind.i64 9223372036854775807), Go.Operand.const (Go.Value.int Go.IntKind.i64 (-1))], argTypes := #[2, 3] }, type := 30, pos := "law.go:73", after := #[{ on := 28, ground := Go.Ground.chain }, { on := 25, ground := Go.Ground.guard }], guard := some (25, true) }) rfl (fun K hK => ?_) AllReadyH.nil
          go_simp
          (with_reducible refine Calls.mono (kt _ _ _) ?_)
          rintro e u8 ⟨rfl, hb⟩
          have HQ8 := hide (HQ7.out.below hb)
          have hs8 := HSA.out _ HQ8.out.bel
          clear hb
          refine hK.out _ _ hs8 (fun _ => ?_)
          clear hK K
          try simp only [Act.put, List.setIfInBounds_toArray, List.set_cons_zero, List.set_cons_succ]
          refine wpAnyH_ready (rs := [30]) (by kernel_rfl) (by simp) ?_
          refine AllReadyH.cons (o := { dst := some 146, op := Go.Op.buildSlice 38 3 #[(0, Go.Operand.tmp 143), (1, Go.Operand.tmp 144), (2, Go.Operand.tmp 145)], type := 38, pos := "law.go:73", after := #[{ on := 27, ground := Go.Ground.data }, { on := 28, ground := Go.Ground.data }, { on := 29, ground := Go.Ground.data }, { on := 25, ground := Go.Ground.guard }], guard := some (25, true) }) rfl (fun K hK => ?_) AllReadyH.nil
          go_simp
          have HQ9 := hide (HQ8.out.below ((Below.refl _ _).alloc (Nat.le_refl _) (.cells #[.int .i64 0, .int .i64 0, .int .i64 5, .int .i64 4611686018427387904, .int .i64 9223372036854775807, .int .i64 (-1)] 30)))
          have hs9 := HSA.out _ HQ9.out.bel
          refine hK.out _ _ hs9 (fun _ => ?_)
          clear hK K
          try simp only [Act.put, List.setIfInBounds_toArray, List.set_cons_zero, List.set_cons_succ]
          refine wpAnyH_ready (rs := [31]) (by kernel_rfl) (by simp) ?_
          refine AllReadyH.cons (o := { dst := some 147, op := Go.Op.call { callee := Go.Callee.value (Go.Operand.func 20), args := #[Go.Operand.tmp 142, Go.Operand.tmp 146], argTypes := #[38, 38] }, type := 4, pos := "law.go:73", after := #[{ on := 26, ground := Go.Ground.data }, { on := 30, ground := Go.Ground.data }, { on := 29, ground := Go.Ground.chain }, { on := 25, ground := Go.Ground.guard }], guard := some (25, true) }) rfl (fun K hK => ?_) AllReadyH.nil
          have ks10 := same_any (HAA.out _ HQ9.out.bel) (KE3.out _) (by decide)
          simp only [decide_true] at ks10
          go_simp
          (with_reducible refine Calls.mono ks10 ?_)
          rintro e u10 ⟨rfl, hb⟩
          have HQ10 := hide (HQ9.out.below hb)
          have hs10 := HSA.out _ HQ10.out.bel
          clear hb ks10
          refine hK.out _ _ hs10 (fun _ => ?_)
          clear hK K
          try simp only [Act.put, List.setIfInBounds_toArray, List.set_cons_zero, List.set_cons_succ]
          refine wpAnyH_take (i := 32) (oi := { dst := some 148, op := Go.Op.pick (Go.Operand.tmp 141) (Go.Operand.tmp 147) (Go.Operand.const (Go.Value.bool false)), type := 4, pos := "law.go:73", after := #[{ on := 25, ground := Go.Ground.data }, { on := 31, ground := Go.Ground.data }], guard := none }) (v := ?_) rfl (by kernel_rfl) (by kernel_rfl) (by kernel_rfl) (fun _ _ _ h => h) (Or.inl ⟨by rfl, ?hy33⟩) hs10 ?_
          case hy33 =>
            intro u hu
            obtain ⟨u0, u1⟩ := hu
            go_simp
            try with_reducible rfl
          simp only [Act.put, List.setIfInBounds_toArray, List.set_cons_zero, List.set_cons_succ]
          refine wpAnyH_take (i := 33) (oi := { dst := some 149, op := Go.Op.move (Go.Operand.tmp 148), type := 4, pos := "law.go:73", after := #[{ on := 32, ground := Go.Ground.data }, { on := 31, ground := Go.Ground.chain }], guard := none }) (v := ?_) rfl (by kernel_rfl) (by kernel_rfl) (by kernel_rfl) (fun _ _ _ h => h) (Or.inl ⟨by rfl, ?hy34⟩) hs10 ?_
          case hy34 =>
            intro u hu
            obtain ⟨u0, u1⟩ := hu
            go_simp
            try with_reducible rfl
          simp only [Act.put, List.setIfInBounds_toArray, List.set_cons_zero, List.set_cons_succ]
          refine wpAnyH_take (i := 34) (oi := { dst := some 150, op := Go.Op.move (Go.Operand.tmp 19), type := 24, pos := "law.go:73", after := #[{ on := 33, ground := Go.Ground.guard }], guard := some (33, true) }) (v := ?_) rfl (by kernel_rfl) (by kernel_rfl) (by kernel_rfl) (fun _ _ _ h => h) (Or.inl ⟨by rfl, ?hy35⟩) hs10 ?_
          case hy35 =>
            intro u hu
            obtain ⟨u0, u1⟩ := hu
            go_simp
            try with_reducible rfl
          simp only [Act.put, List.setIfInBounds_toArray, List.set_cons_zero, List.set_cons_succ]
          refine wpAnyH_take (i := 35) (oi := { dst := some 151, op := Go.Op.binOp Go.BinOp.eql 3 (Go.Operand.tmp 150) (Go.Operand.const (Go.Value.int Go.IntKind.i64 5)) 3, type := 4, pos := "law.go:73", after := #[{ on := 34, ground := Go.Ground.data }, { on := 33, ground := Go.Ground.guard }], guard := some (33, true) }) (v := ?_) rfl (by kernel_rfl) (by kernel_rfl) (by kernel_rfl) (fun _ _ _ h => h) (Or.inl ⟨by rfl, ?hy36⟩) hs10 ?_
          case hy36 =>
            intro u hu
            obtain ⟨u0, u1⟩ := hu
            go_simp
            try with_reducible rfl
          simp only [Act.put, List.setIfInBounds_toArray, List.set_cons_zero, List.set_cons_succ]
          refine wpAnyH_take (i := 36) (oi := { dst := some 152, op := Go.Op.pick (Go.Operand.tmp 149) (Go.Operand.tmp 151) (Go.Operand.const (Go.Value.bool false)), type := 4, pos := "law.go:73", after := #[{ on := 33, ground := Go.Ground.data }, { on := 35, ground := Go.Ground.data }], guard := none }) (v := ?_) rfl (by kernel_rfl) (by kernel_rfl) (by kernel_rfl) (fun _ _ _ h => h) (Or.inl ⟨by rfl, ?hy37⟩) hs10 ?_
          case hy37 =>
            intro u hu
            obtain ⟨u0, u1⟩ := hu
            go_simp
            try with_reducible rfl
          simp only [Act.put, List.setIfInBounds_toArray, List.set_cons_zero, List.set_cons_succ]
          refine wpAnyH_take (i := 37) (oi := { dst := some 153, op := Go.Op.move (Go.Operand.tmp 152), type := 4, pos := "law.go:73", after := #[{ on := 36, ground := Go.Ground.data }, { on := 33, ground := Go.Ground.chain }], guard := none }) (v := ?_) rfl (by kernel_rfl) (by kernel_rfl) (by kernel_rfl) (fun _ _ _ h => h) (Or.inl ⟨by rfl, ?hy38⟩) hs10 ?_
          case hy38 =>
            intro u hu
            obtain ⟨u0, u1⟩ := hu
            go_simp
            try with_reducible rfl
          simp only [Act.put, List.setIfInBounds_toArray, List.set_cons_zero, List.set_cons_succ]
          refine wpAnyH_take (i := 38) (oi := { dst := some 154, op := Go.Op.move (Go.Operand.tmp 20), type := 3, pos := "law.go:73", after := #[{ on := 37, ground := Go.Ground.guard }], guard := some (37, true) }) (v := ?_) rfl (by kernel_rfl) (by kernel_rfl) (by kernel_rfl) (fun _ _ _ h => h) (Or.inl ⟨by rfl, ?hy39⟩) hs10 ?_
          case hy39 =>
            intro u hu
            obtain ⟨u0, u1⟩ := hu
            go_simp
            try with_reducible rfl
          simp only [Act.put, List.setIfInBounds_toArray, List.set_cons_zero, List.set_cons_succ]
          refine wpAnyH_take (i := 39) (oi := { dst := some 155, op := Go.Op.binOp Go.BinOp.eql 3 (Go.Operand.tmp 154) (Go.Operand.const (Go.Value.int Go.IntKind.i64 32536)) 3, type := 4, pos := "law.go:73", after := #[{ on := 38, ground := Go.Ground.data }, { on := 37, ground := Go.Ground.guard }], guard := some (37, true) }) (v := ?_) rfl (by kernel_rfl) (by kernel_rfl) (by kernel_rfl) (fun _ _ _ h => h) (Or.inl ⟨by rfl, ?hy40⟩) hs10 ?_
          case hy40 =>
            intro u hu
            obtain ⟨u0, u1⟩ := hu
            go_simp
            try with_reducible rfl
          simp only [Act.put, List.setIfInBounds_toArray, List.set_cons_zero, List.set_cons_succ]
          refine wpAnyH_take (i := 40) (oi := { dst := some 156, op := Go.Op.pick (Go.Operand.tmp 153) (Go.Operand.tmp 155) (Go.Operand.const (Go.Value.bool false)), type := 4, pos := "law.go:73", after := #[{ on := 37, ground := Go.Ground.data }, { on := 39, ground := Go.Ground.data }], guard := none }) (v := ?_) rfl (by kernel_rfl) (by kernel_rfl) (by kernel_rfl) (fun _ _ _ h => h) (Or.inl ⟨by rfl, ?hy41⟩) hs10 ?_
          case hy41 =>
            intro u hu
            obtain ⟨u0, u1⟩ := hu
            go_simp
            try with_reducible rfl
          simp only [Act.put, List.setIfInBounds_toArray, List.set_cons_zero, List.set_cons_succ]
          refine wpAnyH_take (i := 41) (oi := { dst := some 157, op := Go.Op.move (Go.Operand.tmp 156), type := 4, pos := "law.go:73", after := #[{ on := 40, ground := Go.Ground.data }, { on := 37, ground := Go.Ground.chain }], guard := none }) (v := ?_) rfl (by kernel_rfl) (by kernel_rfl) (by kernel_rfl) (fun _ _ _ h => h) (Or.inl ⟨by rfl, ?hy42⟩) hs10 ?_
          case hy42 =>
            intro u hu
            obtain ⟨u0, u1⟩ := hu
            go_simp
            try with_reducible rfl
          simp only [Act.put, List.setIfInBounds_toArray, List.set_cons_zero, List.set_cons_succ]
          refine wpAnyH_take (i := 42) (oi := { dst := some 158, op := Go.Op.move (Go.Operand.tmp 16), type := 23, pos := "law.go:73", after := #[{ on := 41, ground := Go.Ground.guard }], guard := some (41, true) }) (v := ?_) rfl (by kernel_rfl) (by kernel_rfl) (by kernel_rfl) (fun _ _ _ h => h) (Or.inl ⟨by rfl, ?hy43⟩) hs10 ?_
          case hy43 =>
            intro u hu
            obtain ⟨u0, u1⟩ := hu
            go_simp
            try with_reducible rfl
          simp only [Act.put, List.setIfInBounds_toArray, List.set_cons_zero, List.set_cons_succ]
          refine wpAnyH_take (i := 44) (oi := { dst := some 160, op := Go.Op.move (Go.Operand.tmp 20), type := 3, pos := "law.go:73", after := #[{ on := 41, ground := Go.Ground.guard }], guard := some (41, true) }) (v := ?_) rfl (by kernel_rfl) (by kernel_rfl) (by kernel_rfl) (fun _ _ _ h => h) (Or.inl ⟨by rfl, ?hy44⟩) hs10 ?_
          case hy44 =>
            intro u hu
            obtain ⟨u0, u1⟩ := hu
            go_simp
            try with_reducible rfl
          simp only [Act.put, List.setIfInBounds_toArray, List.set_cons_zero, List.set_cons_succ]
          refine wpAnyH_take (i := 45) (oi := { dst := some 161, op := Go.Op.binOp Go.BinOp.sub 3 (Go.Operand.const (Go.Value.int Go.IntKind.i64 65536)) (Go.Operand.tmp 160) 3, type := 3, pos := "law.go:73", after := #[{ on := 44, ground := Go.Ground.data }, { on := 41, ground := Go.Ground.guard }], guard := some (41, true) }) (v := ?_) rfl (by kernel_rfl) (by kernel_rfl) (by kernel_rfl) (fun _ _ _ h => h) (Or.inl ⟨by rfl, ?hy45⟩) hs10 ?_
          case hy45 =>
            intro u hu
            obtain ⟨u0, u1⟩ := hu
            go_simp
            try with_reducible rfl
          simp only [Act.put, List.setIfInBounds_toArray, List.set_cons_zero, List.set_cons_succ]
          refine wpAnyH_ready (rs := [43]) (by kernel_rfl) (by simp) ?_
          refine AllReadyH.cons (o := { dst := some 159, op := Go.Op.call { callee := Go.Callee.value (Go.Operand.func 15), args := #[Go.Operand.tmp 158], argTypes := #[23] }, type := 3, pos := "law.go:73", after := #[{ on := 42, ground := Go.Ground.data }, { on := 41, ground := Go.Ground.chain }, { on := 41, ground := Go.Ground.guard }], guard := some (41, true) }) rfl (fun K hK => ?_) AllReadyH.nil
          have kl11 := len_any HQ10.out.hp
          rw [HRL.out] at kl11
          go_simp
          (with_reducible refine Calls.mono kl11 ?_)
          rintro e u11 ⟨rfl, rfl⟩
          have HQ11 := HQ10
          have hs11 := HSA.out _ HQ11.out.bel
          clear kl11
          refine hK.out _ _ hs11 (fun _ => ?_)
          clear hK K
          try simp only [Act.put, List.setIfInBounds_toArray, List.set_cons_zero, List.set_cons_succ]
          refine wpAnyH_take (i := 46) (oi := { dst := some 162, op := Go.Op.binOp Go.BinOp.eql 3 (Go.Operand.tmp 159) (Go.Operand.tmp 161) 3, type := 4, pos := "law.go:73", after := #[{ on := 43, ground := Go.Ground.data }, { on := 45, ground := Go.Ground.data }, { on := 41, ground := Go.Ground.guard }], guard := some (41, true) }) (v := ?_) rfl (by kernel_rfl) (by kernel_rfl) (by kernel_rfl) (fun _ _ _ h => h) (Or.inl ⟨by rfl, ?hy47⟩) hs11 ?_
          case hy47 =>
            intro u hu
            obtain ⟨u0, u1⟩ := hu
            go_simp
            try with_reducible rfl
          simp only [Act.put, List.setIfInBounds_toArray, List.set_cons_zero, List.set_cons_succ]
          refine wpAnyH_take (i := 47) (oi := { dst := some 163, op := Go.Op.pick (Go.Operand.tmp 157) (Go.Operand.tmp 162) (Go.Operand.const (Go.Value.bool false)), type := 4, pos := "law.go:73", after := #[{ on := 41, ground := Go.Ground.data }, { on := 46, ground := Go.Ground.data }], guard := none }) (v := ?_) rfl (by kernel_rfl) (by kernel_rfl) (by kernel_rfl) (fun _ _ _ h => h) (Or.inl ⟨by rfl, ?hy48⟩) hs11 ?_
          case hy48 =>
            intro u hu
            obtain ⟨u0, u1⟩ := hu
            go_simp
            try with_reducible rfl
          simp only [Act.put, List.setIfInBounds_toArray, List.set_cons_zero, List.set_cons_succ]
          refine wpAnyH_take (i := 48) (oi := { dst := some 164, op := Go.Op.move (Go.Operand.tmp 163), type := 4, pos := "law.go:73", after := #[{ on := 47, ground := Go.Ground.data }, { on := 43, ground := Go.Ground.chain }], guard := none }) (v := ?_) rfl (by kernel_rfl) (by kernel_rfl) (by kernel_rfl) (fun _ _ _ h => h) (Or.inl ⟨by rfl, ?hy49⟩) hs11 ?_
          case hy49 =>
            intro u hu
            obtain ⟨u0, u1⟩ := hu
            go_simp
            try with_reducible rfl
          simp only [Act.put, List.setIfInBounds_toArray, List.set_cons_zero, List.set_cons_succ]
          refine wpAnyH_ready (rs := [49]) (by kernel_rfl) (by simp) ?_
          refine AllReadyH.cons (o := { dst := some 165, op := Go.Op.call { callee := Go.Callee.value (Go.Operand.func 21), args := #[], argTypes := #[] }, type := 4, pos := "law.go:73", after := #[{ on := 48, ground := Go.Ground.chain }, { on := 48, ground := Go.Ground.guard }], guard := some (48, true) }) rfl (fun K hK => ?_) AllReadyH.nil
          go_simp
          (with_reducible refine Calls.mono (awake_true _) ?_)
          rintro e u12 ⟨rfl, hb⟩
          have HQ12 := hide (HQ11.out.below hb)
          have hs12 := HSA.out _ HQ12.out.bel
          clear hb
          refine hK.out _ _ hs12 (fun _ => ?_)
          clear hK K
          try simp only [Act.put, List.setIfInBounds_toArray, List.set_cons_zero, List.set_cons_succ]
          refine wpAnyH_take (i := 50) (oi := { dst := some 166, op := Go.Op.pick (Go.Operand.tmp 164) (Go.Operand.tmp 165) (Go.Operand.const (Go.Value.bool false)), type := 4, pos := "law.go:73", after := #[{ on := 48, ground := Go.Ground.data }, { on := 49, ground := Go.Ground.data }], guard := none }) (v := ?_) rfl (by kernel_rfl) (by kernel_rfl) (by kernel_rfl) (fun _ _ _ h => h) (Or.inl ⟨by rfl, ?hy51⟩) hs12 ?_
          case hy51 =>
            intro u hu
            obtain ⟨u0, u1⟩ := hu
            go_simp
            try with_reducible rfl
          simp only [Act.put, List.setIfInBounds_toArray, List.set_cons_zero, List.set_cons_succ]
          refine wpAnyH_ready (rs := [51]) (by kernel_rfl) (by simp) ?_
          refine AllReadyH.cons (o := { dst := some 0, op := Go.Op.assign (Go.Operand.tmp 166), type := 4, pos := "law.go:73", after := #[{ on := 50, ground := Go.Ground.data }, { on := 49, ground := Go.Ground.chain }, { on := 0, ground := Go.Ground.phase }, { on := 1, ground := Go.Ground.phase }, { on := 2, ground := Go.Ground.phase }, { on := 3, ground := Go.Ground.phase }, { on := 4, ground := Go.Ground.phase }, { on := 5, ground := Go.Ground.phase }, { on := 6, ground := Go.Ground.phase }, { on := 7, ground := Go.Ground.phase }, { on := 8, ground := Go.Ground.phase }, { on := 9, ground := Go.Ground.phase }, { on := 10, ground := Go.Ground.phase }, { on := 11, ground := Go.Ground.phase }, { on := 12, ground := Go.Ground.phase }, { on := 13, ground := Go.Ground.phase }, { on := 14, ground := Go.Ground.phase }, { on := 15, ground := Go.Ground.phase }, { on := 16, ground := Go.Ground.phase }, { on := 17, ground := Go.Ground.phase }, { on := 18, ground := Go.Ground.phase }, { on := 19, ground := Go.Ground.phase }, { on := 20, ground := Go.Ground.phase }, { on := 21, ground := Go.Ground.phase }, { on := 22, ground := Go.Ground.phase }, { on := 23, ground := Go.Ground.phase }, { on := 24, ground := Go.Ground.phase }, { on := 25, ground := Go.Ground.phase }, { on := 26, ground := Go.Ground.phase }, { on := 27, ground := Go.Ground.phase }, { on := 28, ground := Go.Ground.phase }, { on := 29, ground := Go.Ground.phase }, { on := 30, ground := Go.Ground.phase }, { on := 31, ground := Go.Ground.phase }, { on := 32, ground := Go.Ground.phase }, { on := 33, ground := Go.Ground.phase }, { on := 34, ground := Go.Ground.phase }, { on := 35, ground := Go.Ground.phase }, { on := 36, ground := Go.Ground.phase }, { on := 37, ground := Go.Ground.phase }, { on := 38, ground := Go.Ground.phase }, { on := 39, ground := Go.Ground.phase }, { on := 40, ground := Go.Ground.phase }, { on := 41, ground := Go.Ground.phase }, { on := 42, ground := Go.Ground.phase }, { on := 43, ground := Go.Ground.phase }, { on := 44, ground := Go.Ground.phase }, { on := 45, ground := Go.Ground.phase }, { on := 46, ground := Go.Ground.phase }, { on := 47, ground := Go.Ground.phase }, { on := 48, ground := Go.Ground.phase }, { on := 49, ground := Go.Ground.phase }, { on := 50, ground := Go.Ground.phase }], guard := none }) rfl (fun K hK => ?_) AllReadyH.nil
          go_simp
          have HQ13 := HQ12
          refine hK.out _ _ hs12 (fun _ => ?_)
          clear hK K
          try simp only [Act.put, List.setIfInBounds_toArray, List.set_cons_zero, List.set_cons_succ]
          refine wpAnyH_done (by kernel_rfl) ?_ _
          go_wp2_with fail
          go_ret
          exact ⟨rfl, below_call HB21.out HQ13.out.bel⟩
end Go.Proofs.Ytemlanalaihkoaa
