/-
  The law BytesGrow answers true, whatever the two numbers: of two numbers without a sign the greater one is never written shorter, and a byte more comes just where all sevens were full. No condition.
-/
import Derived.Test.YtgeljaliddedfaaWi
import Derived.Test.YtgeljaliddedfaaMath
namespace Go.Proofs.Ytgeljaliddedfaa
open Go.RowKit

set_option maxRecDepth 100000 in
set_option maxHeartbeats 2000000 in
theorem grow_top_gt (n m : Nat) (w : World) (hn : n ≤ 18446744073709551615) (hm : m ≤ 18446744073709551615) (htop : (18446744073709551615 : Int) ≤ n) (hnm : m < n) :
    Calls Try.prog 7 #[.int .u64 n, .int .u64 m] w fun e w' => e = .returned (.bool true) ∧ Below w.heap.size w w' := by
  have hT := run_toStr
  have HN : Hid (n ≤ 18446744073709551615) := hn
  have HM : Hid (m ≤ 18446744073709551615) := hm
  clear hn hm
  · go_enter Try.func7, Try.ntmps7
    go_wp2_with fail
    refine (uint_any _ [] m _ (by omega) (by have := HM.out; omega) (Rd.nil _) (by simp)).mono ?_
    rintro e w1 ⟨v1, rfl, hown1, hb1⟩
    rw [List.nil_append] at hown1
    obtain ⟨la, HLA⟩ := named (U m)
    rw [← HLA.out] at hown1
    go_wp2_with fail
    refine (uint_any _ [] n _ (by omega) (by have := HN.out; omega) (Rd.nil _) (by simp)).mono ?_
    rintro e w2 ⟨v2, rfl, hown2, hb2⟩
    rw [List.nil_append] at hown2
    obtain ⟨lb, HLB⟩ := named (U n)
    rw [← HLB.out] at hown2
    have hrda := hown1.rd.below hb2
    have hrdb := hown2.rd
    obtain ⟨a1, c1, hv1, -⟩ := id hown1.rd
    subst hv1
    obtain ⟨a2, c2, hv2, -⟩ := id hown2.rd
    subst hv2
    have hsa := run_str w2 _ la hrda
    have hsb := run_str w2 _ lb hrdb
    have hpa : 0 < la.length := by rw [HLA.out]; exact U_pos _
    have hpb : la.length ≤ lb.length := by rw [HLA.out, HLB.out]; exact U_mono _ _ (by omega)
    have hq : (la == lb) = ((n : Int) == (m : Int)) := by
      rw [Bool.eq_iff_iff]
      simp only [beq_iff_eq]
      rw [HLA.out, HLB.out]
      constructor
      · intro h
        have := U_inj _ _ HM.out HN.out h
        omega
      · intro h
        have : m = n := by omega
        rw [this]
    have hz0 : ((la.length : Int) == 0) = false := by simp only [beq_eq_false_iff_ne]; omega
    have hz1 : ¬ ((lb.length : Int) < (la.length : Int)) := by omega
    have hB2 : Below w.heap.size w w2 := below_call hb1 hb2
    clear hb1 hb2 hown1 hown2 hrda hrdb
    have h10 : lb.length = 10 := by
      have e : (n : Int) = 18446744073709551615 := by have := HN.out; omega
      rw [HLB.out, e, U_top]
    have h10' : ((lb.length : Int) == 10) = true := by rw [h10]; rfl
    have hnt : ((n : Int) == 18446744073709551615) = true := by
      have := HN.out
      simp only [beq_iff_eq]
      omega
    clear h10
    go_wp2_with fail
    refine (awake_true _).mono ?_
    rintro e w3 ⟨rfl, hb3⟩
    go_wp2
    go_ret
    exact ⟨rfl, below_call hB2 hb3⟩

set_option maxRecDepth 100000 in
set_option maxHeartbeats 2000000 in
theorem grow_lt (n m : Nat) (w : World) (hn : n ≤ 18446744073709551615) (hm : m ≤ 18446744073709551615) (hlt : (n : Int) ≤ 18446744073709551614) (hnm : n < m) :
    Calls Try.prog 7 #[.int .u64 n, .int .u64 m] w fun e w' => e = .returned (.bool true) ∧ Below w.heap.size w w' := by
  have hT := run_toStr
  have HN : Hid (n ≤ 18446744073709551615) := hn
  have HM : Hid (m ≤ 18446744073709551615) := hm
  clear hn hm
  · go_enter Try.func7, Try.ntmps7
    go_wp2_with fail
    refine (uint_any _ [] n _ (by omega) (by have := HN.out; omega) (Rd.nil _) (by simp)).mono ?_
    rintro e w1 ⟨v1, rfl, hown1, hb1⟩
    rw [List.nil_append] at hown1
    obtain ⟨la, HLA⟩ := named (U n)
    rw [← HLA.out] at hown1
    go_wp2_with fail
    refine (uint_any _ [] m _ (by omega) (by have := HM.out; omega) (Rd.nil _) (by simp)).mono ?_
    rintro e w2 ⟨v2, rfl, hown2, hb2⟩
    rw [List.nil_append] at hown2
    obtain ⟨lb, HLB⟩ := named (U m)
    rw [← HLB.out] at hown2
    have hrda := hown1.rd.below hb2
    have hrdb := hown2.rd
    obtain ⟨a1, c1, hv1, -⟩ := id hown1.rd
    subst hv1
    obtain ⟨a2, c2, hv2, -⟩ := id hown2.rd
    subst hv2
    have hsa := run_str w2 _ la hrda
    have hsb := run_str w2 _ lb hrdb
    have hpa : 0 < la.length := by rw [HLA.out]; exact U_pos _
    have hpb : la.length ≤ lb.length := by rw [HLA.out, HLB.out]; exact U_mono _ _ (by omega)
    have hq : (la == lb) = ((n : Int) == (m : Int)) := by
      rw [Bool.eq_iff_iff]
      simp only [beq_iff_eq]
      rw [HLA.out, HLB.out]
      constructor
      · intro h
        have := U_inj _ _ HN.out HM.out h
        omega
      · intro h
        have : n = m := by omega
        rw [this]
    have hz0 : ((la.length : Int) == 0) = false := by simp only [beq_eq_false_iff_ne]; omega
    have hz1 : ¬ ((lb.length : Int) < (la.length : Int)) := by omega
    have hB2 : Below w.heap.size w w2 := below_call hb1 hb2
    clear hb1 hb2 hown1 hown2 hrda hrdb
    have hnt : ((n : Int) == 18446744073709551615) = false := by simp only [beq_eq_false_iff_ne]; omega
    go_wp2_with fail
    clear hsa hsb hpa hpb hq hz0 hz1 hnt
    refine (uint_any _ [] n _ (by omega) (by omega) (Rd.nil _) (by simp)).mono ?_
    rintro e w3 ⟨v3, rfl, hown3, hb3⟩
    rw [List.nil_append] at hown3
    have hB3 := below_call hB2 hb3
    clear hb3 hB2
    obtain ⟨k, hk⟩ : ∃ k, (U n).length = k + 1 := ⟨(U n).length - 1, by have := U_pos (n : Int); omega⟩
    have hk10 : k + 1 ≤ 10 := by rw [← hk]; exact U_len _
    have hfull := fullL_eq (U n) k hk
    have hnext := U_next n (by omega)
    rw [hk] at hnext
    obtain ⟨ln, HLN⟩ := named (U n)
    have hlast : k < ln.length := by rw [HLN.out, hk]; omega
    have hkl : ln.length = k + 1 := by rw [HLN.out, hk]
    have hfull2 : fullL ln = fullTo ln (decide (ln[k] = 127)) k := fullL_eq ln k hkl
    rw [← HLN.out] at hown3 hnext
    have HKL : Hid _ := hkl
    clear hfull hk
    go_wp2_with fail
    refine (uint_any _ [] ((n : Int) + 1) _ (by omega) (by omega) (Rd.nil _) (by simp)).mono ?_
    rintro e w4 ⟨v4, rfl, hown4, hb4⟩
    rw [List.nil_append] at hown4
    have hB4 := below_call hB3 hb4
    have hown3' := hown3.below hb4
    clear hb4 hB3 hown3
    have e1 : (((n + 1 : Nat)) : Int) = (n : Int) + 1 := by omega
    rw [e1] at hnext
    obtain ⟨lt, HLT⟩ := named (U ((n : Int) + 1))
    rw [← HLT.out] at hown4 hnext
    obtain ⟨a4, c4, hv4, -⟩ := id hown4.rd
    subst hv4
    clear hown4 e1 hlt
    rcases hown3'.shape with ⟨-, h0⟩ | ⟨g, cap, hv3, -, hg, hcap, hmax, hcell⟩
    · rw [h0] at hlast; simp at hlast
    have HC : Hid _ := hcell
    rw [hkl] at hv3 hcap
    rw [hv3]
    clear hv3 hcell hown3' hkl
    unfold maxLen at hmax
    have hck := HC.out k hlast
    obtain ⟨xl, HXL⟩ := named (ln[k]'hlast)
    rw [← HXL.out] at hck hfull2
    have hb127 : ((xl.toNat : Int) == 127) = decide (xl = 127) := u8_eq xl 127 (by omega)
    have hkk : (k : Int) + 1 - 1 = k := by omega
    obtain ⟨bl, HBL⟩ := named (decide (xl = 127))
    rw [← HBL.out] at hb127 hfull2
    have HF2 : Hid _ := hfull2
    have HNX : Hid _ := hnext
    clear hfull2 hnext
    go_wp2_with fail
    go_loop [9, 67] (fun fv iv => ∃ j : Nat, j ≤ k ∧ iv = .int .i64 j ∧ fv = .bool (fullTo ln bl j)) (fun _ iv => k - (intOf iv).toNat)
    case atStart => exact ⟨0, by omega, rfl, by simp [fullTo]⟩
    case round =>
      obtain ⟨j, hj, rfl, rfl⟩ := hrel
      clear hb127 hck
      by_cases hjk : j < k
      · have hjl : j < ln.length := by omega
        have hcj := HC.out j hjl
        have hsu := fullTo_succ ln bl j hjl
        obtain ⟨x, HX⟩ := named (ln[j]'hjl)
        rw [← HX.out] at hcj hsu
        have hb255 : ((x.toNat : Int) == 255) = decide (x = 255) := u8_eq x 255 (by omega)
        have HS : Hid _ := hsu
        clear hsu
        have hjk' : (j : Int) < k := by omega
        cases hfj : fullTo ln bl j with
        | true =>
          have HFJ : Hid _ := hfj
          clear hfj
          go_wp2
          go_round
          case rel => exact ⟨j + 1, by omega, by go_num, by rw [HS.out, HFJ.out]; simp⟩
          case measure => simp [intOf]; omega
        | false =>
          have HFJ : Hid _ := hfj
          clear hfj
          go_wp2
          go_round
          case rel => exact ⟨j + 1, by omega, by go_num, by rw [HS.out, HFJ.out]; simp⟩
          case measure => simp [intOf]; omega
      · have ejk : j = k := by omega
        have hjk' : ¬ (j : Int) < k := by omega
        have hff : fullTo ln bl j = fullL ln := by rw [HF2.out, ejk]
        clear ejk
        rw [hff]
        have hnx := HNX.out
        clear hff
        cases hfl : fullL ln with
        | true =>
          rw [hfl, if_pos rfl] at hnx
          have hz : (lt.length : Int) = (k : Int) + 1 + 1 := by omega
          have hz1 : ((lt.length : Int) == (k : Int) + 1 + 1) = true := by rw [hz]; simp
          clear hnx hz hfl
          go_wp2_with fail
          refine (awake_true _).mono ?_
          rintro e w5 ⟨rfl, hb5⟩
          go_wp2
          go_ret
          exact ⟨rfl, below_call hB4 hb5⟩
        | false =>
          rw [hfl, if_neg (by simp)] at hnx
          have hz1 : ((lt.length : Int) == (k : Int) + 1 + 1) = false := by simp only [beq_eq_false_iff_ne]; omega
          have hz2 : ((lt.length : Int) == (k : Int) + 1) = true := by simp only [beq_iff_eq]; omega
          clear hnx hfl
          go_wp2_with fail
          refine (awake_true _).mono ?_
          rintro e w5 ⟨rfl, hb5⟩
          go_wp2
          go_ret
          exact ⟨rfl, below_call hB4 hb5⟩

set_option maxRecDepth 100000 in
set_option maxHeartbeats 2000000 in
theorem grow_gt (n m : Nat) (w : World) (hn : n ≤ 18446744073709551615) (hm : m ≤ 18446744073709551615) (hlt : (n : Int) ≤ 18446744073709551614) (hnm : m < n) :
    Calls Try.prog 7 #[.int .u64 n, .int .u64 m] w fun e w' => e = .returned (.bool true) ∧ Below w.heap.size w w' := by
  have hT := run_toStr
  have HN : Hid (n ≤ 18446744073709551615) := hn
  have HM : Hid (m ≤ 18446744073709551615) := hm
  clear hn hm
  · go_enter Try.func7, Try.ntmps7
    go_wp2_with fail
    refine (uint_any _ [] m _ (by omega) (by have := HM.out; omega) (Rd.nil _) (by simp)).mono ?_
    rintro e w1 ⟨v1, rfl, hown1, hb1⟩
    rw [List.nil_append] at hown1
    obtain ⟨la, HLA⟩ := named (U m)
    rw [← HLA.out] at hown1
    go_wp2_with fail
    refine (uint_any _ [] n _ (by omega) (by have := HN.out; omega) (Rd.nil _) (by simp)).mono ?_
    rintro e w2 ⟨v2, rfl, hown2, hb2⟩
    rw [List.nil_append] at hown2
    obtain ⟨lb, HLB⟩ := named (U n)
    rw [← HLB.out] at hown2
    have hrda := hown1.rd.below hb2
    have hrdb := hown2.rd
    obtain ⟨a1, c1, hv1, -⟩ := id hown1.rd
    subst hv1
    obtain ⟨a2, c2, hv2, -⟩ := id hown2.rd
    subst hv2
    have hsa := run_str w2 _ la hrda
    have hsb := run_str w2 _ lb hrdb
    have hpa : 0 < la.length := by rw [HLA.out]; exact U_pos _
    have hpb : la.length ≤ lb.length := by rw [HLA.out, HLB.out]; exact U_mono _ _ (by omega)
    have hq : (la == lb) = ((n : Int) == (m : Int)) := by
      rw [Bool.eq_iff_iff]
      simp only [beq_iff_eq]
      rw [HLA.out, HLB.out]
      constructor
      · intro h
        have := U_inj _ _ HM.out HN.out h
        omega
      · intro h
        have : m = n := by omega
        rw [this]
    have hz0 : ((la.length : Int) == 0) = false := by simp only [beq_eq_false_iff_ne]; omega
    have hz1 : ¬ ((lb.length : Int) < (la.length : Int)) := by omega
    have hB2 : Below w.heap.size w w2 := below_call hb1 hb2
    clear hb1 hb2 hown1 hown2 hrda hrdb
    have hnt : ((n : Int) == 18446744073709551615) = false := by simp only [beq_eq_false_iff_ne]; omega
    go_wp2_with fail
    clear hsa hsb hpa hpb hq hz0 hz1 hnt
    refine (uint_any _ [] n _ (by omega) (by omega) (Rd.nil _) (by simp)).mono ?_
    rintro e w3 ⟨v3, rfl, hown3, hb3⟩
    rw [List.nil_append] at hown3
    have hB3 := below_call hB2 hb3
    clear hb3 hB2
    obtain ⟨k, hk⟩ : ∃ k, (U n).length = k + 1 := ⟨(U n).length - 1, by have := U_pos (n : Int); omega⟩
    have hk10 : k + 1 ≤ 10 := by rw [← hk]; exact U_len _
    have hfull := fullL_eq (U n) k hk
    have hnext := U_next n (by omega)
    rw [hk] at hnext
    obtain ⟨ln, HLN⟩ := named (U n)
    have hlast : k < ln.length := by rw [HLN.out, hk]; omega
    have hkl : ln.length = k + 1 := by rw [HLN.out, hk]
    have hfull2 : fullL ln = fullTo ln (decide (ln[k] = 127)) k := fullL_eq ln k hkl
    rw [← HLN.out] at hown3 hnext
    have HKL : Hid _ := hkl
    clear hfull hk
    go_wp2_with fail
    refine (uint_any _ [] ((n : Int) + 1) _ (by omega) (by omega) (Rd.nil _) (by simp)).mono ?_
    rintro e w4 ⟨v4, rfl, hown4, hb4⟩
    rw [List.nil_append] at hown4
    have hB4 := below_call hB3 hb4
    have hown3' := hown3.below hb4
    clear hb4 hB3 hown3
    have e1 : (((n + 1 : Nat)) : Int) = (n : Int) + 1 := by omega
    rw [e1] at hnext
    obtain ⟨lt, HLT⟩ := named (U ((n : Int) + 1))
    rw [← HLT.out] at hown4 hnext
    obtain ⟨a4, c4, hv4, -⟩ := id hown4.rd
    subst hv4
    clear hown4 e1 hlt
    rcases hown3'.shape with ⟨-, h0⟩ | ⟨g, cap, hv3, -, hg, hcap, hmax, hcell⟩
    · rw [h0] at hlast; simp at hlast
    have HC : Hid _ := hcell
    rw [hkl] at hv3 hcap
    rw [hv3]
    clear hv3 hcell hown3' hkl
    unfold maxLen at hmax
    have hck := HC.out k hlast
    obtain ⟨xl, HXL⟩ := named (ln[k]'hlast)
    rw [← HXL.out] at hck hfull2
    have hb127 : ((xl.toNat : Int) == 127) = decide (xl = 127) := u8_eq xl 127 (by omega)
    have hkk : (k : Int) + 1 - 1 = k := by omega
    obtain ⟨bl, HBL⟩ := named (decide (xl = 127))
    rw [← HBL.out] at hb127 hfull2
    have HF2 : Hid _ := hfull2
    have HNX : Hid _ := hnext
    clear hfull2 hnext
    go_wp2_with fail
    go_loop [9, 67] (fun fv iv => ∃ j : Nat, j ≤ k ∧ iv = .int .i64 j ∧ fv = .bool (fullTo ln bl j)) (fun _ iv => k - (intOf iv).toNat)
    case atStart => exact ⟨0, by omega, rfl, by simp [fullTo]⟩
    case round =>
      obtain ⟨j, hj, rfl, rfl⟩ := hrel
      clear hb127 hck
      by_cases hjk : j < k
      · have hjl : j < ln.length := by omega
        have hcj := HC.out j hjl
        have hsu := fullTo_succ ln bl j hjl
        obtain ⟨x, HX⟩ := named (ln[j]'hjl)
        rw [← HX.out] at hcj hsu
        have hb255 : ((x.toNat : Int) == 255) = decide (x = 255) := u8_eq x 255 (by omega)
        have HS : Hid _ := hsu
        clear hsu
        have hjk' : (j : Int) < k := by omega
        cases hfj : fullTo ln bl j with
        | true =>
          have HFJ : Hid _ := hfj
          clear hfj
          go_wp2
          go_round
          case rel => exact ⟨j + 1, by omega, by go_num, by rw [HS.out, HFJ.out]; simp⟩
          case measure => simp [intOf]; omega
        | false =>
          have HFJ : Hid _ := hfj
          clear hfj
          go_wp2
          go_round
          case rel => exact ⟨j + 1, by omega, by go_num, by rw [HS.out, HFJ.out]; simp⟩
          case measure => simp [intOf]; omega
      · have ejk : j = k := by omega
        have hjk' : ¬ (j : Int) < k := by omega
        have hff : fullTo ln bl j = fullL ln := by rw [HF2.out, ejk]
        clear ejk
        rw [hff]
        have hnx := HNX.out
        clear hff
        cases hfl : fullL ln with
        | true =>
          rw [hfl, if_pos rfl] at hnx
          have hz : (lt.length : Int) = (k : Int) + 1 + 1 := by omega
          have hz1 : ((lt.length : Int) == (k : Int) + 1 + 1) = true := by rw [hz]; simp
          clear hnx hz hfl
          go_wp2_with fail
          refine (awake_true _).mono ?_
          rintro e w5 ⟨rfl, hb5⟩
          go_wp2
          go_ret
          exact ⟨rfl, below_call hB4 hb5⟩
        | false =>
          rw [hfl, if_neg (by simp)] at hnx
          have hz1 : ((lt.length : Int) == (k : Int) + 1 + 1) = false := by simp only [beq_eq_false_iff_ne]; omega
          have hz2 : ((lt.length : Int) == (k : Int) + 1) = true := by simp only [beq_iff_eq]; omega
          clear hnx hfl
          go_wp2_with fail
          refine (awake_true _).mono ?_
          rintro e w5 ⟨rfl, hb5⟩
          go_wp2
          go_ret
          exact ⟨rfl, below_call hB4 hb5⟩

set_option maxRecDepth 100000 in
set_option maxHeartbeats 2000000 in
theorem grow_top_eq (n : Nat) (w : World) (hn : n ≤ 18446744073709551615) (htop : (18446744073709551615 : Int) ≤ n) :
    Calls Try.prog 7 #[.int .u64 n, .int .u64 n] w fun e w' => e = .returned (.bool true) ∧ Below w.heap.size w w' := by
  have hT := run_toStr
  have HN : Hid (n ≤ 18446744073709551615) := hn
  clear hn
  · go_enter Try.func7, Try.ntmps7
    go_wp2_with fail
    refine (uint_any _ [] n _ (by omega) (by have := HN.out; omega) (Rd.nil _) (by simp)).mono ?_
    rintro e w1 ⟨v1, rfl, hown1, hb1⟩
    rw [List.nil_append] at hown1
    obtain ⟨la, HLA⟩ := named (U n)
    rw [← HLA.out] at hown1
    go_wp2_with fail
    refine (uint_any _ [] n _ (by omega) (by have := HN.out; omega) (Rd.nil _) (by simp)).mono ?_
    rintro e w2 ⟨v2, rfl, hown2, hb2⟩
    rw [List.nil_append] at hown2
    obtain ⟨lb, HLB⟩ := named (U n)
    rw [← HLB.out] at hown2
    have hrda := hown1.rd.below hb2
    have hrdb := hown2.rd
    obtain ⟨a1, c1, hv1, -⟩ := id hown1.rd
    subst hv1
    obtain ⟨a2, c2, hv2, -⟩ := id hown2.rd
    subst hv2
    have hsa := run_str w2 _ la hrda
    have hsb := run_str w2 _ lb hrdb
    have hpa : 0 < la.length := by rw [HLA.out]; exact U_pos _
    have hpb : la.length ≤ lb.length := by rw [HLA.out, HLB.out]; exact Nat.le_refl _
    have hq : (la == lb) = ((n : Int) == (n : Int)) := by
      rw [Bool.eq_iff_iff]
      simp only [beq_iff_eq]
      rw [HLA.out, HLB.out]
      simp
    have hz0 : ((la.length : Int) == 0) = false := by simp only [beq_eq_false_iff_ne]; omega
    have hz1 : ¬ ((lb.length : Int) < (la.length : Int)) := by omega
    have hB2 : Below w.heap.size w w2 := below_call hb1 hb2
    clear hb1 hb2 hown1 hown2 hrda hrdb
    have h10 : lb.length = 10 := by
      have e : (n : Int) = 18446744073709551615 := by have := HN.out; omega
      rw [HLB.out, e, U_top]
    have h10' : ((lb.length : Int) == 10) = true := by rw [h10]; rfl
    have hnt : ((n : Int) == 18446744073709551615) = true := by
      have := HN.out
      simp only [beq_iff_eq]
      omega
    clear h10
    go_wp2_with fail
    refine (awake_true _).mono ?_
    rintro e w3 ⟨rfl, hb3⟩
    go_wp2
    go_ret
    exact ⟨rfl, below_call hB2 hb3⟩

set_option maxRecDepth 100000 in
set_option maxHeartbeats 2000000 in
theorem grow_eq (n : Nat) (w : World) (hn : n ≤ 18446744073709551615) (hlt : (n : Int) ≤ 18446744073709551614) :
    Calls Try.prog 7 #[.int .u64 n, .int .u64 n] w fun e w' => e = .returned (.bool true) ∧ Below w.heap.size w w' := by
  have hT := run_toStr
  have HN : Hid (n ≤ 18446744073709551615) := hn
  clear hn
  · go_enter Try.func7, Try.ntmps7
    go_wp2_with fail
    refine (uint_any _ [] n _ (by omega) (by have := HN.out; omega) (Rd.nil _) (by simp)).mono ?_
    rintro e w1 ⟨v1, rfl, hown1, hb1⟩
    rw [List.nil_append] at hown1
    obtain ⟨la, HLA⟩ := named (U n)
    rw [← HLA.out] at hown1
    go_wp2_with fail
    refine (uint_any _ [] n _ (by omega) (by have := HN.out; omega) (Rd.nil _) (by simp)).mono ?_
    rintro e w2 ⟨v2, rfl, hown2, hb2⟩
    rw [List.nil_append] at hown2
    obtain ⟨lb, HLB⟩ := named (U n)
    rw [← HLB.out] at hown2
    have hrda := hown1.rd.below hb2
    have hrdb := hown2.rd
    obtain ⟨a1, c1, hv1, -⟩ := id hown1.rd
    subst hv1
    obtain ⟨a2, c2, hv2, -⟩ := id hown2.rd
    subst hv2
    have hsa := run_str w2 _ la hrda
    have hsb := run_str w2 _ lb hrdb
    have hpa : 0 < la.length := by rw [HLA.out]; exact U_pos _
    have hpb : la.length ≤ lb.length := by rw [HLA.out, HLB.out]; exact Nat.le_refl _
    have hq : (la == lb) = ((n : Int) == (n : Int)) := by
      rw [Bool.eq_iff_iff]
      simp only [beq_iff_eq]
      rw [HLA.out, HLB.out]
      simp
    have hz0 : ((la.length : Int) == 0) = false := by simp only [beq_eq_false_iff_ne]; omega
    have hz1 : ¬ ((lb.length : Int) < (la.length : Int)) := by omega
    have hB2 : Below w.heap.size w w2 := below_call hb1 hb2
    clear hb1 hb2 hown1 hown2 hrda hrdb
    have hnt : ((n : Int) == 18446744073709551615) = false := by simp only [beq_eq_false_iff_ne]; omega
    go_wp2_with fail
    clear hsa hsb hpa hpb hq hz0 hz1 hnt
    refine (uint_any _ [] n _ (by omega) (by omega) (Rd.nil _) (by simp)).mono ?_
    rintro e w3 ⟨v3, rfl, hown3, hb3⟩
    rw [List.nil_append] at hown3
    have hB3 := below_call hB2 hb3
    clear hb3 hB2
    obtain ⟨k, hk⟩ : ∃ k, (U n).length = k + 1 := ⟨(U n).length - 1, by have := U_pos (n : Int); omega⟩
    have hk10 : k + 1 ≤ 10 := by rw [← hk]; exact U_len _
    have hfull := fullL_eq (U n) k hk
    have hnext := U_next n (by omega)
    rw [hk] at hnext
    obtain ⟨ln, HLN⟩ := named (U n)
    have hlast : k < ln.length := by rw [HLN.out, hk]; omega
    have hkl : ln.length = k + 1 := by rw [HLN.out, hk]
    have hfull2 : fullL ln = fullTo ln (decide (ln[k] = 127)) k := fullL_eq ln k hkl
    rw [← HLN.out] at hown3 hnext
    have HKL : Hid _ := hkl
    clear hfull hk
    go_wp2_with fail
    refine (uint_any _ [] ((n : Int) + 1) _ (by omega) (by omega) (Rd.nil _) (by simp)).mono ?_
    rintro e w4 ⟨v4, rfl, hown4, hb4⟩
    rw [List.nil_append] at hown4
    have hB4 := below_call hB3 hb4
    have hown3' := hown3.below hb4
    clear hb4 hB3 hown3
    have e1 : (((n + 1 : Nat)) : Int) = (n : Int) + 1 := by omega
    rw [e1] at hnext
    obtain ⟨lt, HLT⟩ := named (U ((n : Int) + 1))
    rw [← HLT.out] at hown4 hnext
    obtain ⟨a4, c4, hv4, -⟩ := id hown4.rd
    subst hv4
    clear hown4 e1 hlt
    rcases hown3'.shape with ⟨-, h0⟩ | ⟨g, cap, hv3, -, hg, hcap, hmax, hcell⟩
    · rw [h0] at hlast; simp at hlast
    have HC : Hid _ := hcell
    rw [hkl] at hv3 hcap
    rw [hv3]
    clear hv3 hcell hown3' hkl
    unfold maxLen at hmax
    have hck := HC.out k hlast
    obtain ⟨xl, HXL⟩ := named (ln[k]'hlast)
    rw [← HXL.out] at hck hfull2
    have hb127 : ((xl.toNat : Int) == 127) = decide (xl = 127) := u8_eq xl 127 (by omega)
    have hkk : (k : Int) + 1 - 1 = k := by omega
    obtain ⟨bl, HBL⟩ := named (decide (xl = 127))
    rw [← HBL.out] at hb127 hfull2
    have HF2 : Hid _ := hfull2
    have HNX : Hid _ := hnext
    clear hfull2 hnext
    go_wp2_with fail
    go_loop [9, 67] (fun fv iv => ∃ j : Nat, j ≤ k ∧ iv = .int .i64 j ∧ fv = .bool (fullTo ln bl j)) (fun _ iv => k - (intOf iv).toNat)
    case atStart => exact ⟨0, by omega, rfl, by simp [fullTo]⟩
    case round =>
      obtain ⟨j, hj, rfl, rfl⟩ := hrel
      clear hb127 hck
      by_cases hjk : j < k
      · have hjl : j < ln.length := by omega
        have hcj := HC.out j hjl
        have hsu := fullTo_succ ln bl j hjl
        obtain ⟨x, HX⟩ := named (ln[j]'hjl)
        rw [← HX.out] at hcj hsu
        have hb255 : ((x.toNat : Int) == 255) = decide (x = 255) := u8_eq x 255 (by omega)
        have HS : Hid _ := hsu
        clear hsu
        have hjk' : (j : Int) < k := by omega
        cases hfj : fullTo ln bl j with
        | true =>
          have HFJ : Hid _ := hfj
          clear hfj
          go_wp2
          go_round
          case rel => exact ⟨j + 1, by omega, by go_num, by rw [HS.out, HFJ.out]; simp⟩
          case measure => simp [intOf]; omega
        | false =>
          have HFJ : Hid _ := hfj
          clear hfj
          go_wp2
          go_round
          case rel => exact ⟨j + 1, by omega, by go_num, by rw [HS.out, HFJ.out]; simp⟩
          case measure => simp [intOf]; omega
      · have ejk : j = k := by omega
        have hjk' : ¬ (j : Int) < k := by omega
        have hff : fullTo ln bl j = fullL ln := by rw [HF2.out, ejk]
        clear ejk
        rw [hff]
        have hnx := HNX.out
        clear hff
        cases hfl : fullL ln with
        | true =>
          rw [hfl, if_pos rfl] at hnx
          have hz : (lt.length : Int) = (k : Int) + 1 + 1 := by omega
          have hz1 : ((lt.length : Int) == (k : Int) + 1 + 1) = true := by rw [hz]; simp
          clear hnx hz hfl
          go_wp2_with fail
          refine (awake_true _).mono ?_
          rintro e w5 ⟨rfl, hb5⟩
          go_wp2
          go_ret
          exact ⟨rfl, below_call hB4 hb5⟩
        | false =>
          rw [hfl, if_neg (by simp)] at hnx
          have hz1 : ((lt.length : Int) == (k : Int) + 1 + 1) = false := by simp only [beq_eq_false_iff_ne]; omega
          have hz2 : ((lt.length : Int) == (k : Int) + 1) = true := by simp only [beq_iff_eq]; omega
          clear hnx hfl
          go_wp2_with fail
          refine (awake_true _).mono ?_
          rintro e w5 ⟨rfl, hb5⟩
          go_wp2
          go_ret
          exact ⟨rfl, below_call hB4 hb5⟩

theorem grow_walk (n m : Nat) (w : World) (hn : n ≤ 18446744073709551615) (hm : m ≤ 18446744073709551615) :
    Calls Try.prog 7 #[.int .u64 n, .int .u64 m] w fun e w' => e = .returned (.bool true) ∧ Below w.heap.size w w' := by
  by_cases ht : (18446744073709551615 : Int) ≤ n
  · by_cases e : m = n
    · subst e; exact grow_top_eq m w hn ht
    · exact grow_top_gt n m w hn hm ht (by omega)
  · by_cases e : m = n
    · subst e; exact grow_eq m w hn (by omega)
    · by_cases h : n < m
      · exact grow_lt n m w hn hm (by omega) h
      · exact grow_gt n m w hn hm (by omega) (by omega)
end Go.Proofs.Ytgeljaliddedfaa
