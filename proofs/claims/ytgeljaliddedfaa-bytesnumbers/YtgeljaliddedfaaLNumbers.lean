/-
  The law BytesNumbers answers true: the chapter's examples come out as written. It has no input.
-/
import Derived.Test.YtgeljaliddedfaaWi
import Derived.Test.YtgeljaliddedfaaWf
namespace Go.Proofs.Ytgeljaliddedfaa
open Go.RowKit

theorem int_len (i : Int) (L : Nat) (w : World) (h0 : -9223372036854775808 ≤ i) (h1 : i ≤ 9223372036854775807) (hL : (U (foldI i)).length = L) :
    Calls Try.prog 10 #[.slice none 0 0, .int .i64 i] w fun e w' => ∃ a c, e = .returned (.slice a L c) ∧ Below w.heap.size w w' := by
  refine (int_any _ [] i _ h0 h1 (Rd.nil _) (by simp)).mono ?_
  rintro e w1 ⟨v1, rfl, hown1, hb1⟩
  obtain ⟨a1, c1, hv1, -⟩ := hown1.rd
  rw [List.nil_append, hL] at hv1
  exact ⟨a1, c1, by rw [hv1], hb1⟩
theorem getBlob_lit (v : Value) (l : List UInt8) (p q : Int) (r : List UInt8) (nx er : Nat) (w : World) (hrd : Rd w v l) (hl : l.length ≤ 1000) (hq : q ≤ 9223372036854775807) (hB : getB l p q = (r, nx, er)) :
    Calls Try.prog 14 #[v, .int .i64 p, .int .i64 q] w fun e w' => ∃ a c, e = .returned (.tuple #[.slice a r.length c, .int .i64 nx, .int .i64 er]) ∧ Below w.heap.size w w' := by
  refine (getBlob_any v l p q w hrd (by omega) hq).mono ?_
  rintro e w1 ⟨v1, rfl, hown1, hb1⟩
  rw [hB] at hown1
  obtain ⟨a1, c1, hv1, -⟩ := hown1.rd
  exact ⟨a1, c1, by rw [hB, hv1], hb1⟩
theorem unseal_lit (v : Value) (l r : List UInt8) (er : Nat) (w : World) (hrd : Rd w v l) (hl : l.length ≤ 1000) (hB : unsealL l = (r, er)) :
    Calls Try.prog 15 #[v] w fun e w' => ∃ a c, e = .returned (.tuple #[.slice a r.length c, .int .i64 er]) ∧ Rd w' (.slice a r.length c) r ∧ Below w.heap.size w w' := by
  refine (unseal_any v l w hrd (by omega)).mono ?_
  rintro e w1 ⟨v1, rfl, hown1, hb1⟩
  rw [hB] at hown1
  obtain ⟨a1, c1, hv1, -⟩ := id hown1.rd
  exact ⟨a1, c1, by rw [hB, hv1], by rw [← hv1]; exact hown1.rd, hb1⟩

set_option maxRecDepth 100000 in
set_option maxHeartbeats 4000000 in
theorem numbers_walk (w : World) : Calls Try.prog 3 #[] w fun e w' => e = .returned (.bool true) ∧ Below w.heap.size w w' := by
  have kc := fun (w : World) (C : Array Value) (n c : Nat) => Lib.run_convert_bytes_const (P := Try.prog) w 22 5 C n c Try.underlying22 Try.underlying5
  have hT := run_toStr
  go_enter Try.func3, Try.ntmps3
  go_wp2_with fail
  go_loopw [1] (fun iv wr => ∃ k : Nat, 1 ≤ k ∧ k ≤ 10 ∧ iv = .int .i64 k ∧ Below w.heap.size w wr) (fun iv _ => 10 - (intOf iv).toNat)
  case atStart => exact ⟨1, by omega, by omega, rfl, Below.refl _ _⟩
  case round =>
    obtain ⟨k, hk1, hk2, rfl, hB0⟩ := hrel
    by_cases hlt : k < 10
    · obtain rfl | rfl | rfl | rfl | rfl | rfl | rfl | rfl | rfl : k = 1 ∨ k = 2 ∨ k = 3 ∨ k = 4 ∨ k = 5 ∨ k = 6 ∨ k = 7 ∨ k = 8 ∨ k = 9 := by omega
      · go_wp2_with fail
        refine (int_len (-64) 1 _ (by decide) (by decide) (by decide +kernel)).mono ?_
        rintro e w1 ⟨a1, c1, rfl, hb1⟩
        have hB1 := below_call hB0 hb1
        clear hb1 hB0
        go_wp2_with fail
        refine (int_len (63) 1 _ (by decide) (by decide) (by decide +kernel)).mono ?_
        rintro e w2 ⟨a2, c2, rfl, hb2⟩
        have hB2 := below_call hB1 hb2
        clear hb2 hB1
        go_wp2_with fail
        refine (int_len (64) 2 _ (by decide) (by decide) (by decide +kernel)).mono ?_
        rintro e w3 ⟨a3, c3, rfl, hb3⟩
        have hB3 := below_call hB2 hb3
        clear hb3 hB2
        go_wp2_with fail
        refine (int_len (-65) 2 _ (by decide) (by decide) (by decide +kernel)).mono ?_
        rintro e w4 ⟨a4, c4, rfl, hb4⟩
        have hB4 := below_call hB3 hb4
        clear hb4 hB3
        go_wp2
        go_roundw
        case rel => exact ⟨2, by omega, by omega, by go_num, hB4⟩
        case measure => simp [intOf]
      · go_wp2_with fail
        refine (int_len (-8192) 2 _ (by decide) (by decide) (by decide +kernel)).mono ?_
        rintro e w1 ⟨a1, c1, rfl, hb1⟩
        have hB1 := below_call hB0 hb1
        clear hb1 hB0
        go_wp2_with fail
        refine (int_len (8191) 2 _ (by decide) (by decide) (by decide +kernel)).mono ?_
        rintro e w2 ⟨a2, c2, rfl, hb2⟩
        have hB2 := below_call hB1 hb2
        clear hb2 hB1
        go_wp2_with fail
        refine (int_len (8192) 3 _ (by decide) (by decide) (by decide +kernel)).mono ?_
        rintro e w3 ⟨a3, c3, rfl, hb3⟩
        have hB3 := below_call hB2 hb3
        clear hb3 hB2
        go_wp2_with fail
        refine (int_len (-8193) 3 _ (by decide) (by decide) (by decide +kernel)).mono ?_
        rintro e w4 ⟨a4, c4, rfl, hb4⟩
        have hB4 := below_call hB3 hb4
        clear hb4 hB3
        go_wp2
        go_roundw
        case rel => exact ⟨3, by omega, by omega, by go_num, hB4⟩
        case measure => simp [intOf]
      · go_wp2_with fail
        refine (int_len (-1048576) 3 _ (by decide) (by decide) (by decide +kernel)).mono ?_
        rintro e w1 ⟨a1, c1, rfl, hb1⟩
        have hB1 := below_call hB0 hb1
        clear hb1 hB0
        go_wp2_with fail
        refine (int_len (1048575) 3 _ (by decide) (by decide) (by decide +kernel)).mono ?_
        rintro e w2 ⟨a2, c2, rfl, hb2⟩
        have hB2 := below_call hB1 hb2
        clear hb2 hB1
        go_wp2_with fail
        refine (int_len (1048576) 4 _ (by decide) (by decide) (by decide +kernel)).mono ?_
        rintro e w3 ⟨a3, c3, rfl, hb3⟩
        have hB3 := below_call hB2 hb3
        clear hb3 hB2
        go_wp2_with fail
        refine (int_len (-1048577) 4 _ (by decide) (by decide) (by decide +kernel)).mono ?_
        rintro e w4 ⟨a4, c4, rfl, hb4⟩
        have hB4 := below_call hB3 hb4
        clear hb4 hB3
        go_wp2
        go_roundw
        case rel => exact ⟨4, by omega, by omega, by go_num, hB4⟩
        case measure => simp [intOf]
      · go_wp2_with fail
        refine (int_len (-134217728) 4 _ (by decide) (by decide) (by decide +kernel)).mono ?_
        rintro e w1 ⟨a1, c1, rfl, hb1⟩
        have hB1 := below_call hB0 hb1
        clear hb1 hB0
        go_wp2_with fail
        refine (int_len (134217727) 4 _ (by decide) (by decide) (by decide +kernel)).mono ?_
        rintro e w2 ⟨a2, c2, rfl, hb2⟩
        have hB2 := below_call hB1 hb2
        clear hb2 hB1
        go_wp2_with fail
        refine (int_len (134217728) 5 _ (by decide) (by decide) (by decide +kernel)).mono ?_
        rintro e w3 ⟨a3, c3, rfl, hb3⟩
        have hB3 := below_call hB2 hb3
        clear hb3 hB2
        go_wp2_with fail
        refine (int_len (-134217729) 5 _ (by decide) (by decide) (by decide +kernel)).mono ?_
        rintro e w4 ⟨a4, c4, rfl, hb4⟩
        have hB4 := below_call hB3 hb4
        clear hb4 hB3
        go_wp2
        go_roundw
        case rel => exact ⟨5, by omega, by omega, by go_num, hB4⟩
        case measure => simp [intOf]
      · go_wp2_with fail
        refine (int_len (-17179869184) 5 _ (by decide) (by decide) (by decide +kernel)).mono ?_
        rintro e w1 ⟨a1, c1, rfl, hb1⟩
        have hB1 := below_call hB0 hb1
        clear hb1 hB0
        go_wp2_with fail
        refine (int_len (17179869183) 5 _ (by decide) (by decide) (by decide +kernel)).mono ?_
        rintro e w2 ⟨a2, c2, rfl, hb2⟩
        have hB2 := below_call hB1 hb2
        clear hb2 hB1
        go_wp2_with fail
        refine (int_len (17179869184) 6 _ (by decide) (by decide) (by decide +kernel)).mono ?_
        rintro e w3 ⟨a3, c3, rfl, hb3⟩
        have hB3 := below_call hB2 hb3
        clear hb3 hB2
        go_wp2_with fail
        refine (int_len (-17179869185) 6 _ (by decide) (by decide) (by decide +kernel)).mono ?_
        rintro e w4 ⟨a4, c4, rfl, hb4⟩
        have hB4 := below_call hB3 hb4
        clear hb4 hB3
        go_wp2
        go_roundw
        case rel => exact ⟨6, by omega, by omega, by go_num, hB4⟩
        case measure => simp [intOf]
      · go_wp2_with fail
        refine (int_len (-2199023255552) 6 _ (by decide) (by decide) (by decide +kernel)).mono ?_
        rintro e w1 ⟨a1, c1, rfl, hb1⟩
        have hB1 := below_call hB0 hb1
        clear hb1 hB0
        go_wp2_with fail
        refine (int_len (2199023255551) 6 _ (by decide) (by decide) (by decide +kernel)).mono ?_
        rintro e w2 ⟨a2, c2, rfl, hb2⟩
        have hB2 := below_call hB1 hb2
        clear hb2 hB1
        go_wp2_with fail
        refine (int_len (2199023255552) 7 _ (by decide) (by decide) (by decide +kernel)).mono ?_
        rintro e w3 ⟨a3, c3, rfl, hb3⟩
        have hB3 := below_call hB2 hb3
        clear hb3 hB2
        go_wp2_with fail
        refine (int_len (-2199023255553) 7 _ (by decide) (by decide) (by decide +kernel)).mono ?_
        rintro e w4 ⟨a4, c4, rfl, hb4⟩
        have hB4 := below_call hB3 hb4
        clear hb4 hB3
        go_wp2
        go_roundw
        case rel => exact ⟨7, by omega, by omega, by go_num, hB4⟩
        case measure => simp [intOf]
      · go_wp2_with fail
        refine (int_len (-281474976710656) 7 _ (by decide) (by decide) (by decide +kernel)).mono ?_
        rintro e w1 ⟨a1, c1, rfl, hb1⟩
        have hB1 := below_call hB0 hb1
        clear hb1 hB0
        go_wp2_with fail
        refine (int_len (281474976710655) 7 _ (by decide) (by decide) (by decide +kernel)).mono ?_
        rintro e w2 ⟨a2, c2, rfl, hb2⟩
        have hB2 := below_call hB1 hb2
        clear hb2 hB1
        go_wp2_with fail
        refine (int_len (281474976710656) 8 _ (by decide) (by decide) (by decide +kernel)).mono ?_
        rintro e w3 ⟨a3, c3, rfl, hb3⟩
        have hB3 := below_call hB2 hb3
        clear hb3 hB2
        go_wp2_with fail
        refine (int_len (-281474976710657) 8 _ (by decide) (by decide) (by decide +kernel)).mono ?_
        rintro e w4 ⟨a4, c4, rfl, hb4⟩
        have hB4 := below_call hB3 hb4
        clear hb4 hB3
        go_wp2
        go_roundw
        case rel => exact ⟨8, by omega, by omega, by go_num, hB4⟩
        case measure => simp [intOf]
      · go_wp2_with fail
        refine (int_len (-36028797018963968) 8 _ (by decide) (by decide) (by decide +kernel)).mono ?_
        rintro e w1 ⟨a1, c1, rfl, hb1⟩
        have hB1 := below_call hB0 hb1
        clear hb1 hB0
        go_wp2_with fail
        refine (int_len (36028797018963967) 8 _ (by decide) (by decide) (by decide +kernel)).mono ?_
        rintro e w2 ⟨a2, c2, rfl, hb2⟩
        have hB2 := below_call hB1 hb2
        clear hb2 hB1
        go_wp2_with fail
        refine (int_len (36028797018963968) 9 _ (by decide) (by decide) (by decide +kernel)).mono ?_
        rintro e w3 ⟨a3, c3, rfl, hb3⟩
        have hB3 := below_call hB2 hb3
        clear hb3 hB2
        go_wp2_with fail
        refine (int_len (-36028797018963969) 9 _ (by decide) (by decide) (by decide +kernel)).mono ?_
        rintro e w4 ⟨a4, c4, rfl, hb4⟩
        have hB4 := below_call hB3 hb4
        clear hb4 hB3
        go_wp2
        go_roundw
        case rel => exact ⟨9, by omega, by omega, by go_num, hB4⟩
        case measure => simp [intOf]
      · go_wp2_with fail
        refine (int_len (-4611686018427387904) 9 _ (by decide) (by decide) (by decide +kernel)).mono ?_
        rintro e w1 ⟨a1, c1, rfl, hb1⟩
        have hB1 := below_call hB0 hb1
        clear hb1 hB0
        go_wp2_with fail
        refine (int_len (4611686018427387903) 9 _ (by decide) (by decide) (by decide +kernel)).mono ?_
        rintro e w2 ⟨a2, c2, rfl, hb2⟩
        have hB2 := below_call hB1 hb2
        clear hb2 hB1
        go_wp2_with fail
        refine (int_len (4611686018427387904) 10 _ (by decide) (by decide) (by decide +kernel)).mono ?_
        rintro e w3 ⟨a3, c3, rfl, hb3⟩
        have hB3 := below_call hB2 hb3
        clear hb3 hB2
        go_wp2_with fail
        refine (int_len (-4611686018427387905) 10 _ (by decide) (by decide) (by decide +kernel)).mono ?_
        rintro e w4 ⟨a4, c4, rfl, hb4⟩
        have hB4 := below_call hB3 hb4
        clear hb4 hB3
        go_wp2
        go_roundw
        case rel => exact ⟨10, by omega, by omega, by go_num, hB4⟩
        case measure => simp [intOf]
    · obtain rfl : k = 10 := by omega
      clear hlt hk1 hk2
      go_wp2_with fail
      refine (signed_true (-9223372036854775808) 18446744073709551615 _ [255, 255, 255, 255, 255, 255, 255, 255, 255, 1] _ (by decide) (by decide) (Rd.lit _ _ [255, 255, 255, 255, 255, 255, 255, 255, 255, 1] _ _ _ rfl rfl (by decide)) (by decide) (by decide +kernel) (by decide +kernel) (by decide +kernel)).mono ?_
      rintro e w1 ⟨rfl, hb1⟩
      have hB1 : Below w.heap.size w w1 := below_alloc_call hB0 hb1
      clear hb1 hB0
      go_wp2_with fail
      refine (signed_true (9223372036854775807) 18446744073709551614 _ [254, 255, 255, 255, 255, 255, 255, 255, 255, 1] _ (by decide) (by decide) (Rd.lit _ _ [254, 255, 255, 255, 255, 255, 255, 255, 255, 1] _ _ _ rfl rfl (by decide)) (by decide) (by decide +kernel) (by decide +kernel) (by decide +kernel)).mono ?_
      rintro e w2 ⟨rfl, hb2⟩
      have hB2 : Below w.heap.size w w2 := below_alloc_call hB1 hb2
      clear hb2 hB1
      go_wp2_with fail
      refine (writes_true 9223372036854775808 _ [128, 128, 128, 128, 128, 128, 128, 128, 128, 1] _ (by decide) (Rd.lit _ _ [128, 128, 128, 128, 128, 128, 128, 128, 128, 1] _ _ _ rfl rfl (by decide)) (by decide) (by decide +kernel) (by decide +kernel)).mono ?_
      rintro e w3 ⟨rfl, hb3⟩
      have hB3 : Below w.heap.size w w3 := below_alloc_call hB2 hb3
      clear hb3 hB2
      go_wp2_with fail
      refine (refused_true 10 (0) _ [255, 255, 255, 255, 255, 255, 255, 255, 255, 2] _ (Rd.lit _ _ [255, 255, 255, 255, 255, 255, 255, 255, 255, 2] _ _ _ rfl rfl (by decide)) (by decide) (by decide +kernel)).mono ?_
      rintro e w4 ⟨rfl, hb4⟩
      have hB4 : Below w.heap.size w w4 := below_alloc_call hB3 hb4
      clear hb4 hB3
      go_wp2_with fail
      refine (refused_true 10 (0) _ [255, 255, 255, 255, 255, 255, 255, 255, 255, 255, 0] _ (Rd.lit _ _ [255, 255, 255, 255, 255, 255, 255, 255, 255, 255, 0] _ _ _ rfl rfl (by decide)) (by decide) (by decide +kernel)).mono ?_
      rintro e w5 ⟨rfl, hb5⟩
      have hB5 : Below w.heap.size w w5 := below_alloc_call hB4 hb5
      clear hb5 hB4
      go_wp2_with fail
      refine (refused_true 10 (0) _ [255, 255, 255, 255, 255, 255, 255, 255, 255, 0] _ (Rd.lit _ _ [255, 255, 255, 255, 255, 255, 255, 255, 255, 0] _ _ _ rfl rfl (by decide)) (by decide) (by decide +kernel)).mono ?_
      rintro e w6 ⟨rfl, hb6⟩
      have hB6 : Below w.heap.size w w6 := below_alloc_call hB5 hb6
      clear hb6 hB5
      go_wp2_with fail
      refine (refused_true 11 (0) _ [255, 255, 255, 255, 255, 255, 255, 255, 255] _ (Rd.lit _ _ [255, 255, 255, 255, 255, 255, 255, 255, 255] _ _ _ rfl rfl (by decide)) (by decide) (by decide +kernel)).mono ?_
      rintro e w7 ⟨rfl, hb7⟩
      have hB7 : Below w.heap.size w w7 := below_alloc_call hB6 hb7
      clear hb7 hB6
      go_wp2_with fail
      refine (refused_true 11 (3) _ [1, 2, 3] _ (Rd.lit _ _ [1, 2, 3] _ _ _ rfl rfl (by decide)) (by decide) (by decide +kernel)).mono ?_
      rintro e w8 ⟨rfl, hb8⟩
      have hB8 : Below w.heap.size w w8 := below_alloc_call hB7 hb8
      clear hb8 hB7
      go_wp2_with fail
      refine (refused_true 2 (4) _ [1, 2, 3] _ (Rd.lit _ _ [1, 2, 3] _ _ _ rfl rfl (by decide)) (by decide) (by decide +kernel)).mono ?_
      rintro e w9 ⟨rfl, hb9⟩
      have hB9 : Below w.heap.size w w9 := below_alloc_call hB8 hb9
      clear hb9 hB8
      go_wp2_with fail
      refine (refused_true 2 (-1) _ [1, 2, 3] _ (Rd.lit _ _ [1, 2, 3] _ _ _ rfl rfl (by decide)) (by decide) (by decide +kernel)).mono ?_
      rintro e w10 ⟨rfl, hb10⟩
      have hB10 : Below w.heap.size w w10 := below_alloc_call hB9 hb10
      clear hb10 hB9
      go_wp2_with fail
      refine (getBlob_lit _ [3, 97, 98] 0 (5) [] 0 11 _ (Rd.lit _ _ [3, 97, 98] _ _ _ rfl rfl (by decide)) (by decide) (by decide) (by decide +kernel)).mono ?_
      rintro e w11 ⟨a11, c11, rfl, hb11⟩
      have hB11 : Below w.heap.size w w11 := below_alloc_call hB10 hb11
      clear hb11 hB10
      go_wp2_with fail
      refine (getBlob_lit _ [3, 97, 98] 0 (2) [] 0 3 _ (Rd.lit _ _ [3, 97, 98] _ _ _ rfl rfl (by decide)) (by decide) (by decide) (by decide +kernel)).mono ?_
      rintro e w12 ⟨a12, c12, rfl, hb12⟩
      have hB12 : Below w.heap.size w w12 := below_alloc_call hB11 hb12
      clear hb12 hB11
      go_wp2_with fail
      refine (getBlob_lit _ [0] 0 (-1) [] 0 3 _ (Rd.lit _ _ [0] _ _ _ rfl rfl (by decide)) (by decide) (by decide) (by decide +kernel)).mono ?_
      rintro e w13 ⟨a13, c13, rfl, hb13⟩
      have hB13 : Below w.heap.size w w13 := below_alloc_call hB12 hb13
      clear hb13 hB12
      go_wp2_with fail
      refine (getBlob_lit _ [63, 0, 63] 1 (0) [] 2 0 _ (Rd.lit _ _ [63, 0, 63] _ _ _ rfl rfl (by decide)) (by decide) (by decide) (by decide +kernel)).mono ?_
      rintro e w14 ⟨a14, c14, rfl, hb14⟩
      have hB14 : Below w.heap.size w w14 := below_alloc_call hB13 hb14
      clear hb14 hB13
      go_wp2_with fail
      refine (unseal_lit _ [1, 2, 3] [] 11 _ (Rd.lit _ _ [1, 2, 3] _ _ _ rfl rfl (by decide)) (by decide) (by decide +kernel)).mono ?_
      rintro e w15 ⟨a15, c15, rfl, -, hb15⟩
      have hB15 : Below w.heap.size w w15 := below_alloc_call hB14 hb15
      clear hb15 hB14
      go_wp2_with fail
      refine (unseal_lit _ [1, 0, 0, 0, 0] [] 12 _ (Rd.lit _ _ [1, 0, 0, 0, 0] _ _ _ rfl rfl (by decide)) (by decide) (by decide +kernel)).mono ?_
      rintro e w16 ⟨a16, c16, rfl, -, hb16⟩
      have hB16 : Below w.heap.size w w16 := below_alloc_call hB15 hb16
      clear hb16 hB15
      go_wp2_with fail
      refine (seal_any _ [120] _ (Rd.lit _ _ [120] _ _ _ rfl rfl (by decide)) (by decide)).mono ?_
      rintro e w17 ⟨v17, rfl, hown17, hb17⟩
      have hB17 : Below w.heap.size w w17 := below_alloc_call hB16 hb17
      obtain ⟨a17, c17, hv17, -⟩ := id hown17.rd
      subst hv17
      have hrd17 := hown17.rd
      clear hb17 hB16 hown17
      go_wp2_with fail
      refine (unseal_lit _ ([120] ++ be4 (crc [120])) [120] 0 _ hrd17 (by decide) (by decide +kernel)).mono ?_
      rintro e w18 ⟨a18, c18, rfl, hrd18, hb18⟩
      have hB18 := below_call hB17 hb18
      have hs18 : Sem.run Try.prog (toStr (.slice a18 1 c18)) w18 = .ok (.string ⟨#[120]⟩) w18 := run_str w18 _ [120] hrd18
      clear hb18 hB17 hrd17 hrd18
      go_wp2_with fail
      have hc := crc_any (.slice none 0 0) [] w18 (Rd.nil _)
      rw [show (crc []).toNat = 0 by decide +kernel] at hc
      refine hc.mono ?_
      clear hc
      rintro e w19 ⟨rfl, hw19⟩
      subst hw19
      go_wp2_with fail
      refine (awake_true _).mono ?_
      rintro e w20 ⟨rfl, hb20⟩
      go_wp2
      go_ret
      exact ⟨rfl, below_call hB18 hb20⟩
end Go.Proofs.Ytgeljaliddedfaa
