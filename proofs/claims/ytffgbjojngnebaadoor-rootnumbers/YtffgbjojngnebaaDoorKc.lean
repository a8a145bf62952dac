/-
  The contracts of root's isRight and Bytes. Own work.
-/
import Derived.Test.YtffgbjojngnebaaDoorKa
namespace Go.Proofs.YtffgbjojngnebaaDoor
open Go.RowKit

/-- a block of three cells -/
def C3 (w : World) (g : Nat) (a b c : Value) : Prop := g < w.heap.size ∧ w.cell? ⟨g, 0, none⟩ = some a ∧ w.cell? ⟨g, 1, none⟩ = some b ∧ w.cell? ⟨g, 2, none⟩ = some c ∧ w.frozen? ⟨g, 0, none⟩ = false ∧ w.frozen? ⟨g, 1, none⟩ = false ∧ w.frozen? ⟨g, 2, none⟩ = false
theorem C3.of {w : World} {g : Nat} {a b c : Value} {t : TypeId} (h : w.heap[g]? = some (.cells #[a, b, c] t (0, 0))) : C3 w g a b c :=
  ⟨(Array.getElem?_eq_some_iff.1 h).1, by simp [World.cell?, h], by simp [World.cell?, h], by simp [World.cell?, h], by simp [World.frozen?, h], by simp [World.frozen?, h], by simp [World.frozen?, h]⟩
theorem C3.new (w : World) (a b c : Value) (t : TypeId) : C3 (w.alloc (.cells #[a, b, c] t)) w.heap.size a b c := C3.of (heap_alloc_new w _)
theorem C3.below {w w' : World} {g : Nat} {a b c : Value} (h : C3 w g a b c) (hb : Below w.heap.size w w') : C3 w' g a b c := by
  obtain ⟨h0, h1, h2, h3, h4, h5, h6⟩ := h
  exact ⟨Nat.lt_of_lt_of_le h0 hb.size, (hb.cell (p := ⟨g, 0, none⟩) h0).trans h1, (hb.cell (p := ⟨g, 1, none⟩) h0).trans h2, (hb.cell (p := ⟨g, 2, none⟩) h0).trans h3, (hb.frozen (p := ⟨g, 0, none⟩) h0).trans h4, (hb.frozen (p := ⟨g, 1, none⟩) h0).trans h5, (hb.frozen (p := ⟨g, 2, none⟩) h0).trans h6⟩

theorem isRt_no1 {s b : Int} {n : Nat} (h : ¬ 1 ≤ s) : isRt s b n = false := by simp [isRt, h]
theorem isRt_no2 {s b : Int} {n : Nat} (h : ¬ s ≤ 1099511627776) : isRt s b n = false := by simp [isRt, h]
theorem isRt_no3 {s b : Int} {n : Nat} (h : ¬ 0 ≤ b) : isRt s b n = false := by simp [isRt, h]
theorem isRt_no4 {s b : Int} {n : Nat} (h : ¬ b ≤ 576460752303423488) : isRt s b n = false := by simp [isRt, h]
theorem isRt_no5 {s b : Int} {n : Nat} (h : ¬ n ≤ 524288) : isRt s b n = false := by simp [isRt, h]

set_option maxRecDepth 100000 in
set_option maxHeartbeats 400000 in
theorem isRight_any (s b : Int) (ao : Option Addr) (n cap : Nat) (w : World) : Calls Tryd.prog 35 #[.agg #[.int .i64 s, .int .i64 b, .slice ao n cap]] w fun e w' => e = .returned (.bool (isRt s b n)) ∧ Below w.heap.size w w' := by
  by_cases h1 : 1 ≤ s
  · by_cases h2 : s ≤ 1099511627776
    · by_cases h3 : 0 ≤ b
      · by_cases h4 : b ≤ 576460752303423488
        · by_cases h5 : n ≤ 524288
          · have h5' : (n : Int) ≤ 524288 := by omega
            have HE : Hid (isRt s b n = true) := (isRt_iff s b n).2 ⟨h1, h2, h3, h4, h5⟩
            go_enter Tryd.func35, Tryd.ntmps35
            go_wp2
            go_ret
            exact ⟨by rw [HE.out]; rfl, (Below.refl _ _).alloc (Nat.le_refl _) _⟩
          · have h5' : ¬ (n : Int) ≤ 524288 := by omega
            have HE : Hid (isRt s b n = false) := isRt_no5 h5
            go_enter Tryd.func35, Tryd.ntmps35
            go_wp2
            go_ret
            exact ⟨by rw [HE.out]; rfl, (Below.refl _ _).alloc (Nat.le_refl _) _⟩
        · have HE : Hid (isRt s b n = false) := isRt_no4 h4
          go_enter Tryd.func35, Tryd.ntmps35
          go_wp2
          go_ret
          exact ⟨by rw [HE.out]; rfl, (Below.refl _ _).alloc (Nat.le_refl _) _⟩
      · have HE : Hid (isRt s b n = false) := isRt_no3 h3
        go_enter Tryd.func35, Tryd.ntmps35
        go_wp2
        go_ret
        exact ⟨by rw [HE.out]; rfl, (Below.refl _ _).alloc (Nat.le_refl _) _⟩
    · have HE : Hid (isRt s b n = false) := isRt_no2 h2
      go_enter Tryd.func35, Tryd.ntmps35
      go_wp2
      go_ret
      exact ⟨by rw [HE.out]; rfl, (Below.refl _ _).alloc (Nat.le_refl _) _⟩
  · have HE : Hid (isRt s b n = false) := isRt_no1 h1
    go_enter Tryd.func35, Tryd.ntmps35
    go_wp2
    go_ret
    exact ⟨by rw [HE.out]; rfl, (Below.refl _ _).alloc (Nat.le_refl _) _⟩

set_option maxRecDepth 100000 in
set_option maxHeartbeats 800000 in
theorem bytes_any (s b : Int) (v : Value) (l : List UInt8) (w : World) (hrd : Rd w v l) (hl : l.length ≤ 140737488355000) :
    Calls Tryd.prog 10 #[.agg #[.int .i64 s, .int .i64 b, v]] w fun e w' => ∃ v', e = .returned (.tuple #[v', .int .i64 (bytesR ⟨s, b, l⟩).2]) ∧ Own w' w.heap.size v' (bytesR ⟨s, b, l⟩).1 ∧ Below w.heap.size w w' := by
  obtain ⟨ao, cap, hv, h1, h2, -⟩ := id hrd
  obtain ⟨n, HN⟩ := named l.length
  rw [← HN.out] at hv h1 hl
  subst hv
  obtain ⟨W, HW⟩ := named (w.alloc (Obj.cells #[.int .i64 s, .int .i64 b, .slice ao n cap] 24))
  have HBW : Hid (Below w.heap.size w W) := by show Below _ _ _; rw [HW.out]; exact (Below.refl _ _).alloc (Nat.le_refl _) _
  have HRD : Hid _ := hrd.below HBW.out
  have HC : Hid (C3 W w.heap.size (.int .i64 s) (.int .i64 b) (.slice ao n cap)) := by show C3 _ _ _ _ _; rw [HW.out]; exact C3.new _ _ _ _ _
  have hir := isRight_any s b ao n cap W
  unfold maxLen at h2
  clear hrd
  cases hr : isRt s b n with
  | false =>
    have HE : Hid (bytesR ⟨s, b, l⟩ = ([], 2)) := by show _ = _; unfold bytesR isR; rw [if_neg (by simp [← HN.out, hr])]
    rw [hr] at hir
    go_enter Tryd.func10, Tryd.ntmps10
    go_wp2_with fail
    rw [← HW.out]
    refine hir.mono ?_
    rintro e w1 ⟨rfl, hb⟩
    go_wp2_with fail
    go_ret2
    rw [HE.out]
    exact ⟨_, rfl, Own.nil _ _, below_call HBW.out hb⟩
  | true =>
    obtain ⟨r1, r2, r3, r4, r5⟩ := (isRt_iff s b n).1 hr
    have HE : Hid (bytesR ⟨s, b, l⟩ = (frameL (bodyR ⟨s, b, l⟩), 0)) := by show _ = _; unfold bytesR isR; rw [if_pos (by simp [← HN.out, hr])]
    have HP : Hid (putL [] (bodyR ⟨s, b, l⟩) = (frameL (bodyR ⟨s, b, l⟩), 0)) := by
      show _ = _
      have hs := body_size ⟨s, b, l⟩
      simp only [← HN.out] at hs
      unfold putL
      rw [if_neg (by omega), if_neg (by omega)]
      rfl
    have hs1 : IntKind.u64.wrap s = s := by rw [wrap_u64]; omega
    have hb1 : IntKind.u64.wrap b = b := by rw [wrap_u64]; omega
    have hs2 : s % 18446744073709551616 = s := by omega
    have hb2 : b % 18446744073709551616 = b := by omega
    rw [hr] at hir
    go_enter Tryd.func10, Tryd.ntmps10
    go_wp2_with fail
    rw [← HW.out]
    refine hir.mono ?_
    rintro e w1 ⟨rfl, hb⟩
    have HB1 : Hid _ := below_call HBW.out hb
    have HR1 : Hid _ := Rd.below HRD.out hb
    have HC1 : Hid _ := C3.below HC.out hb
    obtain ⟨g0, c0, c1, c2, -⟩ := HC1.out
    go_wp2_with fail
    refine (uint_any (.slice none 0 0) [] s w1 (by omega) (by omega) (Rd.nil _) (by simp)).mono ?_
    rintro e w2 ⟨v2, rfl, ho2, hb2⟩
    have HB2 : Hid _ := below_call HB1.out hb2
    have HR2 : Hid _ := Rd.below HR1.out hb2
    have HC2 : Hid _ := C3.below HC1.out hb2
    clear c0 c1 c2 g0
    obtain ⟨g0, c0, c1, c2, -⟩ := HC2.out
    rw [List.nil_append] at ho2
    go_wp2_with fail
    refine (uint_any v2 (U s) b w2 (by omega) (by omega) ho2.rd (by have := U_len s; omega)).mono ?_
    rintro e w3 ⟨v3, rfl, ho3, hb3⟩
    have HB3 : Hid _ := below_call HB2.out hb3
    have HR3 : Hid _ := Rd.below HR2.out hb3
    have HC3 : Hid _ := C3.below HC2.out hb3
    clear c0 c1 c2 g0
    obtain ⟨g0, c0, c1, c2, -⟩ := HC3.out
    have HL3 : Hid ((U s ++ U b).length + l.length ≤ 140737488355000) := by
      show _ ≤ _
      have e1 := U_len s
      have e2 := U_len b
      rw [List.length_append, ← HN.out]
      omega
    have hbl := blob_any v3 (.slice ao n cap) (U s ++ U b) l w3 ho3.rd HR3.out HL3.out
    have HBD : Hid (bodyR ⟨s, b, l⟩ = (U s ++ U b) ++ (U l.length ++ l)) := rfl
    rw [← HBD.out] at hbl
    obtain ⟨B, HBB⟩ := named (bodyR ⟨s, b, l⟩)
    rw [← HBB.out] at hbl HP HE
    go_wp2_with fail
    refine hbl.mono ?_
    rintro e w4 ⟨v4, rfl, ho4, hb4⟩
    have HB4 : Hid _ := below_call HB3.out hb4
    go_wp2_with fail
    refine (put_any (.slice none 0 0) v4 [] B w4 (Rd.nil _) ho4.rd (by simp)).mono ?_
    rw [HP.out]
    rintro e w5 ⟨v5, rfl, ho5, hb5⟩
    go_wp2_with fail
    go_ret2
    rw [HE.out]
    exact ⟨_, rfl, ho5.mono HB4.out.size, below_call HB4.out hb5⟩
end Go.Proofs.YtffgbjojngnebaaDoor
