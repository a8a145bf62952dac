/-
  The document's Bytes of a root; next; same. Own work.
-/
import Derived.Test.YtffgbjojngnebaaDoorKf
import Derived.Test.YtffgbjojngnebaaDoorRy
import Derived.Test.YtffgbjojngnebaaDoorRz
import Derived.Test.YtffgbjojngnebaaDoorRw
namespace Go.Proofs.YtffgbjojngnebaaDoor
open Go.RowKit

set_option maxRecDepth 100000 in
set_option maxHeartbeats 1600000 in
theorem refBytes_any (s b : Int) (v : Value) (l : List UInt8) (w : World) (hrd : Rd w v l) (hl : l.length ≤ 900000) :
    Calls Tryd.prog 22 #[.agg #[.int .i64 s, .int .i64 b, v]] w fun e w' => ∃ v', e = .returned (.tuple #[v', .int .i64 (bytesR ⟨s, b, l⟩).2]) ∧ Own w' w.heap.size v' (bytesR ⟨s, b, l⟩).1 ∧ Below w.heap.size w w' := by
  obtain ⟨ao, cap, hv, h1, h2, -⟩ := id hrd
  obtain ⟨n, HN⟩ := named l.length
  rw [← HN.out] at hv h1 hl
  subst hv
  obtain ⟨W, HW⟩ := named (w.alloc (Obj.cells #[.int .i64 s, .int .i64 b, .slice ao n cap] 24))
  have HBW : Hid (Below w.heap.size w W) := by show Below _ _ _; rw [HW.out]; exact (Below.refl _ _).alloc (Nat.le_refl _) _
  have HRD : Hid _ := hrd.below HBW.out
  have HC : Hid (C3 W w.heap.size (.int .i64 s) (.int .i64 b) (.slice ao n cap)) := by show C3 _ _ _ _ _; rw [HW.out]; exact C3.new _ _ _ _ _
  clear hrd h1 h2
  have no : isRt s b n = false → bytesR ⟨s, b, l⟩ = ([], 2) := fun h => by unfold bytesR isR; rw [if_neg (by simp [← HN.out, h])]
  have HNO : Hid _ := no
  clear no
  obtain ⟨g0, c0, c1, c2, -⟩ := HC.out
  by_cases h1 : s < 1
  · have HE : Hid _ := HNO.out (isRt_no1 (by omega))
    go_enter Tryd.func22, Tryd.ntmps22
    go_wp2_with (rw [← HW.out])
    go_ret2
    rw [HE.out]
    exact ⟨_, rfl, Own.nil _ _, HBW.out⟩
  by_cases h2 : 1099511627776 < s
  · have HE : Hid _ := HNO.out (isRt_no2 (by omega))
    go_enter Tryd.func22, Tryd.ntmps22
    go_wp2_with (rw [← HW.out])
    go_ret2
    rw [HE.out]
    exact ⟨_, rfl, Own.nil _ _, HBW.out⟩
  by_cases h3 : b < 0
  · have HE : Hid _ := HNO.out (isRt_no3 (by omega))
    go_enter Tryd.func22, Tryd.ntmps22
    go_wp2_with (rw [← HW.out])
    go_ret2
    rw [HE.out]
    exact ⟨_, rfl, Own.nil _ _, HBW.out⟩
  by_cases h4 : 576460752303423488 < b
  · have HE : Hid _ := HNO.out (isRt_no4 (by omega))
    go_enter Tryd.func22, Tryd.ntmps22
    go_wp2_with (rw [← HW.out])
    go_ret2
    rw [HE.out]
    exact ⟨_, rfl, Own.nil _ _, HBW.out⟩
  by_cases h5 : (524288 : Int) < n
  · have HE : Hid _ := HNO.out (isRt_no5 (by omega))
    go_enter Tryd.func22, Tryd.ntmps22
    go_wp2_with (rw [← HW.out])
    go_ret2
    rw [HE.out]
    exact ⟨_, rfl, Own.nil _ _, HBW.out⟩
  obtain ⟨s, rfl⟩ : ∃ m : Nat, s = (m : Int) := ⟨s.toNat, by omega⟩
  obtain ⟨b, rfl⟩ : ∃ m : Nat, b = (m : Int) := ⟨b.toNat, by omega⟩
  have HE : Hid (bytesR ⟨s, b, l⟩ = (frameL (bodyR ⟨s, b, l⟩), 0)) := by
    show _ = _
    unfold bytesR isR
    rw [if_pos (by simp only [← HN.out]; exact (isRt_iff _ _ _).2 ⟨by omega, by omega, by omega, by omega, by omega⟩)]
  have hs1 : IntKind.u64.wrap (s : Int) = s := by rw [wrap_u64]; omega
  have hb1 : IntKind.u64.wrap (b : Int) = b := by rw [wrap_u64]; omega
  have hs2 : (s : Int) % 18446744073709551616 = s := by omega
  have hb2 : (b : Int) % 18446744073709551616 = b := by omega
  go_enter Tryd.func22, Tryd.ntmps22
  go_wp2_with (rw [← HW.out])
  refine (varint_any s W (by omega)).mono ?_
  rintro e w2 ⟨v2, rfl, ho2, hb2⟩
  have HB2 : Hid _ := below_call HBW.out hb2
  have HR2 : Hid _ := Rd.below HRD.out hb2
  have HC2 : Hid _ := C3.below HC.out hb2
  clear c0 c1 c2 g0
  obtain ⟨g0, c0, c1, c2, -⟩ := HC2.out
  go_wp2_with fail
  refine (refUint_any v2 (U s) b w2 (by omega) ho2.rd (by have := U_len s; omega)).mono ?_
  rintro e w3 ⟨v3, rfl, ho3, hb3⟩
  have HB3 : Hid _ := below_call HB2.out hb3
  have HR3 : Hid _ := Rd.below HR2.out hb3
  have HC3 : Hid _ := C3.below HC2.out hb3
  clear c0 c1 c2 g0
  obtain ⟨g0, c0, c1, c2, -⟩ := HC3.out
  have HL3 : Hid ((U s ++ U b).length + l.length ≤ 999999) := by
    show _ ≤ _
    have e1 := U_len s
    have e2 := U_len b
    rw [List.length_append, ← HN.out]
    omega
  have hbl := refBlob_any v3 (.slice ao n cap) (U s ++ U b) l w3 ho3.rd HR3.out (by have := HL3.out; omega)
  have HBD : Hid (bodyR ⟨s, b, l⟩ = (U s ++ U b) ++ (U l.length ++ l)) := rfl
  rw [← HBD.out] at hbl
  have HBL : Hid ((bodyR ⟨s, b, l⟩).length ≤ 1000000) := by
    have := body_size ⟨s, b, l⟩
    show _ ≤ _
    simp only [← HN.out] at this
    omega
  obtain ⟨B, HBB⟩ := named (bodyR ⟨s, b, l⟩)
  rw [← HBB.out] at hbl HE HBL
  go_wp2_with fail
  refine hbl.mono ?_
  rintro e w4 ⟨v4, rfl, ho4, hb4⟩
  have HB4 : Hid _ := below_call HB3.out hb4
  go_wp2_with fail
  refine (refFrame_any v4 B w4 ho4.rd HBL.out).mono ?_
  rintro e w5 ⟨v5, rfl, ho5, hb5⟩
  go_wp2_with fail
  go_ret2
  rw [HE.out]
  exact ⟨_, rfl, ho5.mono HB4.out.size, below_call HB4.out hb5⟩

set_option maxRecDepth 100000 in
set_option maxHeartbeats 400000 in
theorem next_any (v : Value) (l : List UInt8) (p : Int) (x : Nat) (w : World) (hrd : Rd w v l) (hl : l.length ≤ 140737488355328) :
    Calls Tryd.prog 61 #[v, .int .i64 p, .int .i64 x] w fun e w' => e = .returned (.tuple #[.int .u64 (if x = 0 then (getU l p).1 else 0), .int .i64 (if x = 0 then (getU l p).2.1 else 0), .int .i64 (if x = 0 then (getU l p).2.2 else x)]) ∧ w = w' := by
  by_cases hx : x = 0
  · subst hx
    have hg := refGetUint_any v l p w hrd hl
    obtain ⟨G, HG⟩ := named (getU l p)
    rw [← HG.out] at hg ⊢
    obtain ⟨g1, g2, g3⟩ := G
    simp only [if_true] at hg ⊢
    obtain ⟨ao, cap, hv, -⟩ := id hrd
    obtain ⟨n, HN⟩ := named l.length
    rw [← HN.out] at hv
    subst hv
    clear hrd hl
    go_enter Tryd.func61, Tryd.ntmps61
    go_wp2_with fail
    refine hg.mono ?_
    rintro e w1 ⟨rfl, rfl⟩
    go_wp2_with fail
    go_ret3
    exact ⟨rfl, rfl⟩
  · have hx' : ((x : Int) == 0) = false := by simp only [beq_eq_false_iff_ne]; omega
    simp only [hx, if_false]
    obtain ⟨ao, cap, hv, -⟩ := id hrd
    obtain ⟨n, HN⟩ := named l.length
    rw [← HN.out] at hv
    subst hv
    clear hrd hl
    go_enter Tryd.func61, Tryd.ntmps61
    go_wp2_with fail
    go_ret3
    exact ⟨rfl, rfl⟩
end Go.Proofs.YtffgbjojngnebaaDoor
