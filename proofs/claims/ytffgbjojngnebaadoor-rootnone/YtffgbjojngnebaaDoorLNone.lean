/-
  RootNone answers true, whatever is handed in. Own work.
-/
import Derived.Test.YtffgbjojngnebaaDoorKo
namespace Go.Proofs.YtffgbjojngnebaaDoor
open Go.RowKit

set_option maxRecDepth 100000 in
set_option maxHeartbeats 1600000 in
theorem none_walk (w : World) (hL : Laid w) (rs rb : Int) (rv : Value) (rl : List UInt8) (hr : Rd w rv rl) :
    Calls Tryd.prog 5 #[.agg #[.int .i64 rs, .int .i64 rb, rv]] w fun e w' => e = .returned (.bool true) ∧ Below w.heap.size w w' := by
  obtain ⟨ra, rc, hrv, -⟩ := id hr
  obtain ⟨rn, HRN⟩ := named rl.length
  rw [← HRN.out] at hrv
  subst hrv
  obtain ⟨W, HW⟩ := named (((w.alloc (Obj.cells #[.int .i64 rs, .int .i64 rb, .slice ra rn rc] 24)).alloc (Obj.cells #[.pointer none] 49)).alloc (Obj.cells #[.pointer none, .pointer (some ⟨w.heap.size + 1, 0, none⟩)] 33))
  have HBW : Hid (Below w.heap.size w W) := by
    show Below _ _ _
    rw [HW.out]
    repeat refine Below.alloc ?_ ?_ _
    all_goals first | exact Below.refl _ _ | (simp; done) | (simp; omega)
  have HCR : Hid (C3 W w.heap.size (.int .i64 rs) (.int .i64 rb) (.slice ra rn rc)) := by
    show C3 _ _ _ _ _
    rw [HW.out]
    refine ⟨?_, ?_, ?_, ?_, ?_, ?_, ?_⟩
    all_goals simp [go_sem]
  have HD : Hid (W.cell? ⟨w.heap.size + 1, 0, none⟩ = some (.pointer none)) := by show _ = _; rw [HW.out]; simp [go_sem]
  have HP0 : Hid (W.cell? ⟨w.heap.size + 2, 0, none⟩ = some (.pointer none)) := by show _ = _; rw [HW.out]; simp [go_sem]
  have HP1 : Hid (W.cell? ⟨w.heap.size + 2, 1, none⟩ = some (.pointer (some ⟨w.heap.size + 1, 0, none⟩))) := by show _ = _; rw [HW.out]; simp [go_sem]
  have HCW : Hid (∀ x, Below W.heap.size W x → ∀ {a : Addr} {v : Value}, W.cell? a = some v → x.cell? a = some v) := fun x hx {a v} h => by rw [hx.cell (World.block_lt_of_cell? W _ h)]; exact h
  have HLW : Hid (Laid W) := hL.below HBW.out
  clear hr hL
  go_enter Tryd.func5, Tryd.ntmps5
  go_wp2_with fail
  rw [← HW.out]
  go_loopw [16] (fun iv wr => ∃ k : Nat, k ≤ 2 ∧ iv = .int .i64 k ∧ Hid (Below W.heap.size W wr)) (fun iv _ => 2 - (intOf iv).toNat)
  case atStart => exact ⟨0, by omega, rfl, Below.refl _ _⟩
  case round =>
    obtain ⟨k, hk, rfl, HB⟩ := hrel
    by_cases hlt : k < 2
    · have hlt' : (k : Int) < 2 := by omega
      obtain ⟨dv, hdv, HNO⟩ : ∃ dv : Option Addr, wr.cell? ⟨w.heap.size + 2, k, none⟩ = some (.pointer dv) ∧ Hid (∀ x, Below W.heap.size W x → NoneV x (.pointer dv)) := by
        obtain rfl | rfl : k = 0 ∨ k = 1 := by omega
        · exact ⟨_, HCW.out wr HB.out HP0.out, fun x _ => .inl rfl⟩
        · exact ⟨_, HCW.out wr HB.out HP1.out, fun x hx => .inr ⟨_, rfl, HCW.out x hx HD.out⟩⟩
      have hrd := readRoot_none wr _ (HNO.out wr HB.out) (HLW.out.below HB.out)
      go_wp2_with fail
      refine hrd.mono ?_
      clear hrd
      rintro e w1 ⟨rfl, hb1⟩
      obtain ⟨X, HX⟩ := named (w1.alloc (Obj.cells #[.int .i64 0, .int .i64 0, .slice none 0 0] 24))
      have HBX : Hid (Below w1.heap.size w1 X) := by show Below _ _ _; rw [HX.out]; exact (Below.refl _ _).alloc (Nat.le_refl _) _
      have HCX : Hid (C3 X w1.heap.size (.int .i64 0) (.int .i64 0) (.slice none 0 0)) := by show C3 _ _ _ _ _; rw [HX.out]; exact C3.new _ _ _ _ _
      have HB2 : Hid (Below W.heap.size W X) := below_call (below_call HB.out hb1) HBX.out
      have HCR2 : Hid _ := C3.below HCR.out (below_call HB.out hb1)
      obtain ⟨q0, r0, r1, r2, -⟩ := HCR2.out
      have hwr := writeRoot_none X _ (HNO.out X HB2.out) (HLW.out.below HB2.out) rs rb ra rn rc
      clear hb1 hdv
      go_wp2_with fail
      rw [← HX.out]
      refine hwr.mono ?_
      clear hwr
      rintro e w3 ⟨rfl, hb3⟩
      obtain ⟨Y, HY⟩ := named (w3.alloc (Obj.cells #[.int .i64 0, .int .i64 0, .slice none 0 0] 24))
      have HBY : Hid (Below w3.heap.size w3 Y) := by show Below _ _ _; rw [HY.out]; exact (Below.refl _ _).alloc (Nat.le_refl _) _
      have HCY : Hid (C3 Y w3.heap.size (.int .i64 0) (.int .i64 0) (.slice none 0 0)) := by show C3 _ _ _ _ _; rw [HY.out]; exact C3.new _ _ _ _ _
      have HB4 : Hid (Below W.heap.size W Y) := below_call (below_call HB2.out hb3) HBY.out
      have HCX4 : Hid _ := C3.below HCX.out hb3
      clear hb3 q0 r0 r1 r2
      obtain ⟨x0, y0, y1, y2, -⟩ := HCX4.out
      have hsr := fun x => sameRoot_any noR noR (.slice none 0 0) (.slice none 0 0) x (Rd.nil _) (Rd.nil _)
      have HSR : Hid (∀ x, Calls Tryd.prog 25 #[.agg #[.int .i64 0, .int .i64 0, .slice none 0 0], .agg #[.int .i64 0, .int .i64 0, .slice none 0 0]] x fun e w' => e = .returned (.bool true) ∧ Below x.heap.size x w') := fun x => (hsr x).mono fun e w' h => h
      clear hsr
      go_wp2_with fail
      rw [← HY.out]
      refine (HSR.out Y).mono ?_
      rintro e w5 ⟨rfl, hb5⟩
      have HB5 : Hid (Below W.heap.size W w5) := below_call HB4.out hb5
      have HCY5 : Hid _ := C3.below HCY.out hb5
      clear hb5 x0 y0 y1 y2
      obtain ⟨g0, c0, c1, c2, -⟩ := HCY5.out
      go_wp2_with fail
      refine (HSR.out w5).mono ?_
      rintro e w6 ⟨rfl, hb6⟩
      have HB6 : Hid (Below W.heap.size W w6) := below_call HB5.out hb6
      clear hb6 g0 c0 c1 c2
      go_wp2_with fail
      go_roundw
      case rel => exact ⟨k + 1, by omega, by go_num, HB6⟩
      case measure => simp [intOf]; omega
    · have hlt' : ¬ (k : Int) < 2 := by omega
      go_wp2_with fail
      refine (awake_true wr (HLW.out.below HB.out)).mono ?_
      rintro e w6 ⟨rfl, hb6⟩
      go_wp2_with fail
      go_ret
      exact ⟨rfl, below_call (below_call HBW.out HB.out) hb6⟩
end Go.Proofs.YtffgbjojngnebaaDoor
