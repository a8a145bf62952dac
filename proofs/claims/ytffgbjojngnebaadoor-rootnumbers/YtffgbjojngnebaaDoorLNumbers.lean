/-
  RootNumbers answers true. Own work.
-/
import Derived.Test.YtffgbjojngnebaaDoorKw
namespace Go.Proofs.YtffgbjojngnebaaDoor
open Go.RowKit

/-- the row of roots that may not be -/
def badRow (v : Value) : Array Value := #[.int .i64 0, .int .i64 0, .slice none 0 0, .int .i64 (-1), .int .i64 0, .slice none 0 0, .int .i64 1099511627777, .int .i64 0, .slice none 0 0, .int .i64 1, .int .i64 (-1), .slice none 0 0, .int .i64 1, .int .i64 576460752303423489, .slice none 0 0, .int .i64 1, .int .i64 0, v]

def nf1 : AD := (writeR (newD 10) 0 [97, 98, 99]).1
def nf2 : AD := (writeR nf1 0 []).1
def nf3 : AD := (writeR nf2 (-1) []).1
def nf4 : AD := (writeR nf3 1 []).1
def nx1 : AD := (writeR (newD 1000) 3 []).1
def nx2 : AD := (appendD nx1 nNew [116, 111, 114, 110]).1
def nx3 : AD := (writeR nx2 4 []).1
def nx4 : AD := armD nx3 0
def nx5 : AD := (syncD nx4 nR0).1
theorem nf1e : (writeR (newD 10) 0 [97, 98, 99]).2 = (noR, 5) := by kernel_rfl
theorem nf2e : (writeR nf1 0 []).2 = (⟨1, 0, []⟩, 0) := by kernel_rfl
theorem nf3e : (writeR nf2 (-1) []).2 = (noR, 2) := by kernel_rfl
theorem nf4e : (writeR nf3 1 []).2 = (noR, 5) := by kernel_rfl
theorem nf4r : readR nf4 = (⟨1, 0, []⟩, true, 0) := by kernel_rfl
theorem nx1e : (writeR (newD 1000) 3 []).2 = (⟨1, 3, []⟩, 0) := by kernel_rfl
theorem nx2e : (appendD nx1 nNew [116, 111, 114, 110]).2 = 0 := by kernel_rfl
theorem nx3e : (writeR nx2 4 []).2 = (⟨2, 4, []⟩, 0) := by kernel_rfl
theorem nx5e : (syncD nx4 nR0).2 = 15 := by kernel_rfl
theorem nx5r : readR nx5 = (noR, false, 15) := by kernel_rfl
theorem nx6e : (writeR nx5 0 []).2 = (noR, 15) := by kernel_rfl
theorem Ap.keep {B M : Nat} {w0 w w' : World} {d : Value} {D : AD} {F P : Nat → Prop} (h : Ap B w0 w d D F) (hs : ∀ b, F b → b < M) (hM : B ≤ M) (hP : ∀ b, P b → M ≤ b) (hc : Chg P w w') : Ap B w0 w' d D F :=
  h.out hc fun b hb => by
    have := hP b hb
    exact ⟨fun hF => by have := hs b hF; omega, by omega⟩

set_option maxRecDepth 100000 in
set_option maxHeartbeats 4000000 in
theorem numbers_walk (w : World) (hL : Laid w) : Calls Tryd.prog 3 #[] w fun e w' => e = .returned (.bool true) ∧ Below w.heap.size w w' := by
  obtain ⟨i0, hi, hz0, hz1, hz2⟩ := info_parts Tryd.info5
  have kc := fun (w : World) (C : Array Value) (n c : Nat) => Lib.run_convert_bytes_const (P := Tryd.prog) w 22 5 C n c Tryd.underlying22 Tryd.underlying5
  obtain ⟨N1, HN1⟩ := named 524289
  obtain ⟨N, HN⟩ := named 524288
  have HL : Hid _ := hL
  clear hL
  go_enter Tryd.func3, Tryd.ntmps3
  go_wp2_with (at_make; go_must (refine wpList_make_full _ rfl (.const (.int .i64 524289)) (.const (.int .i64 524289)) 22 rfl w.heap.size 5 i0 (.int .u8 0) 1 Tryd.underlying22 hi hz0 hz1 .i64 .i64 _ _ N1 rfl rfl ?_ ?_ ?_ ?_ ?_ ?_))
  · have := HN1.out; omega
  · have := HN1.out; omega
  · rw [hz2]; have := HN1.out; omega
  · have := HN1.out; unfold maxLen; omega
  · exact Nat.le_refl _
  intro w1 hown1 hg1
  have HB1 : Hid (Below w.heap.size w w1) := (Below.refl _ _).grown hg1 (Nat.le_refl _) (fun k hk => by cases hk)
  have HO1 : Hid (Own w1 w.heap.size (.slice (some ⟨w.heap.size, 0, none⟩) N1 N1) (zs N1)) := Own.made hown1
  clear hown1 hg1
  obtain ⟨X, HX⟩ := named (w1.alloc (Obj.cells (badRow (.slice (some ⟨w.heap.size, 0, none⟩) N1 N1)) 24))
  have HBX : Hid (Below w1.heap.size w1 X) := by show Below _ _ _; rw [HX.out]; exact (Below.refl _ _).alloc (Nat.le_refl _) _
  have HXH : Hid (X.heap[w1.heap.size]? = some (.cells (badRow (.slice (some ⟨w.heap.size, 0, none⟩) N1 N1)) 24 (0, 0))) := by show _ = _; rw [HX.out]; exact heap_alloc_new w1 _
  have HBWX : Hid (Below w.heap.size w X) := below_call HB1.out HBX.out
  have HOX : Hid _ := Own.below HO1.out HBX.out
  have HTAB : Hid (∀ k, k < 6 → ∃ (s b : Int) (a : Option Addr) (n c : Nat) (l : List UInt8), X.cell? ⟨w1.heap.size, k * 3, none⟩ = some (.int .i64 s) ∧ X.cell? ⟨w1.heap.size, k * 3 + 1, none⟩ = some (.int .i64 b) ∧ X.cell? ⟨w1.heap.size, k * 3 + 2, none⟩ = some (.slice a n c) ∧ Rd X (.slice a n c) l ∧ l.length ≤ 600000 ∧ isRt s b l.length = false) := by
    intro k hk
    have hc : ∀ j, X.cell? ⟨w1.heap.size, j, none⟩ = (badRow (.slice (some ⟨w.heap.size, 0, none⟩) N1 N1))[j]? := fun j => cell_of HXH.out j
    match k, hk with
    | 0, _ => exact ⟨0, 0, none, 0, 0, [], hc _, hc _, hc _, Rd.nil _, by decide, by decide⟩
    | 1, _ => exact ⟨-1, 0, none, 0, 0, [], hc _, hc _, hc _, Rd.nil _, by decide, by decide⟩
    | 2, _ => exact ⟨1099511627777, 0, none, 0, 0, [], hc _, hc _, hc _, Rd.nil _, by decide, by decide⟩
    | 3, _ => exact ⟨1, -1, none, 0, 0, [], hc _, hc _, hc _, Rd.nil _, by decide, by decide⟩
    | 4, _ => exact ⟨1, 576460752303423489, none, 0, 0, [], hc _, hc _, hc _, Rd.nil _, by decide, by decide⟩
    | 5, _ => exact ⟨1, 0, _, N1, N1, zs N1, hc _, hc _, hc _, Own.rd HOX.out, by rw [zs_length]; have := HN1.out; omega, isRt_no5 (by rw [zs_length]; have := HN1.out; omega)⟩
  have HXL : Hid (w1.heap.size < X.heap.size) := (Array.getElem?_eq_some_iff.1 HXH.out).1
  have HXE : Hid (X = w1.alloc (Obj.cells #[.int .i64 0, .int .i64 0, .slice none 0 0, .int .i64 (-1), .int .i64 0, .slice none 0 0, .int .i64 1099511627777, .int .i64 0, .slice none 0 0, .int .i64 1, .int .i64 (-1), .slice none 0 0, .int .i64 1, .int .i64 576460752303423489, .slice none 0 0, .int .i64 1, .int .i64 0, .slice (some ⟨w.heap.size, 0, none⟩) N1 N1] 24)) := HX.out
  go_wp2_with fail
  rw [← HXE.out]
  clear HX HXE HXH
  go_loopw [44] (fun iv wr => ∃ k : Nat, k ≤ 6 ∧ iv = .int .i64 k ∧ Hid (Below X.heap.size X wr)) (fun iv _ => 6 - (intOf iv).toNat)
  case atStart => exact ⟨0, by omega, rfl, Below.refl _ _⟩
  case round =>
    obtain ⟨k, hk, rfl, HB⟩ := hrel
    by_cases hlt : k < 6
    · have hlt' : (k : Int) < 6 := by omega
      obtain ⟨s, b, a, n, c, l, t0, t1, t2, hrd, hll, hno⟩ := HTAB.out k hlt
      have k0 := (HB.out.cell (p := ⟨w1.heap.size, k * 3, none⟩) HXL.out).trans t0
      have k1 := (HB.out.cell (p := ⟨w1.heap.size, k * 3 + 1, none⟩) HXL.out).trans t1
      have k2 := (HB.out.cell (p := ⟨w1.heap.size, k * 3 + 2, none⟩) HXL.out).trans t2
      obtain ⟨Y, HY⟩ := named (wr.alloc (Obj.cells #[.int .i64 s, .int .i64 b, .slice a n c] 24))
      have HBY : Hid (Below wr.heap.size wr Y) := by show Below _ _ _; rw [HY.out]; exact (Below.refl _ _).alloc (Nat.le_refl _) _
      have HCY : Hid (C3 Y wr.heap.size (.int .i64 s) (.int .i64 b) (.slice a n c)) := by show C3 _ _ _ _ _; rw [HY.out]; exact C3.new _ _ _ _ _
      have HB2 : Hid (Below X.heap.size X Y) := below_call HB.out HBY.out
      have hby := bytes_any s b (.slice a n c) l Y (hrd.below HB2.out) (by omega)
      rw [show bytesR ⟨s, b, l⟩ = ([], 2) from by unfold bytesR isR; rw [if_neg (by simp [hno])]] at hby
      clear t0 t1 t2 hrd hll hno
      obtain ⟨x0, y0, y1, y2, -⟩ := HCY.out
      go_wp2_with (rw [← HY.out])
      refine hby.mono ?_
      clear hby
      rintro e w2 ⟨v2, rfl, ho2, hb2⟩
      obtain ⟨a2, p2, hv2, -⟩ := id ho2.rd
      have hz2' : (([] : List UInt8).length) = 0 := rfl
      rw [hz2'] at hv2
      subst hv2
      have HB3 : Hid (Below X.heap.size X w2) := below_call HB2.out hb2
      clear ho2 hb2 x0 y0 y1 y2 k0 k1 k2
      go_wp2_with fail
      go_roundw
      case rel => exact ⟨k + 1, by omega, by go_num, HB3⟩
      case measure => simp [intOf]; omega
    · have hlt' : ¬ (k : Int) < 6 := by omega
      have HBW : Hid (Below w.heap.size w wr) := below_call HBWX.out HB.out
      clear HTAB HOX HO1 HB1 HBX HBWX HXL
      go_wp2_with (at_make; go_must (refine wpList_make_full _ rfl (.const (.int .i64 524288)) (.const (.int .i64 524288)) 22 rfl wr.heap.size 5 i0 (.int .u8 0) 1 Tryd.underlying22 hi hz0 hz1 .i64 .i64 _ _ N rfl rfl ?_ ?_ ?_ ?_ ?_ ?_))
      all_goals try (first | (have h := HN.out; omega) | (rw [hz2]; have h := HN.out; omega) | (have h := HN.out; unfold maxLen; omega) | exact Nat.le_refl _)
      intro w2 hown2 hg2
      have HB2 : Hid (Below w.heap.size w w2) := below_call HBW.out ((Below.refl _ _).grown hg2 (Nat.le_refl _) (fun k hk => by cases hk))
      have hz := Own.made hown2
      have HIR : Hid (isR ⟨1099511627776, 576460752303423488, zs N⟩ = true) := (isRt_iff _ _ _).2 ⟨(show (1 : Int) ≤ 1099511627776 by omega), (show (1099511627776 : Int) ≤ 1099511627776 by omega), (show (0 : Int) ≤ 576460752303423488 by omega), (show (576460752303423488 : Int) ≤ 576460752303423488 by omega), by rw [zs_length]; have := HN.out; omega⟩
      have hby := bytes_any 1099511627776 576460752303423488 (.slice (some ⟨wr.heap.size, 0, none⟩) N N) (zs N) w2 hz.rd (by rw [zs_length]; have := HN.out; omega)
      rw [show bytesR ⟨1099511627776, 576460752303423488, zs N⟩ = (frameL (bodyR ⟨1099511627776, 576460752303423488, zs N⟩), 0) from by unfold bytesR; rw [if_pos HIR.out]] at hby
      have HPB : Hid _ := parse_back _ HIR.out
      have HPM : Hid _ := parse_more _ HIR.out 0
      have HFS : Hid ((frameL (bodyR ⟨1099511627776, 576460752303423488, zs N⟩)).length ≤ 700000) := by
        have := frameR_size ⟨1099511627776, 576460752303423488, zs N⟩
        simp only [zs_length] at this
        have := HN.out
        show _ ≤ _
        omega
      obtain ⟨FL, HFL⟩ := named (frameL (bodyR ⟨1099511627776, 576460752303423488, zs N⟩))
      rw [← HFL.out] at hby HPB HPM HFS
      have HZL : Hid ((zs N).length = N) := zs_length N
      obtain ⟨Z, HZ⟩ := named (zs N)
      rw [← HZ.out] at HPB HZL
      clear hown2 hg2 hz
      go_wp2_with fail
      refine hby.mono ?_
      clear hby
      rintro e w3 ⟨v3, rfl, ho3, hb3⟩
      obtain ⟨a3, p3, hv3, -⟩ := id ho3.rd
      obtain ⟨k3, HK3⟩ := named FL.length
      rw [← HK3.out] at hv3
      subst hv3
      have HB3 : Hid (Below w.heap.size w w3) := below_call HB2.out hb3
      have HO3 : Hid _ := ho3
      have hpa := parse_any (.slice a3 k3 p3) FL w3 ho3.rd (by have := HFS.out; omega)
      rw [HPB.out] at hpa
      clear ho3 hb3
      go_wp2_with fail
      refine hpa.mono ?_
      clear hpa
      rintro e w4 ⟨v4, rfl, ho4, hb4⟩
      obtain ⟨a4, p4, hv4, -⟩ := id ho4.rd
      simp only [HZL.out] at hv4
      subst hv4
      obtain ⟨X4, HX4⟩ := named (w4.alloc (Obj.cells #[.int .i64 1099511627776, .int .i64 576460752303423488, .slice a4 N p4] 24))
      have HBX4 : Hid (Below w4.heap.size w4 X4) := by show Below _ _ _; rw [HX4.out]; exact (Below.refl _ _).alloc (Nat.le_refl _) _
      have HCX4 : Hid (C3 X4 w4.heap.size (.int .i64 1099511627776) (.int .i64 576460752303423488) (.slice a4 N p4)) := by show C3 _ _ _ _ _; rw [HX4.out]; exact C3.new _ _ _ _ _
      have HB34 : Hid (Below w3.heap.size w3 X4) := below_call hb4 HBX4.out
      have HB4 : Hid (Below w.heap.size w X4) := below_call HB3.out HB34.out
      have hcp := copyBytes_cap (.slice a3 k3 p3) FL X4 (Rd.below (Own.rd HO3.out) HB34.out) (by have := HFS.out; omega)
      rw [← HK3.out] at hcp
      clear ho4 hb4
      go_wp2_with (rw [← HX4.out])
      refine hcp.mono ?_
      clear hcp
      rintro e w5 ⟨rfl, ho5, hb5⟩
      have HB45 : Hid (Below X4.heap.size X4 w5) := hb5
      obtain ⟨v6, w6, hr6, ho6, hg6⟩ := run_append_rd (P := Tryd.prog) (w5.alloc (.cells #[.int .u8 0] 5)) 22 22 i0 Tryd.underlying22 hi hz0 hz1 hz2 X4.heap.size (.slice (some ⟨X4.heap.size, 0, none⟩) k3 k3) (.slice (some ⟨w5.heap.size, 0, none⟩) 1 1) FL [0] (ho5.alloc _) (rdK_lit _ (fun _ => False) _ _ [0] w5.heap.size (heap_alloc_new w5 _) (by rfl) (by simp) (fun h => h)).1 (by have := HFS.out; simp; omega) (by have := hb5.size; simp; omega)
      have HB46 : Hid (Below X4.heap.size X4 w6) := (hb5.alloc hb5.size _).grown hg6 (by have := hb5.size; simp; omega) (fun k hk => (World.ownsRow.lt ho5 k hk).1)
      obtain ⟨a6, p6, hv6, -⟩ := id ho6.rd
      obtain ⟨k6, HK6⟩ := named (FL ++ [0]).length
      rw [← HK6.out] at hv6
      subst hv6
      have hpm := parse_any (.slice a6 k6 p6) (FL ++ [0]) w6 ho6.rd (by have := HFS.out; simp; omega)
      rw [HPM.out] at hpm
      clear ho5 hb5 ho6 hg6
      go_wp2_with (at_builtin; refine Lib.wpList_append_run _ rfl (.tmp 77) (.tmp 78) 22 22 rfl _ _ rfl rfl _ _ hr6 ?_)
      refine hpm.mono ?_
      clear hpm hr6
      rintro e w7 ⟨v7, rfl, ho7, hb7⟩
      obtain ⟨a7, p7, hv7, -⟩ := id ho7.rd
      have hz7 : (noR.blob.length : Nat) = 0 := rfl
      rw [hz7] at hv7
      subst hv7
      obtain ⟨X7, HX7⟩ := named (w7.alloc (Obj.cells #[.int .i64 noR.serial, .int .i64 noR.batch, .slice a7 0 p7] 24))
      have HBX7 : Hid (Below w7.heap.size w7 X7) := by show Below _ _ _; rw [HX7.out]; exact (Below.refl _ _).alloc (Nat.le_refl _) _
      have HB47 : Hid (Below X4.heap.size X4 X7) := below_call (below_call HB46.out hb7) HBX7.out
      clear ho7 hb7
      have hpn := parse_any (.slice none 0 0) [] X7 (Rd.nil _) (by simp)
      rw [parse_nil] at hpn
      go_wp2_with (rw [← HX7.out])
      refine hpn.mono ?_
      clear hpn
      rintro e w8 ⟨v8, rfl, ho8, hb8⟩
      obtain ⟨a8, p8, hv8, -⟩ := id ho8.rd
      rw [hz7] at hv8
      subst hv8
      obtain ⟨X8, HX8⟩ := named (w8.alloc (Obj.cells #[.int .i64 noR.serial, .int .i64 noR.batch, .slice a8 0 p8] 24))
      have HBX8 : Hid (Below w8.heap.size w8 X8) := by show Below _ _ _; rw [HX8.out]; exact (Below.refl _ _).alloc (Nat.le_refl _) _
      have HBc0 : Hid (Below X4.heap.size X4 X8) := below_call (below_call HB47.out hb8) HBX8.out
      clear ho8 hb8
      have hno0 := none_true (.slice (some ⟨X8.heap.size, 0, none⟩) 3 3) [0, 0, 0] (X8.alloc (.cells #[.int .u8 0, .int .u8 0, .int .u8 0] 5)) (rdK_lit _ (fun _ => False) _ _ [0, 0, 0] X8.heap.size (heap_alloc_new X8 _) (by rfl) (by simp) (fun h => h)).1 (by simp) (by simp) (by kernel_rfl)
      go_wp2_with (rw [← HX8.out])
      refine hno0.mono ?_
      clear hno0
      rintro e y0 ⟨rfl, hy0⟩
      have HBc1 : Hid (Below X4.heap.size X4 y0) := below_call (HBc0.out.alloc HBc0.out.size _) hy0
      clear hy0
      have hno1 := none_true (.slice (some ⟨y0.heap.size, 0, none⟩) 2 2) [1, 0] (y0.alloc (.cells #[.int .u8 1, .int .u8 0] 5)) (rdK_lit _ (fun _ => False) _ _ [1, 0] y0.heap.size (heap_alloc_new y0 _) (by rfl) (by simp) (fun h => h)).1 (by simp) (by simp) (by kernel_rfl)
      go_wp2_with fail
      refine hno1.mono ?_
      clear hno1
      rintro e y1 ⟨rfl, hy1⟩
      have HBc2 : Hid (Below X4.heap.size X4 y1) := below_call (HBc1.out.alloc HBc1.out.size _) hy1
      clear hy1
      have hno2 := none_true (.slice (some ⟨y1.heap.size, 0, none⟩) 3 3) [1, 0, 1] (y1.alloc (.cells #[.int .u8 1, .int .u8 0, .int .u8 1] 5)) (rdK_lit _ (fun _ => False) _ _ [1, 0, 1] y1.heap.size (heap_alloc_new y1 _) (by rfl) (by simp) (fun h => h)).1 (by simp) (by simp) (by kernel_rfl)
      go_wp2_with fail
      refine hno2.mono ?_
      clear hno2
      rintro e y2 ⟨rfl, hy2⟩
      have HBc3 : Hid (Below X4.heap.size X4 y2) := below_call (HBc2.out.alloc HBc2.out.size _) hy2
      clear hy2
      have hno3 := none_true (.slice (some ⟨y2.heap.size, 0, none⟩) 4 4) [1, 0, 0, 0] (y2.alloc (.cells #[.int .u8 1, .int .u8 0, .int .u8 0, .int .u8 0] 5)) (rdK_lit _ (fun _ => False) _ _ [1, 0, 0, 0] y2.heap.size (heap_alloc_new y2 _) (by rfl) (by simp) (fun h => h)).1 (by simp) (by simp) (by kernel_rfl)
      go_wp2_with fail
      refine hno3.mono ?_
      clear hno3
      rintro e y3 ⟨rfl, hy3⟩
      have HBc4 : Hid (Below X4.heap.size X4 y3) := below_call (HBc3.out.alloc HBc3.out.size _) hy3
      clear hy3
      have hno4 := none_true (.slice (some ⟨y3.heap.size, 0, none⟩) 4 4) [129, 0, 0, 0] (y3.alloc (.cells #[.int .u8 129, .int .u8 0, .int .u8 0, .int .u8 0] 5)) (rdK_lit _ (fun _ => False) _ _ [129, 0, 0, 0] y3.heap.size (heap_alloc_new y3 _) (by rfl) (by simp) (fun h => h)).1 (by simp) (by simp) (by kernel_rfl)
      go_wp2_with fail
      refine hno4.mono ?_
      clear hno4
      rintro e y4 ⟨rfl, hy4⟩
      have HBc5 : Hid (Below X4.heap.size X4 y4) := below_call (HBc4.out.alloc HBc4.out.size _) hy4
      clear hy4
      have HLy : Hid (Laid y4) := HL.out.below (below_call HB4.out HBc5.out)
      have HCr : Hid _ := C3.below HCX4.out HBc5.out
      go_wp2_with fail
      refine (new_ap y4 10 (by omega)).mono ?_
      rintro e z1 ⟨d1, rfl, hd1, F1, hA1, hbz1⟩
      have HAf : Hid (Ap y4.heap.size y4 z1 d1 (newD 10) F1) := hA1
      have HCr1 : Hid _ := C3.below HCr.out hbz1
      clear hA1 hbz1
      obtain ⟨g0, c0, c1, c2, -⟩ := HCr1.out
      have hN1 : ((N : Int) == 524288) = true := by simp only [beq_iff_eq]; have := HN.out; omega
      have hN2 : ((N : Int) != 524288) = false := by simp only [bne_eq_false_iff_eq]; have := HN.out; omega
      have HBl1 : Hid (Below z1.heap.size z1 (z1.alloc (.cells #[.int .u8 97, .int .u8 98, .int .u8 99] 5 (3, 4)))) := (Below.refl _ _).alloc (Nat.le_refl _) _
      have hw1 := (HAf.out.below HBl1.out).write HLy.out HLy.out.lt 0 0 (.slice (some ⟨z1.heap.size, 0, none⟩) 3 3) [97, 98, 99] (rdK_lit _ F1 _ _ [97, 98, 99] z1.heap.size (heap_alloc_new z1 _) (by rfl) (by simp) (fun hF => Nat.lt_irrefl _ (HAf.out.sub _ hF).2)) (by simp)
      rw [nf1e] at hw1
      go_wp2_with fail
      refine hw1.mono ?_
      clear hw1
      rintro e u1 ⟨t1, rfl, G1, hA1, hS1, hR1⟩
      obtain ⟨ta1, tp1, tv1, -⟩ := id hR1.1
      have tz1 : (noR.blob.length : Nat) = 0 := rfl
      rw [tz1] at tv1
      subst tv1
      obtain ⟨B1, HB1q⟩ := named (u1.alloc (Obj.cells #[.int .i64 noR.serial, .int .i64 noR.batch, .slice ta1 0 tp1] 24))
      have HBB1 : Hid (Below u1.heap.size u1 B1) := by show Below _ _ _; rw [HB1q.out]; exact (Below.refl _ _).alloc (Nat.le_refl _) _
      have HBC1 : Hid (C3 B1 u1.heap.size (.int .i64 noR.serial) (.int .i64 noR.batch) (.slice ta1 0 tp1)) := by show C3 _ _ _ _ _; rw [HB1q.out]; exact C3.new _ _ _ _ _
      have HAf1 : Hid (Ap y4.heap.size y4 B1 d1 nf1 G1) := hA1.below HBB1.out
      clear hA1 hS1 hR1 g0 c0 c1 c2
      have hw2 := HAf1.out.write HLy.out HLy.out.lt 0 0 (.slice none 0 0) [] (RdK.nil _ _) (by simp)
      rw [nf2e] at hw2
      go_wp2_with (rw [← HB1q.out])
      refine hw2.mono ?_
      clear hw2
      rintro e u2 ⟨t2, rfl, G2, hA2, hS2, hR2⟩
      obtain ⟨ta2, tp2, tv2, -⟩ := id hR2.1
      have tz2 : (([] : List UInt8).length : Nat) = 0 := rfl
      rw [tz2] at tv2
      subst tv2
      obtain ⟨B2, HB2q⟩ := named (u2.alloc (Obj.cells #[.int .i64 1, .int .i64 0, .slice ta2 0 tp2] 24))
      have HBB2 : Hid (Below u2.heap.size u2 B2) := by show Below _ _ _; rw [HB2q.out]; exact (Below.refl _ _).alloc (Nat.le_refl _) _
      have HBC2 : Hid (C3 B2 u2.heap.size (.int .i64 1) (.int .i64 0) (.slice ta2 0 tp2)) := by show C3 _ _ _ _ _; rw [HB2q.out]; exact C3.new _ _ _ _ _
      have HAf2 : Hid (Ap y4.heap.size y4 B2 d1 nf2 G2) := hA2.below HBB2.out
      have HWF2 : Hid (¬ G2 u2.heap.size) := fun hF => Nat.lt_irrefl _ (hA2.sub _ hF).2
      clear hA2 hS2 hR2
      have hw3 := HAf2.out.write HLy.out HLy.out.lt 0 (-1) (.slice none 0 0) [] (RdK.nil _ _) (by simp)
      rw [nf3e] at hw3
      go_wp2_with (rw [← HB2q.out])
      refine hw3.mono ?_
      clear hw3
      rintro e u3 ⟨t3, rfl, G3, hA3, hS3, hR3⟩
      obtain ⟨ta3, tp3, tv3, -⟩ := id hR3.1
      have tz3 : (noR.blob.length : Nat) = 0 := rfl
      rw [tz3] at tv3
      subst tv3
      obtain ⟨B3, HB3q⟩ := named (u3.alloc (Obj.cells #[.int .i64 noR.serial, .int .i64 noR.batch, .slice ta3 0 tp3] 24))
      have HBB3 : Hid (Below u3.heap.size u3 B3) := by show Below _ _ _; rw [HB3q.out]; exact (Below.refl _ _).alloc (Nat.le_refl _) _
      have HBC3 : Hid (C3 B3 u3.heap.size (.int .i64 noR.serial) (.int .i64 noR.batch) (.slice ta3 0 tp3)) := by show C3 _ _ _ _ _; rw [HB3q.out]; exact C3.new _ _ _ _ _
      have HAf3 : Hid (Ap y4.heap.size y4 B3 d1 nf3 G3) := hA3.below HBB3.out
      obtain ⟨o1, o2⟩ := C3.step HBC2.out HWF2.out hS3
      have HW3 : Hid _ := C3.below o1 HBB3.out
      have HWF3 : Hid _ := o2
      clear hA3 hS3 hR3 o1 o2
      have hw4 := HAf3.out.write HLy.out HLy.out.lt 0 1 (.slice none 0 0) [] (RdK.nil _ _) (by simp)
      rw [nf4e] at hw4
      go_wp2_with (rw [← HB3q.out])
      refine hw4.mono ?_
      clear hw4
      rintro e u4 ⟨t4, rfl, G4, hA4, hS4, hR4⟩
      obtain ⟨ta4, tp4, tv4, -⟩ := id hR4.1
      have tz4 : (noR.blob.length : Nat) = 0 := rfl
      rw [tz4] at tv4
      subst tv4
      obtain ⟨B4, HB4q⟩ := named (u4.alloc (Obj.cells #[.int .i64 noR.serial, .int .i64 noR.batch, .slice ta4 0 tp4] 24))
      have HBB4 : Hid (Below u4.heap.size u4 B4) := by show Below _ _ _; rw [HB4q.out]; exact (Below.refl _ _).alloc (Nat.le_refl _) _
      have HBC4 : Hid (C3 B4 u4.heap.size (.int .i64 noR.serial) (.int .i64 noR.batch) (.slice ta4 0 tp4)) := by show C3 _ _ _ _ _; rw [HB4q.out]; exact C3.new _ _ _ _ _
      have HAf4 : Hid (Ap y4.heap.size y4 B4 d1 nf4 G4) := hA4.below HBB4.out
      obtain ⟨o1, o2⟩ := C3.step HW3.out HWF3.out hS4
      have HW4 : Hid _ := C3.below o1 HBB4.out
      clear hA4 hS4 hR4 o1 o2
      have HLx : Hid (Laid B4) := HAf4.out.laid HLy.out HLy.out.lt
      have HSUB : Hid (∀ b, G4 b → b < B4.heap.size) := fun b hb => (HAf4.out.sub b hb).2
      have HMB : Hid (y4.heap.size ≤ B4.heap.size) := HAf4.out.le
      go_wp2_with (rw [← HB4q.out])
      refine (new_ap B4 1000 (by omega)).mono ?_
      rintro e z2 ⟨d2, rfl, hd2, F2, hA5, hbz2⟩
      have HAx0 : Hid (Ap B4.heap.size B4 z2 d2 (newD 1000) F2) := hA5
      have HAf5 : Hid _ := HAf4.out.below hbz2
      have HW5 : Hid _ := C3.below HW4.out hbz2
      have HWL : Hid (u2.heap.size < B4.heap.size) := HW4.out.1
      clear hA5 hbz2
      have hw6 := HAx0.out.write HLx.out HLx.out.lt 77 3 (.slice none 0 0) [] (RdK.nil _ _) (by simp)
      rw [nx1e] at hw6
      go_wp2_with fail
      refine hw6.mono ?_
      clear hw6
      rintro e u6 ⟨t6, rfl, G6, hA6, hS6, hR6⟩
      obtain ⟨ta6, tp6, tv6, -⟩ := id hR6.1
      have tz6 : (([] : List UInt8).length : Nat) = 0 := rfl
      rw [tz6] at tv6
      subst tv6
      obtain ⟨B6, HB6q⟩ := named (u6.alloc (Obj.cells #[.int .i64 1, .int .i64 3, .slice ta6 0 tp6] 24))
      have HBB6 : Hid (Below u6.heap.size u6 B6) := by show Below _ _ _; rw [HB6q.out]; exact (Below.refl _ _).alloc (Nat.le_refl _) _
      have HBC6 : Hid (C3 B6 u6.heap.size (.int .i64 1) (.int .i64 3) (.slice ta6 0 tp6)) := by show C3 _ _ _ _ _; rw [HB6q.out]; exact C3.new _ _ _ _ _
      have HAx1 : Hid (Ap B4.heap.size B4 B6 d2 nx1 G6) := hA6.below HBB6.out
      have HAf6 : Hid (Ap y4.heap.size y4 B6 d1 nf4 G4) := (HAf5.out.keep HSUB.out HMB.out (fun b hb => (HAx0.out.sub b hb).1) hS6.chg).below HBB6.out
      obtain ⟨o1, o2⟩ := C3.step HW5.out (fun hF => by have h1 := (HAx0.out.sub _ hF).1; have h2 := HWL.out; omega) hS6
      have HW6 : Hid _ := C3.below o1 HBB6.out
      have HKF6 : Hid (¬ G6 u6.heap.size) := fun hF => Nat.lt_irrefl _ (hA6.sub _ hF).2
      clear hA6 hS6 hR6 o1 o2
      have HBl7 : Hid (Below B6.heap.size B6 (B6.alloc (.cells #[.int .u8 116, .int .u8 111, .int .u8 114, .int .u8 110] 5 (4, 5)))) := (Below.refl _ _).alloc (Nat.le_refl _) _
      have hap := (HAx1.out.below HBl7.out).append nNew (by decide) (.slice (some ⟨B6.heap.size, 0, none⟩) 4 4) [116, 111, 114, 110] (rdK_lit _ G6 _ _ [116, 111, 114, 110] B6.heap.size (heap_alloc_new B6 _) (by rfl) (by simp) (fun hF => Nat.lt_irrefl _ (HAx1.out.sub _ hF).2))
      rw [nx2e] at hap
      have HNN : Hid (nNew = ⟨#[114, 111, 111, 116, 46, 110, 101, 119]⟩) := rfl
      rw [HNN.out] at hap
      go_wp2_with (rw [← HB6q.out])
      refine hap.mono ?_
      clear hap
      rintro e z3 ⟨rfl, G7, hA7, hS7⟩
      have HAx2 : Hid (Ap B4.heap.size B4 z3 d2 nx2 G7) := hA7
      have HAf7 : Hid (Ap y4.heap.size y4 z3 d1 nf4 G4) := (HAf6.out.below HBl7.out).keep HSUB.out HMB.out (fun b hb => (HAx1.out.sub b hb).1) hS7.chg
      obtain ⟨o1, o2⟩ := C3.step (C3.below HW6.out HBl7.out) (fun hF => by have h1 := (HAx1.out.sub _ hF).1; have h2 := HWL.out; omega) hS7
      have HW7 : Hid _ := o1
      obtain ⟨o3, o4⟩ := C3.step (C3.below HBC6.out HBl7.out) HKF6.out hS7
      have HK7 : Hid _ := o3
      have HKF7 : Hid _ := o4
      clear hA7 hS7 o1 o2 o3 o4
      have hw8 := HAx2.out.write HLx.out HLx.out.lt 0 4 (.slice none 0 0) [] (RdK.nil _ _) (by simp)
      rw [nx3e] at hw8
      go_wp2_with fail
      refine hw8.mono ?_
      clear hw8
      rintro e u8 ⟨t8, rfl, G8, hA8, hS8, hR8⟩
      obtain ⟨ta8, tp8, tv8, -⟩ := id hR8.1
      have tz8 : (([] : List UInt8).length : Nat) = 0 := rfl
      rw [tz8] at tv8
      subst tv8
      obtain ⟨B8, HB8q⟩ := named (u8.alloc (Obj.cells #[.int .i64 2, .int .i64 4, .slice ta8 0 tp8] 24))
      have HBB8 : Hid (Below u8.heap.size u8 B8) := by show Below _ _ _; rw [HB8q.out]; exact (Below.refl _ _).alloc (Nat.le_refl _) _
      have HBC8 : Hid (C3 B8 u8.heap.size (.int .i64 2) (.int .i64 4) (.slice ta8 0 tp8)) := by show C3 _ _ _ _ _; rw [HB8q.out]; exact C3.new _ _ _ _ _
      have HAx3 : Hid (Ap B4.heap.size B4 B8 d2 nx3 G8) := hA8.below HBB8.out
      have HAf8 : Hid (Ap y4.heap.size y4 B8 d1 nf4 G4) := (HAf7.out.keep HSUB.out HMB.out (fun b hb => (HAx2.out.sub b hb).1) hS8.chg).below HBB8.out
      obtain ⟨o1, o2⟩ := C3.step HW7.out (fun hF => by have h1 := (HAx2.out.sub _ hF).1; have h2 := HWL.out; omega) hS8
      have HW8 : Hid _ := C3.below o1 HBB8.out
      obtain ⟨o3, o4⟩ := C3.step HK7.out HKF7.out hS8
      have HK8 : Hid _ := C3.below o3 HBB8.out
      have HKF8 : Hid _ := o4
      have HYF8 : Hid (¬ G8 u8.heap.size) := fun hF => Nat.lt_irrefl _ (hA8.sub _ hF).2
      clear hA8 hS8 hR8 o1 o2 o3 o4
      have har := HAx3.out.arm 0 (by omega)
      go_wp2_with (rw [← HB8q.out])
      refine har.mono ?_
      clear har
      rintro e z4 ⟨rfl, G9, hA9, hS9⟩
      have HAx4 : Hid (Ap B4.heap.size B4 z4 d2 nx4 G9) := hA9
      have HAf9 : Hid (Ap y4.heap.size y4 z4 d1 nf4 G4) := HAf8.out.keep HSUB.out HMB.out (fun b hb => (HAx3.out.sub b hb).1) hS9.chg
      obtain ⟨o1, o2⟩ := C3.step HW8.out (fun hF => by have h1 := (HAx3.out.sub _ hF).1; have h2 := HWL.out; omega) hS9
      have HW9 : Hid _ := o1
      obtain ⟨o3, o4⟩ := C3.step HK8.out HKF8.out hS9
      have HK9 : Hid _ := o3
      have HKF9 : Hid _ := o4
      obtain ⟨o5, o6⟩ := C3.step HBC8.out HYF8.out hS9
      have HY9 : Hid _ := o5
      have HYF9 : Hid _ := o6
      clear hA9 hS9 o1 o2 o3 o4 o5 o6
      have hsy := HAx4.out.sync nR0
      rw [nx5e] at hsy
      have HN0 : Hid (nR0 = ⟨#[114, 111, 111, 116, 48]⟩) := rfl
      rw [HN0.out] at hsy
      go_wp2_with fail
      refine hsy.mono ?_
      clear hsy
      rintro e z5 ⟨rfl, G10, hA10, hS10⟩
      have HAx5 : Hid (Ap B4.heap.size B4 z5 d2 nx5 G10) := hA10
      have HAf10 : Hid (Ap y4.heap.size y4 z5 d1 nf4 G4) := HAf9.out.keep HSUB.out HMB.out (fun b hb => (HAx4.out.sub b hb).1) hS10.chg
      obtain ⟨o1, o2⟩ := C3.step HW9.out (fun hF => by have h1 := (HAx4.out.sub _ hF).1; have h2 := HWL.out; omega) hS10
      have HW10 : Hid _ := o1
      obtain ⟨o3, o4⟩ := C3.step HK9.out HKF9.out hS10
      have HK10 : Hid _ := o3
      have HKF10 : Hid _ := o4
      obtain ⟨o5, o6⟩ := C3.step HY9.out HYF9.out hS10
      have HY10 : Hid _ := o5
      have HYF10 : Hid _ := o6
      clear hA10 hS10 o1 o2 o3 o4 o5 o6
      have hrr := read_root HAx5.out.dk (HAx5.out.laid HLx.out HLx.out.lt)
      rw [nx5r] at hrr
      go_wp2_with fail
      refine hrr.mono ?_
      clear hrr
      rintro e z6 ⟨v11, rfl, ho11, hb11⟩
      obtain ⟨a11, p11, hv11, -⟩ := id ho11.rd
      rw [hz7] at hv11
      subst hv11
      obtain ⟨B11, HB11q⟩ := named (z6.alloc (Obj.cells #[.int .i64 noR.serial, .int .i64 noR.batch, .slice a11 0 p11] 24))
      have HBB11 : Hid (Below z6.heap.size z6 B11) := by show Below _ _ _; rw [HB11q.out]; exact (Below.refl _ _).alloc (Nat.le_refl _) _
      have HBC11 : Hid (C3 B11 z6.heap.size (.int .i64 noR.serial) (.int .i64 noR.batch) (.slice a11 0 p11)) := by show C3 _ _ _ _ _; rw [HB11q.out]; exact C3.new _ _ _ _ _
      have HB511 : Hid (Below z5.heap.size z5 B11) := below_call hb11 HBB11.out
      have HAx6 : Hid _ := HAx5.out.below HB511.out
      have HAf11 : Hid _ := HAf10.out.below HB511.out
      have HW11 : Hid _ := C3.below HW10.out HB511.out
      have HK11 : Hid _ := C3.below HK10.out HB511.out
      have HY11 : Hid _ := C3.below HY10.out HB511.out
      clear ho11 hb11
      have hw12 := HAx6.out.write HLx.out HLx.out.lt 0 0 (.slice none 0 0) [] (RdK.nil _ _) (by simp)
      rw [nx6e] at hw12
      go_wp2_with (rw [← HB11q.out])
      refine hw12.mono ?_
      clear hw12
      rintro e u12 ⟨t12, rfl, G12, hA12, hS12, hR12⟩
      obtain ⟨ta12, tp12, tv12, -⟩ := id hR12.1
      have tz12 : (noR.blob.length : Nat) = 0 := rfl
      rw [tz12] at tv12
      subst tv12
      obtain ⟨B12, HB12q⟩ := named (u12.alloc (Obj.cells #[.int .i64 noR.serial, .int .i64 noR.batch, .slice ta12 0 tp12] 24))
      have HBB12 : Hid (Below u12.heap.size u12 B12) := by show Below _ _ _; rw [HB12q.out]; exact (Below.refl _ _).alloc (Nat.le_refl _) _
      have HBC12 : Hid (C3 B12 u12.heap.size (.int .i64 noR.serial) (.int .i64 noR.batch) (.slice ta12 0 tp12)) := by show C3 _ _ _ _ _; rw [HB12q.out]; exact C3.new _ _ _ _ _
      have HAx7 : Hid (Ap B4.heap.size B4 B12 d2 (writeR nx5 0 []).1 G12) := hA12.below HBB12.out
      have HAf12 : Hid (Ap y4.heap.size y4 B12 d1 nf4 G4) := (HAf11.out.keep HSUB.out HMB.out (fun b hb => (HAx6.out.sub b hb).1) hS12.chg).below HBB12.out
      obtain ⟨o1, -⟩ := C3.step HW11.out (fun hF => by have h1 := (HAx6.out.sub _ hF).1; have h2 := HWL.out; omega) hS12
      have HW12 : Hid _ := C3.below o1 HBB12.out
      obtain ⟨o3, -⟩ := C3.step HK11.out HKF10.out hS12
      have HK12 : Hid _ := C3.below o3 HBB12.out
      obtain ⟨o5, -⟩ := C3.step HY11.out HYF10.out hS12
      have HY12 : Hid _ := C3.below o5 HBB12.out
      clear hA12 hS12 hR12 o1 o3 o5
      have his := is_true HAf12.out.dk (HAf12.out.laid HLy.out HLy.out.lt) 1 0 ⟨#[]⟩ (by decide) nf4r
      obtain ⟨g0, c0, c1, c2, -⟩ := HW12.out
      go_wp2_with (rw [← HB12q.out])
      refine his.mono ?_
      clear his
      rintro e z8 ⟨rfl, hb8'⟩
      have HK13 : Hid _ := C3.below HK12.out hb8'
      have HY13 : Hid _ := C3.below HY12.out hb8'
      have HAf13 : Hid _ := HAf12.out.below hb8'
      clear hb8' g0 c0 c1 c2
      obtain ⟨g0, c0, c1, c2, -⟩ := HK13.out
      obtain ⟨x0, y0', y1', y2', -⟩ := HY13.out
      go_wp2_with fail
      refine (awake_true z8 (HAf13.out.laid HLy.out HLy.out.lt)).mono ?_
      rintro e z9 ⟨rfl, hb9⟩
      go_wp2_with fail
      go_ret
      have hBy : Below w.heap.size w y4 := below_call HB4.out HBc5.out
      have hB8 : Below w.heap.size w z8 := hBy.trans (HAf13.out.bel.mono hBy.size)
      exact ⟨rfl, hB8.trans (hb9.mono hB8.size)⟩
end Go.Proofs.YtffgbjojngnebaaDoor
