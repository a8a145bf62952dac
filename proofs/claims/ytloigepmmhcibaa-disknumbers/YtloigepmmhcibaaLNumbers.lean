/-
  The law DiskNumbers' walk. Own work.
-/
import Derived.Test.YtloigepmmhcibaaLSwap
import Derived.Test.YtloigepmmhcibaaLOwn
import Derived.Test.YtloigepmmhcibaaNa
namespace Go.Proofs.Ytloigepmmhcibaa
open Go.RowKit

theorem cells7 {w : World} {s : Nat} {a b c d e f g : Value} {t : TypeId} {z : Nat × Nat} (h : w.heap[s]? = some (.cells #[a, b, c, d, e, f, g] t z)) : w.cell? ⟨s, 0, none⟩ = some a ∧ w.cell? ⟨s, 1, none⟩ = some b ∧ w.cell? ⟨s, 2, none⟩ = some c ∧ w.cell? ⟨s, 3, none⟩ = some d ∧ w.cell? ⟨s, 4, none⟩ = some e ∧ w.cell? ⟨s, 5, none⟩ = some f ∧ w.cell? ⟨s, 6, none⟩ = some g := by
  refine ⟨?_, ?_, ?_, ?_, ?_, ?_, ?_⟩ <;> (rw [cell_of h]; rfl)
theorem UpX.up {B : Nat} {w0 w : World} {d : Value} {D : AD} {g : Nat} (h : UpX B w0 w d D g) : Up B w0 w d D := ⟨h.dk.mono fun _ _ hF => ⟨hF.1, hF.2.1⟩, h.bel, h.le⟩

set_option maxRecDepth 100000 in
set_option maxHeartbeats 4000000 in
theorem numbers_walk (w : World) : Calls Try.prog 3 #[] w fun e w' => e = .returned (.bool true) ∧ Below w.heap.size w w' := by
  have kc := fun (w : World) (C : Array Value) (n c : Nat) => Lib.run_convert_bytes_const (P := Try.prog) w 30 5 C n c Try.underlying30 Try.underlying5
  obtain ⟨lx, HLX⟩ := named (⟨(List.replicate 61 120).toArray⟩ : ByteArray)
  have HR6 : Hid (right lx = false) := by rw [HLX.out]; exact wr6
  have HS6 : Hid (lx.size ≤ 140737488355328) := by rw [HLX.out]; simp [Hid, ByteArray.size]
  go_enter Try.func3, Try.ntmps3
  go_wp2_with fail
  refine wp_loop_rounds 3 ?_
  rw [rounds_succ]
  go_wp2_with fail
  refine (new_bad _ (-1) (.inl (by omega))).mono ?_
  rintro e w1 ⟨rfl, hw⟩
  subst hw
  go_wp2_with fail
  rw [rounds_succ]
  go_wp2_with fail
  refine (new_bad _ 16777217 (.inr (by omega))).mono ?_
  rintro e w1 ⟨rfl, hw⟩
  subst hw
  go_wp2_with fail
  rw [rounds_succ]
  go_wp2_with fail
  obtain ⟨wa, HWA⟩ := named (w.alloc (Obj.cells #[Value.int IntKind.i64 (-1), Value.int IntKind.i64 16777217] 3))
  have HBA : Hid (Below w.heap.size w wa) := by rw [HWA.out]; exact (Below.refl _ _).alloc (Nat.le_refl _) _
  rw [← HWA.out]
  refine (new_up wa 16777216 (by omega)).mono ?_
  rintro e w1 ⟨d, rfl, -, hu1⟩
  go_wp2_with fail
  refine (repeat_any 120 61 w1 (by omega) (by omega)).mono ?_
  rintro e w2 ⟨rfl, hbl⟩
  rw [← HLX.out]
  have hu2 := hu1.below hbl
  clear hbl hu1
  go_wp2_with fail
  have hbn : Below w2.heap.size w2 (w2.alloc (Obj.cells #[.string ⟨#[]⟩, .string ⟨#[65]⟩, .string ⟨#[97, 32, 98]⟩, .string ⟨#[97, 47, 98]⟩, .string ⟨#[195, 164]⟩, .string ⟨#[95]⟩, .string lx] 9)) := (Below.refl _ _).alloc (Nat.le_refl _) _
  have hux0 := hu2.apart hbn w2.heap.size (Nat.le_refl _) (by simp)
  have hc0 := heap_alloc_new w2 (Obj.cells #[.string ⟨#[]⟩, .string ⟨#[65]⟩, .string ⟨#[97, 32, 98]⟩, .string ⟨#[97, 47, 98]⟩, .string ⟨#[195, 164]⟩, .string ⟨#[95]⟩, .string lx] 9)
  obtain ⟨wb0, HWB⟩ := named (w2.alloc (Obj.cells #[.string ⟨#[]⟩, .string ⟨#[65]⟩, .string ⟨#[97, 32, 98]⟩, .string ⟨#[97, 47, 98]⟩, .string ⟨#[195, 164]⟩, .string ⟨#[95]⟩, .string lx] 9))
  rw [← HWB.out] at hux0 hc0 ⊢
  obtain ⟨s, HS⟩ := named w2.heap.size
  rw [← HS.out] at hux0 hc0 ⊢
  clear hbn hu2
  refine wp_loop_rounds 8 ?_
  obtain ⟨c0, c1, c2, c3, c4, c5, c6⟩ := cells7 hc0
  rw [rounds_succ]
  go_wp2_with fail
  refine (cameX (hux0.append ⟨#[]⟩ (by decide) _ [] (Rd.nil _) (by rintro a ⟨⟩)) (wrong_name _ _ rfl wr0)).mono ?_
  rintro e wb1 ⟨rfl, hux1, hg⟩
  have hc1 := hg.trans hc0
  clear hux0 hg hc0 c0 c1 c2 c3 c4 c5 c6
  go_wp2_with fail
  obtain ⟨c0, c1, c2, c3, c4, c5, c6⟩ := cells7 hc1
  rw [rounds_succ]
  go_wp2_with fail
  refine (cameX (hux1.append ⟨#[65]⟩ (by decide) _ [] (Rd.nil _) (by rintro a ⟨⟩)) (wrong_name _ _ rfl wr1)).mono ?_
  rintro e wb2 ⟨rfl, hux2, hg⟩
  have hc2 := hg.trans hc1
  clear hux1 hg hc1 c0 c1 c2 c3 c4 c5 c6
  go_wp2_with fail
  obtain ⟨c0, c1, c2, c3, c4, c5, c6⟩ := cells7 hc2
  rw [rounds_succ]
  go_wp2_with fail
  refine (cameX (hux2.append ⟨#[97, 32, 98]⟩ (by decide) _ [] (Rd.nil _) (by rintro a ⟨⟩)) (wrong_name _ _ rfl wr2)).mono ?_
  rintro e wb3 ⟨rfl, hux3, hg⟩
  have hc3 := hg.trans hc2
  clear hux2 hg hc2 c0 c1 c2 c3 c4 c5 c6
  go_wp2_with fail
  obtain ⟨c0, c1, c2, c3, c4, c5, c6⟩ := cells7 hc3
  rw [rounds_succ]
  go_wp2_with fail
  refine (cameX (hux3.append ⟨#[97, 47, 98]⟩ (by decide) _ [] (Rd.nil _) (by rintro a ⟨⟩)) (wrong_name _ _ rfl wr3)).mono ?_
  rintro e wb4 ⟨rfl, hux4, hg⟩
  have hc4 := hg.trans hc3
  clear hux3 hg hc3 c0 c1 c2 c3 c4 c5 c6
  go_wp2_with fail
  obtain ⟨c0, c1, c2, c3, c4, c5, c6⟩ := cells7 hc4
  rw [rounds_succ]
  go_wp2_with fail
  refine (cameX (hux4.append ⟨#[195, 164]⟩ (by decide) _ [] (Rd.nil _) (by rintro a ⟨⟩)) (wrong_name _ _ rfl wr4)).mono ?_
  rintro e wb5 ⟨rfl, hux5, hg⟩
  have hc5 := hg.trans hc4
  clear hux4 hg hc4 c0 c1 c2 c3 c4 c5 c6
  go_wp2_with fail
  obtain ⟨c0, c1, c2, c3, c4, c5, c6⟩ := cells7 hc5
  rw [rounds_succ]
  go_wp2_with fail
  refine (cameX (hux5.append ⟨#[95]⟩ (by decide) _ [] (Rd.nil _) (by rintro a ⟨⟩)) (wrong_name _ _ rfl wr5)).mono ?_
  rintro e wb6 ⟨rfl, hux6, hg⟩
  have hc6 := hg.trans hc5
  clear hux5 hg hc5 c0 c1 c2 c3 c4 c5 c6
  go_wp2_with fail
  obtain ⟨c0, c1, c2, c3, c4, c5, c6⟩ := cells7 hc6
  rw [rounds_succ]
  go_wp2_with fail
  refine (cameX (hux6.append lx HS6.out _ [] (Rd.nil _) (by rintro a ⟨⟩)) (wrong_name _ _ rfl HR6.out)).mono ?_
  rintro e wb7 ⟨rfl, hux7, hg⟩
  have hc7 := hg.trans hc6
  clear hux6 hg hc6 c0 c1 c2 c3 c4 c5 c6
  go_wp2_with fail
  rw [rounds_succ]
  have hu3 := hux7.up
  clear hux7 hc7
  go_wp2_with fail
  have hT := run_toStr
  go_loopw [9] (fun iv wr => ∃ i : Nat, i ≤ 200 ∧ iv = .int .i64 i ∧ Hid (Up wa.heap.size wa wr d (bgD i))) (fun iv _ => 200 - (intOf iv).toNat)
  case atStart => exact ⟨0, by omega, rfl, hu3⟩
  case round =>
    obtain ⟨i, hi, rfl, HU⟩ := hrel
    by_cases hlt : i < 200
    · obtain ⟨r, HRr⟩ := named (i % 26)
      obtain ⟨q, HQ⟩ := named (i / 26)
      have hr : r < 26 := by rw [HRr.out]; omega
      have hq : q < 8 := by rw [HQ.out]; omega
      have m1 : (i : Int).tmod 26 = (r : Nat) := by rw [Int.tmod_eq_emod_of_nonneg (by omega), HRr.out]; omega
      have m2 : (i : Int).tdiv 26 = (q : Nat) := by rw [Int.tdiv_eq_ediv_of_nonneg (by omega), HQ.out]; omega
      have m3 : (i : Int) % 26 = (r : Nat) := by rw [HRr.out]; omega
      have m4 : (i : Int) / 26 = (q : Nat) := by rw [HQ.out]; omega
      obtain ⟨st, HST⟩ := named (⟨[UInt8.ofNat (97 + r), UInt8.ofNat (48 + q)].toArray⟩ : ByteArray)
      have HN : Hid ((⟨#[102, 46]⟩ : ByteArray) ++ st = nmF i) := by rw [HST.out, HRr.out, HQ.out]; exact (rfl : _ = _)
      have hcat : ¬ (9223372036854775807 < 2 + st.size) := by rw [HST.out]; simp [ByteArray.size]
      have hst : (toStr (.slice (some ⟨wr.heap.size, 0, none⟩) 2 2)).run Try.prog (wr.alloc (.cells #[.int .u8 (97 + (r : Int)), .int .u8 (48 + (q : Int))] 5)) = .ok (.string ⟨[UInt8.ofNat (97 + r), UInt8.ofNat (48 + q)].toArray⟩) (wr.alloc (.cells #[.int .u8 (97 + (r : Int)), .int .u8 (48 + (q : Int))] 5)) := by
        refine run_str _ _ [UInt8.ofNat (97 + r), UInt8.ofNat (48 + q)] (rd_new wr _ _ (0, 0) [UInt8.ofNat (97 + r), UInt8.ofNat (48 + q)] 2 (heap_alloc_new wr _) ?_ (Nat.le_refl _) (by simp [maxLen]))
        intro j hj
        match j, hj with
        | 0, _ => simp [UInt8.toNat_ofNat']; omega
        | 1, _ => simp [UInt8.toNat_ofNat']; omega
      rw [← HST.out] at hst
      clear m3 m4
      go_wp2_with fail
      rw [HN.out]
      refine (came (HU.out.append ((Below.refl _ _).alloc (Nat.le_refl _) _) (nmF i) (by show 4 ≤ _; omega) _ [] (Rd.nil _) (by rintro a ⟨⟩)) (bg_step i hlt)).mono ?_
      rintro e wx ⟨rfl, hux⟩
      clear hst HU
      go_wp2_with fail
      refine ⟨⟨i + 1, by omega, by simp, hux⟩, ?_⟩
      simp only [intOf]
      omega
    · have : i = 200 := by omega
      subst this
      have hu4 := HU.out
      rw [bg_all] at hu4
      clear HU
      go_wp2_with fail
      refine (list_any hu4.dk).mono ?_
      rintro e w5 ⟨vl, rfl, hos, hbl⟩
      have hu5 := hu4.below hbl
      clear hbl hu4
      rcases hos.2 with h2 | ⟨g, cap, cur, rfl, -⟩
      · rw [bg_len] at h2
        cases h2.2
      clear hos
      rw [bg_len]
      go_wp2_with fail
      refine (came (hu5.append (Below.refl _ _) ⟨#[103]⟩ (by decide) _ [] (Rd.nil _) (by rintro a ⟨⟩)) (bgA1)).mono ?_
      rintro e w6 ⟨rfl, hu6⟩
      clear hu5
      obtain ⟨ld, HLD⟩ := named dash
      have HA2 : Hid (renameD bgL ⟨#[102, 46, 97, 48]⟩ ld = (bg1, 0)) := by rw [HLD.out]; exact bgA2
      have HSD : Hid (ld.size ≤ 140737488355328) := by rw [HLD.out]; simp [Hid, dash, ByteArray.size]
      go_wp2_with fail
      refine (repeat_any 45 60 w6 (by omega) (by omega)).mono ?_
      rintro e w7 ⟨rfl, hbl⟩
      rw [show (⟨(List.replicate 60 45).toArray⟩ : ByteArray) = ld from HLD.out.symm]
      have hu7 := hu6.below hbl
      clear hbl hu6
      go_wp2_with fail
      refine (came (hu7.rename ⟨#[102, 46, 97, 48]⟩ ld HSD.out) (HA2.out)).mono ?_
      rintro e w8 ⟨rfl, hu8⟩
      clear hu7
      go_wp2_with fail
      refine (came (hu8.append (Below.refl _ _) ⟨#[102, 46, 97, 48]⟩ (by decide) _ [] (Rd.nil _) (by rintro a ⟨⟩)) (bgA3)).mono ?_
      rintro e w9 ⟨rfl, hu9⟩
      clear hu8
      go_wp2_with fail
      refine (came (hu9.append (Below.refl _ _) ⟨#[102, 46, 98, 48]⟩ (by decide) _ [] (Rd.nil _) (by rintro a ⟨⟩)) (bgA4)).mono ?_
      rintro e w10 ⟨rfl, hu10⟩
      clear hu9
      go_wp2_with fail
      refine (came (hu10.rename ⟨#[102, 46, 98, 48]⟩ ⟨#[66]⟩ (by decide)) (bgA5)).mono ?_
      rintro e w11 ⟨rfl, hu11⟩
      clear hu10
      go_wp2_with fail
      refine (came (hu11.rename ⟨#[103]⟩ ⟨#[104]⟩ (by decide)) (bgA6)).mono ?_
      rintro e w12 ⟨rfl, hu12⟩
      clear hu11
      go_wp2_with fail
      refine (came (hu12.cut ⟨#[102, 46, 98, 48]⟩ 1) (bgA7)).mono ?_
      rintro e w13 ⟨rfl, hu13⟩
      clear hu12
      go_wp2_with fail
      refine (came (hu13.cut ⟨#[102, 46, 98, 48]⟩ (-1)) (bgA8)).mono ?_
      rintro e w14 ⟨rfl, hu14⟩
      clear hu13
      go_wp2_with fail
      refine (came (hu14.cut ⟨#[103]⟩ 0) (bgA9)).mono ?_
      rintro e w15 ⟨rfl, hu15⟩
      clear hu14
      go_wp2_with fail
      refine (came (hu15.sync ⟨#[103]⟩) (bgA10)).mono ?_
      rintro e w16 ⟨rfl, hu16⟩
      clear hu15
      go_wp2_with fail
      refine (came (hu16.remove ⟨#[103]⟩) (bgA11)).mono ?_
      rintro e w17 ⟨rfl, hu17⟩
      clear hu16
      have HBB : Hid (Below w.heap.size w w17) := HBA.out.trans (hu17.bel.mono HBA.out.size)
      clear hu17
      go_wp2_with fail
      refine (new_up w17 5 (by omega)).mono ?_
      rintro e w18 ⟨d2, rfl, -, hu18⟩
      go_wp2_with fail
      refine (came (hu18.appendC ⟨#[97]⟩ (by decide) [49, 50, 51] (by simp) _ _ (by rfl)) (smA1)).mono ?_
      rintro e w19 ⟨rfl, hu19⟩
      clear hu18
      go_wp2_with fail
      refine (came (hu19.appendC ⟨#[98]⟩ (by decide) [52, 53, 54] (by simp) _ _ (by rfl)) (smA2)).mono ?_
      rintro e w20 ⟨rfl, hu20⟩
      clear hu19
      go_wp2_with fail
      refine (came (hu20.appendC ⟨#[98]⟩ (by decide) [52, 53] (by simp) _ _ (by rfl)) (smA3)).mono ?_
      rintro e w21 ⟨rfl, hu21⟩
      clear hu20
      go_wp2_with fail
      refine (came (hu21.appendC ⟨#[97]⟩ (by decide) [54] (by simp) _ _ (by rfl)) (smA4)).mono ?_
      rintro e w22 ⟨rfl, hu22⟩
      clear hu21
      go_wp2_with fail
      refine (came (hu22.cut ⟨#[97]⟩ 1) (smA5)).mono ?_
      rintro e w23 ⟨rfl, hu23⟩
      clear hu22
      go_wp2_with fail
      refine (came (hu23.appendC ⟨#[98]⟩ (by decide) [54, 55] (by simp) _ _ (by rfl)) (smA6)).mono ?_
      rintro e w24 ⟨rfl, hu24⟩
      clear hu23
      go_wp2_with fail
      refine (used_any hu24.dk).mono ?_
      rintro e w25 ⟨rfl, hbl⟩
      have hu25 := hu24.below hbl
      rw [smA7]
      clear hbl hu24
      go_wp2_with fail
      refine (came (hu25.rename ⟨#[98]⟩ ⟨#[98]⟩ (by decide)) (smA8)).mono ?_
      rintro e w26 ⟨rfl, hu26⟩
      clear hu25
      go_wp2_with fail
      refine (hu26.holds ⟨#[98]⟩ [52, 53, 54, 55] 0 smA9.1 smA9.2.1 smA9.2.2).mono ?_
      rintro e w27 ⟨rfl, hu27⟩
      clear hu26
      go_wp2_with fail
      refine (hu27.arm (-3) (by omega)).mono ?_
      rintro e w28 ⟨rfl, hx⟩
      have hu28 : Up w17.heap.size w17 w28 d2 sm6 := hx
      clear hx hu27
      go_wp2_with fail
      refine (came (hu28.appendC ⟨#[99]⟩ (by decide) [56] (by simp) _ _ (by rfl)) (smA10)).mono ?_
      rintro e w29 ⟨rfl, hu29⟩
      clear hu28
      go_wp2_with fail
      refine (came (hu29.sync ⟨#[99]⟩) (smA11)).mono ?_
      rintro e w30 ⟨rfl, hu30⟩
      clear hu29
      go_wp2_with fail
      refine (down_any hu30.dk).mono ?_
      rintro e wd ⟨rfl, hwd⟩
      subst hwd
      rw [smA12]
      go_wp2_with fail
      refine (came (hu30.sync ⟨#[98]⟩) (smA13)).mono ?_
      rintro e w31 ⟨rfl, hu31⟩
      clear hu30
      go_wp2_with fail
      refine (down_any hu31.dk).mono ?_
      rintro e wd ⟨rfl, hwd⟩
      subst hwd
      rw [smA14]
      go_wp2_with fail
      refine (size_any hu31.dk ⟨#[98]⟩).mono ?_
      rintro e w32 ⟨rfl, hbl⟩
      have hu32 := hu31.below hbl
      rw [smA15]
      clear hbl hu31
      go_wp2_with fail
      refine (hu32.arm (7) (by omega)).mono ?_
      rintro e w33 ⟨rfl, hx⟩
      have hu33 : Up w17.heap.size w17 w33 d2 (armD sm7 7) := hx
      clear hx hu32
      go_wp2_with fail
      refine (hu33.crashC ((Below.refl _ _).alloc (Nat.le_refl _) _) _ _ [] [0, 9] (RdI.nil _) (rdI_lit _ _ _ _ [0, 9] (heap_alloc_new w33 _) (by rfl) (by simp)) (by rintro a ⟨⟩) (by rintro a ⟨⟩; exact Nat.le_refl _) (by simp) (by simp)).mono ?_
      rintro e w34 ⟨rfl, hx⟩
      have hu34 : Up w17.heap.size w17 w34 d2 sm8 := hx
      clear hx hu33
      go_wp2_with fail
      refine (hu34.holds ⟨#[97]⟩ [49] 1 smA16.1 smA16.2.1 smA16.2.2).mono ?_
      rintro e w35 ⟨rfl, hu35⟩
      clear hu34
      go_wp2_with fail
      refine (hu35.holds ⟨#[98]⟩ [] 0 smA17.1 smA17.2.1 smA17.2.2).mono ?_
      rintro e w36 ⟨rfl, hu36⟩
      clear hu35
      go_wp2_with fail
      refine (awake_true w36).mono ?_
      rintro e wz ⟨rfl, hbz⟩
      go_wp2_with fail
      go_ret
      exact ⟨rfl, (HBB.out.trans (hu36.bel.mono HBB.out.size)).trans (hbz.mono (Nat.le_trans HBB.out.size hu36.bel.size))⟩
end Go.Proofs.Ytloigepmmhcibaa
