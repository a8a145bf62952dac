/-
  awake: the chapter's examples come out as written. Own work.
-/
import Derived.Test.YtffgbjojngnebaaDoorKl
import Derived.Test.YtffgbjojngnebaaDoorKm
namespace Go.Proofs.YtffgbjojngnebaaDoor
open Go.RowKit

/-- a row of bytes that stands in the program, new, outside of F -/
theorem rdK_lit (w' : World) (F : Nat → Prop) (C : Array Value) (fz : Nat × Nat) (l : List UInt8) (g : Nat) (hg : w'.heap[g]? = some (.cells C 5 fz)) (hC : C = (l.map fun b => Value.int .u8 (b.toNat : Int)).toArray) (hl : l.length ≤ 1000) (hF : ¬ F g) : RdK w' F (.slice (some ⟨g, 0, none⟩) l.length l.length) l := by
  have hm : (1000 : Nat) ≤ maxLen := by simp [maxLen]
  refine ⟨⟨_, _, rfl, Nat.le_refl _, by omega, (by intro h; cases h), ?_⟩, ?_⟩
  · rintro a ⟨⟩ i hi
    rw [show ((⟨g, 0, none⟩ : Addr).add i) = ⟨g, i, none⟩ by unfold Addr.add; split <;> simp_all, cell_of hg]
    subst hC
    simp [hi]
  · rintro a ⟨⟩ _
    exact hF
def aw1 : AD := (writeR (newD 1000) 7 [97, 98]).1
def aw2 : AD := (writeR aw1 9 []).1
def aw3 : AD := (removeD aw2 nR0).1
theorem aw0r : readR (newD 1000) = (⟨0, 0, []⟩, false, 0) := by kernel_rfl
theorem aw1w : (writeR (newD 1000) 7 [97, 98]).2 = (⟨1, 7, [97, 98]⟩, 0) := by kernel_rfl
theorem aw1s : (lookF aw1.files nR1).bytes.length = 11 ∧ (lookF aw1.files nR0).bytes.length = 0 := ⟨by kernel_rfl, by kernel_rfl⟩
theorem aw2w : (writeR aw1 9 []).2 = (⟨2, 9, []⟩, 0) := by kernel_rfl
theorem aw2r : readR aw2 = (⟨2, 9, []⟩, true, 0) := by kernel_rfl
theorem aw2l : aw2.files.map AF.name = [nR0, nR1] := by kernel_rfl
theorem aw3e : (removeD aw2 nR0).2 = 0 := by kernel_rfl
theorem aw3r : readR aw3 = (⟨1, 7, [97, 98]⟩, true, 0) := by kernel_rfl
theorem awb : bytesR ⟨1, 7, [97, 98]⟩ = (frameL [1, 7, 2, 97, 98], 0) := by kernel_rfl
theorem awg : getF (frameL [1, 7, 2, 97, 98]) 0 = ([1, 7, 2, 97, 98], 11, 0) := by kernel_rfl

set_option maxRecDepth 100000 in
set_option maxHeartbeats 4000000 in
theorem awake_true (w : World) (hL : Laid w) : Calls Tryd.prog 21 #[] w fun e w' => e = .returned (.bool true) ∧ Below w.heap.size w w' := by
  have kc := fun (w : World) (C : Array Value) (n c : Nat) => Lib.run_convert_bytes_const (P := Tryd.prog) w 22 5 C n c Tryd.underlying22 Tryd.underlying5
  have HL : Hid _ := hL
  have HN0 : Hid (nR0 = ⟨#[114, 111, 111, 116, 48]⟩) := rfl
  have HN1 : Hid (nR1 = ⟨#[114, 111, 111, 116, 49]⟩) := rfl
  go_enter Tryd.func21, Tryd.ntmps21
  go_wp2_with fail
  refine (new_ap w 1000 (by omega)).mono ?_
  rintro e w1 ⟨d, rfl, -, F1, hA1, -⟩
  go_wp2_with fail
  refine (is_true hA1.dk (hA1.laid HL.out HL.out.lt) 0 0 ⟨#[]⟩ (by decide) aw0r).mono ?_
  rintro e w2 ⟨rfl, hb2⟩
  have HA2 : Hid _ := hA1.below hb2
  have HS2 : Hid (∀ b, F1 b → b < w2.heap.size) := fun b hb => ((HA2.out).sub b hb).2
  clear hA1 hb2
  go_wp2_with fail
  have HBX : Hid (Below w2.heap.size w2 (w2.alloc (.cells #[.int .u8 97, .int .u8 98] 5 (2, 3)))) := (Below.refl _ _).alloc (Nat.le_refl _) _
  refine ((HA2.out.below HBX.out).write HL.out HL.out.lt 0 7 (.slice (some ⟨w2.heap.size, 0, none⟩) 2 2) [97, 98] (rdK_lit _ F1 _ _ [97, 98] w2.heap.size (heap_alloc_new w2 _) (by rfl) (by simp) (fun hF => Nat.lt_irrefl _ (HS2.out _ hF))) (by simp)).mono ?_
  rw [aw1w]
  rintro e w3 ⟨v3, rfl, F3, hA3, hS3, hR3⟩
  have HA3 : Hid (Ap w.heap.size w w3 d aw1 F3) := hA3
  obtain ⟨a3, p3, hv3, -⟩ := id hR3.1
  have hz : (([97, 98] : List UInt8).length) = 2 := rfl
  rw [hz] at hv3
  subst hv3
  have HS3 : Hid (∀ b, F3 b → b < w3.heap.size) := fun b hb => ((HA3.out).sub b hb).2
  clear hA3 hS3 hR3
  obtain ⟨X, HX⟩ := named (w3.alloc (Obj.cells #[.int .i64 1, .int .i64 7, .slice a3 2 p3] 24))
  have HBX3 : Hid (Below w3.heap.size w3 X) := by show Below _ _ _; rw [HX.out]; exact (Below.refl _ _).alloc (Nat.le_refl _) _
  have HCX : Hid (C3 X w3.heap.size (.int .i64 1) (.int .i64 7) (.slice a3 2 p3)) := by show C3 _ _ _ _ _; rw [HX.out]; exact C3.new _ _ _ _ _
  obtain ⟨x0, y0, y1, y2, -⟩ := HCX.out
  have hz1 := size_any (HA3.out.below HBX3.out).dk nR1
  rw [aw1s.1, HN1.out] at hz1
  go_wp2_with (rw [← HX.out])
  refine hz1.mono ?_
  rintro e w4 ⟨rfl, hb4⟩
  have HA4 : Hid _ := (HA3.out.below HBX3.out).below hb4
  have hz0 := size_any HA4.out.dk nR0
  rw [aw1s.2, HN0.out] at hz0
  clear hz1
  go_wp2_with fail
  refine hz0.mono ?_
  rintro e w5 ⟨rfl, hb5⟩
  have HA5 : Hid _ := HA4.out.below hb5
  clear hz0 hb4 hb5 x0 y0 y1 y2
  have hwr := HA5.out.write HL.out HL.out.lt 0 9 (.slice none 0 0) [] (RdK.nil _ _) (by simp)
  rw [aw2w] at hwr
  go_wp2_with fail
  refine hwr.mono ?_
  rintro e w6 ⟨v6, rfl, F6, hA6, hS6, hR6⟩
  have HA6 : Hid (Ap w.heap.size w w6 d aw2 F6) := hA6
  obtain ⟨a6, p6, hv6, -⟩ := id hR6.1
  have hz6 : (([] : List UInt8).length) = 0 := rfl
  rw [hz6] at hv6
  subst hv6
  clear hA6 hS6 hR6 hwr
  obtain ⟨Y, HY⟩ := named (w6.alloc (Obj.cells #[.int .i64 2, .int .i64 9, .slice a6 0 p6] 24))
  have HBY : Hid (Below w6.heap.size w6 Y) := by show Below _ _ _; rw [HY.out]; exact (Below.refl _ _).alloc (Nat.le_refl _) _
  have HCY : Hid (C3 Y w6.heap.size (.int .i64 2) (.int .i64 9) (.slice a6 0 p6)) := by show C3 _ _ _ _ _; rw [HY.out]; exact C3.new _ _ _ _ _
  have HAY : Hid _ := HA6.out.below HBY.out
  obtain ⟨x0, y0, y1, y2, -⟩ := HCY.out
  have his := is_true HAY.out.dk (HAY.out.laid HL.out HL.out.lt) 2 9 ⟨#[]⟩ (by decide) aw2r
  go_wp2_with (rw [← HY.out])
  refine his.mono ?_
  rintro e w7 ⟨rfl, hb7⟩
  have HA7 : Hid _ := HAY.out.below hb7
  clear his hb7 x0 y0 y1 y2
  have hli := list_any HA7.out.dk
  rw [aw2l] at hli
  go_wp2_with fail
  refine hli.mono ?_
  rintro e w8 ⟨v8, rfl, hos8, hb8⟩
  have HA8 : Hid _ := HA7.out.below hb8
  have HRT : Hid _ := hos8.rdT
  clear hli hos8 hb8
  obtain ⟨a8, p8, hv8, -⟩ := id HRT.out
  have hz8 : (([nR0, nR1] : List ByteArray).map Value.string).length = 2 := rfl
  rw [hz8] at hv8
  subst hv8
  have HBZ : Hid (Below w8.heap.size w8 (w8.alloc (.cells #[.string nR0, .string nR1] 9))) := (Below.refl _ _).alloc (Nat.le_refl _) _
  have hst := sameTexts_any (.slice a8 2 p8) (.slice (some ⟨w8.heap.size, 0, none⟩) 2 2) [nR0, nR1] [nR0, nR1] _ (RdT.below HRT.out HBZ.out) (rdT_lit _ _ w8.heap.size _ [nR0, nR1] (heap_alloc_new w8 _) (by rfl) (by simp))
  rw [decide_eq_true rfl] at hst
  have HAZ : Hid _ := HA8.out.below HBZ.out
  rw [HN0.out, HN1.out] at hst
  rw [HN0.out, HN1.out] at HAZ
  go_wp2_with fail
  refine hst.mono ?_
  rintro e w9 ⟨rfl, hb9⟩
  have HA9 : Hid _ := HAZ.out.below hb9
  clear hst hb9
  have hre := HA9.out.remove nR0
  rw [aw3e, HN0.out] at hre
  go_wp2_with fail
  refine hre.mono ?_
  rintro e w10 ⟨rfl, F10, hA10, -⟩
  have HA10 : Hid (Ap w.heap.size w w10 d aw3 F10) := hA10
  clear hA10 hre
  have HBW : Hid (Below w10.heap.size w10 (w10.alloc (.cells #[.int .u8 97, .int .u8 98] 5 (2, 3)))) := (Below.refl _ _).alloc (Nat.le_refl _) _
  have hby := bytes_any 1 7 (.slice (some ⟨w10.heap.size, 0, none⟩) 2 2) [97, 98] _ (rdK_lit _ (fun _ => False) _ _ [97, 98] w10.heap.size (heap_alloc_new w10 (.cells #[.int .u8 97, .int .u8 98] 5 (2, 3))) (by rfl) (by simp) (fun hF => hF)).1 (by simp)
  rw [awb] at hby
  go_wp2_with fail
  refine hby.mono ?_
  rintro e w11 ⟨v11, rfl, hown11, hb11⟩
  have HA11 : Hid _ := (HA10.out.below HBW.out).below hb11
  clear hb11 hby
  have hgt := get_any v11 (frameL [1, 7, 2, 97, 98]) 0 w11 hown11.rd (by decide)
  rw [awg] at hgt
  obtain ⟨a11, p11, hv11, -⟩ := id hown11.rd
  obtain ⟨k11, HK11⟩ := named (frameL [1, 7, 2, 97, 98]).length
  rw [← HK11.out] at hv11
  subst hv11
  clear hown11
  go_wp2_with fail
  refine hgt.mono ?_
  rintro e w12 ⟨v12, rfl, hown12, hb12⟩
  have HA12 : Hid _ := HA11.out.below hb12
  have HO12 : Hid _ := hown12
  obtain ⟨a12, p12, hv12, -⟩ := id hown12.rd
  have hz12 : (([1, 7, 2, 97, 98] : List UInt8).length) = 5 := rfl
  rw [hz12] at hv12
  subst hv12
  clear hgt hown12 hb12
  have his := is_true HA12.out.dk (HA12.out.laid HL.out HL.out.lt) 1 7 ⟨#[97, 98]⟩ (by decide) aw3r
  go_wp2_with fail
  refine his.mono ?_
  rintro e w13 ⟨rfl, hb13⟩
  have HB13 : Hid _ := (HA12.out.below hb13).bel
  have HO13 : Hid _ := Own.below HO12.out hb13
  have HBV : Hid (Below w13.heap.size w13 (w13.alloc (.cells #[.int .u8 1, .int .u8 7, .int .u8 2, .int .u8 97, .int .u8 98] 5))) := (Below.refl _ _).alloc (Nat.le_refl _) _
  have hsb := same_any (.slice a12 5 p12) (.slice (some ⟨w13.heap.size, 0, none⟩) 5 5) [1, 7, 2, 97, 98] [1, 7, 2, 97, 98] _ (Rd.below (Own.rd HO13.out) HBV.out) (rdK_lit _ (fun _ => False) _ _ [1, 7, 2, 97, 98] w13.heap.size (heap_alloc_new w13 _) (by rfl) (by simp) (fun hF => hF)).1
  rw [decide_eq_true rfl] at hsb
  clear his hb13
  go_wp2_with fail
  refine hsb.mono ?_
  rintro e w14 ⟨rfl, rfl⟩
  go_wp2_with fail
  go_ret
  exact ⟨rfl, HB13.out.trans (HBV.out.mono HB13.out.size)⟩
end Go.Proofs.YtffgbjojngnebaaDoor
