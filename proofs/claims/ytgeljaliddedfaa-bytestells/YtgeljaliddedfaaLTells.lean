/-
  The law BytesTells answers true, whatever the bytes and numbers: the program's answers are the document's own. No condition.
-/
import Derived.Test.YtgeljaliddedfaaRk
import Derived.Test.YtgeljaliddedfaaKeep
import Derived.Deep.RegionHeld
import Derived.Deep.Cut
import Derived.Deep.CutRange
namespace Go.Proofs.Ytgeljaliddedfaa
open Go.RowKit

set_option maxRecDepth 100000 in
set_option maxHeartbeats 400000 in
theorem tells_off (n p q : Int) (v : Value) (l : List UInt8) (w : World) (hrd : Rd w v l) (hl : 500 < l.length) :
    Calls Try.prog 4 #[.int .u64 n, v, .int .i64 p, .int .i64 q] w fun e w' => e = .returned (.bool true) ∧ Below w.heap.size w w' := by
  obtain ⟨ao, cap, rfl, -⟩ := hrd
  have hl' : (500 : Int) < l.length := by omega
  go_enter Try.func4, Try.ntmps4
  go_wp2_with fail
  refine (awake_true _).mono ?_
  rintro e w7 ⟨rfl, hb7⟩
  go_wp2
  go_ret
  exact ⟨rfl, hb7⟩

theorem five {w : World} {s1 s2 s3 s4 s5 : Value} {a b c d : List UInt8} (h1 : Rd w s1 a) (h2 : Rd w s2 b) (h3 : Rd w s3 c) (h4 : Rd w s4 d) (h5 : Rd w s5 d) :
    (toStr s1).run Try.prog w = .ok (.string ⟨a.toArray⟩) w ∧ (toStr s2).run Try.prog w = .ok (.string ⟨b.toArray⟩) w ∧ (toStr s3).run Try.prog w = .ok (.string ⟨c.toArray⟩) w ∧ (toStr s4).run Try.prog w = .ok (.string ⟨d.toArray⟩) w ∧ (toStr s5).run Try.prog w = .ok (.string ⟨d.toArray⟩) w :=
  ⟨run_str _ _ _ h1, run_str _ _ _ h2, run_str _ _ _ h3, run_str _ _ _ h4, run_str _ _ _ h5⟩
theorem four {w : World} {s1 s2 s3 s4 : Value} {a b : List UInt8} (h1 : Rd w s1 a) (h2 : Rd w s2 a) (h3 : Rd w s3 b) (h4 : Rd w s4 b) :
    (toStr s1).run Try.prog w = .ok (.string ⟨a.toArray⟩) w ∧ (toStr s2).run Try.prog w = .ok (.string ⟨a.toArray⟩) w ∧ (toStr s3).run Try.prog w = .ok (.string ⟨b.toArray⟩) w ∧ (toStr s4).run Try.prog w = .ok (.string ⟨b.toArray⟩) w :=
  ⟨run_str _ _ _ h1, run_str _ _ _ h2, run_str _ _ _ h3, run_str _ _ _ h4⟩

set_option maxRecDepth 100000 in
set_option maxHeartbeats 4000000 in
theorem tells_in (n : Nat) (p q : Int) (v : Value) (l : List UInt8) (w : World) (hn : n ≤ 18446744073709551615) (hq : q ≤ 9223372036854775807) (hrd : Rd w v l) (hl : l.length ≤ 500) :
    Calls Try.prog 4 #[.int .u64 n, v, .int .i64 p, .int .i64 q] w fun e w' => e = .returned (.bool true) ∧ Below w.heap.size w w' := by
  obtain ⟨ao, cap, hv, -⟩ := id hrd
  subst hv
  have hT := run_toStr
  have HN : Hid _ := hn
  have HQ : Hid _ := hq
  have HRD : Hid _ := hrd
  clear hn hq hrd
  obtain ⟨R, HR⟩ := named (getU l p)
  obtain ⟨G, HG⟩ := named (getB l p q)
  obtain ⟨Un, HUN⟩ := named (unsealL l)
  obtain ⟨X, HX⟩ := named (crc l).toNat
  obtain ⟨Z, HZ⟩ := named (l ++ be4 (crc l))
  have hl' : ¬ (500 : Int) < l.length := by omega
  have HL : Hid _ := hl
  go_enter Try.func4, Try.ntmps4
  go_wp2_with fail
  refine (copyBytes_any _ l _ HRD.out (by have := HL.out; omega)).mono ?_
  rintro e w1 ⟨v1, rfl, hown1, hb1⟩
  have hrb1 : Rd w1 (.slice ao l.length cap) l := Rd.below (show Rd _ _ _ from HRD.out) hb1
  obtain ⟨a1, c1, hv1, -⟩ := id hown1.rd
  subst hv1
  have HI1 : Hid (Rd w1 (.slice a1 l.length c1) l) := hown1.rd
  have HRB1 : Hid _ := hrb1
  have HB1 : Hid _ := hb1
  clear hrb1 hb1 hown1
  go_wp2_with fail
  refine (getUint_any _ l p _ HI1.out (by have := HL.out; omega)).mono ?_
  rintro e w2 ⟨rfl, hw⟩
  subst hw
  rw [← HR.out]
  go_wp2_with fail
  refine (refGetUint_any _ l p _ HRB1.out (by have := HL.out; omega)).mono ?_
  rintro e w2 ⟨rfl, hw⟩
  subst hw
  rw [← HR.out]
  go_wp2_with fail
  refine (getInt_any _ l p _ HI1.out (by have := HL.out; omega)).mono ?_
  rintro e w2 ⟨rfl, hw⟩
  subst hw
  rw [← HR.out]
  go_wp2_with fail
  refine (refGetInt_any _ l p _ HRB1.out (by have := HL.out; omega)).mono ?_
  rintro e w2 ⟨rfl, hw⟩
  subst hw
  rw [← HR.out]
  go_wp2_with fail
  refine (getBlob_any _ l p q _ HI1.out (by have := HL.out; omega) HQ.out).mono ?_
  rintro e w2 ⟨s1, rfl, hown2, hb2⟩
  rw [← HG.out] at hown2
  rw [← HG.out]
  obtain ⟨b1, d1, hv2, -⟩ := id hown2.rd
  subst hv2
  have HO2 : Hid (Rd w2 (.slice b1 G.1.length d1) G.1) := hown2.rd
  have HB2 : Hid (Below w.heap.size w w2) := below_call HB1.out hb2
  have HI2 : Hid (Rd w2 (.slice a1 l.length c1) l) := Rd.below (show Rd _ _ _ from HI1.out) hb2
  have HRB2 : Hid (Rd w2 (.slice ao l.length cap) l) := Rd.below (show Rd _ _ _ from HRB1.out) hb2
  clear hown2 hb2 HI1 HRB1 HB1
  go_wp2_with fail
  refine (refGetBlob_any _ l p q _ HRB2.out (by have := HL.out; omega) HQ.out).mono ?_
  rintro e w3 ⟨s2, rfl, hown3, hb3⟩
  rw [← HG.out] at hown3
  rw [← HG.out]
  obtain ⟨b2, d2, hv3, -⟩ := id hown3.rd
  subst hv3
  have HP3 : Hid (Rd w3 (.slice b2 G.1.length d2) G.1) := hown3.rd
  have HO3 : Hid (Rd w3 (.slice b1 G.1.length d1) G.1) := Rd.below (show Rd _ _ _ from HO2.out) hb3
  have HB3 : Hid (Below w.heap.size w w3) := below_call HB2.out hb3
  have HI3 : Hid (Rd w3 (.slice a1 l.length c1) l) := Rd.below (show Rd _ _ _ from HI2.out) hb3
  have HRB3 : Hid (Rd w3 (.slice ao l.length cap) l) := Rd.below (show Rd _ _ _ from HRB2.out) hb3
  clear hown3 hb3 HI2 HRB2 HB2 HO2
  go_wp2_with fail
  refine (unseal_any _ l _ HI3.out (by have := HL.out; omega)).mono ?_
  rintro e w4 ⟨s3, rfl, hown4, hb4⟩
  rw [← HUN.out] at hown4
  rw [← HUN.out]
  obtain ⟨b3, d3, hv4, -⟩ := id hown4.rd
  subst hv4
  have HQ4 : Hid (Rd w4 (.slice b3 Un.1.length d3) Un.1) := hown4.rd
  have HP4 : Hid (Rd w4 (.slice b2 G.1.length d2) G.1) := Rd.below (show Rd _ _ _ from HP3.out) hb4
  have HO4 : Hid (Rd w4 (.slice b1 G.1.length d1) G.1) := Rd.below (show Rd _ _ _ from HO3.out) hb4
  have HB4 : Hid (Below w.heap.size w w4) := below_call HB3.out hb4
  have HI4 : Hid (Rd w4 (.slice a1 l.length c1) l) := Rd.below (show Rd _ _ _ from HI3.out) hb4
  have HRB4 : Hid (Rd w4 (.slice ao l.length cap) l) := Rd.below (show Rd _ _ _ from HRB3.out) hb4
  clear hown4 hb4 HI3 HRB3 HB3 HO3 HP3
  go_wp2_with fail
  refine (refUnseal_any _ l _ HRB4.out (by have := HL.out; omega)).mono ?_
  rintro e w5 ⟨s4, rfl, hown5, hb5⟩
  rw [← HUN.out] at hown5
  rw [← HUN.out]
  obtain ⟨b4, d4, hv5, -⟩ := id hown5.rd
  subst hv5
  have HR5 : Hid (Rd w5 (.slice b4 Un.1.length d4) Un.1) := hown5.rd
  have HQ5 : Hid (Rd w5 (.slice b3 Un.1.length d3) Un.1) := Rd.below (show Rd _ _ _ from HQ4.out) hb5
  have HP5 : Hid (Rd w5 (.slice b2 G.1.length d2) G.1) := Rd.below (show Rd _ _ _ from HP4.out) hb5
  have HO5 : Hid (Rd w5 (.slice b1 G.1.length d1) G.1) := Rd.below (show Rd _ _ _ from HO4.out) hb5
  have HB5 : Hid (Below w.heap.size w w5) := below_call HB4.out hb5
  have HI5 : Hid (Rd w5 (.slice a1 l.length c1) l) := Rd.below (show Rd _ _ _ from HI4.out) hb5
  have HRB5 : Hid (Rd w5 (.slice ao l.length cap) l) := Rd.below (show Rd _ _ _ from HRB4.out) hb5
  clear hown5 hb5 HI4 HRB4 HB4 HO4 HP4 HQ4
  go_upto_region 16 with fail
  go_cut [155] from 113 to 155 (fun c wx => c = .bool false ∧ Hid (Rd wx (.slice a1 l.length c1) l) ∧ Hid (Rd wx (.slice ao l.length cap) l) ∧ Hid (Below w.heap.size w wx))
  case first =>
    have HS0 : Hid _ := four (Rd.drew (show Rd _ _ _ from HO5.out)) (Rd.drew (show Rd _ _ _ from HP5.out)) (Rd.drew (show Rd _ _ _ from HQ5.out)) (Rd.drew (show Rd _ _ _ from HR5.out))
    have hs0 := HS0.out
    go_region_held (fun w' => Sem.run Try.prog (toStr (.slice b1 G.1.length d1)) w' = .ok (.string ⟨G.1.toArray⟩) w' ∧ Sem.run Try.prog (toStr (.slice b2 G.1.length d2)) w' = .ok (.string ⟨G.1.toArray⟩) w' ∧ Sem.run Try.prog (toStr (.slice b3 Un.1.length d3)) w' = .ok (.string ⟨Un.1.toArray⟩) w' ∧ Sem.run Try.prog (toStr (.slice b4 Un.1.length d4)) w' = .ok (.string ⟨Un.1.toArray⟩) w') (first | exact hs3 | exact hs2 | exact hs1 | exact hs0)
      (first
        | (go_at_call 17; refine (crc_any _ l _ (Rd.drew (show Rd _ _ _ from HI5.out))).mono ?_; rintro e w6 ⟨rfl, hw⟩; subst hw; rw [← HX.out])
        | (go_at_call 26; refine (refCrc_any _ l _ (Rd.drew (show Rd _ _ _ from HRB5.out)) ?_).mono ?_; (have := HL.out; omega); rintro e w6 ⟨rfl, hb6⟩; rw [← HX.out]; have HB6 : Hid _ := hb6; clear hb6; have hs1 := four (Rd.below (Rd.drew (show Rd _ _ _ from HO5.out)) HB6.out) (Rd.below (Rd.drew (show Rd _ _ _ from HP5.out)) HB6.out) (Rd.below (Rd.drew (show Rd _ _ _ from HQ5.out)) HB6.out) (Rd.below (Rd.drew (show Rd _ _ _ from HR5.out)) HB6.out))
        | (go_at_call 16; refine (seal_any _ l _ (Rd.below (Rd.drew (show Rd _ _ _ from HI5.out)) HB6.out) ?_).mono ?_; (have := HL.out; omega); rintro e w7 ⟨v7, rfl, hown7, hb7⟩; rw [← HZ.out] at hown7; have HB7 : Hid _ := hb7; clear hb7; have HO7 : Hid _ := hown7.rd; have hs2 := four (Rd.below (Rd.below (Rd.drew (show Rd _ _ _ from HO5.out)) HB6.out) HB7.out) (Rd.below (Rd.below (Rd.drew (show Rd _ _ _ from HP5.out)) HB6.out) HB7.out) (Rd.below (Rd.below (Rd.drew (show Rd _ _ _ from HQ5.out)) HB6.out) HB7.out) (Rd.below (Rd.below (Rd.drew (show Rd _ _ _ from HR5.out)) HB6.out) HB7.out); have hz7 := run_str w7 _ Z hown7.rd; obtain ⟨a7, c7, hv7, -⟩ := id hown7.rd; subst hv7; clear hown7)
        | (go_at_call 27; refine (refSeal_any _ l _ (Rd.below (Rd.below (Rd.drew (show Rd _ _ _ from HRB5.out)) HB6.out) HB7.out) ?_).mono ?_; (have := HL.out; omega); rintro e w8 ⟨v8, rfl, hown8, hb8⟩; rw [← HZ.out] at hown8; have HB8 : Hid _ := hb8; clear hb8; have hs3 := four (Rd.below (Rd.below (Rd.below (Rd.drew (show Rd _ _ _ from HO5.out)) HB6.out) HB7.out) HB8.out) (Rd.below (Rd.below (Rd.below (Rd.drew (show Rd _ _ _ from HP5.out)) HB6.out) HB7.out) HB8.out) (Rd.below (Rd.below (Rd.below (Rd.drew (show Rd _ _ _ from HQ5.out)) HB6.out) HB7.out) HB8.out) (Rd.below (Rd.below (Rd.below (Rd.drew (show Rd _ _ _ from HR5.out)) HB6.out) HB7.out) HB8.out); have hz8 := run_str w8 _ Z (Rd.below (show Rd _ _ _ from HO7.out) HB8.out); have hz9 := run_str w8 _ Z hown8.rd; obtain ⟨a8, c8, hv8, -⟩ := id hown8.rd; subst hv8; clear hown8))
    all_goals
      go_wp2_with fail
      go_meet
      exact ⟨rfl, Rd.below (Rd.below (Rd.below (Rd.drew (show Rd _ _ _ from HI5.out)) HB6.out) HB7.out) HB8.out, Rd.below (Rd.below (Rd.below (Rd.drew (show Rd _ _ _ from HRB5.out)) HB6.out) HB7.out) HB8.out, below_call (below_call (below_call (Below.drew (show Below _ _ _ from HB5.out)) HB6.out) HB7.out) HB8.out⟩
  case rest =>
    obtain ⟨rfl, HI8, HRB8, HB8⟩ := hcut
    clear HO5 HP5 HQ5 HR5 HB5 HI5 HRB5 HR HG HUN HX HZ
    obtain ⟨I, HII⟩ := named (IntKind.i64.wrap (n : Int))
    have hI : IntKind.i64.wrap (n : Int) = I := HII.out.symm
    have HIB : Hid (-9223372036854775808 ≤ I ∧ I ≤ 9223372036854775807) := by
      rw [HII.out, IntKind.wrap_i64]
      exact ⟨by omega, by omega⟩
    obtain ⟨t1, HT1⟩ := named (l ++ U (n : Int))
    obtain ⟨t2, HT2⟩ := named (U (foldI I))
    obtain ⟨t3, HT3⟩ := named (U (l.length : Int) ++ l)
    go_wp2_with fail
    refine (uint_any _ l n _ (by omega) (by have := HN.out; omega) HI8.out (by have := HL.out; omega)).mono ?_
    rintro e w9 ⟨v9, rfl, hown9, hb9⟩
    rw [← HT1.out] at hown9
    obtain ⟨a9, c9, hv9, -⟩ := id hown9.rd
    subst hv9
    have HO9 : Hid (Rd w9 (.slice a9 t1.length c9) t1) := hown9.rd
    have HB9 : Hid (Below w.heap.size w w9) := below_call HB8.out hb9
    have HI9 : Hid (Rd w9 (.slice a1 l.length c1) l) := Rd.below (show Rd _ _ _ from HI8.out) hb9
    have HRB9 : Hid (Rd w9 (.slice ao l.length cap) l) := Rd.below (show Rd _ _ _ from HRB8.out) hb9
    clear hown9 hb9 HI8 HRB8 HB8
    go_wp2_with fail
    refine (int_any _ [] I _ HIB.out.1 HIB.out.2 (Rd.nil _) (by simp)).mono ?_
    rintro e w10 ⟨v10, rfl, hown10, hb10⟩
    rw [List.nil_append, ← HT2.out] at hown10
    obtain ⟨a10, c10, hv10, -⟩ := id hown10.rd
    subst hv10
    have HP10 : Hid (Rd w10 (.slice a10 t2.length c10) t2) := hown10.rd
    have HO10 : Hid (Rd w10 (.slice a9 t1.length c9) t1) := Rd.below (show Rd _ _ _ from HO9.out) hb10
    have HB10 : Hid (Below w.heap.size w w10) := below_call HB9.out hb10
    have HI10 : Hid (Rd w10 (.slice a1 l.length c1) l) := Rd.below (show Rd _ _ _ from HI9.out) hb10
    have HRB10 : Hid (Rd w10 (.slice ao l.length cap) l) := Rd.below (show Rd _ _ _ from HRB9.out) hb10
    clear hown10 hb10 HI9 HRB9 HB9 HO9
    go_wp2_with fail
    refine (blob_any _ _ [] l _ (Rd.nil _) HI10.out (by have := HL.out; simp; omega)).mono ?_
    rintro e w11 ⟨v11, rfl, hown11, hb11⟩
    rw [List.nil_append, ← HT3.out] at hown11
    obtain ⟨a11, c11, hv11, -⟩ := id hown11.rd
    subst hv11
    have HQ11 : Hid (Rd w11 (.slice a11 t3.length c11) t3) := hown11.rd
    have HP11 : Hid (Rd w11 (.slice a10 t2.length c10) t2) := Rd.below (show Rd _ _ _ from HP10.out) hb11
    have HO11 : Hid (Rd w11 (.slice a9 t1.length c9) t1) := Rd.below (show Rd _ _ _ from HO10.out) hb11
    have HB11 : Hid (Below w.heap.size w w11) := below_call HB10.out hb11
    have HI11 : Hid (Rd w11 (.slice a1 l.length c1) l) := Rd.below (show Rd _ _ _ from HI10.out) hb11
    have HRB11 : Hid (Rd w11 (.slice ao l.length cap) l) := Rd.below (show Rd _ _ _ from HRB10.out) hb11
    clear hown11 hb11 HI10 HRB10 HB10 HO10 HP10
    go_wp2_with fail
    have hs0 := five (Rd.drew (show Rd _ _ _ from HO11.out)) (Rd.drew (show Rd _ _ _ from HP11.out)) (Rd.drew (show Rd _ _ _ from HQ11.out)) (Rd.drew (show Rd _ _ _ from HI11.out)) (Rd.drew (show Rd _ _ _ from HRB11.out))
    go_region_held (fun w' => Sem.run Try.prog (toStr (.slice a9 t1.length c9)) w' = .ok (.string ⟨t1.toArray⟩) w' ∧ Sem.run Try.prog (toStr (.slice a10 t2.length c10)) w' = .ok (.string ⟨t2.toArray⟩) w' ∧ Sem.run Try.prog (toStr (.slice a11 t3.length c11)) w' = .ok (.string ⟨t3.toArray⟩) w' ∧ Sem.run Try.prog (toStr (.slice a1 l.length c1)) w' = .ok (.string ⟨l.toArray⟩) w' ∧ Sem.run Try.prog (toStr (.slice ao l.length cap)) w' = .ok (.string ⟨l.toArray⟩) w') (first | exact hs4 | exact hs3 | exact hs2 | exact hs1 | exact hs0)
      (first
        | (go_at_call 30; refine (refUint_any _ l n _ HN.out (Rd.drew (show Rd _ _ _ from HRB11.out)) ?_).mono ?_; (have := HL.out; omega); rintro e w12 ⟨v12, rfl, hown12, hb12⟩; rw [← HT1.out] at hown12; have HB12 : Hid _ := hb12; clear hb12; have hs1 := five (Rd.below (Rd.drew (show Rd _ _ _ from HO11.out)) HB12.out) (Rd.below (Rd.drew (show Rd _ _ _ from HP11.out)) HB12.out) (Rd.below (Rd.drew (show Rd _ _ _ from HQ11.out)) HB12.out) (Rd.below (Rd.drew (show Rd _ _ _ from HI11.out)) HB12.out) (Rd.below (Rd.drew (show Rd _ _ _ from HRB11.out)) HB12.out); have hz1 := run_str w12 _ t1 hown12.rd; have HO12 : Hid _ := hown12.rd; obtain ⟨a12, c12, hv12, -⟩ := id hown12.rd; subst hv12; clear hown12)
        | (go_at_call 31; refine (refInt_any _ [] I _ HIB.out.1 HIB.out.2 (Rd.nil _) ?_).mono ?_; simp; rintro e w13 ⟨v13, rfl, hown13, hb13⟩; rw [List.nil_append, ← HT2.out] at hown13; have HB13 : Hid _ := hb13; clear hb13; have hs2 := five (Rd.below (Rd.below (Rd.drew (show Rd _ _ _ from HO11.out)) HB12.out) HB13.out) (Rd.below (Rd.below (Rd.drew (show Rd _ _ _ from HP11.out)) HB12.out) HB13.out) (Rd.below (Rd.below (Rd.drew (show Rd _ _ _ from HQ11.out)) HB12.out) HB13.out) (Rd.below (Rd.below (Rd.drew (show Rd _ _ _ from HI11.out)) HB12.out) HB13.out) (Rd.below (Rd.below (Rd.drew (show Rd _ _ _ from HRB11.out)) HB12.out) HB13.out); have hz2 := run_str w13 _ t2 hown13.rd; obtain ⟨a13, c13, hv13, -⟩ := id hown13.rd; subst hv13; clear hown13)
        | (go_at_call 32; refine (refBlob_any _ _ [] l _ (Rd.nil _) (Rd.below (Rd.below (Rd.drew (show Rd _ _ _ from HRB11.out)) HB12.out) HB13.out) ?_).mono ?_; (have := HL.out; simp; omega); rintro e w14 ⟨v14, rfl, hown14, hb14⟩; rw [List.nil_append, ← HT3.out] at hown14; have HB14 : Hid _ := hb14; clear hb14; have hs3 := five (Rd.below (Rd.below (Rd.below (Rd.drew (show Rd _ _ _ from HO11.out)) HB12.out) HB13.out) HB14.out) (Rd.below (Rd.below (Rd.below (Rd.drew (show Rd _ _ _ from HP11.out)) HB12.out) HB13.out) HB14.out) (Rd.below (Rd.below (Rd.below (Rd.drew (show Rd _ _ _ from HQ11.out)) HB12.out) HB13.out) HB14.out) (Rd.below (Rd.below (Rd.below (Rd.drew (show Rd _ _ _ from HI11.out)) HB12.out) HB13.out) HB14.out) (Rd.below (Rd.below (Rd.below (Rd.drew (show Rd _ _ _ from HRB11.out)) HB12.out) HB13.out) HB14.out); have hz3 := run_str w14 _ t3 hown14.rd; obtain ⟨a14, c14, hv14, -⟩ := id hown14.rd; subst hv14; clear hown14)
        | (go_at_call 18; refine (awake_true _).mono ?_; rintro e w15 ⟨rfl, hb15⟩; have HB15 : Hid _ := hb15; clear hb15; have hs4 := five (Rd.below (Rd.below (Rd.below (Rd.below (Rd.drew (show Rd _ _ _ from HO11.out)) HB12.out) HB13.out) HB14.out) HB15.out) (Rd.below (Rd.below (Rd.below (Rd.below (Rd.drew (show Rd _ _ _ from HP11.out)) HB12.out) HB13.out) HB14.out) HB15.out) (Rd.below (Rd.below (Rd.below (Rd.below (Rd.drew (show Rd _ _ _ from HQ11.out)) HB12.out) HB13.out) HB14.out) HB15.out) (Rd.below (Rd.below (Rd.below (Rd.below (Rd.drew (show Rd _ _ _ from HI11.out)) HB12.out) HB13.out) HB14.out) HB15.out) (Rd.below (Rd.below (Rd.below (Rd.below (Rd.drew (show Rd _ _ _ from HRB11.out)) HB12.out) HB13.out) HB14.out) HB15.out)))
    all_goals
      go_wp2
      go_ret
      exact ⟨rfl, below_call (below_call (below_call (below_call (Below.drew (show Below _ _ _ from HB11.out)) HB12.out) HB13.out) HB14.out) HB15.out⟩

theorem tells_walk (n : Nat) (p q : Int) (v : Value) (l : List UInt8) (w : World) (hn : n ≤ 18446744073709551615) (hq : q ≤ 9223372036854775807) (hrd : Rd w v l) :
    Calls Try.prog 4 #[.int .u64 n, v, .int .i64 p, .int .i64 q] w fun e w' => e = .returned (.bool true) ∧ Below w.heap.size w w' := by
  by_cases hl : 500 < l.length
  · exact tells_off n p q v l w hrd hl
  · exact tells_in n p q v l w hn hq hrd (by omega)
end Go.Proofs.Ytgeljaliddedfaa
