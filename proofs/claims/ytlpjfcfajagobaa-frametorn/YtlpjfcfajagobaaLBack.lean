/-
  The law FrameBack answers true, whatever the bodies and bytes: what is put is got; the frame of what is got is these bytes. No condition.
-/
import Derived.Test.YtlpjfcfajagobaaFm
import Derived.Test.YtlpjfcfajagobaaFd
namespace Go.Proofs.Ytlpjfcfajagobaa
open Go.RowKit

theorem kept_mem {ps : List (Value × List UInt8)} {k i : Nat} (h : i < (kept ps k).length) : (0 < (kept ps k)[i].2.length ∧ (kept ps k)[i].2.length ≤ 200) ∧ ∃ j, ∃ hj : j < ps.length, ps[j] = (kept ps k)[i] := by
  have hm : (kept ps k)[i] ∈ kept ps k := List.getElem_mem h
  generalize (kept ps k)[i] = p at hm
  unfold kept at hm
  obtain ⟨h1, h2⟩ := List.mem_filter.1 hm
  simp only [counts, decide_eq_true_eq] at h2
  obtain ⟨j, hj, e⟩ := List.mem_iff_getElem.1 (List.mem_of_mem_take h1)
  exact ⟨h2, j, hj, e⟩
theorem kept_rd {w : World} {v : Value} {ps : List (Value × List UInt8)} {k i : Nat} (h : RdL w v ps) (hi : i < (kept ps k).length) : Rd w (kept ps k)[i].1 (kept ps k)[i].2 := by
  obtain ⟨-, j, hj, e⟩ := kept_mem hi
  rw [← e]
  exact h.2 j hj
theorem framesL_take (bs : List (List UInt8)) (i : Nat) (h : i < bs.length) : framesL (bs.take (i + 1)) = framesL (bs.take i) ++ frameL bs[i] := by
  rw [List.take_succ_eq_append_getElem h, framesL_snoc]
theorem framesL_split (bs : List (List UInt8)) (i : Nat) (h : i < bs.length) : framesL bs = framesL (bs.take i) ++ (frameL bs[i] ++ framesL (bs.drop (i + 1))) := by
  have e : bs = bs.take i ++ (bs[i] :: bs.drop (i + 1)) := by
    conv => lhs; rw [← List.take_append_drop i bs]
    rw [List.drop_eq_getElem_cons h]
  conv => lhs; rw [e]
  simp only [framesL, List.map_append, List.flatten_append, List.map_cons, List.flatten_cons]
theorem frames_at (A B : List UInt8) (bs : List (List UInt8)) (i : Nat) (h : i < bs.length) (h0 : 0 < bs[i].length) (h1 : bs[i].length ≤ 1048576) :
    getF (A ++ (framesL bs ++ B)) ((A.length + (framesL (bs.take i)).length : Nat) : Int) = (bs[i], A.length + (framesL (bs.take (i + 1))).length, 0) := by
  have hg := getF_frame bs[i] (A ++ framesL (bs.take i)) (framesL (bs.drop (i + 1)) ++ B) h0 h1
  have e : (A ++ framesL (bs.take i)) ++ (frameL bs[i] ++ (framesL (bs.drop (i + 1)) ++ B)) = A ++ (framesL bs ++ B) := by
    rw [framesL_split bs i h]
    simp
  rw [e, List.length_append] at hg
  rw [hg, framesL_take bs i h, List.length_append]
  simp
  omega
theorem Own.lt {w : World} {base : Nat} {v : Value} {l : List UInt8} (h : Own w base v l) : ∀ k, v.ownBlock = some k → base ≤ k := fun k hk => (World.ownsRow.lt h k hk).1

set_option maxRecDepth 100000 in
set_option maxHeartbeats 800000 in
theorem back_off (vl va vh vb : Value) (ps : List (Value × List UInt8)) (a h b : List UInt8) (w : World) (hrl : RdL w vl ps) (hra : Rd w va a) (hrh : Rd w vh h) (hrb : Rd w vb b) (hbad : 300 < a.length ∨ 300 < h.length ∨ 1000 < b.length) :
    Calls Try.prog 6 #[vl, va, vh, vb] w fun e w' => e = .returned (.bool true) ∧ Below w.heap.size w w' := by
  obtain ⟨⟨lo, lc, rfl, -⟩, -⟩ := hrl
  obtain ⟨ao, ac, rfl, -⟩ := hra
  obtain ⟨ho, hc, rfl, -⟩ := hrh
  obtain ⟨bo, bc, rfl, -⟩ := hrb
  have hb' : (300 : Int) < a.length ∨ (¬ (300 : Int) < a.length ∧ (300 : Int) < h.length) ∨ (¬ (300 : Int) < a.length ∧ ¬ (300 : Int) < h.length ∧ (1000 : Int) < b.length) := by omega
  clear hbad
  rcases hb' with h1 | ⟨h1, h2⟩ | ⟨h1, h2, h3⟩
  all_goals
    go_enter Try.func6, Try.ntmps6
    go_wp2_with fail
    refine (awake_true _).mono ?_
    rintro e w7 ⟨rfl, hb7⟩
    go_wp2
    go_ret
    exact ⟨rfl, hb7⟩

set_option maxRecDepth 100000 in
set_option maxHeartbeats 1600000 in
theorem back_in (vl va vh vb : Value) (ps : List (Value × List UInt8)) (a h b : List UInt8) (w : World) (hrl : RdL w vl ps) (hra : Rd w va a) (hrh : Rd w vh h) (hrb : Rd w vb b) (ha3 : a.length ≤ 300) (hh3 : h.length ≤ 300) (hb3 : b.length ≤ 1000) :
    Calls Try.prog 6 #[vl, va, vh, vb] w fun e w' => e = .returned (.bool true) ∧ Below w.heap.size w w' := by
  obtain ⟨i0, hi, hz0, hz1, hz2⟩ := info_parts Try.info5
  have hfr := framed_any vl ps w hrl
  have hks := fun i hi => kept_rd (k := 20) (i := i) hrl hi
  have hkm := fun i hi => (kept_mem (ps := ps) (k := 20) (i := i) hi).1
  have hkl := kept_len ps 20
  have hfle := frames_le ps 20
  obtain ⟨lo, lc, hv, -⟩ := id hrl.1
  obtain ⟨ln, HLN⟩ := named (ps.map Prod.fst).length
  rw [← HLN.out] at hv
  subst hv
  obtain ⟨ao, ac, hv, -⟩ := id hra
  subst hv
  obtain ⟨ho, hc, hv, -⟩ := id hrh
  subst hv
  obtain ⟨bo, bc, hv, hbc, hbm, -⟩ := id hrb
  subst hv
  obtain ⟨ks, HKS⟩ := named (kept ps 20)
  rw [← HKS.out] at hkl hfle
  simp only [← HKS.out] at hfr hks hkm
  obtain ⟨F, HF⟩ := named (framesL (ks.map Prod.snd))
  rw [← HF.out] at hfle hfr
  have h1' : ¬ (300 : Int) < a.length := by omega
  have h2' : ¬ (300 : Int) < h.length := by omega
  have h3' : ¬ (1000 : Int) < b.length := by omega
  have HKR : Hid _ := hks
  have HKM : Hid _ := hkm
  unfold maxLen at hbm
  have hFl : F.length ≤ 4300 := by omega
  clear hks hkm hrl
  go_enter Try.func6, Try.ntmps6
  go_wp2_with fail
  refine hfr.mono ?_
  rintro e w1 ⟨vf, vk, ve, rfl, hof, hok, -, hb1⟩
  have hra1 := hra.below hb1
  have hrh1 := hrh.below hb1
  have hrb1 := hrb.below hb1
  obtain ⟨fo, fc, hvf, -⟩ := id hof.rd
  subst hvf
  obtain ⟨ko, kc, hvk, hkc, hkm2, -⟩ := id hok.rd
  rw [List.length_map] at hvk hkc
  subst hvk
  have hrf := hof.rd
  clear hfr hof
  go_wp2_with fail
  refine (copyBytes_any _ a _ hra1 (by omega)).mono ?_
  rintro e w2 ⟨v2, rfl, hown2, hb2⟩
  have hrf2 := hrf.below hb2
  have hrh2 := hrh1.below hb2
  have hsz2 := hb2.size
  have hl1 : a.length + F.length ≤ 140737488355328 := by omega
  have hl2 : (a ++ F).length + h.length ≤ 140737488355328 := by rw [List.length_append]; omega
  have HL1 : Hid _ := hl1
  have HL2 : Hid _ := hl2
  clear hl1 hl2
  go_wp2_with (at_builtin; go_must (refine wpList_append_rd _ rfl (.tmp 48) (.tmp 49) 22 rfl i0 Try.underlying22 hi hz0 hz1 hz2 w1.heap.size _ _ rfl rfl a F hown2 hrf2 HL1.out hsz2 ?_))
  intro v3 w3 hown3 hg3
  have hb3' : Below w1.heap.size w1 w3 := hb2.grown hg3 hsz2 hown2.lt
  have hrh3 := hrh1.below hb3'
  have hsz3 := hb3'.size
  clear hg3 hown2 hrf2 hrh2 hb2
  obtain ⟨aF, HAF⟩ := named (a ++ F)
  rw [← HAF.out] at hown3 HL2
  go_wp2_with (at_builtin; go_must (refine wpList_append_rd _ rfl (.tmp 50) (.tmp 51) 22 rfl i0 Try.underlying22 hi hz0 hz1 hz2 w1.heap.size _ _ rfl rfl aF h hown3 hrh3 HL2.out hsz3 ?_))
  intro v4 w4 hown4 hg4
  have hb4 : Below w1.heap.size w1 w4 := hb3'.grown hg4 hsz3 hown3.lt
  have hB4 := below_call hb1 hb4
  have hr4 := hown4.rd
  have hall : aF ++ h = a ++ (framesL (ks.map Prod.snd) ++ h) := by rw [HAF.out, HF.out]; simp
  have hat := fun i => frames_at a h (ks.map Prod.snd) i
  rw [← hall] at hat
  have hALl : (aF ++ h).length = a.length + F.length + h.length := by rw [HAF.out]; simp only [List.length_append]
  obtain ⟨AL, HAL⟩ := named (aF ++ h)
  rw [← HAL.out] at hat hr4 hALl
  have HAT : Hid _ := hat
  have HALL : Hid _ := hALl
  obtain ⟨a4, c4, hv4, -⟩ := id hr4
  obtain ⟨al, HALN⟩ := named AL.length
  rw [← HALN.out] at hv4
  subst hv4
  have hok4 := hok.below hb4
  have hrb4 := hrb1.below hb4
  have hkr4 : ∀ i (hi : i < ks.length), Rd w4 ks[i].1 ks[i].2 := fun i hi => (HKR.out i hi).below hB4
  have HKR4 : Hid _ := hkr4
  clear hg4 hown3 hown4 hrh3 hb3' hall hat hALl hkr4 hok hrb1 hrh1 hra1 hra hrh hrb HKR hrf
  go_wp2
  obtain ⟨kn, HKN⟩ := named ks.length
  rw [← HKN.out] at hkl hkc ⊢
  unfold maxLen at hkm2
  go_loopw [14, 15] (fun av iv wr => ∃ k p : Nat, k ≤ kn ∧ iv = .int .i64 k ∧ av = .int .i64 p ∧ p = a.length + (framesL ((ks.map Prod.snd).take k)).length ∧ Below w4.heap.size w4 wr) (fun _ iv _ => kn - (intOf iv).toNat)
  case atStart => exact ⟨0, a.length, by omega, rfl, rfl, by simp [framesL], Below.refl _ _⟩
  case round =>
    obtain ⟨k, p, hk, rfl, rfl, hp, hb⟩ := hrel
    have HPP : Hid _ := hp
    clear hp
    have hr5 := hr4.below hb
    have hB5 := below_call hB4 hb
    by_cases hlt : k < kn
    · have hlt' : (k : Int) < kn := by omega
      have hkl' : k < ks.length := by rw [← HKN.out]; exact hlt
      have hkm' : k < (ks.map Prod.snd).length := by rw [List.length_map]; exact hkl'
      have hg := HAT.out k hkm' (by rw [List.getElem_map]; have := HKM.out k hkl'; omega) (by rw [List.getElem_map]; have := HKM.out k hkl'; omega)
      rw [← HPP.out, List.getElem_map] at hg
      have hget := get_any _ AL p wr hr5 (by have := HALL.out; omega)
      rw [hg] at hget
      simp only at hget
      obtain ⟨b0, off, c0, hv0, -, -, hb0, hcs⟩ := hok4.rd.cells (by rw [List.length_map]; omega)
      rw [List.length_map, ← HKN.out] at hv0
      cases hv0
      have hck := (hb.cell (p := ⟨b0, off + k, none⟩) hb0).trans (hcs k (by rw [List.length_map]; exact hkl'))
      rw [List.getElem_map] at hck
      have hrk := (HKR4.out k hkl').below hb
      obtain ⟨pr, HPR⟩ := named (ks[k]'hkl')
      rw [← HPR.out] at hck hrk hget
      obtain ⟨pv, pl⟩ := pr
      simp only at hck hrk hget
      obtain ⟨a7, c7, hpv, -⟩ := id hrk
      subst hpv
      obtain ⟨q, HQ⟩ := named (a.length + (framesL ((ks.map Prod.snd).take (k + 1))).length)
      rw [← HQ.out] at hget
      clear hcs hg
      go_wp2_with fail
      refine hget.mono ?_
      rintro e w6 ⟨v6, rfl, hown6, hb6⟩
      have hck6 := (hb6.cell (p := ⟨b0, off + k, none⟩) (by have := hb.size; show b0 < _; omega)).trans hck
      have hrk6 := hrk.below hb6
      have hr6 := hown6.rd
      obtain ⟨a6, c6, hv6, -⟩ := id hr6
      subst hv6
      clear hget hck hrk hown6
      go_wp2_with fail
      refine (same_any _ _ pl pl _ hr6 hrk6).mono ?_
      rintro e w7 ⟨rfl, hw7⟩
      subst hw7
      rw [decide_eq_true rfl]
      go_wp2
      go_roundw
      case rel => exact ⟨k + 1, q, by omega, by go_num, rfl, HQ.out, below_call hb hb6⟩
      case measure => simp [intOf]; omega
    · have hkn : k = kn := by omega
      have hpe : p = a.length + F.length := by
        rw [HPP.out, HF.out, List.take_of_length_le (by rw [List.length_map, ← HKN.out]; omega)]
      have hpe' : ((p : Int) != (a.length : Int) + F.length) = false := by
        simp only [bne_eq_false_iff_eq]
        omega
      have hrb5 := hrb4.below hb
      have hget := get_any _ b 0 wr hrb5 (by omega)
      have hinv := getF_inv b
      obtain ⟨G, HG⟩ := named (getF b 0)
      rw [← HG.out] at hget hinv
      obtain ⟨gx, gn, ge⟩ := G
      simp only at hget hinv
      clear hpe hkn
      go_wp2_with fail
      refine hget.mono ?_
      rintro e w6 ⟨v6, rfl, hown6, hb6⟩
      have hB6 := below_call hB5 hb6
      clear hget
      by_cases hge : ge = 0
      · subst hge
        obtain ⟨g0, g1, g2, g3⟩ := hinv rfl
        have hput := put_any (.slice none 0 0) v6 [] gx w6 (Rd.nil _) hown6.rd (by decide)
        rw [show putL [] gx = (frameL gx, 0) from putL_ok [] gx g0 g1] at hput
        rw [← g3] at hput
        have hrb6 := hrb5.below hb6
        have hcut : Rd w6 (.slice bo gn bc) (b.take gn) := hrb6.take gn g2
        obtain ⟨bt, HBT⟩ := named (b.take gn)
        rw [← HBT.out] at hput hcut
        have g2' : ¬ (b.length : Int) < gn := by omega
        have g2c : (gn : Int) ≤ (bc : Int) := by omega
        simp only at hput
        obtain ⟨a6, c6, hv6, -⟩ := id hown6.rd
        subst hv6
        clear hinv hown6 hrb5 hrb6 g3
        go_wp2_with fail
        refine hput.mono ?_
        rintro e w7 ⟨v7, rfl, hown7, hb7⟩
        have hcut7 := hcut.below hb7
        have hB7 := below_call hB6 hb7
        have hr7 := hown7.rd
        obtain ⟨a7, c7, hv7, -⟩ := id hr7
        subst hv7
        clear hput hcut hown7
        go_wp2_with fail
        refine (same_any _ _ bt bt _ hr7 hcut7).mono ?_
        rintro e w8 ⟨rfl, hw8⟩
        subst hw8
        rw [decide_eq_true rfl]
        go_wp2_with fail
        refine (awake_true _).mono ?_
        rintro e w9 ⟨rfl, hb9⟩
        go_wp2
        go_ret
        exact ⟨rfl, below_call hB7 hb9⟩
      · have hge' : ((ge : Int) == 0) = false := by simp only [beq_eq_false_iff_ne]; omega
        clear hinv hge
        go_wp2_with fail
        refine (awake_true _).mono ?_
        rintro e w9 ⟨rfl, hb9⟩
        go_wp2
        go_ret
        exact ⟨rfl, below_call hB6 hb9⟩

theorem back_walk (vl va vh vb : Value) (ps : List (Value × List UInt8)) (a h b : List UInt8) (w : World) (hrl : RdL w vl ps) (hra : Rd w va a) (hrh : Rd w vh h) (hrb : Rd w vb b) :
    Calls Try.prog 6 #[vl, va, vh, vb] w fun e w' => e = .returned (.bool true) ∧ Below w.heap.size w w' := by
  by_cases hbad : 300 < a.length ∨ 300 < h.length ∨ 1000 < b.length
  · exact back_off vl va vh vb ps a h b w hrl hra hrh hrb hbad
  · exact back_in vl va vh vb ps a h b w hrl hra hrh hrb (by omega) (by omega) (by omega)
end Go.Proofs.Ytlpjfcfajagobaa
