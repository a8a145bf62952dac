/-
  The law FrameTorn answers true, whatever the bodies, the cut and the noughts: of frames one behind the other that are cut anywhere, with any number of noughts behind, just those that are whole ahead of the cut are got. No condition.
-/
import Derived.Test.YtlpjfcfajagobaaFn
import Derived.Test.YtlpjfcfajagobaaLBack
import Derived.Test.YtlpjfcfajagobaaFo
namespace Go.Proofs.Ytlpjfcfajagobaa
open Go.RowKit

theorem endsF_get (n : Nat) (bs : List (List UInt8)) (i : Nat) (h : i < bs.length) : (endsF n bs)[i]? = some (n + (framesL (bs.take (i + 1))).length) := by
  induction bs generalizing n i with
  | nil => simp at h
  | cons b bs ih =>
    cases i with
    | zero => simp [endsF, framesL]
    | succ i =>
      have := ih (n + (frameL b).length) i (by simpa using h)
      simp only [endsF, List.getElem?_cons_succ, this]
      simp only [framesL, List.take_succ_cons, List.map_cons, List.flatten_cons, List.length_append]
      congr 1
      omega
theorem frames_ge (bs : List (List UInt8)) : bs.length ≤ (framesL bs).length := by
  induction bs with
  | nil => simp
  | cons b bs ih =>
    simp only [framesL, List.map_cons, List.flatten_cons, List.length_append, List.length_cons] at ih ⊢
    have := frameL_length b
    omega
theorem frames_mono (bs : List (List UInt8)) (i : Nat) : (framesL (bs.take i)).length ≤ (framesL bs).length := by
  have e : framesL bs = framesL (bs.take i) ++ framesL (bs.drop i) := by
    conv => lhs; rw [← List.take_append_drop i bs]
    simp only [framesL, List.map_append, List.flatten_append]
  rw [e, List.length_append]
  omega
theorem torn_list (bs : List (List UInt8)) (hbs : ∀ i (h : i < bs.length), 0 < bs[i].length ∧ bs[i].length ≤ 1048576) (k z m : Nat) (hm : m ≤ bs.length) (hk1 : (framesL (bs.take m)).length ≤ k) (hk2 : k ≤ (framesL bs).length)
    (hk3 : m = bs.length ∨ k < (framesL (bs.take (m + 1))).length) :
    ∃ R, (framesL bs).take k ++ List.replicate z 0 = framesL (bs.take m) ++ R ∧ (getF (framesL (bs.take m) ++ R) ((framesL (bs.take m)).length : Nat)).2.2 ≠ 0 := by
  by_cases hmb : m = bs.length
  · subst hmb
    rw [List.take_length] at hk1 ⊢
    refine ⟨List.replicate z 0, ?_, getF_noughts _ _⟩
    rw [List.take_of_length_le (by omega)]
  · have hml : m < bs.length := by omega
    have hk4 : k < (framesL (bs.take (m + 1))).length := by rcases hk3 with h | h; exact absurd h hmb; exact h
    rw [framesL_take bs m hml, List.length_append] at hk4
    obtain ⟨j, rfl⟩ : ∃ j, k = (framesL (bs.take m)).length + j := ⟨k - (framesL (bs.take m)).length, by omega⟩
    refine ⟨(frameL bs[m]).take j ++ List.replicate z 0, ?_, getF_torn bs[m] _ j z (hbs m hml).1 (hbs m hml).2 (by omega)⟩
    rw [framesL_split bs m hml, List.take_length_add_append, List.take_append_of_le_length (by omega), List.append_assoc]
theorem tmod_nat (c n : Nat) : (c : Int).tmod ((n : Int) + 1) = ((c % (n + 1) : Nat) : Int) := by
  rw [Int.tmod_eq_emod_of_nonneg (by omega), Int.natCast_emod]
  rfl
theorem tmod301 (c : Nat) : (c : Int).tmod 301 = ((c % 301 : Nat) : Int) := by
  rw [Int.tmod_eq_emod_of_nonneg (by omega)]
  omega
theorem RdV.take {w : World} {ao : Option Addr} {n cap : Nat} {vs : List Value} (h : RdV w (.slice ao n cap) vs) (j : Nat) (hj : j ≤ vs.length) : RdV w (.slice ao j cap) (vs.take j) := by
  obtain ⟨ao', cap', hv, h1, h2, h3, h4⟩ := h
  cases hv
  refine ⟨ao, cap, ?_, ?_, h2, h3, fun a ha i hi => ?_⟩
  · simp [Nat.min_eq_left hj]
  · simp; omega
  · simp at hi
    rw [h4 a ha i (by omega)]
    simp

set_option maxRecDepth 100000 in
set_option maxHeartbeats 1600000 in
theorem torn_walk (vl : Value) (ps : List (Value × List UInt8)) (cut nou : Nat) (w : World) (hrl : RdL w vl ps) (hc : cut ≤ 65535) (hn : nou ≤ 65535) :
    Calls Try.prog 5 #[vl, .int .u16 cut, .int .u16 nou] w fun e w' => e = .returned (.bool true) ∧ Below w.heap.size w w' := by
  obtain ⟨i0, hi, hz0, hz1, hz2⟩ := info_parts Try.info5
  have hfr := framed_any vl ps w hrl
  have hks := fun i hi => kept_rd (k := 20) (i := i) hrl hi
  have hkm := fun i hi => (kept_mem (ps := ps) (k := 20) (i := i) hi).1
  have hkl := kept_len ps 20
  have hfle := frames_le ps 20
  obtain ⟨lo, lc, hv, -⟩ := id hrl.1
  obtain ⟨ln, HLN⟩ := named (ps.map Prod.fst).length
  rw [← HLN.out] at hv
  subst hv
  obtain ⟨ks, HKS⟩ := named (kept ps 20)
  rw [← HKS.out] at hkl hfle
  simp only [← HKS.out] at hfr hks hkm
  have hbl : (ks.map Prod.snd).length = ks.length := List.length_map ..
  have hbm : ∀ i (h : i < (ks.map Prod.snd).length), 0 < (ks.map Prod.snd)[i].length ∧ (ks.map Prod.snd)[i].length ≤ 1048576 := fun i h => by
    rw [List.getElem_map]
    have := hkm i (by rw [hbl] at h; exact h)
    omega
  obtain ⟨bs, HBS⟩ := named (ks.map Prod.snd)
  rw [← HBS.out] at hfle hbl
  simp only [← HBS.out] at hfr hbm
  have htl := fun k z m => torn_list bs hbm k z m
  have hfm := fun i => frames_mono bs i
  obtain ⟨F, HF⟩ := named (framesL bs)
  rw [← HF.out] at hfle hfr htl hfm
  obtain ⟨fn, HFN⟩ := named F.length
  rw [← HFN.out] at hfle htl hfm
  have HKR : Hid _ := hks
  have HTL : Hid _ := htl
  have HFM : Hid _ := hfm
  have HBM : Hid _ := hbm
  have HBL : Hid _ := hbl
  have hfn : fn ≤ 4300 := by omega
  obtain ⟨kk, HKK⟩ := named (cut % (fn + 1))
  have hkk : (cut : Int).tmod ((fn : Int) + 1) = (kk : Int) := by rw [tmod_nat, HKK.out]
  have hkkle : kk ≤ fn := by have := Nat.mod_lt cut (show 0 < fn + 1 by omega); rw [HKK.out]; omega
  obtain ⟨z, HZ⟩ := named (nou % 301)
  have hzz : (nou : Int).tmod 301 = (z : Int) := by rw [tmod301, HZ.out]
  have hzle : z ≤ 300 := by have := Nat.mod_lt nou (show 0 < 301 by omega); rw [HZ.out]; omega
  clear hks hkm hrl htl hfm hbm hbl
  go_enter Try.func5, Try.ntmps5
  go_wp2_with fail
  refine hfr.mono ?_
  rintro e w1 ⟨vf, vk, ve, rfl, hof, hok, hoe, hb1⟩
  obtain ⟨fo, fc, hvf, hfc, hfcm, -⟩ := id hof.rd
  rw [← HFN.out] at hvf hfc
  subst hvf
  obtain ⟨ko, kc, hvk, hkc, hkm2, -⟩ := id hok.rd
  obtain ⟨kn, HKN⟩ := named ks.length
  rw [List.length_map, ← HKN.out] at hvk hkc
  rw [← HKN.out] at hkl
  subst hvk
  obtain ⟨eo, ec, hve, hec, hecm, -⟩ := id hoe.rd
  have hel : (ints (endsF 0 bs)).length = kn := by rw [ints, List.length_map, endsF_len, HBL.out, HKN.out]
  rw [hel] at hve hec
  subst hve
  have hrf := hof.rd
  unfold maxLen at hfcm hkm2 hecm
  clear hfr hof
  go_wp2
  go_loop [12, 13] (fun nv av => ∃ i p : Nat, i ≤ kn ∧ nv = .int .i64 i ∧ av = .int .i64 p ∧ p = (framesL (bs.take i)).length ∧ p ≤ kk) (fun nv _ => kn - (intOf nv).toNat)
  case atStart => exact ⟨0, 0, by omega, rfl, rfl, by simp [framesL], by omega⟩
  case round =>
    obtain ⟨i, p, hik, rfl, rfl, hp, hpk⟩ := hrel
    have HPP : Hid _ := hp
    clear hp
    by_cases hlt : i < kn
    · have hlt' : (i : Int) < kn := by omega
      obtain ⟨b0, off, c0, hv0, -, -, hb0, hcs⟩ := RdV.cells hoe.rd (by rw [hel]; omega)
      rw [hel] at hv0
      cases hv0
      have hli : i < (ints (endsF 0 bs)).length := by rw [hel]; exact hlt
      have hck := hcs i hli
      have hei : (ints (endsF 0 bs))[i]? = some (.int .i64 (((framesL (bs.take (i + 1))).length : Nat) : Int)) := by
        rw [ints, List.getElem?_map, endsF_get 0 bs i (by rw [HBL.out, ← HKN.out]; exact hlt), Nat.zero_add]
        rfl
      rw [List.getElem?_eq_getElem hli] at hei
      rw [Option.some.inj hei] at hck
      obtain ⟨q, HQ⟩ := named (framesL (bs.take (i + 1))).length
      rw [← HQ.out] at hck
      clear hcs hei
      by_cases hq : q ≤ kk
      · have hq' : (q : Int) ≤ kk := by omega
        go_wp2
        go_round
        case rel => exact ⟨i + 1, q, by omega, by go_num, rfl, HQ.out, hq⟩
        case measure => simp [intOf]; omega
      · have hq' : ¬ (q : Int) ≤ kk := by omega
        have hk3 : i = bs.length ∨ kk < (framesL (bs.take (i + 1))).length := by right; rw [← HQ.out]; omega
        have HK3 : Hid _ := hk3
        clear hk3 hlt
        go_wp2_with fail
        have hcutR : Rd w1 (.slice fo kk fc) (F.take kk) := hrf.take kk (by rw [← HFN.out]; exact hkkle)
        have hctl : (F.take kk).length = kk := by rw [List.length_take, ← HFN.out]; omega
        obtain ⟨R, hR1, hR2⟩ := HTL.out kk z i (by rw [HBL.out, ← HKN.out]; exact hik) (by rw [← HPP.out]; exact hpk) hkkle HK3.out
        obtain ⟨CT, HCT⟩ := named (F.take kk)
        rw [← HCT.out] at hcutR hctl hR1
        have hcp := copyBytes_cap _ CT _ hcutR (by omega)
        rw [hctl] at hcp
        refine hcp.mono ?_
        rintro e w2 ⟨rfl, hown2, hb2⟩
        have hsz2 := hb2.size
        obtain ⟨v3, w3, hr3, hown3, hb3⟩ := run_noughts w2 w1.heap.size kk z CT w1.heap.size hctl (by omega) (by omega) hown2 hsz2
        have hB3 := below_call hb1 (below_call hb2 hb3)
        have hok3 := (hok.below hb2).below hb3
        rw [hR1] at hown3
        have hLl : (framesL (bs.take i) ++ R).length = kk + z := by rw [← hR1, List.length_append, hctl, List.length_replicate]
        have htk : (bs.take i).length = i := by rw [List.length_take, HBL.out, ← HKN.out]; omega
        have hge := frames_ge (bs.take i)
        have hst : ∀ j (h : j < (bs.take i).length), getF (framesL (bs.take i) ++ R) ((framesL ((bs.take i).take j)).length : Nat) = ((bs.take i)[j], (framesL ((bs.take i).take (j + 1))).length, 0) ∧ (framesL ((bs.take i).take j)).length < (framesL ((bs.take i).take (j + 1))).length ∧ (framesL ((bs.take i).take (j + 1))).length ≤ (framesL (bs.take i) ++ R).length := by
          intro j hj
          have hbj := HBM.out j (by rw [List.length_take] at hj; omega)
          have hbe : (bs.take i)[j] = bs[j]'(by rw [List.length_take] at hj; omega) := List.getElem_take
          have h1 := frames_at [] R (bs.take i) j hj (by rw [hbe]; exact hbj.1) (by rw [hbe]; exact hbj.2)
          simp only [List.nil_append, List.length_nil, Nat.zero_add] at h1
          have h2 := framesL_take (bs.take i) j hj
          have h3 := frames_mono (bs.take i) (j + 1)
          have h4 := frameL_length (bs.take i)[j]
          refine ⟨h1, ?_, ?_⟩
          · rw [h2, List.length_append]; omega
          · rw [List.length_append]; omega
        have htt : (bs.take i).take i = bs.take i := List.take_of_length_le (by omega)
        have hwh := whole_any v3 (framesL (bs.take i) ++ R) (bs.take i) (fun j => (framesL ((bs.take i).take j)).length) i w3 hown3.rd (by rw [hLl]; omega) htk (by rw [List.length_append]; omega) (by simp [framesL]) hst (by
          show (getF _ ((framesL ((bs.take i).take i)).length : Nat)).2.2 ≠ 0
          rw [htt]
          exact hR2)
        have hpi : (framesL ((bs.take i).take i)).length = p := by rw [htt, HPP.out]
        simp only [hpi] at hwh
        have HOK3 : Hid _ := hok3
        clear hst hge hown3 hown2 hb2 hb3 hR1 hR2 hcp hcutR hok3 hLl hpi hrf htt
        go_wp2_with (at_builtin; refine Lib.wpList_append_run _ rfl (.tmp 53) (.tmp 56) 22 3 rfl _ _ rfl rfl _ _ hr3 ?_)
        refine hwh.mono ?_
        rintro e w4 ⟨vg, vs, rfl, hvl, hog, hev, hb4⟩
        have hB4 := below_call hB3 hb4
        have hok4 := OwnV.below (show OwnV w3 w.heap.size 22 (.slice ko kn kc) _ from HOK3.out) hb4
        have hfl : ((ks.map Prod.fst).take i).length = i := by rw [List.length_take, List.length_map, ← HKN.out]; omega
        have hrk := (RdV.take hok4.rd i (by rw [List.length_map, ← HKN.out]; exact hik) : RdV w4 (.slice ko i kc) _)
        have hsl := sameLists_true vg (.slice ko i kc) vs ((ks.map Prod.fst).take i) (bs.take i) i w4 hog.rd hrk hvl hfl htk (fun j x b hx hb' => (hev j x b hx hb').rd) (fun j x b hx hb' => by
          have hj : j < i := by
            have := (List.getElem?_eq_some_iff.1 hx).1
            rw [hfl] at this
            exact this
          have hjk : j < ks.length := by rw [← HKN.out]; omega
          rw [List.getElem?_take, if_pos hj, List.getElem?_map, List.getElem?_eq_getElem hjk] at hx
          rw [List.getElem?_take, if_pos hj, HBS.out, List.getElem?_map, List.getElem?_eq_getElem hjk] at hb'
          simp only [Option.map_some, Option.some.injEq] at hx hb'
          subst hx hb'
          exact (HKR.out j hjk).below hB4)
        obtain ⟨go, gc, hvg, -⟩ := id hog.rd
        rw [hvl] at hvg
        subst hvg
        have hic : (i : Int) ≤ (kc : Int) := by omega
        have hpp : ((p : Int) == (p : Int)) = true := by simp
        clear hwh hog hev hrk hok4 hb4 HOK3
        go_wp2_with fail
        refine hsl.mono ?_
        rintro e w5 ⟨rfl, hb5⟩
        go_wp2_with fail
        refine (awake_true _).mono ?_
        rintro e w9 ⟨rfl, hb9⟩
        go_wp2
        go_ret
        exact ⟨rfl, below_call (below_call hB4 hb5) hb9⟩
    · have hlt' : ¬ (i : Int) < kn := by omega
      have hk3 : i = bs.length ∨ kk < (framesL (bs.take (i + 1))).length := by left; rw [HBL.out, ← HKN.out]; omega
      have HK3 : Hid _ := hk3
      clear hk3 hlt
      go_wp2_with fail
      have hcutR : Rd w1 (.slice fo kk fc) (F.take kk) := hrf.take kk (by rw [← HFN.out]; exact hkkle)
      have hctl : (F.take kk).length = kk := by rw [List.length_take, ← HFN.out]; omega
      obtain ⟨R, hR1, hR2⟩ := HTL.out kk z i (by rw [HBL.out, ← HKN.out]; exact hik) (by rw [← HPP.out]; exact hpk) hkkle HK3.out
      obtain ⟨CT, HCT⟩ := named (F.take kk)
      rw [← HCT.out] at hcutR hctl hR1
      have hcp := copyBytes_cap _ CT _ hcutR (by omega)
      rw [hctl] at hcp
      refine hcp.mono ?_
      rintro e w2 ⟨rfl, hown2, hb2⟩
      have hsz2 := hb2.size
      obtain ⟨v3, w3, hr3, hown3, hb3⟩ := run_noughts w2 w1.heap.size kk z CT w1.heap.size hctl (by omega) (by omega) hown2 hsz2
      have hB3 := below_call hb1 (below_call hb2 hb3)
      have hok3 := (hok.below hb2).below hb3
      rw [hR1] at hown3
      have hLl : (framesL (bs.take i) ++ R).length = kk + z := by rw [← hR1, List.length_append, hctl, List.length_replicate]
      have htk : (bs.take i).length = i := by rw [List.length_take, HBL.out, ← HKN.out]; omega
      have hge := frames_ge (bs.take i)
      have hst : ∀ j (h : j < (bs.take i).length), getF (framesL (bs.take i) ++ R) ((framesL ((bs.take i).take j)).length : Nat) = ((bs.take i)[j], (framesL ((bs.take i).take (j + 1))).length, 0) ∧ (framesL ((bs.take i).take j)).length < (framesL ((bs.take i).take (j + 1))).length ∧ (framesL ((bs.take i).take (j + 1))).length ≤ (framesL (bs.take i) ++ R).length := by
        intro j hj
        have hbj := HBM.out j (by rw [List.length_take] at hj; omega)
        have hbe : (bs.take i)[j] = bs[j]'(by rw [List.length_take] at hj; omega) := List.getElem_take
        have h1 := frames_at [] R (bs.take i) j hj (by rw [hbe]; exact hbj.1) (by rw [hbe]; exact hbj.2)
        simp only [List.nil_append, List.length_nil, Nat.zero_add] at h1
        have h2 := framesL_take (bs.take i) j hj
        have h3 := frames_mono (bs.take i) (j + 1)
        have h4 := frameL_length (bs.take i)[j]
        refine ⟨h1, ?_, ?_⟩
        · rw [h2, List.length_append]; omega
        · rw [List.length_append]; omega
      have htt : (bs.take i).take i = bs.take i := List.take_of_length_le (by omega)
      have hwh := whole_any v3 (framesL (bs.take i) ++ R) (bs.take i) (fun j => (framesL ((bs.take i).take j)).length) i w3 hown3.rd (by rw [hLl]; omega) htk (by rw [List.length_append]; omega) (by simp [framesL]) hst (by
        show (getF _ ((framesL ((bs.take i).take i)).length : Nat)).2.2 ≠ 0
        rw [htt]
        exact hR2)
      have hpi : (framesL ((bs.take i).take i)).length = p := by rw [htt, HPP.out]
      simp only [hpi] at hwh
      have HOK3 : Hid _ := hok3
      clear hst hge hown3 hown2 hb2 hb3 hR1 hR2 hcp hcutR hok3 hLl hpi hrf htt
      go_wp2_with (at_builtin; refine Lib.wpList_append_run _ rfl (.tmp 53) (.tmp 56) 22 3 rfl _ _ rfl rfl _ _ hr3 ?_)
      refine hwh.mono ?_
      rintro e w4 ⟨vg, vs, rfl, hvl, hog, hev, hb4⟩
      have hB4 := below_call hB3 hb4
      have hok4 := OwnV.below (show OwnV w3 w.heap.size 22 (.slice ko kn kc) _ from HOK3.out) hb4
      have hfl : ((ks.map Prod.fst).take i).length = i := by rw [List.length_take, List.length_map, ← HKN.out]; omega
      have hrk := (RdV.take hok4.rd i (by rw [List.length_map, ← HKN.out]; exact hik) : RdV w4 (.slice ko i kc) _)
      have hsl := sameLists_true vg (.slice ko i kc) vs ((ks.map Prod.fst).take i) (bs.take i) i w4 hog.rd hrk hvl hfl htk (fun j x b hx hb' => (hev j x b hx hb').rd) (fun j x b hx hb' => by
        have hj : j < i := by
          have := (List.getElem?_eq_some_iff.1 hx).1
          rw [hfl] at this
          exact this
        have hjk : j < ks.length := by rw [← HKN.out]; omega
        rw [List.getElem?_take, if_pos hj, List.getElem?_map, List.getElem?_eq_getElem hjk] at hx
        rw [List.getElem?_take, if_pos hj, HBS.out, List.getElem?_map, List.getElem?_eq_getElem hjk] at hb'
        simp only [Option.map_some, Option.some.injEq] at hx hb'
        subst hx hb'
        exact (HKR.out j hjk).below hB4)
      obtain ⟨go, gc, hvg, -⟩ := id hog.rd
      rw [hvl] at hvg
      subst hvg
      have hic : (i : Int) ≤ (kc : Int) := by omega
      have hpp : ((p : Int) == (p : Int)) = true := by simp
      clear hwh hog hev hrk hok4 hb4 HOK3
      go_wp2_with fail
      refine hsl.mono ?_
      rintro e w5 ⟨rfl, hb5⟩
      go_wp2_with fail
      refine (awake_true _).mono ?_
      rintro e w9 ⟨rfl, hb9⟩
      go_wp2
      go_ret
      exact ⟨rfl, below_call (below_call hB4 hb5) hb9⟩
end Go.Proofs.Ytlpjfcfajagobaa
