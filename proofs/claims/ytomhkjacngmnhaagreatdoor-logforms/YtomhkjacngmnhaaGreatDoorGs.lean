/-
  The contracts of records, Parse. Own work.
-/
import Derived.Test.YtomhkjacngmnhaaGreatDoorWg
import Derived.Test.YtomhkjacngmnhaaGreatDoorQg
import Derived.PlainAid
namespace Go.Proofs.YtomhkjacngmnhaaGreatDoor
open Go.RowKit

/-- so many records from a place on, behind those that were read; the place behind them; what went wrong -/
def recsL (l : List UInt8) : Nat → Nat → List (List UInt8) → List (List UInt8) × Nat × Nat
  | 0, p, acc => (acc, p, 0)
  | c + 1, p, acc => if (getB l p l.length).2.2 = 0 then recsL l c (getB l p l.length).2.1 (acc ++ [(getB l p l.length).1]) else ([], 0, (getB l p l.length).2.2)

theorem getB_place (l : List UInt8) (p : Int) (q : Int) (h : (getB l p q).2.2 = 0) : (getB l p q).2.1 ≤ l.length := by
  have hp := getU_place l p
  unfold getB at h ⊢
  by_cases h1 : (getU l p).2.2 ≠ 0
  · rw [if_pos h1] at h
    exact absurd h h1
  · rw [if_neg h1] at h ⊢
    have hp2 := hp (by simpa using h1)
    by_cases h2 : q < 0 ∨ q < (getU l p).1
    · rw [if_pos h2] at h
      simp at h
    · rw [if_neg h2] at h ⊢
      by_cases h3 : l.length - (getU l p).2.1 < (getU l p).1
      · rw [if_pos h3] at h
        simp at h
      · rw [if_neg h3]
        show (getU l p).2.1 + (getU l p).1 ≤ l.length
        omega
set_option maxRecDepth 100000 in
set_option maxHeartbeats 800000 in
theorem records_any (v : Value) (l : List UInt8) (p c : Nat) (w : World) (hrd : Rd w v l) (hl : l.length ≤ 2000000) (hc : c ≤ 1000) (hp : p ≤ 2000000) :
    Calls Tryz.prog 107 #[v, .int .i64 p, .int .i64 c] w fun e w' => ∃ rv, ∃ ps : List (Value × List UInt8), e = .returned (.tuple #[rv, .int .i64 (recsL l c p []).2.1, .int .i64 (recsL l c p []).2.2]) ∧ OwnV w' w.heap.size 37 rv (ps.map Prod.fst) ∧ (∀ i (h : i < ps.length), Own w' w.heap.size ps[i].1 ps[i].2) ∧ ps.map Prod.snd = (recsL l c p []).1 ∧ Below w.heap.size w w' := by
  obtain ⟨i0, hi, hz0, hz1, hz2⟩ := info_parts Tryz.info37
  obtain ⟨va, vc, hv, hvl, hvm, -⟩ := id hrd
  obtain ⟨n, HN⟩ := named l.length
  rw [← HN.out] at hv hvl hl
  subst hv
  have HRD : Hid _ := hrd
  obtain ⟨R, HR⟩ := named (recsL l c p [])
  rw [← HR.out]
  unfold maxLen at hvm
  clear hrd
  go_enter Tryz.func107, Tryz.ntmps107
  go_wp2
  go_loopw [1, 9, 14] (fun av rv iv wr => ∃ (k pp : Nat) (ps : List (Value × List UInt8)), k ≤ c ∧ iv = .int .i64 k ∧ av = .int .i64 pp ∧ pp ≤ 2000000 ∧ ps.length = k ∧ Hid (OwnV wr w.heap.size 37 rv (ps.map Prod.fst)) ∧ Hid (∀ i (h : i < ps.length), Own wr w.heap.size ps[i].1 ps[i].2) ∧ Hid (R = recsL l (c - k) pp (ps.map Prod.snd)) ∧ Hid (Below w.heap.size w wr)) (fun _ _ iv _ => c - (intOf iv).toNat)
  case atStart => exact ⟨0, p, [], by omega, rfl, rfl, hp, rfl, OwnV.nil _ _ _, (by intro i h; simp at h), HR, Below.refl _ _⟩
  case round =>
    obtain ⟨k, pp, ps, hk, rfl, rfl, hpp, hpl, HO, HOW, HRR, HB⟩ := hrel
    have HPL : Hid _ := hpl
    clear hpl
    by_cases hlt : k < c
    · have hlt' : (k : Int) < c := by omega
      have hg := getBlob_any (.slice va n vc) l pp n wr (Rd.below HRD.out HB.out) (by rw [← HN.out]; omega) (by omega)
      have hst : R = if (getB l pp n).2.2 = 0 then recsL l (c - (k + 1)) (getB l pp n).2.1 (ps.map Prod.snd ++ [(getB l pp n).1]) else ([], 0, (getB l pp n).2.2) := by
        rw [HRR.out, show c - k = (c - (k + 1)) + 1 by omega, recsL, ← HN.out]
      have hpl2 := getB_place l pp n
      rw [← HN.out] at hpl2
      obtain ⟨G, HG⟩ := named (getB l pp n)
      rw [← HG.out] at hg hst hpl2
      obtain ⟨gl, gp, gx⟩ := G
      simp only at hg hst hpl2
      have hsr := HB.out.size
      by_cases hx : gx = 0
      · subst hx
        rw [if_pos rfl] at hst
        have HST : Hid _ := hst
        have hgp := hpl2 rfl
        clear hst hpl2
        go_wp2_with fail
        refine hg.mono ?_
        clear hg
        rintro e w2 ⟨v2, rfl, ho2, hb2⟩
        obtain ⟨a2, c2, hv2, -⟩ := id ho2.rd
        obtain ⟨k2, HK2⟩ := named gl.length
        rw [← HK2.out] at hv2
        subst hv2
        have hB2 : Below w.heap.size w w2 := below_call HB.out hb2
        have hs2 := hB2.size
        obtain ⟨rv', w3, hr3, ho3, hg3⟩ := run_append_v (P := Tryz.prog) (w2.alloc (.cells #[.slice a2 k2 c2] 37)) 41 41 37 i0 (.slice none 0 0) 24 Tryz.underlying41 hi hz0 hz1 hz2 rfl (by omega) w.heap.size u9 (.slice a2 k2 c2) ⟨w2.heap.size, 0, none⟩ 1 (ps.map Prod.fst) rfl (by simp) ((OwnV.below HO.out hb2).alloc _) (by rw [List.length_map, HPL.out]; omega) (by simp; omega)
        have HB3 : Hid (Below w.heap.size w w3) := (hB2.alloc hs2 _).grown hg3 (by simp; omega) (fun k hk => (World.ownsRow.lt HO.out k hk).1)
        have HKE : Hid (∀ u l, Own w2 w.heap.size u l → Own w3 w.heap.size u l) := fun u l hu => World.ownsRow.kept (hu.alloc _) hg3 (own_apart hu (OwnV.below HO.out hb2) (by decide))
        have HO3 : Hid _ := ho3
        have HO2 : Hid _ := ho2
        have HB2 : Hid _ := hb2
        clear ho3 hg3 hB2 hb2 ho2
        go_wp2_with (at_builtin; refine Lib.wpList_append_run _ rfl (.tmp 28) (.tmp 30) 41 41 rfl _ _ rfl rfl _ _ hr3 ?_)
        go_roundw
        case rel =>
          refine ⟨k + 1, gp, ps ++ [(.slice a2 k2 c2, gl)], by omega, by go_num, rfl, by omega, by rw [List.length_append, HPL.out]; rfl, ?_, ?_, ?_, HB3⟩
          · show OwnV _ _ _ _ _
            rw [List.map_append]
            exact HO3.out
          · intro i hi2
            by_cases hiq : i < ps.length
            · rw [List.getElem_append_left hiq]
              exact HKE.out _ _ (Own.below (HOW.out i hiq) HB2.out)
            · have : i = ps.length := by simp at hi2; omega
              subst this
              rw [List.getElem_append_right (by omega)]
              simpa using HKE.out _ _ (Own.mono HO2.out hsr)
          · show _ = _
            rw [HST.out, List.map_append]
            rfl
        case measure => simp [intOf]; omega
      · rw [if_neg hx] at hst
        have HST : Hid _ := hst
        have hx' : ((gx : Int) == 0) = false := by simp only [beq_eq_false_iff_ne]; omega
        clear hst hpl2
        go_wp2_with fail
        refine hg.mono ?_
        clear hg
        rintro e w2 ⟨v2, rfl, ho2, hb2⟩
        go_wp2_with fail
        go_ret3
        rw [HST.out]
        exact ⟨_, [], rfl, OwnV.nil _ _ _, (by intro i h; simp at h), rfl, below_call HB.out hb2⟩
    · have hlt' : ¬ (k : Int) < c := by omega
      have HK : Hid (R = (ps.map Prod.snd, pp, 0)) := by
        show _ = _
        rw [HRR.out, show c - k = 0 by omega]
        rfl
      go_wp2
      go_ret3
      rw [HK.out]
      exact ⟨_, rfl, ps, HO.out, HOW.out, rfl, HB.out⟩

/-- what bytes tell: a batch's number, its records; 10: they are no batch's -/
def parseL (l : List UInt8) : Int × List (List UInt8) × Nat :=
  if 1048576 < l.length then (0, [], 10) else
  if (getU l 0).2.2 ≠ 0 ∨ isNum (getU l 0).1 = false then (0, [], 10) else
  if (getU l (getU l 0).2.1).2.2 ≠ 0 ∨ isCnt (getU l (getU l 0).2.1).1 = false then (0, [], 10) else
  if (recsL l (getU l (getU l 0).2.1).1 (getU l (getU l 0).2.1).2.1 []).2.2 ≠ 0 ∨ (recsL l (getU l (getU l 0).2.1).1 (getU l (getU l 0).2.1).2.1 []).2.1 ≠ l.length then (0, [], 10) else
  ((getU l 0).1, (recsL l (getU l (getU l 0).2.1).1 (getU l (getU l 0).2.1).2.1 []).1, 0)

theorem wrap_num (n : Nat) (hn : n < 18446744073709551616) : isNum (IntKind.i64.wrap n) = isNum n ∧ (isNum n = true → IntKind.i64.wrap (n : Int) = n) := by
  rcases Nat.lt_or_ge n 9223372036854775808 with h | h
  · have e : IntKind.i64.wrap (n : Int) = n := IntWalk.i64_in _ (by omega)
    exact ⟨by rw [e], fun _ => e⟩
  · have e : IntKind.i64.wrap (n : Int) = (n : Int) - 18446744073709551616 := Go.PlainAid.i64_high (by omega) (by omega)
    have f : isNum (n : Int) = false := by unfold isNum; simp; omega
    refine ⟨?_, fun h2 => by rw [f] at h2; cases h2⟩
    rw [e, f]
    unfold isNum
    simp
    omega
theorem wrap_cnt (n : Nat) (hn : n < 18446744073709551616) : isCnt (IntKind.i64.wrap n) = isCnt n ∧ (isCnt n = true → IntKind.i64.wrap (n : Int) = n) := by
  rcases Nat.lt_or_ge n 9223372036854775808 with h | h
  · have e : IntKind.i64.wrap (n : Int) = n := IntWalk.i64_in _ (by omega)
    exact ⟨by rw [e], fun _ => e⟩
  · have e : IntKind.i64.wrap (n : Int) = (n : Int) - 18446744073709551616 := Go.PlainAid.i64_high (by omega) (by omega)
    have f : isCnt (n : Int) = false := by unfold isCnt; simp; omega
    refine ⟨?_, fun h2 => by rw [f] at h2; cases h2⟩
    rw [e, f]
    unfold isCnt
    simp
    omega

theorem wrap_is64 (n : Int) : IntKind.i64.wrap n = wrap64 n := by
  rw [IntKind.wrap_i64]
  unfold wrap64
  first | rfl | omega
theorem OwnV.mono {w : World} {base base' : Nat} {e : TypeId} {v : Value} {vs : List Value} (h : OwnV w base e v vs) (hb : base' ≤ base) : OwnV w base' e v vs := by
  refine ⟨h.1, ?_⟩
  rcases h.2 with h2 | ⟨g, cap, cur, hv, hb2, r⟩
  · exact .inl h2
  · exact .inr ⟨g, cap, cur, hv, by omega, r⟩
set_option maxRecDepth 100000 in
set_option maxHeartbeats 800000 in
theorem parse_any (v : Value) (l : List UInt8) (w : World) (hrd : Rd w v l) (hl : l.length ≤ 140737488355000) :
    Calls Tryz.prog 42 #[v] w fun e w' => ∃ rv, ∃ ps : List (Value × List UInt8), e = .returned (.tuple #[.agg #[.int .i64 (parseL l).1, rv], .int .i64 (parseL l).2.2]) ∧ OwnV w' w.heap.size 37 rv (ps.map Prod.fst) ∧ (∀ i (h : i < ps.length), Own w' w.heap.size ps[i].1 ps[i].2) ∧ ps.map Prod.snd = (parseL l).2.1 ∧ Below w.heap.size w w' := by
  obtain ⟨va, vc, hv, hvl, hvm, -⟩ := id hrd
  obtain ⟨n, HN⟩ := named l.length
  rw [← HN.out] at hv hvl
  have hl2 := hl
  rw [← HN.out] at hl2
  subst hv
  obtain ⟨W, HW⟩ := named (w.alloc (Obj.cells #[Value.int IntKind.i64 0, Value.slice none 0 0] 43))
  have HBW : Hid (Below w.heap.size w W) := by show Below _ _ _; rw [HW.out]; exact (Below.refl _ _).alloc (Nat.le_refl _) _
  have hrW : Rd W (.slice va n vc) l := hrd.below HBW.out
  have eW : W.heap[w.heap.size]? = some (.cells #[Value.int IntKind.i64 0, Value.slice none 0 0] 43 (0, 0)) := by rw [HW.out]; exact heap_alloc_new w _
  have hlW : w.heap.size < W.heap.size := (Array.getElem?_eq_some_iff.1 eW).1
  have hW0 : W.cell? ⟨w.heap.size, 0, none⟩ = some (.int .i64 0) := by rw [Go.Joins.cell_of_block eW]; rfl
  have hW1 : W.cell? ⟨w.heap.size, 1, none⟩ = some (.slice none 0 0) := by rw [Go.Joins.cell_of_block eW]; rfl
  have hF0 : W.frozen? ⟨w.heap.size, 0, none⟩ = false := Go.Joins.unfrozen_of_block eW 0
  have hF1 : W.frozen? ⟨w.heap.size, 1, none⟩ = false := Go.Joins.unfrozen_of_block eW 1
  have HRD : Hid _ := hrW
  have HG : Hid _ := getUint_any (.slice va n vc) l 0 W hrW (by omega)
  have HG2 : Hid (∀ p : Int, Calls Tryz.prog 106 #[.slice va n vc, .int .i64 p] W fun e w' => e = .returned (.tuple #[.int .u64 (getU l p).1, .int .i64 (getU l p).2.1, .int .i64 (getU l p).2.2]) ∧ W = w') := fun p => getUint_any (.slice va n vc) l p W hrW (by omega)
  have hlt1 := getU_lt l 0
  have hpl1 := getU_place l 0
  unfold maxLen at hvm
  clear hrd hrW
  by_cases hbig : 1048576 < n
  · have HE : Hid (parseL l = (0, [], 10)) := by show _ = _; unfold parseL; rw [if_pos (by rw [← HN.out]; exact hbig)]
    have hbig' : (1048576 : Int) < n := by omega
    go_enter Tryz.func42, Tryz.ntmps42
    go_wp2_with fail
    rw [← HW.out]
    refine bodyPost_ret (v := .tuple #[.agg #[.int .i64 0, .slice none 0 0], .int .i64 10]) (by simp [results, Tryz.results42, go_sem, hW0, hW1]) rfl ?_
    rw [HE.out]
    exact ⟨_, rfl, [], OwnV.nil _ _ _, (by intro i h; simp at h), rfl, HBW.out⟩
  · have hbig' : ¬ (1048576 : Int) < n := by omega
    have HP : Hid (parseL l = if (getU l 0).2.2 ≠ 0 ∨ isNum (getU l 0).1 = false then (0, [], 10) else
      if (getU l (getU l 0).2.1).2.2 ≠ 0 ∨ isCnt (getU l (getU l 0).2.1).1 = false then (0, [], 10) else
      if (recsL l (getU l (getU l 0).2.1).1 (getU l (getU l 0).2.1).2.1 []).2.2 ≠ 0 ∨ (recsL l (getU l (getU l 0).2.1).1 (getU l (getU l 0).2.1).2.1 []).2.1 ≠ n then (0, [], 10) else
      (((getU l 0).1 : Int), (recsL l (getU l (getU l 0).2.1).1 (getU l (getU l 0).2.1).2.1 []).1, 0)) := by show _ = _; unfold parseL; rw [if_neg (by rw [← HN.out]; exact hbig), ← HN.out]
    obtain ⟨G, HGG⟩ := named (getU l 0)
    rw [← HGG.out] at HG HP hlt1 hpl1
    obtain ⟨gn, gp, gx⟩ := G
    simp only at HG HP hlt1 hpl1
    by_cases hx : gx = 0
    · subst hx
      obtain ⟨hw1, hw2⟩ := wrap_num gn hlt1
      have hgp : gp ≤ l.length := (hpl1 rfl).2.2
      rw [← HN.out] at hgp
      have hnum := isNumber_any (IntKind.i64.wrap (gn : Int)) W
      cases hnn : isNum (gn : Int) with
      | false =>
        rw [if_pos (.inr hnn)] at HP
        rw [hw1, hnn] at hnum
        obtain ⟨I, HI⟩ := named (IntKind.i64.wrap (gn : Int))
        rw [← HI.out] at hnum
        have hI1 : IntKind.i64.wrap (gn : Int) = I := HI.out.symm
        have hI2 : wrap64 (gn : Int) = I := by rw [HI.out, wrap_is64]
        clear hw1 hw2 hpl1
        go_enter Tryz.func42, Tryz.ntmps42
        go_wp2_with fail
        rw [← HW.out]
        refine Calls.mono HG.out ?_
        rintro e w1 ⟨rfl, rfl⟩
        go_wp2_with fail
        refine hnum.mono ?_
        rintro e w2 ⟨rfl, rfl⟩
        go_wp2_with fail
        refine bodyPost_ret (v := .tuple #[.agg #[.int .i64 0, .slice none 0 0], .int .i64 10]) (by simp [results, Tryz.results42, go_sem, hW0, hW1]) rfl ?_
        rw [HP.out]
        have hZ : ∀ (x : World) i (h : i < ([] : List (Value × List UInt8)).length), Own x w.heap.size (([] : List (Value × List UInt8))[i]).1 (([] : List (Value × List UInt8))[i]).2 := fun _ _ h => absurd h (Nat.not_lt_zero _)
        refine ⟨.slice none 0 0, [], rfl, OwnV.nil _ _ _, hZ _, rfl, ?_⟩
        first | exact HBW.out | exact (Below.setCell HBW.out (Nat.le_refl _) _).setCell (Nat.le_refl _) _
      | true =>
        have hwn := hw2 hnn
        rw [hwn, hnn] at hnum
        rw [if_neg (by rintro (h | h); exact h rfl; rw [hnn] at h; cases h)] at HP
        have HG3 : Hid _ := HG2.out gp
        have hlt2 := getU_lt l gp
        have hpl2 := getU_place l gp
        obtain ⟨C, HCC⟩ := named (getU l gp)
        rw [← HCC.out] at HG3 HP hlt2 hpl2
        obtain ⟨cn, cp, cx⟩ := C
        simp only at HG3 HP hlt2 hpl2
        clear hw1 hw2 hpl1 HG2
        have HWN : Hid _ := hwn
        have hn1 : 1 ≤ (gn : Int) ∧ (gn : Int) ≤ 1152921504606846976 := by simpa [isNum] using hnn
        obtain ⟨hn1, hn2⟩ := hn1
        by_cases hcx : cx = 0
        · subst hcx
          obtain ⟨hc1, hc2⟩ := wrap_cnt cn hlt2
          have hcp : cp ≤ l.length := (hpl2 rfl).2.2
          rw [← HN.out] at hcp
          have hcnt := isCount_any (IntKind.i64.wrap (cn : Int)) W
          cases hcc : isCnt (cn : Int) with
          | false =>
            rw [if_pos (.inr hcc)] at HP
            rw [hc1, hcc] at hcnt
            obtain ⟨I, HI⟩ := named (IntKind.i64.wrap (cn : Int))
            rw [← HI.out] at hcnt
            have hI1 : IntKind.i64.wrap (cn : Int) = I := HI.out.symm
            have hI2 : wrap64 (cn : Int) = I := by rw [HI.out, wrap_is64]
            clear hc1 hc2 hpl2
            go_enter Tryz.func42, Tryz.ntmps42
            go_wp2_with fail
            rw [← HW.out]
            refine Calls.mono HG.out ?_
            rintro e w1 ⟨rfl, rfl⟩
            go_wp2_with fail
            refine hnum.mono ?_
            rintro e w2 ⟨rfl, rfl⟩
            go_wp2_with fail
            refine Calls.mono HG3.out ?_
            rintro e w3 ⟨rfl, rfl⟩
            go_wp2_with fail
            refine hcnt.mono ?_
            rintro e w4 ⟨rfl, rfl⟩
            go_wp2_with fail
            refine bodyPost_ret (v := .tuple #[.agg #[.int .i64 0, .slice none 0 0], .int .i64 10]) (by simp [results, Tryz.results42, go_sem, hW0, hW1]) rfl ?_
            rw [HP.out]
            have hZ : ∀ (x : World) i (h : i < ([] : List (Value × List UInt8)).length), Own x w.heap.size (([] : List (Value × List UInt8))[i]).1 (([] : List (Value × List UInt8))[i]).2 := fun _ _ h => absurd h (Nat.not_lt_zero _)
            refine ⟨.slice none 0 0, [], rfl, OwnV.nil _ _ _, hZ _, rfl, ?_⟩
            first | exact HBW.out | exact (Below.setCell HBW.out (Nat.le_refl _) _).setCell (Nat.le_refl _) _
          | true =>
            have hwc := hc2 hcc
            rw [hwc, hcc] at hcnt
            rw [if_neg (by rintro (h | h); exact h rfl; rw [hcc] at h; cases h)] at HP
            have hcb : 1 ≤ (cn : Int) ∧ (cn : Int) ≤ 1000 := by simpa [isCnt] using hcc
            obtain ⟨hcb1, hcb2⟩ := hcb
            have hrec := records_any (.slice va n vc) l cp cn W HRD.out (by rw [← HN.out]; omega) (by omega) (by omega)
            obtain ⟨R, HRR⟩ := named (recsL l cn cp [])
            rw [← HRR.out] at hrec HP
            obtain ⟨rs, rp, rx⟩ := R
            simp only at hrec HP
            clear hc1 hc2 hpl2
            have HWC : Hid _ := hwc
            by_cases hrx : rx = 0
            · subst hrx
              by_cases hrp : rp = n
              · have hrp' : ((rp : Int) == n) = true := by simp only [beq_iff_eq]; omega
                have hrp2 : ((rp : Int) != n) = false := by simp only [bne_eq_false_iff_eq]; omega
                rw [if_neg (by rintro (h | h); exact h rfl; exact h hrp)] at HP
                go_enter Tryz.func42, Tryz.ntmps42
                go_wp2_with fail
                rw [← HW.out]
                refine Calls.mono HG.out ?_
                rintro e w1 ⟨rfl, rfl⟩
                go_wp2_with fail
                refine hnum.mono ?_
                rintro e w2 ⟨rfl, rfl⟩
                go_wp2_with fail
                refine Calls.mono HG3.out ?_
                rintro e w3 ⟨rfl, rfl⟩
                go_wp2_with fail
                refine hcnt.mono ?_
                rintro e w4 ⟨rfl, rfl⟩
                go_wp2_with fail
                refine hrec.mono ?_
                rintro e w5 ⟨rv, ps, rfl, ho, hoo, hps, hb⟩
                have c50 := (hb.cell (p := ⟨w.heap.size, 0, none⟩) hlW).trans hW0
                have c51 := (hb.cell (p := ⟨w.heap.size, 1, none⟩) hlW).trans hW1
                have f50 := (hb.frozen (p := ⟨w.heap.size, 0, none⟩) hlW).trans hF0
                have f51 := (hb.frozen (p := ⟨w.heap.size, 1, none⟩) hlW).trans hF1
                have hB5 := below_call HBW.out hb
                have hsW := HBW.out.size
                clear hW0 hW1 hF0 hF1
                obtain ⟨ra, rc, hrv, -⟩ := id (OwnV.rd ho)
                rw [List.length_map] at hrv
                obtain ⟨rl, HRL⟩ := named ps.length
                rw [← HRL.out] at hrv
                subst hrv
                have HO : Hid _ := ho
                have HOO : Hid _ := hoo
                have HPS : Hid _ := hps
                have HB : Hid _ := hb
                clear ho hoo hps hb hrec
                go_wp2_with fail
                refine bodyPost_ret (v := .tuple #[.agg #[.int .i64 gn, .slice ra rl rc], .int .i64 0]) (by simp [results, Tryz.results42, go_sem, c50, c51]) rfl ?_
                rw [HP.out]
                have hg2 : w5.grownBy ((w5.setCell ⟨w.heap.size, 0, none⟩ (.int .i64 gn)).setCell ⟨w.heap.size, 1, none⟩ (.slice ra rl rc)) (some w.heap.size) := by
                  refine ⟨rfl, rfl, rfl, by simp [World.setCell], fun k hk hr => ?_⟩
                  have hne : k ≠ w.heap.size := fun e => hr (by rw [e])
                  rw [Below.heap_setCell _ _ _ _ hne, Below.heap_setCell _ _ _ _ hne]
                have hkeep : ∀ {base e k : Nat} {x : Value} {m : Nat} {xs : List Value}, w.heap.size < base → w5.ownsRow base e k x m xs → ((w5.setCell ⟨w.heap.size, 0, none⟩ (.int .i64 gn)).setCell ⟨w.heap.size, 1, none⟩ (.slice ra rl rc)).ownsRow base e k x m xs := by
                  intro base e k x m xs hbase hx
                  refine World.ownsRow.kept hx hg2 ?_
                  cases hob : x.ownBlock with
                  | none => exact .inl rfl
                  | some a =>
                    right
                    intro he
                    have := (World.ownsRow.lt hx a hob).1
                    cases he
                    omega
                refine ⟨.slice ra rl rc, ps, rfl, OwnV.mono (hkeep hlW HO.out) (Nat.le_of_lt hlW), fun i h => Own.mono (hkeep hlW (HOO.out i h)) (Nat.le_of_lt hlW), HPS.out, ?_⟩
                exact (Below.setCell hB5 (Nat.le_refl _) _).setCell (Nat.le_refl _) _
              · have hrp' : ((rp : Int) == n) = false := by simp only [beq_eq_false_iff_ne]; omega
                have hrp2 : ((rp : Int) != n) = true := by simp only [bne_iff_ne]; omega
                rw [if_pos (.inr hrp)] at HP
                go_enter Tryz.func42, Tryz.ntmps42
                go_wp2_with fail
                rw [← HW.out]
                refine Calls.mono HG.out ?_
                rintro e w1 ⟨rfl, rfl⟩
                go_wp2_with fail
                refine hnum.mono ?_
                rintro e w2 ⟨rfl, rfl⟩
                go_wp2_with fail
                refine Calls.mono HG3.out ?_
                rintro e w3 ⟨rfl, rfl⟩
                go_wp2_with fail
                refine hcnt.mono ?_
                rintro e w4 ⟨rfl, rfl⟩
                go_wp2_with fail
                refine hrec.mono ?_
                rintro e w5 ⟨rv, ps, rfl, ho, hoo, hps, hb⟩
                have c50 := (hb.cell (p := ⟨w.heap.size, 0, none⟩) hlW).trans hW0
                have c51 := (hb.cell (p := ⟨w.heap.size, 1, none⟩) hlW).trans hW1
                have f50 := (hb.frozen (p := ⟨w.heap.size, 0, none⟩) hlW).trans hF0
                have f51 := (hb.frozen (p := ⟨w.heap.size, 1, none⟩) hlW).trans hF1
                have hB5 := below_call HBW.out hb
                have hsW := HBW.out.size
                clear hW0 hW1 hF0 hF1
                clear hrec
                go_wp2_with fail
                refine bodyPost_ret (v := .tuple #[.agg #[.int .i64 0, .slice none 0 0], .int .i64 10]) (by simp [results, Tryz.results42, go_sem, c50, c51]) rfl ?_
                rw [HP.out]
                have hZ : ∀ (x : World) i (h : i < ([] : List (Value × List UInt8)).length), Own x w.heap.size (([] : List (Value × List UInt8))[i]).1 (([] : List (Value × List UInt8))[i]).2 := fun _ _ h => absurd h (Nat.not_lt_zero _)
                refine ⟨.slice none 0 0, [], rfl, OwnV.nil _ _ _, hZ _, rfl, ?_⟩
                first | exact hB5 | exact (Below.setCell hB5 (Nat.le_refl _) _).setCell (Nat.le_refl _) _
            · have hrx' : ((rx : Int) == 0) = false := by simp only [beq_eq_false_iff_ne]; omega
              rw [if_pos (.inl hrx)] at HP
              go_enter Tryz.func42, Tryz.ntmps42
              go_wp2_with fail
              rw [← HW.out]
              refine Calls.mono HG.out ?_
              rintro e w1 ⟨rfl, rfl⟩
              go_wp2_with fail
              refine hnum.mono ?_
              rintro e w2 ⟨rfl, rfl⟩
              go_wp2_with fail
              refine Calls.mono HG3.out ?_
              rintro e w3 ⟨rfl, rfl⟩
              go_wp2_with fail
              refine hcnt.mono ?_
              rintro e w4 ⟨rfl, rfl⟩
              go_wp2_with fail
              refine hrec.mono ?_
              rintro e w5 ⟨rv, ps, rfl, ho, hoo, hps, hb⟩
              have c50 := (hb.cell (p := ⟨w.heap.size, 0, none⟩) hlW).trans hW0
              have c51 := (hb.cell (p := ⟨w.heap.size, 1, none⟩) hlW).trans hW1
              have f50 := (hb.frozen (p := ⟨w.heap.size, 0, none⟩) hlW).trans hF0
              have f51 := (hb.frozen (p := ⟨w.heap.size, 1, none⟩) hlW).trans hF1
              have hB5 := below_call HBW.out hb
              have hsW := HBW.out.size
              clear hW0 hW1 hF0 hF1
              clear hrec
              go_wp2_with fail
              refine bodyPost_ret (v := .tuple #[.agg #[.int .i64 0, .slice none 0 0], .int .i64 10]) (by simp [results, Tryz.results42, go_sem, c50, c51]) rfl ?_
              rw [HP.out]
              have hZ : ∀ (x : World) i (h : i < ([] : List (Value × List UInt8)).length), Own x w.heap.size (([] : List (Value × List UInt8))[i]).1 (([] : List (Value × List UInt8))[i]).2 := fun _ _ h => absurd h (Nat.not_lt_zero _)
              refine ⟨.slice none 0 0, [], rfl, OwnV.nil _ _ _, hZ _, rfl, ?_⟩
              first | exact hB5 | exact (Below.setCell hB5 (Nat.le_refl _) _).setCell (Nat.le_refl _) _
        · rw [if_pos (.inl hcx)] at HP
          have hcx' : ((cx : Int) == 0) = false := by simp only [beq_eq_false_iff_ne]; omega
          go_enter Tryz.func42, Tryz.ntmps42
          go_wp2_with fail
          rw [← HW.out]
          refine Calls.mono HG.out ?_
          rintro e w1 ⟨rfl, rfl⟩
          go_wp2_with fail
          refine hnum.mono ?_
          rintro e w2 ⟨rfl, rfl⟩
          go_wp2_with fail
          refine Calls.mono HG3.out ?_
          rintro e w3 ⟨rfl, rfl⟩
          go_wp2_with fail
          refine bodyPost_ret (v := .tuple #[.agg #[.int .i64 0, .slice none 0 0], .int .i64 10]) (by simp [results, Tryz.results42, go_sem, hW0, hW1]) rfl ?_
          rw [HP.out]
          have hZ : ∀ (x : World) i (h : i < ([] : List (Value × List UInt8)).length), Own x w.heap.size (([] : List (Value × List UInt8))[i]).1 (([] : List (Value × List UInt8))[i]).2 := fun _ _ h => absurd h (Nat.not_lt_zero _)
          refine ⟨.slice none 0 0, [], rfl, OwnV.nil _ _ _, hZ _, rfl, ?_⟩
          first | exact HBW.out | exact (Below.setCell HBW.out (Nat.le_refl _) _).setCell (Nat.le_refl _) _
    · rw [if_pos (.inl hx)] at HP
      have hx' : ((gx : Int) == 0) = false := by simp only [beq_eq_false_iff_ne]; omega
      go_enter Tryz.func42, Tryz.ntmps42
      go_wp2_with fail
      rw [← HW.out]
      refine Calls.mono HG.out ?_
      rintro e w1 ⟨rfl, rfl⟩
      go_wp2_with fail
      refine bodyPost_ret (v := .tuple #[.agg #[.int .i64 0, .slice none 0 0], .int .i64 10]) (by simp [results, Tryz.results42, go_sem, hW0, hW1]) rfl ?_
      rw [HP.out]
      have hZ : ∀ (x : World) i (h : i < ([] : List (Value × List UInt8)).length), Own x w.heap.size (([] : List (Value × List UInt8))[i]).1 (([] : List (Value × List UInt8))[i]).2 := fun _ _ h => absurd h (Nat.not_lt_zero _)
      refine ⟨.slice none 0 0, [], rfl, OwnV.nil _ _ _, hZ _, rfl, ?_⟩
      first | exact HBW.out | exact (Below.setCell HBW.out (Nat.le_refl _) _).setCell (Nat.le_refl _) _
end Go.Proofs.YtomhkjacngmnhaaGreatDoor
