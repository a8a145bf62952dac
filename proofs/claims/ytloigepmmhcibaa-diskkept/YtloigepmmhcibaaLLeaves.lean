/-
  The law DiskLeaves answers true, whatever the script, and whatever a crash keeps and tears. No condition.
-/
import Derived.Test.YtloigepmmhcibaaYd
import Derived.Test.YtloigepmmhcibaaLc
import Derived.Deep.RegionHeld3
import Derived.Deep.QuietTactic
import Derived.BigQuiet
namespace Go.Proofs.Ytloigepmmhcibaa
open Go.RowKit

/-- what a crash leaves of a file -/
theorem crash_file (f : AF) (hs : f.safe ≤ f.bytes.length) (keep tear : Int) :
    ∃ kp z, crashF f keep tear = ⟨f.name, f.bytes.take kp ++ List.replicate z 0, kp + z⟩ ∧ f.safe ≤ kp ∧ kp + z ≤ f.bytes.length ∧ ∀ j, kp ≤ j → j < kp + z → j / 64 = kp / 64 := by
  refine ⟨keptN f keep, noughtsN f keep tear, rfl, ?_, ?_, ?_⟩
  · unfold keptN; omega
  · have h1 : keptN f keep ≤ f.bytes.length := by unfold keptN; omega
    unfold noughtsN
    omega
  · intro j h1 h2
    have h3 : noughtsN f keep tear ≤ min ((keptN f keep + 63) / 64 * 64) f.bytes.length - keptN f keep := by unfold noughtsN; omega
    omega
/-- what the law asks of a file and what a crash left of it -/
structure Left (A B : ByteArray) (sf : Nat) (kp : Nat) : Prop where
  h1 : sf ≤ B.size
  h2 : B.size ≤ A.size
  h3 : sf ≤ kp
  h4 : kp ≤ B.size
  h5 : ∀ j (ha : j < A.size) (hb : j < B.size), j < kp → A[j] = B[j]
  h6 : ∀ j (hb : j < B.size), kp ≤ j → B[j] = 0 ∧ j / 64 = kp / 64
  h7 : B.extract 0 sf = A.extract 0 sf
theorem left_of (f : AF) (hs : f.safe ≤ f.bytes.length) (keep tear : Int) : ∃ kp, Left ⟨f.bytes.toArray⟩ ⟨(crashF f keep tear).bytes.toArray⟩ f.safe kp ∧ (crashF f keep tear).name = f.name ∧ (crashF f keep tear).safe = (crashF f keep tear).bytes.length := by
  obtain ⟨kp, z, e, h1, h2, h3⟩ := crash_file f hs keep tear
  have hl : (f.bytes.take kp ++ List.replicate z (0 : UInt8)).length = kp + z := by rw [List.length_append, List.length_take, List.length_replicate]; omega
  have sA : ∀ l : List UInt8, (⟨l.toArray⟩ : ByteArray).size = l.length := fun l => by simp [ByteArray.size]
  have gA : ∀ (l : List UInt8) (j : Nat) (h : j < (⟨l.toArray⟩ : ByteArray).size) (h' : j < l.length), (⟨l.toArray⟩ : ByteArray)[j] = l[j] := fun l j h h' => by
    show l.toArray[j] = l[j]
    simp
  rw [e]
  refine ⟨kp, ⟨?_, ?_, h1, ?_, ?_, ?_, ?_⟩, rfl, ?_⟩
  · rw [sA, hl]; omega
  · rw [sA, sA, hl]; omega
  · rw [sA, hl]; omega
  · intro j ha0 hb0 hj
    have ha := ha0
    have hb := hb0
    rw [sA] at ha hb
    rw [gA _ _ ha0 ha, gA _ _ hb0 hb, List.getElem_append_left (by rw [List.length_take]; omega), List.getElem_take]
  · intro j hb0 hj
    have hb := hb0
    rw [sA] at hb
    rw [gA _ _ hb0 hb]
    have hj2 : j < kp + z := by rw [hl] at hb; exact hb
    refine ⟨?_, h3 j hj hj2⟩
    rw [List.getElem_append_right (by rw [List.length_take]; omega)]
    simp
  · apply ByteArray.ext
    simp only [ByteArray.data_extract]
    rw [← Array.toList_inj]
    simp only [Array.toList_extract, List.extract_eq_take_drop, List.drop_zero, Nat.sub_zero]
    rw [List.take_append_of_le_length (by rw [List.length_take]; omega), List.take_take, Nat.min_eq_left h1]
  · rw [hl]
theorem OwnV.chg {w w' : World} {F : Nat → Prop} {base : Nat} {e : TypeId} {v : Value} {vs : List Value} (h : OwnV w base e v vs) (hc : Chg F w w') (hF : ∀ b, F b → b < base) : OwnV w' base e v vs := by
  refine ⟨h.1, ?_⟩
  rcases h.2 with h2 | ⟨g, cap, cur, hv, hb2, hg, r⟩
  · exact .inl h2
  · exact .inr ⟨g, cap, cur, hv, hb2, by rw [hc.block g (Array.getElem?_eq_some_iff.1 hg).1 (fun hf => by have := hF g hf; omega)]; exact hg, r⟩

set_option maxRecDepth 100000 in
set_option maxHeartbeats 1600000 in
theorem leaves_walk (w : World) (v : Value) (xs : List Dd) (hx : RdD w v xs) (kv tv : Value) (ks ts : List Int) (hk : RdI w kv ks) (ht : RdI w tv ts) (bk : ∀ a, kv.ownBlock = some a → a < w.heap.size) (bt : ∀ a, tv.ownBlock = some a → a < w.heap.size)
    (hkr : ∀ x ∈ ks, x ≤ 9223372036854775807) (htr : ∀ x ∈ ts, x ≤ 9223372036854775807) :
    Calls Try.prog 6 #[v, kv, tv] w fun e w' => e = .returned (.bool true) ∧ Below w.heap.size w w' := by
  have hdone := done_any w 1048576 (by decide) v xs hx
  obtain ⟨xo, xc, hv, -⟩ := hx
  subst hv
  obtain ⟨ko, kc, hv, -⟩ := id hk
  subst hv
  obtain ⟨tro, tc, hv, -⟩ := id ht
  subst hv
  obtain ⟨D, HD⟩ := named (foldD (newD 1048576) xs 40)
  rw [← HD.out] at hdone
  have HK : Hid _ := hk
  have HT : Hid _ := ht
  have HBK : Hid _ := bk
  have HBT : Hid _ := bt
  have HKR : Hid _ := hkr
  have HTR : Hid _ := htr
  clear hk ht bk bt hkr htr HD
  go_enter Try.func6, Try.ntmps6
  go_wp2_with fail
  refine Calls.mono (show Calls Try.prog 35 #[.int .i64 1048576, .slice xo xs.length xc] w _ from hdone) ?_
  rintro e w1 ⟨d, rfl, hup⟩
  obtain ⟨da, hd⟩ : ∃ a, d = .pointer a := by
    obtain ⟨bd, bs, bcc, fv, ps, rfl, -⟩ := hup.dk
    exact ⟨_, rfl⟩
  subst hd
  clear hdone
  go_wp2_with fail
  refine (down_any hup.dk).mono ?_
  rintro e w2 ⟨rfl, hw2⟩
  subst hw2
  cases hdk : D.dark with
  | true =>
    go_wp2_with fail
    refine (awake_true _).mono ?_
    rintro e w9 ⟨rfl, hb9⟩
    go_wp2
    go_ret
    exact ⟨rfl, xcall hup.bel hb9⟩
  | false =>
    have hok := hup.dk.ok
    go_wp2_with fail
    refine (snap_up hup).mono ?_
    rintro e w3 ⟨vn, va, vs, rfl, hon, hoa, hos, hb3⟩
    obtain ⟨no, nc, hvn, hnc, hncm, -⟩ := id hon.rd
    obtain ⟨wo, wc, hva, hwc, hwcm, -⟩ := id hoa.rd
    obtain ⟨so, sc, hvs, hsc, hscm, -⟩ := id hos.rd
    obtain ⟨n, HN⟩ := named D.files.length
    rw [List.length_map, ← HN.out] at hvn hva hvs hnc hwc hsc
    subst hvn hva hvs
    have hup3 := hup.below hb3
    have hrk : RdI w3 (.slice ko ks.length kc) ks := RdI.belowX (show RdI w (.slice ko ks.length kc) ks from HK.out) ⟨hup3.bel.os, hup3.bel.tape, hup3.bel.output, hup3.bel.size, hup3.bel.block⟩
    have hrt : RdI w3 (.slice tro ts.length tc) ts := RdI.belowX (show RdI w (.slice tro ts.length tc) ts from HT.out) ⟨hup3.bel.os, hup3.bel.tape, hup3.bel.output, hup3.bel.size, hup3.bel.block⟩
    have hcr := crash_any (hup.dk.below hb3) (.slice ko ks.length kc) (.slice tro ts.length tc) ks ts hrk hrt (fun a ha _ hF => by have := HBK.out a ha; have := hF.1; omega) (fun a ha _ hF => by have := HBT.out a ha; have := hF.1; omega) HKR.out HTR.out
    clear hrk hrt hup3
    go_wp2_with fail
    refine hcr.mono ?_
    rintro e w4 ⟨rfl, hdk4, hch⟩
    clear hcr
    have hup4 := hup.deed hb3 hdk4 hch
    have hon4 := hon.chg hch (fun b h => h.2)
    have hoa4 := hoa.chg hch (fun b h => h.2)
    have hos4 := hos.chg hch (fun b h => h.2)
    clear hdk4 hch hon hoa hos hb3 hup
    obtain ⟨D2, HD2⟩ := named (crashD D ks ts)
    rw [← HD2.out] at hup4
    have hfl2 : D2.files.length = n := by rw [HD2.out, HN.out]; simp [crashD, crashL]
    have hdark2 : D2.dark = false := by rw [HD2.out]; rfl
    go_wp2_with fail
    refine (snap_up hup4).mono ?_
    rintro e w5 ⟨vn2, va2, vs2, rfl, hon2, hoa2, hos2, hb5⟩
    obtain ⟨no2, nc2, hvn2, hnc2, hncm2, -⟩ := id hon2.rd
    obtain ⟨wo2, wc2, hva2, hwc2, hwcm2, -⟩ := id hoa2.rd
    obtain ⟨so2, sc2, hvs2, hsc2, hscm2, -⟩ := id hos2.rd
    rw [List.length_map, hfl2] at hvn2 hva2 hvs2 hnc2 hwc2 hsc2
    subst hvn2 hva2 hvs2
    have hon5 := hon4.below hb5
    have hoa5 := hoa4.below hb5
    have hos5 := hos4.below hb5
    have hup5 := hup4.below hb5
    clear hon4 hoa4 hos4 hup4 hb5
    have hnn : ((n : Int) != (n : Int)) = false := by simp
    go_wp2_with fail
    refine (down_any hup5.dk).mono ?_
    rintro e w6 ⟨rfl, hw6⟩
    subst hw6
    rw [hdark2]
    unfold maxLen at hncm hwcm hscm hncm2 hwcm2 hscm2
    go_wp2
    have hB5 : Below w.heap.size w w6 := hup5.bel
    have HON : Hid _ := hon5
    have HOA : Hid _ := hoa5
    have HOS : Hid _ := hos5
    have HON2 : Hid _ := hon2
    have HOA2 : Hid _ := hoa2
    have HOS2 : Hid _ := hos2
    clear hon5 hoa5 hos5 hon2 hoa2 hos2 hup5
    go_loopw [57] (fun iv wr => ∃ i : Nat, i ≤ n ∧ iv = .int .i64 i ∧ Below w6.heap.size w6 wr) (fun iv _ => n - (intOf iv).toNat)
    case atStart => exact ⟨0, by omega, rfl, Below.refl _ _⟩
    case round =>
      obtain ⟨i, hi, rfl, hb⟩ := hrel
      by_cases hlt : i < n
      · have hlt' : (i : Int) < n := by omega
        have hil : i < D.files.length := by rw [← HN.out]; exact hlt
        have hil2 : i < D2.files.length := by rw [hfl2]; exact hlt
        have hfi : D2.files[i] = crashF D.files[i] (toldL ks i) (toldL ts i) := by
          simp only [HD2.out, crashD, crashL, List.getElem_mapIdx]
        obtain ⟨kp, hleft, hnm, hsf⟩ := left_of (D.files[i]'hil) (hok.safe _ (List.getElem_mem hil)) (toldL ks i) (toldL ts i)
        rw [← hfi] at hleft hnm hsf
        have cell : ∀ {b : Nat} {e : TypeId} {v : Value} {vs : List Value}, OwnV w6 b e v vs → ∀ (hl : vs.length = n) {ao : Option Addr} {c : Nat}, v = .slice ao n c → ∃ b0 off, ao = some ⟨b0, off, none⟩ ∧ wr.cell? ⟨b0, off + i, none⟩ = some (vs[i]'(by rw [hl]; exact hlt)) := by
          intro b e v vs h hl ao c hv
          obtain ⟨b0, off, c0, hv0, -, -, hb0, hcs⟩ := h.rd.cells (by omega)
          rw [hv, hl] at hv0
          cases hv0
          exact ⟨b0, off, rfl, (hb.cell (p := ⟨b0, off + i, none⟩) hb0).trans (hcs i (by rw [hl]; exact hlt))⟩
        obtain ⟨b1, o1, q1, c1⟩ := cell (show OwnV w6 _ 9 (.slice no n nc) _ from HON.out) (by rw [List.length_map, HN.out]) rfl
        obtain ⟨b2, o2, q2, c2⟩ := cell (show OwnV w6 _ 9 (.slice wo n wc) _ from HOA.out) (by rw [List.length_map, HN.out]) rfl
        obtain ⟨b3, o3, q3, c3⟩ := cell (show OwnV w6 _ 3 (.slice so n sc) _ from HOS.out) (by rw [List.length_map, HN.out]) rfl
        obtain ⟨b4, o4, q4, c4⟩ := cell (show OwnV w6 _ 9 (.slice no2 n nc2) _ from HON2.out) (by rw [List.length_map, hfl2]) rfl
        obtain ⟨b5, o5, q5, c5⟩ := cell (show OwnV w6 _ 9 (.slice wo2 n wc2) _ from HOA2.out) (by rw [List.length_map, hfl2]) rfl
        obtain ⟨b6, o6, q6, c6⟩ := cell (show OwnV w6 _ 3 (.slice so2 n sc2) _ from HOS2.out) (by rw [List.length_map, hfl2]) rfl
        subst q1 q2 q3 q4 q5 q6
        simp only [List.getElem_map, txt, hdk, hdark2, Bool.false_eq_true, if_false] at c1 c2 c3 c4 c5 c6
        rw [hnm] at c4
        rw [hsf] at c6
        clear cell hnm hsf hfi
        obtain ⟨nm, HNM⟩ := named (D.files[i]'hil).name
        obtain ⟨sf, HSF⟩ := named (D.files[i]'hil).safe
        obtain ⟨A, HA⟩ := named (⟨(D.files[i]'hil).bytes.toArray⟩ : ByteArray)
        obtain ⟨Bb, HBB⟩ := named (⟨(D2.files[i]'hil2).bytes.toArray⟩ : ByteArray)
        have hbs : (D2.files[i]'hil2).bytes.length = Bb.size := by rw [HBB.out]; simp [ByteArray.size]
        rw [hbs] at c6
        rw [← HNM.out] at c1 c4
        rw [← HSF.out] at c3 hleft
        rw [← HA.out] at c2 hleft
        rw [← HBB.out] at c5 hleft
        obtain ⟨l1, l2, l3, l4, l5, l6, l7⟩ := hleft
        have hAs : A.size ≤ 16777216 := by
          have h1 := used_at D.files i hil
          have h2 := hok.room
          have h3 := hok.most
          rw [HA.out]
          have : (⟨(D.files[i]'hil).bytes.toArray⟩ : ByteArray).size = (D.files[i]'hil).bytes.length := by simp [ByteArray.size]
          omega
        have H5 : Hid _ := l5
        have H6 : Hid _ := l6
        have g1 : ¬ ((Bb.size : Int) < (sf : Int)) := by omega
        have g2 : ¬ ((A.size : Int) < (Bb.size : Int)) := by omega
        have g3 : ((Bb.size : Int) != (Bb.size : Int)) = false := by simp
        have s1 : (sf : Int) ≤ Bb.size := by omega
        have s2 : (sf : Int) ≤ A.size := by omega
        clear l5 l6 hbs HNM HSF HA HBB
        go_wp2
        go_quiet (fail)
        go_wp2_with fail
        go_quiet (fail)
        go_wp2
        clear c1 c2 c3 c4 c5 c6
        go_loopw [18] (fun sv wq => ∃ s : Nat, s ≤ Bb.size ∧ sv = .int .i64 s ∧ Below w6.heap.size w6 wq) (fun sv _ => Bb.size - (intOf sv).toNat)
        case atStart => exact ⟨0, by omega, rfl, hb.trans ⟨rfl, rfl, rfl, Nat.le_refl _, fun _ _ => rfl⟩⟩
        case round =>
          obtain ⟨s, hs, rfl, hbq⟩ := hrel
          by_cases hsB : s < Bb.size
          · have hsB' : (s : Int) < Bb.size := by omega
            have hsA : s < A.size := by omega
            by_cases heq : A[s] = Bb[s]
            · have heq' : ((A[s].toNat : Int) == (Bb[s].toNat : Int)) = true := by rw [heq]; simp
              clear heq
              go_wp2_with fail
              go_quiet (fail)
              go_wp2
              go_roundw
              case rel => exact ⟨s + 1, by omega, by go_num, hbq.trans ⟨rfl, rfl, rfl, Nat.le_refl _, fun _ _ => rfl⟩⟩
              case measure => simp [intOf]; omega
            · have heq' : ((A[s].toNat : Int) == (Bb[s].toNat : Int)) = false := by
                simp only [beq_eq_false_iff_ne]
                intro h
                exact heq (UInt8.toNat_inj.1 (by omega))
              have hkp : kp ≤ s := by
                rcases Nat.lt_or_ge s kp with h | h
                · exact absurd (H5.out s hsA hsB h) heq
                · exact h
              clear heq
              go_wp2_with fail
              go_quiet (fail)
              go_wp2_with fail
              go_loopw [19] (fun kv2 wk => ∃ k : Nat, s ≤ k ∧ k ≤ Bb.size ∧ kv2 = .int .i64 k ∧ Below w6.heap.size w6 wk) (fun kv2 _ => Bb.size - (intOf kv2).toNat)
              case atStart => exact ⟨s, by omega, by omega, rfl, hbq.trans ⟨rfl, rfl, rfl, Nat.le_refl _, fun _ _ => rfl⟩⟩
              case round =>
                obtain ⟨k, hsk, hkB, rfl, hbk⟩ := hrel
                by_cases hk2 : k < Bb.size
                · have hk2' : (k : Int) < Bb.size := by omega
                  obtain ⟨z1, z2⟩ := H6.out k hk2 (by omega)
                  obtain ⟨-, z3⟩ := H6.out s (by omega) hkp
                  have z4 : ((Bb[k].toNat : Int) != 0) = false := by rw [z1]; rfl
                  have z5 : (((k : Int) / 64) != ((s : Int) / 64)) = false := by simp only [bne_eq_false_iff_eq]; omega
                  clear z1 z2 z3
                  go_wp2
                  go_roundw
                  case rel => exact ⟨k + 1, by omega, by omega, by go_num, hbk⟩
                  case measure => simp [intOf]; omega
                · have hk2' : ¬ (k : Int) < Bb.size := by omega
                  go_wp2
                  go_roundw
                  case rel => exact ⟨i + 1, by omega, by go_num, hbk⟩
                  case measure => simp [intOf]; omega
          · have hsB' : ¬ (s : Int) < Bb.size := by omega
            have hkp : kp ≤ s := by omega
            go_wp2_with fail
            go_quiet (fail)
            go_wp2_with fail
            go_loopw [19] (fun kv2 wk => ∃ k : Nat, s ≤ k ∧ k ≤ Bb.size ∧ kv2 = .int .i64 k ∧ Below w6.heap.size w6 wk) (fun kv2 _ => Bb.size - (intOf kv2).toNat)
            case atStart => exact ⟨s, by omega, by omega, rfl, hbq.trans ⟨rfl, rfl, rfl, Nat.le_refl _, fun _ _ => rfl⟩⟩
            case round =>
              obtain ⟨k, hsk, hkB, rfl, hbk⟩ := hrel
              by_cases hk2 : k < Bb.size
              · have hk2' : (k : Int) < Bb.size := by omega
                obtain ⟨z1, z2⟩ := H6.out k hk2 (by omega)
                obtain ⟨-, z3⟩ := H6.out s (by omega) hkp
                have z4 : ((Bb[k].toNat : Int) != 0) = false := by rw [z1]; rfl
                have z5 : (((k : Int) / 64) != ((s : Int) / 64)) = false := by simp only [bne_eq_false_iff_eq]; omega
                clear z1 z2 z3
                go_wp2
                go_roundw
                case rel => exact ⟨k + 1, by omega, by omega, by go_num, hbk⟩
                case measure => simp [intOf]; omega
              · have hk2' : ¬ (k : Int) < Bb.size := by omega
                go_wp2
                go_roundw
                case rel => exact ⟨i + 1, by omega, by go_num, hbk⟩
                case measure => simp [intOf]; omega
      · have hlt' : ¬ (i : Int) < n := by omega
        go_wp2_with fail
        refine (awake_true _).mono ?_
        rintro e w9 ⟨rfl, hb9⟩
        go_wp2
        go_ret
        exact ⟨rfl, xcall (xcall hB5 hb) hb9⟩
end Go.Proofs.Ytloigepmmhcibaa
