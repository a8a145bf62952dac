/-
  LogEnded's walk. Own work.
-/
import Derived.Test.YtomhkjacngmnhaaGreatDoorGr
import Derived.Deep.QuietTactic
import Derived.BigQuiet
namespace Go.Proofs.YtomhkjacngmnhaaGreatDoor
open Go.RowKit

theorem UpL.arm {B : Nat} {w0 w : World} {l d : Value} {L : AL} {D : AD} (h : UpL B w0 w l d L D) (n : Int) (hn : n ≤ 9223372036854775807) : Calls Tryz.prog 35 #[d, .int .i64 n] w fun e w' => e = .returned (.tuple #[]) ∧ UpL B w0 w' l d L (armD D n) := by
  obtain ⟨bl, bs, rfl, hk⟩ := h.lk
  refine (arm_any hk.dk.typed n hn).mono ?_
  rintro e w' ⟨rfl, hd, hc⟩
  exact ⟨rfl, h.deed (hk.deed (Below.refl _ _) (hd.mono fun b _ hF => .inl hF) hc) (hc.mono fun b _ hF => hF.1)⟩

theorem OwnS.rdT {w : World} {base : Nat} {v : Value} {l : List ByteArray} (h : OwnS w base v l) : RdT w v l := by
  have h2 : OwnV w base 9 v (l.map .string) := by
    unfold OwnV
    rw [List.length_map]
    exact h
  exact h2.rd
set_option maxRecDepth 100000 in
set_option maxHeartbeats 4000000 in
theorem ended_walk (w : World) (hw : Laid w) (h6 : 6 ≤ w.heap.size) (v m : Value) (bs : List (Value × List (Value × List UInt8))) (ms : List (Value × List UInt8)) (hv : RdLL w v bs) (hm : RdL w m ms) (most arm : Nat) (hmo : most ≤ 65535) (har : arm ≤ 65535) :
    Calls Tryz.prog 10 #[v, .int .u16 most, .int .u16 arm, m] w fun e w' => e = .returned (.bool true) ∧ Below w.heap.size w w' := by
  obtain ⟨va, vc, hv0, hvl, hvm, -⟩ := id hv.1
  rw [List.length_map] at hv0 hvl
  obtain ⟨N, HN⟩ := named bs.length
  rw [← HN.out] at hv0 hvl
  subst hv0
  obtain ⟨ma, mk, mc, hm0⟩ : ∃ a k c, m = .slice a k c := by
    obtain ⟨a, c, e, -⟩ := hm.1
    exact ⟨a, _, c, e⟩
  subst hm0
  have HV : Hid _ := hv
  have HM : Hid _ := hm
  clear hv hm
  unfold maxLen at hvm
  go_enter Tryz.func10, Tryz.ntmps10
  go_wp2_with fail
  rw [show (10 + (most : Int) % 400) = ((10 + most % 400 : Nat) : Int) by omega]
  refine (new_up w (10 + most % 400) (by omega)).mono ?_
  obtain ⟨q, HQ⟩ := named (10 + most % 400)
  rw [← HQ.out]
  rintro e w1 ⟨d, rfl, hdne, hu0⟩
  obtain ⟨bd, hdp⟩ : ∃ bd, d = .pointer (some ⟨bd, 0, none⟩) := by
    obtain ⟨bd, _, _, _, _, h1, -⟩ := hu0.dk
    exact ⟨bd, h1⟩
  subst hdp
  clear hdne
  have HU0 : Hid _ := hu0
  have hl1 : Laid w1 := hw.below hu0.bel
  clear hu0
  go_wp2_with fail
  refine (UpL.begin HU0.out h6 hl1 64 0 ⟨by omega, by omega, by omega, by omega⟩).mono ?_
  rintro e w2 ⟨l, rfl, ⟨bl, rfl⟩, hu⟩
  clear hl1 HU0
  have HU : Hid (UpL w.heap.size w w2 _ _ awL (newD q)) := hu
  clear hu
  go_wp2_with fail
  refine (small_any _ ms w2 (RdL.below HM.out (UpL.bel HU.out))).mono ?_
  rintro e w3 ⟨rfl, rfl⟩
  cases hsm : smallB (ms.map Prod.snd) with
  | false =>
    have haw := awake_true w3 (UpL.laid HU.out) (by have := UpL.le HU.out; omega)
    go_wp2_with fail
    refine haw.mono ?_
    rintro e w4 ⟨rfl, hb⟩
    have HB : Hid _ := (UpL.below HU.out hb).bel
    clear HU hb haw
    go_wp2_with fail
    go_ret
    exact ⟨rfl, HB.out⟩
  | true =>
    go_wp2_with fail
    refine (UpL.arm HU.out _ (by omega)).mono ?_
    rintro e w4 ⟨rfl, hu⟩
    have HU4 : Hid (UpL w.heap.size w w4 (.pointer (some ⟨bl, 0, none⟩)) (.pointer (some ⟨bd, 0, none⟩)) awL (armD (newD q) ((arm : Int) % 100))) := hu
    clear HU hu
    go_wp2_with fail
    go_loopw [13] (fun iv wr => ∃ (k : Nat) (L : AL) (D : AD), k ≤ N ∧ k ≤ 40 ∧ iv = .int .i64 k ∧ Hid (UpL w.heap.size w wr (.pointer (some ⟨bl, 0, none⟩)) (.pointer (some ⟨bd, 0, none⟩)) L D) ∧ Hid (L.firsts.length ≤ k) ∧ Hid (L.last ≤ k)) (fun iv _ => 40 - (intOf iv).toNat)
    case atStart => exact ⟨0, awL, _, by omega, by omega, rfl, HU4, (by show awL.firsts.length ≤ 0; decide), (by show awL.last ≤ 0; decide)⟩
    case round =>
      clear HU4
      obtain ⟨k, L, D, hkN, hk40, rfl, HU, HF, HL⟩ := hrel
      by_cases hin : k < N ∧ k < 40 ∧ L.over = false
      · obtain ⟨hlt, hlt40, hov⟩ := hin
        have hlt' : (k : Int) < N := by omega
        have hlt40' : (k : Int) < 40 := by omega
        have hkb : k < bs.length := by rw [← HN.out]; exact hlt
        obtain ⟨b0, o0, c0, hv0, -, -, hb0, hcs⟩ := HV.out.1.cells (by rw [List.length_map]; omega)
        rw [List.length_map, ← HN.out] at hv0
        cases hv0
        have hck0 := hcs k (by rw [List.length_map]; exact hkb)
        rw [List.getElem_map] at hck0
        have hrk := HV.out.2 k hkb
        obtain ⟨P, HP⟩ := named (bs[k]'hkb)
        rw [← HP.out] at hck0 hrk
        obtain ⟨pv, ps⟩ := P
        simp only at hck0 hrk
        obtain ⟨pa, pc, hpv, -⟩ := id hrk.1
        rw [List.length_map] at hpv
        obtain ⟨n, HNN⟩ := named ps.length
        rw [← HNN.out] at hpv
        subst hpv
        have HRK : Hid _ := hrk
        have HCK : Hid _ := hck0
        have HB0 : Hid (b0 < w.heap.size) := hb0
        clear hcs hrk hck0 hb0
        have hck := ((UpL.bel HU.out).cell (p := ⟨b0, o0 + k, none⟩) HB0.out).trans HCK.out
        go_wp2_with fail
        refine (UpL.over HU.out).mono ?_
        rw [hov]
        rintro e w5 ⟨rfl, hu5⟩
        have HU5 : Hid _ := hu5
        clear hu5 HU hck
        have hck := ((UpL.bel HU5.out).cell (p := ⟨b0, o0 + k, none⟩) HB0.out).trans HCK.out
        by_cases hn0 : n = 0
        · have hn0' : ((n : Int) == 0) = true := by simp only [beq_iff_eq]; omega
          have HF1 : Hid (L.firsts.length ≤ k + 1) := Nat.le_succ_of_le HF.out
          have HL1 : Hid (L.last ≤ ((k + 1 : Nat) : Int)) := by show L.last ≤ _; have := HL.out; omega
          subst hn0
          go_wp2_with fail
          go_roundw
          case rel => exact ⟨k + 1, _, _, by omega, by omega, by go_num, HU5, HF1, HL1⟩
          case measure => simp [intOf]; omega
        · have hn0' : ((n : Int) == 0) = false := by simp only [beq_eq_false_iff_ne]; omega
          go_wp2_with fail
          refine (small_any _ ps w5 (RdL.below HRK.out (UpL.bel HU5.out))).mono ?_
          rintro e w6 ⟨rfl, rfl⟩
          cases hsk : smallB (ps.map Prod.snd) with
          | false =>
            have HF1 : Hid (L.firsts.length ≤ k + 1) := Nat.le_succ_of_le HF.out
            have HL1 : Hid (L.last ≤ ((k + 1 : Nat) : Int)) := by show L.last ≤ _; have := HL.out; omega
            go_wp2_with fail
            go_roundw
            case rel => exact ⟨k + 1, _, _, by omega, by omega, by go_num, HU5, HF1, HL1⟩
            case measure => simp [intOf]; omega
          | true =>
            have hlast0 : 0 ≤ L.last := by
              obtain ⟨_, _, _, hk⟩ := UpL.lk HU5.out
              exact hk.ok.last.1
            have hne : ps.map Prod.snd ≠ [] := by
              intro e
              rw [List.map_eq_nil_iff] at e
              rw [HNN.out, e] at hn0
              exact hn0 rfl
            have hbo := (bytes_small (L.last + 1) (ps.map Prod.snd) ⟨by omega, by have := HL.out; omega⟩ hsk hne).1
            have hgo := writeG_goes (ps.map Prod.snd) L D
            have hov2 := writeG_over (ps.map Prod.snd) L D hov hbo
            have hW := UpL.write HU5.out (by have := HF.out; omega) _ ps (RdL.below HRK.out (UpL.bel HU5.out)) (fun i hi => by
              have h1 : ps[i].2 ∈ ps.map Prod.snd := List.mem_map.2 ⟨ps[i], List.getElem_mem hi, rfl⟩
              have h2 := hsk
              unfold smallB at h2
              rw [Bool.and_eq_true] at h2
              have h3 := List.all_eq_true.1 h2.2 _ h1
              simp only [decide_eq_true_eq] at h3
              omega)
            obtain ⟨R, HR⟩ := named (writeG (ps.map Prod.snd) L D)
            rw [← HR.out] at hgo hov2 hW
            obtain ⟨L2, D2, nr, x⟩ := R
            simp only at hgo hov2 hW
            have HF2 : Hid (L2.firsts.length ≤ k + 1) := by show _ ≤ _; have := HF.out; omega
            have HL2 : Hid (L2.last ≤ ((k + 1 : Nat) : Int)) := by show L2.last ≤ _; have := HL.out; omega
            have hck := ((UpL.bel HU5.out).cell (p := ⟨b0, o0 + k, none⟩) HB0.out).trans HCK.out
            clear hgo hbo hlast0 HU5 HF HL
            go_wp2_with fail
            refine hW.mono ?_
            clear hW
            rintro e w7 ⟨rfl, hu7⟩
            have HU7 : Hid _ := hu7
            clear hu7 hck
            rcases hov2 with ⟨hx, ho2⟩ | ⟨hx, ho2⟩
            · subst hx
              go_wp2_with fail
              refine (UpL.over HU7.out).mono ?_
              rw [ho2]
              rintro e w8 ⟨rfl, hu8⟩
              have HU8 : Hid _ := hu8
              clear hu8 HU7
              by_cases h3 : k % 3 = 0
              · have h3' : (((k : Int).tmod 3) == 0) = true := by simp only [beq_iff_eq]; rw [Int.tmod_eq_emod_of_nonneg (by omega)]; omega
                have h3b : (((k : Int) % 3) == 0) = true := by simp only [beq_iff_eq]; omega
                go_wp2_with fail
                refine (UpL.over HU8.out).mono ?_
                rw [ho2]
                rintro e w9 ⟨rfl, hu9⟩
                have HU9 : Hid _ := hu9
                clear hu9 HU8
                have hgs := syncG_goes L2 D2
                have hos := syncG_over L2 D2 ho2
                have hS := UpL.sync HU9.out
                obtain ⟨S, HS⟩ := named (syncG L2 D2)
                rw [← HS.out] at hgs hos hS
                obtain ⟨L3, D3, y⟩ := S
                simp only at hgs hos hS
                have HF3 : Hid (L3.firsts.length ≤ k + 1) := by show _ ≤ _; rw [hgs.1]; exact HF2.out
                have HL3 : Hid (L3.last ≤ ((k + 1 : Nat) : Int)) := by show L3.last ≤ _; rw [hgs.2]; exact HL2.out
                clear hgs HU9
                go_wp2_with fail
                refine hS.mono ?_
                clear hS
                rintro e w10 ⟨rfl, hu10⟩
                have HU10 : Hid _ := hu10
                clear hu10
                rcases hos with ⟨hy, ho3⟩ | ⟨hy, ho3⟩
                · subst hy
                  go_wp2_with fail
                  refine (UpL.over HU10.out).mono ?_
                  rw [ho3]
                  rintro e w11 ⟨rfl, hu11⟩
                  have HU11 : Hid _ := hu11
                  clear hu11 HU10
                  go_wp2_with fail
                  go_roundw
                  case rel => exact ⟨k + 1, _, _, by omega, by omega, by go_num, HU11, HF3, HL3⟩
                  case measure => simp [intOf]; omega
                · have hy' : ((y : Int) == 0) = false := by simp only [beq_eq_false_iff_ne]; omega
                  have hy2 : ((y : Int) != 0) = true := by simp only [bne_iff_ne]; omega
                  go_wp2_with fail
                  refine (UpL.over HU10.out).mono ?_
                  rw [ho3]
                  rintro e w11 ⟨rfl, hu11⟩
                  have HU11 : Hid _ := hu11
                  clear hu11 HU10
                  go_wp2_with fail
                  go_roundw
                  case rel => exact ⟨k + 1, _, _, by omega, by omega, by go_num, HU11, HF3, HL3⟩
                  case measure => simp [intOf]; omega
              · have h3' : (((k : Int).tmod 3) == 0) = false := by simp only [beq_eq_false_iff_ne]; rw [Int.tmod_eq_emod_of_nonneg (by omega)]; omega
                have h3b : (((k : Int) % 3) == 0) = false := by simp only [beq_eq_false_iff_ne]; omega
                go_wp2_with fail
                go_roundw
                case rel => exact ⟨k + 1, _, _, by omega, by omega, by go_num, HU8, HF2, HL2⟩
                case measure => simp [intOf]; omega
            · have hx' : ((x : Int) == 0) = false := by simp only [beq_eq_false_iff_ne]; omega
              have hx2 : ((x : Int) != 0) = true := by simp only [bne_iff_ne]; omega
              go_wp2_with fail
              refine (UpL.over HU7.out).mono ?_
              rw [ho2]
              rintro e w8 ⟨rfl, hu8⟩
              have HU8 : Hid _ := hu8
              clear hu8 HU7
              by_cases h3 : k % 3 = 0
              · have h3' : (((k : Int).tmod 3) == 0) = true := by simp only [beq_iff_eq]; rw [Int.tmod_eq_emod_of_nonneg (by omega)]; omega
                have h3b : (((k : Int) % 3) == 0) = true := by simp only [beq_iff_eq]; omega
                go_wp2_with fail
                refine (UpL.over HU8.out).mono ?_
                rw [ho2]
                rintro e w9 ⟨rfl, hu9⟩
                have HU9 : Hid _ := hu9
                clear hu9 HU8
                go_wp2_with fail
                go_roundw
                case rel => exact ⟨k + 1, _, _, by omega, by omega, by go_num, HU9, HF2, HL2⟩
                case measure => simp [intOf]; omega
              · have h3' : (((k : Int).tmod 3) == 0) = false := by simp only [beq_eq_false_iff_ne]; rw [Int.tmod_eq_emod_of_nonneg (by omega)]; omega
                have h3b : (((k : Int) % 3) == 0) = false := by simp only [beq_eq_false_iff_ne]; omega
                go_wp2_with fail
                go_roundw
                case rel => exact ⟨k + 1, _, _, by omega, by omega, by go_num, HU8, HF2, HL2⟩
                case measure => simp [intOf]; omega
      · have hcase : ¬ k < N ∨ (k < N ∧ ¬ k < 40) ∨ (k < N ∧ k < 40 ∧ L.over = true) := by
          rcases Nat.lt_or_ge k N with h1 | h1
          · rcases Nat.lt_or_ge k 40 with h2 | h2
            · right; right
              refine ⟨h1, h2, ?_⟩
              cases ho : L.over with
              | true => rfl
              | false => exact absurd ⟨h1, h2, ho⟩ hin
            · right; left
              exact ⟨h1, by omega⟩
          · left
            omega
        clear hin HF HL
        rcases hcase with h1 | ⟨h1, h2⟩ | ⟨h1, h2, ho⟩
        · have h1' : ¬ (k : Int) < N := by omega
          clear h1
          go_wp2_with fail
          cases hov : L.over with
          | false =>
            refine (UpL.over HU.out).mono ?_
            rw [hov]
            rintro e wA ⟨rfl, hu⟩
            have haw := awake_true wA hu.laid (by have := hu.le; omega)
            have HUA : Hid _ := hu
            clear hu HU
            go_wp2_with fail
            refine haw.mono ?_
            clear haw
            rintro e wB ⟨rfl, hb⟩
            have HB : Hid _ := (UpL.below HUA.out hb).bel
            clear HUA hb
            go_wp2_with fail
            go_ret
            exact ⟨rfl, HB.out⟩
          | true =>
            refine (UpL.over HU.out).mono ?_
            rw [hov]
            rintro e wA ⟨rfl, hu⟩
            clear HU
            have HU : Hid _ := hu
            clear hu
            go_wp2_with fail
            obtain ⟨bl2, bs2, hbl, hk⟩ := UpL.lk HU.out
            cases hbl
            have hlA := UpL.laid HU.out
            have HBA := UpL.bel HU.out
            have hszA := UpL.le HU.out
            have HBEL : Hid _ := HBA
            have HB : Hid (Below wA.heap.size wA wA) := Below.refl _ _
            clear HBA HU
            obtain ⟨us, HUS⟩ := named (used D.files)
            obtain ⟨nm, HNM⟩ := named (D.files.map AF.name)
            obtain ⟨ln, HLN⟩ := named nm.length
            obtain ⟨fl, HFL⟩ := named (filesB L)
            obtain ⟨lf, HLF⟩ := named fl.length
            refine (used_any hk.dk).mono ?_
            rw [← HUS.out]
            rintro e y0 ⟨rfl, hb⟩
            have HB2 : Hid (Below wA.heap.size wA y0) := below_call HB.out hb
            clear hb HB
            have HB : Hid _ := HB2
            clear HB2
            go_wp2_with fail
            refine (list_any (hk.below HB.out).dk).mono ?_
            rintro e y1 ⟨vN, rfl, hoN, hb⟩
            have HB2 : Hid (Below wA.heap.size wA y1) := below_call HB.out hb
            have hRN : RdT y1 vN nm := by rw [HNM.out]; exact OwnS.rdT hoN
            obtain ⟨aN, cN, hvN, -⟩ := id hRN
            rw [List.length_map, ← HLN.out] at hvN
            subst hvN
            have HRN : Hid (RdT y1 (.slice aN ln cN) nm) := hRN
            clear hoN hRN
            clear hb HB
            have HB : Hid _ := HB2
            clear HB2
            go_wp2_with fail
            refine (last_any (hk.below HB.out)).mono ?_
            rintro e y2 ⟨rfl, hb⟩
            have HB2 : Hid (Below wA.heap.size wA y2) := below_call HB.out hb
            have HRN2 : Hid (RdT _ (.slice aN ln cN) nm) := RdT.below HRN.out hb
            clear HRN
            have HRN : Hid (RdT _ (.slice aN ln cN) nm) := HRN2
            clear HRN2
            clear hb HB
            have HB : Hid _ := HB2
            clear HB2
            go_wp2_with fail
            refine (acked_any (hk.below HB.out)).mono ?_
            rintro e y3 ⟨rfl, hb⟩
            have HB2 : Hid (Below wA.heap.size wA y3) := below_call HB.out hb
            have HRN2 : Hid (RdT _ (.slice aN ln cN) nm) := RdT.below HRN.out hb
            clear HRN
            have HRN : Hid (RdT _ (.slice aN ln cN) nm) := HRN2
            clear HRN2
            clear hb HB
            have HB : Hid _ := HB2
            clear HB2
            go_wp2_with fail
            refine (files_any (hk.below HB.out) (hlA.below HB.out)).mono ?_
            rintro e y4 ⟨vF, rfl, hoF, hb⟩
            have HB2 : Hid (Below wA.heap.size wA y4) := below_call HB.out hb
            have hRF : RdT y4 vF fl := by rw [HFL.out]; exact hoF.rd
            obtain ⟨aF, cF, hvF, -⟩ := id hRF
            rw [List.length_map, ← HLF.out] at hvF
            subst hvF
            have HRF : Hid (RdT y4 (.slice aF lf cF) fl) := hRF
            clear hoF hRF
            have HRN2 : Hid (RdT _ (.slice aN ln cN) nm) := RdT.below HRN.out hb
            clear HRN
            have HRN : Hid (RdT _ (.slice aN ln cN) nm) := HRN2
            clear HRN2
            clear hb HB
            have HB : Hid _ := HB2
            clear HB2
            go_wp2_with fail
            refine (write_over (hk.below HB.out) hov ma mk mc).mono ?_
            rintro e y5 ⟨rfl, hb⟩
            have HB2 : Hid (Below wA.heap.size wA y5) := below_call HB.out hb
            have HRN2 : Hid (RdT _ (.slice aN ln cN) nm) := RdT.below HRN.out hb
            clear HRN
            have HRN : Hid (RdT _ (.slice aN ln cN) nm) := HRN2
            clear HRN2
            have HRF2 : Hid (RdT _ (.slice aF lf cF) fl) := RdT.below HRF.out hb
            clear HRF
            have HRF : Hid (RdT _ (.slice aF lf cF) fl) := HRF2
            clear HRF2
            clear hb HB
            have HB : Hid _ := HB2
            clear HB2
            go_wp2_with fail
            refine (recs_lit _ [⟨#[120]⟩] _ rfl (by simp) (by decide) 1 rfl).mono ?_
            rintro e y6 ⟨vX, rfl, ⟨aX, kX, cX, rfl⟩, -, hb⟩
            have HB2 : Hid (Below wA.heap.size wA y6) := below_call HB.out hb
            have HRN2 : Hid (RdT _ (.slice aN ln cN) nm) := RdT.below HRN.out hb
            clear HRN
            have HRN : Hid (RdT _ (.slice aN ln cN) nm) := HRN2
            clear HRN2
            have HRF2 : Hid (RdT _ (.slice aF lf cF) fl) := RdT.below HRF.out hb
            clear HRF
            have HRF : Hid (RdT _ (.slice aF lf cF) fl) := HRF2
            clear HRF2
            clear hb HB
            have HB : Hid _ := HB2
            clear HB2
            go_wp2_with fail
            refine (write_over (hk.below HB.out) hov aX kX cX).mono ?_
            rintro e y7 ⟨rfl, hb⟩
            have HB2 : Hid (Below wA.heap.size wA y7) := below_call HB.out hb
            have HRN2 : Hid (RdT _ (.slice aN ln cN) nm) := RdT.below HRN.out hb
            clear HRN
            have HRN : Hid (RdT _ (.slice aN ln cN) nm) := HRN2
            clear HRN2
            have HRF2 : Hid (RdT _ (.slice aF lf cF) fl) := RdT.below HRF.out hb
            clear HRF
            have HRF : Hid (RdT _ (.slice aF lf cF) fl) := HRF2
            clear HRF2
            clear hb HB
            have HB : Hid _ := HB2
            clear HB2
            go_wp2_with fail
            refine (trim_over (hk.below HB.out) hov 1099511627776).mono ?_
            rintro e y8 ⟨rfl, hb⟩
            have HB2 : Hid (Below wA.heap.size wA y8) := below_call HB.out hb
            have HRN2 : Hid (RdT _ (.slice aN ln cN) nm) := RdT.below HRN.out hb
            clear HRN
            have HRN : Hid (RdT _ (.slice aN ln cN) nm) := HRN2
            clear HRN2
            have HRF2 : Hid (RdT _ (.slice aF lf cF) fl) := RdT.below HRF.out hb
            clear HRF
            have HRF : Hid (RdT _ (.slice aF lf cF) fl) := HRF2
            clear HRF2
            clear hb HB
            have HB : Hid _ := HB2
            clear HB2
            go_wp2_with fail
            refine (sync_over (hk.below HB.out) hov).mono ?_
            rintro e y9 ⟨rfl, hb⟩
            have HB2 : Hid (Below wA.heap.size wA y9) := below_call HB.out hb
            have HRN2 : Hid (RdT _ (.slice aN ln cN) nm) := RdT.below HRN.out hb
            clear HRN
            have HRN : Hid (RdT _ (.slice aN ln cN) nm) := HRN2
            clear HRN2
            have HRF2 : Hid (RdT _ (.slice aF lf cF) fl) := RdT.below HRF.out hb
            clear HRF
            have HRF : Hid (RdT _ (.slice aF lf cF) fl) := HRF2
            clear HRF2
            clear hb HB
            have HB : Hid _ := HB2
            clear HB2
            go_wp2_with fail
            refine (used_any (hk.below HB.out).dk).mono ?_
            rw [← HUS.out]
            rintro e y10 ⟨rfl, hb⟩
            have HB2 : Hid (Below wA.heap.size wA y10) := below_call HB.out hb
            have HRN2 : Hid (RdT _ (.slice aN ln cN) nm) := RdT.below HRN.out hb
            clear HRN
            have HRN : Hid (RdT _ (.slice aN ln cN) nm) := HRN2
            clear HRN2
            have HRF2 : Hid (RdT _ (.slice aF lf cF) fl) := RdT.below HRF.out hb
            clear HRF
            have HRF : Hid (RdT _ (.slice aF lf cF) fl) := HRF2
            clear HRF2
            clear hb HB
            have HB : Hid _ := HB2
            clear HB2
            go_wp2_with fail
            refine (list_any (hk.below HB.out).dk).mono ?_
            rintro e y11 ⟨vG, rfl, hoG, hb⟩
            have HB2 : Hid (Below wA.heap.size wA y11) := below_call HB.out hb
            have hRG : RdT y11 vG nm := by rw [HNM.out]; exact OwnS.rdT hoG
            obtain ⟨aG, cG, hvG, -⟩ := id hRG
            rw [List.length_map, ← HLN.out] at hvG
            subst hvG
            have HRG : Hid (RdT y11 (.slice aG ln cG) nm) := hRG
            clear hoG hRG
            have HRN2 : Hid (RdT _ (.slice aN ln cN) nm) := RdT.below HRN.out hb
            clear HRN
            have HRN : Hid (RdT _ (.slice aN ln cN) nm) := HRN2
            clear HRN2
            have HRF2 : Hid (RdT _ (.slice aF lf cF) fl) := RdT.below HRF.out hb
            clear HRF
            have HRF : Hid (RdT _ (.slice aF lf cF) fl) := HRF2
            clear HRF2
            clear hb HB
            have HB : Hid _ := HB2
            clear HB2
            go_wp2_with fail
            have hst := sameTexts_any (.slice aG ln cG) (.slice aN ln cN) nm nm _ HRG.out HRN.out
            rw [decide_eq_true rfl] at hst
            refine hst.mono ?_
            clear hst
            rintro e y12 ⟨rfl, hb⟩
            have HB2 : Hid (Below wA.heap.size wA y12) := below_call HB.out hb
            have HRF2 : Hid (RdT _ (.slice aF lf cF) fl) := RdT.below HRF.out hb
            clear HRF
            have HRF : Hid (RdT _ (.slice aF lf cF) fl) := HRF2
            clear HRF2
            clear hb HB
            have HB : Hid _ := HB2
            clear HB2
            go_wp2_with fail
            refine (last_any (hk.below HB.out)).mono ?_
            rintro e y13 ⟨rfl, hb⟩
            have HB2 : Hid (Below wA.heap.size wA y13) := below_call HB.out hb
            have HRF2 : Hid (RdT _ (.slice aF lf cF) fl) := RdT.below HRF.out hb
            clear HRF
            have HRF : Hid (RdT _ (.slice aF lf cF) fl) := HRF2
            clear HRF2
            clear hb HB
            have HB : Hid _ := HB2
            clear HB2
            go_wp2_with fail
            refine (acked_any (hk.below HB.out)).mono ?_
            rintro e y14 ⟨rfl, hb⟩
            have HB2 : Hid (Below wA.heap.size wA y14) := below_call HB.out hb
            have HRF2 : Hid (RdT _ (.slice aF lf cF) fl) := RdT.below HRF.out hb
            clear HRF
            have HRF : Hid (RdT _ (.slice aF lf cF) fl) := HRF2
            clear HRF2
            clear hb HB
            have HB : Hid _ := HB2
            clear HB2
            go_wp2_with fail
            refine (files_any (hk.below HB.out) (hlA.below HB.out)).mono ?_
            rintro e y15 ⟨vH, rfl, hoH, hb⟩
            have HB2 : Hid (Below wA.heap.size wA y15) := below_call HB.out hb
            have hRH : RdT y15 vH fl := by rw [HFL.out]; exact hoH.rd
            obtain ⟨aH, cH, hvH, -⟩ := id hRH
            rw [List.length_map, ← HLF.out] at hvH
            subst hvH
            have HRH : Hid (RdT y15 (.slice aH lf cH) fl) := hRH
            clear hoH hRH
            have HRF2 : Hid (RdT _ (.slice aF lf cF) fl) := RdT.below HRF.out hb
            clear HRF
            have HRF : Hid (RdT _ (.slice aF lf cF) fl) := HRF2
            clear HRF2
            clear hb HB
            have HB : Hid _ := HB2
            clear HB2
            go_wp2_with fail
            have hst := sameTexts_any (.slice aH lf cH) (.slice aF lf cF) fl fl _ HRH.out HRF.out
            rw [decide_eq_true rfl] at hst
            refine hst.mono ?_
            clear hst
            rintro e y16 ⟨rfl, hb⟩
            have HB2 : Hid (Below wA.heap.size wA y16) := below_call HB.out hb
            clear hb HB
            have HB : Hid _ := HB2
            clear HB2
            go_wp2_with fail
            refine (awake_true _ (hlA.below HB.out) (by have := HB.out.size; omega)).mono ?_
            rintro e y17 ⟨rfl, hb⟩
            have HB2 : Hid (Below wA.heap.size wA y17) := below_call HB.out hb
            clear hb HB
            have HB : Hid _ := HB2
            clear HB2
            go_wp2_with fail
            go_ret
            exact ⟨rfl, Below.trans HBEL.out (Below.mono HB.out hszA)⟩
        · have h1' : (k : Int) < N := by omega
          have h2' : ¬ (k : Int) < 40 := by omega
          clear h1 h2
          go_wp2_with fail
          cases hov : L.over with
          | false =>
            refine (UpL.over HU.out).mono ?_
            rw [hov]
            rintro e wA ⟨rfl, hu⟩
            have haw := awake_true wA hu.laid (by have := hu.le; omega)
            have HUA : Hid _ := hu
            clear hu HU
            go_wp2_with fail
            refine haw.mono ?_
            clear haw
            rintro e wB ⟨rfl, hb⟩
            have HB : Hid _ := (UpL.below HUA.out hb).bel
            clear HUA hb
            go_wp2_with fail
            go_ret
            exact ⟨rfl, HB.out⟩
          | true =>
            refine (UpL.over HU.out).mono ?_
            rw [hov]
            rintro e wA ⟨rfl, hu⟩
            clear HU
            have HU : Hid _ := hu
            clear hu
            go_wp2_with fail
            obtain ⟨bl2, bs2, hbl, hk⟩ := UpL.lk HU.out
            cases hbl
            have hlA := UpL.laid HU.out
            have HBA := UpL.bel HU.out
            have hszA := UpL.le HU.out
            have HBEL : Hid _ := HBA
            have HB : Hid (Below wA.heap.size wA wA) := Below.refl _ _
            clear HBA HU
            obtain ⟨us, HUS⟩ := named (used D.files)
            obtain ⟨nm, HNM⟩ := named (D.files.map AF.name)
            obtain ⟨ln, HLN⟩ := named nm.length
            obtain ⟨fl, HFL⟩ := named (filesB L)
            obtain ⟨lf, HLF⟩ := named fl.length
            refine (used_any hk.dk).mono ?_
            rw [← HUS.out]
            rintro e y0 ⟨rfl, hb⟩
            have HB2 : Hid (Below wA.heap.size wA y0) := below_call HB.out hb
            clear hb HB
            have HB : Hid _ := HB2
            clear HB2
            go_wp2_with fail
            refine (list_any (hk.below HB.out).dk).mono ?_
            rintro e y1 ⟨vN, rfl, hoN, hb⟩
            have HB2 : Hid (Below wA.heap.size wA y1) := below_call HB.out hb
            have hRN : RdT y1 vN nm := by rw [HNM.out]; exact OwnS.rdT hoN
            obtain ⟨aN, cN, hvN, -⟩ := id hRN
            rw [List.length_map, ← HLN.out] at hvN
            subst hvN
            have HRN : Hid (RdT y1 (.slice aN ln cN) nm) := hRN
            clear hoN hRN
            clear hb HB
            have HB : Hid _ := HB2
            clear HB2
            go_wp2_with fail
            refine (last_any (hk.below HB.out)).mono ?_
            rintro e y2 ⟨rfl, hb⟩
            have HB2 : Hid (Below wA.heap.size wA y2) := below_call HB.out hb
            have HRN2 : Hid (RdT _ (.slice aN ln cN) nm) := RdT.below HRN.out hb
            clear HRN
            have HRN : Hid (RdT _ (.slice aN ln cN) nm) := HRN2
            clear HRN2
            clear hb HB
            have HB : Hid _ := HB2
            clear HB2
            go_wp2_with fail
            refine (acked_any (hk.below HB.out)).mono ?_
            rintro e y3 ⟨rfl, hb⟩
            have HB2 : Hid (Below wA.heap.size wA y3) := below_call HB.out hb
            have HRN2 : Hid (RdT _ (.slice aN ln cN) nm) := RdT.below HRN.out hb
            clear HRN
            have HRN : Hid (RdT _ (.slice aN ln cN) nm) := HRN2
            clear HRN2
            clear hb HB
            have HB : Hid _ := HB2
            clear HB2
            go_wp2_with fail
            refine (files_any (hk.below HB.out) (hlA.below HB.out)).mono ?_
            rintro e y4 ⟨vF, rfl, hoF, hb⟩
            have HB2 : Hid (Below wA.heap.size wA y4) := below_call HB.out hb
            have hRF : RdT y4 vF fl := by rw [HFL.out]; exact hoF.rd
            obtain ⟨aF, cF, hvF, -⟩ := id hRF
            rw [List.length_map, ← HLF.out] at hvF
            subst hvF
            have HRF : Hid (RdT y4 (.slice aF lf cF) fl) := hRF
            clear hoF hRF
            have HRN2 : Hid (RdT _ (.slice aN ln cN) nm) := RdT.below HRN.out hb
            clear HRN
            have HRN : Hid (RdT _ (.slice aN ln cN) nm) := HRN2
            clear HRN2
            clear hb HB
            have HB : Hid _ := HB2
            clear HB2
            go_wp2_with fail
            refine (write_over (hk.below HB.out) hov ma mk mc).mono ?_
            rintro e y5 ⟨rfl, hb⟩
            have HB2 : Hid (Below wA.heap.size wA y5) := below_call HB.out hb
            have HRN2 : Hid (RdT _ (.slice aN ln cN) nm) := RdT.below HRN.out hb
            clear HRN
            have HRN : Hid (RdT _ (.slice aN ln cN) nm) := HRN2
            clear HRN2
            have HRF2 : Hid (RdT _ (.slice aF lf cF) fl) := RdT.below HRF.out hb
            clear HRF
            have HRF : Hid (RdT _ (.slice aF lf cF) fl) := HRF2
            clear HRF2
            clear hb HB
            have HB : Hid _ := HB2
            clear HB2
            go_wp2_with fail
            refine (recs_lit _ [⟨#[120]⟩] _ rfl (by simp) (by decide) 1 rfl).mono ?_
            rintro e y6 ⟨vX, rfl, ⟨aX, kX, cX, rfl⟩, -, hb⟩
            have HB2 : Hid (Below wA.heap.size wA y6) := below_call HB.out hb
            have HRN2 : Hid (RdT _ (.slice aN ln cN) nm) := RdT.below HRN.out hb
            clear HRN
            have HRN : Hid (RdT _ (.slice aN ln cN) nm) := HRN2
            clear HRN2
            have HRF2 : Hid (RdT _ (.slice aF lf cF) fl) := RdT.below HRF.out hb
            clear HRF
            have HRF : Hid (RdT _ (.slice aF lf cF) fl) := HRF2
            clear HRF2
            clear hb HB
            have HB : Hid _ := HB2
            clear HB2
            go_wp2_with fail
            refine (write_over (hk.below HB.out) hov aX kX cX).mono ?_
            rintro e y7 ⟨rfl, hb⟩
            have HB2 : Hid (Below wA.heap.size wA y7) := below_call HB.out hb
            have HRN2 : Hid (RdT _ (.slice aN ln cN) nm) := RdT.below HRN.out hb
            clear HRN
            have HRN : Hid (RdT _ (.slice aN ln cN) nm) := HRN2
            clear HRN2
            have HRF2 : Hid (RdT _ (.slice aF lf cF) fl) := RdT.below HRF.out hb
            clear HRF
            have HRF : Hid (RdT _ (.slice aF lf cF) fl) := HRF2
            clear HRF2
            clear hb HB
            have HB : Hid _ := HB2
            clear HB2
            go_wp2_with fail
            refine (trim_over (hk.below HB.out) hov 1099511627776).mono ?_
            rintro e y8 ⟨rfl, hb⟩
            have HB2 : Hid (Below wA.heap.size wA y8) := below_call HB.out hb
            have HRN2 : Hid (RdT _ (.slice aN ln cN) nm) := RdT.below HRN.out hb
            clear HRN
            have HRN : Hid (RdT _ (.slice aN ln cN) nm) := HRN2
            clear HRN2
            have HRF2 : Hid (RdT _ (.slice aF lf cF) fl) := RdT.below HRF.out hb
            clear HRF
            have HRF : Hid (RdT _ (.slice aF lf cF) fl) := HRF2
            clear HRF2
            clear hb HB
            have HB : Hid _ := HB2
            clear HB2
            go_wp2_with fail
            refine (sync_over (hk.below HB.out) hov).mono ?_
            rintro e y9 ⟨rfl, hb⟩
            have HB2 : Hid (Below wA.heap.size wA y9) := below_call HB.out hb
            have HRN2 : Hid (RdT _ (.slice aN ln cN) nm) := RdT.below HRN.out hb
            clear HRN
            have HRN : Hid (RdT _ (.slice aN ln cN) nm) := HRN2
            clear HRN2
            have HRF2 : Hid (RdT _ (.slice aF lf cF) fl) := RdT.below HRF.out hb
            clear HRF
            have HRF : Hid (RdT _ (.slice aF lf cF) fl) := HRF2
            clear HRF2
            clear hb HB
            have HB : Hid _ := HB2
            clear HB2
            go_wp2_with fail
            refine (used_any (hk.below HB.out).dk).mono ?_
            rw [← HUS.out]
            rintro e y10 ⟨rfl, hb⟩
            have HB2 : Hid (Below wA.heap.size wA y10) := below_call HB.out hb
            have HRN2 : Hid (RdT _ (.slice aN ln cN) nm) := RdT.below HRN.out hb
            clear HRN
            have HRN : Hid (RdT _ (.slice aN ln cN) nm) := HRN2
            clear HRN2
            have HRF2 : Hid (RdT _ (.slice aF lf cF) fl) := RdT.below HRF.out hb
            clear HRF
            have HRF : Hid (RdT _ (.slice aF lf cF) fl) := HRF2
            clear HRF2
            clear hb HB
            have HB : Hid _ := HB2
            clear HB2
            go_wp2_with fail
            refine (list_any (hk.below HB.out).dk).mono ?_
            rintro e y11 ⟨vG, rfl, hoG, hb⟩
            have HB2 : Hid (Below wA.heap.size wA y11) := below_call HB.out hb
            have hRG : RdT y11 vG nm := by rw [HNM.out]; exact OwnS.rdT hoG
            obtain ⟨aG, cG, hvG, -⟩ := id hRG
            rw [List.length_map, ← HLN.out] at hvG
            subst hvG
            have HRG : Hid (RdT y11 (.slice aG ln cG) nm) := hRG
            clear hoG hRG
            have HRN2 : Hid (RdT _ (.slice aN ln cN) nm) := RdT.below HRN.out hb
            clear HRN
            have HRN : Hid (RdT _ (.slice aN ln cN) nm) := HRN2
            clear HRN2
            have HRF2 : Hid (RdT _ (.slice aF lf cF) fl) := RdT.below HRF.out hb
            clear HRF
            have HRF : Hid (RdT _ (.slice aF lf cF) fl) := HRF2
            clear HRF2
            clear hb HB
            have HB : Hid _ := HB2
            clear HB2
            go_wp2_with fail
            have hst := sameTexts_any (.slice aG ln cG) (.slice aN ln cN) nm nm _ HRG.out HRN.out
            rw [decide_eq_true rfl] at hst
            refine hst.mono ?_
            clear hst
            rintro e y12 ⟨rfl, hb⟩
            have HB2 : Hid (Below wA.heap.size wA y12) := below_call HB.out hb
            have HRF2 : Hid (RdT _ (.slice aF lf cF) fl) := RdT.below HRF.out hb
            clear HRF
            have HRF : Hid (RdT _ (.slice aF lf cF) fl) := HRF2
            clear HRF2
            clear hb HB
            have HB : Hid _ := HB2
            clear HB2
            go_wp2_with fail
            refine (last_any (hk.below HB.out)).mono ?_
            rintro e y13 ⟨rfl, hb⟩
            have HB2 : Hid (Below wA.heap.size wA y13) := below_call HB.out hb
            have HRF2 : Hid (RdT _ (.slice aF lf cF) fl) := RdT.below HRF.out hb
            clear HRF
            have HRF : Hid (RdT _ (.slice aF lf cF) fl) := HRF2
            clear HRF2
            clear hb HB
            have HB : Hid _ := HB2
            clear HB2
            go_wp2_with fail
            refine (acked_any (hk.below HB.out)).mono ?_
            rintro e y14 ⟨rfl, hb⟩
            have HB2 : Hid (Below wA.heap.size wA y14) := below_call HB.out hb
            have HRF2 : Hid (RdT _ (.slice aF lf cF) fl) := RdT.below HRF.out hb
            clear HRF
            have HRF : Hid (RdT _ (.slice aF lf cF) fl) := HRF2
            clear HRF2
            clear hb HB
            have HB : Hid _ := HB2
            clear HB2
            go_wp2_with fail
            refine (files_any (hk.below HB.out) (hlA.below HB.out)).mono ?_
            rintro e y15 ⟨vH, rfl, hoH, hb⟩
            have HB2 : Hid (Below wA.heap.size wA y15) := below_call HB.out hb
            have hRH : RdT y15 vH fl := by rw [HFL.out]; exact hoH.rd
            obtain ⟨aH, cH, hvH, -⟩ := id hRH
            rw [List.length_map, ← HLF.out] at hvH
            subst hvH
            have HRH : Hid (RdT y15 (.slice aH lf cH) fl) := hRH
            clear hoH hRH
            have HRF2 : Hid (RdT _ (.slice aF lf cF) fl) := RdT.below HRF.out hb
            clear HRF
            have HRF : Hid (RdT _ (.slice aF lf cF) fl) := HRF2
            clear HRF2
            clear hb HB
            have HB : Hid _ := HB2
            clear HB2
            go_wp2_with fail
            have hst := sameTexts_any (.slice aH lf cH) (.slice aF lf cF) fl fl _ HRH.out HRF.out
            rw [decide_eq_true rfl] at hst
            refine hst.mono ?_
            clear hst
            rintro e y16 ⟨rfl, hb⟩
            have HB2 : Hid (Below wA.heap.size wA y16) := below_call HB.out hb
            clear hb HB
            have HB : Hid _ := HB2
            clear HB2
            go_wp2_with fail
            refine (awake_true _ (hlA.below HB.out) (by have := HB.out.size; omega)).mono ?_
            rintro e y17 ⟨rfl, hb⟩
            have HB2 : Hid (Below wA.heap.size wA y17) := below_call HB.out hb
            clear hb HB
            have HB : Hid _ := HB2
            clear HB2
            go_wp2_with fail
            go_ret
            exact ⟨rfl, Below.trans HBEL.out (Below.mono HB.out hszA)⟩
        · have h1' : (k : Int) < N := by omega
          have h2' : (k : Int) < 40 := by omega
          clear h1 h2
          go_wp2_with fail
          refine (UpL.over HU.out).mono ?_
          rw [ho]
          rintro e wZ ⟨rfl, hu⟩
          clear HU
          have HU : Hid _ := hu
          clear hu ho
          go_wp2_with fail
          cases hov : L.over with
          | false =>
            refine (UpL.over HU.out).mono ?_
            rw [hov]
            rintro e wA ⟨rfl, hu⟩
            have haw := awake_true wA hu.laid (by have := hu.le; omega)
            have HUA : Hid _ := hu
            clear hu HU
            go_wp2_with fail
            refine haw.mono ?_
            clear haw
            rintro e wB ⟨rfl, hb⟩
            have HB : Hid _ := (UpL.below HUA.out hb).bel
            clear HUA hb
            go_wp2_with fail
            go_ret
            exact ⟨rfl, HB.out⟩
          | true =>
            refine (UpL.over HU.out).mono ?_
            rw [hov]
            rintro e wA ⟨rfl, hu⟩
            clear HU
            have HU : Hid _ := hu
            clear hu
            go_wp2_with fail
            obtain ⟨bl2, bs2, hbl, hk⟩ := UpL.lk HU.out
            cases hbl
            have hlA := UpL.laid HU.out
            have HBA := UpL.bel HU.out
            have hszA := UpL.le HU.out
            have HBEL : Hid _ := HBA
            have HB : Hid (Below wA.heap.size wA wA) := Below.refl _ _
            clear HBA HU
            obtain ⟨us, HUS⟩ := named (used D.files)
            obtain ⟨nm, HNM⟩ := named (D.files.map AF.name)
            obtain ⟨ln, HLN⟩ := named nm.length
            obtain ⟨fl, HFL⟩ := named (filesB L)
            obtain ⟨lf, HLF⟩ := named fl.length
            refine (used_any hk.dk).mono ?_
            rw [← HUS.out]
            rintro e y0 ⟨rfl, hb⟩
            have HB2 : Hid (Below wA.heap.size wA y0) := below_call HB.out hb
            clear hb HB
            have HB : Hid _ := HB2
            clear HB2
            go_wp2_with fail
            refine (list_any (hk.below HB.out).dk).mono ?_
            rintro e y1 ⟨vN, rfl, hoN, hb⟩
            have HB2 : Hid (Below wA.heap.size wA y1) := below_call HB.out hb
            have hRN : RdT y1 vN nm := by rw [HNM.out]; exact OwnS.rdT hoN
            obtain ⟨aN, cN, hvN, -⟩ := id hRN
            rw [List.length_map, ← HLN.out] at hvN
            subst hvN
            have HRN : Hid (RdT y1 (.slice aN ln cN) nm) := hRN
            clear hoN hRN
            clear hb HB
            have HB : Hid _ := HB2
            clear HB2
            go_wp2_with fail
            refine (last_any (hk.below HB.out)).mono ?_
            rintro e y2 ⟨rfl, hb⟩
            have HB2 : Hid (Below wA.heap.size wA y2) := below_call HB.out hb
            have HRN2 : Hid (RdT _ (.slice aN ln cN) nm) := RdT.below HRN.out hb
            clear HRN
            have HRN : Hid (RdT _ (.slice aN ln cN) nm) := HRN2
            clear HRN2
            clear hb HB
            have HB : Hid _ := HB2
            clear HB2
            go_wp2_with fail
            refine (acked_any (hk.below HB.out)).mono ?_
            rintro e y3 ⟨rfl, hb⟩
            have HB2 : Hid (Below wA.heap.size wA y3) := below_call HB.out hb
            have HRN2 : Hid (RdT _ (.slice aN ln cN) nm) := RdT.below HRN.out hb
            clear HRN
            have HRN : Hid (RdT _ (.slice aN ln cN) nm) := HRN2
            clear HRN2
            clear hb HB
            have HB : Hid _ := HB2
            clear HB2
            go_wp2_with fail
            refine (files_any (hk.below HB.out) (hlA.below HB.out)).mono ?_
            rintro e y4 ⟨vF, rfl, hoF, hb⟩
            have HB2 : Hid (Below wA.heap.size wA y4) := below_call HB.out hb
            have hRF : RdT y4 vF fl := by rw [HFL.out]; exact hoF.rd
            obtain ⟨aF, cF, hvF, -⟩ := id hRF
            rw [List.length_map, ← HLF.out] at hvF
            subst hvF
            have HRF : Hid (RdT y4 (.slice aF lf cF) fl) := hRF
            clear hoF hRF
            have HRN2 : Hid (RdT _ (.slice aN ln cN) nm) := RdT.below HRN.out hb
            clear HRN
            have HRN : Hid (RdT _ (.slice aN ln cN) nm) := HRN2
            clear HRN2
            clear hb HB
            have HB : Hid _ := HB2
            clear HB2
            go_wp2_with fail
            refine (write_over (hk.below HB.out) hov ma mk mc).mono ?_
            rintro e y5 ⟨rfl, hb⟩
            have HB2 : Hid (Below wA.heap.size wA y5) := below_call HB.out hb
            have HRN2 : Hid (RdT _ (.slice aN ln cN) nm) := RdT.below HRN.out hb
            clear HRN
            have HRN : Hid (RdT _ (.slice aN ln cN) nm) := HRN2
            clear HRN2
            have HRF2 : Hid (RdT _ (.slice aF lf cF) fl) := RdT.below HRF.out hb
            clear HRF
            have HRF : Hid (RdT _ (.slice aF lf cF) fl) := HRF2
            clear HRF2
            clear hb HB
            have HB : Hid _ := HB2
            clear HB2
            go_wp2_with fail
            refine (recs_lit _ [⟨#[120]⟩] _ rfl (by simp) (by decide) 1 rfl).mono ?_
            rintro e y6 ⟨vX, rfl, ⟨aX, kX, cX, rfl⟩, -, hb⟩
            have HB2 : Hid (Below wA.heap.size wA y6) := below_call HB.out hb
            have HRN2 : Hid (RdT _ (.slice aN ln cN) nm) := RdT.below HRN.out hb
            clear HRN
            have HRN : Hid (RdT _ (.slice aN ln cN) nm) := HRN2
            clear HRN2
            have HRF2 : Hid (RdT _ (.slice aF lf cF) fl) := RdT.below HRF.out hb
            clear HRF
            have HRF : Hid (RdT _ (.slice aF lf cF) fl) := HRF2
            clear HRF2
            clear hb HB
            have HB : Hid _ := HB2
            clear HB2
            go_wp2_with fail
            refine (write_over (hk.below HB.out) hov aX kX cX).mono ?_
            rintro e y7 ⟨rfl, hb⟩
            have HB2 : Hid (Below wA.heap.size wA y7) := below_call HB.out hb
            have HRN2 : Hid (RdT _ (.slice aN ln cN) nm) := RdT.below HRN.out hb
            clear HRN
            have HRN : Hid (RdT _ (.slice aN ln cN) nm) := HRN2
            clear HRN2
            have HRF2 : Hid (RdT _ (.slice aF lf cF) fl) := RdT.below HRF.out hb
            clear HRF
            have HRF : Hid (RdT _ (.slice aF lf cF) fl) := HRF2
            clear HRF2
            clear hb HB
            have HB : Hid _ := HB2
            clear HB2
            go_wp2_with fail
            refine (trim_over (hk.below HB.out) hov 1099511627776).mono ?_
            rintro e y8 ⟨rfl, hb⟩
            have HB2 : Hid (Below wA.heap.size wA y8) := below_call HB.out hb
            have HRN2 : Hid (RdT _ (.slice aN ln cN) nm) := RdT.below HRN.out hb
            clear HRN
            have HRN : Hid (RdT _ (.slice aN ln cN) nm) := HRN2
            clear HRN2
            have HRF2 : Hid (RdT _ (.slice aF lf cF) fl) := RdT.below HRF.out hb
            clear HRF
            have HRF : Hid (RdT _ (.slice aF lf cF) fl) := HRF2
            clear HRF2
            clear hb HB
            have HB : Hid _ := HB2
            clear HB2
            go_wp2_with fail
            refine (sync_over (hk.below HB.out) hov).mono ?_
            rintro e y9 ⟨rfl, hb⟩
            have HB2 : Hid (Below wA.heap.size wA y9) := below_call HB.out hb
            have HRN2 : Hid (RdT _ (.slice aN ln cN) nm) := RdT.below HRN.out hb
            clear HRN
            have HRN : Hid (RdT _ (.slice aN ln cN) nm) := HRN2
            clear HRN2
            have HRF2 : Hid (RdT _ (.slice aF lf cF) fl) := RdT.below HRF.out hb
            clear HRF
            have HRF : Hid (RdT _ (.slice aF lf cF) fl) := HRF2
            clear HRF2
            clear hb HB
            have HB : Hid _ := HB2
            clear HB2
            go_wp2_with fail
            refine (used_any (hk.below HB.out).dk).mono ?_
            rw [← HUS.out]
            rintro e y10 ⟨rfl, hb⟩
            have HB2 : Hid (Below wA.heap.size wA y10) := below_call HB.out hb
            have HRN2 : Hid (RdT _ (.slice aN ln cN) nm) := RdT.below HRN.out hb
            clear HRN
            have HRN : Hid (RdT _ (.slice aN ln cN) nm) := HRN2
            clear HRN2
            have HRF2 : Hid (RdT _ (.slice aF lf cF) fl) := RdT.below HRF.out hb
            clear HRF
            have HRF : Hid (RdT _ (.slice aF lf cF) fl) := HRF2
            clear HRF2
            clear hb HB
            have HB : Hid _ := HB2
            clear HB2
            go_wp2_with fail
            refine (list_any (hk.below HB.out).dk).mono ?_
            rintro e y11 ⟨vG, rfl, hoG, hb⟩
            have HB2 : Hid (Below wA.heap.size wA y11) := below_call HB.out hb
            have hRG : RdT y11 vG nm := by rw [HNM.out]; exact OwnS.rdT hoG
            obtain ⟨aG, cG, hvG, -⟩ := id hRG
            rw [List.length_map, ← HLN.out] at hvG
            subst hvG
            have HRG : Hid (RdT y11 (.slice aG ln cG) nm) := hRG
            clear hoG hRG
            have HRN2 : Hid (RdT _ (.slice aN ln cN) nm) := RdT.below HRN.out hb
            clear HRN
            have HRN : Hid (RdT _ (.slice aN ln cN) nm) := HRN2
            clear HRN2
            have HRF2 : Hid (RdT _ (.slice aF lf cF) fl) := RdT.below HRF.out hb
            clear HRF
            have HRF : Hid (RdT _ (.slice aF lf cF) fl) := HRF2
            clear HRF2
            clear hb HB
            have HB : Hid _ := HB2
            clear HB2
            go_wp2_with fail
            have hst := sameTexts_any (.slice aG ln cG) (.slice aN ln cN) nm nm _ HRG.out HRN.out
            rw [decide_eq_true rfl] at hst
            refine hst.mono ?_
            clear hst
            rintro e y12 ⟨rfl, hb⟩
            have HB2 : Hid (Below wA.heap.size wA y12) := below_call HB.out hb
            have HRF2 : Hid (RdT _ (.slice aF lf cF) fl) := RdT.below HRF.out hb
            clear HRF
            have HRF : Hid (RdT _ (.slice aF lf cF) fl) := HRF2
            clear HRF2
            clear hb HB
            have HB : Hid _ := HB2
            clear HB2
            go_wp2_with fail
            refine (last_any (hk.below HB.out)).mono ?_
            rintro e y13 ⟨rfl, hb⟩
            have HB2 : Hid (Below wA.heap.size wA y13) := below_call HB.out hb
            have HRF2 : Hid (RdT _ (.slice aF lf cF) fl) := RdT.below HRF.out hb
            clear HRF
            have HRF : Hid (RdT _ (.slice aF lf cF) fl) := HRF2
            clear HRF2
            clear hb HB
            have HB : Hid _ := HB2
            clear HB2
            go_wp2_with fail
            refine (acked_any (hk.below HB.out)).mono ?_
            rintro e y14 ⟨rfl, hb⟩
            have HB2 : Hid (Below wA.heap.size wA y14) := below_call HB.out hb
            have HRF2 : Hid (RdT _ (.slice aF lf cF) fl) := RdT.below HRF.out hb
            clear HRF
            have HRF : Hid (RdT _ (.slice aF lf cF) fl) := HRF2
            clear HRF2
            clear hb HB
            have HB : Hid _ := HB2
            clear HB2
            go_wp2_with fail
            refine (files_any (hk.below HB.out) (hlA.below HB.out)).mono ?_
            rintro e y15 ⟨vH, rfl, hoH, hb⟩
            have HB2 : Hid (Below wA.heap.size wA y15) := below_call HB.out hb
            have hRH : RdT y15 vH fl := by rw [HFL.out]; exact hoH.rd
            obtain ⟨aH, cH, hvH, -⟩ := id hRH
            rw [List.length_map, ← HLF.out] at hvH
            subst hvH
            have HRH : Hid (RdT y15 (.slice aH lf cH) fl) := hRH
            clear hoH hRH
            have HRF2 : Hid (RdT _ (.slice aF lf cF) fl) := RdT.below HRF.out hb
            clear HRF
            have HRF : Hid (RdT _ (.slice aF lf cF) fl) := HRF2
            clear HRF2
            clear hb HB
            have HB : Hid _ := HB2
            clear HB2
            go_wp2_with fail
            have hst := sameTexts_any (.slice aH lf cH) (.slice aF lf cF) fl fl _ HRH.out HRF.out
            rw [decide_eq_true rfl] at hst
            refine hst.mono ?_
            clear hst
            rintro e y16 ⟨rfl, hb⟩
            have HB2 : Hid (Below wA.heap.size wA y16) := below_call HB.out hb
            clear hb HB
            have HB : Hid _ := HB2
            clear HB2
            go_wp2_with fail
            refine (awake_true _ (hlA.below HB.out) (by have := HB.out.size; omega)).mono ?_
            rintro e y17 ⟨rfl, hb⟩
            have HB2 : Hid (Below wA.heap.size wA y17) := below_call HB.out hb
            clear hb HB
            have HB : Hid _ := HB2
            clear HB2
            go_wp2_with fail
            go_ret
            exact ⟨rfl, Below.trans HBEL.out (Below.mono HB.out hszA)⟩
end Go.Proofs.YtomhkjacngmnhaaGreatDoor
