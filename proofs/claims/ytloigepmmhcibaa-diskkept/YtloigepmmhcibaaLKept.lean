/-
  The law DiskKept.
-/
import Derived.Test.YtloigepmmhcibaaZa
namespace Go.Proofs.Ytloigepmmhcibaa
open Go.RowKit

theorem run_pick0 (W : World) (a b c : Int) : (Instr.index 67 (.agg #[.int .i64 a, .int .i64 b, .int .i64 c]) (.int .i64 0)).run Try.prog W = .ok (.int .i64 a) W := by kernel_rfl
theorem run_pick1 (W : World) (a b c : Int) : (Instr.index 67 (.agg #[.int .i64 a, .int .i64 b, .int .i64 c]) (.int .i64 1)).run Try.prog W = .ok (.int .i64 b) W := by kernel_rfl
theorem run_pick2 (W : World) (a b c : Int) : (Instr.index 67 (.agg #[.int .i64 a, .int .i64 b, .int .i64 c]) (.int .i64 2)).run Try.prog W = .ok (.int .i64 c) W := by kernel_rfl
theorem RdD.below {w w' : World} {v : Value} {xs : List Dd} (h : RdD w v xs) (hb : Below w.heap.size w w') : RdD w' v xs := by
  obtain ⟨ao, cap, hv, h1, h2, h3⟩ := h
  refine ⟨ao, cap, hv, h1, h2, fun k hk => ?_⟩
  obtain ⟨b, off, e, hlt, hg, hc⟩ := h3 k hk
  exact ⟨b, off, e, Nat.lt_of_lt_of_le hlt hb.size, hg.below hb, fun j hj => (hb.cell (p := ⟨b, off + k * 7 + j, none⟩) hlt).trans (hc j hj)⟩

set_option maxRecDepth 100000 in
set_option maxHeartbeats 1600000 in
theorem kept_walk (w : World) (v : Value) (xs : List Dd) (hx : RdD w v xs) (many : Nat) (hm : many < 65536) :
    Calls Try.prog 7 #[v, .int .u16 many] w fun e w' => e = .returned (.bool true) ∧ Below w.heap.size w w' := by
  have hdone : ∀ w', Below w.heap.size w w' → Calls Try.prog 35 #[.int .i64 (1048576 : Nat), v] w' fun e w'' => ∃ d, e = .returned (.tuple #[d, .bool true]) ∧ Up w'.heap.size w' w'' d (foldD (newD 1048576) xs 40) := fun w' hb => done_any w' 1048576 (by decide) v xs (RdD.below hx hb)
  obtain ⟨xo, xc, hv, -⟩ := hx
  subst hv
  obtain ⟨D, HD⟩ := named (foldD (newD 1048576) xs 40)
  rw [← HD.out] at hdone
  have HDN : Hid _ := hdone
  clear hdone HD
  go_enter Try.func7, Try.ntmps7
  go_wp2
  go_loopw [5] (fun iv wr => ∃ i : Nat, i ≤ 3 ∧ iv = .int .i64 i ∧ Below w.heap.size w wr) (fun iv _ => 3 - (intOf iv).toNat)
  case atStart => exact ⟨0, by omega, rfl, Below.refl _ _⟩
  case round =>
    obtain ⟨way, hi, rfl, hb⟩ := hrel
    by_cases hlt : way < 3
    · have hlt' : (way : Int) < 3 := by omega
      have hdone := HDN.out _ hb
      go_wp2_with fail
      refine Calls.mono (show Calls Try.prog 35 #[.int .i64 1048576, .slice xo xs.length xc] _ _ from hdone) ?_
      rintro e w1 ⟨d, rfl, hup⟩
      obtain ⟨da, hd⟩ : ∃ a, d = .pointer a := by
        obtain ⟨bd, bs, bcc, fv, ps, rfl, -⟩ := hup.dk
        exact ⟨_, rfl⟩
      subst hd
      clear hdone
      go_wp2_with fail
      refine (down_any hup.dk).mono ?_
      rintro e w2 ⟨rfl, hw2⟩
      subst hw2
      cases hdk : D.dark with
      | true =>
        go_wp2_with fail
        refine (awake_true _).mono ?_
        rintro e w9 ⟨rfl, hb9⟩
        go_wp2
        go_ret
        exact ⟨rfl, xcall (xcall hb hup.bel) hb9⟩
      | false =>
        have hok := hup.dk.ok
        go_wp2_with fail
        refine (snap_up hup).mono ?_
        rintro e w3 ⟨vn, va, vs, rfl, hon, hoa, hos, hb3⟩
        obtain ⟨no, nc, hvn, hnc, hncm, -⟩ := id hon.rd
        obtain ⟨wo, wc, hva, hwc, hwcm, -⟩ := id hoa.rd
        obtain ⟨so, sc, hvs, hsc, hscm, -⟩ := id hos.rd
        obtain ⟨n, HN⟩ := named D.files.length
        rw [List.length_map, ← HN.out] at hvn hva hvs hnc hwc hsc
        subst hvn hva hvs
        have hup3 := hup.below hb3
        have hn : n ≤ 200 := by rw [HN.out]; exact hok.many
        obtain ⟨i3, hi3, hz30, hz31, hz32⟩ := info_parts Try.info3'
        obtain ⟨w4, hrun4, hown4, hg4⟩ := run_make_full (P := Try.prog) w3 w3.heap.size 22 3 i3 (.int .i64 0) 1 Try.underlying22 hi3 hz30 hz31 .i64 .i64 n (by rw [hz32]; omega) (by unfold maxLen; omega) (Nat.le_refl _)
        have hb4 : Below w3.heap.size w3 w4 := (Below.refl _ _).grown hg4 (Nat.le_refl _) (fun k hk => by cases hk)
        clear hg4
        have hrow4 : w4.ownsRow w3.heap.size 3 1 (.slice (some ⟨w3.heap.size, 0, none⟩) n n) n (List.replicate 0 (Value.int .i64 (wayK way many : Int)) ++ List.replicate (n - 0) (.int .i64 0)) := by
          have e : (madeCells (Value.int .i64 0).cells (n * 1)).toList = List.replicate 0 (Value.int .i64 (wayK way many : Int)) ++ List.replicate (n - 0) (.int .i64 0) := by
            rw [Nat.mul_one]
            exact toList_madeCells_one _ _
          rw [← e]
          exact hown4
        go_wp2_with fail
        clear hrun4 hown4
        go_loopw [43] (fun iv wr => ∃ i : Nat, i ≤ n ∧ iv = .int .i64 i ∧ Below w3.heap.size w3 wr ∧ wr.ownsRow w3.heap.size 3 1 (.slice (some ⟨w3.heap.size, 0, none⟩) n n) n (List.replicate i (Value.int .i64 (wayK way many : Int)) ++ List.replicate (n - i) (.int .i64 0))) (fun iv _ => n - (intOf iv).toNat)
        case atStart => exact ⟨0, by omega, rfl, hb4, hrow4⟩
        case round =>
          obtain ⟨i, hi, rfl, hbi, hrow⟩ := hrel
          by_cases hil : i < n
          · have hil' : (i : Int) < n := by omega
            have hcell : ∃ u, (_ : World).cell? ⟨w3.heap.size, i, none⟩ = some u := ⟨_, (hrow.cellAt i (by omega)).trans (List.getElem?_eq_getElem (by simp; omega))⟩
            obtain ⟨u, hcell⟩ := hcell
            have hfr := hrow.frozenAt i
            obtain ⟨hst, hgr⟩ := hrow.stored i (.int .i64 (wayK way many : Int))
            have hset : (List.replicate i (Value.int .i64 (wayK way many : Int)) ++ List.replicate (n - i) (Value.int .i64 0)).set i (Value.int .i64 (wayK way many : Int)) = List.replicate (i + 1) (Value.int .i64 (wayK way many : Int)) ++ List.replicate (n - (i + 1)) (.int .i64 0) := by
              rw [List.set_append_right _ _ (by simp), List.length_replicate, Nat.sub_self, show n - i = (n - (i + 1)) + 1 from by omega, List.replicate_succ, List.set_cons_zero, List.replicate_succ', List.append_assoc]
              rfl
            rw [hset] at hst
            have hbn := hbi.grown hgr (by first | exact Nat.le_refl _ | exact hbi.size) (fun k hk => by cases hk; first | exact Nat.le_refl _ | omega)
            clear hset hgr hrow
            have HST : Hid _ := hst
            have HBN : Hid _ := hbn
            clear hst hbn
            rcases (by omega : way = 0 ∨ way = 1 ∨ way = 2) with rfl | rfl | rfl
            · have hp := fun W (a b c : Int) => run_pick0 W a b c
              go_wp2
              go_roundw
              case rel => exact ⟨i + 1, by omega, by go_num, HBN.out, HST.out⟩
              case measure => simp [intOf]; omega
            · have hp := fun W (a b c : Int) => run_pick1 W a b c
              go_wp2
              go_roundw
              case rel => exact ⟨i + 1, by omega, by go_num, HBN.out, HST.out⟩
              case measure => simp [intOf]; omega
            · have hp := fun W (a b c : Int) => run_pick2 W a b c
              go_wp2
              go_roundw
              case rel => exact ⟨i + 1, by omega, by go_num, HBN.out, HST.out⟩
              case measure => simp [intOf]; omega
          · have hil' : ¬ (i : Int) < n := by omega
            have hin : i = n := by omega
            rw [hin] at hrow
            have hbX := xcall hb3 hbi
            obtain ⟨K, HK⟩ := named (wayK way many)
            rw [← HK.out] at hrow
            have hKb : (K : Int) ≤ 9223372036854775807 := by rw [HK.out]; unfold wayK; split <;> (try split) <;> omega
            have hrk : RdI wr (.slice (some ⟨w3.heap.size, 0, none⟩) n n) (List.replicate n (K : Int)) := by
              refine ⟨some ⟨w3.heap.size, 0, none⟩, n, by rw [List.length_replicate], by rw [List.length_replicate]; exact Nat.le_refl _, by unfold maxLen; omega, (fun h => by cases h), fun a ha j hj => ?_⟩
              cases ha
              rw [List.length_replicate] at hj
              have hc := hrow.cellAt j (by omega)
              rw [List.getElem?_append_left (by rw [List.length_replicate]; exact hj), List.getElem?_replicate_of_lt hj] at hc
              rw [List.getElem_replicate]
              have ea : (⟨w3.heap.size, 0, none⟩ : Addr).add j = ⟨w3.heap.size, j, none⟩ := by simp [Addr.add]; exact fun h => h.symm
              rw [ea]
              exact hc
            have hcr := crash_any (hup.dk.below hbX) (.slice (some ⟨w3.heap.size, 0, none⟩) n n) (.slice none 0 0) (List.replicate n (K : Int)) [] hrk (RdI.nil _) (fun a ha _ hF => by cases ha; have h1 : w3.heap.size < w2.heap.size := hF.2; have h2 := hb3.size; omega) (fun a ha => by cases ha) (fun x hx => by rw [List.eq_of_mem_replicate hx]; exact hKb) (fun x hx => by cases hx)
            have hon4 := hon.below hbi
            have hoa4 := hoa.below hbi
            have hos4 := hos.below hbi
            clear hrk hrow hup3
            go_wp2_with fail
            refine hcr.mono ?_
            rintro e w5 ⟨rfl, hdk5, hch⟩
            clear hcr
            have hup5 := hup.deed hbX hdk5 hch
            have hoa5 := hoa4.chg hch (fun b h => h.2)
            have hos5 := hos4.chg hch (fun b h => h.2)
            clear hdk5 hch hon hoa hos hon4 hoa4 hos4 hup
            obtain ⟨D2, HD2⟩ := named (crashD D (List.replicate n (K : Int)) [])
            rw [← HD2.out] at hup5
            have hfl2 : D2.files.length = n := by rw [HD2.out, HN.out]; simp [crashD, crashL]
            have hdark2 : D2.dark = false := by rw [HD2.out]; rfl
            go_wp2_with fail
            refine (snap_up hup5).mono ?_
            rintro e w6 ⟨vn2, va2, vs2, rfl, hon2, hoa2, hos2, hb6⟩
            obtain ⟨no2, nc2, hvn2, hnc2, hncm2, -⟩ := id hon2.rd
            obtain ⟨wo2, wc2, hva2, hwc2, hwcm2, -⟩ := id hoa2.rd
            obtain ⟨so2, sc2, hvs2, hsc2, hscm2, -⟩ := id hos2.rd
            rw [List.length_map, hfl2] at hvn2 hva2 hvs2 hnc2 hwc2 hsc2
            subst hvn2 hva2 hvs2
            have hoa6 := hoa5.below hb6
            have hos6 := hos5.below hb6
            have hup6 := hup5.below hb6
            have hB6 := xcall hb hup6.bel
            clear hoa5 hos5 hup5 hb6 hon2 hos2 hup6
            unfold maxLen at hncm hwcm hscm hncm2 hwcm2 hscm2
            go_wp2
            have HOA : Hid _ := hoa6
            have HOS : Hid _ := hos6
            have HOA2 : Hid _ := hoa2
            clear hoa6 hos6 hoa2
            go_loopw [66] (fun iv wq => ∃ j : Nat, j ≤ n ∧ iv = .int .i64 j ∧ Below w6.heap.size w6 wq) (fun iv _ => n - (intOf iv).toNat)
            case atStart => exact ⟨0, by omega, rfl, Below.refl _ _⟩
            case round =>
              obtain ⟨j, hj, rfl, hbj⟩ := hrel
              by_cases hjl : j < n
              · have hjl' : (j : Int) < n := by omega
                have hil3 : j < D.files.length := by rw [← HN.out]; exact hjl
                obtain ⟨hil2, hkt⟩ := kept_text D hok (by have := hok.most; omega) way many j hil3
                have HD2' := HD2.out
                rw [HK.out, HN.out] at HD2'
                have cell : ∀ {b : Nat} {e : TypeId} {v : Value} {vs : List Value}, OwnV w6 b e v vs → ∀ (hl : vs.length = n) {ao : Option Addr} {c : Nat}, v = .slice ao n c → ∃ b0 off, ao = some ⟨b0, off, none⟩ ∧ wr.cell? ⟨b0, off + j, none⟩ = some (vs[j]'(by rw [hl]; exact hjl)) := by
                  intro b e v vs h hl ao c hv
                  obtain ⟨b0, off, c0, hv0, -, -, hb0, hcs⟩ := h.rd.cells (by omega)
                  rw [hv, hl] at hv0
                  cases hv0
                  exact ⟨b0, off, rfl, (hbj.cell (p := ⟨b0, off + j, none⟩) hb0).trans (hcs j (by rw [hl]; exact hjl))⟩
                obtain ⟨b2, o2, q2, c2⟩ := cell (show OwnV w6 _ 9 (.slice wo n wc) _ from HOA.out) (by rw [List.length_map, HN.out]) rfl
                obtain ⟨b3, o3, q3, c3⟩ := cell (show OwnV w6 _ 3 (.slice so n sc) _ from HOS.out) (by rw [List.length_map, HN.out]) rfl
                obtain ⟨b5, o5, q5, c5⟩ := cell (show OwnV w6 _ 9 (.slice wo2 n wc2) _ from HOA2.out) (by rw [List.length_map, hfl2]) rfl
                subst q2 q3 q5
                simp only [List.getElem_map, txt, hdk, hdark2, Bool.false_eq_true, if_false] at c2 c3 c5
                clear cell
                simp only [HD2', hkt] at c5
                clear hkt HD2'
                have hsf := hok.safe _ (List.getElem_mem hil3)
                obtain ⟨sf, HSF⟩ := named (D.files[j]'hil3).safe
                obtain ⟨A, HA⟩ := named (⟨(D.files[j]'hil3).bytes.toArray⟩ : ByteArray)
                have hbs : (D.files[j]'hil3).bytes.length = A.size := by rw [HA.out]; simp [ByteArray.size]
                rw [hbs] at c5 hsf
                rw [← HSF.out] at c3 c5 hsf
                rw [← HA.out] at c2 c5
                have hAs : A.size ≤ 16777216 := by
                  have h1 := used_at D.files j hil3
                  have h2 := hok.room
                  have h3 := hok.most
                  omega
                have hx0 : ¬ ((sf : Int) < 0) := by omega
                rcases (by omega : way = 0 ∨ way = 1 ∨ way = 2) with hw | hw | hw
                · have hp : ∀ W (a b c : Int), (Instr.index 67 (.agg #[.int .i64 a, .int .i64 b, .int .i64 c]) (.int .i64 (way : Int))).run Try.prog W = .ok (.int .i64 a) W := by
                    intro W a b c
                    rw [hw]
                    exact run_pick0 W a b c
                  rw [hw] at c5
                  rw [show wayW 0 many sf A.size = sf from rfl] at c5
                  clear hw
                  go_wp2_with fail
                  go_quiet (fail)
                  go_wp2_with fail
                  go_quiet (fail)
                  go_wp2_with fail
                  go_roundw
                  case rel => exact ⟨j + 1, by omega, by go_num, hbj.trans ⟨rfl, rfl, rfl, Nat.le_refl _, fun _ _ => rfl⟩⟩
                  case measure => simp [intOf]; omega
                · have hp : ∀ W (a b c : Int), (Instr.index 67 (.agg #[.int .i64 a, .int .i64 b, .int .i64 c]) (.int .i64 (way : Int))).run Try.prog W = .ok (.int .i64 b) W := by
                    intro W a b c
                    rw [hw]
                    exact run_pick1 W a b c
                  rw [hw] at c5
                  rw [show wayW 1 many sf A.size = A.size from rfl] at c5
                  clear hw
                  go_wp2_with fail
                  go_quiet (fail)
                  go_wp2_with fail
                  go_quiet (fail)
                  go_wp2_with fail
                  go_roundw
                  case rel => exact ⟨j + 1, by omega, by go_num, hbj.trans ⟨rfl, rfl, rfl, Nat.le_refl _, fun _ _ => rfl⟩⟩
                  case measure => simp [intOf]; omega
                · have hp : ∀ W (a b c : Int), (Instr.index 67 (.agg #[.int .i64 a, .int .i64 b, .int .i64 c]) (.int .i64 (way : Int))).run Try.prog W = .ok (.int .i64 c) W := by
                    intro W a b c
                    rw [hw]
                    exact run_pick2 W a b c
                  rw [hw] at c5
                  obtain ⟨q, HQ⟩ := named (wayW 2 many sf A.size)
                  rw [← HQ.out] at c5
                  have hq : q ≤ A.size := by rw [HQ.out]; exact wayW_le _ _ _ _ hsf
                  have hqs : min ((sf : Int) + (many : Int)) (A.size : Int) = (q : Int) := by rw [HQ.out, show wayW 2 many sf A.size = min (sf + many) A.size from rfl]; omega
                  clear hw
                  go_wp2_with fail
                  go_quiet (fail)
                  go_wp2_with fail
                  go_quiet (fail)
                  go_wp2_with fail
                  go_roundw
                  case rel => exact ⟨j + 1, by omega, by go_num, hbj.trans ⟨rfl, rfl, rfl, Nat.le_refl _, fun _ _ => rfl⟩⟩
                  case measure => simp [intOf]; omega
              · have hjl' : ¬ (j : Int) < n := by omega
                go_wp2
                go_roundw
                case rel => exact ⟨way + 1, by omega, by go_num, xcall hB6 hbj⟩
                case measure => simp [intOf]; omega
    · have hlt' : ¬ (way : Int) < 3 := by omega
      go_wp2_with fail
      refine (awake_true _).mono ?_
      rintro e w9 ⟨rfl, hb9⟩
      go_wp2
      go_ret
      exact ⟨rfl, xcall hb hb9⟩
end Go.Proofs.Ytloigepmmhcibaa
