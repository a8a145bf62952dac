/-
  The contracts of frame.join, Put. Own work.
-/
import Derived.Test.YtlpjfcfajagobaaLow
namespace Go.Proofs.Ytlpjfcfajagobaa
open Go.RowKit

set_option maxRecDepth 100000 in
set_option maxHeartbeats 800000 in
theorem join_any (o : Value) (lo : List UInt8) (ps : List (Value × List UInt8)) (b cap : Nat) (w : World) (hcap : ps.length ≤ cap) (hmax : cap ≤ 1000)
    (hrdo : Rd w o lo) (hcell : ∀ i (h : i < ps.length), w.cell? ⟨b, i, none⟩ = some ps[i].1) (hrd : ∀ i (h : i < ps.length), Rd w ps[i].1 ps[i].2) (hb0 : b < w.heap.size) (htot : lo.length + (joined ps ps.length).length ≤ 140737488355000) :
    Calls Try.prog 22 #[o, .slice (some ⟨b, 0, none⟩) ps.length cap] w fun e w' => ∃ v, e = .returned v ∧ Own w' w.heap.size v (lo ++ joined ps ps.length) ∧ Below w.heap.size w w' := by
  obtain ⟨i0, hi, hz0, hz1, hz2⟩ := info_parts Try.info5
  obtain ⟨n, hn⟩ : ∃ n, n = ps.length := ⟨_, rfl⟩
  rw [← hn] at hcap htot ⊢
  have HN : Hid (n = ps.length) := hn
  have HC : Hid (∀ i (h : i < ps.length), w.cell? ⟨b, i, none⟩ = some ps[i].1) := hcell
  have HR : Hid (∀ i (h : i < ps.length), Rd w ps[i].1 ps[i].2) := hrd
  obtain ⟨ao, capo, hv, h1, h2, -⟩ := id hrdo
  subst hv
  clear hn hcell hrd
  obtain ⟨z, HZ0⟩ := named lo.length
  rw [← HZ0.out] at htot h1 hrdo ⊢
  go_enter Try.func22, Try.ntmps22
  go_wp2
  go_loop [5, 15] (fun sv iv => ∃ k : Nat, k ≤ n ∧ iv = .int .i64 k ∧ sv = .int .i64 ((z + (joined ps k).length : Nat) : Int)) (fun _ iv => n - (intOf iv).toNat)
  case atStart => exact ⟨0, by omega, rfl, rfl⟩
  case round =>
    obtain ⟨k, hk, rfl, rfl⟩ := hrel
    have hle : (joined ps k).length ≤ (joined ps n).length := by rw [HN.out]; exact joined_le ps k
    obtain ⟨sz, HZ⟩ := named ((joined ps k).length)
    rw [← HZ.out] at hle ⊢
    by_cases hlt : k < n
    · have hkp : k < ps.length := by rw [← HN.out]; exact hlt
      have hj := joined_succ ps k hkp
      have hle2 : (joined ps (k + 1)).length ≤ (joined ps n).length := by rw [HN.out]; exact joined_le ps (k + 1)
      rw [hj, List.length_append, ← HZ.out] at hle2
      have HJ : Hid (joined ps (k + 1) = joined ps k ++ ps[k].2) := hj
      clear hj
      have hc0 := HC.out k hkp
      obtain ⟨ao, c0, hv, h1, h2, h3, h4⟩ := HR.out k hkp
      rw [hv] at hc0
      clear h4 h3 hv
      obtain ⟨m, HM⟩ := named (ps[k].2.length)
      rw [← HM.out] at hle2 hc0 h1
      have hms : (m : Int) + ((z + sz : Nat) : Int) ≤ 140737488355328 := by omega
      go_wp2
      go_round
      case rel => exact ⟨k + 1, by omega, by go_num, by rw [HJ.out, List.length_append, ← HM.out, ← HZ.out]; go_num⟩
      case measure => simp [intOf]; omega
    · have hkn : k = n := by omega
      have HK : Hid (k = n) := hkn
      have hsz : z + sz ≤ 140737488355000 := by omega
      clear hkn
      obtain ⟨rm, HRM⟩ := named (z + sz)
      rw [← HRM.out] at hsz ⊢
      go_wp2_with (at_make; go_must (refine wpList_make_own _ rfl (.const (.int .i64 0)) (.tmp 24) 22 rfl w.heap.size 5 i0 (.int .u8 0) 1 Try.underlying22 hi hz0 hz1 .i64 .i64 _ rm rfl rfl rfl ?_ ?_ ?_ ?_))
      · omega
      · unfold maxLen; omega
      · intro w1 hown hg
        have hb1 : Below w.heap.size w w1 := (Below.refl _ _).grown hg (Nat.le_refl _) (fun k hk => by cases hk)
        have hrd1 := hrdo.below hb1
        have hsz1 := hb1.size
        have hown0 : Own w1 w.heap.size (.slice (some ⟨w.heap.size, 0, none⟩) 0 rm) [] := hown
        clear hg hown hrdo
        have hln : 0 + lo.length ≤ 140737488355328 := by rw [← HZ0.out]; omega
        have HL : Hid _ := hln
        clear hln
        go_wp2_with (at_builtin; go_must (refine wpList_append_rd _ rfl (.tmp 25) (.tmp 26) 22 rfl i0 Try.underlying22 hi hz0 hz1 hz2 w.heap.size _ _ rfl rfl [] lo hown0 hrd1 HL.out hsz1 ?_))
        intro v' w' hown' hg
        have hb' : Below w.heap.size w w' := hb1.grown hg hsz1 (fun k hk => (World.ownsRow.lt hown0 k hk).1)
        clear hg
        clear hown0 hb1 hrd1 hsz1
        go_wp2
        go_loopw [8, 30] (fun nv iv wr => ∃ k : Nat, k ≤ n ∧ iv = .int .i64 k ∧ Own wr w.heap.size nv (lo ++ joined ps k) ∧ Below w.heap.size w wr) (fun _ iv _ => n - (intOf iv).toNat)
        case atStart => exact ⟨0, by omega, rfl, by simpa [joined] using hown', hb'⟩
        case round =>
          obtain ⟨j, hj, rfl, hown, hb⟩ := hrel
          have hsz2 := hb.size
          by_cases hlt2 : j < n
          · have hkp : j < ps.length := by rw [← HN.out]; exact hlt2
            have hjo := joined_succ ps j hkp
            have hle2 : (joined ps (j + 1)).length ≤ (joined ps n).length := by rw [HN.out]; exact joined_le ps (j + 1)
            rw [hjo, List.length_append] at hle2
            have HJ : Hid (joined ps (j + 1) = joined ps j ++ ps[j].2) := hjo
            clear hjo
            have hc0 := (hb.cell (p := ⟨b, j, none⟩) hb0).trans (HC.out j hkp)
            have hrd0 := HR.out j hkp
            obtain ⟨ao, c0, hv, h1, h2, h3, h4⟩ := HR.out j hkp
            rw [hv] at hc0 hrd0
            clear h4 h3 hv
            have hrd1 := hrd0.below hb
            clear hrd0
            obtain ⟨q, HQ⟩ := named (ps[j].2)
            have hq0l : (lo ++ joined ps j).length + q.length ≤ 140737488355328 := by
              rw [List.length_append, HQ.out, ← HZ0.out]; omega
            obtain ⟨q0, HQ0⟩ := named (lo ++ joined ps j)
            rw [← HQ.out] at hrd1 hc0 h1
            rw [← HQ0.out] at hown hq0l
            have HQL : Hid _ := hq0l
            clear hq0l
            go_wp2_with (at_builtin; go_must (refine wpList_append_rd _ rfl (.tmp 34) (.tmp 35) 22 rfl i0 Try.underlying22 hi hz0 hz1 hz2 w.heap.size _ _ rfl rfl q0 q hown hrd1 HQL.out hsz2 ?_))
            intro v' w' hown' hg
            have hb' : Below w.heap.size w w' := hb.grown hg hsz2 (fun k hk => (World.ownsRow.lt hown k hk).1)
            clear hg
            go_wp2
            go_roundw
            case rel => exact ⟨j + 1, by omega, by go_num, by rw [HJ.out, ← HQ.out, ← List.append_assoc, ← HQ0.out]; exact hown', hb'⟩
            case measure => simp [intOf]; omega
          · have hjn : j = n := by omega
            subst hjn
            go_wp2
            go_ret
            exact ⟨_, rfl, hown, hb⟩

theorem join3 (w : World) (g : Nat) (hg : g = w.heap.size) (o v0 v1 v2 : Value) (lo l0 l1 l2 : List UInt8) (ho : Rd w o lo) (h0 : Rd w v0 l0) (h1 : Rd w v1 l1) (h2 : Rd w v2 l2) (hs : lo.length + l0.length + l1.length + l2.length ≤ 140737488355000) :
    Calls Try.prog 22 #[o, .slice (some ⟨g, 0, none⟩) 3 3] (w.alloc (.cells #[v0, v1, v2] 22)) fun e w' => ∃ v, e = .returned v ∧ Own w' g v (lo ++ (l0 ++ (l1 ++ l2))) ∧ Below g w w' := by
  subst hg
  have h := join_any o lo [(v0, l0), (v1, l1), (v2, l2)] w.heap.size 3 (w.alloc (.cells #[v0, v1, v2] 22)) (by simp) (by simp) (ho.alloc _)
    (fun i h => match i, h with | 0, _ => by simp | 1, _ => by simp | 2, _ => by simp)
    (fun i h => match i, h with | 0, _ => h0.alloc _ | 1, _ => h1.alloc _ | 2, _ => h2.alloc _) (by simp) (by simp [joined]; omega)
  refine h.mono ?_
  rintro e w' ⟨v, rfl, ho, hb⟩
  refine ⟨v, rfl, ?_, ((Below.refl w.heap.size w).alloc (Nat.le_refl _) _).trans (hb.mono (by simp))⟩
  have := ho.mono (base' := w.heap.size) (by simp)
  simpa [joined] using this

/-- the frame of a body -/
def frameL (b : List UInt8) : List UInt8 := U b.length ++ ((b ++ be4 (crc b)) ++ [165])
def putL (out b : List UInt8) : List UInt8 × Nat := if b.length = 0 then ([], 2) else if 1048576 < b.length then ([], 3) else (out ++ frameL b, 0)

set_option maxRecDepth 100000 in
set_option maxHeartbeats 800000 in
theorem put_any (o b : Value) (lo lb : List UInt8) (w : World) (hro : Rd w o lo) (hrb : Rd w b lb) (hl : lo.length ≤ 140737480000000) :
    Calls Try.prog 10 #[o, b] w fun e w' => ∃ v, e = .returned (.tuple #[v, .int .i64 (putL lo lb).2]) ∧ Own w' w.heap.size v (putL lo lb).1 ∧ Below w.heap.size w w' := by
  obtain ⟨ao, capo, hv, -⟩ := id hro
  subst hv
  obtain ⟨ab, capb, hv, h1, h2, -⟩ := id hrb
  subst hv
  by_cases h0 : lb.length = 0
  · have e : putL lo lb = ([], 2) := by unfold putL; rw [if_pos h0]
    rw [e]
    have h0' : ((lb.length : Int) == 0) = true := by simp only [beq_iff_eq]; omega
    clear h0 e
    go_enter Try.func10, Try.ntmps10
    go_wp2
    go_ret2
    exact ⟨_, rfl, Own.nil _ _, Below.refl _ _⟩
  · have h0' : ((lb.length : Int) == 0) = false := by simp only [beq_eq_false_iff_ne]; omega
    by_cases h3 : 1048576 < lb.length
    · have e : putL lo lb = ([], 3) := by unfold putL; rw [if_neg h0, if_pos h3]
      rw [e]
      have h3' : (1048576 : Int) < lb.length := by omega
      clear h0 e
      go_enter Try.func10, Try.ntmps10
      go_wp2
      go_ret2
      exact ⟨_, rfl, Own.nil _ _, Below.refl _ _⟩
    · have e : putL lo lb = (lo ++ frameL lb, 0) := by unfold putL; rw [if_neg h0, if_neg h3]
      rw [e]
      have h3' : ¬ (1048576 : Int) < lb.length := by omega
      have HF : Hid (frameL lb = U lb.length ++ ((lb ++ be4 (crc lb)) ++ [165])) := rfl
      have hul := U_len lb.length
      have hsl : (lb ++ be4 (crc lb)).length ≤ 1048600 := by rw [List.length_append]; show lb.length + 4 ≤ _; omega
      obtain ⟨pu, HP⟩ := named (U (lb.length : Int))
      obtain ⟨ps, HS⟩ := named (lb ++ be4 (crc lb))
      obtain ⟨pf, HPF⟩ := named (frameL lb)
      rw [← HP.out] at hul HF
      rw [← HS.out] at hsl HF
      rw [← HPF.out] at HF ⊢
      have HB : Hid (pu.length ≤ 10 ∧ ps.length ≤ 1048600 ∧ lo.length ≤ 140737480000000 ∧ lb.length ≤ 1048576) := ⟨hul, hsl, hl, by omega⟩
      clear e h0 hul hsl hl
      go_enter Try.func10, Try.ntmps10
      go_wp2_with fail
      refine (uint_any _ [] lb.length _ (by omega) (by have := HB.out; omega) (Rd.nil _) (by simp)).mono ?_
      rintro e w1 ⟨v1, rfl, hown1, hb1⟩
      rw [← HP.out, List.nil_append] at hown1
      have hro1 := hro.below hb1
      have hrb1 := hrb.below hb1
      have hr1 := hown1.rd
      obtain ⟨a1, c1, hv1, -⟩ := hown1.rd
      subst hv1
      go_wp2_with fail
      refine (seal_any _ lb _ hrb1 (by have := HB.out; omega)).mono ?_
      rintro e w2 ⟨v2, rfl, hown2, hb2⟩
      rw [← HS.out] at hown2
      have hro2 := hro1.below hb2
      have hr1' := hr1.below hb2
      have hr2 := hown2.rd
      obtain ⟨a2, c2, hv2, -⟩ := hown2.rd
      subst hv2
      clear hro1 hrb1 hr1 hro hrb
      go_wp2_with fail
      refine (join3 (w2.alloc (.cells #[.int .u8 165] 5)) (w2.heap.size + 1) (by simp) _ _ _ _ lo pu ps [165] (hro2.alloc _) (hr1'.alloc _) (hr2.alloc _) (Rd.one _ _ _ _ rfl) (by have := HB.out; simp; omega)).mono ?_
      rintro e w3 ⟨v3, rfl, hown3, hb3⟩
      rw [← HF.out] at hown3
      go_wp2
      go_ret2
      have hs1 := hb1.size
      have hs2 := hb2.size
      exact ⟨_, rfl, hown3.mono (by omega), ((below_call hb1 hb2).alloc (by omega) _).trans (hb3.mono (by omega))⟩
end Go.Proofs.Ytlpjfcfajagobaa
