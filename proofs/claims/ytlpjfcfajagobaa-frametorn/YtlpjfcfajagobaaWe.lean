/-
  The contracts of bytes.check, Seal, CopyBytes, slices.Equal. Own work.
-/
import Derived.Test.YtlpjfcfajagobaaWd
import Derived.Deep.QuietTactic
import Derived.BigQuiet
namespace Go.Proofs.Ytlpjfcfajagobaa
open Go.RowKit

set_option maxRecDepth 100000 in
set_option maxHeartbeats 800000 in
theorem check_any (v : Value) (l : List UInt8) (w : World) (hrd : Rd w v l) :
    Calls Try.prog 32 #[v] w fun e w' => ∃ v, e = .returned v ∧ Own w' w.heap.size v (be4 (crc l)) ∧ Below w.heap.size w w' := by
  have hmk : ∀ w, (Instr.makeSlice 22 (.int .i64 4) (.int .i64 4)).run Try.prog w = .ok (.slice (some ⟨w.heap.size, 0, none⟩) 4 4) (w.alloc (.cells #[.int .u8 0, .int .u8 0, .int .u8 0, .int .u8 0] 5)) := fun _ => by kernel_rfl
  obtain ⟨R, HR⟩ := named (crc l)
  rw [← HR.out]
  obtain ⟨ao, cap, hv, -⟩ := id hrd
  subst hv
  go_enter Try.func32, Try.ntmps32
  go_wp2_with fail
  refine (crc_any _ l _ hrd).mono ?_
  rintro e w1 ⟨rfl, hw1⟩
  subst hw1
  rw [← HR.out]
  go_wp2
  refine wp_loop_rounds 5 ?_
  iterate 5 (rw [rounds_succ]; go_wp2)
  go_ret
  rw [be4_cells]
  exact ⟨_, rfl, Own.new w (be4 R) (by simp [be4, maxLen]), (Below.refl _ _).alloc (Nat.le_refl _) _⟩

set_option maxRecDepth 100000 in
set_option maxHeartbeats 800000 in
theorem seal_any (v : Value) (l : List UInt8) (w : World) (hrd : Rd w v l) (hl : l.length ≤ 140737488355000) :
    Calls Try.prog 24 #[v] w fun e w' => ∃ v, e = .returned v ∧ Own w' w.heap.size v (l ++ be4 (crc l)) ∧ Below w.heap.size w w' := by
  have h4 : (be4 (crc l)).length = 4 := rfl
  obtain ⟨p, HP⟩ := named (be4 (crc l))
  rw [← HP.out] at h4 ⊢
  obtain ⟨ao, cap, hv, -⟩ := id hrd
  subst hv
  have H4 : Hid (p.length ≤ 4) := by show p.length ≤ 4; omega
  clear h4
  go_enter Try.func24, Try.ntmps24
  go_wp2_with fail
  refine (check_any _ l _ hrd).mono ?_
  rintro e w1 ⟨v1, rfl, hown1, hb1⟩
  rw [← HP.out] at hown1
  have hrd1 := hrd.below hb1
  have hrd2 := hown1.rd
  obtain ⟨a1, c1, hv1, -⟩ := hown1.rd
  subst hv1
  go_wp2_with fail
  refine (concat2 w1 _ _ l p hrd1 hrd2 (by have := H4.out; omega)).mono ?_
  rintro e w2 ⟨v2, rfl, hown2, hb2⟩
  go_wp2
  go_ret
  exact ⟨_, rfl, hown2.mono hb1.size, hb1.trans (hb2.mono hb1.size)⟩

set_option maxRecDepth 100000 in
set_option maxHeartbeats 800000 in
theorem copyBytes_any (v : Value) (l : List UInt8) (w : World) (hrd : Rd w v l) (hl : l.length ≤ 140737488355000) :
    Calls Try.prog 12 #[v] w fun e w' => ∃ v, e = .returned v ∧ Own w' w.heap.size v l ∧ Below w.heap.size w w' := by
  obtain ⟨i0, hi, hz0, hz1, hz2⟩ := info_parts Try.info5
  obtain ⟨ao, cap, hv, -⟩ := id hrd
  subst hv
  obtain ⟨n, HN⟩ := named l.length
  rw [← HN.out] at hl hrd ⊢
  go_enter Try.func12, Try.ntmps12
  go_wp2_with (at_make; go_must (refine wpList_make_own _ rfl (.const (.int .i64 0)) (.tmp 5) 22 rfl w.heap.size 5 i0 (.int .u8 0) 1 Try.underlying22 hi hz0 hz1 .i64 .i64 _ n rfl rfl rfl ?_ ?_ ?_ ?_))
  · rw [hz2]; omega
  · unfold maxLen; omega
  · exact Nat.le_refl _
  · intro w1 hown hg
    have hb1 : Below w.heap.size w w1 := (Below.refl _ _).grown hg (Nat.le_refl _) (fun k hk => by cases hk)
    have hrd1 := hrd.below hb1
    have hsz := hb1.size
    have hown0 : Own w1 w.heap.size (.slice (some ⟨w.heap.size, 0, none⟩) 0 n) [] := hown
    clear hg hown hrd
    have hln : 0 + l.length ≤ 140737488355328 := by rw [← HN.out]; omega
    have HL : Hid _ := hln
    clear hln
    go_wp2_with (at_builtin; go_must (refine wpList_append_rd _ rfl (.tmp 7) (.tmp 8) 22 rfl i0 Try.underlying22 hi hz0 hz1 hz2 w.heap.size _ _ rfl rfl [] l hown0 hrd1 HL.out hsz ?_))
    intro v' w' hown' hg
    have hb' : Below w.heap.size w w' := hb1.grown hg hsz (fun k hk => (World.ownsRow.lt hown0 k hk).1)
    clear hg
    go_wp2
    go_ret
    exact ⟨_, rfl, hown', hb'⟩

set_option maxRecDepth 100000 in
set_option maxHeartbeats 800000 in
theorem equal_any (v0 v1 : Value) (l0 l1 : List UInt8) (w : World) (hrd0 : Rd w v0 l0) (hrd1 : Rd w v1 l1) :
    Calls Try.prog 34 #[v0, v1] w fun e w' => e = .returned (.bool (decide (l0 = l1))) ∧ Below w.heap.size w w' ∧ w'.heap.size = w.heap.size := by
  by_cases hl : l0.length = l1.length
  · rcases hrd0.cases with ⟨rfl, ao, cap, rfl, h1, h2⟩ | ⟨b, off, cap, rfl, h1, h2, h3, h4, h5⟩
    · obtain ⟨a1, c1, rfl, -⟩ := hrd1
      have hl1 : l1 = [] := List.eq_nil_of_length_eq_zero (by simpa using hl.symm)
      subst hl1
      clear h1 h2 hrd0 hl
      go_enter Try.func34, Try.ntmps34
      go_wp2
      refine wp_loop_rounds 1 ?_
      rw [rounds_succ]
      go_wp2
      go_ret
      exact ⟨rfl, Below.refl _ _, rfl⟩
    · rcases hrd1.cases with ⟨rfl, ao, cap, rfl, h1', h2'⟩ | ⟨b1, off1, cap1, rfl, h1', h2', h3', h4', h5'⟩
      · rw [hl] at h1; simp at h1
      · have HC0 : Hid _ := h5
        have HC1 : Hid _ := h5'
        have HL : Hid _ := hl
        obtain ⟨n, HN⟩ := named l0.length
        rw [← HN.out] at h1 h2 hl ⊢
        rw [← hl] at h1' h2' ⊢
        unfold maxLen at h3 h3'
        clear h5 h5' hrd0 hrd1 hl
        have hnn : ((n : Int) != (n : Int)) = false := by simp
        obtain ⟨R, HR⟩ := named (decide (l0 = l1))
        rw [← HR.out]
        go_enter Try.func34, Try.ntmps34
        go_wp2
        go_loopw [13] (fun iv wr => ∃ k : Nat, k ≤ n ∧ iv = .int .i64 k ∧ Below w.heap.size w wr ∧ wr.heap.size = w.heap.size ∧ ∀ i (h0 : i < l0.length) (h1 : i < l1.length), i < k → l0[i] = l1[i]) (fun iv _ => n - (intOf iv).toNat)
        case atStart => exact ⟨0, by omega, rfl, Below.refl _ _, rfl, fun i _ _ h => absurd h (by omega)⟩
        case round =>
          obtain ⟨k, hk, rfl, hb, hsz, hall⟩ := hrel
          have HALL : Hid _ := hall
          have HSZ : Hid _ := hsz
          clear hall hsz
          by_cases hlt : k < n
          · have hk0 : k < l0.length := by rw [← HN.out]; exact hlt
            have hk1 : k < l1.length := by rw [← HL.out]; exact hk0
            have hc0 := (hb.cell (p := ⟨b, off + k, none⟩) h4).trans (HC0.out k hk0)
            have hc1 := (hb.cell (p := ⟨b1, off1 + k, none⟩) h4').trans (HC1.out k hk1)
            obtain ⟨x0, HX0⟩ := named (l0[k]'hk0)
            obtain ⟨x1, HX1⟩ := named (l1[k]'hk1)
            rw [← HX0.out] at hc0
            rw [← HX1.out] at hc1
            have hlt' : (k : Int) < n := by omega
            by_cases hx : x0 = x1
            · have hx' : ((x0.toNat : Int) != (x1.toNat : Int)) = false := by simp [hx]
              have HX : Hid _ := hx
              clear hx
              go_wp2
              go_quiet (fail)
              go_wp2
              go_roundw
              case rel =>
                refine ⟨k + 1, by omega, by go_num, below_drewN hb _, HSZ.out, fun i h0 h1 hi => ?_⟩
                by_cases e : i = k
                · subst e; rw [← HX0.out, ← HX1.out]; exact HX.out
                · exact HALL.out i h0 h1 (by omega)
              case measure => simp [intOf]; omega
            · have hx' : ((x0.toNat : Int) != (x1.toNat : Int)) = true := by
                simp only [bne_iff_ne]
                intro h
                exact hx (UInt8.toNat_inj.1 (by omega))
              have HX : Hid _ := hx
              clear hx
              have hR : R = false := by
                rw [HR.out]
                apply decide_eq_false
                intro e
                subst e
                exact HX.out (HX0.out.trans HX1.out.symm)
              have HRR : Hid _ := hR
              clear hR
              go_wp2
              go_quiet (fail)
              go_wp2
              go_ret
              exact ⟨by rw [HRR.out]; rfl, below_drewN hb _, HSZ.out⟩
          · have hR : R = true := by
              rw [HR.out]
              apply decide_eq_true
              apply List.ext_getElem HL.out
              intro i h0 h1
              exact HALL.out i h0 h1 (by have := HN.out; omega)
            have HRR : Hid _ := hR
            clear hR
            go_wp2
            go_ret
            exact ⟨by rw [HRR.out]; rfl, hb, HSZ.out⟩
  · have hR : decide (l0 = l1) = false := by
      apply decide_eq_false
      intro e
      exact hl (by rw [e])
    rw [hR]
    obtain ⟨a0, c0, rfl, -⟩ := hrd0
    obtain ⟨a1, c1, rfl, -⟩ := hrd1
    have hnn : ((l0.length : Int) != (l1.length : Int)) = true := by
      simp only [bne_iff_ne]
      omega
    clear hR
    go_enter Try.func34, Try.ntmps34
    go_wp2
    go_ret
    exact ⟨rfl, Below.refl _ _, rfl⟩
end Go.Proofs.Ytlpjfcfajagobaa
