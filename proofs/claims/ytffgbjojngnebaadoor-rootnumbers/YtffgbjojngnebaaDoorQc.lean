/-
  The contracts of bytes.check, Seal, CopyBytes, slices.Equal. The contract of bytes.Unseal. The contract of bytes.GetBlob. Small facts: string(b) under a name, a literal as what is read, what a call leaves. Own work.
-/
import Derived.Test.YtffgbjojngnebaaDoorQb
import Derived.Deep.QuietTactic
import Derived.BigQuiet
import Derived.Deep.RegionWith
namespace Go.Proofs.YtffgbjojngnebaaDoor
open Go.RowKit

set_option maxRecDepth 100000 in
set_option maxHeartbeats 800000 in
theorem check_any (v : Value) (l : List UInt8) (w : World) (hrd : Rd w v l) :
    Calls Tryd.prog 89 #[v] w fun e w' => ∃ v, e = .returned v ∧ Own w' w.heap.size v (be4 (crc l)) ∧ Below w.heap.size w w' := by
  have hmk : ∀ w, (Instr.makeSlice 22 (.int .i64 4) (.int .i64 4)).run Tryd.prog w = .ok (.slice (some ⟨w.heap.size, 0, none⟩) 4 4) (w.alloc (.cells #[.int .u8 0, .int .u8 0, .int .u8 0, .int .u8 0] 5)) := fun _ => by kernel_rfl
  obtain ⟨R, HR⟩ := named (crc l)
  rw [← HR.out]
  obtain ⟨ao, cap, hv, -⟩ := id hrd
  subst hv
  go_enter Tryd.func89, Tryd.ntmps89
  go_wp2_with fail
  refine (crc_any _ l _ hrd).mono ?_
  rintro e w1 ⟨rfl, hw1⟩
  subst hw1
  rw [← HR.out]
  go_wp2
  refine wp_loop_rounds 5 ?_
  iterate 5 (rw [rounds_succ]; go_wp2)
  go_ret
  rw [be4_cells]
  exact ⟨_, rfl, Own.new w (be4 R) (by simp [be4, maxLen]), (Below.refl _ _).alloc (Nat.le_refl _) _⟩

set_option maxRecDepth 100000 in
set_option maxHeartbeats 800000 in
theorem seal_any (v : Value) (l : List UInt8) (w : World) (hrd : Rd w v l) (hl : l.length ≤ 140737488355000) :
    Calls Tryd.prog 74 #[v] w fun e w' => ∃ v, e = .returned v ∧ Own w' w.heap.size v (l ++ be4 (crc l)) ∧ Below w.heap.size w w' := by
  have h4 : (be4 (crc l)).length = 4 := rfl
  obtain ⟨p, HP⟩ := named (be4 (crc l))
  rw [← HP.out] at h4 ⊢
  obtain ⟨ao, cap, hv, -⟩ := id hrd
  subst hv
  have H4 : Hid (p.length ≤ 4) := by show p.length ≤ 4; omega
  clear h4
  go_enter Tryd.func74, Tryd.ntmps74
  go_wp2_with fail
  refine (check_any _ l _ hrd).mono ?_
  rintro e w1 ⟨v1, rfl, hown1, hb1⟩
  rw [← HP.out] at hown1
  have hrd1 := hrd.below hb1
  have hrd2 := hown1.rd
  obtain ⟨a1, c1, hv1, -⟩ := hown1.rd
  subst hv1
  go_wp2_with fail
  refine (concat2 w1 _ _ l p hrd1 hrd2 (by have := H4.out; omega)).mono ?_
  rintro e w2 ⟨v2, rfl, hown2, hb2⟩
  go_wp2
  go_ret
  exact ⟨_, rfl, hown2.mono hb1.size, hb1.trans (hb2.mono hb1.size)⟩

set_option maxRecDepth 100000 in
set_option maxHeartbeats 800000 in
theorem copyBytes_any (v : Value) (l : List UInt8) (w : World) (hrd : Rd w v l) (hl : l.length ≤ 140737488355000) :
    Calls Tryd.prog 12 #[v] w fun e w' => ∃ v, e = .returned v ∧ Own w' w.heap.size v l ∧ Below w.heap.size w w' := by
  obtain ⟨i0, hi, hz0, hz1, hz2⟩ := info_parts Tryd.info5
  obtain ⟨ao, cap, hv, -⟩ := id hrd
  subst hv
  obtain ⟨n, HN⟩ := named l.length
  rw [← HN.out] at hl hrd ⊢
  go_enter Tryd.func12, Tryd.ntmps12
  go_wp2_with (at_make; go_must (refine wpList_make_own _ rfl (.const (.int .i64 0)) (.tmp 5) 22 rfl w.heap.size 5 i0 (.int .u8 0) 1 Tryd.underlying22 hi hz0 hz1 .i64 .i64 _ n rfl rfl rfl ?_ ?_ ?_ ?_))
  · rw [hz2]; omega
  · unfold maxLen; omega
  · exact Nat.le_refl _
  · intro w1 hown hg
    have hb1 : Below w.heap.size w w1 := (Below.refl _ _).grown hg (Nat.le_refl _) (fun k hk => by cases hk)
    have hrd1 := hrd.below hb1
    have hsz := hb1.size
    have hown0 : Own w1 w.heap.size (.slice (some ⟨w.heap.size, 0, none⟩) 0 n) [] := hown
    clear hg hown hrd
    have hln : 0 + l.length ≤ 140737488355328 := by rw [← HN.out]; omega
    have HL : Hid _ := hln
    clear hln
    go_wp2_with (at_builtin; go_must (refine wpList_append_rd _ rfl (.tmp 7) (.tmp 8) 22 rfl i0 Tryd.underlying22 hi hz0 hz1 hz2 w.heap.size _ _ rfl rfl [] l hown0 hrd1 HL.out hsz ?_))
    intro v' w' hown' hg
    have hb' : Below w.heap.size w w' := hb1.grown hg hsz (fun k hk => (World.ownsRow.lt hown0 k hk).1)
    clear hg
    go_wp2
    go_ret
    exact ⟨_, rfl, hown', hb'⟩

set_option maxRecDepth 100000 in
set_option maxHeartbeats 800000 in
theorem equal_any (v0 v1 : Value) (l0 l1 : List UInt8) (w : World) (hrd0 : Rd w v0 l0) (hrd1 : Rd w v1 l1) :
    Calls Tryd.prog 90 #[v0, v1] w fun e w' => e = .returned (.bool (decide (l0 = l1))) ∧ Below w.heap.size w w' ∧ w'.heap.size = w.heap.size := by
  by_cases hl : l0.length = l1.length
  · rcases hrd0.cases with ⟨rfl, ao, cap, rfl, h1, h2⟩ | ⟨b, off, cap, rfl, h1, h2, h3, h4, h5⟩
    · obtain ⟨a1, c1, rfl, -⟩ := hrd1
      have hl1 : l1 = [] := List.eq_nil_of_length_eq_zero (by simpa using hl.symm)
      subst hl1
      clear h1 h2 hrd0 hl
      go_enter Tryd.func90, Tryd.ntmps90
      go_wp2
      refine wp_loop_rounds 1 ?_
      rw [rounds_succ]
      go_wp2
      go_ret
      exact ⟨rfl, Below.refl _ _, rfl⟩
    · rcases hrd1.cases with ⟨rfl, ao, cap, rfl, h1', h2'⟩ | ⟨b1, off1, cap1, rfl, h1', h2', h3', h4', h5'⟩
      · rw [hl] at h1; simp at h1
      · have HC0 : Hid _ := h5
        have HC1 : Hid _ := h5'
        have HL : Hid _ := hl
        obtain ⟨n, HN⟩ := named l0.length
        rw [← HN.out] at h1 h2 hl ⊢
        rw [← hl] at h1' h2' ⊢
        unfold maxLen at h3 h3'
        clear h5 h5' hrd0 hrd1 hl
        have hnn : ((n : Int) != (n : Int)) = false := by simp
        obtain ⟨R, HR⟩ := named (decide (l0 = l1))
        rw [← HR.out]
        go_enter Tryd.func90, Tryd.ntmps90
        go_wp2
        go_loopw [13] (fun iv wr => ∃ k : Nat, k ≤ n ∧ iv = .int .i64 k ∧ Below w.heap.size w wr ∧ wr.heap.size = w.heap.size ∧ ∀ i (h0 : i < l0.length) (h1 : i < l1.length), i < k → l0[i] = l1[i]) (fun iv _ => n - (intOf iv).toNat)
        case atStart => exact ⟨0, by omega, rfl, Below.refl _ _, rfl, fun i _ _ h => absurd h (by omega)⟩
        case round =>
          obtain ⟨k, hk, rfl, hb, hsz, hall⟩ := hrel
          have HALL : Hid _ := hall
          have HSZ : Hid _ := hsz
          clear hall hsz
          by_cases hlt : k < n
          · have hk0 : k < l0.length := by rw [← HN.out]; exact hlt
            have hk1 : k < l1.length := by rw [← HL.out]; exact hk0
            have hc0 := (hb.cell (p := ⟨b, off + k, none⟩) h4).trans (HC0.out k hk0)
            have hc1 := (hb.cell (p := ⟨b1, off1 + k, none⟩) h4').trans (HC1.out k hk1)
            obtain ⟨x0, HX0⟩ := named (l0[k]'hk0)
            obtain ⟨x1, HX1⟩ := named (l1[k]'hk1)
            rw [← HX0.out] at hc0
            rw [← HX1.out] at hc1
            have hlt' : (k : Int) < n := by omega
            by_cases hx : x0 = x1
            · have hx' : ((x0.toNat : Int) != (x1.toNat : Int)) = false := by simp [hx]
              have HX : Hid _ := hx
              clear hx
              go_wp2
              go_quiet (fail)
              go_wp2
              go_roundw
              case rel =>
                refine ⟨k + 1, by omega, by go_num, below_drewN hb _, HSZ.out, fun i h0 h1 hi => ?_⟩
                by_cases e : i = k
                · subst e; rw [← HX0.out, ← HX1.out]; exact HX.out
                · exact HALL.out i h0 h1 (by omega)
              case measure => simp [intOf]; omega
            · have hx' : ((x0.toNat : Int) != (x1.toNat : Int)) = true := by
                simp only [bne_iff_ne]
                intro h
                exact hx (UInt8.toNat_inj.1 (by omega))
              have HX : Hid _ := hx
              clear hx
              have hR : R = false := by
                rw [HR.out]
                apply decide_eq_false
                intro e
                subst e
                exact HX.out (HX0.out.trans HX1.out.symm)
              have HRR : Hid _ := hR
              clear hR
              go_wp2
              go_quiet (fail)
              go_wp2
              go_ret
              exact ⟨by rw [HRR.out]; rfl, below_drewN hb _, HSZ.out⟩
          · have hR : R = true := by
              rw [HR.out]
              apply decide_eq_true
              apply List.ext_getElem HL.out
              intro i h0 h1
              exact HALL.out i h0 h1 (by have := HN.out; omega)
            have HRR : Hid _ := hR
            clear hR
            go_wp2
            go_ret
            exact ⟨by rw [HRR.out]; rfl, hb, HSZ.out⟩
  · have hR : decide (l0 = l1) = false := by
      apply decide_eq_false
      intro e
      exact hl (by rw [e])
    rw [hR]
    obtain ⟨a0, c0, rfl, -⟩ := hrd0
    obtain ⟨a1, c1, rfl, -⟩ := hrd1
    have hnn : ((l0.length : Int) != (l1.length : Int)) = true := by
      simp only [bne_iff_ne]
      omega
    clear hR
    go_enter Tryd.func90, Tryd.ntmps90
    go_wp2
    go_ret
    exact ⟨rfl, Below.refl _ _, rfl⟩
end Go.Proofs.YtffgbjojngnebaaDoor
namespace Go.Proofs.YtffgbjojngnebaaDoor
open Go.RowKit

set_option maxRecDepth 100000 in
set_option maxHeartbeats 800000 in
theorem unseal_any (v : Value) (l : List UInt8) (w : World) (hrd : Rd w v l) (hl : l.length ≤ 140737488355000) :
    Calls Tryd.prog 76 #[v] w fun e w' => ∃ v, e = .returned (.tuple #[v, .int .i64 (unsealL l).2]) ∧ Own w' w.heap.size v (unsealL l).1 ∧ Below w.heap.size w w' := by
  obtain ⟨ao, cap, hv, h1, h2, -⟩ := id hrd
  subst hv
  unfold maxLen at h2
  by_cases h4 : l.length < 4
  · have h4' : (l.length : Int) - 4 < 0 := by omega
    have e : unsealL l = ([], 11) := by unfold unsealL; rw [if_pos h4]
    rw [e]
    clear e
    go_enter Tryd.func76, Tryd.ntmps76
    go_wp2
    go_ret2
    exact ⟨_, rfl, Own.nil _ _, Below.refl _ _⟩
  · obtain ⟨m, hm⟩ : ∃ m, l.length = m + 4 := ⟨l.length - 4, by omega⟩
    have HM : Hid _ := hm
    have e : unsealL l = if l.drop m = be4 (crc (l.take m)) then (l.take m, 0) else ([], 12) := by unfold unsealL; rw [if_neg h4, hm, show m + 4 - 4 = m by omega]
    rw [e]
    clear e
    rw [hm] at hl hrd h1 ⊢
    clear hm h4
    have h4' : ¬ (m : Int) < 0 := by omega
    have hrdA := hrd.take m (by rw [HM.out]; omega)
    have hrdB := hrd.cut m (m + 4) (by omega) (by rw [HM.out]; omega)
    rw [← HM.out, List.take_length] at hrdB
    rw [HM.out, show m + 4 - m = 4 by omega] at hrdB
    obtain ⟨lA, HA⟩ := named (l.take m)
    obtain ⟨lB, HB⟩ := named (l.drop m)
    rw [← HA.out] at hrdA ⊢
    rw [← HB.out] at hrdB ⊢
    obtain ⟨K, HK⟩ := named (be4 (crc lA))
    rw [← HK.out]
    have hlA : lA.length ≤ 140737488355000 := by rw [HA.out, List.length_take]; omega
    have HLA : Hid _ := hlA
    clear hlA hrd
    by_cases hd : lB = K
    · rw [if_pos hd]
      have hD : decide (lB = K) = true := decide_eq_true hd
      clear hd
      go_enter Tryd.func76, Tryd.ntmps76
      go_wp2
      go_region_with (first
        | (go_at_call 89; refine (check_any _ lA _ ?_).mono ?_; exact hrdA.drew; rintro e w1 ⟨v1, rfl, hown1, hb1⟩; rw [← HK.out] at hown1; obtain ⟨a1, c1, hv1, -⟩ := id hown1.rd; subst hv1)
        | (go_at_call 90; refine (equal_any _ _ lB K _ ?_ ?_).mono ?_; exact hrdB.drew.below hb1; exact hown1.rd; rintro e w2 ⟨rfl, hb2, hsz2⟩; rw [hD]))
      all_goals
        have hrdC : Rd w2 (.slice ao m cap) lA := (hrdA.drew.below hb1).below hb2
        have hbb : Below w.heap.size w w2 := (Below.refl w.heap.size w).drew.trans (hb1.trans (hb2.mono hb1.size))
        clear hb1 hb2 hown1 hsz2 hrdA hrdB hD
        go_wp2_with fail
        refine (own_any _ lA _ hrdC HLA.out).mono ?_
        rintro e w3 ⟨v3, rfl, hown3, hb3⟩
        go_wp2
        go_ret2
        exact ⟨_, rfl, hown3.mono hbb.size, hbb.trans (hb3.mono hbb.size)⟩
    · rw [if_neg hd]
      have hD : decide (lB = K) = false := decide_eq_false hd
      clear hd
      go_enter Tryd.func76, Tryd.ntmps76
      go_wp2
      go_region_with (first
        | (go_at_call 89; refine (check_any _ lA _ ?_).mono ?_; exact hrdA.drew; rintro e w1 ⟨v1, rfl, hown1, hb1⟩; rw [← HK.out] at hown1; obtain ⟨a1, c1, hv1, -⟩ := id hown1.rd; subst hv1)
        | (go_at_call 90; refine (equal_any _ _ lB K _ ?_ ?_).mono ?_; exact hrdB.drew.below hb1; exact hown1.rd; rintro e w2 ⟨rfl, hb2, hsz2⟩; rw [hD]))
      all_goals
        have hbb : Below w.heap.size w w2 := (Below.refl w.heap.size w).drew.trans (hb1.trans (hb2.mono hb1.size))
        clear hb1 hb2 hown1 hsz2 hrdA hrdB hD
        go_wp2
        go_ret2
        exact ⟨_, rfl, Own.nil _ _, hbb⟩
end Go.Proofs.YtffgbjojngnebaaDoor
namespace Go.Proofs.YtffgbjojngnebaaDoor
open Go.RowKit

set_option maxRecDepth 100000 in
set_option maxHeartbeats 800000 in
theorem getBlob_any (v : Value) (l : List UInt8) (p q : Int) (w : World) (hrd : Rd w v l) (hl : l.length ≤ 140737488355000) (hq : q ≤ 9223372036854775807) :
    Calls Tryd.prog 78 #[v, .int .i64 p, .int .i64 q] w fun e w' => ∃ v, e = .returned (.tuple #[v, .int .i64 (getB l p q).2.1, .int .i64 (getB l p q).2.2]) ∧ Own w' w.heap.size v (getB l p q).1 ∧ Below w.heap.size w w' := by
  have hpl := getU_place l p
  have hG : getB l p q = if (getU l p).2.2 ≠ 0 then ([], 0, (getU l p).2.2)
    else if q < 0 ∨ q < (getU l p).1 then ([], 0, 3)
    else if l.length - (getU l p).2.1 < (getU l p).1 then ([], 0, 11)
    else ((l.drop (getU l p).2.1).take (getU l p).1, (getU l p).2.1 + (getU l p).1, 0) := rfl
  have hlt := getU_lt l p
  have HGU : Hid (getU l p = getU l p) := rfl
  have hcall := fun w => fun h => getUint_any v l p w h (by omega)
  obtain ⟨R, HR⟩ := named (getU l p)
  obtain ⟨n, from_, er⟩ := R
  rw [← HR.out] at hpl hG hlt
  simp only at hpl hG hlt
  rw [hG]
  clear hG HGU
  obtain ⟨ao, cap, hv, h1, h2, -⟩ := id hrd
  subst hv
  have hc2 : Calls Tryd.prog 77 #[.slice ao l.length cap, .int .i64 p] w fun e w' => e = .returned (.tuple #[.int .u64 n, .int .i64 from_, .int .i64 er]) ∧ w = w' := by
    have := hcall w hrd
    rw [← HR.out] at this
    exact this
  clear hcall
  by_cases he : er = 0
  · rw [if_neg (by simpa using he)]
    subst he
    obtain ⟨hp0, hp1, hp2⟩ := hpl rfl
    by_cases hm : q < 0 ∨ q < n
    · rw [if_pos hm]
      by_cases hq0 : q < 0
      · clear hm hpl hlt
        go_enter Tryd.func78, Tryd.ntmps78
        go_wp2_with fail
        refine hc2.mono ?_
        rintro e w1 ⟨rfl, hw1⟩
        subst hw1
        clear hc2
        go_wp2
        go_ret3
        exact ⟨_, rfl, Own.nil _ _, Below.refl _ _⟩
      · have hqn : q < n := by omega
        have HQ : Hid (q ≤ 9223372036854775807) := hq
        clear hm hpl hlt
        go_enter Tryd.func78, Tryd.ntmps78
        go_wp2_with fail
        refine hc2.mono ?_
        rintro e w1 ⟨rfl, hw1⟩
        subst hw1
        clear hc2
        go_wp2
        go_ret3
        exact ⟨_, rfl, Own.nil _ _, Below.refl _ _⟩
    · rw [if_neg hm]
      have hq0 : 0 ≤ q := by omega
      have hqn : (n : Int) ≤ q := by omega
      clear hm hpl hlt
      by_cases hs : l.length - from_ < n
      · rw [if_pos hs]
        go_enter Tryd.func78, Tryd.ntmps78
        go_wp2_with fail
        refine hc2.mono ?_
        rintro e w1 ⟨rfl, hw1⟩
        subst hw1
        clear hc2
        go_wp2
        go_ret3
        exact ⟨_, rfl, Own.nil _ _, Below.refl _ _⟩
      · rw [if_neg hs]
        have hn1 : from_ + n ≤ l.length := by omega
        have hln : ((l.drop from_).take n).length ≤ 140737488355000 := by rw [List.length_take, List.length_drop]; omega
        have HLN : Hid _ := hln
        clear hln
        unfold maxLen at h2
        by_cases hcf : cap = from_
        · obtain rfl : n = 0 := by omega
          subst hcf
          have hrdC : Rd w (.slice ao 0 0) ((l.drop cap).take 0) := by
            simp only [List.take_zero]
            exact ⟨ao, 0, rfl, Nat.le_refl _, by simp [maxLen], fun _ => rfl, fun a _ i hi => by simp at hi⟩
          obtain ⟨lC, HC⟩ := named ((l.drop cap).take 0)
          rw [← HC.out] at hrdC HLN ⊢
          go_enter Tryd.func78, Tryd.ntmps78
          go_wp2_with fail
          refine hc2.mono ?_
          rintro e w1 ⟨rfl, hw1⟩
          subst hw1
          clear hc2
          go_wp2_with fail
          refine (own_any _ lC _ hrdC HLN.out).mono ?_
          rintro e w3 ⟨v3, rfl, hown3, hb3⟩
          go_wp2
          go_ret3
          exact ⟨_, rfl, hown3, hb3⟩
        · have hrdC : Rd w (.slice (Option.map (fun x => x.add from_) ao) n (cap - from_)) ((l.drop from_).take n) := by
            have := hrd.cut from_ (from_ + n) (by omega) hn1
            rw [List.drop_take, show from_ + n - from_ = n by omega] at this
            exact this
          obtain ⟨lC, HC⟩ := named ((l.drop from_).take n)
          rw [← HC.out] at hrdC HLN ⊢
          go_enter Tryd.func78, Tryd.ntmps78
          go_wp2_with fail
          refine hc2.mono ?_
          rintro e w1 ⟨rfl, hw1⟩
          subst hw1
          clear hc2
          go_wp2_with fail
          refine (own_any _ lC _ hrdC HLN.out).mono ?_
          rintro e w3 ⟨v3, rfl, hown3, hb3⟩
          go_wp2
          go_ret3
          exact ⟨_, by simp, hown3, hb3⟩
  · rw [if_pos (by simpa using he)]
    have her : ((er : Int) != 0) = true := by simp only [bne_iff_ne]; omega
    have HE : Hid _ := he
    clear he hpl hlt
    go_enter Tryd.func78, Tryd.ntmps78
    go_wp2_with fail
    refine hc2.mono ?_
    rintro e w1 ⟨rfl, hw1⟩
    subst hw1
    clear hc2
    go_wp2
    go_ret3
    exact ⟨_, rfl, Own.nil _ _, Below.refl _ _⟩
end Go.Proofs.YtffgbjojngnebaaDoor
namespace Go.Proofs.YtffgbjojngnebaaDoor
open Go.RowKit

/-- string(b), under a name that the walk does not lay open -/
def toStr (v : Value) : Sem Value := convert 22 9 v
theorem run_toStr (v : Value) (w : World) : (convert 22 9 v).run Tryd.prog w = (toStr v).run Tryd.prog w := rfl
theorem run_str (w : World) (v : Value) (l : List UInt8) (h : Rd w v l) : (toStr v).run Tryd.prog w = .ok (.string ⟨l.toArray⟩) w := by
  unfold toStr
  obtain ⟨ao, cap, rfl, h1, h2, h3, h4⟩ := h
  cases ao with
  | none =>
    have hc := h3 rfl
    have hl : l = [] := List.eq_nil_of_length_eq_zero (by omega)
    subst hl
    rw [run_convert_bytes_string w 22 9 5 _ _ _ Tryd.underlying22 Tryd.underlying5 Tryd.underlying9]
    rfl
  | some a => exact run_convert_bytes_back w 22 9 5 a cap l Tryd.underlying22 Tryd.underlying5 Tryd.underlying9 (fun j hj => h4 a rfl j hj)
theorem Rd.lit (w : World) (cs : Array Value) (l : List UInt8) (n : Nat) (e : TypeId) (m : Nat × Nat) (h : cs = (BV l).toArray) (hn : n = l.length) (hl : n ≤ maxLen) : Rd (w.alloc (.cells cs e m)) (.slice (some ⟨w.heap.size, 0, none⟩) n n) l := by
  subst h
  subst hn
  refine ⟨_, _, rfl, Nat.le_refl _, hl, by simp, fun a ha i hi => ?_⟩
  obtain rfl := Option.some.inj ha
  have : (⟨w.heap.size, 0, none⟩ : Addr).add i = ⟨w.heap.size, i, none⟩ := by unfold Addr.add; split <;> simp_all
  rw [this, cell_of_row _ w.heap.size i (BV l).toArray e m (heap_alloc_new w _)]
  simp [BV, hi]
theorem below_alloc_call {w w1 w2 : World} {o : Obj} (h : Below w.heap.size w w1) (hb : Below (w1.alloc o).heap.size (w1.alloc o) w2) : Below w.heap.size w w2 :=
  (h.alloc h.size o).trans (hb.mono (by have := h.size; simp; omega))
theorem below_call {w w1 w2 : World} (h : Below w.heap.size w w1) (hb : Below w1.heap.size w1 w2) : Below w.heap.size w w2 := h.trans (hb.mono h.size)
end Go.Proofs.YtffgbjojngnebaaDoor
