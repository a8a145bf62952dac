/-
  The contract of the document's own Get. Own work.
-/
import Derived.Test.YtffgbjojngnebaaDoorRw
import Derived.Deep.QuietTactic
import Derived.BigQuiet
namespace Go.Proofs.YtffgbjojngnebaaDoor
open Go.RowKit

theorem get4 (a b : List UInt8) (ha : a.length = 4) (hb : b.length = 4) : a = b ↔ ∀ j, j < 4 → a.getD j 0 = b.getD j 0 := by
  constructor
  · rintro rfl j _; rfl
  · intro h
    apply List.ext_getElem (by omega)
    intro i h1 h2
    have := h i (by omega)
    simpa [List.getD, h1, h2] using this
theorem unseal_cut (l : List UInt8) (q n : Nat) (h : q + n + 4 ≤ l.length) :
    unsealL ((l.take (q + n + 4)).drop q) = if (∀ j, j < 4 → l.getD (q + n + j) 0 = (be4 (crc ((l.take (q + n)).drop q))).getD j 0) then ((l.take (q + n)).drop q, 0) else ([], 12) := by
  have hs : ((l.take (q + n + 4)).drop q).length = n + 4 := by rw [List.length_drop, List.length_take]; omega
  have e1 : ((l.take (q + n + 4)).drop q).take n = (l.take (q + n)).drop q := by
    apply List.ext_getElem?
    intro i
    simp only [List.getElem?_take, List.getElem?_drop]
    by_cases hi : i < n
    · rw [if_pos hi, if_pos (by omega), if_pos (by omega)]
    · rw [if_neg hi, if_neg (by omega)]
  have e2 : ∀ j, j < 4 → (((l.take (q + n + 4)).drop q).drop n).getD j 0 = l.getD (q + n + j) 0 := by
    intro j hj
    unfold List.getD
    rw [List.getElem?_drop, List.getElem?_drop, List.getElem?_take, if_pos (by omega), show q + (n + j) = q + n + j by omega]
  have e3 : (((l.take (q + n + 4)).drop q).drop n).length = 4 := by rw [List.length_drop, hs]; omega
  unfold unsealL
  rw [if_neg (by omega), hs, show n + 4 - 4 = n by omega, e1]
  have hiff := get4 _ (be4 (crc ((l.take (q + n)).drop q))) e3 rfl
  by_cases hc : ∀ j, j < 4 → l.getD (q + n + j) 0 = (be4 (crc ((l.take (q + n)).drop q))).getD j 0
  · rw [if_pos hc, if_pos (hiff.2 (fun j hj => by rw [e2 j hj]; exact hc j hj))]
  · rw [if_neg hc, if_neg (fun he => hc (fun j hj => by rw [← e2 j hj]; exact hiff.1 he j hj))]

theorem frame_sum (b : List UInt8) (j : Nat) (hj : j < 4) : (frameL b)[(frameL b).length - 5 + j]? = some ((be4 (crc b)).getD j 0) := by
  have e : frameL b = (U b.length ++ b) ++ (be4 (crc b) ++ [165]) := by unfold frameL; simp
  have hl : (frameL b).length - 5 = (U b.length ++ b).length := by rw [frameL_length, List.length_append]; omega
  rw [hl, e, List.getElem?_append_right (by omega), show (U b.length ++ b).length + j - (U b.length ++ b).length = j by omega, List.getElem?_append_left (by rw [be4_len]; exact hj), List.getElem?_eq_getElem (by rw [be4_len]; exact hj)]
  unfold List.getD
  rw [List.getElem?_eq_getElem (by rw [be4_len]; exact hj)]
  rfl

set_option maxRecDepth 100000 in
set_option maxHeartbeats 1600000 in
theorem refGet_any (v : Value) (l : List UInt8) (p : Int) (w : World) (hrd : Rd w v l) (hl : l.length ≤ 1000000) :
    Calls Tryd.prog 59 #[v, .int .i64 p] w fun e w' => ∃ v, e = .returned (.tuple #[v, .int .i64 (getF l p).2.1, .int .i64 (getF l p).2.2]) ∧ Own w' w.heap.size v (getF l p).1 ∧ Below w.heap.size w w' := by
  obtain ⟨i0, hi, hz0, hz1, hz2⟩ := info_parts Tryd.info5
  have hpl := getU_place l p
  have hlt := getU_lt l p
  have hcall := refGetUint_any v l p w hrd (by omega)
  have hF : getF l p = getF l p := rfl
  have hB : bnd l p = if (getU l p).2.2 ≠ 0 then (0, 0, (getU l p).2.2)
    else if (getU l p).1 = 0 ∨ 1048576 < (getU l p).1 then (0, 0, 10)
    else if l.length ≤ (getU l p).2.1 + (getU l p).1 + 4 then (0, 0, 11)
    else ((getU l p).2.1, (getU l p).2.1 + (getU l p).1 + 4, 0) := rfl
  unfold getF at hF
  obtain ⟨R, HR⟩ := named (getU l p)
  obtain ⟨n, from_, er⟩ := R
  rw [← HR.out] at hpl hlt hcall hB
  simp only at hpl hlt hcall hB
  obtain ⟨GF, HGF⟩ := named (getF l p)
  have hF2 : GF = _ := HGF.out.trans (show getF l p = _ from rfl : getF l p = if (bnd l p).2.2 ≠ 0 then ([], 0, (bnd l p).2.2)
    else if l.getD (bnd l p).2.1 0 ≠ 165 then ([], 0, 10)
    else if (unsealL ((l.take (bnd l p).2.1).drop (bnd l p).1)).2 ≠ 0 then ([], 0, (unsealL ((l.take (bnd l p).2.1).drop (bnd l p).1)).2)
    else ((unsealL ((l.take (bnd l p).2.1).drop (bnd l p).1)).1, (bnd l p).2.1 + 1, 0))
  rw [← HGF.out]
  clear hF
  obtain ⟨ao, cap, hv, h1, h2, -⟩ := id hrd
  by_cases he : er = 0
  · rw [if_neg (by simpa using he)] at hB
    subst he
    obtain ⟨hp0, hp1, hp2⟩ := hpl rfl
    clear hpl
    by_cases hn0 : n = 0
    · rw [if_pos (Or.inl hn0)] at hB
      rw [hB] at hF2
      rw [if_pos (by simp)] at hF2
      subst hF2
      subst hn0
      subst hv
      clear hB
      go_enter Tryd.func59, Tryd.ntmps59
      go_wp2_with fail
      refine hcall.mono ?_
      rintro e w1 ⟨rfl, hw1⟩
      subst hw1
      clear hcall
      go_wp2
      go_ret3
      exact ⟨_, rfl, Own.nil _ _, Below.refl _ _⟩
    · by_cases hn1 : 1048576 < n
      · rw [if_pos (Or.inr hn1)] at hB
        rw [hB] at hF2
        rw [if_pos (by simp)] at hF2
        subst hF2
        subst hv
        have hn1' : (1048576 : Int) < n := by omega
        have hn0' : ¬ (n : Int) < 1 := by omega
        clear hB
        go_enter Tryd.func59, Tryd.ntmps59
        go_wp2_with fail
        refine hcall.mono ?_
        rintro e w1 ⟨rfl, hw1⟩
        subst hw1
        clear hcall
        go_wp2
        go_ret3
        exact ⟨_, rfl, Own.nil _ _, Below.refl _ _⟩
      · rw [if_neg (by omega)] at hB
        have hn1' : ¬ (1048576 : Int) < n := by omega
        have hn0' : ¬ (n : Int) < 1 := by omega
        by_cases hs : l.length ≤ from_ + n + 4
        · rw [if_pos hs] at hB
          rw [hB] at hF2
          rw [if_pos (by simp)] at hF2
          subst hF2
          subst hv
          clear hB
          have hs' : (l.length : Int) < (from_ : Int) + n + 5 := by omega
          go_enter Tryd.func59, Tryd.ntmps59
          go_wp2_with fail
          refine hcall.mono ?_
          rintro e w1 ⟨rfl, hw1⟩
          subst hw1
          clear hcall
          go_wp2
          go_ret3
          exact ⟨_, rfl, Own.nil _ _, Below.refl _ _⟩
        · rw [if_neg hs] at hB
          rw [hB] at hF2
          simp only at hF2
          rw [if_neg (by simp), unseal_cut l from_ n (by omega)] at hF2
          have hnx : (from_ : Int) + n + 5 ≤ l.length := by omega
          obtain ⟨b, off, cap', hv', -, -, h3, h4, h5⟩ : ∃ b off cap, v = .slice (some ⟨b, off, none⟩) l.length cap ∧ 0 < l.length ∧ l.length ≤ cap ∧ cap ≤ maxLen ∧ b < w.heap.size ∧ ∀ i (h : i < l.length), w.cell? ⟨b, off + i, none⟩ = some (.int .u8 (l[i].toNat : Int)) := by
            rcases hrd.cases with ⟨rfl, -⟩ | h
            · simp at hp2 hs
            · exact h
          rw [hv'] at hv
          cases hv
          subst hv'
          have HC : Hid _ := h5
          have hlst : from_ + n + 4 < l.length := by omega
          have hc := h5 (from_ + n + 4) hlst
          have hd : l.getD (from_ + n + 4) 0 = l[from_ + n + 4] := by simp [List.getD, hlst]
          rw [hd] at hF2
          obtain ⟨x, HX⟩ := named (l[from_ + n + 4]'hlst)
          rw [← HX.out] at hc hF2
          clear h5 hd hB HX
          obtain ⟨m, HM⟩ := named l.length
          rw [← HM.out] at hp2 hnx h1 hl hcall hrd hlst ⊢
          unfold maxLen at h3
          by_cases hx : x = 165
          · subst hx
            rw [if_neg (by simp)] at hF2
            have hml : from_ + n ≤ m := by omega
            have hcut : Rd w (.slice (some ⟨b, off + from_, none⟩) n (cap - from_)) ((l.take (from_ + n)).drop from_) := by
              have hr := hrd
              rw [HM.out] at hr
              have := hr.cut from_ (from_ + n) (by omega) (by rw [← HM.out]; exact hml)
              rw [Option.map_some, addr_add, show from_ + n - from_ = n by omega] at this
              exact this
            have hbdl : ((l.take (from_ + n)).drop from_).length = n := by rw [List.length_drop, List.length_take, ← HM.out]; omega
            have hsum := frame_sum ((l.take (from_ + n)).drop from_)
            have hfl := frameL_length ((l.take (from_ + n)).drop from_)
            obtain ⟨bd, HBD⟩ := named ((l.take (from_ + n)).drop from_)
            rw [← HBD.out] at hF2 hcut hbdl hsum hfl
            have hfr := fun v w h => refFrame_any v bd w h (by omega)
            obtain ⟨S4, HS4⟩ := named (be4 (crc bd))
            rw [← HS4.out] at hF2 hsum
            obtain ⟨F, HF⟩ := named (frameL bd)
            rw [← HF.out] at hsum hfl hfr
            obtain ⟨fl, HFL⟩ := named F.length
            rw [← HFL.out] at hsum hfl
            have hul := U_len bd.length
            rw [hbdl] at hfl hul
            have hfl5 : 5 ≤ fl := by omega
            have hflm : fl ≤ 2000000 := by omega
            have HSUM : Hid _ := hsum
            have HF2 : Hid _ := hF2
            have hn1l : 0 + bd.length ≤ 140737488355328 := by omega
            have HN1 : Hid _ := hn1l
            have HBL : Hid _ := hbdl
            have hfc : (from_ : Int) ≤ (from_ : Int) + n := by omega
            have hfc2 : (from_ : Int) + n ≤ (cap : Int) := by omega
            have hfc3 : ¬ cap = from_ := by omega
            clear hsum hF2 hn1l hbdl hul hfl
            go_enter Tryd.func59, Tryd.ntmps59
            go_wp2_with fail
            refine hcall.mono ?_
            rintro e w1 ⟨rfl, hw1⟩
            subst hw1
            clear hcall
            have HR0 : Hid _ := hrd
            have hcut' : Rd w (.slice (some ⟨b, off + from_, none⟩) (from_ + n - from_) (cap - from_)) bd := by rw [show from_ + n - from_ = n by omega]; exact hcut
            have HCUT : Hid _ := hcut
            have HCUT' : Hid _ := hcut'
            clear hlt hcut hcut'
            go_wp2_with (at_builtin; go_must (refine wpList_append_rd _ rfl (.tmp 45) (.tmp 52) 22 rfl i0 Tryd.underlying22 hi hz0 hz1 hz2 w.heap.size _ _ rfl rfl [] bd (Own.nil _ _) (by first | exact HCUT.out | exact HCUT'.out) HN1.out (Nat.le_refl _) ?_))
            intro v2 w2 hown2 hg2
            have hb2 : Below w.heap.size w w2 := (Below.refl _ _).grown hg2 (Nat.le_refl _) (fun k hk => by cases hk)
            have hown2' : Own w2 w.heap.size v2 bd := hown2
            clear hg2 HCUT HCUT' hown2
            go_wp2_with fail
            refine (hfr _ _ hown2'.rd).mono ?_
            rintro e w3 ⟨v3, rfl, hown3, hb3⟩
            have hown4 : Own w3 w.heap.size v2 bd := hown2'.below hb3
            have hB3 := below_call hb2 hb3
            obtain ⟨g3, c3, hv3, hc3, hc3m, hcl⟩ : ∃ g cap, v3 = .slice (some ⟨g, 0, none⟩) F.length cap ∧ F.length ≤ cap ∧ cap ≤ maxLen ∧ ∀ j, j < 4 → w3.cell? ⟨g, fl - 5 + j, none⟩ = some (.int .u8 ((S4.getD j 0).toNat : Int)) := by
              rcases hown3.shape with ⟨-, h⟩ | ⟨g, cap, h1, h2, h3, h4, h5, h6⟩
              · rw [HFL.out, h] at hfl5; simp at hfl5
              · refine ⟨g, cap, h1, h4, h5, fun j hj => ?_⟩
                obtain ⟨hlt, hge⟩ := List.getElem?_eq_some_iff.1 (HSUM.out j hj)
                rw [h6 _ hlt, hge]
            rw [← HFL.out] at hv3 hc3
            subst hv3
            unfold maxLen at hc3m
            have HCL : Hid _ := hcl
            have hcb : ∀ j (hj : from_ + n + j < l.length), w3.cell? ⟨b, off + (from_ + n + j), none⟩ = some (.int .u8 (l[from_ + n + j].toNat : Int)) := fun j hj => by
              rw [hB3.cell (p := ⟨b, off + (from_ + n + j), none⟩) h4]
              exact HC.out _ hj
            have HCB : Hid _ := hcb
            clear hcl hcb hown3 hown2' hb2 hb3 hrd
            go_wp2
            obtain ⟨nx, HNX⟩ := named (from_ + n + 5)
            have hnxe : (from_ : Int) + n + 5 = (nx : Int) := by rw [HNX.out]; omega
            rw [hnxe]
            have hnx5 : 5 ≤ nx := by rw [HNX.out]; omega
            have hnxm : nx ≤ m := by rw [HNX.out]; omega
            have hnxm' : nx ≤ 1000000 := by omega
            have hnxc : nx ≤ cap := by omega
            have hbe : from_ + n = nx - 5 := by rw [HNX.out]; omega
            have HBEQ : Hid _ := hbe
            have hB33 : Below w3.heap.size w3 w3 := Below.refl _ _
            clear hnxe hbe hc hlst hnx hp0 hp1 hp2 hfc hfc2 hfc3 hml hs hn0 hn1 hn1' hn0'
            go_loopw [13] (fun iv wr => ∃ k : Nat, k ≤ 4 ∧ iv = .int .i64 k ∧ Below w3.heap.size w3 wr ∧ ∀ j, j < k → l.getD (from_ + n + j) 0 = S4.getD j 0) (fun iv _ => 4 - (intOf iv).toNat)
            case atStart => exact ⟨0, by omega, rfl, hB33, fun j hj => absurd hj (by omega)⟩
            case round =>
              obtain ⟨k, hk, rfl, hb, hall⟩ := hrel
              have HALL : Hid _ := hall
              clear hall
              by_cases hlt : k < 4
              · have hlm : from_ + n + k < l.length := by rw [← HM.out]; have := HNX.out; omega
                have hc1 := (hb.cell (p := ⟨b, off + (from_ + n + k), none⟩) (by have := hB3.size; show b < _; omega)).trans (HCB.out k hlm)
                have hgd : l.getD (from_ + n + k) 0 = l[from_ + n + k] := by simp [List.getD, hlm]
                obtain ⟨x0, HX0⟩ := named (l[from_ + n + k]'hlm)
                rw [← HX0.out] at hc1 hgd
                have HGD : Hid _ := hgd
                have hc2 := (hb.cell (p := ⟨g3, fl - 5 + k, none⟩) (World.block_lt_of_cell? w3 _ (HCL.out k hlt))).trans (HCL.out k hlt)
                obtain ⟨x1, HX1⟩ := named (S4.getD k 0)
                rw [← HX1.out] at hc2
                rw [HBEQ.out] at hc1
                clear hgd
                have hk4 : (k : Int) < 4 := by omega
                by_cases hx : x0 = x1
                · have hx' : ((x0.toNat : Int) != (x1.toNat : Int)) = false := by simp [hx]
                  have HX : Hid _ := hx
                  clear hx
                  go_wp2
                  go_quiet (fail)
                  go_wp2
                  go_roundw
                  case rel =>
                    refine ⟨k + 1, by omega, by go_num, below_drewN hb _, fun j hj => ?_⟩
                    by_cases e : j = k
                    · subst e; rw [HGD.out, ← HX1.out]; exact HX.out
                    · exact HALL.out j (by omega)
                  case measure => simp [intOf]; omega
                · have hx' : ((x0.toNat : Int) != (x1.toNat : Int)) = true := by
                    simp only [bne_iff_ne]
                    intro h
                    exact hx (UInt8.toNat_inj.1 (by omega))
                  have hGF : GF = ([], 0, 12) := by
                    have hno : ¬ ∀ j, j < 4 → l.getD (from_ + n + j) 0 = S4.getD j 0 := fun h => hx (by rw [← HGD.out, HX1.out]; exact h k hlt)
                    rw [HF2.out]
                    simp only [if_neg hno]
                    rfl
                  have HGG : Hid _ := hGF
                  clear hx hGF
                  go_wp2
                  go_quiet (fail)
                  go_wp2
                  go_ret3
                  exact ⟨_, by rw [HGG.out]; rfl, by rw [HGG.out]; exact Own.nil _ _, below_call hB3 (below_drewN hb _)⟩
              · have hGF : GF = (bd, nx, 0) := by
                  have hk4 : k = 4 := by omega
                  have hyes : ∀ j, j < 4 → l.getD (from_ + n + j) 0 = S4.getD j 0 := fun j hj => HALL.out j (by omega)
                  rw [HF2.out, HNX.out]
                  simp only [if_pos hyes]
                  rfl
                have HGG : Hid _ := hGF
                clear hGF
                have hown5 := hown4.below hb
                go_wp2
                go_ret3
                exact ⟨_, by rw [HGG.out]; rfl, by rw [HGG.out]; exact hown5, below_call hB3 hb⟩
          · rw [if_pos hx] at hF2
            subst hF2
            have hx' : ((x.toNat : Int) != 165) = true := by
              simp only [bne_iff_ne]
              intro h
              exact hx (UInt8.toNat_inj.1 (by simp; omega))
            clear hx
            go_enter Tryd.func59, Tryd.ntmps59
            go_wp2_with fail
            refine hcall.mono ?_
            rintro e w1 ⟨rfl, hw1⟩
            subst hw1
            clear hcall
            go_wp2
            go_ret3
            exact ⟨_, rfl, Own.nil _ _, Below.refl _ _⟩
  · rw [if_pos (by simpa using he)] at hB
    rw [hB] at hF2
    simp only at hF2
    rw [if_pos (by simpa using he)] at hF2
    subst hF2
    subst hv
    have her : ((er : Int) != 0) = true := by simp only [bne_iff_ne]; omega
    clear he hpl hlt hB
    go_enter Tryd.func59, Tryd.ntmps59
    go_wp2_with fail
    refine hcall.mono ?_
    rintro e w1 ⟨rfl, hw1⟩
    subst hw1
    clear hcall
    go_wp2
    go_ret3
    exact ⟨_, rfl, Own.nil _ _, Below.refl _ _⟩
end Go.Proofs.YtffgbjojngnebaaDoor
