/-
  The contract of whole: the bodies that are got from the first byte on. Own work.
-/
import Derived.Test.YtlpjfcfajagobaaFm
namespace Go.Proofs.Ytlpjfcfajagobaa
open Go.RowKit

set_option maxRecDepth 100000 in
set_option maxHeartbeats 1600000 in
theorem whole_any (v : Value) (L : List UInt8) (bs : List (List UInt8)) (pos : Nat → Nat) (m : Nat) (w : World) (hrd : Rd w v L) (hl : L.length ≤ 100000) (hmb : bs.length = m) (hm : m ≤ L.length)
    (hp0 : pos 0 = 0) (hst : ∀ i (h : i < bs.length), getF L (pos i : Nat) = (bs[i], pos (i + 1), 0) ∧ pos i < pos (i + 1) ∧ pos (i + 1) ≤ L.length) (hend : (getF L (pos m : Nat)).2.2 ≠ 0) :
    Calls Try.prog 19 #[v] w fun e w' => ∃ vl vs, e = .returned (.tuple #[vl, .int .i64 (pos m : Nat)]) ∧ vs.length = m ∧ OwnV w' w.heap.size 22 vl vs ∧
      (∀ (i : Nat) x b, vs[i]? = some x → bs[i]? = some b → Own w' w.heap.size x b) ∧ Below w.heap.size w w' := by
  obtain ⟨i0, hi, hz0, hz1, hz2⟩ := info_parts Try.info22
  obtain ⟨ao, cap, hv, -⟩ := id hrd
  subst hv
  obtain ⟨ll, HLL⟩ := named L.length
  rw [← HLL.out] at hm hl hrd ⊢
  have HST : Hid _ := hst
  have HEND : Hid _ := hend
  have HMB : Hid _ := hmb
  have HP0 : Hid _ := hp0
  clear hst hend hmb hp0
  go_enter Try.func19, Try.ntmps19
  go_wp2
  go_loopw [4, 5, 6] (fun lv av iv wr => ∃ (k p : Nat) (vs : List Value), k ≤ m ∧ iv = .int .i64 k ∧ av = .int .i64 p ∧ p = pos k ∧ p ≤ ll ∧ vs.length = k ∧ OwnV wr w.heap.size 22 lv vs ∧ (∀ (i : Nat) x b, vs[i]? = some x → bs[i]? = some b → Own wr w.heap.size x b) ∧ Below w.heap.size w wr) (fun _ _ iv _ => ll + 1 - (intOf iv).toNat)
  case atStart => exact ⟨0, 0, [], by omega, rfl, rfl, HP0.out.symm, by omega, rfl, OwnV.nil _ _ _, fun i x b h => by simp at h, Below.refl _ _⟩
  case round =>
    obtain ⟨k, p, vs, hk, rfl, rfl, hp, hpl, hvl, hol, hel, hb⟩ := hrel
    have HPK : Hid _ := hp
    have HEL : Hid _ := hel
    have HVL : Hid _ := hvl
    clear hp hel hvl
    have hle : (k : Int) ≤ ll := by omega
    have hrd1 := hrd.below hb
    have hsz := hb.size
    have hget := get_any _ L p wr hrd1 (by rw [← HLL.out]; omega)
    by_cases hlt : k < m
    · obtain ⟨h1, h2, h3⟩ := HST.out k (by rw [HMB.out]; exact hlt)
      rw [← HPK.out] at h1 h2
      rw [← HLL.out] at h3
      rw [h1] at hget
      simp only at hget
      have hbk : bs[k]? = some (bs[k]'(by rw [HMB.out]; exact hlt)) := List.getElem?_eq_getElem _
      obtain ⟨b, HB⟩ := named (bs[k]'(by rw [HMB.out]; exact hlt))
      rw [← HB.out] at hget hbk
      obtain ⟨q, HQ⟩ := named (pos (k + 1))
      rw [← HQ.out] at hget h2 h3
      have HBK : Hid _ := hbk
      have h2' : ¬ (q : Int) ≤ (p : Int) := by omega
      have h3' : ¬ (ll : Int) < (q : Int) := by omega
      clear h1 hbk
      go_wp2_with fail
      refine hget.mono ?_
      rintro e w2 ⟨v2, rfl, hown2, hb2⟩
      clear hget
      have hob2 : Own w2 w.heap.size v2 b := hown2.mono hsz
      have hol2 := hol.below hb2
      have hB2 := below_call hb hb2
      have hs2 := hB2.size
      have hel2 : ∀ (i : Nat) x b, vs[i]? = some x → bs[i]? = some b → Own w2 w.heap.size x b := fun i x b hx hb' => Own.below (HEL.out i x b hx hb') hb2
      obtain ⟨a2, c2, hv2, -⟩ := id hown2.rd
      subst hv2
      obtain ⟨lv', w3, hr3, ho3, hg3⟩ := run_append_v (P := Try.prog) (w2.alloc (.cells #[.slice a2 b.length c2] 22)) 33 33 22 i0 (.slice none 0 0) 24 Try.underlying33 hi hz0 hz1 hz2 rfl (by omega) w.heap.size u4 (.slice a2 b.length c2) ⟨w2.heap.size, 0, none⟩ 1 vs rfl (by simp) (hol2.alloc _) (by have := HVL.out; omega) (by simp; omega)
      have hb3 : Below w.heap.size w w3 := (hB2.alloc hs2 _).grown hg3 (by simp; omega) (fun k hk => (World.ownsRow.lt hol2 k hk).1)
      have holA := hol2.alloc (.cells #[.slice a2 b.length c2] 22)
      have hobA := hob2.alloc (.cells #[.slice a2 b.length c2] 22)
      have hob3 : Own w3 w.heap.size (.slice a2 b.length c2) b := World.ownsRow.kept hobA hg3 (own_apart hobA holA (by decide))
      have hel3 : ∀ (i : Nat) x b', (vs ++ [Value.slice a2 b.length c2])[i]? = some x → bs[i]? = some b' → Own w3 w.heap.size x b' := by
        intro i x b' hx hb'
        by_cases hi' : i < vs.length
        · rw [List.getElem?_append_left hi'] at hx
          have hA := Own.alloc (hel2 i x b' hx hb') (.cells #[.slice a2 b.length c2] 22)
          exact World.ownsRow.kept hA hg3 (own_apart hA holA (by decide))
        · rw [List.getElem?_append_right (by omega)] at hx
          have hi0 : i - vs.length = 0 := by
            rcases Nat.eq_zero_or_pos (i - vs.length) with h | h
            · exact h
            · rw [List.getElem?_eq_none (by simp; omega)] at hx
              cases hx
          rw [hi0] at hx
          have hik : i = k := by have := HVL.out; omega
          subst hik
          rw [HBK.out] at hb'
          cases hb'
          cases hx
          exact hob3
      have HE3 : Hid _ := hel3
      have HO3 : Hid _ := ho3
      clear hel2 hel3 hol2 hob2 hown2 holA hobA hg3 ho3 hob3 hol hb2 hb
      go_wp2_with (at_builtin; refine Lib.wpList_append_run _ rfl (.tmp 36) (.tmp 38) 33 33 rfl _ _ rfl rfl _ _ hr3 ?_)
      refine ⟨⟨k + 1, q, _, by omega, by go_num, rfl, HQ.out, h3, ?_, HO3.out, HE3.out, hb3⟩, by simp [intOf]; omega⟩
      rw [List.length_append, HVL.out]
      rfl
    · have hkm : k = m := by omega
      subst hkm
      have hne := HEND.out
      rw [← HPK.out] at hne
      obtain ⟨E, HE⟩ := named (getF L (p : Int)).2.2
      obtain ⟨N2, HN2⟩ := named (getF L (p : Int)).2.1
      rw [← HE.out] at hget hne
      rw [← HN2.out] at hget
      have hE : ((E : Int) != 0) = true := by
        simp only [bne_iff_ne]
        intro h
        exact hne (by omega)
      clear hne
      go_wp2_with fail
      refine hget.mono ?_
      rintro e w2 ⟨v2, rfl, -, hb2⟩
      have hol2 := hol.below hb2
      have hB2 := below_call hb hb2
      clear hget
      go_wp2
      go_ret2
      exact ⟨_, vs, by rw [← HPK.out]; rfl, HVL.out, hol2, fun i x b hx hb' => Own.below (HEL.out i x b hx hb') hb2, hB2⟩

set_option maxRecDepth 100000 in
set_option maxHeartbeats 1600000 in
theorem sameLists_true (vu vv : Value) (us vs : List Value) (bs : List (List UInt8)) (n : Nat) (w : World) (hu : RdV w vu us) (hv : RdV w vv vs) (hun : us.length = n) (hvn : vs.length = n) (hbn : bs.length = n)
    (hru : ∀ (i : Nat) x b, us[i]? = some x → bs[i]? = some b → Rd w x b) (hrv : ∀ (i : Nat) x b, vs[i]? = some x → bs[i]? = some b → Rd w x b) :
    Calls Try.prog 20 #[vu, vv] w fun e w' => e = .returned (.bool true) ∧ Below w.heap.size w w' := by
  obtain ⟨uo, uc, hv1, hu1, hu2, -⟩ := id hu
  obtain ⟨vo, vc, hv2, hv1', hv2', -⟩ := id hv
  rw [hun] at hv1 hu1
  rw [hvn] at hv2 hv1'
  subst hv1 hv2
  have HU : Hid _ := hu
  have HV : Hid _ := hv
  have HRU : Hid _ := hru
  have HRV : Hid _ := hrv
  have HN : Hid (us.length = n ∧ vs.length = n ∧ bs.length = n) := ⟨hun, hvn, hbn⟩
  unfold maxLen at hu2 hv2'
  clear hu hv hru hrv hun hvn hbn
  have hnn : ((n : Int) == (n : Int)) = true := by simp
  go_enter Try.func20, Try.ntmps20
  go_wp2
  go_loopw [8] (fun iv wr => ∃ k : Nat, k ≤ n ∧ iv = .int .i64 k ∧ Below w.heap.size w wr) (fun iv _ => n - (intOf iv).toNat)
  case atStart => exact ⟨0, by omega, rfl, Below.refl _ _⟩
  case round =>
    obtain ⟨k, hk, rfl, hb⟩ := hrel
    by_cases hlt : k < n
    · have hlt' : (k : Int) < n := by omega
      have hne : ((k : Int) == (n : Int)) = false := by simp only [beq_eq_false_iff_ne]; omega
      have hku : k < us.length := by rw [HN.out.1]; exact hlt
      have hkv : k < vs.length := by rw [HN.out.2.1]; exact hlt
      have hkb : k < bs.length := by rw [HN.out.2.2]; exact hlt
      obtain ⟨b0, off, c0, hv0, hc0, -, hb0, hcs⟩ := RdV.cells (show RdV w (.slice uo n uc) us from HU.out) (by omega)
      obtain ⟨b1, off1, c1, hv1, hc1, -, hb1, hcs1⟩ := RdV.cells (show RdV w (.slice vo n vc) vs from HV.out) (by omega)
      rw [HN.out.1] at hv0 hc0
      rw [HN.out.2.1] at hv1 hc1
      cases hv0
      cases hv1
      have hck := (hb.cell (p := ⟨b0, off + k, none⟩) hb0).trans (hcs k hku)
      have hck1 := (hb.cell (p := ⟨b1, off1 + k, none⟩) hb1).trans (hcs1 k hkv)
      have hr0 := (HRU.out k _ _ (List.getElem?_eq_getElem hku) (List.getElem?_eq_getElem hkb)).below hb
      have hr1 := (HRV.out k _ _ (List.getElem?_eq_getElem hkv) (List.getElem?_eq_getElem hkb)).below hb
      obtain ⟨x0, HX0⟩ := named (us[k]'hku)
      obtain ⟨x1, HX1⟩ := named (vs[k]'hkv)
      rw [← HX0.out] at hck hr0
      rw [← HX1.out] at hck1 hr1
      obtain ⟨p0, q0, hx0, -⟩ := id hr0
      subst hx0
      obtain ⟨p1, q1, hx1, -⟩ := id hr1
      subst hx1
      have hs := same_any _ _ _ _ wr.drew hr0.drew hr1.drew
      rw [decide_eq_true rfl] at hs
      have HS : Hid _ := hs
      obtain ⟨bl, HBL⟩ := named (bs[k]'hkb).length
      rw [← HBL.out] at hck hck1 HS
      have hd0 : wr.drew.cell? ⟨b0, off + k, none⟩ = some (Value.slice p0 bl q0) := hck
      have hd1 : wr.drew.cell? ⟨b1, off1 + k, none⟩ = some (Value.slice p1 bl q1) := hck1
      clear hcs hcs1 hs hr0 hr1 HX0 HX1
      go_wp2_with fail
      go_region_held3 (fun w' => w'.cell? ⟨b0, off + k, none⟩ = some (Value.slice p0 bl q0) ∧ w'.cell? ⟨b1, off1 + k, none⟩ = some (Value.slice p1 bl q1)) (exact ⟨hd0, hd1⟩)
        (first | (go_at_call 17; refine Calls.mono HS.out ?_; rintro e w6 ⟨rfl, rfl⟩))
      go_wp2
      go_roundw
      case rel => exact ⟨k + 1, by omega, by go_num, hb.drew⟩
      case measure => simp [intOf]; omega
    · have hlt' : ¬ (k : Int) < n := by omega
      go_wp2
      go_ret
      exact ⟨rfl, hb⟩
end Go.Proofs.Ytlpjfcfajagobaa
