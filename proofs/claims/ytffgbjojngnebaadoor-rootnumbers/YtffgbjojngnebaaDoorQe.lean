/-
  The contracts of frame.join, Put. The contracts of frame.bounds, Get. What is read of what was written, and how long it is: plain lemmas. A log of entries that is cut: what is read of it. Plain lemmas. The check: it is linear; a change within 32 bits running is seen. Plain lemmas. Frames as lists: what is put is got, what is cut is none. Own work, no walk. Own work.
-/
import Derived.Test.YtffgbjojngnebaaDoorQc
import Derived.Test.YtffgbjojngnebaaDoorQa
namespace Go.Proofs.YtffgbjojngnebaaDoor
open Go.RowKit

set_option maxRecDepth 100000 in
set_option maxHeartbeats 800000 in
theorem join_any (o : Value) (lo : List UInt8) (ps : List (Value × List UInt8)) (b cap : Nat) (w : World) (hcap : ps.length ≤ cap) (hmax : cap ≤ 1000)
    (hrdo : Rd w o lo) (hcell : ∀ i (h : i < ps.length), w.cell? ⟨b, i, none⟩ = some ps[i].1) (hrd : ∀ i (h : i < ps.length), Rd w ps[i].1 ps[i].2) (hb0 : b < w.heap.size) (htot : lo.length + (joined ps ps.length).length ≤ 140737488355000) :
    Calls Tryd.prog 73 #[o, .slice (some ⟨b, 0, none⟩) ps.length cap] w fun e w' => ∃ v, e = .returned v ∧ Own w' w.heap.size v (lo ++ joined ps ps.length) ∧ Below w.heap.size w w' := by
  obtain ⟨i0, hi, hz0, hz1, hz2⟩ := info_parts Tryd.info5
  obtain ⟨n, hn⟩ : ∃ n, n = ps.length := ⟨_, rfl⟩
  rw [← hn] at hcap htot ⊢
  have HN : Hid (n = ps.length) := hn
  have HC : Hid (∀ i (h : i < ps.length), w.cell? ⟨b, i, none⟩ = some ps[i].1) := hcell
  have HR : Hid (∀ i (h : i < ps.length), Rd w ps[i].1 ps[i].2) := hrd
  obtain ⟨ao, capo, hv, h1, h2, -⟩ := id hrdo
  subst hv
  clear hn hcell hrd
  obtain ⟨z, HZ0⟩ := named lo.length
  rw [← HZ0.out] at htot h1 hrdo ⊢
  go_enter Tryd.func73, Tryd.ntmps73
  go_wp2
  go_loop [5, 15] (fun sv iv => ∃ k : Nat, k ≤ n ∧ iv = .int .i64 k ∧ sv = .int .i64 ((z + (joined ps k).length : Nat) : Int)) (fun _ iv => n - (intOf iv).toNat)
  case atStart => exact ⟨0, by omega, rfl, rfl⟩
  case round =>
    obtain ⟨k, hk, rfl, rfl⟩ := hrel
    have hle : (joined ps k).length ≤ (joined ps n).length := by rw [HN.out]; exact joined_le ps k
    obtain ⟨sz, HZ⟩ := named ((joined ps k).length)
    rw [← HZ.out] at hle ⊢
    by_cases hlt : k < n
    · have hkp : k < ps.length := by rw [← HN.out]; exact hlt
      have hj := joined_succ ps k hkp
      have hle2 : (joined ps (k + 1)).length ≤ (joined ps n).length := by rw [HN.out]; exact joined_le ps (k + 1)
      rw [hj, List.length_append, ← HZ.out] at hle2
      have HJ : Hid (joined ps (k + 1) = joined ps k ++ ps[k].2) := hj
      clear hj
      have hc0 := HC.out k hkp
      obtain ⟨ao, c0, hv, h1, h2, h3, h4⟩ := HR.out k hkp
      rw [hv] at hc0
      clear h4 h3 hv
      obtain ⟨m, HM⟩ := named (ps[k].2.length)
      rw [← HM.out] at hle2 hc0 h1
      have hms : (m : Int) + ((z + sz : Nat) : Int) ≤ 140737488355328 := by omega
      go_wp2
      go_round
      case rel => exact ⟨k + 1, by omega, by go_num, by rw [HJ.out, List.length_append, ← HM.out, ← HZ.out]; go_num⟩
      case measure => simp [intOf]; omega
    · have hkn : k = n := by omega
      have HK : Hid (k = n) := hkn
      have hsz : z + sz ≤ 140737488355000 := by omega
      clear hkn
      obtain ⟨rm, HRM⟩ := named (z + sz)
      rw [← HRM.out] at hsz ⊢
      go_wp2_with (at_make; go_must (refine wpList_make_own _ rfl (.const (.int .i64 0)) (.tmp 24) 22 rfl w.heap.size 5 i0 (.int .u8 0) 1 Tryd.underlying22 hi hz0 hz1 .i64 .i64 _ rm rfl rfl rfl ?_ ?_ ?_ ?_))
      · omega
      · unfold maxLen; omega
      · intro w1 hown hg
        have hb1 : Below w.heap.size w w1 := (Below.refl _ _).grown hg (Nat.le_refl _) (fun k hk => by cases hk)
        have hrd1 := hrdo.below hb1
        have hsz1 := hb1.size
        have hown0 : Own w1 w.heap.size (.slice (some ⟨w.heap.size, 0, none⟩) 0 rm) [] := hown
        clear hg hown hrdo
        have hln : 0 + lo.length ≤ 140737488355328 := by rw [← HZ0.out]; omega
        have HL : Hid _ := hln
        clear hln
        go_wp2_with (at_builtin; go_must (refine wpList_append_rd _ rfl (.tmp 25) (.tmp 26) 22 rfl i0 Tryd.underlying22 hi hz0 hz1 hz2 w.heap.size _ _ rfl rfl [] lo hown0 hrd1 HL.out hsz1 ?_))
        intro v' w' hown' hg
        have hb' : Below w.heap.size w w' := hb1.grown hg hsz1 (fun k hk => (World.ownsRow.lt hown0 k hk).1)
        clear hg
        clear hown0 hb1 hrd1 hsz1
        go_wp2
        go_loopw [8, 30] (fun nv iv wr => ∃ k : Nat, k ≤ n ∧ iv = .int .i64 k ∧ Own wr w.heap.size nv (lo ++ joined ps k) ∧ Below w.heap.size w wr) (fun _ iv _ => n - (intOf iv).toNat)
        case atStart => exact ⟨0, by omega, rfl, by simpa [joined] using hown', hb'⟩
        case round =>
          obtain ⟨j, hj, rfl, hown, hb⟩ := hrel
          have hsz2 := hb.size
          by_cases hlt2 : j < n
          · have hkp : j < ps.length := by rw [← HN.out]; exact hlt2
            have hjo := joined_succ ps j hkp
            have hle2 : (joined ps (j + 1)).length ≤ (joined ps n).length := by rw [HN.out]; exact joined_le ps (j + 1)
            rw [hjo, List.length_append] at hle2
            have HJ : Hid (joined ps (j + 1) = joined ps j ++ ps[j].2) := hjo
            clear hjo
            have hc0 := (hb.cell (p := ⟨b, j, none⟩) hb0).trans (HC.out j hkp)
            have hrd0 := HR.out j hkp
            obtain ⟨ao, c0, hv, h1, h2, h3, h4⟩ := HR.out j hkp
            rw [hv] at hc0 hrd0
            clear h4 h3 hv
            have hrd1 := hrd0.below hb
            clear hrd0
            obtain ⟨q, HQ⟩ := named (ps[j].2)
            have hq0l : (lo ++ joined ps j).length + q.length ≤ 140737488355328 := by
              rw [List.length_append, HQ.out, ← HZ0.out]; omega
            obtain ⟨q0, HQ0⟩ := named (lo ++ joined ps j)
            rw [← HQ.out] at hrd1 hc0 h1
            rw [← HQ0.out] at hown hq0l
            have HQL : Hid _ := hq0l
            clear hq0l
            go_wp2_with (at_builtin; go_must (refine wpList_append_rd _ rfl (.tmp 34) (.tmp 35) 22 rfl i0 Tryd.underlying22 hi hz0 hz1 hz2 w.heap.size _ _ rfl rfl q0 q hown hrd1 HQL.out hsz2 ?_))
            intro v' w' hown' hg
            have hb' : Below w.heap.size w w' := hb.grown hg hsz2 (fun k hk => (World.ownsRow.lt hown k hk).1)
            clear hg
            go_wp2
            go_roundw
            case rel => exact ⟨j + 1, by omega, by go_num, by rw [HJ.out, ← HQ.out, ← List.append_assoc, ← HQ0.out]; exact hown', hb'⟩
            case measure => simp [intOf]; omega
          · have hjn : j = n := by omega
            subst hjn
            go_wp2
            go_ret
            exact ⟨_, rfl, hown, hb⟩

theorem join3 (w : World) (g : Nat) (hg : g = w.heap.size) (o v0 v1 v2 : Value) (lo l0 l1 l2 : List UInt8) (ho : Rd w o lo) (h0 : Rd w v0 l0) (h1 : Rd w v1 l1) (h2 : Rd w v2 l2) (hs : lo.length + l0.length + l1.length + l2.length ≤ 140737488355000) :
    Calls Tryd.prog 73 #[o, .slice (some ⟨g, 0, none⟩) 3 3] (w.alloc (.cells #[v0, v1, v2] 22)) fun e w' => ∃ v, e = .returned v ∧ Own w' g v (lo ++ (l0 ++ (l1 ++ l2))) ∧ Below g w w' := by
  subst hg
  have h := join_any o lo [(v0, l0), (v1, l1), (v2, l2)] w.heap.size 3 (w.alloc (.cells #[v0, v1, v2] 22)) (by simp) (by simp) (ho.alloc _)
    (fun i h => match i, h with | 0, _ => by simp | 1, _ => by simp | 2, _ => by simp)
    (fun i h => match i, h with | 0, _ => h0.alloc _ | 1, _ => h1.alloc _ | 2, _ => h2.alloc _) (by simp) (by simp [joined]; omega)
  refine h.mono ?_
  rintro e w' ⟨v, rfl, ho, hb⟩
  refine ⟨v, rfl, ?_, ((Below.refl w.heap.size w).alloc (Nat.le_refl _) _).trans (hb.mono (by simp))⟩
  have := ho.mono (base' := w.heap.size) (by simp)
  simpa [joined] using this

/-- the frame of a body -/
def frameL (b : List UInt8) : List UInt8 := U b.length ++ ((b ++ be4 (crc b)) ++ [165])
def putL (out b : List UInt8) : List UInt8 × Nat := if b.length = 0 then ([], 2) else if 1048576 < b.length then ([], 3) else (out ++ frameL b, 0)

set_option maxRecDepth 100000 in
set_option maxHeartbeats 800000 in
theorem put_any (o b : Value) (lo lb : List UInt8) (w : World) (hro : Rd w o lo) (hrb : Rd w b lb) (hl : lo.length ≤ 140737480000000) :
    Calls Tryd.prog 37 #[o, b] w fun e w' => ∃ v, e = .returned (.tuple #[v, .int .i64 (putL lo lb).2]) ∧ Own w' w.heap.size v (putL lo lb).1 ∧ Below w.heap.size w w' := by
  obtain ⟨ao, capo, hv, -⟩ := id hro
  subst hv
  obtain ⟨ab, capb, hv, h1, h2, -⟩ := id hrb
  subst hv
  by_cases h0 : lb.length = 0
  · have e : putL lo lb = ([], 2) := by unfold putL; rw [if_pos h0]
    rw [e]
    have h0' : ((lb.length : Int) == 0) = true := by simp only [beq_iff_eq]; omega
    clear h0 e
    go_enter Tryd.func37, Tryd.ntmps37
    go_wp2
    go_ret2
    exact ⟨_, rfl, Own.nil _ _, Below.refl _ _⟩
  · have h0' : ((lb.length : Int) == 0) = false := by simp only [beq_eq_false_iff_ne]; omega
    by_cases h3 : 1048576 < lb.length
    · have e : putL lo lb = ([], 3) := by unfold putL; rw [if_neg h0, if_pos h3]
      rw [e]
      have h3' : (1048576 : Int) < lb.length := by omega
      clear h0 e
      go_enter Tryd.func37, Tryd.ntmps37
      go_wp2
      go_ret2
      exact ⟨_, rfl, Own.nil _ _, Below.refl _ _⟩
    · have e : putL lo lb = (lo ++ frameL lb, 0) := by unfold putL; rw [if_neg h0, if_neg h3]
      rw [e]
      have h3' : ¬ (1048576 : Int) < lb.length := by omega
      have HF : Hid (frameL lb = U lb.length ++ ((lb ++ be4 (crc lb)) ++ [165])) := rfl
      have hul := U_len lb.length
      have hsl : (lb ++ be4 (crc lb)).length ≤ 1048600 := by rw [List.length_append]; show lb.length + 4 ≤ _; omega
      obtain ⟨pu, HP⟩ := named (U (lb.length : Int))
      obtain ⟨ps, HS⟩ := named (lb ++ be4 (crc lb))
      obtain ⟨pf, HPF⟩ := named (frameL lb)
      rw [← HP.out] at hul HF
      rw [← HS.out] at hsl HF
      rw [← HPF.out] at HF ⊢
      have HB : Hid (pu.length ≤ 10 ∧ ps.length ≤ 1048600 ∧ lo.length ≤ 140737480000000 ∧ lb.length ≤ 1048576) := ⟨hul, hsl, hl, by omega⟩
      clear e h0 hul hsl hl
      go_enter Tryd.func37, Tryd.ntmps37
      go_wp2_with fail
      refine (uint_any _ [] lb.length _ (by omega) (by have := HB.out; omega) (Rd.nil _) (by simp)).mono ?_
      rintro e w1 ⟨v1, rfl, hown1, hb1⟩
      rw [← HP.out, List.nil_append] at hown1
      have hro1 := hro.below hb1
      have hrb1 := hrb.below hb1
      have hr1 := hown1.rd
      obtain ⟨a1, c1, hv1, -⟩ := hown1.rd
      subst hv1
      go_wp2_with fail
      refine (seal_any _ lb _ hrb1 (by have := HB.out; omega)).mono ?_
      rintro e w2 ⟨v2, rfl, hown2, hb2⟩
      rw [← HS.out] at hown2
      have hro2 := hro1.below hb2
      have hr1' := hr1.below hb2
      have hr2 := hown2.rd
      obtain ⟨a2, c2, hv2, -⟩ := hown2.rd
      subst hv2
      clear hro1 hrb1 hr1 hro hrb
      go_wp2_with fail
      refine (join3 (w2.alloc (.cells #[.int .u8 165] 5)) (w2.heap.size + 1) (by simp) _ _ _ _ lo pu ps [165] (hro2.alloc _) (hr1'.alloc _) (hr2.alloc _) (Rd.one _ _ _ _ rfl) (by have := HB.out; simp; omega)).mono ?_
      rintro e w3 ⟨v3, rfl, hown3, hb3⟩
      rw [← HF.out] at hown3
      go_wp2
      go_ret2
      have hs1 := hb1.size
      have hs2 := hb2.size
      exact ⟨_, rfl, hown3.mono (by omega), ((below_call hb1 hb2).alloc (by omega) _).trans (hb3.mono (by omega))⟩
end Go.Proofs.YtffgbjojngnebaaDoor
namespace Go.Proofs.YtffgbjojngnebaaDoor
open Go.RowKit

theorem addr_add (b off k : Nat) : (⟨b, off, none⟩ : Addr).add k = ⟨b, off + k, none⟩ := by unfold Addr.add; split <;> simp_all

/-- where the body of the frame at a place begins, where its last byte stands; the error -/
def bnd (l : List UInt8) (p : Int) : Nat × Nat × Nat :=
  if (getU l p).2.2 ≠ 0 then (0, 0, (getU l p).2.2)
  else if (getU l p).1 = 0 ∨ 1048576 < (getU l p).1 then (0, 0, 10)
  else if l.length ≤ (getU l p).2.1 + (getU l p).1 + 4 then (0, 0, 11)
  else ((getU l p).2.1, (getU l p).2.1 + (getU l p).1 + 4, 0)
/-- the body of the frame at a place, the place behind it, the error -/
def getF (l : List UInt8) (p : Int) : List UInt8 × Nat × Nat :=
  if (bnd l p).2.2 ≠ 0 then ([], 0, (bnd l p).2.2)
  else if l.getD (bnd l p).2.1 0 ≠ 165 then ([], 0, 10)
  else if (unsealL ((l.take (bnd l p).2.1).drop (bnd l p).1)).2 ≠ 0 then ([], 0, (unsealL ((l.take (bnd l p).2.1).drop (bnd l p).1)).2)
  else ((unsealL ((l.take (bnd l p).2.1).drop (bnd l p).1)).1, (bnd l p).2.1 + 1, 0)

theorem bnd_in (l : List UInt8) (p : Int) (h : (bnd l p).2.2 = 0) : (bnd l p).1 + 5 ≤ (bnd l p).2.1 ∧ (bnd l p).2.1 < l.length ∧ 0 ≤ p ∧ p < (bnd l p).1 := by
  unfold bnd at h ⊢
  by_cases h1 : (getU l p).2.2 ≠ 0
  · rw [if_pos h1] at h; exact absurd h h1
  · rw [if_neg h1] at h ⊢
    have := getU_place l p (by omega)
    by_cases h2 : (getU l p).1 = 0 ∨ 1048576 < (getU l p).1
    · rw [if_pos h2] at h; simp at h
    · rw [if_neg h2] at h ⊢
      by_cases h3 : l.length ≤ (getU l p).2.1 + (getU l p).1 + 4
      · rw [if_pos h3] at h; simp at h
      · rw [if_neg h3] at h ⊢
        simp only
        omega

set_option maxRecDepth 100000 in
set_option maxHeartbeats 800000 in
theorem bounds_any (v : Value) (l : List UInt8) (p : Int) (w : World) (hrd : Rd w v l) (hl : l.length ≤ 140737488355000) :
    Calls Tryd.prog 75 #[v, .int .i64 p] w fun e w' => e = .returned (.tuple #[.int .i64 (bnd l p).1, .int .i64 (bnd l p).2.1, .int .i64 (bnd l p).2.2]) ∧ w = w' := by
  have hG : bnd l p = if (getU l p).2.2 ≠ 0 then (0, 0, (getU l p).2.2)
    else if (getU l p).1 = 0 ∨ 1048576 < (getU l p).1 then (0, 0, 10)
    else if l.length ≤ (getU l p).2.1 + (getU l p).1 + 4 then (0, 0, 11)
    else ((getU l p).2.1, (getU l p).2.1 + (getU l p).1 + 4, 0) := rfl
  have hpl := getU_place l p
  have hlt := getU_lt l p
  have hcall := getUint_any v l p w hrd (by omega)
  obtain ⟨R, HR⟩ := named (getU l p)
  obtain ⟨n, from_, er⟩ := R
  rw [← HR.out] at hpl hG hlt hcall
  simp only at hpl hG hlt hcall
  rw [hG]
  clear hG
  obtain ⟨ao, cap, hv, h1, h2, -⟩ := id hrd
  subst hv
  by_cases he : er = 0
  · rw [if_neg (by simpa using he)]
    subst he
    obtain ⟨hp0, hp1, hp2⟩ := hpl rfl
    clear hpl
    by_cases hn0 : n = 0
    · rw [if_pos (Or.inl hn0)]
      subst hn0
      go_enter Tryd.func75, Tryd.ntmps75
      go_wp2_with fail
      refine hcall.mono ?_
      rintro e w1 ⟨rfl, hw1⟩
      subst hw1
      clear hcall
      go_wp2
      go_ret3
      exact ⟨rfl, rfl⟩
    · have hn0' : ((n : Int) == 0) = false := by simp only [beq_eq_false_iff_ne]; omega
      by_cases hn1 : 1048576 < n
      · rw [if_pos (Or.inr hn1)]
        have hn1' : (1048576 : Int) < n := by omega
        clear hn0
        go_enter Tryd.func75, Tryd.ntmps75
        go_wp2_with fail
        refine hcall.mono ?_
        rintro e w1 ⟨rfl, hw1⟩
        subst hw1
        clear hcall
        go_wp2
        go_ret3
        exact ⟨rfl, rfl⟩
      · rw [if_neg (by omega)]
        have hn1' : ¬ (1048576 : Int) < n := by omega
        have hn2 : n ≤ 1048576 := by omega
        clear hlt hn0
        by_cases hs : l.length ≤ from_ + n + 4
        · rw [if_pos hs]
          go_enter Tryd.func75, Tryd.ntmps75
          go_wp2_with fail
          refine hcall.mono ?_
          rintro e w1 ⟨rfl, hw1⟩
          subst hw1
          clear hcall
          go_wp2
          go_ret3
          exact ⟨rfl, rfl⟩
        · rw [if_neg hs]
          go_enter Tryd.func75, Tryd.ntmps75
          go_wp2_with fail
          refine hcall.mono ?_
          rintro e w1 ⟨rfl, hw1⟩
          subst hw1
          clear hcall
          go_wp2
          go_ret3
          exact ⟨by simp, rfl⟩
  · rw [if_pos (by simpa using he)]
    have her : ((er : Int) != 0) = true := by simp only [bne_iff_ne]; omega
    clear he hpl hlt
    go_enter Tryd.func75, Tryd.ntmps75
    go_wp2_with fail
    refine hcall.mono ?_
    rintro e w1 ⟨rfl, hw1⟩
    subst hw1
    clear hcall
    go_wp2
    go_ret3
    exact ⟨rfl, rfl⟩

set_option maxRecDepth 100000 in
set_option maxHeartbeats 800000 in
theorem get_any (v : Value) (l : List UInt8) (p : Int) (w : World) (hrd : Rd w v l) (hl : l.length ≤ 140737488355000) :
    Calls Tryd.prog 39 #[v, .int .i64 p] w fun e w' => ∃ v, e = .returned (.tuple #[v, .int .i64 (getF l p).2.1, .int .i64 (getF l p).2.2]) ∧ Own w' w.heap.size v (getF l p).1 ∧ Below w.heap.size w w' := by
  have hG : getF l p = if (bnd l p).2.2 ≠ 0 then ([], 0, (bnd l p).2.2)
    else if l.getD (bnd l p).2.1 0 ≠ 165 then ([], 0, 10)
    else if (unsealL ((l.take (bnd l p).2.1).drop (bnd l p).1)).2 ≠ 0 then ([], 0, (unsealL ((l.take (bnd l p).2.1).drop (bnd l p).1)).2)
    else ((unsealL ((l.take (bnd l p).2.1).drop (bnd l p).1)).1, (bnd l p).2.1 + 1, 0) := rfl
  have hpl := bnd_in l p
  have hcall := bounds_any v l p w hrd hl
  obtain ⟨R, HR⟩ := named (bnd l p)
  obtain ⟨from_, last, er⟩ := R
  rw [← HR.out] at hpl hG hcall
  simp only at hpl hG hcall
  rw [hG]
  clear hG
  by_cases he : er = 0
  · rw [if_neg (by simpa using he)]
    subst he
    obtain ⟨hp0, hp1, hp2, hp3⟩ := hpl rfl
    clear hpl
    obtain ⟨b, off, cap, hv, h1, h2, h3, h4, h5⟩ : ∃ b off cap, v = .slice (some ⟨b, off, none⟩) l.length cap ∧ 0 < l.length ∧ l.length ≤ cap ∧ cap ≤ maxLen ∧ b < w.heap.size ∧ ∀ i (h : i < l.length), w.cell? ⟨b, off + i, none⟩ = some (.int .u8 (l[i].toNat : Int)) := by
      rcases hrd.cases with ⟨rfl, -⟩ | h
      · simp at hp1
      · exact h
    subst hv
    have hc := h5 last hp1
    have hd : l.getD last 0 = l[last] := by simp [List.getD, hp1]
    rw [hd]
    have HLL : Hid (last < l.length) := hp1
    obtain ⟨x, HX⟩ := named (l[last]'hp1)
    rw [← HX.out] at hc ⊢
    clear h5 hd
    unfold maxLen at h3
    obtain ⟨n, HN⟩ := named l.length
    rw [← HN.out] at hp1 h1 h2 hl hcall hrd ⊢
    by_cases hx : x = 165
    · rw [if_neg (by simpa using hx)]
      subst hx
      have hlc : (last : Int) ≤ (cap : Int) := by omega
      have hfl : (from_ : Int) ≤ (last : Int) := by omega
      have hcf : ¬ cap = from_ := by omega
      have hrdC : Rd w (.slice (some ⟨b, off + from_, none⟩) (last - from_) (cap - from_)) ((l.take last).drop from_) := by
        have hr := hrd
        rw [HN.out] at hr
        have := hr.cut from_ last (by omega) (by have := HLL.out; omega)
        rw [Option.map_some, addr_add] at this
        exact this
      have hlen : ((l.take last).drop from_).length = last - from_ := by rw [List.length_drop, List.length_take]; have := HLL.out; omega
      have hus := fun w h => unseal_any (.slice (some ⟨b, off + from_, none⟩) (last - from_) (cap - from_)) ((l.take last).drop from_) w h (by omega)
      obtain ⟨body, HBD⟩ := named ((l.take last).drop from_)
      rw [← HBD.out] at hrdC hlen hus ⊢
      have hc2 := hus w hrdC
      obtain ⟨S, HS⟩ := named (unsealL body)
      obtain ⟨bd, ue⟩ := S
      rw [← HS.out] at hc2 ⊢
      simp only at hc2 ⊢
      clear hus
      by_cases hu : ue = 0
      · rw [if_neg (by simpa using hu)]
        subst hu
        go_enter Tryd.func39, Tryd.ntmps39
        go_wp2_with fail
        refine hcall.mono ?_
        rintro e w1 ⟨rfl, hw1⟩
        subst hw1
        clear hcall
        go_wp2_with fail
        refine hc2.mono ?_
        rintro e w2 ⟨v2, rfl, hown2, hb2⟩
        go_wp2
        go_ret3
        exact ⟨_, by simp, hown2, hb2⟩
      · rw [if_pos (by simpa using hu)]
        have hu' : ((ue : Int) != 0) = true := by simp only [bne_iff_ne]; omega
        clear hu
        go_enter Tryd.func39, Tryd.ntmps39
        go_wp2_with fail
        refine hcall.mono ?_
        rintro e w1 ⟨rfl, hw1⟩
        subst hw1
        clear hcall
        go_wp2_with fail
        refine hc2.mono ?_
        rintro e w2 ⟨v2, rfl, hown2, hb2⟩
        go_wp2
        go_ret3
        exact ⟨_, rfl, Own.nil _ _, hb2⟩
    · rw [if_pos (by simpa using hx)]
      have hx' : ((x.toNat : Int) != 165) = true := by
        simp only [bne_iff_ne]
        intro h
        exact hx (UInt8.toNat_inj.1 (by simp; omega))
      clear hx
      go_enter Tryd.func39, Tryd.ntmps39
      go_wp2_with fail
      refine hcall.mono ?_
      rintro e w1 ⟨rfl, hw1⟩
      subst hw1
      clear hcall
      go_wp2
      go_ret3
      exact ⟨_, rfl, Own.nil _ _, Below.refl _ _⟩
  · rw [if_pos (by simpa using he)]
    have her : ((er : Int) != 0) = true := by simp only [bne_iff_ne]; omega
    clear he hpl
    obtain ⟨ao, cap, hv, -⟩ := id hrd
    subst hv
    go_enter Tryd.func39, Tryd.ntmps39
    go_wp2_with fail
    refine hcall.mono ?_
    rintro e w1 ⟨rfl, hw1⟩
    subst hw1
    clear hcall
    go_wp2
    go_ret3
    exact ⟨_, rfl, Own.nil _ _, Below.refl _ _⟩
end Go.Proofs.YtffgbjojngnebaaDoor
namespace Go.Proofs.YtffgbjojngnebaaDoor
open Go.RowKit

/-- all sevens are full -/
def fullL : List UInt8 → Bool
  | [] => false
  | [x] => decide (x = 127)
  | x :: y :: t => decide (x = 255) && fullL (y :: t)

theorem sev_pos (f n : Nat) : 0 < (sev (f + 1) n).length := by
  rw [sev]; split <;> simp
theorem sev_ne (f n : Nat) : ∃ x t, sev (f + 1) n = x :: t := by
  rw [sev]; split
  · exact ⟨_, _, rfl⟩
  · exact ⟨_, _, rfl⟩
theorem sev_mono (f x y : Nat) (h : x ≤ y) : (sev f x).length ≤ (sev f y).length := by
  induction f generalizing x y with
  | zero => simp [sev]
  | succ f ih =>
    by_cases hx : x < 128
    · have := sev_pos f y
      rw [sev, if_pos hx]
      simp only [List.length_cons, List.length_nil]
      omega
    · have hy : ¬ y < 128 := by omega
      rw [sev, if_neg hx, sev, if_neg hy]
      simp only [List.length_cons]
      have := ih (x / 128) (y / 128) (Nat.div_le_div_right h)
      omega

theorem sev_next (f n : Nat) (h : n + 1 < 128 ^ f) : (sev f (n + 1)).length = (sev f n).length + (if fullL (sev f n) then 1 else 0) := by
  induction f generalizing n with
  | zero => simp at h
  | succ f ih =>
    by_cases h1 : n < 127
    · rw [sev, if_pos (by omega), sev, if_pos (by omega)]
      have : fullL [UInt8.ofNat n] = false := by
        simp only [fullL, decide_eq_false_iff_not]
        intro e
        have := congrArg UInt8.toNat e
        simp [UInt8.toNat_ofNat'] at this
        omega
      rw [this]
      rfl
    · by_cases h2 : n = 127
      · subst h2
        have hf : f ≠ 0 := by
          intro e
          subst e
          simp at h
        obtain ⟨f', rfl⟩ : ∃ f', f = f' + 1 := ⟨f - 1, by omega⟩
        rw [sev, if_neg (by omega), sev, if_pos (by omega), sev, if_pos (by omega)]
        rfl
      · have h3 : ¬ n < 128 := by omega
        rw [sev, if_neg (by omega), sev, if_neg h3]
        have hf : f ≠ 0 := by
          intro e
          subst e
          simp at h
          omega
        obtain ⟨f', rfl⟩ : ∃ f', f = f' + 1 := ⟨f - 1, by omega⟩
        have hp : 128 ^ (f' + 1 + 1) = 128 * 128 ^ (f' + 1) := by rw [Nat.pow_succ]; omega
        by_cases h4 : n % 128 = 127
        · have e1 : (n + 1) / 128 = n / 128 + 1 := by omega
          rw [e1]
          have hi := ih (n / 128) (by omega)
          obtain ⟨x, t, hx⟩ := sev_ne f' (n / 128)
          have ef : fullL (UInt8.ofNat (n % 128 + 128) :: sev (f' + 1) (n / 128)) = fullL (sev (f' + 1) (n / 128)) := by
            rw [hx, fullL, h4]
            simp
          rw [ef]
          simp only [List.length_cons]
          omega
        · have e1 : (n + 1) / 128 = n / 128 := by omega
          rw [e1]
          obtain ⟨x, t, hx⟩ := sev_ne f' (n / 128)
          have ef : fullL (UInt8.ofNat (n % 128 + 128) :: sev (f' + 1) (n / 128)) = false := by
            rw [hx, fullL]
            have : decide (UInt8.ofNat (n % 128 + 128) = 255) = false := by
              apply decide_eq_false
              intro e
              have := congrArg UInt8.toNat e
              rw [UInt8.toNat_ofNat'] at this
              simp at this
              omega
            rw [this]
            rfl
          rw [ef]
          simp

theorem pow_split (i : Nat) : 2 ^ (7 * (i + 1)) = 128 * 2 ^ (7 * i) := by
  rw [Nat.mul_add, Nat.pow_add]; omega

/-- what was written is read -/
theorem rdU_sev (p f i acc n : Nat) (rest : List UInt8) (hf : i + f = 10) (hn : n * 2 ^ (7 * i) < 18446744073709551616) (hi : 0 < i → 0 < n) (hf0 : 0 < f) :
    rdU p i acc (sev f n ++ rest) = (acc + n * 2 ^ (7 * i), p + i + (sev f n).length, 0) := by
  induction f generalizing i acc n with
  | zero => omega
  | succ f ih =>
    have hb9 : i = 9 → n ≤ 1 := by
      intro h9
      subst h9
      simp at hn
      omega
    by_cases hs : n < 128
    · rw [sev, if_pos hs, List.singleton_append, rdU_cons _ _ _ _ _ (by omega)]
      have hx : (UInt8.ofNat n).toNat = n := by rw [UInt8.toNat_ofNat']; omega
      rw [hx]
      have hm : mayB n i = true := by
        unfold mayB
        by_cases h9 : i = 9
        · have := hb9 h9
          have := hi (by omega)
          subst h9
          have : n = 1 := by omega
          subst this
          rfl
        · have : ((i : Int) == 9) = false := by simp; omega
          rw [this]
          by_cases h0 : i = 0
          · subst h0; simp
          · have := hi (by omega)
            simp
            omega
      rw [if_neg (by rw [hm]; simp), if_pos hs, Nat.mod_eq_of_lt hs]
      simp
    · rw [sev, if_neg hs, List.cons_append, rdU_cons _ _ _ _ _ (by omega)]
      have hx : (UInt8.ofNat (n % 128 + 128)).toNat = n % 128 + 128 := by rw [UInt8.toNat_ofNat']; omega
      rw [hx]
      have hm : mayB ((n % 128 + 128 : Nat) : Int) i = true := by
        unfold mayB
        have h9 : ((i : Int) == 9) = false := by
          simp
          intro h9
          have := hb9 (by omega)
          omega
        rw [h9]
        simp
        omega
      rw [if_neg (by rw [hm]; simp), if_neg (by omega)]
      have hf1 : 0 < f := by
        rcases Nat.eq_zero_or_pos f with h | h
        · subst h
          have := hb9 (by omega)
          omega
        · exact h
      have e1 : (n % 128 + 128) % 128 = n % 128 := by omega
      have e2 : n / 128 * 2 ^ (7 * (i + 1)) = n / 128 * 128 * 2 ^ (7 * i) := by rw [pow_split, Nat.mul_assoc]
      have e3 : n % 128 * 2 ^ (7 * i) + n / 128 * 128 * 2 ^ (7 * i) = n * 2 ^ (7 * i) := by
        rw [← Nat.add_mul]
        congr 1
        omega
      rw [e1, ih (i + 1) _ (n / 128) (by omega) (by omega) (by omega) hf1]
      simp only [List.length_cons, Prod.mk.injEq]
      refine ⟨by omega, by omega, trivial⟩

theorem getU_U (n : Nat) (hn : n ≤ 18446744073709551615) (ahead rest : List UInt8) : getU (ahead ++ (U n ++ rest)) ahead.length = (n, ahead.length + (U n).length, 0) := by
  unfold getU
  rw [if_neg (by simp; omega)]
  have : ((ahead.length : Nat) : Int).toNat = ahead.length := by omega
  rw [this, List.drop_left]
  have h := rdU_sev ahead.length 10 0 0 n rest rfl (by simp; omega) (by omega) (by omega)
  have e : U (n : Int) = sev 10 n := rfl
  rw [e, h]
  simp
theorem getU_U0 (n : Nat) (hn : n ≤ 18446744073709551615) : getU (U n) 0 = (n, (U n).length, 0) := by
  have := getU_U n hn [] []
  simpa using this
theorem U_inj (n m : Nat) (hn : n ≤ 18446744073709551615) (hm : m ≤ 18446744073709551615) (h : U n = U m) : n = m := by
  have h1 := getU_U0 n hn
  have h2 := getU_U0 m hm
  rw [h, h2] at h1
  exact (congrArg Prod.fst h1).symm
theorem U_pos (n : Int) : 0 < (U n).length := sev_pos 9 _
theorem U_mono (n m : Nat) (h : n ≤ m) : (U n).length ≤ (U m).length := sev_mono 10 n m h
theorem U_next (n : Nat) (h : n < 18446744073709551615) : (U ((n + 1 : Nat) : Int)).length = (U n).length + (if fullL (U n) then 1 else 0) :=
  sev_next 10 n (by omega)
theorem U_top : (U 18446744073709551615).length = 10 := by decide +kernel

/-- full up to the j-th, by what the last one is -/
def fullTo (l : List UInt8) (b : Bool) (j : Nat) : Bool := b && (l.take j).all fun x => decide (x = 255)
theorem fullTo_succ (l : List UInt8) (b : Bool) (j : Nat) (h : j < l.length) : fullTo l b (j + 1) = (fullTo l b j && decide (l[j] = 255)) := by
  unfold fullTo
  rw [List.take_succ_eq_append_getElem h, List.all_append]
  simp [Bool.and_assoc]
theorem fullL_eq (l : List UInt8) (k : Nat) (h : l.length = k + 1) : fullL l = fullTo l (decide (l[k] = 127)) k := by
  induction l generalizing k with
  | nil => simp at h
  | cons x t ih =>
    cases t with
    | nil =>
      simp at h
      subst h
      simp [fullL, fullTo]
    | cons y t =>
      obtain ⟨k', rfl⟩ : ∃ k', k = k' + 1 := ⟨k - 1, by simp at h; omega⟩
      rw [fullL, ih k' (by simpa using h)]
      unfold fullTo
      simp only [List.take_succ_cons, List.all_cons, List.getElem_cons_succ]
      cases decide (x = 255) <;> simp
theorem u8_eq (x : UInt8) (n : Nat) (hn : n < 256) : ((x.toNat : Int) == (n : Int)) = decide (x = UInt8.ofNat n) := by
  rw [Bool.eq_iff_iff]
  simp only [beq_iff_eq, decide_eq_true_eq]
  constructor
  · intro h
    apply UInt8.toNat_inj.1
    rw [UInt8.toNat_ofNat']
    omega
  · intro h
    rw [h, UInt8.toNat_ofNat']
    omega

end Go.Proofs.YtffgbjojngnebaaDoor
namespace Go.Proofs.YtffgbjojngnebaaDoor
open Go.RowKit

/-- the bytes of a number, cut: too short -/
theorem rdU_cut (p f i acc n k : Nat) (hf : i + f ≤ 10) (hk : k < (sev f n).length) (hn : n * 2 ^ (7 * i) < 18446744073709551616) : rdU p i acc ((sev f n).take k) = (0, 0, 11) := by
  induction f generalizing i acc n k with
  | zero => simp [sev] at hk
  | succ f ih =>
    by_cases hs : n < 128
    · rw [sev, if_pos hs] at hk ⊢
      have : k = 0 := by simpa using hk
      subst this
      rfl
    · rw [sev, if_neg hs] at hk ⊢
      cases k with
      | zero => rfl
      | succ k =>
        rw [List.take_succ_cons]
        have hx : (UInt8.ofNat (n % 128 + 128)).toNat = n % 128 + 128 := by rw [UInt8.toNat_ofNat']; omega
        have hi9 : i ≠ 9 := by
          intro h9
          subst h9
          simp at hn
          omega
        rw [rdU_cons _ _ _ _ _ (by omega), hx]
        have hm : mayB ((n % 128 + 128 : Nat) : Int) i = true := by
          unfold mayB
          have h9 : ((i : Int) == 9) = false := by
            simp
            omega
          rw [h9]
          simp
          omega
        rw [if_neg (by rw [hm]; simp), if_neg (by omega)]
        refine ih (i + 1) _ (n / 128) k (by omega) (by simpa using hk) ?_
        have e2 : n / 128 * 2 ^ (7 * (i + 1)) = n / 128 * 128 * 2 ^ (7 * i) := by rw [pow_split, Nat.mul_assoc]
        have e3 : n / 128 * 128 * 2 ^ (7 * i) ≤ n * 2 ^ (7 * i) := Nat.mul_le_mul_right _ (by omega)
        omega
theorem getU_cut (n k : Nat) (hn : n ≤ 18446744073709551615) (ahead : List UInt8) (hk : k < (U n).length) : getU (ahead ++ (U n).take k) ahead.length = (0, 0, 11) := by
  unfold getU
  rw [if_neg (by simp; omega)]
  have : ((ahead.length : Nat) : Int).toNat = ahead.length := by omega
  rw [this, List.drop_left]
  exact rdU_cut ahead.length 10 0 0 n k (by omega) hk (by simp; omega)

/-- a string with its length ahead -/
def blobL (b : List UInt8) : List UInt8 := U b.length ++ b
theorem blobL_length (b : List UInt8) : (blobL b).length = (U b.length).length + b.length := by simp [blobL]
theorem getB_blob (b ahead rest : List UInt8) (q : Int) (hb : b.length ≤ 1000000) (hq : (b.length : Int) ≤ q) : getB (ahead ++ (blobL b ++ rest)) ahead.length q = (b, ahead.length + (blobL b).length, 0) := by
  have hg := getU_U b.length (by omega) ahead (b ++ rest)
  have e : ahead ++ (blobL b ++ rest) = ahead ++ (U b.length ++ (b ++ rest)) := by simp [blobL]
  rw [e]
  unfold getB
  rw [hg]
  simp only [ne_eq, not_true_eq_false, if_false]
  rw [if_neg (by omega)]
  have hl : (ahead ++ (U (b.length : Int) ++ (b ++ rest))).length - (ahead.length + (U (b.length : Int)).length) = b.length + rest.length := by
    simp only [List.length_append]
    omega
  rw [if_neg (by rw [hl]; omega), blobL_length]
  have hd : (ahead ++ (U (b.length : Int) ++ (b ++ rest))).drop (ahead.length + (U (b.length : Int)).length) = b ++ rest := by
    rw [← List.append_assoc, ← List.length_append, List.drop_left]
  rw [hd, List.take_left]
  simp only [Prod.mk.injEq, true_and, and_true]
  omega
theorem getB_blob_cut (b ahead : List UInt8) (k : Nat) (q : Int) (hb : b.length ≤ 1000000) (hq : (b.length : Int) ≤ q) (hk : k < (blobL b).length) : getB (ahead ++ (blobL b).take k) ahead.length q = ([], 0, 11) := by
  rw [blobL_length] at hk
  by_cases hu : k < (U b.length).length
  · have e : (blobL b).take k = (U b.length).take k := by rw [blobL, List.take_append_of_le_length (by omega)]
    unfold getB
    rw [e, getU_cut _ _ (by omega) _ hu]
    simp
  · obtain ⟨j, rfl⟩ : ∃ j, k = (U b.length).length + j := ⟨k - (U b.length).length, by omega⟩
    have e : (blobL b).take ((U b.length).length + j) = U b.length ++ b.take j := by
      rw [blobL, List.take_append, List.take_of_length_le (by omega)]
      congr 2
      omega
    have hg := getU_U b.length (by omega) ahead (b.take j)
    unfold getB
    rw [e, hg]
    simp only [ne_eq, not_true_eq_false, if_false]
    rw [if_neg (by omega), if_pos]
    simp only [List.length_append, List.length_take]
    omega

/-- what an entry is: its numbers, its bytes -/
def bodyL (n : Nat) (i : Int) (b : List UInt8) : List UInt8 := (U n ++ U (foldI i)) ++ blobL b
def entryL (n : Nat) (i : Int) (b : List UInt8) : List UInt8 := blobL (bodyL n i b ++ be4 (crc (bodyL n i b)))

theorem body_length (n : Nat) (i : Int) (b : List UInt8) : (bodyL n i b).length = (U n).length + (U (foldI i)).length + (U b.length).length + b.length := by
  simp [bodyL, blobL]
  omega
theorem body_N (n : Nat) (i : Int) (b : List UInt8) (hn : n ≤ 18446744073709551615) : getU (bodyL n i b) 0 = (n, (U n).length, 0) := by
  have := getU_U n hn [] (U (foldI i) ++ blobL b)
  simpa [bodyL] using this
theorem body_I (n : Nat) (i : Int) (b : List UInt8) (h0 : -9223372036854775808 ≤ i) (h1 : i ≤ 9223372036854775807) : getU (bodyL n i b) (U n).length = ((foldI i).toNat, (U n).length + (U (foldI i)).length, 0) := by
  have hr := foldI_range i h0 h1
  obtain ⟨m, hm⟩ := Int.eq_ofNat_of_zero_le hr.1
  have := getU_U m (by omega) (U n) (blobL b)
  rw [hm]
  unfold bodyL
  rw [hm, List.append_assoc]
  simpa using this
theorem body_B (n : Nat) (i : Int) (b : List UInt8) (hb : b.length ≤ 100) : getB (bodyL n i b) ((U n).length + (U (foldI i)).length : Nat) (bodyL n i b).length = (b, (bodyL n i b).length, 0) := by
  have := getB_blob b (U n ++ U (foldI i)) [] (bodyL n i b).length (by omega) (by rw [body_length]; omega)
  rw [List.append_nil, List.length_append] at this
  unfold bodyL at this ⊢
  rw [this]
  simp [blobL]
  omega
theorem entry_unseal (n : Nat) (i : Int) (b : List UInt8) : unsealL (bodyL n i b ++ be4 (crc (bodyL n i b))) = (bodyL n i b, 0) := by
  have h4 : (be4 (crc (bodyL n i b))).length = 4 := rfl
  unfold unsealL
  rw [if_neg (by rw [List.length_append, h4]; omega), List.length_append, h4, show (bodyL n i b).length + 4 - 4 = (bodyL n i b).length by omega, List.drop_left, List.take_left, if_pos rfl]
theorem sealed_length (n : Nat) (i : Int) (b : List UInt8) (hb : b.length ≤ 100) : (bodyL n i b ++ be4 (crc (bodyL n i b))).length ≤ 134 := by
  have h1 : ∀ z, (U z).length ≤ 10 := fun z => by
    unfold U
    have : ∀ f n, (sev f n).length ≤ f := by
      intro f
      induction f with
      | zero => intro n; simp [sev]
      | succ f ih => intro n; unfold sev; split <;> simp; exact ih _
    exact this 10 _
  have h2 := h1 n
  have h3 := h1 (foldI i)
  have h4 := h1 b.length
  rw [List.length_append, body_length]
  show _ + 4 ≤ 134
  omega
theorem entry_length (n : Nat) (i : Int) (b : List UInt8) (hb : b.length ≤ 100) : 0 < (entryL n i b).length ∧ (entryL n i b).length ≤ 144 := by
  have h1 := sealed_length n i b hb
  have h2 := U_pos ((bodyL n i b ++ be4 (crc (bodyL n i b))).length : Int)
  unfold entryL
  rw [blobL_length]
  have h3 : (U ((bodyL n i b ++ be4 (crc (bodyL n i b))).length : Int)).length ≤ 10 := by
    unfold U
    have : ∀ f n, (sev f n).length ≤ f := by
      intro f
      induction f with
      | zero => intro n; simp [sev]
      | succ f ih => intro n; unfold sev; split <;> simp; exact ih _
    exact this 10 _
  omega

end Go.Proofs.YtffgbjojngnebaaDoor
namespace Go.Proofs.YtffgbjojngnebaaDoor
open Go.RowKit

theorem crcBit_xor (a b : BitVec 32) : crcBit (a ^^^ b) = crcBit a ^^^ crcBit b := by
  unfold crcBit
  rw [BitVec.ushiftRight_xor_distrib, BitVec.getLsbD_xor]
  cases a.getLsbD 0 <;> cases b.getLsbD 0
  · simp
  · simp [BitVec.xor_assoc]
  · simp only [Bool.xor_false, if_true, Bool.false_eq_true, if_false, BitVec.xor_zero]
    rw [BitVec.xor_assoc, BitVec.xor_comm (b >>> 1), ← BitVec.xor_assoc]
  · simp only [Bool.xor_self, Bool.false_eq_true, if_false, if_true, BitVec.xor_zero]
    rw [BitVec.xor_assoc, BitVec.xor_comm (3988292384#32), BitVec.xor_assoc, BitVec.xor_self, BitVec.xor_zero]
theorem crcBits_xor (n : Nat) (a b : BitVec 32) : crcBits n (a ^^^ b) = crcBits n a ^^^ crcBits n b := by
  induction n generalizing a b with
  | zero => rfl
  | succ n ih => rw [crcBits, crcBits, crcBits, crcBit_xor, ih]
theorem crcBit_zero : crcBit 0#32 = 0#32 := by decide
theorem crcBits_zero (n : Nat) : crcBits n 0#32 = 0#32 := by
  induction n with
  | zero => rfl
  | succ n ih => rw [crcBits, crcBit_zero, ih]
theorem crcBit_eq_zero (r : BitVec 32) (h : crcBit r = 0#32) : r = 0#32 := by
  have h31 : (crcBit r).getLsbD 31 = r.getLsbD 0 := by
    unfold crcBit
    rw [BitVec.getLsbD_xor, BitVec.getLsbD_ushiftRight]
    have : r.getLsbD (1 + 31) = false := BitVec.getLsbD_of_ge _ _ (by omega)
    rw [this]
    cases r.getLsbD 0 <;> decide
  have h0 : r.getLsbD 0 = false := by rw [← h31, h]; simp
  unfold crcBit at h
  rw [h0] at h
  simp only [Bool.false_eq_true, if_false, BitVec.xor_zero] at h
  apply BitVec.eq_of_getLsbD_eq
  intro i hi
  rw [BitVec.getLsbD_zero]
  cases i with
  | zero => exact h0
  | succ i =>
    have := congrArg (fun x => BitVec.getLsbD x i) h
    simp only [BitVec.getLsbD_ushiftRight, BitVec.getLsbD_zero] at this
    rw [Nat.add_comm] at this
    exact this
theorem crcBits_eq_zero (n : Nat) (r : BitVec 32) (h : crcBits n r = 0#32) : r = 0#32 := by
  induction n generalizing r with
  | zero => exact h
  | succ n ih => exact crcBit_eq_zero r (ih _ h)
theorem xor_eq_zero (a b : BitVec 32) : a ^^^ b = 0#32 ↔ a = b := by
  constructor
  · intro h
    have : (a ^^^ b) ^^^ b = 0#32 ^^^ b := by rw [h]
    rwa [BitVec.xor_assoc, BitVec.xor_self, BitVec.xor_zero, BitVec.zero_xor] at this
  · intro h
    rw [h, BitVec.xor_self]

/-- two registers, the same bytes behind: how they differ -/
theorem crcReg_diff (r s : BitVec 32) (c : List UInt8) : crcReg r c ^^^ crcReg s c = crcBits (8 * c.length) (r ^^^ s) := by
  induction c generalizing r s with
  | nil => rfl
  | cons x t ih =>
    have e : ∀ r, crcReg r (x :: t) = crcReg (crcByte r x) t := fun _ => rfl
    rw [e, e, ih]
    unfold crcByte
    rw [← crcBits_xor, List.length_cons, show 8 * (t.length + 1) = 8 + 8 * t.length by omega, crcBits_add]
    congr 2
    rw [BitVec.xor_assoc, BitVec.xor_comm (BitVec.ofNat 32 x.toNat), BitVec.xor_assoc, BitVec.xor_self, BitVec.xor_zero]
theorem crcReg_append (r : BitVec 32) (a b : List UInt8) : crcReg r (a ++ b) = crcReg (crcReg r a) b := by simp [crcReg]
theorem not_xor_not (a b : BitVec 32) : (~~~a) ^^^ (~~~b) = a ^^^ b := by
  rw [← BitVec.xor_allOnes, ← BitVec.xor_allOnes, BitVec.xor_assoc, BitVec.xor_comm (BitVec.allOnes 32), BitVec.xor_assoc, BitVec.xor_self, BitVec.xor_zero]
theorem crc_diff (a b c : List UInt8) : crc (a ++ c) ^^^ crc (b ++ c) = crcBits (8 * c.length) (crcReg (BitVec.allOnes 32) a ^^^ crcReg (BitVec.allOnes 32) b) := by
  unfold crc
  rw [not_xor_not, crcReg_append, crcReg_append, crcReg_diff]
theorem crc_diff_same (a b c d : List UInt8) (h : c.length = d.length) : crc (a ++ c) ^^^ crc (b ++ c) = crc (a ++ d) ^^^ crc (b ++ d) := by
  rw [crc_diff, crc_diff, h]
theorem crc_eq_iff (a b : List UInt8) : crc a = crc b ↔ crcReg (BitVec.allOnes 32) a ^^^ crcReg (BitVec.allOnes 32) b = 0#32 := by
  rw [← xor_eq_zero]
  unfold crc
  rw [not_xor_not]
theorem crc_diff_zero (a b c : List UInt8) : crc (a ++ c) ^^^ crc (b ++ c) = 0#32 ↔ crc a = crc b := by
  rw [crc_diff, crc_eq_iff]
  constructor
  · exact crcBits_eq_zero _ _
  · intro h
    rw [h, crcBits_zero]

end Go.Proofs.YtffgbjojngnebaaDoor
namespace Go.Proofs.YtffgbjojngnebaaDoor
open Go.RowKit

theorem be4_len (r : BitVec 32) : (be4 r).length = 4 := rfl
theorem frameL_length (b : List UInt8) : (frameL b).length = (U b.length).length + b.length + 5 := by
  unfold frameL
  simp only [List.length_append, be4_len, List.length_singleton]
  omega
theorem bnd_frame (b ahead tail : List UInt8) (h0 : 0 < b.length) (h1 : b.length ≤ 1048576) (ht : b.length + 5 ≤ tail.length) :
    bnd (ahead ++ (U b.length ++ tail)) ahead.length = (ahead.length + (U b.length).length, ahead.length + (U b.length).length + b.length + 4, 0) := by
  have hg := getU_U b.length (by omega) ahead tail
  unfold bnd
  rw [hg]
  simp only
  rw [if_neg (by simp), if_neg (by omega), if_neg (by simp only [List.length_append]; omega)]
theorem bnd_short (b ahead tail : List UInt8) (h0 : 0 < b.length) (h1 : b.length ≤ 1048576) (ht : tail.length < b.length + 5) :
    bnd (ahead ++ (U b.length ++ tail)) ahead.length = (0, 0, 11) := by
  have hg := getU_U b.length (by omega) ahead tail
  unfold bnd
  rw [hg]
  simp only
  rw [if_neg (by simp), if_neg (by omega), if_pos (by simp only [List.length_append]; omega)]
theorem unseal_sealed (b : List UInt8) : unsealL (b ++ be4 (crc b)) = (b, 0) := by
  unfold unsealL
  rw [if_neg (by rw [List.length_append, be4_len]; omega), List.length_append, be4_len, show b.length + 4 - 4 = b.length by omega, List.drop_left, List.take_left, if_pos rfl]
/-- a frame, its parts not told yet: ahead, a length, what should be a body and its sum, a last byte, what is behind -/
theorem getF_parts (n : Nat) (ahead body rest : List UInt8) (x : UInt8) (h0 : 0 < n) (h1 : n ≤ 1048576) (hb : body.length = n + 4) :
    getF (ahead ++ (U n ++ (body ++ (x :: rest)))) ahead.length =
      if x ≠ 165 then ([], 0, 10) else if (unsealL body).2 ≠ 0 then ([], 0, (unsealL body).2) else ((unsealL body).1, ahead.length + (U n).length + n + 5, 0) := by
  have hbn : bnd (ahead ++ (U n ++ (body ++ (x :: rest)))) ahead.length = (ahead.length + (U n).length, ahead.length + (U n).length + n + 4, 0) := by
    have hg := getU_U n (by omega) ahead (body ++ (x :: rest))
    unfold bnd
    rw [hg]
    simp only
    rw [if_neg (by simp), if_neg (by omega), if_neg (by simp only [List.length_append, List.length_cons]; omega)]
  have hA : ahead ++ (U n ++ (body ++ (x :: rest))) = ((ahead ++ U n) ++ body) ++ (x :: rest) := by simp
  have hlast : ahead.length + (U n).length + n + 4 = ((ahead ++ U n) ++ body).length := by simp only [List.length_append]; omega
  unfold getF
  rw [hbn]
  simp only
  rw [if_neg (by simp)]
  have e1 : (ahead ++ (U n ++ (body ++ (x :: rest)))).getD (ahead.length + (U n).length + n + 4) 0 = x := by
    rw [hA, hlast]
    simp [List.getD]
  have e2 : List.drop (ahead.length + (U n).length) (List.take (ahead.length + (U n).length + n + 4) (ahead ++ (U n ++ (body ++ (x :: rest))))) = body := by
    rw [hA, hlast, List.take_left, ← List.length_append, List.drop_left]
  rw [e1, e2]
theorem getF_frame (b ahead rest : List UInt8) (h0 : 0 < b.length) (h1 : b.length ≤ 1048576) :
    getF (ahead ++ (frameL b ++ rest)) ahead.length = (b, ahead.length + (frameL b).length, 0) := by
  have e : ahead ++ (frameL b ++ rest) = ahead ++ (U b.length ++ ((b ++ be4 (crc b)) ++ (165 :: rest))) := by unfold frameL; simp
  rw [e, getF_parts b.length ahead (b ++ be4 (crc b)) rest 165 h0 h1 (by rw [List.length_append, be4_len]), unseal_sealed, frameL_length]
  simp
  omega

/-- noughts alone tell none -/
theorem getF_noughts (ahead : List UInt8) (m : Nat) : (getF (ahead ++ List.replicate m 0) ahead.length).2.2 ≠ 0 := by
  have hg : getU (ahead ++ List.replicate m 0) ahead.length = (0, 0, 11) ∨ getU (ahead ++ List.replicate m 0) ahead.length = (0, ahead.length + 1, 0) := by
    unfold getU
    rw [if_neg (by simp only [List.length_append]; omega)]
    rw [show ((ahead.length : Nat) : Int).toNat = ahead.length from by omega, List.drop_left]
    cases m with
    | zero => left; rfl
    | succ m => right; rw [List.replicate_succ, rdU]; rfl
  have hb : (bnd (ahead ++ List.replicate m 0) ahead.length).2.2 ≠ 0 := by
    unfold bnd
    rcases hg with hg | hg
    · rw [hg]; simp
    · rw [hg]; simp
  unfold getF
  rw [if_pos hb]
  exact hb
/-- a number that is cut, with noughts behind, is none -/
theorem rdU_torn (p f i acc n k m : Nat) (hf : i + f ≤ 10) (hk : k < (sev f n).length) (hi : 0 < i ∨ 0 < k) (hn : n * 2 ^ (7 * i) < 18446744073709551616) :
    (rdU p i acc ((sev f n).take k ++ List.replicate m 0)).2.2 ≠ 0 := by
  induction f generalizing i acc n k with
  | zero => simp [sev] at hk
  | succ f ih =>
    cases k with
    | zero =>
      rw [List.take_zero, List.nil_append]
      cases m with
      | zero => simp [rdU]
      | succ m =>
        rw [List.replicate_succ, rdU_cons _ _ _ _ _ (by omega)]
        have : mayB (0 : UInt8).toNat i = false := by
          have hi' : i ≠ 0 := by omega
          simp [mayB, hi']
        rw [if_pos this]
        simp
    | succ k =>
      have hc : ¬ n < 128 := by
        intro h
        unfold sev at hk
        rw [if_pos h] at hk
        simp at hk
      have hs : sev (f + 1) n = UInt8.ofNat (n % 128 + 128) :: sev f (n / 128) := by
        rw [sev, if_neg hc]
      rw [hs] at hk ⊢
      rw [List.length_cons] at hk
      rw [List.take_succ_cons, List.cons_append, rdU_cons _ _ _ _ _ (by omega)]
      have hx : (UInt8.ofNat (n % 128 + 128)).toNat = n % 128 + 128 := by rw [UInt8.toNat_ofNat']; omega
      rw [hx]
      split
      · simp
      · rw [if_neg (by omega)]
        apply ih
        · omega
        · omega
        · omega
        · have e : 2 ^ (7 * (i + 1)) = 128 * 2 ^ (7 * i) := by rw [Nat.mul_add, Nat.pow_add]; omega
          rw [e]
          have h3 : n / 128 * 128 ≤ n := Nat.div_mul_le_self n 128
          calc n / 128 * (128 * 2 ^ (7 * i)) = (n / 128 * 128) * 2 ^ (7 * i) := by rw [Nat.mul_assoc]
            _ ≤ n * 2 ^ (7 * i) := Nat.mul_le_mul_right _ h3
            _ < _ := hn
theorem getU_torn (n k m : Nat) (hn : n ≤ 18446744073709551615) (ahead : List UInt8) (hk : k < (U n).length) (hk0 : 0 < k) : (getU (ahead ++ ((U n).take k ++ List.replicate m 0)) ahead.length).2.2 ≠ 0 := by
  unfold getU
  rw [if_neg (by simp only [List.length_append]; omega)]
  rw [show ((ahead.length : Nat) : Int).toNat = ahead.length from by omega, List.drop_left]
  have := rdU_torn ahead.length 10 0 0 n k m (by omega) (by exact hk) (Or.inr hk0) (by omega)
  exact this
theorem getF_bnd (l : List UInt8) (p : Int) (h : (bnd l p).2.2 ≠ 0) : (getF l p).2.2 ≠ 0 := by
  unfold getF
  rw [if_pos h]
  exact h
theorem getF_getU (l : List UInt8) (p : Int) (h : (getU l p).2.2 ≠ 0) : (getF l p).2.2 ≠ 0 := by
  apply getF_bnd
  unfold bnd
  rw [if_pos h]
  exact h
/-- a frame that is cut, with noughts behind, is none -/
theorem getF_torn (b ahead : List UInt8) (k m : Nat) (h0 : 0 < b.length) (h1 : b.length ≤ 1048576) (hk : k < (frameL b).length) :
    (getF (ahead ++ ((frameL b).take k ++ List.replicate m 0)) ahead.length).2.2 ≠ 0 := by
  by_cases hk0 : k = 0
  · subst hk0
    exact getF_noughts ahead m
  · by_cases hku : k < (U b.length).length
    · apply getF_getU
      have e : (frameL b).take k = (U b.length).take k := by unfold frameL; rw [List.take_append_of_le_length (by omega)]
      rw [e]
      exact getU_torn b.length k m (by omega) ahead hku (by omega)
    · have hfl := frameL_length b
      obtain ⟨j, rfl⟩ : ∃ j, k = (U b.length).length + j := ⟨k - (U b.length).length, by omega⟩
      have e : (frameL b).take ((U b.length).length + j) ++ List.replicate m 0 = U b.length ++ ((((b ++ be4 (crc b)) ++ [165]).take j) ++ List.replicate m 0) := by
        unfold frameL
        rw [List.take_length_add_append, List.append_assoc]
      rw [e]
      have hj : (((b ++ be4 (crc b)) ++ [165]).take j).length = j := by rw [List.length_take]; simp only [List.length_append, be4_len, List.length_singleton]; omega
      obtain ⟨t, ht⟩ : ∃ t, t = (((b ++ be4 (crc b)) ++ [165]).take j) ++ List.replicate m 0 := ⟨_, rfl⟩
      rw [← ht]
      have htl : t.length = j + m := by rw [ht, List.length_append, hj, List.length_replicate]
      by_cases hs : t.length < b.length + 5
      · apply getF_bnd
        rw [bnd_short b ahead t h0 h1 hs]
        simp
      · have hx : t[b.length + 4]? = some 0 := by
          rw [ht, List.getElem?_append_right (by rw [hj]; omega), hj, List.getElem?_replicate, if_pos (by omega)]
        obtain ⟨hlt, hx2⟩ := List.getElem?_eq_some_iff.1 hx
        have e2 : t = t.take (b.length + 4) ++ (0 :: t.drop (b.length + 5)) := by
          conv => lhs; rw [← List.take_append_drop (b.length + 4) t]
          rw [List.drop_eq_getElem_cons hlt, hx2]
        rw [e2, getF_parts b.length ahead _ _ 0 h0 h1 (by rw [List.length_take]; omega)]
        simp
end Go.Proofs.YtffgbjojngnebaaDoor
