/-
  The contract of done: a disk, and a script upon it. Own work.
-/
import Derived.Test.YtloigepmmhcibaaYb
namespace Go.Proofs.Ytloigepmmhcibaa
open Go.RowKit

theorem off_of {w : World} {x : Dd} (g : x.good w) (F : Nat → Prop) (hF : ∀ b, F b → w.heap.size ≤ b) : x.off F := by
  have h1 : ∀ (v : Value) (l : List UInt8), Rd w v l → ∀ a, v.ownBlock = some a → l ≠ [] → ¬ F a := by
    intro v l ⟨ao, cap, hv, _, _, _, h4⟩ a ha hl hFa
    subst hv
    cases ao with
    | none => cases ha
    | some p =>
      have hp : 0 < l.length := List.length_pos_iff.2 hl
      have hb : p.block = a := by simpa [Value.ownBlock] using ha
      have hlt := World.block_lt_of_cell? w _ (h4 p rfl 0 hp)
      have hbk : (p.add 0).block = p.block := by unfold Addr.add; split <;> rfl
      have := hF a hFa
      omega
  have h2 : ∀ (v : Value) (l : List Int), RdI w v l → ∀ a, v.ownBlock = some a → l ≠ [] → ¬ F a := by
    intro v l ⟨ao, cap, hv, _, _, _, h4⟩ a ha hl hFa
    subst hv
    cases ao with
    | none => cases ha
    | some p =>
      have hp : 0 < l.length := List.length_pos_iff.2 hl
      have hb : p.block = a := by simpa [Value.ownBlock] using ha
      have hlt := World.block_lt_of_cell? w _ (h4 p rfl 0 hp)
      have hbk : (p.add 0).block = p.block := by unfold Addr.add; split <;> rfl
      have := hF a hFa
      omega
  exact ⟨h1 _ _ g.b, h2 _ _ g.ks, h2 _ _ g.ts⟩
theorem Dd.good.belowB {w w' : World} {B : Nat} {x : Dd} (g : x.good w) (hb : Below B w w') (hB : w.heap.size ≤ B) : x.good w' := by
  refine g.below ⟨hb.os, hb.tape, hb.output, hb.size, fun k hk => hb.block k (by omega)⟩
theorem Up.does {B : Nat} {w0 w : World} {d : Value} {D : AD} (h : Up B w0 w d D) (x : Dd) (g : x.good w) (ho : x.off (fun b => B ≤ b ∧ b < w.heap.size)) (hA : x.A.size ≤ 140737488355328) (hT : x.To.size ≤ 140737488355328) :
    Calls Try.prog 30 #[d, .agg x.cells.toArray] w fun e w' => e = .returned (.int .i64 (doD D x).2) ∧ Up B w0 w' d (doD D x).1 := by
  refine (does_any h.dk x g ho hA hT).mono ?_
  rintro e w' ⟨rfl, hd, hc⟩
  exact ⟨rfl, h.deed (Below.refl _ _) hd hc⟩
/-- what a script comes to -/
def stepD (D : AD) (x : Dd) : AD := if largeB x then D else (doD D x).1
def foldD (D : AD) (xs : List Dd) (k : Nat) : AD := (xs.take k).foldl stepD D
theorem foldD_succ (D : AD) (xs : List Dd) (k : Nat) (h : k < xs.length) : foldD D xs (k + 1) = stepD (foldD D xs k) xs[k] := by
  unfold foldD
  rw [List.take_succ_eq_append_getElem h, List.foldl_append]
  rfl

set_option maxRecDepth 100000 in
set_option maxHeartbeats 1600000 in
theorem done_any (w : World) (m : Nat) (hm : m ≤ 16777216) (v : Value) (xs : List Dd) (hx : RdD w v xs) :
    Calls Try.prog 35 #[.int .i64 m, v] w fun e w' => ∃ d, e = .returned (.tuple #[d, .bool true]) ∧ Up w.heap.size w w' d (foldD (newD m) xs 40) := by
  obtain ⟨ao, cap, hv, h1, h2, h3⟩ := hx
  subst hv
  obtain ⟨n, HN⟩ := named xs.length
  rw [← HN.out] at h1 ⊢
  have HX : Hid _ := h3
  unfold maxLen at h2
  clear h3
  go_enter Try.func35, Try.ntmps35
  go_wp2_with fail
  refine (new_any _ m hm).mono ?_
  rintro e w1 ⟨d, rfl, hdk, hb1, hd0⟩
  have hup : Up w.heap.size w w1 d (newD m) := ⟨hdk, hb1, hb1.size⟩
  obtain ⟨da, hd⟩ : ∃ a, d = .pointer a := by
    obtain ⟨bd, bs, bcc, fv, ps, rfl, -⟩ := hdk
    exact ⟨_, rfl⟩
  subst hd
  clear hdk hb1 hd0
  go_wp2
  go_loopw [8] (fun iv wr => ∃ k : Nat, k ≤ n ∧ k ≤ 40 ∧ iv = .int .i64 k ∧ Up w.heap.size w wr (.pointer da) (foldD (newD m) xs k)) (fun iv _ => 40 - (intOf iv).toNat)
  case atStart => exact ⟨0, by omega, by omega, rfl, hup⟩
  case round =>
    obtain ⟨k, hkn, hk40, rfl, hu⟩ := hrel
    by_cases hlt : k < n ∧ k < 40
    · obtain ⟨hl1, hl2⟩ := hlt
      have hl1' : (k : Int) < n := by omega
      have hl2' : (k : Int) < 40 := by omega
      have hkl : k < xs.length := by rw [← HN.out]; exact hl1
      obtain ⟨b0, off, hao, hb0, hg, hcl⟩ := HX.out k hkl
      subst hao
      have hfs := foldD_succ (newD m) xs k hkl
      obtain ⟨x, HXX⟩ := named (xs[k]'hkl)
      simp only [← HXX.out] at hg hcl hfs
      have HFS : Hid _ := hfs
      have hgr : x.good wr := hg.belowB hu.bel (Nat.le_refl _)
      have hoff : ∀ W : World, x.off (fun b => w.heap.size ≤ b ∧ b < W.heap.size) := fun W => off_of hg _ (fun b h => h.1)
      have hc : ∀ j (hj : j < 7), wr.cell? ⟨b0, off + k * 7 + j, none⟩ = some (x.cells[j]'(by simp [Dd.cells]; omega)) := fun j hj => (hu.bel.cell (p := ⟨b0, off + k * 7 + j, none⟩) hb0).trans (hcl j hj)
      have c0 := hc 0 (by omega)
      have c1 := hc 1 (by omega)
      have c2 := hc 2 (by omega)
      have c3 := hc 3 (by omega)
      have c4 := hc 4 (by omega)
      have c5 := hc 5 (by omega)
      have c6 := hc 6 (by omega)
      obtain ⟨dn, A, To, bv, b, nn, kv, ks, tv, ts⟩ := x
      simp only [Dd.cells, List.getElem_cons_zero, List.getElem_cons_succ, Nat.add_zero] at c0 c1 c2 c3 c4 c5 c6
      have HG : Hid _ := hgr
      have HO : Hid _ := hoff
      have HU : Hid _ := hu
      have HCL : Hid _ := hc
      clear hg hcl hfs hgr hoff hu hc
      go_wp2_with fail
      have hlg := large_any wr _ HG.out
      have hss := HFS.out
      unfold stepD at hss
      obtain ⟨lb, HLB⟩ := named (largeB ⟨dn, A, To, bv, b, nn, kv, ks, tv, ts⟩)
      rw [← HLB.out] at hlg hss
      refine Calls.mono (show Calls Try.prog 28 #[Value.agg #[Value.int .u8 (dn : Int), .string A, .string To, bv, .int .i64 nn, kv, tv]] wr _ from hlg) ?_
      rintro e w2 ⟨rfl, hb2⟩
      have HU2 : Hid _ := Up.below (show Up _ _ _ _ _ from HU.out) hb2
      clear hlg c0 c1 c2 c3 c4 c5 c6
      cases lb with
      | true =>
        rw [if_pos rfl] at hss
        have HSS : Hid _ := hss
        clear hss
        go_wp2
        go_roundw
        case rel => exact ⟨k + 1, by omega, by omega, by go_num, by rw [HSS.out]; exact HU2.out⟩
        case measure => simp [intOf]; omega
      | false =>
        rw [if_neg (by simp)] at hss
        have HSS : Hid _ := hss
        clear hss
        have hsz : A.size ≤ 100 ∧ To.size ≤ 100 := by
          have h := HLB.out.symm
          simp only [largeB, Bool.or_eq_false_iff, decide_eq_false_iff_not] at h
          omega
        have hb0w : b0 < wr.heap.size := by have := (show Up _ _ _ _ _ from HU.out).le; omega
        have hc2 : ∀ j (hj : j < 7), w2.cell? ⟨b0, off + k * 7 + j, none⟩ = some ((Dd.mk dn A To bv b nn kv ks tv ts).cells[j]'(by simp [Dd.cells]; omega)) := fun j hj => (hb2.cell (p := ⟨b0, off + k * 7 + j, none⟩) hb0w).trans (HCL.out j hj)
        have c0 := hc2 0 (by omega)
        have c1 := hc2 1 (by omega)
        have c2 := hc2 2 (by omega)
        have c3 := hc2 3 (by omega)
        have c4 := hc2 4 (by omega)
        have c5 := hc2 5 (by omega)
        have c6 := hc2 6 (by omega)
        simp only [Dd.cells, List.getElem_cons_zero, List.getElem_cons_succ, Nat.add_zero] at c0 c1 c2 c3 c4 c5 c6
        have HG2 : Hid _ := Dd.good.below (show Dd.good _ _ from HG.out) hb2
        have hoff2 : (Dd.mk dn A To bv b nn kv ks tv ts).off (fun b => w.heap.size ≤ b ∧ b < w2.heap.size) := HO.out w2
        have hdo := Up.does (show Up _ _ _ _ _ from HU2.out) _ HG2.out hoff2 (by simp only; omega) (by simp only; omega)
        clear hc2 hb0w hsz
        go_wp2_with fail
        refine Calls.mono (show Calls Try.prog 30 #[Value.pointer da, Value.agg #[Value.int .u8 (dn : Int), .string A, .string To, bv, .int .i64 nn, kv, tv]] w2 _ from hdo) ?_
        rintro e w3 ⟨rfl, hu3⟩
        clear hdo c0 c1 c2 c3 c4 c5 c6
        go_wp2
        go_roundw
        case rel => exact ⟨k + 1, by omega, by omega, by go_num, by rw [HSS.out]; exact hu3⟩
        case measure => simp [intOf]; omega
    · have hcond : ¬ ((k : Int) < n) ∨ ((k : Int) < n ∧ ¬ ((k : Int) < 40)) := by omega
      have hend : foldD (newD m) xs 40 = foldD (newD m) xs k := by
        unfold foldD
        rcases Nat.lt_or_ge k 40 with h | h
        · rw [List.take_of_length_le (show xs.length ≤ 40 by rw [← HN.out]; omega), List.take_of_length_le (show xs.length ≤ k by rw [← HN.out]; omega)]
        · rw [show k = 40 by omega]
      have HE : Hid _ := hend
      clear hend hlt
      rcases hcond with hc | ⟨hc, hc2⟩
      all_goals
        go_wp2
        go_ret2
        exact ⟨_, rfl, by rw [HE.out]; exact hu⟩
end Go.Proofs.Ytloigepmmhcibaa
