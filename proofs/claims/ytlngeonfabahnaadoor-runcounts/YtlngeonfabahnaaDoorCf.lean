/-
  The contract of Check. Own work.
-/
import Derived.Test.YtlngeonfabahnaaDoorCe
namespace Go.Proofs.YtlngeonfabahnaaDoor
open Go.RowKit

/-- a program as a value, its code in cv -/
def prgV (p : Prg) (cv : Value) : Value := .agg #[.string p.name, .int .i64 p.regs, cv]
def codeB (p : Prg) (pol : Int) (k : Nat) : Bool := (p.code.take k).all (insB p.regs p.code.length pol)
theorem okP_no1 {p : Prg} {pol : Int} (h : decide (1 ≤ p.name.size ∧ p.name.size ≤ 40) = false) : okP p pol = false := by unfold okP; rw [h]; rfl
theorem okP_no2 {p : Prg} {pol : Int} (h : ¬ (1 ≤ p.regs ∧ p.regs ≤ 16)) : okP p pol = false := by unfold okP; simp [h]
theorem okP_no3 {p : Prg} {pol : Int} (h : ¬ p.code.length ≤ 500) : okP p pol = false := by unfold okP; simp [h]
theorem okP_no4 {p : Prg} {pol : Int} (h : endsB p.code = false) : okP p pol = false := by unfold okP; simp [h]
theorem okP_no5 {p : Prg} {pol : Int} (k : Nat) (hk : k < p.code.length) (h : insB p.regs p.code.length pol p.code[k] = false) : okP p pol = false := by
  unfold okP
  have : p.code.all (insB p.regs p.code.length pol) = false := by
    rw [List.all_eq_false]
    exact ⟨_, List.getElem_mem hk, by rw [h]; simp⟩
  rw [this, Bool.and_false]
theorem okP_yes {p : Prg} {pol : Int} (h1 : decide (1 ≤ p.name.size ∧ p.name.size ≤ 40) = true) (h2 : 1 ≤ p.regs ∧ p.regs ≤ 16) (h3 : p.code.length ≤ 500) (h4 : endsB p.code = true) (h5 : codeB p pol p.code.length = true) : okP p pol = true := by
  unfold okP
  unfold codeB at h5
  rw [List.take_length] at h5
  rw [h1, h4, h5]
  simp [h2, h3]
theorem codeB_succ (p : Prg) (pol : Int) (k : Nat) (hk : k < p.code.length) : codeB p pol (k + 1) = (codeB p pol k && insB p.regs p.code.length pol p.code[k]) := by
  unfold codeB
  rw [List.take_succ_eq_append_getElem hk, List.all_append]
  simp
def errP (p : Prg) (pol : Int) : Int := if okP p pol = true then 0 else 100

set_option maxRecDepth 100000 in
set_option maxHeartbeats 1600000 in
theorem check_any (p : Prg) (cv : Value) (pol : Int) (w : World) (hk : Kinds w) (hc : RdC w cv p.code) (hw : ∀ i ∈ p.code, i.wf) :
    Calls Tryd.prog 22 #[prgV p cv, .int .i64 pol] w fun e w' => e = .returned (.int .i64 (errP p pol)) ∧ Below w.heap.size w w' := by
  obtain ⟨name, regs, code⟩ := p
  obtain ⟨ao, cap, rfl, hlen⟩ := hc.shape
  simp only at hc hw hlen
  show Calls Tryd.prog 22 #[.agg #[.string name, .int .i64 regs, .slice ao code.length cap], .int .i64 pol] w _
  have kn := fun w => nameMayBe_any name w
  obtain ⟨bn, HBN⟩ := named (decide (1 ≤ name.size ∧ name.size ≤ 40))
  rw [← HBN.out] at kn
  obtain ⟨n, HN⟩ := named code.length
  rw [← HN.out] at hlen hc ⊢
  have HC := hide hc
  have HK := hide hk
  have HWF := hide hw
  obtain ⟨Q, HQ⟩ := named (errP ⟨name, regs, code⟩ pol)
  rw [← HQ.out]
  have no : okP ⟨name, regs, code⟩ pol = false → Q = 100 := fun h => by rw [HQ.out]; unfold errP; rw [h]; rfl
  have NO := hide no
  clear no hc hk hw
  go_enter Tryd.func22, Tryd.ntmps22
  go_wp2_with fail
  refine (kn _).mono ?_
  rintro e w1 ⟨rfl, rfl⟩
  clear kn
  cases hbn : bn with
  | false =>
    go_wp2
    go_ret
    exact ⟨by rw [NO.out (okP_no1 (by rw [← HBN.out]; exact hbn))]; rfl, (Below.refl _ _).alloc (Nat.le_refl _) _⟩
  | true =>
    by_cases hr : 1 ≤ regs ∧ regs ≤ 16
    · by_cases h5 : n ≤ 500
      · have g1 : ¬ regs < 1 := by omega
        have g2 : ¬ (16 : Int) < regs := by omega
        have g3 : ¬ (500 : Int) < (n : Int) := by omega
        go_wp2_with fail
        refine (ends_any _ code _ ?_).mono ?_
        · exact HC.out.alloc _
        rintro e w1 ⟨rfl, rfl⟩
        cases hbe : endsB code with
        | false =>
          go_wp2
          go_ret
          exact ⟨by rw [NO.out (okP_no4 hbe)]; rfl, (Below.refl _ _).alloc (Nat.le_refl _) _⟩
        | true =>
          have hB0 : Below w.heap.size w (w.alloc (.cells #[.string name, .int .i64 regs, .slice ao n cap] 24)) := (Below.refl _ _).alloc (Nat.le_refl _) _
          go_wp2_with fail
          obtain ⟨W, HW⟩ := named (w.alloc (.cells #[.string name, .int .i64 regs, .slice ao n cap] 24))
          have hcW : W.heap[w.heap.size]? = some (.cells #[.string name, .int .i64 regs, .slice ao n cap] 24 (0, 0)) := by rw [HW.out]; exact heap_alloc_new w _
          have hW2 : W.cell? ⟨w.heap.size, 2, none⟩ = some (.slice ao n cap) := cell_of_row W w.heap.size 2 _ 24 (0, 0) hcW
          have hsW : W.heap.size = w.heap.size + 1 := by rw [HW.out]; simp
          rw [← HW.out] at hB0 ⊢
          refine (rulesOf_any regs n pol W).mono ?_
          rintro e w1 ⟨rv, rfl, hR, hb1⟩
          have hsz1 := hb1.size
          have hW2' := (hb1.cell (p := ⟨w.heap.size, 2, none⟩) (by show w.heap.size < W.heap.size; omega)).trans hW2
          have HR := hide hR
          have HB := hide (below_call hB0 hb1)
          have HLT := hide (show w.heap.size < w1.heap.size by omega)
          clear hcW hW2 hsW hB0 hb1 hsz1 hR
          go_wp2
          go_loopw [42] (fun iv wr => ∃ k : Nat, k ≤ n ∧ iv = .int .i64 k ∧ codeB ⟨name, regs, code⟩ pol k = true ∧ Below w1.heap.size w1 wr) (fun iv _ => n - (intOf iv).toNat)
          case atStart => exact ⟨0, by omega, rfl, by simp [codeB], Below.refl _ _⟩
          case round =>
            obtain ⟨k, hkn, rfl, hcb, hbr⟩ := hrel
            have HCB := hide hcb
            have hbw : Below w.heap.size w wr := below_call HB.out hbr
            by_cases hlt : k < n
            · obtain ⟨b, off, hao, hblt, c0, c1, c2, c3, c4, c5⟩ := (HC.out.below hbw).at k (by rw [← HN.out]; exact hlt)
              subst hao
              have HWI := hide (HWF.out _ (List.getElem_mem (show k < code.length by rw [← HN.out]; exact hlt)))
              obtain ⟨i, HI⟩ := named (code[k]'(by rw [← HN.out]; exact hlt))
              rw [← HI.out] at c0 c1 c2 c3 c4 c5 HWI
              have hsr := hbr.size
              have HK2 := hide (HK.out.below hbw)
              have HR2 := hide (HR.out.below hbr)
              have HBR := hide hbr
              have HBW := hide hbw
              clear hcb hbr hbw
              go_wp2_with fail
              obtain ⟨X, HX⟩ := named (wr.alloc (.cells #[.int .u8 (i.op : Int), .int .i64 i.a, .int .i64 i.b, .int .i64 i.c, .int .i64 i.n, .string i.s] 52))
              have hbX : Below wr.heap.size wr X := by rw [HX.out]; exact (Below.refl _ _).alloc (Nat.le_refl _) _
              rw [← HX.out]
              refine (hasItsOwn_any i HWI.out rv regs n pol X (HK2.out.below hbX) (HR2.out.below hbX)).mono ?_
              rintro e w2 ⟨rfl, hb2⟩
              have hbr2 : Below w1.heap.size w1 w2 := below_call HBR.out (below_call hbX hb2)
              have HBR2 := hide hbr2
              have hin : insB regs (n : Int) pol i = insB regs (code.length : Int) pol (code[k]'(by rw [← HN.out]; exact hlt)) := by rw [← HI.out, HN.out]
              have HIN := hide hin
              clear hin hbr2 hb2 hbX
              cases hib : insB regs (n : Int) pol i with
              | false =>
                go_wp2
                go_ret
                exact ⟨by rw [NO.out (okP_no5 (p := ⟨name, regs, code⟩) k (by show k < code.length; rw [← HN.out]; exact hlt) (by rw [← hib]; exact HIN.out.symm))]; rfl, below_call HB.out HBR2.out⟩
              | true =>
                go_wp2
                go_roundw
                case rel =>
                  refine ⟨k + 1, by omega, by go_num, ?_, HBR2.out⟩
                  rw [codeB_succ _ _ k (by show k < code.length; rw [← HN.out]; exact hlt), HCB.out, Bool.true_and]
                  show insB regs (code.length : Int) pol (code[k]'_) = true
                  rw [← HIN.out]
                  exact hib
                case measure => simp [intOf]; omega
            · have hkn2 : k = n := by omega
              subst hkn2
              go_wp2
              go_ret
              refine ⟨?_, hbw⟩
              have hok : okP ⟨name, regs, code⟩ pol = true := okP_yes (by rw [← HBN.out]; exact hbn) hr (by show code.length ≤ 500; rw [← HN.out]; exact h5) hbe (by show codeB _ _ code.length = true; rw [← HN.out]; exact HCB.out)
              rw [HQ.out]
              unfold errP
              rw [hok]
              rfl
      · have g1 : ¬ regs < 1 := by omega
        have g2 : ¬ (16 : Int) < regs := by omega
        have g3 : (500 : Int) < (n : Int) := by omega
        go_wp2
        go_ret
        exact ⟨by rw [NO.out (okP_no3 (by show ¬ code.length ≤ 500; rw [← HN.out]; exact h5))]; rfl, (Below.refl _ _).alloc (Nat.le_refl _) _⟩
    · by_cases g1 : regs < 1
      · go_wp2
        go_ret
        exact ⟨by rw [NO.out (okP_no2 hr)]; rfl, (Below.refl _ _).alloc (Nat.le_refl _) _⟩
      · have g2 : (16 : Int) < regs := by omega
        go_wp2
        go_ret
        exact ⟨by rw [NO.out (okP_no2 hr)]; rfl, (Below.refl _ _).alloc (Nat.le_refl _) _⟩
end Go.Proofs.YtlngeonfabahnaaDoor
