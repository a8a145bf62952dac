/-
  The independent reading's Check. Own work.
-/
import Derived.Test.YtpiiehenmkinaaaDoorJe
import Derived.Deep.RegionHeld3
namespace Go.Proofs.YtpiiehenmkinaaaDoor
open Go.RowKit

theorem Nine.below {w w' : World} {p b : Nat} {o0 o1 o2 o3 o4 o5 : Nat} {x0 x1 x2 c0 c1 c2 c3 c4 c5 : Value}
    (h : w.cell? ⟨p, 0, none⟩ = some x0 ∧ w.cell? ⟨p, 1, none⟩ = some x1 ∧ w.cell? ⟨p, 2, none⟩ = some x2 ∧ w.cell? ⟨b, o0, none⟩ = some c0 ∧ w.cell? ⟨b, o1, none⟩ = some c1 ∧ w.cell? ⟨b, o2, none⟩ = some c2 ∧ w.cell? ⟨b, o3, none⟩ = some c3 ∧ w.cell? ⟨b, o4, none⟩ = some c4 ∧ w.cell? ⟨b, o5, none⟩ = some c5)
    (hp : p < w.heap.size) (hq : b < w.heap.size) (hb : Below w.heap.size w w') :
    w'.cell? ⟨p, 0, none⟩ = some x0 ∧ w'.cell? ⟨p, 1, none⟩ = some x1 ∧ w'.cell? ⟨p, 2, none⟩ = some x2 ∧ w'.cell? ⟨b, o0, none⟩ = some c0 ∧ w'.cell? ⟨b, o1, none⟩ = some c1 ∧ w'.cell? ⟨b, o2, none⟩ = some c2 ∧ w'.cell? ⟨b, o3, none⟩ = some c3 ∧ w'.cell? ⟨b, o4, none⟩ = some c4 ∧ w'.cell? ⟨b, o5, none⟩ = some c5 := by
  obtain ⟨h0, h1, h2, h3, h4, h5, h6, h7, h8⟩ := h
  exact ⟨(hb.cell (p := ⟨p, 0, none⟩) hp).trans h0, (hb.cell (p := ⟨p, 1, none⟩) hp).trans h1, (hb.cell (p := ⟨p, 2, none⟩) hp).trans h2, (hb.cell (p := ⟨b, o0, none⟩) hq).trans h3, (hb.cell (p := ⟨b, o1, none⟩) hq).trans h4, (hb.cell (p := ⟨b, o2, none⟩) hq).trans h5, (hb.cell (p := ⟨b, o3, none⟩) hq).trans h6, (hb.cell (p := ⟨b, o4, none⟩) hq).trans h7, (hb.cell (p := ⟨b, o5, none⟩) hq).trans h8⟩
theorem endsB_last (code : List Ins) (h : 0 < code.length) : endsB code = decide ((code[code.length - 1]'(by omega)).op = 8 ∨ (code[code.length - 1]'(by omega)).op = 15 ∨ (code[code.length - 1]'(by omega)).op = 16) := by
  unfold endsB
  rw [List.getLast?_eq_getElem?, List.getElem?_eq_getElem (by omega)]
set_option maxRecDepth 100000 in
set_option maxHeartbeats 1600000 in
theorem refCheck_any (p : Prg) (cv : Value) (pol : Int) (w : World) (hc : RdC w cv p.code) :
    Calls Tryd.prog 15 #[prgV p cv, .int .i64 pol] w fun e w' => e = .returned (.int .i64 (errP p pol)) ∧ Below w.heap.size w w' := by
  obtain ⟨name, regs, code⟩ := p
  obtain ⟨ao, cap, rfl, hlen⟩ := hc.shape
  simp only at hc hlen
  show Calls Tryd.prog 15 #[.agg #[.string name, .int .i64 regs, .slice ao code.length cap], .int .i64 pol] w _
  have kn := fun w => refName_any name w
  obtain ⟨bn, HBN⟩ := named (decide (1 ≤ name.size ∧ name.size ≤ 40))
  rw [← HBN.out] at kn
  obtain ⟨n, HN⟩ := named code.length
  rw [← HN.out] at hlen hc ⊢
  have HC := hide hc
  obtain ⟨Q, HQ⟩ := named (errP ⟨name, regs, code⟩ pol)
  rw [← HQ.out]
  have no : okP ⟨name, regs, code⟩ pol = false → Q = 100 := fun h => by rw [HQ.out]; unfold errP; rw [h]; rfl
  have NO := hide no
  clear no hc
  go_enter Tryd.func15, Tryd.ntmps15
  go_wp2_with fail
  refine (kn _).mono ?_
  rintro e w1 ⟨rfl, rfl⟩
  clear kn
  cases hbn : bn with
  | false =>
    go_wp2
    go_ret
    exact ⟨by rw [NO.out (okP_no1 (by rw [← HBN.out]; exact hbn))]; rfl, (Below.refl _ _).alloc (Nat.le_refl _) _⟩
  | true =>
    by_cases g1 : regs < 1
    · go_wp2
      go_ret
      exact ⟨by rw [NO.out (okP_no2 (by show ¬ (1 ≤ regs ∧ regs ≤ 16); omega))]; rfl, (Below.refl _ _).alloc (Nat.le_refl _) _⟩
    by_cases g2 : (16 : Int) < regs
    · go_wp2
      go_ret
      exact ⟨by rw [NO.out (okP_no2 (by show ¬ (1 ≤ regs ∧ regs ≤ 16); omega))]; rfl, (Below.refl _ _).alloc (Nat.le_refl _) _⟩
    by_cases g3 : (n : Int) < 1
    · go_wp2
      go_ret
      have hem : endsB code = false := by
        have : code = [] := List.eq_nil_of_length_eq_zero (by rw [← HN.out]; omega)
        rw [this]
        rfl
      exact ⟨by rw [NO.out (okP_no4 hem)]; rfl, (Below.refl _ _).alloc (Nat.le_refl _) _⟩
    by_cases g4 : (500 : Int) < (n : Int)
    · go_wp2
      go_ret
      exact ⟨by rw [NO.out (okP_no3 (by show ¬ code.length ≤ 500; rw [← HN.out]; omega))]; rfl, (Below.refl _ _).alloc (Nat.le_refl _) _⟩
    have hB0 : Below w.heap.size w (w.alloc (.cells #[.string name, .int .i64 regs, .slice ao n cap] 24)) := (Below.refl _ _).alloc (Nat.le_refl _) _
    have HP0 := hide (C3.new w (.string name) (.int .i64 regs) (.slice ao n cap) 24)
    go_wp2_with fail
    obtain ⟨W, HW⟩ := named (w.alloc (.cells #[.string name, .int .i64 regs, .slice ao n cap] 24))
    rw [← HW.out] at hB0 HP0 ⊢
    have HBW := hide hB0
    obtain ⟨pb, HPB⟩ := named w.heap.size
    have HBW2 : Hid (Below w.heap.size w W) := HBW
    rw [← HPB.out] at HP0 HBW ⊢
    have HCW := hide (HC.out.below HBW2.out)
    clear hB0
    go_loopw [5] (fun iv wr => ∃ k : Nat, k ≤ n ∧ iv = .int .i64 k ∧ Hid (codeB ⟨name, regs, code⟩ pol k = true) ∧ Hid (Below W.heap.size W wr)) (fun iv _ => n - (intOf iv).toNat)
    case atStart => exact ⟨0, by omega, rfl, by show codeB _ _ _ = true; simp [codeB], Below.refl _ _⟩
    case round =>
      obtain ⟨k, hkn, rfl, HCB, HBR⟩ := hrel
      obtain ⟨-, x0, x1, x2, -⟩ := id (HP0.out.below HBR.out)
      by_cases hlt : k < n
      · obtain ⟨b, off, hao, hblt, c0, c1, c2, c3, c4, c5⟩ := (HCW.out.below HBR.out).at k (by rw [← HN.out]; exact hlt)
        subst hao
        have hkI : (k : Int) < (n : Int) := by omega
        have kc := refInstr_any ⟨name, regs, code⟩ (.slice (some ⟨b, off, none⟩) n cap) (code[k]'(by rw [← HN.out]; exact hlt)) pol wr.drew ((HCW.out.below HBR.out).below (Below.refl _ _).drew)
        have e1 : insB regs (code.length : Int) pol (code[k]'(by rw [← HN.out]; exact hlt)) = insB regs (n : Int) pol (code[k]'(by rw [← HN.out]; exact hlt)) := congrArg (fun (x : Nat) => insB regs (x : Int) pol (code[k]'(by rw [← HN.out]; exact hlt))) HN.out.symm
        have HIN := hide e1
        simp only at kc
        rw [e1] at kc
        clear e1
        obtain ⟨i, HI⟩ := named (code[k]'(by rw [← HN.out]; exact hlt))
        rw [← HI.out] at c0 c1 c2 c3 c4 c5 kc HIN
        obtain ⟨gi, HGI⟩ := named (insB regs (n : Int) pol i)
        rw [← HGI.out] at kc HIN
        have hs0 : wr.drew.cell? ⟨pb, 0, none⟩ = some (.string name) ∧ wr.drew.cell? ⟨pb, 1, none⟩ = some (.int .i64 regs) ∧ wr.drew.cell? ⟨pb, 2, none⟩ = some (.slice (some ⟨b, off, none⟩) n cap) ∧ wr.drew.cell? ⟨b, off + k * 6, none⟩ = some (.int .u8 (i.op : Int)) ∧ wr.drew.cell? ⟨b, off + k * 6 + 1, none⟩ = some (.int .i64 i.a) ∧ wr.drew.cell? ⟨b, off + k * 6 + 2, none⟩ = some (.int .i64 i.b) ∧ wr.drew.cell? ⟨b, off + k * 6 + 3, none⟩ = some (.int .i64 i.c) ∧ wr.drew.cell? ⟨b, off + k * 6 + 4, none⟩ = some (.int .i64 i.n) ∧ wr.drew.cell? ⟨b, off + k * 6 + 5, none⟩ = some (.string i.s) := ⟨x0, x1, x2, c0, c1, c2, c3, c4, c5⟩
        have hltp : pb < wr.drew.heap.size := (HP0.out.below HBR.out).1
        have hltb : b < wr.drew.heap.size := hblt
        clear x0 x1 c0 c1 c2 c3 c4 c5
        go_wp2_with fail
        go_region_held3 (fun w' => w'.cell? ⟨pb, 0, none⟩ = some (.string name) ∧ w'.cell? ⟨pb, 1, none⟩ = some (.int .i64 regs) ∧ w'.cell? ⟨pb, 2, none⟩ = some (.slice (some ⟨b, off, none⟩) n cap) ∧ w'.cell? ⟨b, off + k * 6, none⟩ = some (.int .u8 (i.op : Int)) ∧ w'.cell? ⟨b, off + k * 6 + 1, none⟩ = some (.int .i64 i.a) ∧ w'.cell? ⟨b, off + k * 6 + 2, none⟩ = some (.int .i64 i.b) ∧ w'.cell? ⟨b, off + k * 6 + 3, none⟩ = some (.int .i64 i.c) ∧ w'.cell? ⟨b, off + k * 6 + 4, none⟩ = some (.int .i64 i.n) ∧ w'.cell? ⟨b, off + k * 6 + 5, none⟩ = some (.string i.s)) (first | exact hs1 | exact hs0) (first | (go_at_call 40; refine Calls.mono kc ?_; rintro e w2 ⟨rfl, hb2⟩; have hs1 := Nine.below hs0 hltp hltb hb2))
        have HBR2 := hide (show Below W.heap.size W w2 from below_call HBR.out ((Below.refl _ _).drew.trans hb2))
        clear hs0 hs1 kc hb2
        have HLT := hide hlt
        cases hgi : gi with
        | false =>
          go_wp2
          go_ret
          exact ⟨by rw [NO.out (okP_no5 (p := ⟨name, regs, code⟩) k (by show k < code.length; rw [← HN.out]; exact HLT.out) (by show insB regs (code.length : Int) pol (code[k]'_) = false; rw [← HI.out, HIN.out]; exact hgi))]; rfl, below_call HBW2.out HBR2.out⟩
        | true =>
          go_wp2
          go_roundw
          case rel =>
            refine ⟨k + 1, by omega, by go_num, ?_, HBR2.out⟩
            show codeB _ _ _ = true
            rw [codeB_succ _ _ k (by show k < code.length; rw [← HN.out]; exact HLT.out), HCB.out, Bool.true_and]
            show insB regs (code.length : Int) pol (code[k]'_) = true
            rw [← HI.out, HIN.out]
            exact hgi
          case measure => simp [intOf]; omega
      · have hkn2 : k = n := by omega
        subst hkn2
        have hpos : 0 < code.length := by rw [← HN.out]; omega
        have hEB := endsB_last code hpos
        obtain ⟨m, rfl⟩ : ∃ m, k = m + 1 := ⟨k - 1, by omega⟩
        obtain ⟨b, off, hao, hblt, c0, -⟩ := (HCW.out.below HBR.out).at m (by rw [← HN.out]; omega)
        subst hao
        have hi1 : code[code.length - 1]'(by omega) = code[m]'(by rw [← HN.out]; omega) := by congr 1; rw [← HN.out]; omega
        rw [hi1] at hEB
        obtain ⟨op, HOP⟩ := named ((code[m]'(by rw [← HN.out]; omega)).op)
        rw [← HOP.out] at c0 hEB
        have HEB := hide hEB
        have h1 : ((m + 1 : Nat) : Int) - 1 = (m : Int) := by omega
        have h1' : (m : Int) + 1 - 1 = (m : Int) := by omega
        have h2 : ((m : Int) + 1 = 0) = False := by simp; omega
        have HF := hide (show Below w.heap.size w wr from below_call HBW2.out HBR.out)
        have yes : (op = 8 ∨ op = 15 ∨ op = 16) → Q = 0 := fun h => by
          have hok : okP ⟨name, regs, code⟩ pol = true := okP_yes (by rw [← HBN.out]; exact hbn) (by show 1 ≤ regs ∧ regs ≤ 16; omega) (by show code.length ≤ 500; rw [← HN.out]; omega) (by show endsB code = true; rw [HEB.out]; exact decide_eq_true h) (by show codeB _ _ code.length = true; rw [← HN.out]; exact HCB.out)
          rw [HQ.out]
          unfold errP
          rw [hok]
          rfl
        have YES := hide yes
        clear hEB hi1 yes
        by_cases o8 : op = 8
        · have q8 : (op : Int) = 8 := by omega
          go_wp2
          go_ret
          exact ⟨by rw [YES.out (.inl o8)]; rfl, HF.out⟩
        by_cases o15 : op = 15
        · have q8 : ¬ (op : Int) = 8 := by omega
          have q15 : (op : Int) = 15 := by omega
          go_wp2
          go_ret
          exact ⟨by rw [YES.out (.inr (.inl o15))]; rfl, HF.out⟩
        by_cases o16 : op = 16
        · have q8 : ¬ (op : Int) = 8 := by omega
          have q15 : ¬ (op : Int) = 15 := by omega
          have q16 : (op : Int) = 16 := by omega
          go_wp2
          go_ret
          exact ⟨by rw [YES.out (.inr (.inr o16))]; rfl, HF.out⟩
        · have q8 : ¬ (op : Int) = 8 := by omega
          have q15 : ¬ (op : Int) = 15 := by omega
          have q16 : ¬ (op : Int) = 16 := by omega
          have hQ := NO.out (okP_no4 (by show endsB code = false; rw [HEB.out]; exact decide_eq_false (by omega)))
          go_wp2
          all_goals go_ret
          all_goals first | exact ⟨by rw [hQ]; rfl, HF.out⟩ | (exfalso; omega) | (exfalso; simp_all; done)
end Go.Proofs.YtpiiehenmkinaaaDoor
