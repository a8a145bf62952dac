/-
  Several of my texts in one: Je Jf Ra Mathv Rb Rc. Own work.
-/
import Derived.Test.YtpiiehenmkinaaaDoorV1
import Derived.Test.YtpiiehenmkinaaaDoorV2
import Derived.Test.YtpiiehenmkinaaaDoorV3
import Derived.Test.YtpiiehenmkinaaaDoorV4
import Derived.Test.YtpiiehenmkinaaaDoorV5
import Derived.Deep.RegionHeld3
import Derived.Test.YtpiiehenmkinaaaDoorU1
import Derived.Test.YtpiiehenmkinaaaDoorU3
/-
  The independent reading's instr, Check. Own work.
-/
namespace Go.Proofs.YtpiiehenmkinaaaDoor
open Go.RowKit

set_option maxRecDepth 100000 in
set_option maxHeartbeats 3200000 in
theorem refInstr_none (name : ByteArray) (regs : Int) (ao : Option Addr) (m cap : Nat) (op : Nat) (a b c n : Int) (s : ByteArray) (pol : Int) (w : World) (h : op = 0 ∨ 16 < op) :
    Calls Tryd.prog 40 #[.agg #[.string name, .int .i64 regs, .slice ao m cap], .agg #[.int .u8 (op : Int), .int .i64 a, .int .i64 b, .int .i64 c, .int .i64 n, .string s], .int .i64 pol] w fun e w' => e = .returned (.bool false) ∧ Below w.heap.size w w' := by
  obtain ⟨z, HZ⟩ := named (op : Int)
  rw [← HZ.out]
  have z1 : ¬ z = 1 := by rw [HZ.out]; omega
  have z2 : ¬ z = 2 := by rw [HZ.out]; omega
  have z3 : ¬ z = 3 := by rw [HZ.out]; omega
  have z4 : ¬ z = 4 := by rw [HZ.out]; omega
  have z5 : ¬ z = 5 := by rw [HZ.out]; omega
  have z6 : ¬ z = 6 := by rw [HZ.out]; omega
  have z7 : ¬ z = 7 := by rw [HZ.out]; omega
  have z8 : ¬ z = 8 := by rw [HZ.out]; omega
  have z9 : ¬ z = 9 := by rw [HZ.out]; omega
  have z10 : ¬ z = 10 := by rw [HZ.out]; omega
  have z11 : ¬ z = 11 := by rw [HZ.out]; omega
  have z12 : ¬ z = 12 := by rw [HZ.out]; omega
  have z13 : ¬ z = 13 := by rw [HZ.out]; omega
  have z14 : ¬ z = 14 := by rw [HZ.out]; omega
  have z15 : ¬ z = 15 := by rw [HZ.out]; omega
  have z16 : ¬ z = 16 := by rw [HZ.out]; omega
  by_cases hn : 0 ≤ n
  · go_enter Tryd.func40, Tryd.ntmps40
    go_wp2
    go_ret
    exact ⟨rfl, ((Below.refl _ _).alloc (Nat.le_refl _) _).alloc (by simp) _⟩
  · go_enter Tryd.func40, Tryd.ntmps40
    go_wp2
    go_ret
    exact ⟨rfl, ((Below.refl _ _).alloc (Nat.le_refl _) _).alloc (by simp) _⟩
theorem fields_none (o : Nat) (h : o = 0 ∨ 16 < o) : fields o = [] := by
  unfold fields
  split <;> first | rfl | omega
theorem refInstr_any (p : Prg) (cv : Value) (i : Ins) (pol : Int) (w : World) (hc : RdC w cv p.code) :
    Calls Tryd.prog 40 #[prgV p cv, insV i, .int .i64 pol] w fun e w' => e = .returned (.bool (insB p.regs p.code.length pol i)) ∧ Below w.heap.size w w' := by
  obtain ⟨name, regs, code⟩ := p
  obtain ⟨op, a, b, c, n, s⟩ := i
  obtain ⟨ao, cap, rfl, -⟩ := hc.shape
  have hh : op = 0 ∨ 16 < op ∨ op = 1 ∨ op = 2 ∨ op = 3 ∨ op = 4 ∨ op = 5 ∨ op = 6 ∨ op = 7 ∨ op = 8 ∨ op = 9 ∨ op = 10 ∨ op = 11 ∨ op = 12 ∨ op = 13 ∨ op = 14 ∨ op = 15 ∨ op = 16 := by omega
  rcases hh with h | h | h | h | h | h | h | h | h | h | h | h | h | h | h | h | h | h
  · rw [insB_none _ _ _ _ (fields_none _ (.inl h))]
    exact refInstr_none name regs ao code.length cap op a b c n s pol w (.inl h)
  · rw [insB_none _ _ _ _ (fields_none _ (.inr h))]
    exact refInstr_none name regs ao code.length cap op a b c n s pol w (.inr h)
  · subst h
    exact refInstr_1 name regs ao code.length cap a b c n s pol w
  · subst h
    exact refInstr_2 name regs ao code.length cap a b c n s pol w
  · subst h
    exact refInstr_3 name regs ao code.length cap a b c n s pol w
  · subst h
    exact refInstr_4 name regs ao code.length cap a b c n s pol w
  · subst h
    exact refInstr_5 name regs ao code.length cap a b c n s pol w
  · subst h
    exact refInstr_6 name regs ao code.length cap a b c n s pol w
  · subst h
    exact refInstr_7 name regs ao code.length cap a b c n s pol w
  · subst h
    exact refInstr_8 name regs ao code.length cap a b c n s pol w
  · subst h
    exact refInstr_9 name regs ao code.length cap a b c n s pol w
  · subst h
    exact refInstr_10 name regs ao code.length cap a b c n s pol w
  · subst h
    exact refInstr_11 name regs ao code.length cap a b c n s pol w
  · subst h
    exact refInstr_12 name regs ao code.length cap a b c n s pol w
  · subst h
    exact refInstr_13 name regs ao code.length cap a b c n s pol w
  · subst h
    exact refInstr_14 name regs ao code.length cap a b c n s pol w
  · subst h
    exact refInstr_15 name regs ao code.length cap a b c n s pol w
  · subst h
    exact refInstr_16 name regs ao code.length cap a b c n s pol w
end Go.Proofs.YtpiiehenmkinaaaDoor

/-
  The independent reading's Check. Own work.
-/
namespace Go.Proofs.YtpiiehenmkinaaaDoor
open Go.RowKit

theorem Nine.below {w w' : World} {p b : Nat} {o0 o1 o2 o3 o4 o5 : Nat} {x0 x1 x2 c0 c1 c2 c3 c4 c5 : Value}
    (h : w.cell? ⟨p, 0, none⟩ = some x0 ∧ w.cell? ⟨p, 1, none⟩ = some x1 ∧ w.cell? ⟨p, 2, none⟩ = some x2 ∧ w.cell? ⟨b, o0, none⟩ = some c0 ∧ w.cell? ⟨b, o1, none⟩ = some c1 ∧ w.cell? ⟨b, o2, none⟩ = some c2 ∧ w.cell? ⟨b, o3, none⟩ = some c3 ∧ w.cell? ⟨b, o4, none⟩ = some c4 ∧ w.cell? ⟨b, o5, none⟩ = some c5)
    (hp : p < w.heap.size) (hq : b < w.heap.size) (hb : Below w.heap.size w w') :
    w'.cell? ⟨p, 0, none⟩ = some x0 ∧ w'.cell? ⟨p, 1, none⟩ = some x1 ∧ w'.cell? ⟨p, 2, none⟩ = some x2 ∧ w'.cell? ⟨b, o0, none⟩ = some c0 ∧ w'.cell? ⟨b, o1, none⟩ = some c1 ∧ w'.cell? ⟨b, o2, none⟩ = some c2 ∧ w'.cell? ⟨b, o3, none⟩ = some c3 ∧ w'.cell? ⟨b, o4, none⟩ = some c4 ∧ w'.cell? ⟨b, o5, none⟩ = some c5 := by
  obtain ⟨h0, h1, h2, h3, h4, h5, h6, h7, h8⟩ := h
  exact ⟨(hb.cell (p := ⟨p, 0, none⟩) hp).trans h0, (hb.cell (p := ⟨p, 1, none⟩) hp).trans h1, (hb.cell (p := ⟨p, 2, none⟩) hp).trans h2, (hb.cell (p := ⟨b, o0, none⟩) hq).trans h3, (hb.cell (p := ⟨b, o1, none⟩) hq).trans h4, (hb.cell (p := ⟨b, o2, none⟩) hq).trans h5, (hb.cell (p := ⟨b, o3, none⟩) hq).trans h6, (hb.cell (p := ⟨b, o4, none⟩) hq).trans h7, (hb.cell (p := ⟨b, o5, none⟩) hq).trans h8⟩
theorem endsB_last (code : List Ins) (h : 0 < code.length) : endsB code = decide ((code[code.length - 1]'(by omega)).op = 8 ∨ (code[code.length - 1]'(by omega)).op = 15 ∨ (code[code.length - 1]'(by omega)).op = 16) := by
  unfold endsB
  rw [List.getLast?_eq_getElem?, List.getElem?_eq_getElem (by omega)]
set_option maxRecDepth 100000 in
set_option maxHeartbeats 1600000 in
theorem refCheck_any (p : Prg) (cv : Value) (pol : Int) (w : World) (hc : RdC w cv p.code) :
    Calls Tryd.prog 15 #[prgV p cv, .int .i64 pol] w fun e w' => e = .returned (.int .i64 (errP p pol)) ∧ Below w.heap.size w w' := by
  obtain ⟨name, regs, code⟩ := p
  obtain ⟨ao, cap, rfl, hlen⟩ := hc.shape
  simp only at hc hlen
  show Calls Tryd.prog 15 #[.agg #[.string name, .int .i64 regs, .slice ao code.length cap], .int .i64 pol] w _
  have kn := fun w => refName_any name w
  obtain ⟨bn, HBN⟩ := named (decide (1 ≤ name.size ∧ name.size ≤ 40))
  rw [← HBN.out] at kn
  obtain ⟨n, HN⟩ := named code.length
  rw [← HN.out] at hlen hc ⊢
  have HC := hide hc
  obtain ⟨Q, HQ⟩ := named (errP ⟨name, regs, code⟩ pol)
  rw [← HQ.out]
  have no : okP ⟨name, regs, code⟩ pol = false → Q = 100 := fun h => by rw [HQ.out]; unfold errP; rw [h]; rfl
  have NO := hide no
  clear no hc
  go_enter Tryd.func15, Tryd.ntmps15
  go_wp2_with fail
  refine (kn _).mono ?_
  rintro e w1 ⟨rfl, rfl⟩
  clear kn
  cases hbn : bn with
  | false =>
    go_wp2
    go_ret
    exact ⟨by rw [NO.out (okP_no1 (by rw [← HBN.out]; exact hbn))]; rfl, (Below.refl _ _).alloc (Nat.le_refl _) _⟩
  | true =>
    by_cases g1 : regs < 1
    · go_wp2
      go_ret
      exact ⟨by rw [NO.out (okP_no2 (by show ¬ (1 ≤ regs ∧ regs ≤ 16); omega))]; rfl, (Below.refl _ _).alloc (Nat.le_refl _) _⟩
    by_cases g2 : (16 : Int) < regs
    · go_wp2
      go_ret
      exact ⟨by rw [NO.out (okP_no2 (by show ¬ (1 ≤ regs ∧ regs ≤ 16); omega))]; rfl, (Below.refl _ _).alloc (Nat.le_refl _) _⟩
    by_cases g3 : (n : Int) < 1
    · go_wp2
      go_ret
      have hem : endsB code = false := by
        have : code = [] := List.eq_nil_of_length_eq_zero (by rw [← HN.out]; omega)
        rw [this]
        rfl
      exact ⟨by rw [NO.out (okP_no4 hem)]; rfl, (Below.refl _ _).alloc (Nat.le_refl _) _⟩
    by_cases g4 : (500 : Int) < (n : Int)
    · go_wp2
      go_ret
      exact ⟨by rw [NO.out (okP_no3 (by show ¬ code.length ≤ 500; rw [← HN.out]; omega))]; rfl, (Below.refl _ _).alloc (Nat.le_refl _) _⟩
    have hB0 : Below w.heap.size w (w.alloc (.cells #[.string name, .int .i64 regs, .slice ao n cap] 24)) := (Below.refl _ _).alloc (Nat.le_refl _) _
    have HP0 := hide (C3.new w (.string name) (.int .i64 regs) (.slice ao n cap) 24)
    go_wp2_with fail
    obtain ⟨W, HW⟩ := named (w.alloc (.cells #[.string name, .int .i64 regs, .slice ao n cap] 24))
    rw [← HW.out] at hB0 HP0 ⊢
    have HBW := hide hB0
    obtain ⟨pb, HPB⟩ := named w.heap.size
    have HBW2 : Hid (Below w.heap.size w W) := HBW
    rw [← HPB.out] at HP0 HBW ⊢
    have HCW := hide (HC.out.below HBW2.out)
    clear hB0
    go_loopw [5] (fun iv wr => ∃ k : Nat, k ≤ n ∧ iv = .int .i64 k ∧ Hid (codeB ⟨name, regs, code⟩ pol k = true) ∧ Hid (Below W.heap.size W wr)) (fun iv _ => n - (intOf iv).toNat)
    case atStart => exact ⟨0, by omega, rfl, by show codeB _ _ _ = true; simp [codeB], Below.refl _ _⟩
    case round =>
      obtain ⟨k, hkn, rfl, HCB, HBR⟩ := hrel
      obtain ⟨-, x0, x1, x2, -⟩ := id (HP0.out.below HBR.out)
      by_cases hlt : k < n
      · obtain ⟨b, off, hao, hblt, c0, c1, c2, c3, c4, c5⟩ := (HCW.out.below HBR.out).at k (by rw [← HN.out]; exact hlt)
        subst hao
        have hkI : (k : Int) < (n : Int) := by omega
        have kc := refInstr_any ⟨name, regs, code⟩ (.slice (some ⟨b, off, none⟩) n cap) (code[k]'(by rw [← HN.out]; exact hlt)) pol wr.drew ((HCW.out.below HBR.out).below (Below.refl _ _).drew)
        have e1 : insB regs (code.length : Int) pol (code[k]'(by rw [← HN.out]; exact hlt)) = insB regs (n : Int) pol (code[k]'(by rw [← HN.out]; exact hlt)) := congrArg (fun (x : Nat) => insB regs (x : Int) pol (code[k]'(by rw [← HN.out]; exact hlt))) HN.out.symm
        have HIN := hide e1
        simp only at kc
        rw [e1] at kc
        clear e1
        obtain ⟨i, HI⟩ := named (code[k]'(by rw [← HN.out]; exact hlt))
        rw [← HI.out] at c0 c1 c2 c3 c4 c5 kc HIN
        obtain ⟨gi, HGI⟩ := named (insB regs (n : Int) pol i)
        rw [← HGI.out] at kc HIN
        have hs0 : wr.drew.cell? ⟨pb, 0, none⟩ = some (.string name) ∧ wr.drew.cell? ⟨pb, 1, none⟩ = some (.int .i64 regs) ∧ wr.drew.cell? ⟨pb, 2, none⟩ = some (.slice (some ⟨b, off, none⟩) n cap) ∧ wr.drew.cell? ⟨b, off + k * 6, none⟩ = some (.int .u8 (i.op : Int)) ∧ wr.drew.cell? ⟨b, off + k * 6 + 1, none⟩ = some (.int .i64 i.a) ∧ wr.drew.cell? ⟨b, off + k * 6 + 2, none⟩ = some (.int .i64 i.b) ∧ wr.drew.cell? ⟨b, off + k * 6 + 3, none⟩ = some (.int .i64 i.c) ∧ wr.drew.cell? ⟨b, off + k * 6 + 4, none⟩ = some (.int .i64 i.n) ∧ wr.drew.cell? ⟨b, off + k * 6 + 5, none⟩ = some (.string i.s) := ⟨x0, x1, x2, c0, c1, c2, c3, c4, c5⟩
        have hltp : pb < wr.drew.heap.size := (HP0.out.below HBR.out).1
        have hltb : b < wr.drew.heap.size := hblt
        clear x0 x1 c0 c1 c2 c3 c4 c5
        go_wp2_with fail
        go_region_held3 (fun w' => w'.cell? ⟨pb, 0, none⟩ = some (.string name) ∧ w'.cell? ⟨pb, 1, none⟩ = some (.int .i64 regs) ∧ w'.cell? ⟨pb, 2, none⟩ = some (.slice (some ⟨b, off, none⟩) n cap) ∧ w'.cell? ⟨b, off + k * 6, none⟩ = some (.int .u8 (i.op : Int)) ∧ w'.cell? ⟨b, off + k * 6 + 1, none⟩ = some (.int .i64 i.a) ∧ w'.cell? ⟨b, off + k * 6 + 2, none⟩ = some (.int .i64 i.b) ∧ w'.cell? ⟨b, off + k * 6 + 3, none⟩ = some (.int .i64 i.c) ∧ w'.cell? ⟨b, off + k * 6 + 4, none⟩ = some (.int .i64 i.n) ∧ w'.cell? ⟨b, off + k * 6 + 5, none⟩ = some (.string i.s)) (first | exact hs1 | exact hs0) (first | (go_at_call 40; refine Calls.mono kc ?_; rintro e w2 ⟨rfl, hb2⟩; have hs1 := Nine.below hs0 hltp hltb hb2))
        have HBR2 := hide (show Below W.heap.size W w2 from below_call HBR.out ((Below.refl _ _).drew.trans hb2))
        clear hs0 hs1 kc hb2
        have HLT := hide hlt
        cases hgi : gi with
        | false =>
          go_wp2
          go_ret
          exact ⟨by rw [NO.out (okP_no5 (p := ⟨name, regs, code⟩) k (by show k < code.length; rw [← HN.out]; exact HLT.out) (by show insB regs (code.length : Int) pol (code[k]'_) = false; rw [← HI.out, HIN.out]; exact hgi))]; rfl, below_call HBW2.out HBR2.out⟩
        | true =>
          go_wp2
          go_roundw
          case rel =>
            refine ⟨k + 1, by omega, by go_num, ?_, HBR2.out⟩
            show codeB _ _ _ = true
            rw [codeB_succ _ _ k (by show k < code.length; rw [← HN.out]; exact HLT.out), HCB.out, Bool.true_and]
            show insB regs (code.length : Int) pol (code[k]'_) = true
            rw [← HI.out, HIN.out]
            exact hgi
          case measure => simp [intOf]; omega
      · have hkn2 : k = n := by omega
        subst hkn2
        have hpos : 0 < code.length := by rw [← HN.out]; omega
        have hEB := endsB_last code hpos
        obtain ⟨m, rfl⟩ : ∃ m, k = m + 1 := ⟨k - 1, by omega⟩
        obtain ⟨b, off, hao, hblt, c0, -⟩ := (HCW.out.below HBR.out).at m (by rw [← HN.out]; omega)
        subst hao
        have hi1 : code[code.length - 1]'(by omega) = code[m]'(by rw [← HN.out]; omega) := by congr 1; rw [← HN.out]; omega
        rw [hi1] at hEB
        obtain ⟨op, HOP⟩ := named ((code[m]'(by rw [← HN.out]; omega)).op)
        rw [← HOP.out] at c0 hEB
        have HEB := hide hEB
        have h1 : ((m + 1 : Nat) : Int) - 1 = (m : Int) := by omega
        have h1' : (m : Int) + 1 - 1 = (m : Int) := by omega
        have h2 : ((m : Int) + 1 = 0) = False := by simp; omega
        have HF := hide (show Below w.heap.size w wr from below_call HBW2.out HBR.out)
        have yes : (op = 8 ∨ op = 15 ∨ op = 16) → Q = 0 := fun h => by
          have hok : okP ⟨name, regs, code⟩ pol = true := okP_yes (by rw [← HBN.out]; exact hbn) (by show 1 ≤ regs ∧ regs ≤ 16; omega) (by show code.length ≤ 500; rw [← HN.out]; omega) (by show endsB code = true; rw [HEB.out]; exact decide_eq_true h) (by show codeB _ _ code.length = true; rw [← HN.out]; exact HCB.out)
          rw [HQ.out]
          unfold errP
          rw [hok]
          rfl
        have YES := hide yes
        clear hEB hi1 yes
        by_cases o8 : op = 8
        · have q8 : (op : Int) = 8 := by omega
          go_wp2
          go_ret
          exact ⟨by rw [YES.out (.inl o8)]; rfl, HF.out⟩
        by_cases o15 : op = 15
        · have q8 : ¬ (op : Int) = 8 := by omega
          have q15 : (op : Int) = 15 := by omega
          go_wp2
          go_ret
          exact ⟨by rw [YES.out (.inr (.inl o15))]; rfl, HF.out⟩
        by_cases o16 : op = 16
        · have q8 : ¬ (op : Int) = 8 := by omega
          have q15 : ¬ (op : Int) = 15 := by omega
          have q16 : (op : Int) = 16 := by omega
          go_wp2
          go_ret
          exact ⟨by rw [YES.out (.inr (.inr o16))]; rfl, HF.out⟩
        · have q8 : ¬ (op : Int) = 8 := by omega
          have q15 : ¬ (op : Int) = 15 := by omega
          have q16 : ¬ (op : Int) = 16 := by omega
          have hQ := NO.out (okP_no4 (by show endsB code = false; rw [HEB.out]; exact decide_eq_false (by omega)))
          go_wp2
          all_goals go_ret
          all_goals first | exact ⟨by rw [hQ]; rfl, HF.out⟩ | (exfalso; omega) | (exfalso; simp_all; done)
end Go.Proofs.YtpiiehenmkinaaaDoor

/-
  The contract of the document's both. Own work.
-/
namespace Go.Proofs.YtpiiehenmkinaaaDoor
open Go.RowKit

set_option maxRecDepth 100000 in
set_option maxHeartbeats 800000 in
theorem both_any (v0 v1 : Value) (l0 l1 : List UInt8) (w : World) (h0 : Rd w v0 l0) (h1 : Rd w v1 l1) (hl : l0.length + l1.length ≤ 140737488355000) :
    Calls Tryd.prog 51 #[v0, v1] w fun e w' => ∃ v, e = .returned v ∧ Own w' w.heap.size v (l0 ++ l1) ∧ Below w.heap.size w w' := by
  obtain ⟨i0, hi, hz0, hz1, hz2⟩ := info_parts Tryd.info5
  obtain ⟨a0, c0, hv, -⟩ := id h0
  subst hv
  obtain ⟨a1, c1, hv, -⟩ := id h1
  subst hv
  go_enter Tryd.func51, Tryd.ntmps51
  go_wp2_with (at_make; go_must (refine wpList_make_own _ rfl (.const (.int .i64 0)) (.tmp 10) 25 rfl w.heap.size 5 i0 (.int .u8 0) 1 Tryd.underlying25 hi hz0 hz1 .i64 .i64 _ (l0.length + l1.length) rfl rfl ?_ ?_ ?_ ?_ ?_))
  · omega
  · rw [hz2]; omega
  · unfold maxLen; omega
  · exact Nat.le_refl _
  · intro w1 hown hg
    have hb1 : Below w.heap.size w w1 := (Below.refl _ _).grown hg (Nat.le_refl _) (fun k hk => by cases hk)
    have hr0 := h0.below hb1
    have hr1 := h1.below hb1
    have hsz := hb1.size
    have hown0 : Own w1 w.heap.size (.slice (some ⟨w.heap.size, 0, none⟩) 0 (l0.length + l1.length)) [] := hown
    clear hg hown h0
    go_wp2_with (at_builtin; go_must (refine wpList_append_rd _ rfl (.tmp 12) (.tmp 13) 25 rfl i0 Tryd.underlying25 hi hz0 hz1 hz2 w.heap.size _ _ rfl rfl [] l0 hown0 hr0 ?_ hsz ?_))
    · simp; omega
    intro v2 w2 hown2 hg2
    have hb2 : Below w.heap.size w w2 := hb1.grown hg2 hsz (fun k hk => (World.ownsRow.lt hown0 k hk).1)
    have hr2 := h1.below hb2
    have hsz2 := hb2.size
    clear hg2 hown0 hr0 hr1 hb1
    go_wp2_with (at_builtin; go_must (refine wpList_append_rd _ rfl (.tmp 15) (.tmp 16) 25 rfl i0 Tryd.underlying25 hi hz0 hz1 hz2 w.heap.size _ _ rfl rfl l0 l1 hown2 hr2 ?_ hsz2 ?_))
    · omega
    intro v3 w3 hown3 hg3
    have hb3 : Below w.heap.size w w3 := hb2.grown hg3 hsz2 (fun k hk => (World.ownsRow.lt hown2 k hk).1)
    clear hg3
    go_wp2
    go_ret
    exact ⟨_, rfl, hown3, hb3⟩
end Go.Proofs.YtpiiehenmkinaaaDoor

/-
  A number as the document cuts it, bit by bit, is a number as the program cuts it. Plain lemmas. Own work.
-/
namespace Go.Proofs.YtpiiehenmkinaaaDoor
open Go.RowKit

/-- the highest bit that is set, of the first k -/
def hiBit (n : Nat) : Nat → Nat
  | 0 => 0
  | k + 1 => if n.testBit k then k else hiBit n k
theorem hiBit_lt (n k : Nat) (hk : 0 < k) : hiBit n k < k := by
  induction k with
  | zero => omega
  | succ k ih =>
    rw [hiBit]
    split
    · omega
    · by_cases h : k = 0
      · subst h; simp [hiBit]
      · have := ih (by omega); omega
theorem hiBit_spec (n k : Nat) : n % 2 ^ k < 2 ^ (hiBit n k + 1) ∧ (hiBit n k = 0 ∨ 2 ^ hiBit n k ≤ n % 2 ^ k) := by
  induction k with
  | zero => simp [hiBit, Nat.mod_one]
  | succ k ih =>
    have hsp : n % 2 ^ (k + 1) = n % 2 ^ k + (if n.testBit k then 2 ^ k else 0) := by
      rw [Nat.mod_pow_succ, Nat.testBit_eq_decide_div_mod_eq]
      have : n / 2 ^ k % 2 < 2 := Nat.mod_lt _ (by omega)
      by_cases h : n / 2 ^ k % 2 = 1
      · simp [h]
      · have h0 : n / 2 ^ k % 2 = 0 := by omega
        simp [h0]
    have hlt : n % 2 ^ k < 2 ^ k := Nat.mod_lt _ (Nat.two_pow_pos k)
    rw [hiBit]
    by_cases hb : n.testBit k
    · rw [if_pos hb]
      rw [if_pos hb] at hsp
      have : 2 ^ (k + 1) = 2 ^ k + 2 ^ k := by rw [Nat.pow_succ]; omega
      exact ⟨by omega, by omega⟩
    · rw [if_neg hb]
      rw [if_neg hb] at hsp
      rw [hsp]
      simpa using ih

/-- one byte of a number of s of them -/
def digit (n s j : Nat) : UInt8 := UInt8.ofNat (if j + 1 < s then n / 128 ^ j % 128 + 128 else n / 128 ^ j % 128)
theorem sev_form (f s n : Nat) (hs : 1 ≤ s) (hsf : s ≤ f) (hn : n < 128 ^ s) (hlo : s = 1 ∨ 128 ^ (s - 1) ≤ n) : sev f n = (List.range s).map (digit n s) := by
  induction f generalizing s n with
  | zero => omega
  | succ f ih =>
    by_cases h1 : s = 1
    · subst h1
      rw [sev, if_pos (by simpa using hn)]
      simp [digit, List.range_succ]
      rw [Nat.mod_eq_of_lt (by simpa using hn)]
    · have hlo' := hlo.resolve_left h1
      obtain ⟨t, rfl⟩ : ∃ t, s = t + 2 := ⟨s - 2, by omega⟩
      have h128 : 128 ≤ n := by
        have : 128 ^ 1 ≤ 128 ^ (t + 2 - 1) := Nat.pow_le_pow_right (by omega) (by omega)
        omega
      rw [sev, if_neg (by omega), ih (t + 1) (n / 128) (by omega) (by omega) (by rw [Nat.div_lt_iff_lt_mul (by omega)]; rw [← Nat.pow_succ]; exact hn) (by
        right
        rw [Nat.le_div_iff_mul_le (by omega), ← Nat.pow_succ]
        exact hlo')]
      have hrg : List.range (t + 2) = 0 :: (List.range (t + 1)).map Nat.succ := List.range_succ_eq_map
      rw [hrg, List.map_cons, List.map_map]
      congr 1
      · simp [digit]
      · apply List.map_congr_left
        intro j _
        simp only [Function.comp, digit]
        have e1 : (j.succ + 1 < t + 2) = (j + 1 < t + 1) := by
          simp only [Nat.succ_eq_add_one, eq_iff_iff]
          omega
        have e2 : n / 128 ^ j.succ = n / 128 / 128 ^ j := by
          rw [Nat.div_div_eq_div_mul, Nat.pow_succ, Nat.mul_comm]
        rw [e2]
        simp only [e1]
theorem U_form (n : Nat) (hn : n ≤ 18446744073709551615) : U n = (List.range (hiBit n 64 / 7 + 1)).map (digit n (hiBit n 64 / 7 + 1)) := by
  have hlt := hiBit_lt n 64 (by omega)
  have hsp := hiBit_spec n 64
  have hm : n % 2 ^ 64 = n := Nat.mod_eq_of_lt (by omega)
  rw [hm] at hsp
  obtain ⟨h, hh⟩ : ∃ h, h = hiBit n 64 := ⟨_, rfl⟩
  rw [← hh] at hlt hsp ⊢
  have e : U (n : Int) = sev 10 n := rfl
  rw [e]
  have hp : ∀ k, 128 ^ k = 2 ^ (7 * k) := fun k => by rw [show 128 = 2 ^ 7 by rfl, ← Nat.pow_mul]
  refine sev_form 10 (h / 7 + 1) n (by omega) (by omega) ?_ ?_
  · rw [hp]
    have : 2 ^ (h + 1) ≤ 2 ^ (7 * (h / 7 + 1)) := Nat.pow_le_pow_right (by omega) (by omega)
    omega
  · by_cases h7 : h / 7 = 0
    · left; omega
    · right
      rw [hp]
      have : 2 ^ (7 * (h / 7 + 1 - 1)) ≤ 2 ^ h := Nat.pow_le_pow_right (by omega) (by omega)
      rcases hsp.2 with h0 | h0
      · omega
      · omega

/-- of one byte what the first k bits come to -/
def part (n j k : Nat) : Nat := n / 128 ^ j % 2 ^ (min 7 (k - 7 * j))
theorem part_lt (n j k : Nat) : part n j k < 128 := by
  unfold part
  have h1 : 2 ^ (min 7 (k - 7 * j)) ≤ 2 ^ 7 := Nat.pow_le_pow_right (by omega) (by omega)
  have h2 := Nat.mod_lt (n / 128 ^ j) (Nat.two_pow_pos (min 7 (k - 7 * j)))
  omega
theorem part_other (n j k : Nat) (h : j ≠ k / 7) : part n j (k + 1) = part n j k := by
  unfold part
  have : min 7 (k + 1 - 7 * j) = min 7 (k - 7 * j) := by omega
  rw [this]
theorem part_same (n k : Nat) : part n (k / 7) (k + 1) = part n (k / 7) k + (if n.testBit k then 2 ^ (k % 7) else 0) := by
  unfold part
  have e1 : min 7 (k + 1 - 7 * (k / 7)) = k % 7 + 1 := by omega
  have e2 : min 7 (k - 7 * (k / 7)) = k % 7 := by omega
  rw [e1, e2, Nat.mod_pow_succ]
  have e3 : n / 128 ^ (k / 7) / 2 ^ (k % 7) = n / 2 ^ k := by
    rw [show 128 = 2 ^ 7 by rfl, ← Nat.pow_mul, Nat.div_div_eq_div_mul, ← Nat.pow_add]
    congr 2
    omega
  rw [e3, Nat.testBit_eq_decide_div_mod_eq]
  have : n / 2 ^ k % 2 < 2 := Nat.mod_lt _ (by omega)
  by_cases h : n / 2 ^ k % 2 = 1
  · simp [h]
  · have h0 : n / 2 ^ k % 2 = 0 := by omega
    simp [h0]
def parts (n s k : Nat) : List UInt8 := (List.range s).map fun j => UInt8.ofNat (part n j k)
theorem parts_length (n s k : Nat) : (parts n s k).length = s := by simp [parts]
theorem parts_get (n s k j : Nat) (h : j < (parts n s k).length) : (parts n s k)[j] = UInt8.ofNat (part n j k) := by simp [parts]
theorem parts_succ (n s k : Nat) : parts n s (k + 1) = (parts n s k).set (k / 7) (UInt8.ofNat (part n (k / 7) k + (if n.testBit k then 2 ^ (k % 7) else 0))) := by
  apply List.ext_getElem
  · simp [parts]
  · intro i h1 h2
    rw [List.getElem_set]
    by_cases h : k / 7 = i
    · rw [if_pos h, parts_get, ← h, part_same]
    · rw [if_neg h, parts_get, parts_get, part_other _ _ _ (fun e => h e.symm)]
theorem parts_skip (n s k : Nat) (hb : n.testBit k = false) : parts n s (k + 1) = parts n s k := by
  apply List.ext_getElem
  · simp [parts]
  · intro i h1 h2
    rw [parts_get, parts_get]
    by_cases h : i = k / 7
    · rw [h, part_same, hb]; simp
    · rw [part_other _ _ _ h]
/-- the first k bytes with the highest bit set -/
def more (n s k : Nat) : List UInt8 := (List.range s).map fun j => UInt8.ofNat (if j < k then n / 128 ^ j % 128 + 128 else n / 128 ^ j % 128)
theorem more_length (n s k : Nat) : (more n s k).length = s := by simp [more]
theorem more_get (n s k j : Nat) (h : j < (more n s k).length) : (more n s k)[j] = UInt8.ofNat (if j < k then n / 128 ^ j % 128 + 128 else n / 128 ^ j % 128) := by simp [more]
theorem more_start (n s : Nat) : parts n s (7 * s) = more n s 0 := by
  unfold parts more
  apply List.map_congr_left
  intro j hj
  have : j < s := by simpa using hj
  unfold part
  rw [show min 7 (7 * s - 7 * j) = 7 by omega, if_neg (by omega)]
theorem more_end (n s : Nat) (hs : 1 ≤ s) : more n s (s - 1) = (List.range s).map (digit n s) := by
  unfold more
  apply List.map_congr_left
  intro j hj
  unfold digit
  have : (j < s - 1) = (j + 1 < s) := by simp only [eq_iff_iff]; omega
  simp only [this]
theorem more_succ (n s k : Nat) : more n s (k + 1) = (more n s k).set k (UInt8.ofNat (n / 128 ^ k % 128 + 128)) := by
  apply List.ext_getElem
  · simp [more]
  · intro i h1 h2
    rw [List.getElem_set]
    by_cases h : k = i
    · subst h
      rw [if_pos rfl, more_get, if_pos (by omega)]
    · rw [if_neg h, more_get, more_get]
      have : (i < k + 1) = (i < k) := by simp only [eq_iff_iff]; omega
      simp only [this]

end Go.Proofs.YtpiiehenmkinaaaDoor

/-
  The contract of the document's Varint. Own work.
-/
namespace Go.Proofs.YtpiiehenmkinaaaDoor
open Go.RowKit

/-- 70 cells of one's own that hold bits -/
def Bits (w : World) (B : Nat) (f : Nat → Bool) : Prop := B < w.heap.size ∧ (∀ t, t < 70 → w.cell? ⟨B, t, none⟩ = some (.bool (f t))) ∧ ∀ t, w.frozen? ⟨B, t, none⟩ = false

def zeros70 : Array Value := Array.replicate 70 (.bool false)
theorem zero109 (w : World) : (zeroValue 109).run Tryd.prog w = .ok (.agg zeros70) w := by kernel_rfl
theorem Bits.new (w : World) : Bits (w.alloc (.cells zeros70 109)) w.heap.size (fun _ => false) := by
  refine ⟨by simp, fun t ht => ?_, fun t => ?_⟩
  · rw [cell_of_row _ w.heap.size t zeros70 109 (0, 0) (heap_alloc_new w _)]
    simp [zeros70, ht]
  · unfold World.frozen?
    rw [show (w.alloc (.cells zeros70 109)).heap[(⟨w.heap.size, t, none⟩ : Addr).block]? = some (.cells zeros70 109 (0, 0)) from heap_alloc_new w _]
    simp
theorem Bits.below {w w' : World} {B : Nat} {f : Nat → Bool} (h : Bits w B f) (hb : Below w.heap.size w w') : Bits w' B f :=
  ⟨Nat.lt_of_lt_of_le h.1 hb.size, fun t ht => (hb.cell (p := ⟨B, t, none⟩) h.1).trans (h.2.1 t ht), fun t => (hb.frozen (p := ⟨B, t, none⟩) h.1).trans (h.2.2 t)⟩
theorem Bits.congr {w : World} {B : Nat} {f g : Nat → Bool} (h : Bits w B f) (e : ∀ t, t < 70 → f t = g t) : Bits w B g :=
  ⟨h.1, fun t ht => by rw [← e t ht]; exact h.2.1 t ht, h.2.2⟩

theorem Bits.set {w : World} {B : Nat} {f : Nat → Bool} (h : Bits w B f) (k : Nat) (b : Bool) (hk : k < 70) : Bits (w.setCell ⟨B, k, none⟩ (.bool b)) B (fun t => if t = k then b else f t) := by
  refine ⟨by simpa [World.setCell] using h.1, fun t ht => ?_, fun t => ?_⟩
  · by_cases e : t = k
    · subst e
      simp only [if_true]
      exact World.cell?_setCell_same _ _ _ (h.2.1 t ht)
    · simp only [if_neg e]
      rw [← h.2.1 t ht]
      exact World.cell?_setCell_other _ _ _ _ (fun e' => by cases e'; first | exact e rfl | exact hg rfl)
  · rw [← h.2.2 t]
    simp

theorem Bits.other {w : World} {B g j : Nat} {f : Nat → Bool} (h : Bits w B f) (hg : g ≠ B) (u : Value) : Bits (w.setCell ⟨g, j, none⟩ u) B f := by
  refine ⟨by simpa [World.setCell] using h.1, fun t ht => ?_, fun t => ?_⟩
  · rw [← h.2.1 t ht]
    exact World.cell?_setCell_other _ _ _ _ (fun e' => by cases e'; first | exact e rfl | exact hg rfl)
  · rw [← h.2.2 t]
    simp

theorem cellN {w : World} {base g cap s : Nat} {l : List UInt8} (h : Own w base (.slice (some ⟨g, 0, none⟩) s cap) l) (hs : l.length = s) (j : Nat) (hj : j < l.length) : w.cell? ⟨g, j, none⟩ = some (.int .u8 (l[j].toNat : Int)) := by
  subst hs
  exact h.cell j hj
theorem frozenN {w : World} {base g cap s : Nat} {l : List UInt8} (h : Own w base (.slice (some ⟨g, 0, none⟩) s cap) l) (hs : l.length = s) (j : Nat) : w.frozen? ⟨g, j, none⟩ = false := by
  subst hs
  exact h.frozen j
theorem storeN {w : World} {base g cap s : Nat} {l : List UInt8} (h : Own w base (.slice (some ⟨g, 0, none⟩) s cap) l) (hs : l.length = s) (j : Nat) (y : UInt8) (n : Int) (hn : n = y.toNat) :
    Own (w.setCell ⟨g, j, none⟩ (.int .u8 n)) base (.slice (some ⟨g, 0, none⟩) s cap) (l.set j y) ∧ Below base w (w.setCell ⟨g, j, none⟩ (.int .u8 n)) := by
  subst hs
  exact ⟨h.store j y n hn, h.storeBelow j _⟩
theorem made_parts (n s : Nat) : (madeCells #[.int .u8 0] s).toList = BV (parts n s 0) := by
  have e : parts n s 0 = List.replicate s 0 := by
    unfold parts
    apply List.ext_getElem
    · simp
    · intro i h1 h2
      simp [part, Nat.mod_one]
  rw [e, toList_madeCells_one]
  simp [BV]

set_option maxRecDepth 100000 in
set_option maxHeartbeats 2000000 in
theorem varint_any (n : Nat) (w : World) (hn : n ≤ 18446744073709551615) :
    Calls Tryd.prog 52 #[.int .u64 n] w fun e w' => ∃ v, e = .returned v ∧ Own w' w.heap.size v (U n) ∧ Below w.heap.size w w' := by
  obtain ⟨i0, hi, hz0, hz1, hz2⟩ := info_parts Tryd.info5
  have HN : Hid _ := hn
  have HUF : Hid _ := U_form n hn
  have hzr := zero109
  clear hn
  go_enter Tryd.func52, Tryd.ntmps52
  go_wp2_with fail
  clear hzr
  go_loopw [0, 4, 5] (fun nv hv iv wr => ∃ k : Nat, k ≤ 64 ∧ iv = .int .i64 k ∧ nv = .int .u64 ((n / 2 ^ k : Nat) : Int) ∧ hv = .int .i64 (hiBit n k) ∧ Bits wr w.heap.size (fun t => decide (t < k) && n.testBit t) ∧ Below w.heap.size w wr) (fun _ _ iv _ => 64 - (intOf iv).toNat)
  case atStart =>
    refine ⟨0, by omega, rfl, by simp, rfl, ?_, (Below.refl _ _).alloc (Nat.le_refl _) _⟩
    exact (Bits.new w).congr (fun t _ => by simp)
  case round =>
    obtain ⟨k, hk, rfl, rfl, rfl, hbits, hb⟩ := hrel
    by_cases hlt : k < 64
    · have hlt' : (k : Int) < 64 := by omega
      have hfr := hbits.2.2 k
      have hck := hbits.2.1 k (by omega)
      have htb : (((n / 2 ^ k : Nat) : Int) % 2 == 1) = n.testBit k := by
        rw [Nat.testBit_eq_decide_div_mod_eq, Bool.eq_iff_iff]
        simp only [beq_iff_eq, decide_eq_true_eq]
        omega
      have hdiv : (n / 2 ^ (k + 1) : Nat) = n / 2 ^ k / 2 := by rw [Nat.pow_succ, Nat.div_div_eq_div_mul]
      have HD : Hid _ := hdiv
      have hhi : hiBit n (k + 1) = if n.testBit k then k else hiBit n k := rfl
      have HH : Hid _ := hhi
      obtain ⟨m, HM⟩ := named (n / 2 ^ k)
      rw [← HM.out] at htb HD ⊢
      obtain ⟨hh, HHB⟩ := named (hiBit n k)
      rw [← HHB.out] at HH ⊢
      obtain ⟨bt, HBT⟩ := named (n.testBit k)
      rw [← HBT.out] at htb HH
      have HBITS : Hid _ := hbits
      have hm64 : m ≤ 18446744073709551615 := by
        have h1 := Nat.div_le_self n (2 ^ k)
        have h2 := HN.out
        rw [HM.out]
        omega
      have HM64 : Hid _ := hm64
      have HW : Hid (IntKind.u64.wrap ((m : Int) / 2) = ((m / 2 : Nat) : Int)) := by
        show IntKind.u64.wrap ((m : Int) / 2) = ((m / 2 : Nat) : Int)
        rw [wrap_u64]
        omega
      clear hdiv hhi hbits hm64
      cases hbt : bt with
      | true =>
        rw [hbt] at htb HH
        have HBT2 : Hid _ := hbt
        clear hbt
        go_wp2
        go_roundw
        case rel =>
          refine ⟨k + 1, by omega, by go_num, by rw [HW.out, HD.out], by rw [HH.out, if_pos rfl], ?_, hb.setCell (Nat.le_refl _) _⟩
          refine Bits.congr (Bits.set HBITS.out k true (by omega)) (fun t _ => ?_)
          by_cases e : t = k
          · subst e; simp only [if_true]; rw [← HBT.out, HBT2.out]; simp
          · simp only [if_neg e]
            have : decide (t < k + 1) = decide (t < k) := by rw [Bool.eq_iff_iff]; simp; omega
            rw [this]
        case measure => simp [intOf]; omega
      | false =>
        rw [hbt] at htb HH
        have HBT2 : Hid _ := hbt
        clear hbt
        go_wp2
        go_roundw
        case rel =>
          refine ⟨k + 1, by omega, by go_num, by rw [HW.out, HD.out], by rw [HH.out, if_neg (by simp), HHB.out], ?_, hb.setCell (Nat.le_refl _) _⟩
          refine Bits.congr (Bits.set HBITS.out k false (by omega)) (fun t _ => ?_)
          by_cases e : t = k
          · subst e; simp only [if_true]; rw [← HBT.out, HBT2.out]; simp
          · simp only [if_neg e]
            have : decide (t < k + 1) = decide (t < k) := by rw [Bool.eq_iff_iff]; simp; omega
            rw [this]
        case measure => simp [intOf]; omega
    · obtain rfl : k = 64 := by omega
      have hlt' : ¬ ((64 : Nat) : Int) < 64 := by omega
      have hbits2 : Bits wr w.heap.size (fun t => n.testBit t) := hbits.congr (fun t ht => by
        by_cases h : t < 64
        · simp [h]
        · have hlt : n < 2 ^ t := Nat.lt_of_lt_of_le (show n < 2 ^ 64 by have := HN.out; omega) (Nat.pow_le_pow_right (by omega) (by omega))
          rw [Nat.testBit_lt_two_pow hlt]
          simp)
      have hh64 := hiBit_lt n 64 (by omega)
      obtain ⟨hh, HHB⟩ := named (hiBit n 64)
      rw [← HHB.out] at hh64 HUF ⊢
      have HBITS : Hid _ := hbits2
      clear hbits hbits2 hk hlt
      have hsz := hb.size
      have hhI : (hh : Int) / 7 + 1 = ((hh / 7 + 1 : Nat) : Int) := by omega
      obtain ⟨s, HS⟩ := named (hh / 7 + 1)
      have hs1 : 1 ≤ s := by rw [HS.out]; omega
      have hs10 : s ≤ 10 := by rw [HS.out]; omega
      rw [← HS.out] at hhI HUF
      go_wp2_with (at_make; go_must (refine wpList_make_full _ rfl (.tmp 28) (.tmp 28) 25 rfl w.heap.size 5 i0 (.int .u8 0) 1 Tryd.underlying25 hi hz0 hz1 .i64 .i64 _ _ s rfl rfl ?_ ?_ ?_ ?_ ?_ ?_))
      · omega
      · omega
      · omega
      · unfold maxLen; omega
      · intro w1 hown1 hg1
        have hg1b : Below wr.heap.size wr w1 := (Below.refl _ _).grown hg1 (Nat.le_refl _) (fun k hk => by cases hk)
        have hb1 : Below w.heap.size w w1 := below_call hb hg1b
        have hbits1 : Bits w1 w.heap.size (fun t => n.testBit t) := Bits.below HBITS.out hg1b
        have hown2 : Own w1 w.heap.size (.slice (some ⟨wr.heap.size, 0, none⟩) s s) (parts n s 0) := by
          unfold Own
          rw [parts_length]
          have e : (madeCells #[.int .u8 0] s).toList = BV (parts n s 0) := made_parts n s
          rw [← e]
          exact hown1
        have hgne : w.heap.size < wr.heap.size := HBITS.out.1
        obtain ⟨g, HG⟩ := named wr.heap.size
        rw [← HG.out] at hown2 hgne
        rw [← HG.out]
        clear hown1 hg1 hg1b HBITS hb hsz
        go_wp2
        go_loopw [8] (fun iv wr2 => ∃ k : Nat, k ≤ 7 * s ∧ iv = .int .i64 k ∧ Bits wr2 w.heap.size (fun t => n.testBit t) ∧ Own wr2 w.heap.size (.slice (some ⟨g, 0, none⟩) s s) (parts n s k) ∧ Below w.heap.size w wr2) (fun iv _ => 70 - (intOf iv).toNat)
        case atStart => exact ⟨0, by omega, rfl, hbits1, hown2, hb1⟩
        case round =>
          rename_i wr0 wr2
          obtain ⟨k, hk, rfl, hbits, hown, hb⟩ := hrel
          by_cases hlt : k < 7 * s
          · have hlt' : (k : Int) < 7 * (s : Int) := by omega
            have hck := hbits.2.1 k (by omega)
            simp only [] at hck
            obtain ⟨bt, HBT⟩ := named (n.testBit k)
            rw [← HBT.out] at hck
            have HBITS : Hid _ := hbits
            have HOWN : Hid _ := hown
            clear hbits hown
            cases hbt : bt with
            | true =>
              rw [hbt] at hck
              have HBT2 : Hid _ := hbt
              clear hbt
              have hjs : k / 7 < s := by omega
              have hjsI : ((k / 7 : Nat) : Int) < (s : Int) := by omega
              have hjI : (k : Int) / 7 = ((k / 7 : Nat) : Int) := by omega
              have hrI : (k : Int) % 7 = ((k % 7 : Nat) : Int) := by omega
              have hcell := cellN (show Own _ _ _ _ from HOWN.out) (parts_length n s k) (k / 7) (by rw [parts_length]; omega)
              have hfz := frozenN (show Own _ _ _ _ from HOWN.out) (parts_length n s k) (k / 7)
              have hpl := part_lt n (k / 7) k
              rw [parts_get, UInt8.toNat_ofNat_of_lt' (by show _ < 256; omega)] at hcell
              obtain ⟨x, HX⟩ := named (part n (k / 7) k)
              rw [← HX.out] at hcell hpl
              obtain ⟨j, HJ⟩ := named (k / 7)
              rw [← HJ.out] at hcell hfz hjs hjsI hjI
              obtain ⟨r, HR⟩ := named (k % 7)
              rw [← HR.out] at hrI
              have hr7 : r < 7 := by rw [HR.out]; omega
              go_wp2
              go_region
              go_wp2
              go_roundw
              case rel =>
                have hr2 : 2 ^ r ≤ 2 ^ 6 := Nat.pow_le_pow_right (by omega) (by omega)
                have hst := storeN (show Own _ _ _ _ from HOWN.out) (parts_length n s k) j (UInt8.ofNat (part n (k / 7) k + (if n.testBit k then 2 ^ (k % 7) else 0))) (((x : Int) + 2 ^ r) % 256) (by
                  rw [← HBT.out, HBT2.out, if_pos rfl, ← HX.out, ← HR.out, UInt8.toNat_ofNat_of_lt' (by show _ < 256; omega)]
                  have e2 : (2 : Int) ^ r = ((2 ^ r : Nat) : Int) := by simp
                  rw [e2]
                  obtain ⟨z, hz⟩ : ∃ z, z = 2 ^ r := ⟨_, rfl⟩
                  rw [← hz] at hr2 ⊢
                  omega)
                refine ⟨k + 1, by omega, by go_num, ?_, ?_, ?_⟩
                · exact Bits.other HBITS.out (Nat.ne_of_gt hgne) _
                · rw [parts_succ, ← HJ.out]
                  have h1 := hst.1
                  rw [HJ.out] at h1 ⊢
                  exact h1
                · exact (hb.setCell (Nat.le_of_lt hgne) _).drew
              case measure => simp [intOf]; omega
            | false =>
              rw [hbt] at hck
              have HBT2 : Hid _ := hbt
              clear hbt
              go_wp2
              go_roundw
              case rel =>
                refine ⟨k + 1, by omega, by go_num, HBITS.out, ?_, hb⟩
                rw [parts_skip n s k (by rw [← HBT.out]; exact HBT2.out)]
                exact HOWN.out
              case measure => simp [intOf]; omega
          · obtain rfl : k = 7 * s := by omega
            have hlt' : ¬ ((7 * s : Nat) : Int) < 7 * (s : Int) := by omega
            rw [more_start] at hown
            clear hbits hlt hk hbits1 hown2 hb1
            go_wp2
            go_loopw [9] (fun iv wr2 => ∃ k : Nat, k + 1 ≤ s ∧ iv = .int .i64 k ∧ Own wr2 w.heap.size (.slice (some ⟨g, 0, none⟩) s s) (more n s k) ∧ Below w.heap.size w wr2) (fun iv _ => 70 - (intOf iv).toNat)
            case atStart => exact ⟨0, by omega, rfl, hown, hb⟩
            case round =>
              clear hown hb
              obtain ⟨k, hk, rfl, hown, hb⟩ := hrel
              by_cases hlt : k + 1 < s
              · have hltI : (k : Int) + 1 < (s : Int) := by omega
                have hltJ : (k : Int) < (s : Int) := by omega
                have hltN : k < s := by omega
                have hcell := cellN hown (more_length n s k) k (by rw [more_length]; omega)
                have hfz := frozenN hown (more_length n s k) k
                have hpl : n / 128 ^ k % 128 < 128 := Nat.mod_lt _ (by omega)
                rw [more_get, if_neg (by omega), UInt8.toNat_ofNat_of_lt' (by show _ < 256; omega)] at hcell
                obtain ⟨x, HX⟩ := named (n / 128 ^ k % 128)
                rw [← HX.out] at hcell hpl
                have HOWN : Hid _ := hown
                clear hown
                go_wp2
                go_roundw
                case rel =>
                  have hst := storeN (show Own _ _ _ _ from HOWN.out) (more_length n s k) k (UInt8.ofNat (n / 128 ^ k % 128 + 128)) ((x : Int) + 128) (by
                    rw [← HX.out, UInt8.toNat_ofNat_of_lt' (by show _ < 256; omega)]
                    omega)
                  refine ⟨k + 1, by omega, by go_num, ?_, ?_⟩
                  · rw [more_succ]
                    exact hst.1
                  · exact hb.setCell (Nat.le_of_lt hgne) _
                case measure => simp [intOf]; omega
              · obtain rfl : s = k + 1 := by omega
                have hltI : ¬ (k : Int) + 1 < ((k + 1 : Nat) : Int) := by omega
                go_wp2
                go_ret
                refine ⟨_, rfl, ?_, hb⟩
                rw [HUF.out, ← more_end n (k + 1) (by omega)]
                exact hown
end Go.Proofs.YtpiiehenmkinaaaDoor

/-
  The contracts of the document's Uint, Int and Blob. Own work.
-/
namespace Go.Proofs.YtpiiehenmkinaaaDoor
open Go.RowKit

set_option maxRecDepth 100000 in
set_option maxHeartbeats 400000 in
theorem refUint_any (o : Value) (lo : List UInt8) (n : Nat) (w : World) (hn : n ≤ 18446744073709551615) (hrd : Rd w o lo) (hlen : lo.length ≤ 140737488354000) :
    Calls Tryd.prog 29 #[o, .int .u64 n] w fun e w' => ∃ v, e = .returned v ∧ Own w' w.heap.size v (lo ++ U n) ∧ Below w.heap.size w w' := by
  obtain ⟨ao, cap, hv, -⟩ := id hrd
  subst hv
  have hul := U_len n
  obtain ⟨p, HP⟩ := named (U (n : Int))
  rw [← HP.out] at hul ⊢
  have HN : Hid _ := hn
  clear hn
  go_enter Tryd.func29, Tryd.ntmps29
  go_wp2_with fail
  refine (varint_any n _ HN.out).mono ?_
  rintro e w1 ⟨v1, rfl, hown1, hb1⟩
  rw [← HP.out] at hown1
  have hrd1 := hrd.below hb1
  have hrd2 := hown1.rd
  obtain ⟨a1, c1, hv1, -⟩ := hown1.rd
  subst hv1
  go_wp2_with fail
  refine (both_any _ _ lo p w1 hrd1 hrd2 (by omega)).mono ?_
  rintro e w2 ⟨v2, rfl, hown2, hb2⟩
  go_wp2
  go_ret
  exact ⟨_, rfl, hown2.mono hb1.size, hb1.trans (hb2.mono hb1.size)⟩

set_option maxRecDepth 100000 in
set_option maxHeartbeats 400000 in
theorem refBlob_any (o b : Value) (lo lb : List UInt8) (w : World) (hrd : Rd w o lo) (hrb : Rd w b lb) (hlen : lo.length + lb.length ≤ 140737488354000) :
    Calls Tryd.prog 28 #[o, b] w fun e w' => ∃ v, e = .returned v ∧ Own w' w.heap.size v (lo ++ (U lb.length ++ lb)) ∧ Below w.heap.size w w' := by
  obtain ⟨ao, cap, hv, -⟩ := id hrd
  subst hv
  obtain ⟨ab, capb, hv, -⟩ := id hrb
  subst hv
  have hul := U_len lb.length
  obtain ⟨p, HP⟩ := named (U (lb.length : Int))
  rw [← HP.out] at hul ⊢
  have hlb : lb.length ≤ 140737488354000 := by omega
  go_enter Tryd.func28, Tryd.ntmps28
  go_wp2_with fail
  refine (refUint_any _ lo lb.length _ (by omega) hrd (by omega)).mono ?_
  rintro e w1 ⟨v1, rfl, hown1, hb1⟩
  rw [← HP.out] at hown1
  have hql : (lo ++ p).length ≤ lo.length + 10 := by rw [List.length_append]; omega
  obtain ⟨q, HQ⟩ := named (lo ++ p)
  rw [← HQ.out] at hown1 hql
  have hrd3 := hrb.below hb1
  have hrd2 := hown1.rd
  obtain ⟨a1, c1, hv1, -⟩ := hown1.rd
  subst hv1
  go_wp2_with fail
  refine (both_any _ _ q lb w1 hrd2 hrd3 (by omega)).mono ?_
  rintro e w2 ⟨v2, rfl, hown2, hb2⟩
  go_wp2
  go_ret
  rw [HQ.out, List.append_assoc] at hown2
  exact ⟨_, rfl, hown2.mono hb1.size, hb1.trans (hb2.mono hb1.size)⟩

set_option maxRecDepth 100000 in
set_option maxHeartbeats 400000 in
theorem refInt_any (o : Value) (lo : List UInt8) (n : Int) (w : World) (h0 : -9223372036854775808 ≤ n) (h1 : n ≤ 9223372036854775807) (hrd : Rd w o lo) (hlen : lo.length ≤ 140737488354000) :
    Calls Tryd.prog 30 #[o, .int .i64 n] w fun e w' => ∃ v, e = .returned v ∧ Own w' w.heap.size v (lo ++ U (foldI n)) ∧ Below w.heap.size w w' := by
  obtain ⟨ao, cap, hv, -⟩ := id hrd
  subst hv
  by_cases hn : 0 ≤ n
  · have e : foldI n = ((2 * n.toNat : Nat) : Int) := by unfold foldI; rw [if_pos hn]; omega
    have hr : 2 * n.toNat ≤ 18446744073709551615 := by omega
    have HE : Hid (2 * n = ((2 * n.toNat : Nat) : Int)) := by
      show 2 * n = ((2 * n.toNat : Nat) : Int)
      omega
    rw [e]
    obtain ⟨m, HM⟩ := named (2 * n.toNat)
    rw [← HM.out] at HE hr ⊢
    have HR : Hid _ := hr
    clear e hr
    go_enter Tryd.func30, Tryd.ntmps30
    go_wp2_with fail
    rw [HE.out]
    refine (refUint_any _ lo m _ HR.out hrd hlen).mono ?_
    rintro e w1 ⟨v1, rfl, hown1, hb1⟩
    go_wp2
    go_ret
    exact ⟨_, rfl, hown1, hb1⟩
  · have e : foldI n = ((2 * (-(n + 1)).toNat + 1 : Nat) : Int) := by unfold foldI; rw [if_neg hn]; omega
    have hr : 2 * (-(n + 1)).toNat + 1 ≤ 18446744073709551615 := by omega
    have HE : Hid (2 * (-(n + 1)) + 1 = ((2 * (-(n + 1)).toNat + 1 : Nat) : Int)) := by
      show 2 * (-(n + 1)) + 1 = ((2 * (-(n + 1)).toNat + 1 : Nat) : Int)
      omega
    rw [e]
    obtain ⟨m, HM⟩ := named (2 * (-(n + 1)).toNat + 1)
    rw [← HM.out] at HE hr ⊢
    have HR : Hid _ := hr
    clear e hr
    go_enter Tryd.func30, Tryd.ntmps30
    go_wp2_with fail
    rw [HE.out]
    refine (refUint_any _ lo m _ HR.out hrd hlen).mono ?_
    rintro e w1 ⟨v1, rfl, hown1, hb1⟩
    go_wp2
    go_ret
    exact ⟨_, rfl, hown1, hb1⟩
end Go.Proofs.YtpiiehenmkinaaaDoor
