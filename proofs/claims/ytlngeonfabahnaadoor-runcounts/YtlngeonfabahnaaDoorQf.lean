/-
  The contract of a run's begin. Own work.
-/
import Derived.Test.YtlngeonfabahnaaDoorQd
import Derived.Test.YtlngeonfabahnaaDoorSh
namespace Go.Proofs.YtlngeonfabahnaaDoor
open Go Go.RowKit
set_option linter.unusedSimpArgs false
set_option linter.unusedVariables false

theorem clone_any (s : ByteArray) (w : World) (h : s.size ≤ 281474976710656) : Calls Tryd.prog 49 #[.string s] w fun e w' => e = .returned (.string s) ∧ Below w.heap.size w w' := by
  have hc := Tryd.stringslite_Clone s w h
  go_enter Tryd.func49, Tryd.ntmps49
  go_wp2_with fail
  refine hc.mono ?_
  rintro e w1 ⟨rfl, hb⟩
  go_wp2
  go_ret
  exact ⟨rfl, hb⟩
/-- one command more, and its register -/
theorem Rn.begun {W : World} {b : Nat} {cv mv sv : Value} {w w2 : World} {s : St} {vc vd : Value} (h : RC 27 w b (rf cv mv sv vc s)) (hb : Below b W w) (c : Cm) (hf : s.cmds.length < 200) (hs : s.sig ≤ 100000000)
    (hg : Below (b + 1) w w2) (ho : OwnM w2 (b + 1) vd (s.cmds ++ [c])) : Rn W b cv mv sv (w2.setCell ⟨b, 24, none⟩ vd) { s with cmds := s.cmds ++ [c] } := by
  have h2 : RC 27 w2 b (rf cv mv sv vc s) := h.grown hg (Nat.lt_succ_self _)
  refine ⟨⟨vd, ?_, ho.far (Nat.lt_succ_self _) _⟩, (hb.trans (hg.mono (Nat.le_succ _))).setCell (Nat.le_refl _) _, by simp; omega, hs⟩
  have := h2.set 24 (by omega) vd
  rwa [rf_cmds _ _ _ _ _ _ (s.cmds ++ [c])] at this
set_option maxRecDepth 100000 in
set_option maxHeartbeats 1600000 in
theorem begin_any {W : World} {b : Nat} {cv mv sv : Value} {w : World} {s : St} (h : Rn W b cv mv sv w s) (i : Ins) (kind : Nat) (arg : Int) (ha0 : 0 ≤ i.a) (ha : i.a < 16) (ht : i.s.size ≤ 1000000) :
    Calls Tryd.prog 45 #[.pointer (some ⟨b, 0, none⟩), insV i, .int .u8 (kind : Int), .int .i64 arg] w fun e w' => e = .returned (.bool (beginI i kind arg s).2) ∧ Rn W b cv mv sv w' (beginI i kind arg s).1 := by
  obtain ⟨op, a, k, c, n, t⟩ := i
  simp only at ha0 ha ht
  obtain ⟨j, HJ⟩ := Int.eq_ofNat_of_zero_le ha0
  subst HJ
  show Calls Tryd.prog 45 #[.pointer (some ⟨b, 0, none⟩), .agg #[.int .u8 (op : Int), .int .i64 j, .int .i64 k, .int .i64 c, .int .i64 n, .string t], .int .u8 (kind : Int), .int .i64 arg] w _
  have hbl : b < w.heap.size := h.lt
  have hj : (j : Int) < 16 := by omega
  obtain ⟨pb, HPB⟩ := named w.heap.size
  have hpb : b < pb := by rw [HPB.out]; exact hbl
  obtain ⟨W1, HW⟩ := named (w.alloc (.cells #[.int .u8 (op : Int), .int .i64 j, .int .i64 k, .int .i64 c, .int .i64 n, .string t] 52))
  have hz1 : pb < W1.heap.size := by rw [HW.out, HPB.out]; simp
  have h1 : Rn W b cv mv sv W1 s := by rw [HW.out]; exact h.alloc _
  have xb : RC 6 W1 pb (fun k' => ([.int .u8 (op : Int), .int .i64 j, .int .i64 k, .int .i64 c, .int .i64 n, .string t] : List Value).getD k' undef) := by
    rw [HW.out, HPB.out]
    refine RC.new w _ 52 _ (fun k hk => ?_)
    rcases (show k = 0 ∨ k = 1 ∨ k = 2 ∨ k = 3 ∨ k = 4 ∨ k = 5 by omega) with rfl | rfl | rfl | rfl | rfl | rfl <;> rfl
  obtain ⟨vc, hcc0, hown0⟩ := id h.own
  have hcc : RC 27 W1 b (rf cv mv sv vc s) := by rw [HW.out]; exact hcc0.alloc _
  have hown : OwnM W1 (b + 1) vc s.cmds := by rw [HW.out]; exact hown0.alloc _
  have hne : ∀ a, vc.ownBlock = some a → a < pb := fun a ha => by rw [HPB.out]; exact (hown0.lt a ha).2
  obtain ⟨co, cc, hvc, -⟩ := RdM.shape (l := s.cmds) hown.rd
  subst hvc
  have c24 : W1.cell? ⟨b, 24, none⟩ = some (.slice co s.cmds.length cc) := hcc.2.1 24 (by omega)
  have hfew := h1.few
  by_cases hL : s.cmds.length = 200
  · have e : beginI ⟨op, j, k, c, n, t⟩ kind arg s = ({ s with at_ := 5 }, false) := by unfold beginI; rw [if_pos hL]
    rw [e]
    have f20 := h1.free 20
    have c20 := h1.cell.2.2.2.2.1
    have H := hide ((h.stand 5).alloc (.cells #[.int .u8 (op : Int), .int .i64 j, .int .i64 k, .int .i64 c, .int .i64 n, .string t] 52))
    obtain ⟨L, HL⟩ := named s.cmds.length
    rw [← HL.out] at c24 hL
    have hLI : ¬ ((L : Int) + 1 ≤ 200) := by omega
    have hLJ : (200 : Int) < (L : Int) + 1 := by omega
    have hwr : IntKind.i64.wrap ((L : Int) + 1) = (L : Int) + 1 := wrap_in _ (by omega) (by omega)
    rw [HW.out] at c24 f20 c20
    clear h h1 hcc hown hcc0 hown0 hne xb
    go_enter Tryd.func45, Tryd.ntmps45
    go_wp2
    go_ret
    exact ⟨rfl, H.out⟩
  · have hlt : s.cmds.length < 200 := by omega
    have e : beginI ⟨op, j, k, c, n, t⟩ kind arg s = ((s.cmd kind t arg c).put j ((s.cmds.length + 1 : Nat) : Int), true) := by unfold beginI; rw [if_neg hL]
    rw [e]
    have hcl := fun wz => clone_any t wz (by omega)
    have HC1 := hide hcc
    have HO1 := hide hown
    have HNE := hide hne
    have HB1 := hide h1.below
    have HSM := hide h1.sml
    obtain ⟨L, HL⟩ := named s.cmds.length
    have hlt0 := hide hlt
    rw [← HL.out] at c24 hlt hL HC1 HO1 HNE ⊢
    have hLJ : ¬ (200 : Int) < (L : Int) + 1 := by omega
    have hwr : IntKind.i64.wrap ((L : Int) + 1) = (L : Int) + 1 := wrap_in _ (by omega) (by omega)
    have hwr2 : ¬ (200 : Int) < (L : Int) + 1 := by omega
    have b5 : W1.drew.cell? ⟨pb, 5, none⟩ = some (.string t) := xb.2.1 5 (by omega)
    have b3 : W1.drew.cell? ⟨pb, 3, none⟩ = some (.int .i64 c) := xb.2.1 3 (by omega)
    have b24 : W1.drew.cell? ⟨b, 24, none⟩ = some (.slice co L cc) := c24
    have hs5 : W1.drew.cell? ⟨b, 24, none⟩ = some (.slice co L cc) ∧ W1.drew.cell? ⟨pb, 5, none⟩ = some (.string t) ∧ W1.drew.cell? ⟨pb, 3, none⟩ = some (.int .i64 c) := ⟨b24, b5, b3⟩
    have b1 : W1.cell? ⟨pb, 1, none⟩ = some (.int .i64 j) := xb.2.1 1 (by omega)
    have hbW : b < W1.heap.size := by omega
    have hsz : Hid (b + 1 ≤ W1.heap.size) := hbW
    have hcl := hcl W1.drew
    rw [HW.out] at c24
    clear h h1 hcc hown hcc0 hown0 hne xb b5 b3 b24
    go_enter Tryd.func45, Tryd.ntmps45
    go_wp2_with fail
    rw [← HW.out, ← HPB.out]
    refine wp_region_E 20 (fun w' => w'.cell? ⟨b, 24, none⟩ = some (.slice co L cc) ∧ w'.cell? ⟨pb, 5, none⟩ = some (.string t) ∧ w'.cell? ⟨pb, 3, none⟩ = some (.int .i64 c)) (by kernel_rfl) ?_
    refine wpAnyE_take 0 [20] (oi := { dst := some 23, op := Go.Op.move (Go.Operand.tmp 0), type := 64, pos := "run.go:124", after := #[], guard := none }) (v := ?_) rfl (by kernel_rfl) (by kernel_rfl) (by kernel_rfl) (by kernel_rfl) (fun _ _ _ h => h) (Or.inl ⟨by rfl, ?hE8⟩) hs5 ?_
    case hE8 =>
      intro u hu
      obtain ⟨u0, u1, u2⟩ := hu
      go_simp
      try with_reducible rfl
    simp only [Act.put, List.setIfInBounds_toArray, List.set_cons_zero, List.set_cons_succ]
    refine wpAnyE_take 1 [20] (oi := { dst := some 24, op := Go.Op.move (Go.Operand.tmp 0), type := 64, pos := "run.go:124", after := #[], guard := none }) (v := ?_) rfl (by kernel_rfl) (by kernel_rfl) (by kernel_rfl) (by kernel_rfl) (fun _ _ _ h => h) (Or.inl ⟨by rfl, ?hE9⟩) hs5 ?_
    case hE9 =>
      intro u hu
      obtain ⟨u0, u1, u2⟩ := hu
      go_simp
      try with_reducible rfl
    simp only [Act.put, List.setIfInBounds_toArray, List.set_cons_zero, List.set_cons_succ]
    refine wpAnyE_take 2 [20] (oi := { dst := some 25, op := Go.Op.nilCheck (Go.Operand.tmp 24), type := 0, pos := "run.go:124", after := #[{ on := 1, ground := Go.Ground.data }], guard := none }) (v := ?_) rfl (by kernel_rfl) (by kernel_rfl) (by kernel_rfl) (by kernel_rfl) (fun _ _ _ h => h) (Or.inl ⟨by rfl, ?hE10⟩) hs5 ?_
    case hE10 =>
      intro u hu
      obtain ⟨u0, u1, u2⟩ := hu
      go_simp
      try with_reducible rfl
    simp only [Act.put, List.setIfInBounds_toArray, List.set_cons_zero, List.set_cons_succ]
    refine wpAnyE_take 3 [20] (oi := { dst := some 26, op := Go.Op.fieldAddr 69 (Go.Operand.tmp 25) 5, type := 0, pos := "run.go:124", after := #[{ on := 2, ground := Go.Ground.data }], guard := none }) (v := ?_) rfl (by kernel_rfl) (by kernel_rfl) (by kernel_rfl) (by kernel_rfl) (fun _ _ _ h => h) (Or.inl ⟨by rfl, ?hE11⟩) hs5 ?_
    case hE11 =>
      intro u hu
      obtain ⟨u0, u1, u2⟩ := hu
      go_simp
      try with_reducible rfl
    simp only [Act.put, List.setIfInBounds_toArray, List.set_cons_zero, List.set_cons_succ]
    refine wpAnyE_take 4 [20] (oi := { dst := some 27, op := Go.Op.fieldAddr 35 (Go.Operand.tmp 26) 3, type := 0, pos := "run.go:124", after := #[{ on := 3, ground := Go.Ground.data }], guard := none }) (v := ?_) rfl (by kernel_rfl) (by kernel_rfl) (by kernel_rfl) (by kernel_rfl) (fun _ _ _ h => h) (Or.inl ⟨by rfl, ?hE12⟩) hs5 ?_
    case hE12 =>
      intro u hu
      obtain ⟨u0, u1, u2⟩ := hu
      go_simp
      try with_reducible rfl
    simp only [Act.put, List.setIfInBounds_toArray, List.set_cons_zero, List.set_cons_succ]
    refine wpAnyE_take 5 [20] (oi := { dst := some 28, op := Go.Op.load 33 (Go.Operand.tmp 27), type := 33, pos := "run.go:124", after := #[{ on := 4, ground := Go.Ground.data }], guard := none }) (v := ?_) rfl (by kernel_rfl) (by kernel_rfl) (by kernel_rfl) (by kernel_rfl) (fun _ _ _ h => h) (Or.inl ⟨by rfl, ?hE13⟩) hs5 ?_
    case hE13 =>
      intro u hu
      obtain ⟨u0, u1, u2⟩ := hu
      go_simp
      try with_reducible rfl
    simp only [Act.put, List.setIfInBounds_toArray, List.set_cons_zero, List.set_cons_succ]
    refine wpAnyE_take 6 [20] (oi := { dst := some 29, op := Go.Op.move (Go.Operand.tmp 9), type := 3, pos := "run.go:124", after := #[], guard := none }) (v := ?_) rfl (by kernel_rfl) (by kernel_rfl) (by kernel_rfl) (by kernel_rfl) (fun _ _ _ h => h) (Or.inl ⟨by rfl, ?hE14⟩) hs5 ?_
    case hE14 =>
      intro u hu
      obtain ⟨u0, u1, u2⟩ := hu
      go_simp
      try with_reducible rfl
    simp only [Act.put, List.setIfInBounds_toArray, List.set_cons_zero, List.set_cons_succ]
    refine wpAnyE_take 7 [20] (oi := { dst := some 30, op := Go.Op.move (Go.Operand.tmp 2), type := 53, pos := "run.go:124", after := #[], guard := none }) (v := ?_) rfl (by kernel_rfl) (by kernel_rfl) (by kernel_rfl) (by kernel_rfl) (fun _ _ _ h => h) (Or.inl ⟨by rfl, ?hE15⟩) hs5 ?_
    case hE15 =>
      intro u hu
      obtain ⟨u0, u1, u2⟩ := hu
      go_simp
      try with_reducible rfl
    simp only [Act.put, List.setIfInBounds_toArray, List.set_cons_zero, List.set_cons_succ]
    refine wpAnyE_take 8 [20] (oi := { dst := some 31, op := Go.Op.fieldAddr 52 (Go.Operand.tmp 5) 5, type := 0, pos := "run.go:124", after := #[], guard := none }) (v := ?_) rfl (by kernel_rfl) (by kernel_rfl) (by kernel_rfl) (by kernel_rfl) (fun _ _ _ h => h) (Or.inl ⟨by rfl, ?hE16⟩) hs5 ?_
    case hE16 =>
      intro u hu
      obtain ⟨u0, u1, u2⟩ := hu
      go_simp
      try with_reducible rfl
    simp only [Act.put, List.setIfInBounds_toArray, List.set_cons_zero, List.set_cons_succ]
    refine wpAnyE_take 9 [20] (oi := { dst := some 32, op := Go.Op.load 9 (Go.Operand.tmp 31), type := 9, pos := "run.go:124", after := #[{ on := 8, ground := Go.Ground.data }], guard := none }) (v := ?_) rfl (by kernel_rfl) (by kernel_rfl) (by kernel_rfl) (by kernel_rfl) (fun _ _ _ h => h) (Or.inl ⟨by rfl, ?hE17⟩) hs5 ?_
    case hE17 =>
      intro u hu
      obtain ⟨u0, u1, u2⟩ := hu
      go_simp
      try with_reducible rfl
    simp only [Act.put, List.setIfInBounds_toArray, List.set_cons_zero, List.set_cons_succ]
    refine wpAnyE_take 11 [20] (oi := { dst := some 34, op := Go.Op.move (Go.Operand.tmp 3), type := 2, pos := "run.go:124", after := #[], guard := none }) (v := ?_) rfl (by kernel_rfl) (by kernel_rfl) (by kernel_rfl) (by kernel_rfl) (fun _ _ _ h => h) (Or.inl ⟨by rfl, ?hE18⟩) hs5 ?_
    case hE18 =>
      intro u hu
      obtain ⟨u0, u1, u2⟩ := hu
      go_simp
      try with_reducible rfl
    simp only [Act.put, List.setIfInBounds_toArray, List.set_cons_zero, List.set_cons_succ]
    refine wpAnyE_take 12 [20] (oi := { dst := some 35, op := Go.Op.fieldAddr 52 (Go.Operand.tmp 5) 3, type := 0, pos := "run.go:124", after := #[], guard := none }) (v := ?_) rfl (by kernel_rfl) (by kernel_rfl) (by kernel_rfl) (by kernel_rfl) (fun _ _ _ h => h) (Or.inl ⟨by rfl, ?hE19⟩) hs5 ?_
    case hE19 =>
      intro u hu
      obtain ⟨u0, u1, u2⟩ := hu
      go_simp
      try with_reducible rfl
    simp only [Act.put, List.setIfInBounds_toArray, List.set_cons_zero, List.set_cons_succ]
    refine wpAnyE_take 13 [20] (oi := { dst := some 36, op := Go.Op.load 3 (Go.Operand.tmp 35), type := 3, pos := "run.go:124", after := #[{ on := 12, ground := Go.Ground.data }], guard := none }) (v := ?_) rfl (by kernel_rfl) (by kernel_rfl) (by kernel_rfl) (by kernel_rfl) (fun _ _ _ h => h) (Or.inl ⟨by rfl, ?hE20⟩) hs5 ?_
    case hE20 =>
      intro u hu
      obtain ⟨u0, u1, u2⟩ := hu
      go_simp
      try with_reducible rfl
    simp only [Act.put, List.setIfInBounds_toArray, List.set_cons_zero, List.set_cons_succ]
    refine wpAnyE_one (i := 10) (o := { dst := some 33, op := Go.Op.call { callee := Go.Callee.value (Go.Operand.func 49), args := #[Go.Operand.tmp 32], argTypes := #[9] }, type := 9, pos := "run.go:124", after := #[{ on := 9, ground := Go.Ground.data }], guard := none }) (by kernel_rfl) rfl (fun K hK => ?_)
    go_simp
    (with_reducible refine Calls.mono hcl ?_)
    rintro e w2 ⟨rfl, hb2⟩
    have hb2 : Below W1.heap.size W1 w2 := ⟨hb2.os, hb2.tape, hb2.output, hb2.size, hb2.block⟩
    have hs6 : w2.cell? ⟨b, 24, none⟩ = some (.slice co L cc) ∧ w2.cell? ⟨pb, 5, none⟩ = some (.string t) ∧ w2.cell? ⟨pb, 3, none⟩ = some (.int .i64 c) := ⟨(hb2.cell (p := ⟨b, 24, none⟩) hbW).trans hs5.1, (hb2.cell (p := ⟨pb, 5, none⟩) hz1).trans hs5.2.1, (hb2.cell (p := ⟨pb, 3, none⟩) hz1).trans hs5.2.2⟩
    refine hK _ _ (fun _ => hs6) ?_
    clear hK K
    try simp only [Act.put, List.setIfInBounds_toArray, List.set_cons_zero, List.set_cons_succ]
    refine wpAnyE_take 14 [20] (oi := { dst := some 37, op := Go.Op.build 55 #[(0, Go.Operand.tmp 29), (1, Go.Operand.tmp 30), (2, Go.Operand.tmp 33), (3, Go.Operand.tmp 34), (4, Go.Operand.tmp 36)], type := 55, pos := "run.go:124", after := #[{ on := 6, ground := Go.Ground.data }, { on := 7, ground := Go.Ground.data }, { on := 10, ground := Go.Ground.data }, { on := 11, ground := Go.Ground.data }, { on := 13, ground := Go.Ground.data }], guard := none }) (v := ?_) rfl (by kernel_rfl) (by kernel_rfl) (by kernel_rfl) (by kernel_rfl) (fun _ _ _ h => h) (Or.inl ⟨by rfl, ?hE21⟩) hs6 ?_
    case hE21 =>
      intro u hu
      obtain ⟨u0, u1, u2⟩ := hu
      go_simp
      try with_reducible rfl
    simp only [Act.put, List.setIfInBounds_toArray, List.set_cons_zero, List.set_cons_succ]
    refine wpAnyE_one (i := 15) (o := { dst := some 38, op := Go.Op.buildSlice 33 1 #[(0, Go.Operand.tmp 37)], type := 33, pos := "run.go:124", after := #[{ on := 14, ground := Go.Ground.data }], guard := none }) (by kernel_rfl) rfl (fun K hK => ?_)
    go_simp
    obtain ⟨w3, HW3⟩ := named (w2.alloc (.cells #[.int .i64 ((L : Int) + 1), .int .u8 (kind : Int), .string t, .int .i64 arg, .int .i64 c] 55))
    rw [← HW3.out]
    have hb3 : Below w2.heap.size w2 w3 := by rw [HW3.out]; exact (Below.refl _ _).alloc (Nat.le_refl _) _
    have hlt3 : W1.heap.size ≤ w2.heap.size := hb2.size
    have hs7 : w3.cell? ⟨b, 24, none⟩ = some (.slice co L cc) ∧ w3.cell? ⟨pb, 5, none⟩ = some (.string t) ∧ w3.cell? ⟨pb, 3, none⟩ = some (.int .i64 c) := ⟨(hb3.cell (p := ⟨b, 24, none⟩) (by show b < _; omega)).trans hs6.1, (hb3.cell (p := ⟨pb, 5, none⟩) (by show pb < _; omega)).trans hs6.2.1, (hb3.cell (p := ⟨pb, 3, none⟩) (by show pb < _; omega)).trans hs6.2.2⟩
    refine hK _ _ (fun _ => hs7) ?_
    clear hK K
    try simp only [Act.put, List.setIfInBounds_toArray, List.set_cons_zero, List.set_cons_succ]
    refine wpAnyE_one (i := 16) (o := { dst := some 39, op := Go.Op.call { callee := Go.Callee.builtin Go.Builtin.append, args := #[Go.Operand.tmp 28, Go.Operand.tmp 38], argTypes := #[33, 33] }, type := 33, pos := "run.go:124", after := #[{ on := 5, ground := Go.Ground.data }, { on := 15, ground := Go.Ground.data }, { on := 10, ground := Go.Ground.chain }], guard := none }) (by kernel_rfl) rfl (fun K hK => ?_)
    have hb13 : Below W1.heap.size W1 w3 := hb2.trans (hb3.mono hlt3)
    have hrd : RdX w3 (.slice (some ⟨w2.heap.size, 0, none⟩) 1 1) 5 ([⟨L + 1, kind, t, arg, c⟩].map cmC) := by
      rw [HW3.out]
      exact RdX.lit w2 _ 5 1 _ 55 rfl rfl (full_cm _) (by unfold maxLen; omega)
    obtain ⟨v4, w4, hr4, ho4, hg4, hb4⟩ := OwnX.append rt33 (HO1.out.below hb13) hrd (full_cm _) (by simp; omega) (Nat.le_trans hsz.out hb13.size) 33
    have hr4 := hide hr4
    refine step_append_runI rfl (.tmp 28) (.tmp 38) 33 33 rfl (.slice co L cc) (.slice (some ⟨w2.heap.size, 0, none⟩) 1 1) (by simp [Act.eval]) (by simp [Act.eval]) hr4.out ?_
    have hpbk : ∀ o, w4.cell? ⟨pb, o, none⟩ = w3.cell? ⟨pb, o, none⟩ := fun o => World.cell?_of_block (w := w3) (a := ⟨pb, o, none⟩) (hg4.block pb (by have := hb13.size; omega) (fun e => by have := HNE.out pb e.symm; omega))
    have hs8 : w4.cell? ⟨b, 24, none⟩ = some (.slice co L cc) ∧ w4.cell? ⟨pb, 5, none⟩ = some (.string t) ∧ w4.cell? ⟨pb, 3, none⟩ = some (.int .i64 c) := ⟨(hb4.cell (p := ⟨b, 24, none⟩) (Nat.lt_succ_self _)).trans hs7.1, (hpbk 5).trans hs7.2.1, (hpbk 3).trans hs7.2.2⟩
    have f24 : w4.frozen? ⟨b, 24, none⟩ = false := (hb4.frozen (p := ⟨b, 24, none⟩) (Nat.lt_succ_self _)).trans ((hb13.frozen (p := ⟨b, 24, none⟩) hbW).trans (HC1.out.2.2 24))
    have c24 : w4.cell? ⟨b, 24, none⟩ = some (.slice co L cc) := hs8.1
    have hR5 : Rn W b cv mv sv (w4.setCell ⟨b, 24, none⟩ v4) (s.cmd kind t arg c) := by
      have := Rn.begun HC1.out HB1.out ⟨L + 1, kind, t, arg, c⟩ hlt0.out HSM.out ((hb13.mono hsz.out).trans hb4) (by rw [← List.map_append] at ho4; exact ho4)
      rw [HL.out] at this
      exact this
    have hR6 := hR5.drew
    have ra := hR6.reg j (by omega) hj
    have fa := hR6.free (3 + (j : Int).toNat)
    have hR7 := hR6.put j ((L + 1 : Nat) : Int) (by omega) hj
    simp only [Int.toNat_natCast] at ra fa hR7
    obtain ⟨old, HOLD⟩ := named (getR (s.cmd kind t arg c) j)
    rw [← HOLD.out] at ra
    have b1d : (w4.setCell ⟨b, 24, none⟩ v4).drew.cell? ⟨pb, 1, none⟩ = some (.int .i64 j) := (cell_other w4 pb 1 b 24 v4 (.inl (by omega))).trans ((hpbk 1).trans ((hb13.cell (p := ⟨pb, 1, none⟩) hz1).trans b1))
    have H := hide hR7
    obtain ⟨M, vo4, vc4, hv4⟩ : ∃ M ao cap, v4 = .slice ao M cap := by
      obtain ⟨x, y, h⟩ := OwnX.shape ho4
      exact ⟨_, x, y, h⟩
    subst hv4
    clear hR5 hR6 hR7 ho4 hrd hpbk
    refine hK _ _ (fun _ => hs8) ?_
    clear hK K
    try simp only [Act.put, List.setIfInBounds_toArray, List.set_cons_zero, List.set_cons_succ]
    refine wpAnyE_take 17 [18, 19, 20] (oi := { dst := some 40, op := Go.Op.nilCheck (Go.Operand.tmp 23), type := 0, pos := "run.go:124", after := #[{ on := 0, ground := Go.Ground.data }, { on := 0, ground := Go.Ground.phase }, { on := 1, ground := Go.Ground.phase }, { on := 2, ground := Go.Ground.phase }, { on := 3, ground := Go.Ground.phase }, { on := 4, ground := Go.Ground.phase }, { on := 5, ground := Go.Ground.phase }, { on := 6, ground := Go.Ground.phase }, { on := 7, ground := Go.Ground.phase }, { on := 8, ground := Go.Ground.phase }, { on := 9, ground := Go.Ground.phase }, { on := 10, ground := Go.Ground.phase }, { on := 11, ground := Go.Ground.phase }, { on := 12, ground := Go.Ground.phase }, { on := 13, ground := Go.Ground.phase }, { on := 14, ground := Go.Ground.phase }, { on := 15, ground := Go.Ground.phase }, { on := 16, ground := Go.Ground.phase }], guard := none }) (v := ?_) rfl (by kernel_rfl) (by kernel_rfl) (by kernel_rfl) (by kernel_rfl) (fun _ _ _ h => h) (Or.inl ⟨by rfl, ?hE22⟩) hs8 ?_
    case hE22 =>
      intro u hu
      obtain ⟨u0, u1, u2⟩ := hu
      go_simp
      try with_reducible rfl
    simp only [Act.put, List.setIfInBounds_toArray, List.set_cons_zero, List.set_cons_succ]
    refine wpAnyE_take 18 [19, 20] (oi := { dst := some 41, op := Go.Op.fieldAddr 69 (Go.Operand.tmp 40) 5, type := 0, pos := "run.go:124", after := #[{ on := 17, ground := Go.Ground.data }, { on := 0, ground := Go.Ground.phase }, { on := 1, ground := Go.Ground.phase }, { on := 2, ground := Go.Ground.phase }, { on := 3, ground := Go.Ground.phase }, { on := 4, ground := Go.Ground.phase }, { on := 5, ground := Go.Ground.phase }, { on := 6, ground := Go.Ground.phase }, { on := 7, ground := Go.Ground.phase }, { on := 8, ground := Go.Ground.phase }, { on := 9, ground := Go.Ground.phase }, { on := 10, ground := Go.Ground.phase }, { on := 11, ground := Go.Ground.phase }, { on := 12, ground := Go.Ground.phase }, { on := 13, ground := Go.Ground.phase }, { on := 14, ground := Go.Ground.phase }, { on := 15, ground := Go.Ground.phase }, { on := 16, ground := Go.Ground.phase }], guard := none }) (v := ?_) rfl (by kernel_rfl) (by kernel_rfl) (by kernel_rfl) (by kernel_rfl) (fun _ _ _ h => h) (Or.inl ⟨by rfl, ?hE23⟩) hs8 ?_
    case hE23 =>
      intro u hu
      obtain ⟨u0, u1, u2⟩ := hu
      go_simp
      try with_reducible rfl
    simp only [Act.put, List.setIfInBounds_toArray, List.set_cons_zero, List.set_cons_succ]
    refine wpAnyE_take 19 [20] (oi := { dst := some 42, op := Go.Op.fieldAddr 35 (Go.Operand.tmp 41) 3, type := 0, pos := "run.go:124", after := #[{ on := 18, ground := Go.Ground.data }, { on := 0, ground := Go.Ground.phase }, { on := 1, ground := Go.Ground.phase }, { on := 2, ground := Go.Ground.phase }, { on := 3, ground := Go.Ground.phase }, { on := 4, ground := Go.Ground.phase }, { on := 5, ground := Go.Ground.phase }, { on := 6, ground := Go.Ground.phase }, { on := 7, ground := Go.Ground.phase }, { on := 8, ground := Go.Ground.phase }, { on := 9, ground := Go.Ground.phase }, { on := 10, ground := Go.Ground.phase }, { on := 11, ground := Go.Ground.phase }, { on := 12, ground := Go.Ground.phase }, { on := 13, ground := Go.Ground.phase }, { on := 14, ground := Go.Ground.phase }, { on := 15, ground := Go.Ground.phase }, { on := 16, ground := Go.Ground.phase }], guard := none }) (v := ?_) rfl (by kernel_rfl) (by kernel_rfl) (by kernel_rfl) (by kernel_rfl) (fun _ _ _ h => h) (Or.inl ⟨by rfl, ?hE24⟩) hs8 ?_
    case hE24 =>
      intro u hu
      obtain ⟨u0, u1, u2⟩ := hu
      go_simp
      try with_reducible rfl
    simp only [Act.put, List.setIfInBounds_toArray, List.set_cons_zero, List.set_cons_succ]
    refine wpAnyE_one (i := 20) (o := { dst := none, op := Go.Op.store 33 (Go.Operand.tmp 42) (Go.Operand.tmp 39), type := 0, pos := "run.go:124", after := #[{ on := 19, ground := Go.Ground.data }, { on := 16, ground := Go.Ground.data }, { on := 16, ground := Go.Ground.chain }, { on := 0, ground := Go.Ground.phase }, { on := 1, ground := Go.Ground.phase }, { on := 2, ground := Go.Ground.phase }, { on := 3, ground := Go.Ground.phase }, { on := 4, ground := Go.Ground.phase }, { on := 5, ground := Go.Ground.phase }, { on := 6, ground := Go.Ground.phase }, { on := 7, ground := Go.Ground.phase }, { on := 8, ground := Go.Ground.phase }, { on := 9, ground := Go.Ground.phase }, { on := 10, ground := Go.Ground.phase }, { on := 11, ground := Go.Ground.phase }, { on := 12, ground := Go.Ground.phase }, { on := 13, ground := Go.Ground.phase }, { on := 14, ground := Go.Ground.phase }, { on := 15, ground := Go.Ground.phase }, { on := 16, ground := Go.Ground.phase }], guard := none }) (by kernel_rfl) rfl (fun K hK => ?_)
    go_simp
    refine hK _ _ (fun h => absurd rfl h) ?_
    clear hK K
    try simp only [Act.put, List.setIfInBounds_toArray, List.set_cons_zero, List.set_cons_succ]
    refine wpAnyE_done (by kernel_rfl) ?_
    go_wp2_with fail
    refine wp_region_E 7 (fun w' => w'.cell? ⟨pb, 1, none⟩ = some (.int .i64 j)) (by kernel_rfl) ?_
    refine wpAnyE_take 0 [7] (oi := { dst := some 43, op := Go.Op.move (Go.Operand.tmp 0), type := 64, pos := "run.go:125", after := #[], guard := none }) (v := ?_) rfl (by kernel_rfl) (by kernel_rfl) (by kernel_rfl) (by kernel_rfl) (fun _ _ _ h => h) (Or.inl ⟨by rfl, ?hE1⟩) b1d ?_
    case hE1 =>
      intro u hu
      obtain u0 := hu
      go_simp
      try with_reducible rfl
    simp only [Act.put, List.setIfInBounds_toArray, List.set_cons_zero, List.set_cons_succ]
    refine wpAnyE_take 1 [7] (oi := { dst := some 44, op := Go.Op.fieldAddr 52 (Go.Operand.tmp 5) 1, type := 0, pos := "run.go:125", after := #[], guard := none }) (v := ?_) rfl (by kernel_rfl) (by kernel_rfl) (by kernel_rfl) (by kernel_rfl) (fun _ _ _ h => h) (Or.inl ⟨by rfl, ?hE2⟩) b1d ?_
    case hE2 =>
      intro u hu
      obtain u0 := hu
      go_simp
      try with_reducible rfl
    simp only [Act.put, List.setIfInBounds_toArray, List.set_cons_zero, List.set_cons_succ]
    refine wpAnyE_take 2 [7] (oi := { dst := some 45, op := Go.Op.load 3 (Go.Operand.tmp 44), type := 3, pos := "run.go:125", after := #[{ on := 1, ground := Go.Ground.data }], guard := none }) (v := ?_) rfl (by kernel_rfl) (by kernel_rfl) (by kernel_rfl) (by kernel_rfl) (fun _ _ _ h => h) (Or.inl ⟨by rfl, ?hE3⟩) b1d ?_
    case hE3 =>
      intro u hu
      obtain u0 := hu
      go_simp
      try with_reducible rfl
    simp only [Act.put, List.setIfInBounds_toArray, List.set_cons_zero, List.set_cons_succ]
    refine wpAnyE_take 3 [7] (oi := { dst := some 46, op := Go.Op.move (Go.Operand.tmp 9), type := 3, pos := "run.go:125", after := #[], guard := none }) (v := ?_) rfl (by kernel_rfl) (by kernel_rfl) (by kernel_rfl) (by kernel_rfl) (fun _ _ _ h => h) (Or.inl ⟨by rfl, ?hE4⟩) b1d ?_
    case hE4 =>
      intro u hu
      obtain u0 := hu
      go_simp
      try with_reducible rfl
    simp only [Act.put, List.setIfInBounds_toArray, List.set_cons_zero, List.set_cons_succ]
    refine wpAnyE_take 4 [5, 6, 7] (oi := { dst := some 47, op := Go.Op.nilCheck (Go.Operand.tmp 43), type := 0, pos := "run.go:125", after := #[{ on := 0, ground := Go.Ground.data }], guard := none }) (v := ?_) rfl (by kernel_rfl) (by kernel_rfl) (by kernel_rfl) (by kernel_rfl) (fun _ _ _ h => h) (Or.inl ⟨by rfl, ?hE5⟩) b1d ?_
    case hE5 =>
      intro u hu
      obtain u0 := hu
      go_simp
      try with_reducible rfl
    simp only [Act.put, List.setIfInBounds_toArray, List.set_cons_zero, List.set_cons_succ]
    refine wpAnyE_take 5 [6, 7] (oi := { dst := some 48, op := Go.Op.fieldAddr 69 (Go.Operand.tmp 47) 3, type := 0, pos := "run.go:125", after := #[{ on := 4, ground := Go.Ground.data }], guard := none }) (v := ?_) rfl (by kernel_rfl) (by kernel_rfl) (by kernel_rfl) (by kernel_rfl) (fun _ _ _ h => h) (Or.inl ⟨by rfl, ?hE6⟩) b1d ?_
    case hE6 =>
      intro u hu
      obtain u0 := hu
      go_simp
      try with_reducible rfl
    simp only [Act.put, List.setIfInBounds_toArray, List.set_cons_zero, List.set_cons_succ]
    refine wpAnyE_take 6 [7] (oi := { dst := some 49, op := Go.Op.indexAddr 67 (Go.Operand.tmp 48) (Go.Operand.tmp 45), type := 0, pos := "run.go:125", after := #[{ on := 5, ground := Go.Ground.data }, { on := 2, ground := Go.Ground.data }, { on := 0, ground := Go.Ground.phase }, { on := 1, ground := Go.Ground.phase }, { on := 2, ground := Go.Ground.phase }, { on := 3, ground := Go.Ground.phase }], guard := none }) (v := ?_) rfl (by kernel_rfl) (by kernel_rfl) (by kernel_rfl) (by kernel_rfl) (fun _ _ _ h => h) (Or.inl ⟨by rfl, ?hE7⟩) b1d ?_
    case hE7 =>
      intro u hu
      obtain u0 := hu
      go_simp
      try with_reducible rfl
    simp only [Act.put, List.setIfInBounds_toArray, List.set_cons_zero, List.set_cons_succ]
    refine wpAnyE_one (i := 7) (o := { dst := none, op := Go.Op.store 2 (Go.Operand.tmp 49) (Go.Operand.tmp 46), type := 0, pos := "run.go:125", after := #[{ on := 6, ground := Go.Ground.data }, { on := 3, ground := Go.Ground.data }, { on := 0, ground := Go.Ground.phase }, { on := 1, ground := Go.Ground.phase }, { on := 2, ground := Go.Ground.phase }, { on := 3, ground := Go.Ground.phase }], guard := none }) (by kernel_rfl) rfl (fun K hK => ?_)
    go_simp
    refine hK _ _ (fun h => absurd rfl h) ?_
    clear hK K
    try simp only [Act.put, List.setIfInBounds_toArray, List.set_cons_zero, List.set_cons_succ]
    refine wpAnyE_done (by kernel_rfl) ?_
    go_wp2
    go_ret
    exact ⟨rfl, H.out⟩
end Go.Proofs.YtlngeonfabahnaaDoor
