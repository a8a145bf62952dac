/-
  Contracts of a run's signals and waits. Own work.
-/
import Derived.Test.YtlngeonfabahnaaDoorQb
import Derived.Test.YtlngeonfabahnaaDoorOd
namespace Go.Proofs.YtlngeonfabahnaaDoor
open Go Go.RowKit
set_option linter.unusedSimpArgs false
set_option linter.unusedVariables false

theorem wrap_in (x : Int) (h0 : -9223372036854775808 ≤ x) (h1 : x ≤ 9223372036854775807) : IntKind.i64.wrap x = x := by
  show (if (true && decide (x % 18446744073709551616 ≥ 9223372036854775808)) = true then x % 18446744073709551616 - 18446744073709551616 else x % 18446744073709551616) = x
  by_cases h : x % 18446744073709551616 ≥ 9223372036854775808
  · rw [if_pos (by simpa using h)]
    omega
  · rw [if_neg (by simpa using h)]
    omega
set_option maxRecDepth 100000 in
theorem take_any {W : World} {b : Nat} {cv mv sv : Value} {w : World} {s : St} (h : Rn W b cv mv sv w s) (sg : List Int) (hN : RdN W sv sg) (hW : b = W.heap.size) (hl : sg.length ≤ 10000000) (hs : s.sig ≤ sg.length)
    (i : Ins) (ha0 : 0 ≤ i.a) (ha : i.a < 16) :
    Calls Tryd.prog 47 #[.pointer (some ⟨b, 0, none⟩), insV i] w fun e w' => e = .returned (.bool (takeI sg i s).2) ∧ Rn W b cv mv sv w' (takeI sg i s).1 := by
  have HWb := hide hW
  clear hW
  obtain ⟨op, a, k, c, n, t⟩ := i
  simp only at ha0 ha
  obtain ⟨ao, cap, hv, hcap⟩ := hN.shape
  subst hv
  obtain ⟨m, HM⟩ := named sg.length
  rw [← HM.out] at h hN hs hl hcap ⊢
  show Calls Tryd.prog 47 #[.pointer (some ⟨b, 0, none⟩), .agg #[.int .u8 (op : Int), .int .i64 a, .int .i64 k, .int .i64 c, .int .i64 n, .string t]] w _
  obtain ⟨W1, HW⟩ := named (w.alloc (.cells #[.int .u8 (op : Int), .int .i64 a, .int .i64 k, .int .i64 c, .int .i64 n, .string t] 52))
  have h1 : Rn W b cv mv (.slice ao m cap) W1.drew s := by rw [HW.out]; exact (h.alloc _).thenBelow (Below.refl _ _).drew
  obtain ⟨c0, c1, c2, c19, c20, c25, c26⟩ := h1.cell
  have hbl : b < w.heap.size := h.lt
  obtain ⟨j, HJ⟩ := Int.eq_ofNat_of_zero_le ha0
  subst HJ
  have hj : j < 16 := by omega
  have hs0 : W1.drew.cell? ⟨b, 25, none⟩ = some (.int .i64 s.sig) ∧ W1.drew.cell? ⟨b, 2, none⟩ = some (.slice ao m cap) := ⟨c25, c2⟩
  by_cases he : s.sig = m
  · have e : takeI sg ⟨op, j, k, c, n, t⟩ s = ({ s with at_ := 3 }, false) := by
      unfold takeI
      rw [List.getElem?_eq_none (by rw [← HM.out]; omega)]
    rw [e]
    have H := hide (h1.stand 3)
    have f20 := h1.free 20
    have heI : (s.sig : Int) = (m : Int) := by rw [he]
    have heb : ((s.sig : Int) == (m : Int)) = true := by rw [heI]; simp
    clear h h1 c0 c1 c2 c19 c25 c26 he
    go_enter Tryd.func47, Tryd.ntmps47
    go_wp2_with fail
    rw [← HW.out]
    refine wp_region_E 10 (fun w' => w'.cell? ⟨b, 25, none⟩ = some (.int .i64 s.sig) ∧ w'.cell? ⟨b, 2, none⟩ = some (.slice ao m cap)) (by kernel_rfl) ?_
    refine wpAnyE_take 0 [1, 2, 3, 4, 10] (oi := { dst := some 5, op := Go.Op.move (Go.Operand.tmp 0), type := 64, pos := "run.go:148", after := #[], guard := none }) (v := ?_) rfl (by kernel_rfl) (by kernel_rfl) (by kernel_rfl) (by kernel_rfl) (fun _ _ _ h => h) (Or.inl ⟨by rfl, ?hE1⟩) hs0 ?_
    case hE1 =>
      intro u hu
      obtain ⟨u0, u1⟩ := hu
      go_simp
      try with_reducible rfl
    simp only [Act.put, List.setIfInBounds_toArray, List.set_cons_zero, List.set_cons_succ]
    refine wpAnyE_take 1 [2, 3, 4, 10] (oi := { dst := some 6, op := Go.Op.nilCheck (Go.Operand.tmp 5), type := 0, pos := "run.go:148", after := #[{ on := 0, ground := Go.Ground.data }], guard := none }) (v := ?_) rfl (by kernel_rfl) (by kernel_rfl) (by kernel_rfl) (by kernel_rfl) (fun _ _ _ h => h) (Or.inl ⟨by rfl, ?hE2⟩) hs0 ?_
    case hE2 =>
      intro u hu
      obtain ⟨u0, u1⟩ := hu
      go_simp
      try with_reducible rfl
    simp only [Act.put, List.setIfInBounds_toArray, List.set_cons_zero, List.set_cons_succ]
    refine wpAnyE_take 2 [3, 4, 10] (oi := { dst := some 7, op := Go.Op.fieldAddr 69 (Go.Operand.tmp 6) 5, type := 0, pos := "run.go:148", after := #[{ on := 1, ground := Go.Ground.data }], guard := none }) (v := ?_) rfl (by kernel_rfl) (by kernel_rfl) (by kernel_rfl) (by kernel_rfl) (fun _ _ _ h => h) (Or.inl ⟨by rfl, ?hE3⟩) hs0 ?_
    case hE3 =>
      intro u hu
      obtain ⟨u0, u1⟩ := hu
      go_simp
      try with_reducible rfl
    simp only [Act.put, List.setIfInBounds_toArray, List.set_cons_zero, List.set_cons_succ]
    refine wpAnyE_take 3 [4, 10] (oi := { dst := some 8, op := Go.Op.fieldAddr 35 (Go.Operand.tmp 7) 4, type := 0, pos := "run.go:148", after := #[{ on := 2, ground := Go.Ground.data }], guard := none }) (v := ?_) rfl (by kernel_rfl) (by kernel_rfl) (by kernel_rfl) (by kernel_rfl) (fun _ _ _ h => h) (Or.inl ⟨by rfl, ?hE4⟩) hs0 ?_
    case hE4 =>
      intro u hu
      obtain ⟨u0, u1⟩ := hu
      go_simp
      try with_reducible rfl
    simp only [Act.put, List.setIfInBounds_toArray, List.set_cons_zero, List.set_cons_succ]
    refine wpAnyE_take 4 [10] (oi := { dst := some 9, op := Go.Op.load 3 (Go.Operand.tmp 8), type := 3, pos := "run.go:148", after := #[{ on := 3, ground := Go.Ground.data }], guard := none }) (v := ?_) rfl (by kernel_rfl) (by kernel_rfl) (by kernel_rfl) (by kernel_rfl) (fun _ _ _ h => h) (Or.inl ⟨by rfl, ?hE5⟩) hs0 ?_
    case hE5 =>
      intro u hu
      obtain ⟨u0, u1⟩ := hu
      go_simp
      try with_reducible rfl
    simp only [Act.put, List.setIfInBounds_toArray, List.set_cons_zero, List.set_cons_succ]
    refine wpAnyE_take 5 [6, 7, 8, 9, 10] (oi := { dst := some 10, op := Go.Op.move (Go.Operand.tmp 0), type := 64, pos := "run.go:148", after := #[], guard := none }) (v := ?_) rfl (by kernel_rfl) (by kernel_rfl) (by kernel_rfl) (by kernel_rfl) (fun _ _ _ h => h) (Or.inl ⟨by rfl, ?hE6⟩) hs0 ?_
    case hE6 =>
      intro u hu
      obtain ⟨u0, u1⟩ := hu
      go_simp
      try with_reducible rfl
    simp only [Act.put, List.setIfInBounds_toArray, List.set_cons_zero, List.set_cons_succ]
    refine wpAnyE_take 6 [7, 8, 9, 10] (oi := { dst := some 11, op := Go.Op.nilCheck (Go.Operand.tmp 10), type := 0, pos := "run.go:148", after := #[{ on := 5, ground := Go.Ground.data }], guard := none }) (v := ?_) rfl (by kernel_rfl) (by kernel_rfl) (by kernel_rfl) (by kernel_rfl) (fun _ _ _ h => h) (Or.inl ⟨by rfl, ?hE7⟩) hs0 ?_
    case hE7 =>
      intro u hu
      obtain ⟨u0, u1⟩ := hu
      go_simp
      try with_reducible rfl
    simp only [Act.put, List.setIfInBounds_toArray, List.set_cons_zero, List.set_cons_succ]
    refine wpAnyE_take 7 [8, 9, 10] (oi := { dst := some 12, op := Go.Op.fieldAddr 69 (Go.Operand.tmp 11) 2, type := 0, pos := "run.go:148", after := #[{ on := 6, ground := Go.Ground.data }], guard := none }) (v := ?_) rfl (by kernel_rfl) (by kernel_rfl) (by kernel_rfl) (by kernel_rfl) (fun _ _ _ h => h) (Or.inl ⟨by rfl, ?hE8⟩) hs0 ?_
    case hE8 =>
      intro u hu
      obtain ⟨u0, u1⟩ := hu
      go_simp
      try with_reducible rfl
    simp only [Act.put, List.setIfInBounds_toArray, List.set_cons_zero, List.set_cons_succ]
    refine wpAnyE_take 8 [9, 10] (oi := { dst := some 13, op := Go.Op.load 26 (Go.Operand.tmp 12), type := 26, pos := "run.go:148", after := #[{ on := 7, ground := Go.Ground.data }], guard := none }) (v := ?_) rfl (by kernel_rfl) (by kernel_rfl) (by kernel_rfl) (by kernel_rfl) (fun _ _ _ h => h) (Or.inl ⟨by rfl, ?hE9⟩) hs0 ?_
    case hE9 =>
      intro u hu
      obtain ⟨u0, u1⟩ := hu
      go_simp
      try with_reducible rfl
    simp only [Act.put, List.setIfInBounds_toArray, List.set_cons_zero, List.set_cons_succ]
    refine wpAnyE_one (i := 9) (o := { dst := some 14, op := Go.Op.call { callee := Go.Callee.builtin Go.Builtin.len, args := #[Go.Operand.tmp 13], argTypes := #[26] }, type := 3, pos := "run.go:148", after := #[{ on := 8, ground := Go.Ground.data }], guard := none }) (by kernel_rfl) rfl (fun K hK => ?_)
    go_simp
    refine hK _ _ (fun _ => hs0) ?_
    clear hK K
    try simp only [Act.put, List.setIfInBounds_toArray, List.set_cons_zero, List.set_cons_succ]
    refine wpAnyE_one (i := 10) (o := { dst := some 15, op := Go.Op.binOp Go.BinOp.eql 3 (Go.Operand.tmp 9) (Go.Operand.tmp 14) 3, type := 4, pos := "run.go:148", after := #[{ on := 4, ground := Go.Ground.data }, { on := 9, ground := Go.Ground.data }], guard := none }) (by kernel_rfl) rfl (fun K hK => ?_)
    go_simp
    refine hK _ _ (fun h => absurd rfl h) ?_
    clear hK K
    try simp only [Act.put, List.setIfInBounds_toArray, List.set_cons_zero, List.set_cons_succ]
    refine wpAnyE_done (by kernel_rfl) ?_
    go_wp2
    go_ret
    exact ⟨rfl, H.out⟩
  · have hlt : s.sig < m := by omega
    obtain ⟨q, off, eao, -, hq⟩ := (hN.below (w' := W1.drew) (by rw [← HWb.out]; exact h1.below)).at s.sig (by rw [← HM.out]; exact hlt)
    subst eao
    have hsg : sg[s.sig]? = some (sg[s.sig]'(by rw [← HM.out]; exact hlt)) := List.getElem?_eq_getElem _
    obtain ⟨x, HX⟩ := named (sg[s.sig]'(by rw [← HM.out]; exact hlt))
    rw [← HX.out] at hsg hq
    have e : takeI sg ⟨op, j, k, c, n, t⟩ s = ({ s.put j x with sig := s.sig + 1 }, true) := by
      unfold takeI
      rw [hsg]
    rw [e]
    have h2 : Rn W b cv mv (.slice (some ⟨q, off, none⟩) m cap) W1.drew.drew s := h1.thenBelow (Below.refl _ _).drew
    have h3 := h2.put j x (by omega) (by omega)
    have ra := h2.reg j (by omega) (by omega)
    have fa := h2.free (3 + (j : Int).toNat)
    simp only [Int.toNat_natCast] at h3 ra fa
    have H := hide (h3.signed (s.sig + 1) (by omega))
    have d25 : (W1.setCell ⟨b, 3 + j, none⟩ (.int .i64 x)).drew.drew.cell? ⟨b, 25, none⟩ = some (.int .i64 s.sig) := h3.cell.2.2.2.2.2.1
    have f25 : (W1.setCell ⟨b, 3 + j, none⟩ (.int .i64 x)).drew.drew.frozen? ⟨b, 25, none⟩ = false := h3.free 25
    have hwr : IntKind.i64.wrap ((s.sig : Int) + 1) = ((s.sig + 1 : Nat) : Int) := by
      rw [wrap_in _ (by omega) (by omega)]; omega
    have heI : ¬ (s.sig : Int) = (m : Int) := by omega
    have heb : ((s.sig : Int) == (m : Int)) = false := beq_eq_false_iff_ne.2 heI
    have x1 : W1.drew.cell? ⟨w.heap.size, 1, none⟩ = some (.int .i64 j) := by rw [HW.out]; exact (cell_of_row _ w.heap.size 1 _ 52 (0, 0) (heap_alloc_new w _)).trans rfl
    obtain ⟨pb, HPB⟩ := named w.heap.size
    rw [← HPB.out] at x1
    have hs4 : W1.drew.drew.cell? ⟨b, 25, none⟩ = some (.int .i64 s.sig) ∧ W1.drew.drew.cell? ⟨b, 2, none⟩ = some (.slice (some ⟨q, off, none⟩) m cap) ∧ W1.drew.drew.cell? ⟨pb, 1, none⟩ = some (.int .i64 j) ∧ W1.drew.drew.cell? ⟨q, off + s.sig, none⟩ = some (.int .i64 x) := ⟨c25, c2, x1, hq⟩
    have hlI : (s.sig : Int) < (m : Int) := by omega
    have hjI : (j : Int) < 16 := by omega
    clear h h1 h2 h3 c0 c1 c2 c19 c20 c25 c26 he hsg x1 hq
    go_enter Tryd.func47, Tryd.ntmps47
    go_wp2_with fail
    rw [← HW.out, ← HPB.out]
    refine wp_region_E 10 (fun w' => w'.cell? ⟨b, 25, none⟩ = some (.int .i64 s.sig) ∧ w'.cell? ⟨b, 2, none⟩ = some (.slice (some ⟨q, off, none⟩) m cap)) (by kernel_rfl) ?_
    refine wpAnyE_take 0 [1, 2, 3, 4, 10] (oi := { dst := some 5, op := Go.Op.move (Go.Operand.tmp 0), type := 64, pos := "run.go:148", after := #[], guard := none }) (v := ?_) rfl (by kernel_rfl) (by kernel_rfl) (by kernel_rfl) (by kernel_rfl) (fun _ _ _ h => h) (Or.inl ⟨by rfl, ?hE10⟩) hs0 ?_
    case hE10 =>
      intro u hu
      obtain ⟨u0, u1⟩ := hu
      go_simp
      try with_reducible rfl
    simp only [Act.put, List.setIfInBounds_toArray, List.set_cons_zero, List.set_cons_succ]
    refine wpAnyE_take 1 [2, 3, 4, 10] (oi := { dst := some 6, op := Go.Op.nilCheck (Go.Operand.tmp 5), type := 0, pos := "run.go:148", after := #[{ on := 0, ground := Go.Ground.data }], guard := none }) (v := ?_) rfl (by kernel_rfl) (by kernel_rfl) (by kernel_rfl) (by kernel_rfl) (fun _ _ _ h => h) (Or.inl ⟨by rfl, ?hE11⟩) hs0 ?_
    case hE11 =>
      intro u hu
      obtain ⟨u0, u1⟩ := hu
      go_simp
      try with_reducible rfl
    simp only [Act.put, List.setIfInBounds_toArray, List.set_cons_zero, List.set_cons_succ]
    refine wpAnyE_take 2 [3, 4, 10] (oi := { dst := some 7, op := Go.Op.fieldAddr 69 (Go.Operand.tmp 6) 5, type := 0, pos := "run.go:148", after := #[{ on := 1, ground := Go.Ground.data }], guard := none }) (v := ?_) rfl (by kernel_rfl) (by kernel_rfl) (by kernel_rfl) (by kernel_rfl) (fun _ _ _ h => h) (Or.inl ⟨by rfl, ?hE12⟩) hs0 ?_
    case hE12 =>
      intro u hu
      obtain ⟨u0, u1⟩ := hu
      go_simp
      try with_reducible rfl
    simp only [Act.put, List.setIfInBounds_toArray, List.set_cons_zero, List.set_cons_succ]
    refine wpAnyE_take 3 [4, 10] (oi := { dst := some 8, op := Go.Op.fieldAddr 35 (Go.Operand.tmp 7) 4, type := 0, pos := "run.go:148", after := #[{ on := 2, ground := Go.Ground.data }], guard := none }) (v := ?_) rfl (by kernel_rfl) (by kernel_rfl) (by kernel_rfl) (by kernel_rfl) (fun _ _ _ h => h) (Or.inl ⟨by rfl, ?hE13⟩) hs0 ?_
    case hE13 =>
      intro u hu
      obtain ⟨u0, u1⟩ := hu
      go_simp
      try with_reducible rfl
    simp only [Act.put, List.setIfInBounds_toArray, List.set_cons_zero, List.set_cons_succ]
    refine wpAnyE_take 4 [10] (oi := { dst := some 9, op := Go.Op.load 3 (Go.Operand.tmp 8), type := 3, pos := "run.go:148", after := #[{ on := 3, ground := Go.Ground.data }], guard := none }) (v := ?_) rfl (by kernel_rfl) (by kernel_rfl) (by kernel_rfl) (by kernel_rfl) (fun _ _ _ h => h) (Or.inl ⟨by rfl, ?hE14⟩) hs0 ?_
    case hE14 =>
      intro u hu
      obtain ⟨u0, u1⟩ := hu
      go_simp
      try with_reducible rfl
    simp only [Act.put, List.setIfInBounds_toArray, List.set_cons_zero, List.set_cons_succ]
    refine wpAnyE_take 5 [6, 7, 8, 9, 10] (oi := { dst := some 10, op := Go.Op.move (Go.Operand.tmp 0), type := 64, pos := "run.go:148", after := #[], guard := none }) (v := ?_) rfl (by kernel_rfl) (by kernel_rfl) (by kernel_rfl) (by kernel_rfl) (fun _ _ _ h => h) (Or.inl ⟨by rfl, ?hE15⟩) hs0 ?_
    case hE15 =>
      intro u hu
      obtain ⟨u0, u1⟩ := hu
      go_simp
      try with_reducible rfl
    simp only [Act.put, List.setIfInBounds_toArray, List.set_cons_zero, List.set_cons_succ]
    refine wpAnyE_take 6 [7, 8, 9, 10] (oi := { dst := some 11, op := Go.Op.nilCheck (Go.Operand.tmp 10), type := 0, pos := "run.go:148", after := #[{ on := 5, ground := Go.Ground.data }], guard := none }) (v := ?_) rfl (by kernel_rfl) (by kernel_rfl) (by kernel_rfl) (by kernel_rfl) (fun _ _ _ h => h) (Or.inl ⟨by rfl, ?hE16⟩) hs0 ?_
    case hE16 =>
      intro u hu
      obtain ⟨u0, u1⟩ := hu
      go_simp
      try with_reducible rfl
    simp only [Act.put, List.setIfInBounds_toArray, List.set_cons_zero, List.set_cons_succ]
    refine wpAnyE_take 7 [8, 9, 10] (oi := { dst := some 12, op := Go.Op.fieldAddr 69 (Go.Operand.tmp 11) 2, type := 0, pos := "run.go:148", after := #[{ on := 6, ground := Go.Ground.data }], guard := none }) (v := ?_) rfl (by kernel_rfl) (by kernel_rfl) (by kernel_rfl) (by kernel_rfl) (fun _ _ _ h => h) (Or.inl ⟨by rfl, ?hE17⟩) hs0 ?_
    case hE17 =>
      intro u hu
      obtain ⟨u0, u1⟩ := hu
      go_simp
      try with_reducible rfl
    simp only [Act.put, List.setIfInBounds_toArray, List.set_cons_zero, List.set_cons_succ]
    refine wpAnyE_take 8 [9, 10] (oi := { dst := some 13, op := Go.Op.load 26 (Go.Operand.tmp 12), type := 26, pos := "run.go:148", after := #[{ on := 7, ground := Go.Ground.data }], guard := none }) (v := ?_) rfl (by kernel_rfl) (by kernel_rfl) (by kernel_rfl) (by kernel_rfl) (fun _ _ _ h => h) (Or.inl ⟨by rfl, ?hE18⟩) hs0 ?_
    case hE18 =>
      intro u hu
      obtain ⟨u0, u1⟩ := hu
      go_simp
      try with_reducible rfl
    simp only [Act.put, List.setIfInBounds_toArray, List.set_cons_zero, List.set_cons_succ]
    refine wpAnyE_one (i := 9) (o := { dst := some 14, op := Go.Op.call { callee := Go.Callee.builtin Go.Builtin.len, args := #[Go.Operand.tmp 13], argTypes := #[26] }, type := 3, pos := "run.go:148", after := #[{ on := 8, ground := Go.Ground.data }], guard := none }) (by kernel_rfl) rfl (fun K hK => ?_)
    go_simp
    refine hK _ _ (fun _ => hs0) ?_
    clear hK K
    try simp only [Act.put, List.setIfInBounds_toArray, List.set_cons_zero, List.set_cons_succ]
    refine wpAnyE_one (i := 10) (o := { dst := some 15, op := Go.Op.binOp Go.BinOp.eql 3 (Go.Operand.tmp 9) (Go.Operand.tmp 14) 3, type := 4, pos := "run.go:148", after := #[{ on := 4, ground := Go.Ground.data }, { on := 9, ground := Go.Ground.data }], guard := none }) (by kernel_rfl) rfl (fun K hK => ?_)
    go_simp
    refine hK _ _ (fun h => absurd rfl h) ?_
    clear hK K
    try simp only [Act.put, List.setIfInBounds_toArray, List.set_cons_zero, List.set_cons_succ]
    refine wpAnyE_done (by kernel_rfl) ?_
    go_wp2_with fail
    refine wp_region_E 17 (fun w' => w'.cell? ⟨b, 25, none⟩ = some (.int .i64 s.sig) ∧ w'.cell? ⟨b, 2, none⟩ = some (.slice (some ⟨q, off, none⟩) m cap) ∧ w'.cell? ⟨pb, 1, none⟩ = some (.int .i64 j) ∧ w'.cell? ⟨q, off + s.sig, none⟩ = some (.int .i64 x)) (by kernel_rfl) ?_
    refine wpAnyE_take 0 [17] (oi := { dst := some 20, op := Go.Op.move (Go.Operand.tmp 0), type := 64, pos := "run.go:152", after := #[], guard := none }) (v := ?_) rfl (by kernel_rfl) (by kernel_rfl) (by kernel_rfl) (by kernel_rfl) (fun _ _ _ h => h) (Or.inl ⟨by rfl, ?hE19⟩) hs4 ?_
    case hE19 =>
      intro u hu
      obtain ⟨u0, u1, u2, u3⟩ := hu
      go_simp
      try with_reducible rfl
    simp only [Act.put, List.setIfInBounds_toArray, List.set_cons_zero, List.set_cons_succ]
    refine wpAnyE_take 1 [17] (oi := { dst := some 21, op := Go.Op.fieldAddr 52 (Go.Operand.tmp 3) 1, type := 0, pos := "run.go:152", after := #[], guard := none }) (v := ?_) rfl (by kernel_rfl) (by kernel_rfl) (by kernel_rfl) (by kernel_rfl) (fun _ _ _ h => h) (Or.inl ⟨by rfl, ?hE20⟩) hs4 ?_
    case hE20 =>
      intro u hu
      obtain ⟨u0, u1, u2, u3⟩ := hu
      go_simp
      try with_reducible rfl
    simp only [Act.put, List.setIfInBounds_toArray, List.set_cons_zero, List.set_cons_succ]
    refine wpAnyE_take 2 [17] (oi := { dst := some 22, op := Go.Op.load 3 (Go.Operand.tmp 21), type := 3, pos := "run.go:152", after := #[{ on := 1, ground := Go.Ground.data }], guard := none }) (v := ?_) rfl (by kernel_rfl) (by kernel_rfl) (by kernel_rfl) (by kernel_rfl) (fun _ _ _ h => h) (Or.inl ⟨by rfl, ?hE21⟩) hs4 ?_
    case hE21 =>
      intro u hu
      obtain ⟨u0, u1, u2, u3⟩ := hu
      go_simp
      try with_reducible rfl
    simp only [Act.put, List.setIfInBounds_toArray, List.set_cons_zero, List.set_cons_succ]
    refine wpAnyE_take 3 [17] (oi := { dst := some 23, op := Go.Op.move (Go.Operand.tmp 0), type := 64, pos := "run.go:152", after := #[], guard := none }) (v := ?_) rfl (by kernel_rfl) (by kernel_rfl) (by kernel_rfl) (by kernel_rfl) (fun _ _ _ h => h) (Or.inl ⟨by rfl, ?hE22⟩) hs4 ?_
    case hE22 =>
      intro u hu
      obtain ⟨u0, u1, u2, u3⟩ := hu
      go_simp
      try with_reducible rfl
    simp only [Act.put, List.setIfInBounds_toArray, List.set_cons_zero, List.set_cons_succ]
    refine wpAnyE_take 4 [17] (oi := { dst := some 24, op := Go.Op.nilCheck (Go.Operand.tmp 23), type := 0, pos := "run.go:152", after := #[{ on := 3, ground := Go.Ground.data }], guard := none }) (v := ?_) rfl (by kernel_rfl) (by kernel_rfl) (by kernel_rfl) (by kernel_rfl) (fun _ _ _ h => h) (Or.inl ⟨by rfl, ?hE23⟩) hs4 ?_
    case hE23 =>
      intro u hu
      obtain ⟨u0, u1, u2, u3⟩ := hu
      go_simp
      try with_reducible rfl
    simp only [Act.put, List.setIfInBounds_toArray, List.set_cons_zero, List.set_cons_succ]
    refine wpAnyE_take 5 [17] (oi := { dst := some 25, op := Go.Op.fieldAddr 69 (Go.Operand.tmp 24) 2, type := 0, pos := "run.go:152", after := #[{ on := 4, ground := Go.Ground.data }], guard := none }) (v := ?_) rfl (by kernel_rfl) (by kernel_rfl) (by kernel_rfl) (by kernel_rfl) (fun _ _ _ h => h) (Or.inl ⟨by rfl, ?hE24⟩) hs4 ?_
    case hE24 =>
      intro u hu
      obtain ⟨u0, u1, u2, u3⟩ := hu
      go_simp
      try with_reducible rfl
    simp only [Act.put, List.setIfInBounds_toArray, List.set_cons_zero, List.set_cons_succ]
    refine wpAnyE_take 6 [17] (oi := { dst := some 26, op := Go.Op.load 26 (Go.Operand.tmp 25), type := 26, pos := "run.go:152", after := #[{ on := 5, ground := Go.Ground.data }], guard := none }) (v := ?_) rfl (by kernel_rfl) (by kernel_rfl) (by kernel_rfl) (by kernel_rfl) (fun _ _ _ h => h) (Or.inl ⟨by rfl, ?hE25⟩) hs4 ?_
    case hE25 =>
      intro u hu
      obtain ⟨u0, u1, u2, u3⟩ := hu
      go_simp
      try with_reducible rfl
    simp only [Act.put, List.setIfInBounds_toArray, List.set_cons_zero, List.set_cons_succ]
    refine wpAnyE_take 7 [17] (oi := { dst := some 27, op := Go.Op.move (Go.Operand.tmp 0), type := 64, pos := "run.go:152", after := #[], guard := none }) (v := ?_) rfl (by kernel_rfl) (by kernel_rfl) (by kernel_rfl) (by kernel_rfl) (fun _ _ _ h => h) (Or.inl ⟨by rfl, ?hE26⟩) hs4 ?_
    case hE26 =>
      intro u hu
      obtain ⟨u0, u1, u2, u3⟩ := hu
      go_simp
      try with_reducible rfl
    simp only [Act.put, List.setIfInBounds_toArray, List.set_cons_zero, List.set_cons_succ]
    refine wpAnyE_take 8 [17] (oi := { dst := some 28, op := Go.Op.nilCheck (Go.Operand.tmp 27), type := 0, pos := "run.go:152", after := #[{ on := 7, ground := Go.Ground.data }], guard := none }) (v := ?_) rfl (by kernel_rfl) (by kernel_rfl) (by kernel_rfl) (by kernel_rfl) (fun _ _ _ h => h) (Or.inl ⟨by rfl, ?hE27⟩) hs4 ?_
    case hE27 =>
      intro u hu
      obtain ⟨u0, u1, u2, u3⟩ := hu
      go_simp
      try with_reducible rfl
    simp only [Act.put, List.setIfInBounds_toArray, List.set_cons_zero, List.set_cons_succ]
    refine wpAnyE_take 9 [17] (oi := { dst := some 29, op := Go.Op.fieldAddr 69 (Go.Operand.tmp 28) 5, type := 0, pos := "run.go:152", after := #[{ on := 8, ground := Go.Ground.data }], guard := none }) (v := ?_) rfl (by kernel_rfl) (by kernel_rfl) (by kernel_rfl) (by kernel_rfl) (fun _ _ _ h => h) (Or.inl ⟨by rfl, ?hE28⟩) hs4 ?_
    case hE28 =>
      intro u hu
      obtain ⟨u0, u1, u2, u3⟩ := hu
      go_simp
      try with_reducible rfl
    simp only [Act.put, List.setIfInBounds_toArray, List.set_cons_zero, List.set_cons_succ]
    refine wpAnyE_take 10 [17] (oi := { dst := some 30, op := Go.Op.fieldAddr 35 (Go.Operand.tmp 29) 4, type := 0, pos := "run.go:152", after := #[{ on := 9, ground := Go.Ground.data }], guard := none }) (v := ?_) rfl (by kernel_rfl) (by kernel_rfl) (by kernel_rfl) (by kernel_rfl) (fun _ _ _ h => h) (Or.inl ⟨by rfl, ?hE29⟩) hs4 ?_
    case hE29 =>
      intro u hu
      obtain ⟨u0, u1, u2, u3⟩ := hu
      go_simp
      try with_reducible rfl
    simp only [Act.put, List.setIfInBounds_toArray, List.set_cons_zero, List.set_cons_succ]
    refine wpAnyE_take 11 [17] (oi := { dst := some 31, op := Go.Op.load 3 (Go.Operand.tmp 30), type := 3, pos := "run.go:152", after := #[{ on := 10, ground := Go.Ground.data }], guard := none }) (v := ?_) rfl (by kernel_rfl) (by kernel_rfl) (by kernel_rfl) (by kernel_rfl) (fun _ _ _ h => h) (Or.inl ⟨by rfl, ?hE30⟩) hs4 ?_
    case hE30 =>
      intro u hu
      obtain ⟨u0, u1, u2, u3⟩ := hu
      go_simp
      try with_reducible rfl
    simp only [Act.put, List.setIfInBounds_toArray, List.set_cons_zero, List.set_cons_succ]
    refine wpAnyE_take 12 [17] (oi := { dst := some 32, op := Go.Op.indexAddr 26 (Go.Operand.tmp 26) (Go.Operand.tmp 31), type := 0, pos := "run.go:152", after := #[{ on := 6, ground := Go.Ground.data }, { on := 11, ground := Go.Ground.data }], guard := none }) (v := ?_) rfl (by kernel_rfl) (by kernel_rfl) (by kernel_rfl) (by kernel_rfl) (fun _ _ _ h => h) (Or.inl ⟨by rfl, ?hE31⟩) hs4 ?_
    case hE31 =>
      intro u hu
      obtain ⟨u0, u1, u2, u3⟩ := hu
      go_simp
      try with_reducible rfl
    simp only [Act.put, List.setIfInBounds_toArray, List.set_cons_zero, List.set_cons_succ]
    refine wpAnyE_take 13 [17] (oi := { dst := some 33, op := Go.Op.load 2 (Go.Operand.tmp 32), type := 2, pos := "run.go:152", after := #[{ on := 12, ground := Go.Ground.data }], guard := none }) (v := ?_) rfl (by kernel_rfl) (by kernel_rfl) (by kernel_rfl) (by kernel_rfl) (fun _ _ _ h => h) (Or.inl ⟨by rfl, ?hE32⟩) hs4 ?_
    case hE32 =>
      intro u hu
      obtain ⟨u0, u1, u2, u3⟩ := hu
      go_simp
      try with_reducible rfl
    simp only [Act.put, List.setIfInBounds_toArray, List.set_cons_zero, List.set_cons_succ]
    refine wpAnyE_take 14 [15, 16, 17] (oi := { dst := some 34, op := Go.Op.nilCheck (Go.Operand.tmp 20), type := 0, pos := "run.go:152", after := #[{ on := 0, ground := Go.Ground.data }], guard := none }) (v := ?_) rfl (by kernel_rfl) (by kernel_rfl) (by kernel_rfl) (by kernel_rfl) (fun _ _ _ h => h) (Or.inl ⟨by rfl, ?hE33⟩) hs4 ?_
    case hE33 =>
      intro u hu
      obtain ⟨u0, u1, u2, u3⟩ := hu
      go_simp
      try with_reducible rfl
    simp only [Act.put, List.setIfInBounds_toArray, List.set_cons_zero, List.set_cons_succ]
    refine wpAnyE_take 15 [16, 17] (oi := { dst := some 35, op := Go.Op.fieldAddr 69 (Go.Operand.tmp 34) 3, type := 0, pos := "run.go:152", after := #[{ on := 14, ground := Go.Ground.data }], guard := none }) (v := ?_) rfl (by kernel_rfl) (by kernel_rfl) (by kernel_rfl) (by kernel_rfl) (fun _ _ _ h => h) (Or.inl ⟨by rfl, ?hE34⟩) hs4 ?_
    case hE34 =>
      intro u hu
      obtain ⟨u0, u1, u2, u3⟩ := hu
      go_simp
      try with_reducible rfl
    simp only [Act.put, List.setIfInBounds_toArray, List.set_cons_zero, List.set_cons_succ]
    refine wpAnyE_take 16 [17] (oi := { dst := some 36, op := Go.Op.indexAddr 67 (Go.Operand.tmp 35) (Go.Operand.tmp 22), type := 0, pos := "run.go:152", after := #[{ on := 15, ground := Go.Ground.data }, { on := 2, ground := Go.Ground.data }, { on := 0, ground := Go.Ground.phase }, { on := 1, ground := Go.Ground.phase }, { on := 2, ground := Go.Ground.phase }, { on := 3, ground := Go.Ground.phase }, { on := 4, ground := Go.Ground.phase }, { on := 5, ground := Go.Ground.phase }, { on := 6, ground := Go.Ground.phase }, { on := 7, ground := Go.Ground.phase }, { on := 8, ground := Go.Ground.phase }, { on := 9, ground := Go.Ground.phase }, { on := 10, ground := Go.Ground.phase }, { on := 11, ground := Go.Ground.phase }, { on := 12, ground := Go.Ground.phase }, { on := 13, ground := Go.Ground.phase }], guard := none }) (v := ?_) rfl (by kernel_rfl) (by kernel_rfl) (by kernel_rfl) (by kernel_rfl) (fun _ _ _ h => h) (Or.inl ⟨by rfl, ?hE35⟩) hs4 ?_
    case hE35 =>
      intro u hu
      obtain ⟨u0, u1, u2, u3⟩ := hu
      go_simp
      try with_reducible rfl
    simp only [Act.put, List.setIfInBounds_toArray, List.set_cons_zero, List.set_cons_succ]
    refine wpAnyE_one (i := 17) (o := { dst := none, op := Go.Op.store 2 (Go.Operand.tmp 36) (Go.Operand.tmp 33), type := 0, pos := "run.go:152", after := #[{ on := 16, ground := Go.Ground.data }, { on := 13, ground := Go.Ground.data }, { on := 0, ground := Go.Ground.phase }, { on := 1, ground := Go.Ground.phase }, { on := 2, ground := Go.Ground.phase }, { on := 3, ground := Go.Ground.phase }, { on := 4, ground := Go.Ground.phase }, { on := 5, ground := Go.Ground.phase }, { on := 6, ground := Go.Ground.phase }, { on := 7, ground := Go.Ground.phase }, { on := 8, ground := Go.Ground.phase }, { on := 9, ground := Go.Ground.phase }, { on := 10, ground := Go.Ground.phase }, { on := 11, ground := Go.Ground.phase }, { on := 12, ground := Go.Ground.phase }, { on := 13, ground := Go.Ground.phase }], guard := none }) (by kernel_rfl) rfl (fun K hK => ?_)
    go_simp
    refine hK _ _ (fun h => absurd rfl h) ?_
    clear hK K
    try simp only [Act.put, List.setIfInBounds_toArray, List.set_cons_zero, List.set_cons_succ]
    refine wpAnyE_done (by kernel_rfl) ?_
    go_wp2
    go_ret
    exact ⟨rfl, H.out⟩
end Go.Proofs.YtlngeonfabahnaaDoor
