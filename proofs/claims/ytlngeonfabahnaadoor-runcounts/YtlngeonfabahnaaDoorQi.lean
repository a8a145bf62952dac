/-
  The contract of an instruction, Op by Op (9, 15, 16). Own work.
-/
import Derived.Test.YtlngeonfabahnaaDoorQc
import Derived.Test.YtlngeonfabahnaaDoorQe
import Derived.Test.YtlngeonfabahnaaDoorQf
import Derived.Test.YtlngeonfabahnaaDoorQv
import Derived.Test.YtlngeonfabahnaaDoorOe
namespace Go.Proofs.YtlngeonfabahnaaDoor
open Go Go.RowKit
set_option linter.unusedSimpArgs false
set_option linter.unusedVariables false

set_option maxRecDepth 100000 in
set_option maxHeartbeats 1600000 in
theorem do_9 {W : World} {b mb : Nat} {cv sv : Value} {w : World} {s : St} {kn : Int → Option Oc} {sg : List Int} (E : Ev W b mb sv kn sg) (h : Rn W b cv (.map (some mb)) sv w s) (hp : Plc s.place) (hsg : s.sig ≤ sg.length) (a k c n : Int) (t : ByteArray) (ha0 : 0 ≤ a) (ha : a < 16) :
    Calls Tryd.prog 31 #[.pointer (some ⟨b, 0, none⟩), .agg #[.int .u8 9, .int .i64 a, .int .i64 k, .int .i64 c, .int .i64 n, .string t]] w fun e w' => e = .returned (.bool (doI kn sg ⟨9, a, k, c, n, t⟩ s).2) ∧ Rn W b cv (.map (some mb)) sv w' (doI kn sg ⟨9, a, k, c, n, t⟩ s).1 := by
  have hbl : b < w.heap.size := h.lt
  obtain ⟨hp0, hp1⟩ := hp
  obtain ⟨pl, HPL⟩ := named s.place
  rw [← HPL.out] at hp0 hp1
  have hwr : IntKind.i64.wrap (pl + 1) = pl + 1 := wrap_in _ (by omega) (by omega)
  have d19 : w.cell? ⟨b, 19, none⟩ = some (.int .i64 pl) := by rw [HPL.out]; exact h.cell.2.2.2.1
  have f19 := h.free 19
  obtain ⟨wg, HWG⟩ := named (w.setCell ⟨b, 19, none⟩ (.int .i64 (pl + 1)))
  obtain ⟨s1, HS1⟩ := named (s.go (s.place + 1))
  have hg : Rn W b cv (.map (some mb)) sv wg s1 := by rw [HWG.out, HS1.out, ← HPL.out]; exact h.go _
  have hzg : wg.heap.size = w.heap.size := by rw [HWG.out]; simp [World.setCell]
  obtain ⟨pb, HPB⟩ := named w.heap.size
  have hpb : b < pb := by rw [HPB.out]; exact hbl
  obtain ⟨W1, HW⟩ := named (wg.alloc (.cells #[.int .u8 9, .int .i64 a, .int .i64 k, .int .i64 c, .int .i64 n, .string t] 52))
  have h1 : Rn W b cv (.map (some mb)) sv W1 s1 := by rw [HW.out]; exact hg.alloc _
  have xb : RC 6 W1 pb (fun k' => ([.int .u8 9, .int .i64 a, .int .i64 k, .int .i64 c, .int .i64 n, .string t] : List Value).getD k' undef) := by
    rw [HW.out, HPB.out, ← hzg]
    refine RC.new wg _ 52 _ (fun k hk => ?_)
    rcases (show k = 0 ∨ k = 1 ∨ k = 2 ∨ k = 3 ∨ k = 4 ∨ k = 5 by omega) with rfl | rfl | rfl | rfl | rfl | rfl <;> rfl
  have y0 : W1.cell? ⟨pb, 0, none⟩ = some (.int .u8 9) := xb.2.1 0 (by omega)
  have y1 : W1.cell? ⟨pb, 1, none⟩ = some (.int .i64 a) := xb.2.1 1 (by omega)
  have y2 : W1.cell? ⟨pb, 2, none⟩ = some (.int .i64 k) := xb.2.1 2 (by omega)
  have y3 : W1.cell? ⟨pb, 3, none⟩ = some (.int .i64 c) := xb.2.1 3 (by omega)
  have y4 : W1.cell? ⟨pb, 4, none⟩ = some (.int .i64 n) := xb.2.1 4 (by omega)
  have y5 : W1.cell? ⟨pb, 5, none⟩ = some (.string t) := xb.2.1 5 (by omega)
  have hsg1 : s1.sig ≤ sg.length := by rw [HS1.out]; exact hsg
  have e : doI kn sg ⟨9, a, k, c, n, t⟩ s = (if getR s1 a = 0 then s1.go n else s1, true) := by rw [HS1.out]; rfl
  rw [e]
  obtain ⟨j, HJ⟩ := Int.eq_ofNat_of_zero_le ha0
  subst HJ
  have h2 := h1.drew
  have ra := h2.reg j (by omega) (by omega)
  simp only [Int.toNat_natCast] at ra
  obtain ⟨x, HX⟩ := named (getR s1 j)
  rw [← HX.out] at ra ⊢
  have hs0 : W1.drew.cell? ⟨pb, 1, none⟩ = some (.int .i64 j) ∧ W1.drew.cell? ⟨b, 3 + j, none⟩ = some (.int .i64 x) := ⟨y1, ra⟩
  have z4 : W1.drew.cell? ⟨pb, 4, none⟩ = some (.int .i64 n) := y4
  have z19 := h2.cell.2.2.2.1
  have z19f := h2.free 19
  have H0 := hide h2
  have H1 := hide (h2.go n)
  clear h2
  clear h hg h1 xb hzg
  go_enter Tryd.func31, Tryd.ntmps31
  go_wp2_with fail
  rw [← HWG.out, ← HW.out, ← HPB.out]
  by_cases hx : x = 0
  · have hx' : (x == 0) = true := by rw [hx]; rfl
    refine wp_region_E 7 (fun w' => w'.cell? ⟨pb, 1, none⟩ = some (.int .i64 j) ∧ w'.cell? ⟨b, 3 + j, none⟩ = some (.int .i64 x)) (by kernel_rfl) ?_
    refine wpAnyE_take 0 [3, 4, 5, 6, 7] (oi := { dst := some 73, op := Go.Op.move (Go.Operand.tmp 0), type := 64, pos := "run.go:83", after := #[], guard := none }) (v := ?_) rfl (by kernel_rfl) (by kernel_rfl) (by kernel_rfl) (by kernel_rfl) (fun _ _ _ h => h) (Or.inl ⟨by rfl, ?hE22⟩) hs0 ?_
    case hE22 =>
      intro u hu
      obtain ⟨u0, u1⟩ := hu
      go_simp
      try with_reducible rfl
    simp only [Act.put, List.setIfInBounds_toArray, List.set_cons_zero, List.set_cons_succ]
    refine wpAnyE_take 1 [2, 5, 6, 7] (oi := { dst := some 74, op := Go.Op.fieldAddr 52 (Go.Operand.tmp 3) 1, type := 0, pos := "run.go:83", after := #[], guard := none }) (v := ?_) rfl (by kernel_rfl) (by kernel_rfl) (by kernel_rfl) (by kernel_rfl) (fun _ _ _ h => h) (Or.inl ⟨by rfl, ?hE23⟩) hs0 ?_
    case hE23 =>
      intro u hu
      obtain ⟨u0, u1⟩ := hu
      go_simp
      try with_reducible rfl
    simp only [Act.put, List.setIfInBounds_toArray, List.set_cons_zero, List.set_cons_succ]
    refine wpAnyE_take 2 [5, 6, 7] (oi := { dst := some 75, op := Go.Op.load 3 (Go.Operand.tmp 74), type := 3, pos := "run.go:83", after := #[{ on := 1, ground := Go.Ground.data }], guard := none }) (v := ?_) rfl (by kernel_rfl) (by kernel_rfl) (by kernel_rfl) (by kernel_rfl) (fun _ _ _ h => h) (Or.inl ⟨by rfl, ?hE24⟩) hs0 ?_
    case hE24 =>
      intro u hu
      obtain ⟨u0, u1⟩ := hu
      go_simp
      try with_reducible rfl
    simp only [Act.put, List.setIfInBounds_toArray, List.set_cons_zero, List.set_cons_succ]
    refine wpAnyE_take 3 [4, 5, 6, 7] (oi := { dst := some 76, op := Go.Op.nilCheck (Go.Operand.tmp 73), type := 0, pos := "run.go:83", after := #[{ on := 0, ground := Go.Ground.data }], guard := none }) (v := ?_) rfl (by kernel_rfl) (by kernel_rfl) (by kernel_rfl) (by kernel_rfl) (fun _ _ _ h => h) (Or.inl ⟨by rfl, ?hE25⟩) hs0 ?_
    case hE25 =>
      intro u hu
      obtain ⟨u0, u1⟩ := hu
      go_simp
      try with_reducible rfl
    simp only [Act.put, List.setIfInBounds_toArray, List.set_cons_zero, List.set_cons_succ]
    refine wpAnyE_take 4 [5, 6, 7] (oi := { dst := some 77, op := Go.Op.fieldAddr 69 (Go.Operand.tmp 76) 3, type := 0, pos := "run.go:83", after := #[{ on := 3, ground := Go.Ground.data }], guard := none }) (v := ?_) rfl (by kernel_rfl) (by kernel_rfl) (by kernel_rfl) (by kernel_rfl) (fun _ _ _ h => h) (Or.inl ⟨by rfl, ?hE26⟩) hs0 ?_
    case hE26 =>
      intro u hu
      obtain ⟨u0, u1⟩ := hu
      go_simp
      try with_reducible rfl
    simp only [Act.put, List.setIfInBounds_toArray, List.set_cons_zero, List.set_cons_succ]
    refine wpAnyE_take 5 [6, 7] (oi := { dst := some 78, op := Go.Op.indexAddr 67 (Go.Operand.tmp 77) (Go.Operand.tmp 75), type := 0, pos := "run.go:83", after := #[{ on := 4, ground := Go.Ground.data }, { on := 2, ground := Go.Ground.data }], guard := none }) (v := ?_) rfl (by kernel_rfl) (by kernel_rfl) (by kernel_rfl) (by kernel_rfl) (fun _ _ _ h => h) (Or.inl ⟨by rfl, ?hE27⟩) hs0 ?_
    case hE27 =>
      intro u hu
      obtain ⟨u0, u1⟩ := hu
      go_simp
      try with_reducible rfl
    simp only [Act.put, List.setIfInBounds_toArray, List.set_cons_zero, List.set_cons_succ]
    refine wpAnyE_take 6 [7] (oi := { dst := some 79, op := Go.Op.load 2 (Go.Operand.tmp 78), type := 2, pos := "run.go:83", after := #[{ on := 5, ground := Go.Ground.data }], guard := none }) (v := ?_) rfl (by kernel_rfl) (by kernel_rfl) (by kernel_rfl) (by kernel_rfl) (fun _ _ _ h => h) (Or.inl ⟨by rfl, ?hE28⟩) hs0 ?_
    case hE28 =>
      intro u hu
      obtain ⟨u0, u1⟩ := hu
      go_simp
      try with_reducible rfl
    simp only [Act.put, List.setIfInBounds_toArray, List.set_cons_zero, List.set_cons_succ]
    refine wpAnyE_one (i := 7) (o := { dst := some 80, op := Go.Op.binOp Go.BinOp.eql 2 (Go.Operand.tmp 79) (Go.Operand.const (Go.Value.int Go.IntKind.i64 0)) 2, type := 4, pos := "run.go:83", after := #[{ on := 6, ground := Go.Ground.data }], guard := none }) (by kernel_rfl) rfl (fun K hK => ?_)
    go_simp
    refine hK _ _ (fun h => absurd rfl h) ?_
    clear hK K
    try simp only [Act.put, List.setIfInBounds_toArray, List.set_cons_zero, List.set_cons_succ]
    refine wpAnyE_done (by kernel_rfl) ?_
    go_wp2
    go_ret
    exact ⟨rfl, H1.out⟩
  · have hx' : (x == 0) = false := beq_eq_false_iff_ne.2 hx
    refine wp_region_E 7 (fun w' => w'.cell? ⟨pb, 1, none⟩ = some (.int .i64 j) ∧ w'.cell? ⟨b, 3 + j, none⟩ = some (.int .i64 x)) (by kernel_rfl) ?_
    refine wpAnyE_take 0 [3, 4, 5, 6, 7] (oi := { dst := some 73, op := Go.Op.move (Go.Operand.tmp 0), type := 64, pos := "run.go:83", after := #[], guard := none }) (v := ?_) rfl (by kernel_rfl) (by kernel_rfl) (by kernel_rfl) (by kernel_rfl) (fun _ _ _ h => h) (Or.inl ⟨by rfl, ?hF22⟩) hs0 ?_
    case hF22 =>
      intro u hu
      obtain ⟨u0, u1⟩ := hu
      go_simp
      try with_reducible rfl
    simp only [Act.put, List.setIfInBounds_toArray, List.set_cons_zero, List.set_cons_succ]
    refine wpAnyE_take 1 [2, 5, 6, 7] (oi := { dst := some 74, op := Go.Op.fieldAddr 52 (Go.Operand.tmp 3) 1, type := 0, pos := "run.go:83", after := #[], guard := none }) (v := ?_) rfl (by kernel_rfl) (by kernel_rfl) (by kernel_rfl) (by kernel_rfl) (fun _ _ _ h => h) (Or.inl ⟨by rfl, ?hF23⟩) hs0 ?_
    case hF23 =>
      intro u hu
      obtain ⟨u0, u1⟩ := hu
      go_simp
      try with_reducible rfl
    simp only [Act.put, List.setIfInBounds_toArray, List.set_cons_zero, List.set_cons_succ]
    refine wpAnyE_take 2 [5, 6, 7] (oi := { dst := some 75, op := Go.Op.load 3 (Go.Operand.tmp 74), type := 3, pos := "run.go:83", after := #[{ on := 1, ground := Go.Ground.data }], guard := none }) (v := ?_) rfl (by kernel_rfl) (by kernel_rfl) (by kernel_rfl) (by kernel_rfl) (fun _ _ _ h => h) (Or.inl ⟨by rfl, ?hF24⟩) hs0 ?_
    case hF24 =>
      intro u hu
      obtain ⟨u0, u1⟩ := hu
      go_simp
      try with_reducible rfl
    simp only [Act.put, List.setIfInBounds_toArray, List.set_cons_zero, List.set_cons_succ]
    refine wpAnyE_take 3 [4, 5, 6, 7] (oi := { dst := some 76, op := Go.Op.nilCheck (Go.Operand.tmp 73), type := 0, pos := "run.go:83", after := #[{ on := 0, ground := Go.Ground.data }], guard := none }) (v := ?_) rfl (by kernel_rfl) (by kernel_rfl) (by kernel_rfl) (by kernel_rfl) (fun _ _ _ h => h) (Or.inl ⟨by rfl, ?hF25⟩) hs0 ?_
    case hF25 =>
      intro u hu
      obtain ⟨u0, u1⟩ := hu
      go_simp
      try with_reducible rfl
    simp only [Act.put, List.setIfInBounds_toArray, List.set_cons_zero, List.set_cons_succ]
    refine wpAnyE_take 4 [5, 6, 7] (oi := { dst := some 77, op := Go.Op.fieldAddr 69 (Go.Operand.tmp 76) 3, type := 0, pos := "run.go:83", after := #[{ on := 3, ground := Go.Ground.data }], guard := none }) (v := ?_) rfl (by kernel_rfl) (by kernel_rfl) (by kernel_rfl) (by kernel_rfl) (fun _ _ _ h => h) (Or.inl ⟨by rfl, ?hF26⟩) hs0 ?_
    case hF26 =>
      intro u hu
      obtain ⟨u0, u1⟩ := hu
      go_simp
      try with_reducible rfl
    simp only [Act.put, List.setIfInBounds_toArray, List.set_cons_zero, List.set_cons_succ]
    refine wpAnyE_take 5 [6, 7] (oi := { dst := some 78, op := Go.Op.indexAddr 67 (Go.Operand.tmp 77) (Go.Operand.tmp 75), type := 0, pos := "run.go:83", after := #[{ on := 4, ground := Go.Ground.data }, { on := 2, ground := Go.Ground.data }], guard := none }) (v := ?_) rfl (by kernel_rfl) (by kernel_rfl) (by kernel_rfl) (by kernel_rfl) (fun _ _ _ h => h) (Or.inl ⟨by rfl, ?hF27⟩) hs0 ?_
    case hF27 =>
      intro u hu
      obtain ⟨u0, u1⟩ := hu
      go_simp
      try with_reducible rfl
    simp only [Act.put, List.setIfInBounds_toArray, List.set_cons_zero, List.set_cons_succ]
    refine wpAnyE_take 6 [7] (oi := { dst := some 79, op := Go.Op.load 2 (Go.Operand.tmp 78), type := 2, pos := "run.go:83", after := #[{ on := 5, ground := Go.Ground.data }], guard := none }) (v := ?_) rfl (by kernel_rfl) (by kernel_rfl) (by kernel_rfl) (by kernel_rfl) (fun _ _ _ h => h) (Or.inl ⟨by rfl, ?hF28⟩) hs0 ?_
    case hF28 =>
      intro u hu
      obtain ⟨u0, u1⟩ := hu
      go_simp
      try with_reducible rfl
    simp only [Act.put, List.setIfInBounds_toArray, List.set_cons_zero, List.set_cons_succ]
    refine wpAnyE_one (i := 7) (o := { dst := some 80, op := Go.Op.binOp Go.BinOp.eql 2 (Go.Operand.tmp 79) (Go.Operand.const (Go.Value.int Go.IntKind.i64 0)) 2, type := 4, pos := "run.go:83", after := #[{ on := 6, ground := Go.Ground.data }], guard := none }) (by kernel_rfl) rfl (fun K hK => ?_)
    go_simp
    refine hK _ _ (fun h => absurd rfl h) ?_
    clear hK K
    try simp only [Act.put, List.setIfInBounds_toArray, List.set_cons_zero, List.set_cons_succ]
    refine wpAnyE_done (by kernel_rfl) ?_
    go_wp2
    go_ret
    exact ⟨rfl, H0.out⟩
set_option maxRecDepth 100000 in
set_option maxHeartbeats 1600000 in
theorem do_15 {W : World} {b mb : Nat} {cv sv : Value} {w : World} {s : St} {kn : Int → Option Oc} {sg : List Int} (E : Ev W b mb sv kn sg) (h : Rn W b cv (.map (some mb)) sv w s) (hp : Plc s.place) (hsg : s.sig ≤ sg.length) (a k c n : Int) (t : ByteArray) (ha0 : 0 ≤ a) (ha : a < 16) :
    Calls Tryd.prog 31 #[.pointer (some ⟨b, 0, none⟩), .agg #[.int .u8 15, .int .i64 a, .int .i64 k, .int .i64 c, .int .i64 n, .string t]] w fun e w' => e = .returned (.bool (doI kn sg ⟨15, a, k, c, n, t⟩ s).2) ∧ Rn W b cv (.map (some mb)) sv w' (doI kn sg ⟨15, a, k, c, n, t⟩ s).1 := by
  have hbl : b < w.heap.size := h.lt
  obtain ⟨hp0, hp1⟩ := hp
  obtain ⟨pl, HPL⟩ := named s.place
  rw [← HPL.out] at hp0 hp1
  have hwr : IntKind.i64.wrap (pl + 1) = pl + 1 := wrap_in _ (by omega) (by omega)
  have d19 : w.cell? ⟨b, 19, none⟩ = some (.int .i64 pl) := by rw [HPL.out]; exact h.cell.2.2.2.1
  have f19 := h.free 19
  obtain ⟨wg, HWG⟩ := named (w.setCell ⟨b, 19, none⟩ (.int .i64 (pl + 1)))
  obtain ⟨s1, HS1⟩ := named (s.go (s.place + 1))
  have hg : Rn W b cv (.map (some mb)) sv wg s1 := by rw [HWG.out, HS1.out, ← HPL.out]; exact h.go _
  have hzg : wg.heap.size = w.heap.size := by rw [HWG.out]; simp [World.setCell]
  obtain ⟨pb, HPB⟩ := named w.heap.size
  have hpb : b < pb := by rw [HPB.out]; exact hbl
  obtain ⟨W1, HW⟩ := named (wg.alloc (.cells #[.int .u8 15, .int .i64 a, .int .i64 k, .int .i64 c, .int .i64 n, .string t] 52))
  have h1 : Rn W b cv (.map (some mb)) sv W1 s1 := by rw [HW.out]; exact hg.alloc _
  have xb : RC 6 W1 pb (fun k' => ([.int .u8 15, .int .i64 a, .int .i64 k, .int .i64 c, .int .i64 n, .string t] : List Value).getD k' undef) := by
    rw [HW.out, HPB.out, ← hzg]
    refine RC.new wg _ 52 _ (fun k hk => ?_)
    rcases (show k = 0 ∨ k = 1 ∨ k = 2 ∨ k = 3 ∨ k = 4 ∨ k = 5 by omega) with rfl | rfl | rfl | rfl | rfl | rfl <;> rfl
  have y0 : W1.cell? ⟨pb, 0, none⟩ = some (.int .u8 15) := xb.2.1 0 (by omega)
  have y1 : W1.cell? ⟨pb, 1, none⟩ = some (.int .i64 a) := xb.2.1 1 (by omega)
  have y2 : W1.cell? ⟨pb, 2, none⟩ = some (.int .i64 k) := xb.2.1 2 (by omega)
  have y3 : W1.cell? ⟨pb, 3, none⟩ = some (.int .i64 c) := xb.2.1 3 (by omega)
  have y4 : W1.cell? ⟨pb, 4, none⟩ = some (.int .i64 n) := xb.2.1 4 (by omega)
  have y5 : W1.cell? ⟨pb, 5, none⟩ = some (.string t) := xb.2.1 5 (by omega)
  have hsg1 : s1.sig ≤ sg.length := by rw [HS1.out]; exact hsg
  have e : doI kn sg ⟨15, a, k, c, n, t⟩ s = (endI 0 (getR s1 a) s1, true) := by rw [HS1.out]; rfl
  rw [e]
  obtain ⟨j, HJ⟩ := Int.eq_ofNat_of_zero_le ha0
  subst HJ
  have h2 := h1.drew
  have ra := h2.reg j (by omega) (by omega)
  simp only [Int.toNat_natCast] at ra
  obtain ⟨x, HX⟩ := named (getR s1 j)
  rw [← HX.out] at ra ⊢
  have hcl := end_any h2 0 x
  have hs0 : W1.drew.cell? ⟨pb, 1, none⟩ = some (.int .i64 j) ∧ W1.drew.cell? ⟨b, 3 + j, none⟩ = some (.int .i64 x) := ⟨y1, ra⟩
  clear h2
  clear h hg h1 xb hzg
  go_enter Tryd.func31, Tryd.ntmps31
  go_wp2_with fail
  rw [← HWG.out, ← HW.out, ← HPB.out]
  refine wp_region_E 8 (fun w' => w'.cell? ⟨pb, 1, none⟩ = some (.int .i64 j) ∧ w'.cell? ⟨b, 3 + j, none⟩ = some (.int .i64 x)) (by kernel_rfl) ?_
  refine wpAnyE_take 0 [8] (oi := { dst := some 135, op := Go.Op.move (Go.Operand.tmp 0), type := 64, pos := "run.go:97", after := #[], guard := none }) (v := ?_) rfl (by kernel_rfl) (by kernel_rfl) (by kernel_rfl) (by kernel_rfl) (fun _ _ _ h => h) (Or.inl ⟨by rfl, ?hE29⟩) hs0 ?_
  case hE29 =>
    intro u hu
    obtain ⟨u0, u1⟩ := hu
    go_simp
    try with_reducible rfl
  simp only [Act.put, List.setIfInBounds_toArray, List.set_cons_zero, List.set_cons_succ]
  refine wpAnyE_take 1 [4, 5, 6, 7, 8] (oi := { dst := some 136, op := Go.Op.move (Go.Operand.tmp 0), type := 64, pos := "run.go:97", after := #[], guard := none }) (v := ?_) rfl (by kernel_rfl) (by kernel_rfl) (by kernel_rfl) (by kernel_rfl) (fun _ _ _ h => h) (Or.inl ⟨by rfl, ?hE30⟩) hs0 ?_
  case hE30 =>
    intro u hu
    obtain ⟨u0, u1⟩ := hu
    go_simp
    try with_reducible rfl
  simp only [Act.put, List.setIfInBounds_toArray, List.set_cons_zero, List.set_cons_succ]
  refine wpAnyE_take 2 [3, 6, 7, 8] (oi := { dst := some 137, op := Go.Op.fieldAddr 52 (Go.Operand.tmp 3) 1, type := 0, pos := "run.go:97", after := #[], guard := none }) (v := ?_) rfl (by kernel_rfl) (by kernel_rfl) (by kernel_rfl) (by kernel_rfl) (fun _ _ _ h => h) (Or.inl ⟨by rfl, ?hE31⟩) hs0 ?_
  case hE31 =>
    intro u hu
    obtain ⟨u0, u1⟩ := hu
    go_simp
    try with_reducible rfl
  simp only [Act.put, List.setIfInBounds_toArray, List.set_cons_zero, List.set_cons_succ]
  refine wpAnyE_take 3 [6, 7, 8] (oi := { dst := some 138, op := Go.Op.load 3 (Go.Operand.tmp 137), type := 3, pos := "run.go:97", after := #[{ on := 2, ground := Go.Ground.data }], guard := none }) (v := ?_) rfl (by kernel_rfl) (by kernel_rfl) (by kernel_rfl) (by kernel_rfl) (fun _ _ _ h => h) (Or.inl ⟨by rfl, ?hE32⟩) hs0 ?_
  case hE32 =>
    intro u hu
    obtain ⟨u0, u1⟩ := hu
    go_simp
    try with_reducible rfl
  simp only [Act.put, List.setIfInBounds_toArray, List.set_cons_zero, List.set_cons_succ]
  refine wpAnyE_take 4 [5, 6, 7, 8] (oi := { dst := some 139, op := Go.Op.nilCheck (Go.Operand.tmp 136), type := 0, pos := "run.go:97", after := #[{ on := 1, ground := Go.Ground.data }], guard := none }) (v := ?_) rfl (by kernel_rfl) (by kernel_rfl) (by kernel_rfl) (by kernel_rfl) (fun _ _ _ h => h) (Or.inl ⟨by rfl, ?hE33⟩) hs0 ?_
  case hE33 =>
    intro u hu
    obtain ⟨u0, u1⟩ := hu
    go_simp
    try with_reducible rfl
  simp only [Act.put, List.setIfInBounds_toArray, List.set_cons_zero, List.set_cons_succ]
  refine wpAnyE_take 5 [6, 7, 8] (oi := { dst := some 140, op := Go.Op.fieldAddr 69 (Go.Operand.tmp 139) 3, type := 0, pos := "run.go:97", after := #[{ on := 4, ground := Go.Ground.data }], guard := none }) (v := ?_) rfl (by kernel_rfl) (by kernel_rfl) (by kernel_rfl) (by kernel_rfl) (fun _ _ _ h => h) (Or.inl ⟨by rfl, ?hE34⟩) hs0 ?_
  case hE34 =>
    intro u hu
    obtain ⟨u0, u1⟩ := hu
    go_simp
    try with_reducible rfl
  simp only [Act.put, List.setIfInBounds_toArray, List.set_cons_zero, List.set_cons_succ]
  refine wpAnyE_take 6 [7, 8] (oi := { dst := some 141, op := Go.Op.indexAddr 67 (Go.Operand.tmp 140) (Go.Operand.tmp 138), type := 0, pos := "run.go:97", after := #[{ on := 5, ground := Go.Ground.data }, { on := 3, ground := Go.Ground.data }], guard := none }) (v := ?_) rfl (by kernel_rfl) (by kernel_rfl) (by kernel_rfl) (by kernel_rfl) (fun _ _ _ h => h) (Or.inl ⟨by rfl, ?hE35⟩) hs0 ?_
  case hE35 =>
    intro u hu
    obtain ⟨u0, u1⟩ := hu
    go_simp
    try with_reducible rfl
  simp only [Act.put, List.setIfInBounds_toArray, List.set_cons_zero, List.set_cons_succ]
  refine wpAnyE_take 7 [8] (oi := { dst := some 142, op := Go.Op.load 2 (Go.Operand.tmp 141), type := 2, pos := "run.go:97", after := #[{ on := 6, ground := Go.Ground.data }], guard := none }) (v := ?_) rfl (by kernel_rfl) (by kernel_rfl) (by kernel_rfl) (by kernel_rfl) (fun _ _ _ h => h) (Or.inl ⟨by rfl, ?hE36⟩) hs0 ?_
  case hE36 =>
    intro u hu
    obtain ⟨u0, u1⟩ := hu
    go_simp
    try with_reducible rfl
  simp only [Act.put, List.setIfInBounds_toArray, List.set_cons_zero, List.set_cons_succ]
  refine wpAnyE_one (i := 8) (o := { dst := some 143, op := Go.Op.call { callee := Go.Callee.value (Go.Operand.func 48), args := #[Go.Operand.tmp 135, Go.Operand.const (Go.Value.int Go.IntKind.i64 0), Go.Operand.tmp 142], argTypes := #[64, 3, 2] }, type := 0, pos := "run.go:97", after := #[{ on := 0, ground := Go.Ground.data }, { on := 7, ground := Go.Ground.data }], guard := none }) (by kernel_rfl) rfl (fun K hK => ?_)
  go_simp
  (with_reducible refine Calls.mono hcl ?_)
  rintro e w2 ⟨rfl, h2⟩
  have H := hide h2
  clear h2 hcl
  refine hK _ _ (fun h => absurd rfl h) ?_
  clear hK K
  try simp only [Act.put, List.setIfInBounds_toArray, List.set_cons_zero, List.set_cons_succ]
  refine wpAnyE_done (by kernel_rfl) ?_
  go_wp2
  go_ret
  exact ⟨rfl, H.out⟩
set_option maxRecDepth 100000 in
set_option maxHeartbeats 1600000 in
theorem do_16 {W : World} {b mb : Nat} {cv sv : Value} {w : World} {s : St} {kn : Int → Option Oc} {sg : List Int} (E : Ev W b mb sv kn sg) (h : Rn W b cv (.map (some mb)) sv w s) (hp : Plc s.place) (hsg : s.sig ≤ sg.length) (a k c n : Int) (t : ByteArray) (ha0 : 0 ≤ a) (ha : a < 16) :
    Calls Tryd.prog 31 #[.pointer (some ⟨b, 0, none⟩), .agg #[.int .u8 16, .int .i64 a, .int .i64 k, .int .i64 c, .int .i64 n, .string t]] w fun e w' => e = .returned (.bool (doI kn sg ⟨16, a, k, c, n, t⟩ s).2) ∧ Rn W b cv (.map (some mb)) sv w' (doI kn sg ⟨16, a, k, c, n, t⟩ s).1 := by
  have hbl : b < w.heap.size := h.lt
  obtain ⟨hp0, hp1⟩ := hp
  obtain ⟨pl, HPL⟩ := named s.place
  rw [← HPL.out] at hp0 hp1
  have hwr : IntKind.i64.wrap (pl + 1) = pl + 1 := wrap_in _ (by omega) (by omega)
  have d19 : w.cell? ⟨b, 19, none⟩ = some (.int .i64 pl) := by rw [HPL.out]; exact h.cell.2.2.2.1
  have f19 := h.free 19
  obtain ⟨wg, HWG⟩ := named (w.setCell ⟨b, 19, none⟩ (.int .i64 (pl + 1)))
  obtain ⟨s1, HS1⟩ := named (s.go (s.place + 1))
  have hg : Rn W b cv (.map (some mb)) sv wg s1 := by rw [HWG.out, HS1.out, ← HPL.out]; exact h.go _
  have hzg : wg.heap.size = w.heap.size := by rw [HWG.out]; simp [World.setCell]
  obtain ⟨pb, HPB⟩ := named w.heap.size
  have hpb : b < pb := by rw [HPB.out]; exact hbl
  obtain ⟨W1, HW⟩ := named (wg.alloc (.cells #[.int .u8 16, .int .i64 a, .int .i64 k, .int .i64 c, .int .i64 n, .string t] 52))
  have h1 : Rn W b cv (.map (some mb)) sv W1 s1 := by rw [HW.out]; exact hg.alloc _
  have xb : RC 6 W1 pb (fun k' => ([.int .u8 16, .int .i64 a, .int .i64 k, .int .i64 c, .int .i64 n, .string t] : List Value).getD k' undef) := by
    rw [HW.out, HPB.out, ← hzg]
    refine RC.new wg _ 52 _ (fun k hk => ?_)
    rcases (show k = 0 ∨ k = 1 ∨ k = 2 ∨ k = 3 ∨ k = 4 ∨ k = 5 by omega) with rfl | rfl | rfl | rfl | rfl | rfl <;> rfl
  have y0 : W1.cell? ⟨pb, 0, none⟩ = some (.int .u8 16) := xb.2.1 0 (by omega)
  have y1 : W1.cell? ⟨pb, 1, none⟩ = some (.int .i64 a) := xb.2.1 1 (by omega)
  have y2 : W1.cell? ⟨pb, 2, none⟩ = some (.int .i64 k) := xb.2.1 2 (by omega)
  have y3 : W1.cell? ⟨pb, 3, none⟩ = some (.int .i64 c) := xb.2.1 3 (by omega)
  have y4 : W1.cell? ⟨pb, 4, none⟩ = some (.int .i64 n) := xb.2.1 4 (by omega)
  have y5 : W1.cell? ⟨pb, 5, none⟩ = some (.string t) := xb.2.1 5 (by omega)
  have hsg1 : s1.sig ≤ sg.length := by rw [HS1.out]; exact hsg
  have e : doI kn sg ⟨16, a, k, c, n, t⟩ s = (endI 1 (getR s1 a) s1, true) := by rw [HS1.out]; rfl
  rw [e]
  obtain ⟨j, HJ⟩ := Int.eq_ofNat_of_zero_le ha0
  subst HJ
  have h2 := h1.drew
  have ra := h2.reg j (by omega) (by omega)
  simp only [Int.toNat_natCast] at ra
  obtain ⟨x, HX⟩ := named (getR s1 j)
  rw [← HX.out] at ra ⊢
  have hcl := end_any h2 1 x
  have hs0 : W1.drew.cell? ⟨pb, 1, none⟩ = some (.int .i64 j) ∧ W1.drew.cell? ⟨b, 3 + j, none⟩ = some (.int .i64 x) := ⟨y1, ra⟩
  clear h2
  clear h hg h1 xb hzg
  go_enter Tryd.func31, Tryd.ntmps31
  go_wp2_with fail
  rw [← HWG.out, ← HW.out, ← HPB.out]
  refine wp_region_E 8 (fun w' => w'.cell? ⟨pb, 1, none⟩ = some (.int .i64 j) ∧ w'.cell? ⟨b, 3 + j, none⟩ = some (.int .i64 x)) (by kernel_rfl) ?_
  refine wpAnyE_take 0 [8] (oi := { dst := some 146, op := Go.Op.move (Go.Operand.tmp 0), type := 64, pos := "run.go:99", after := #[], guard := none }) (v := ?_) rfl (by kernel_rfl) (by kernel_rfl) (by kernel_rfl) (by kernel_rfl) (fun _ _ _ h => h) (Or.inl ⟨by rfl, ?hE37⟩) hs0 ?_
  case hE37 =>
    intro u hu
    obtain ⟨u0, u1⟩ := hu
    go_simp
    try with_reducible rfl
  simp only [Act.put, List.setIfInBounds_toArray, List.set_cons_zero, List.set_cons_succ]
  refine wpAnyE_take 1 [4, 5, 6, 7, 8] (oi := { dst := some 147, op := Go.Op.move (Go.Operand.tmp 0), type := 64, pos := "run.go:99", after := #[], guard := none }) (v := ?_) rfl (by kernel_rfl) (by kernel_rfl) (by kernel_rfl) (by kernel_rfl) (fun _ _ _ h => h) (Or.inl ⟨by rfl, ?hE38⟩) hs0 ?_
  case hE38 =>
    intro u hu
    obtain ⟨u0, u1⟩ := hu
    go_simp
    try with_reducible rfl
  simp only [Act.put, List.setIfInBounds_toArray, List.set_cons_zero, List.set_cons_succ]
  refine wpAnyE_take 2 [3, 6, 7, 8] (oi := { dst := some 148, op := Go.Op.fieldAddr 52 (Go.Operand.tmp 3) 1, type := 0, pos := "run.go:99", after := #[], guard := none }) (v := ?_) rfl (by kernel_rfl) (by kernel_rfl) (by kernel_rfl) (by kernel_rfl) (fun _ _ _ h => h) (Or.inl ⟨by rfl, ?hE39⟩) hs0 ?_
  case hE39 =>
    intro u hu
    obtain ⟨u0, u1⟩ := hu
    go_simp
    try with_reducible rfl
  simp only [Act.put, List.setIfInBounds_toArray, List.set_cons_zero, List.set_cons_succ]
  refine wpAnyE_take 3 [6, 7, 8] (oi := { dst := some 149, op := Go.Op.load 3 (Go.Operand.tmp 148), type := 3, pos := "run.go:99", after := #[{ on := 2, ground := Go.Ground.data }], guard := none }) (v := ?_) rfl (by kernel_rfl) (by kernel_rfl) (by kernel_rfl) (by kernel_rfl) (fun _ _ _ h => h) (Or.inl ⟨by rfl, ?hE40⟩) hs0 ?_
  case hE40 =>
    intro u hu
    obtain ⟨u0, u1⟩ := hu
    go_simp
    try with_reducible rfl
  simp only [Act.put, List.setIfInBounds_toArray, List.set_cons_zero, List.set_cons_succ]
  refine wpAnyE_take 4 [5, 6, 7, 8] (oi := { dst := some 150, op := Go.Op.nilCheck (Go.Operand.tmp 147), type := 0, pos := "run.go:99", after := #[{ on := 1, ground := Go.Ground.data }], guard := none }) (v := ?_) rfl (by kernel_rfl) (by kernel_rfl) (by kernel_rfl) (by kernel_rfl) (fun _ _ _ h => h) (Or.inl ⟨by rfl, ?hE41⟩) hs0 ?_
  case hE41 =>
    intro u hu
    obtain ⟨u0, u1⟩ := hu
    go_simp
    try with_reducible rfl
  simp only [Act.put, List.setIfInBounds_toArray, List.set_cons_zero, List.set_cons_succ]
  refine wpAnyE_take 5 [6, 7, 8] (oi := { dst := some 151, op := Go.Op.fieldAddr 69 (Go.Operand.tmp 150) 3, type := 0, pos := "run.go:99", after := #[{ on := 4, ground := Go.Ground.data }], guard := none }) (v := ?_) rfl (by kernel_rfl) (by kernel_rfl) (by kernel_rfl) (by kernel_rfl) (fun _ _ _ h => h) (Or.inl ⟨by rfl, ?hE42⟩) hs0 ?_
  case hE42 =>
    intro u hu
    obtain ⟨u0, u1⟩ := hu
    go_simp
    try with_reducible rfl
  simp only [Act.put, List.setIfInBounds_toArray, List.set_cons_zero, List.set_cons_succ]
  refine wpAnyE_take 6 [7, 8] (oi := { dst := some 152, op := Go.Op.indexAddr 67 (Go.Operand.tmp 151) (Go.Operand.tmp 149), type := 0, pos := "run.go:99", after := #[{ on := 5, ground := Go.Ground.data }, { on := 3, ground := Go.Ground.data }], guard := none }) (v := ?_) rfl (by kernel_rfl) (by kernel_rfl) (by kernel_rfl) (by kernel_rfl) (fun _ _ _ h => h) (Or.inl ⟨by rfl, ?hE43⟩) hs0 ?_
  case hE43 =>
    intro u hu
    obtain ⟨u0, u1⟩ := hu
    go_simp
    try with_reducible rfl
  simp only [Act.put, List.setIfInBounds_toArray, List.set_cons_zero, List.set_cons_succ]
  refine wpAnyE_take 7 [8] (oi := { dst := some 153, op := Go.Op.load 2 (Go.Operand.tmp 152), type := 2, pos := "run.go:99", after := #[{ on := 6, ground := Go.Ground.data }], guard := none }) (v := ?_) rfl (by kernel_rfl) (by kernel_rfl) (by kernel_rfl) (by kernel_rfl) (fun _ _ _ h => h) (Or.inl ⟨by rfl, ?hE44⟩) hs0 ?_
  case hE44 =>
    intro u hu
    obtain ⟨u0, u1⟩ := hu
    go_simp
    try with_reducible rfl
  simp only [Act.put, List.setIfInBounds_toArray, List.set_cons_zero, List.set_cons_succ]
  refine wpAnyE_one (i := 8) (o := { dst := some 154, op := Go.Op.call { callee := Go.Callee.value (Go.Operand.func 48), args := #[Go.Operand.tmp 146, Go.Operand.const (Go.Value.int Go.IntKind.i64 1), Go.Operand.tmp 153], argTypes := #[64, 3, 2] }, type := 0, pos := "run.go:99", after := #[{ on := 0, ground := Go.Ground.data }, { on := 7, ground := Go.Ground.data }], guard := none }) (by kernel_rfl) rfl (fun K hK => ?_)
  go_simp
  (with_reducible refine Calls.mono hcl ?_)
  rintro e w2 ⟨rfl, h2⟩
  have H := hide h2
  clear h2 hcl
  refine hK _ _ (fun h => absurd rfl h) ?_
  clear hK K
  try simp only [Act.put, List.setIfInBounds_toArray, List.set_cons_zero, List.set_cons_succ]
  refine wpAnyE_done (by kernel_rfl) ?_
  go_wp2
  go_ret
  exact ⟨rfl, H.out⟩
end Go.Proofs.YtlngeonfabahnaaDoor
