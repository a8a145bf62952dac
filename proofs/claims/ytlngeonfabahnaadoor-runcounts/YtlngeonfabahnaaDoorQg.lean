/-
  The contract of an instruction, Op by Op (1, 2, 3, 8). Own work.
-/
import Derived.Test.YtlngeonfabahnaaDoorQc
import Derived.Test.YtlngeonfabahnaaDoorQe
import Derived.Test.YtlngeonfabahnaaDoorQf
import Derived.Test.YtlngeonfabahnaaDoorQv
import Derived.Test.YtlngeonfabahnaaDoorOe
namespace Go.Proofs.YtlngeonfabahnaaDoor
open Go Go.RowKit
set_option linter.unusedSimpArgs false
set_option linter.unusedVariables false

set_option maxRecDepth 100000 in
set_option maxHeartbeats 1600000 in
theorem do_1 {W : World} {b mb : Nat} {cv sv : Value} {w : World} {s : St} {kn : Int → Option Oc} {sg : List Int} (E : Ev W b mb sv kn sg) (h : Rn W b cv (.map (some mb)) sv w s) (hp : Plc s.place) (hsg : s.sig ≤ sg.length) (a k c n : Int) (t : ByteArray) (ha0 : 0 ≤ a) (ha : a < 16) :
    Calls Tryd.prog 31 #[.pointer (some ⟨b, 0, none⟩), .agg #[.int .u8 1, .int .i64 a, .int .i64 k, .int .i64 c, .int .i64 n, .string t]] w fun e w' => e = .returned (.bool (doI kn sg ⟨1, a, k, c, n, t⟩ s).2) ∧ Rn W b cv (.map (some mb)) sv w' (doI kn sg ⟨1, a, k, c, n, t⟩ s).1 := by
  have hbl : b < w.heap.size := h.lt
  obtain ⟨hp0, hp1⟩ := hp
  obtain ⟨pl, HPL⟩ := named s.place
  rw [← HPL.out] at hp0 hp1
  have hwr : IntKind.i64.wrap (pl + 1) = pl + 1 := wrap_in _ (by omega) (by omega)
  have d19 : w.cell? ⟨b, 19, none⟩ = some (.int .i64 pl) := by rw [HPL.out]; exact h.cell.2.2.2.1
  have f19 := h.free 19
  obtain ⟨wg, HWG⟩ := named (w.setCell ⟨b, 19, none⟩ (.int .i64 (pl + 1)))
  obtain ⟨s1, HS1⟩ := named (s.go (s.place + 1))
  have hg : Rn W b cv (.map (some mb)) sv wg s1 := by rw [HWG.out, HS1.out, ← HPL.out]; exact h.go _
  have hzg : wg.heap.size = w.heap.size := by rw [HWG.out]; simp [World.setCell]
  obtain ⟨pb, HPB⟩ := named w.heap.size
  have hpb : b < pb := by rw [HPB.out]; exact hbl
  obtain ⟨W1, HW⟩ := named (wg.alloc (.cells #[.int .u8 1, .int .i64 a, .int .i64 k, .int .i64 c, .int .i64 n, .string t] 52))
  have h1 : Rn W b cv (.map (some mb)) sv W1 s1 := by rw [HW.out]; exact hg.alloc _
  have xb : RC 6 W1 pb (fun k' => ([.int .u8 1, .int .i64 a, .int .i64 k, .int .i64 c, .int .i64 n, .string t] : List Value).getD k' undef) := by
    rw [HW.out, HPB.out, ← hzg]
    refine RC.new wg _ 52 _ (fun k hk => ?_)
    rcases (show k = 0 ∨ k = 1 ∨ k = 2 ∨ k = 3 ∨ k = 4 ∨ k = 5 by omega) with rfl | rfl | rfl | rfl | rfl | rfl <;> rfl
  have y0 : W1.cell? ⟨pb, 0, none⟩ = some (.int .u8 1) := xb.2.1 0 (by omega)
  have y1 : W1.cell? ⟨pb, 1, none⟩ = some (.int .i64 a) := xb.2.1 1 (by omega)
  have y2 : W1.cell? ⟨pb, 2, none⟩ = some (.int .i64 k) := xb.2.1 2 (by omega)
  have y3 : W1.cell? ⟨pb, 3, none⟩ = some (.int .i64 c) := xb.2.1 3 (by omega)
  have y4 : W1.cell? ⟨pb, 4, none⟩ = some (.int .i64 n) := xb.2.1 4 (by omega)
  have y5 : W1.cell? ⟨pb, 5, none⟩ = some (.string t) := xb.2.1 5 (by omega)
  have hsg1 : s1.sig ≤ sg.length := by rw [HS1.out]; exact hsg
  have e : doI kn sg ⟨1, a, k, c, n, t⟩ s = (s1.put a n, true) := by rw [HS1.out]; rfl
  rw [e]
  obtain ⟨j, HJ⟩ := Int.eq_ofNat_of_zero_le ha0
  subst HJ
  have h2 := h1.drew
  have ra := h2.reg j (by omega) (by omega)
  have fa := h2.free (3 + (j : Int).toNat)
  have h3 := h2.put j n (by omega) (by omega)
  simp only [Int.toNat_natCast] at ra fa h3
  obtain ⟨old, HOLD⟩ := named (getR s1 j)
  rw [← HOLD.out] at ra
  have H := hide h3
  have hs0 : W1.drew.cell? ⟨pb, 1, none⟩ = some (.int .i64 j) ∧ W1.drew.cell? ⟨pb, 4, none⟩ = some (.int .i64 n) := ⟨y1, y4⟩
  clear h2 h3
  clear h hg h1 xb hzg
  go_enter Tryd.func31, Tryd.ntmps31
  go_wp2_with fail
  rw [← HWG.out, ← HW.out, ← HPB.out]
  refine wp_region_E 8 (fun w' => w'.cell? ⟨pb, 1, none⟩ = some (.int .i64 j) ∧ w'.cell? ⟨pb, 4, none⟩ = some (.int .i64 n)) (by kernel_rfl) ?_
  refine wpAnyE_take 0 [8] (oi := { dst := some 16, op := Go.Op.move (Go.Operand.tmp 0), type := 64, pos := "run.go:67", after := #[], guard := none }) (v := ?_) rfl (by kernel_rfl) (by kernel_rfl) (by kernel_rfl) (by kernel_rfl) (fun _ _ _ h => h) (Or.inl ⟨by rfl, ?hE1⟩) hs0 ?_
  case hE1 =>
    intro u hu
    obtain ⟨u0, u1⟩ := hu
    go_simp
    try with_reducible rfl
  simp only [Act.put, List.setIfInBounds_toArray, List.set_cons_zero, List.set_cons_succ]
  refine wpAnyE_take 1 [8] (oi := { dst := some 17, op := Go.Op.fieldAddr 52 (Go.Operand.tmp 3) 1, type := 0, pos := "run.go:67", after := #[], guard := none }) (v := ?_) rfl (by kernel_rfl) (by kernel_rfl) (by kernel_rfl) (by kernel_rfl) (fun _ _ _ h => h) (Or.inl ⟨by rfl, ?hE2⟩) hs0 ?_
  case hE2 =>
    intro u hu
    obtain ⟨u0, u1⟩ := hu
    go_simp
    try with_reducible rfl
  simp only [Act.put, List.setIfInBounds_toArray, List.set_cons_zero, List.set_cons_succ]
  refine wpAnyE_take 2 [8] (oi := { dst := some 18, op := Go.Op.load 3 (Go.Operand.tmp 17), type := 3, pos := "run.go:67", after := #[{ on := 1, ground := Go.Ground.data }], guard := none }) (v := ?_) rfl (by kernel_rfl) (by kernel_rfl) (by kernel_rfl) (by kernel_rfl) (fun _ _ _ h => h) (Or.inl ⟨by rfl, ?hE3⟩) hs0 ?_
  case hE3 =>
    intro u hu
    obtain ⟨u0, u1⟩ := hu
    go_simp
    try with_reducible rfl
  simp only [Act.put, List.setIfInBounds_toArray, List.set_cons_zero, List.set_cons_succ]
  refine wpAnyE_take 3 [8] (oi := { dst := some 19, op := Go.Op.fieldAddr 52 (Go.Operand.tmp 3) 4, type := 0, pos := "run.go:67", after := #[], guard := none }) (v := ?_) rfl (by kernel_rfl) (by kernel_rfl) (by kernel_rfl) (by kernel_rfl) (fun _ _ _ h => h) (Or.inl ⟨by rfl, ?hE4⟩) hs0 ?_
  case hE4 =>
    intro u hu
    obtain ⟨u0, u1⟩ := hu
    go_simp
    try with_reducible rfl
  simp only [Act.put, List.setIfInBounds_toArray, List.set_cons_zero, List.set_cons_succ]
  refine wpAnyE_take 4 [8] (oi := { dst := some 20, op := Go.Op.load 2 (Go.Operand.tmp 19), type := 2, pos := "run.go:67", after := #[{ on := 3, ground := Go.Ground.data }], guard := none }) (v := ?_) rfl (by kernel_rfl) (by kernel_rfl) (by kernel_rfl) (by kernel_rfl) (fun _ _ _ h => h) (Or.inl ⟨by rfl, ?hE5⟩) hs0 ?_
  case hE5 =>
    intro u hu
    obtain ⟨u0, u1⟩ := hu
    go_simp
    try with_reducible rfl
  simp only [Act.put, List.setIfInBounds_toArray, List.set_cons_zero, List.set_cons_succ]
  refine wpAnyE_take 5 [6, 7, 8] (oi := { dst := some 21, op := Go.Op.nilCheck (Go.Operand.tmp 16), type := 0, pos := "run.go:67", after := #[{ on := 0, ground := Go.Ground.data }], guard := none }) (v := ?_) rfl (by kernel_rfl) (by kernel_rfl) (by kernel_rfl) (by kernel_rfl) (fun _ _ _ h => h) (Or.inl ⟨by rfl, ?hE6⟩) hs0 ?_
  case hE6 =>
    intro u hu
    obtain ⟨u0, u1⟩ := hu
    go_simp
    try with_reducible rfl
  simp only [Act.put, List.setIfInBounds_toArray, List.set_cons_zero, List.set_cons_succ]
  refine wpAnyE_take 6 [7, 8] (oi := { dst := some 22, op := Go.Op.fieldAddr 69 (Go.Operand.tmp 21) 3, type := 0, pos := "run.go:67", after := #[{ on := 5, ground := Go.Ground.data }], guard := none }) (v := ?_) rfl (by kernel_rfl) (by kernel_rfl) (by kernel_rfl) (by kernel_rfl) (fun _ _ _ h => h) (Or.inl ⟨by rfl, ?hE7⟩) hs0 ?_
  case hE7 =>
    intro u hu
    obtain ⟨u0, u1⟩ := hu
    go_simp
    try with_reducible rfl
  simp only [Act.put, List.setIfInBounds_toArray, List.set_cons_zero, List.set_cons_succ]
  refine wpAnyE_take 7 [8] (oi := { dst := some 23, op := Go.Op.indexAddr 67 (Go.Operand.tmp 22) (Go.Operand.tmp 18), type := 0, pos := "run.go:67", after := #[{ on := 6, ground := Go.Ground.data }, { on := 2, ground := Go.Ground.data }, { on := 0, ground := Go.Ground.phase }, { on := 1, ground := Go.Ground.phase }, { on := 2, ground := Go.Ground.phase }, { on := 3, ground := Go.Ground.phase }, { on := 4, ground := Go.Ground.phase }], guard := none }) (v := ?_) rfl (by kernel_rfl) (by kernel_rfl) (by kernel_rfl) (by kernel_rfl) (fun _ _ _ h => h) (Or.inl ⟨by rfl, ?hE8⟩) hs0 ?_
  case hE8 =>
    intro u hu
    obtain ⟨u0, u1⟩ := hu
    go_simp
    try with_reducible rfl
  simp only [Act.put, List.setIfInBounds_toArray, List.set_cons_zero, List.set_cons_succ]
  refine wpAnyE_one (i := 8) (o := { dst := none, op := Go.Op.store 2 (Go.Operand.tmp 23) (Go.Operand.tmp 20), type := 0, pos := "run.go:67", after := #[{ on := 7, ground := Go.Ground.data }, { on := 4, ground := Go.Ground.data }, { on := 0, ground := Go.Ground.phase }, { on := 1, ground := Go.Ground.phase }, { on := 2, ground := Go.Ground.phase }, { on := 3, ground := Go.Ground.phase }, { on := 4, ground := Go.Ground.phase }], guard := none }) (by kernel_rfl) rfl (fun K hK => ?_)
  go_simp
  refine hK _ _ (fun h => absurd rfl h) ?_
  clear hK K
  try simp only [Act.put, List.setIfInBounds_toArray, List.set_cons_zero, List.set_cons_succ]
  refine wpAnyE_done (by kernel_rfl) ?_
  go_wp2
  go_ret
  exact ⟨rfl, H.out⟩
set_option maxRecDepth 100000 in
set_option maxHeartbeats 1600000 in
theorem do_2 {W : World} {b mb : Nat} {cv sv : Value} {w : World} {s : St} {kn : Int → Option Oc} {sg : List Int} (E : Ev W b mb sv kn sg) (h : Rn W b cv (.map (some mb)) sv w s) (hp : Plc s.place) (hsg : s.sig ≤ sg.length) (a k c n : Int) (t : ByteArray) (ha0 : 0 ≤ a) (ha : a < 16) (hb0 : 0 ≤ k) (hb : k < 16) :
    Calls Tryd.prog 31 #[.pointer (some ⟨b, 0, none⟩), .agg #[.int .u8 2, .int .i64 a, .int .i64 k, .int .i64 c, .int .i64 n, .string t]] w fun e w' => e = .returned (.bool (doI kn sg ⟨2, a, k, c, n, t⟩ s).2) ∧ Rn W b cv (.map (some mb)) sv w' (doI kn sg ⟨2, a, k, c, n, t⟩ s).1 := by
  have hbl : b < w.heap.size := h.lt
  obtain ⟨hp0, hp1⟩ := hp
  obtain ⟨pl, HPL⟩ := named s.place
  rw [← HPL.out] at hp0 hp1
  have hwr : IntKind.i64.wrap (pl + 1) = pl + 1 := wrap_in _ (by omega) (by omega)
  have d19 : w.cell? ⟨b, 19, none⟩ = some (.int .i64 pl) := by rw [HPL.out]; exact h.cell.2.2.2.1
  have f19 := h.free 19
  obtain ⟨wg, HWG⟩ := named (w.setCell ⟨b, 19, none⟩ (.int .i64 (pl + 1)))
  obtain ⟨s1, HS1⟩ := named (s.go (s.place + 1))
  have hg : Rn W b cv (.map (some mb)) sv wg s1 := by rw [HWG.out, HS1.out, ← HPL.out]; exact h.go _
  have hzg : wg.heap.size = w.heap.size := by rw [HWG.out]; simp [World.setCell]
  obtain ⟨pb, HPB⟩ := named w.heap.size
  have hpb : b < pb := by rw [HPB.out]; exact hbl
  obtain ⟨W1, HW⟩ := named (wg.alloc (.cells #[.int .u8 2, .int .i64 a, .int .i64 k, .int .i64 c, .int .i64 n, .string t] 52))
  have h1 : Rn W b cv (.map (some mb)) sv W1 s1 := by rw [HW.out]; exact hg.alloc _
  have xb : RC 6 W1 pb (fun k' => ([.int .u8 2, .int .i64 a, .int .i64 k, .int .i64 c, .int .i64 n, .string t] : List Value).getD k' undef) := by
    rw [HW.out, HPB.out, ← hzg]
    refine RC.new wg _ 52 _ (fun k hk => ?_)
    rcases (show k = 0 ∨ k = 1 ∨ k = 2 ∨ k = 3 ∨ k = 4 ∨ k = 5 by omega) with rfl | rfl | rfl | rfl | rfl | rfl <;> rfl
  have y0 : W1.cell? ⟨pb, 0, none⟩ = some (.int .u8 2) := xb.2.1 0 (by omega)
  have y1 : W1.cell? ⟨pb, 1, none⟩ = some (.int .i64 a) := xb.2.1 1 (by omega)
  have y2 : W1.cell? ⟨pb, 2, none⟩ = some (.int .i64 k) := xb.2.1 2 (by omega)
  have y3 : W1.cell? ⟨pb, 3, none⟩ = some (.int .i64 c) := xb.2.1 3 (by omega)
  have y4 : W1.cell? ⟨pb, 4, none⟩ = some (.int .i64 n) := xb.2.1 4 (by omega)
  have y5 : W1.cell? ⟨pb, 5, none⟩ = some (.string t) := xb.2.1 5 (by omega)
  have hsg1 : s1.sig ≤ sg.length := by rw [HS1.out]; exact hsg
  have e : doI kn sg ⟨2, a, k, c, n, t⟩ s = (s1.put a (getR s1 k), true) := by rw [HS1.out]; rfl
  rw [e]
  obtain ⟨j, HJ⟩ := Int.eq_ofNat_of_zero_le ha0
  obtain ⟨j', HJ'⟩ := Int.eq_ofNat_of_zero_le hb0
  subst HJ HJ'
  have h2 := h1.drew
  have ra := h2.reg j (by omega) (by omega)
  have rb := h2.reg j' (by omega) (by omega)
  have fa := h2.free (3 + (j : Int).toNat)
  obtain ⟨x, HX⟩ := named (getR s1 j')
  rw [← HX.out] at rb ⊢
  have h3 := h2.put j x (by omega) (by omega)
  simp only [Int.toNat_natCast] at ra fa h3 rb
  obtain ⟨old, HOLD⟩ := named (getR s1 j)
  rw [← HOLD.out] at ra
  have H := hide h3
  have hs0 : W1.drew.cell? ⟨pb, 1, none⟩ = some (.int .i64 j) ∧ W1.drew.cell? ⟨pb, 2, none⟩ = some (.int .i64 j') ∧ W1.drew.cell? ⟨b, 3 + j', none⟩ = some (.int .i64 x) := ⟨y1, y2, rb⟩
  clear h2 h3
  clear h hg h1 xb hzg
  go_enter Tryd.func31, Tryd.ntmps31
  go_wp2_with fail
  rw [← HWG.out, ← HW.out, ← HPB.out]
  refine wp_region_E 13 (fun w' => w'.cell? ⟨pb, 1, none⟩ = some (.int .i64 j) ∧ w'.cell? ⟨pb, 2, none⟩ = some (.int .i64 j') ∧ w'.cell? ⟨b, 3 + j', none⟩ = some (.int .i64 x)) (by kernel_rfl) ?_
  refine wpAnyE_take 0 [13] (oi := { dst := some 26, op := Go.Op.move (Go.Operand.tmp 0), type := 64, pos := "run.go:69", after := #[], guard := none }) (v := ?_) rfl (by kernel_rfl) (by kernel_rfl) (by kernel_rfl) (by kernel_rfl) (fun _ _ _ h => h) (Or.inl ⟨by rfl, ?hE9⟩) hs0 ?_
  case hE9 =>
    intro u hu
    obtain ⟨u0, u1, u2⟩ := hu
    go_simp
    try with_reducible rfl
  simp only [Act.put, List.setIfInBounds_toArray, List.set_cons_zero, List.set_cons_succ]
  refine wpAnyE_take 1 [13] (oi := { dst := some 27, op := Go.Op.fieldAddr 52 (Go.Operand.tmp 3) 1, type := 0, pos := "run.go:69", after := #[], guard := none }) (v := ?_) rfl (by kernel_rfl) (by kernel_rfl) (by kernel_rfl) (by kernel_rfl) (fun _ _ _ h => h) (Or.inl ⟨by rfl, ?hE10⟩) hs0 ?_
  case hE10 =>
    intro u hu
    obtain ⟨u0, u1, u2⟩ := hu
    go_simp
    try with_reducible rfl
  simp only [Act.put, List.setIfInBounds_toArray, List.set_cons_zero, List.set_cons_succ]
  refine wpAnyE_take 2 [13] (oi := { dst := some 28, op := Go.Op.load 3 (Go.Operand.tmp 27), type := 3, pos := "run.go:69", after := #[{ on := 1, ground := Go.Ground.data }], guard := none }) (v := ?_) rfl (by kernel_rfl) (by kernel_rfl) (by kernel_rfl) (by kernel_rfl) (fun _ _ _ h => h) (Or.inl ⟨by rfl, ?hE11⟩) hs0 ?_
  case hE11 =>
    intro u hu
    obtain ⟨u0, u1, u2⟩ := hu
    go_simp
    try with_reducible rfl
  simp only [Act.put, List.setIfInBounds_toArray, List.set_cons_zero, List.set_cons_succ]
  refine wpAnyE_take 3 [13] (oi := { dst := some 29, op := Go.Op.move (Go.Operand.tmp 0), type := 64, pos := "run.go:69", after := #[], guard := none }) (v := ?_) rfl (by kernel_rfl) (by kernel_rfl) (by kernel_rfl) (by kernel_rfl) (fun _ _ _ h => h) (Or.inl ⟨by rfl, ?hE12⟩) hs0 ?_
  case hE12 =>
    intro u hu
    obtain ⟨u0, u1, u2⟩ := hu
    go_simp
    try with_reducible rfl
  simp only [Act.put, List.setIfInBounds_toArray, List.set_cons_zero, List.set_cons_succ]
  refine wpAnyE_take 4 [13] (oi := { dst := some 30, op := Go.Op.fieldAddr 52 (Go.Operand.tmp 3) 2, type := 0, pos := "run.go:69", after := #[], guard := none }) (v := ?_) rfl (by kernel_rfl) (by kernel_rfl) (by kernel_rfl) (by kernel_rfl) (fun _ _ _ h => h) (Or.inl ⟨by rfl, ?hE13⟩) hs0 ?_
  case hE13 =>
    intro u hu
    obtain ⟨u0, u1, u2⟩ := hu
    go_simp
    try with_reducible rfl
  simp only [Act.put, List.setIfInBounds_toArray, List.set_cons_zero, List.set_cons_succ]
  refine wpAnyE_take 5 [13] (oi := { dst := some 31, op := Go.Op.load 3 (Go.Operand.tmp 30), type := 3, pos := "run.go:69", after := #[{ on := 4, ground := Go.Ground.data }], guard := none }) (v := ?_) rfl (by kernel_rfl) (by kernel_rfl) (by kernel_rfl) (by kernel_rfl) (fun _ _ _ h => h) (Or.inl ⟨by rfl, ?hE14⟩) hs0 ?_
  case hE14 =>
    intro u hu
    obtain ⟨u0, u1, u2⟩ := hu
    go_simp
    try with_reducible rfl
  simp only [Act.put, List.setIfInBounds_toArray, List.set_cons_zero, List.set_cons_succ]
  refine wpAnyE_take 6 [13] (oi := { dst := some 32, op := Go.Op.nilCheck (Go.Operand.tmp 29), type := 0, pos := "run.go:69", after := #[{ on := 3, ground := Go.Ground.data }], guard := none }) (v := ?_) rfl (by kernel_rfl) (by kernel_rfl) (by kernel_rfl) (by kernel_rfl) (fun _ _ _ h => h) (Or.inl ⟨by rfl, ?hE15⟩) hs0 ?_
  case hE15 =>
    intro u hu
    obtain ⟨u0, u1, u2⟩ := hu
    go_simp
    try with_reducible rfl
  simp only [Act.put, List.setIfInBounds_toArray, List.set_cons_zero, List.set_cons_succ]
  refine wpAnyE_take 7 [13] (oi := { dst := some 33, op := Go.Op.fieldAddr 69 (Go.Operand.tmp 32) 3, type := 0, pos := "run.go:69", after := #[{ on := 6, ground := Go.Ground.data }], guard := none }) (v := ?_) rfl (by kernel_rfl) (by kernel_rfl) (by kernel_rfl) (by kernel_rfl) (fun _ _ _ h => h) (Or.inl ⟨by rfl, ?hE16⟩) hs0 ?_
  case hE16 =>
    intro u hu
    obtain ⟨u0, u1, u2⟩ := hu
    go_simp
    try with_reducible rfl
  simp only [Act.put, List.setIfInBounds_toArray, List.set_cons_zero, List.set_cons_succ]
  refine wpAnyE_take 8 [13] (oi := { dst := some 34, op := Go.Op.indexAddr 67 (Go.Operand.tmp 33) (Go.Operand.tmp 31), type := 0, pos := "run.go:69", after := #[{ on := 7, ground := Go.Ground.data }, { on := 5, ground := Go.Ground.data }], guard := none }) (v := ?_) rfl (by kernel_rfl) (by kernel_rfl) (by kernel_rfl) (by kernel_rfl) (fun _ _ _ h => h) (Or.inl ⟨by rfl, ?hE17⟩) hs0 ?_
  case hE17 =>
    intro u hu
    obtain ⟨u0, u1, u2⟩ := hu
    go_simp
    try with_reducible rfl
  simp only [Act.put, List.setIfInBounds_toArray, List.set_cons_zero, List.set_cons_succ]
  refine wpAnyE_take 9 [13] (oi := { dst := some 35, op := Go.Op.load 2 (Go.Operand.tmp 34), type := 2, pos := "run.go:69", after := #[{ on := 8, ground := Go.Ground.data }], guard := none }) (v := ?_) rfl (by kernel_rfl) (by kernel_rfl) (by kernel_rfl) (by kernel_rfl) (fun _ _ _ h => h) (Or.inl ⟨by rfl, ?hE18⟩) hs0 ?_
  case hE18 =>
    intro u hu
    obtain ⟨u0, u1, u2⟩ := hu
    go_simp
    try with_reducible rfl
  simp only [Act.put, List.setIfInBounds_toArray, List.set_cons_zero, List.set_cons_succ]
  refine wpAnyE_take 10 [11, 12, 13] (oi := { dst := some 36, op := Go.Op.nilCheck (Go.Operand.tmp 26), type := 0, pos := "run.go:69", after := #[{ on := 0, ground := Go.Ground.data }], guard := none }) (v := ?_) rfl (by kernel_rfl) (by kernel_rfl) (by kernel_rfl) (by kernel_rfl) (fun _ _ _ h => h) (Or.inl ⟨by rfl, ?hE19⟩) hs0 ?_
  case hE19 =>
    intro u hu
    obtain ⟨u0, u1, u2⟩ := hu
    go_simp
    try with_reducible rfl
  simp only [Act.put, List.setIfInBounds_toArray, List.set_cons_zero, List.set_cons_succ]
  refine wpAnyE_take 11 [12, 13] (oi := { dst := some 37, op := Go.Op.fieldAddr 69 (Go.Operand.tmp 36) 3, type := 0, pos := "run.go:69", after := #[{ on := 10, ground := Go.Ground.data }], guard := none }) (v := ?_) rfl (by kernel_rfl) (by kernel_rfl) (by kernel_rfl) (by kernel_rfl) (fun _ _ _ h => h) (Or.inl ⟨by rfl, ?hE20⟩) hs0 ?_
  case hE20 =>
    intro u hu
    obtain ⟨u0, u1, u2⟩ := hu
    go_simp
    try with_reducible rfl
  simp only [Act.put, List.setIfInBounds_toArray, List.set_cons_zero, List.set_cons_succ]
  refine wpAnyE_take 12 [13] (oi := { dst := some 38, op := Go.Op.indexAddr 67 (Go.Operand.tmp 37) (Go.Operand.tmp 28), type := 0, pos := "run.go:69", after := #[{ on := 11, ground := Go.Ground.data }, { on := 2, ground := Go.Ground.data }, { on := 0, ground := Go.Ground.phase }, { on := 1, ground := Go.Ground.phase }, { on := 2, ground := Go.Ground.phase }, { on := 3, ground := Go.Ground.phase }, { on := 4, ground := Go.Ground.phase }, { on := 5, ground := Go.Ground.phase }, { on := 6, ground := Go.Ground.phase }, { on := 7, ground := Go.Ground.phase }, { on := 8, ground := Go.Ground.phase }, { on := 9, ground := Go.Ground.phase }], guard := none }) (v := ?_) rfl (by kernel_rfl) (by kernel_rfl) (by kernel_rfl) (by kernel_rfl) (fun _ _ _ h => h) (Or.inl ⟨by rfl, ?hE21⟩) hs0 ?_
  case hE21 =>
    intro u hu
    obtain ⟨u0, u1, u2⟩ := hu
    go_simp
    try with_reducible rfl
  simp only [Act.put, List.setIfInBounds_toArray, List.set_cons_zero, List.set_cons_succ]
  refine wpAnyE_one (i := 13) (o := { dst := none, op := Go.Op.store 2 (Go.Operand.tmp 38) (Go.Operand.tmp 35), type := 0, pos := "run.go:69", after := #[{ on := 12, ground := Go.Ground.data }, { on := 9, ground := Go.Ground.data }, { on := 0, ground := Go.Ground.phase }, { on := 1, ground := Go.Ground.phase }, { on := 2, ground := Go.Ground.phase }, { on := 3, ground := Go.Ground.phase }, { on := 4, ground := Go.Ground.phase }, { on := 5, ground := Go.Ground.phase }, { on := 6, ground := Go.Ground.phase }, { on := 7, ground := Go.Ground.phase }, { on := 8, ground := Go.Ground.phase }, { on := 9, ground := Go.Ground.phase }], guard := none }) (by kernel_rfl) rfl (fun K hK => ?_)
  go_simp
  refine hK _ _ (fun h => absurd rfl h) ?_
  clear hK K
  try simp only [Act.put, List.setIfInBounds_toArray, List.set_cons_zero, List.set_cons_succ]
  refine wpAnyE_done (by kernel_rfl) ?_
  go_wp2
  go_ret
  exact ⟨rfl, H.out⟩
set_option maxRecDepth 100000 in
set_option maxHeartbeats 1600000 in
theorem do_3 {W : World} {b mb : Nat} {cv sv : Value} {w : World} {s : St} {kn : Int → Option Oc} {sg : List Int} (E : Ev W b mb sv kn sg) (h : Rn W b cv (.map (some mb)) sv w s) (hp : Plc s.place) (hsg : s.sig ≤ sg.length) (a k c n : Int) (t : ByteArray) (ha0 : 0 ≤ a) (ha : a < 16) (hb0 : 0 ≤ k) (hb : k < 16) (hc0 : 0 ≤ c) (hc : c < 16) :
    Calls Tryd.prog 31 #[.pointer (some ⟨b, 0, none⟩), .agg #[.int .u8 3, .int .i64 a, .int .i64 k, .int .i64 c, .int .i64 n, .string t]] w fun e w' => e = .returned (.bool (doI kn sg ⟨3, a, k, c, n, t⟩ s).2) ∧ Rn W b cv (.map (some mb)) sv w' (doI kn sg ⟨3, a, k, c, n, t⟩ s).1 := by
  have hbl : b < w.heap.size := h.lt
  obtain ⟨hp0, hp1⟩ := hp
  obtain ⟨pl, HPL⟩ := named s.place
  rw [← HPL.out] at hp0 hp1
  have hwr : IntKind.i64.wrap (pl + 1) = pl + 1 := wrap_in _ (by omega) (by omega)
  have d19 : w.cell? ⟨b, 19, none⟩ = some (.int .i64 pl) := by rw [HPL.out]; exact h.cell.2.2.2.1
  have f19 := h.free 19
  obtain ⟨wg, HWG⟩ := named (w.setCell ⟨b, 19, none⟩ (.int .i64 (pl + 1)))
  obtain ⟨s1, HS1⟩ := named (s.go (s.place + 1))
  have hg : Rn W b cv (.map (some mb)) sv wg s1 := by rw [HWG.out, HS1.out, ← HPL.out]; exact h.go _
  have hzg : wg.heap.size = w.heap.size := by rw [HWG.out]; simp [World.setCell]
  obtain ⟨pb, HPB⟩ := named w.heap.size
  have hpb : b < pb := by rw [HPB.out]; exact hbl
  obtain ⟨W1, HW⟩ := named (wg.alloc (.cells #[.int .u8 3, .int .i64 a, .int .i64 k, .int .i64 c, .int .i64 n, .string t] 52))
  have h1 : Rn W b cv (.map (some mb)) sv W1 s1 := by rw [HW.out]; exact hg.alloc _
  have xb : RC 6 W1 pb (fun k' => ([.int .u8 3, .int .i64 a, .int .i64 k, .int .i64 c, .int .i64 n, .string t] : List Value).getD k' undef) := by
    rw [HW.out, HPB.out, ← hzg]
    refine RC.new wg _ 52 _ (fun k hk => ?_)
    rcases (show k = 0 ∨ k = 1 ∨ k = 2 ∨ k = 3 ∨ k = 4 ∨ k = 5 by omega) with rfl | rfl | rfl | rfl | rfl | rfl <;> rfl
  have y0 : W1.cell? ⟨pb, 0, none⟩ = some (.int .u8 3) := xb.2.1 0 (by omega)
  have y1 : W1.cell? ⟨pb, 1, none⟩ = some (.int .i64 a) := xb.2.1 1 (by omega)
  have y2 : W1.cell? ⟨pb, 2, none⟩ = some (.int .i64 k) := xb.2.1 2 (by omega)
  have y3 : W1.cell? ⟨pb, 3, none⟩ = some (.int .i64 c) := xb.2.1 3 (by omega)
  have y4 : W1.cell? ⟨pb, 4, none⟩ = some (.int .i64 n) := xb.2.1 4 (by omega)
  have y5 : W1.cell? ⟨pb, 5, none⟩ = some (.string t) := xb.2.1 5 (by omega)
  have hsg1 : s1.sig ≤ sg.length := by rw [HS1.out]; exact hsg
  have e : doI kn sg ⟨3, a, k, c, n, t⟩ s = (s1.put a (signB 3 (getR s1 k) (getR s1 c)), true) := by rw [HS1.out]; rfl
  rw [e]
  have hcl := sign_any_3 h1 3 a k c n t ha0 ha hb0 hb hc0 hc
  clear h hg h1 xb hzg
  go_enter Tryd.func31, Tryd.ntmps31
  go_wp2_with fail
  rw [← HWG.out, ← HW.out]
  (with_reducible refine Calls.mono hcl ?_)
  rintro e w2 ⟨rfl, h2⟩
  have H := hide h2
  clear h2 hcl
  go_wp2
  go_ret
  exact ⟨rfl, H.out⟩
set_option maxRecDepth 100000 in
set_option maxHeartbeats 1600000 in
theorem do_8 {W : World} {b mb : Nat} {cv sv : Value} {w : World} {s : St} {kn : Int → Option Oc} {sg : List Int} (E : Ev W b mb sv kn sg) (h : Rn W b cv (.map (some mb)) sv w s) (hp : Plc s.place) (hsg : s.sig ≤ sg.length) (a k c n : Int) (t : ByteArray)  :
    Calls Tryd.prog 31 #[.pointer (some ⟨b, 0, none⟩), .agg #[.int .u8 8, .int .i64 a, .int .i64 k, .int .i64 c, .int .i64 n, .string t]] w fun e w' => e = .returned (.bool (doI kn sg ⟨8, a, k, c, n, t⟩ s).2) ∧ Rn W b cv (.map (some mb)) sv w' (doI kn sg ⟨8, a, k, c, n, t⟩ s).1 := by
  have hbl : b < w.heap.size := h.lt
  obtain ⟨hp0, hp1⟩ := hp
  obtain ⟨pl, HPL⟩ := named s.place
  rw [← HPL.out] at hp0 hp1
  have hwr : IntKind.i64.wrap (pl + 1) = pl + 1 := wrap_in _ (by omega) (by omega)
  have d19 : w.cell? ⟨b, 19, none⟩ = some (.int .i64 pl) := by rw [HPL.out]; exact h.cell.2.2.2.1
  have f19 := h.free 19
  obtain ⟨wg, HWG⟩ := named (w.setCell ⟨b, 19, none⟩ (.int .i64 (pl + 1)))
  obtain ⟨s1, HS1⟩ := named (s.go (s.place + 1))
  have hg : Rn W b cv (.map (some mb)) sv wg s1 := by rw [HWG.out, HS1.out, ← HPL.out]; exact h.go _
  have hzg : wg.heap.size = w.heap.size := by rw [HWG.out]; simp [World.setCell]
  obtain ⟨pb, HPB⟩ := named w.heap.size
  have hpb : b < pb := by rw [HPB.out]; exact hbl
  obtain ⟨W1, HW⟩ := named (wg.alloc (.cells #[.int .u8 8, .int .i64 a, .int .i64 k, .int .i64 c, .int .i64 n, .string t] 52))
  have h1 : Rn W b cv (.map (some mb)) sv W1 s1 := by rw [HW.out]; exact hg.alloc _
  have xb : RC 6 W1 pb (fun k' => ([.int .u8 8, .int .i64 a, .int .i64 k, .int .i64 c, .int .i64 n, .string t] : List Value).getD k' undef) := by
    rw [HW.out, HPB.out, ← hzg]
    refine RC.new wg _ 52 _ (fun k hk => ?_)
    rcases (show k = 0 ∨ k = 1 ∨ k = 2 ∨ k = 3 ∨ k = 4 ∨ k = 5 by omega) with rfl | rfl | rfl | rfl | rfl | rfl <;> rfl
  have y0 : W1.cell? ⟨pb, 0, none⟩ = some (.int .u8 8) := xb.2.1 0 (by omega)
  have y1 : W1.cell? ⟨pb, 1, none⟩ = some (.int .i64 a) := xb.2.1 1 (by omega)
  have y2 : W1.cell? ⟨pb, 2, none⟩ = some (.int .i64 k) := xb.2.1 2 (by omega)
  have y3 : W1.cell? ⟨pb, 3, none⟩ = some (.int .i64 c) := xb.2.1 3 (by omega)
  have y4 : W1.cell? ⟨pb, 4, none⟩ = some (.int .i64 n) := xb.2.1 4 (by omega)
  have y5 : W1.cell? ⟨pb, 5, none⟩ = some (.string t) := xb.2.1 5 (by omega)
  have hsg1 : s1.sig ≤ sg.length := by rw [HS1.out]; exact hsg
  have e : doI kn sg ⟨8, a, k, c, n, t⟩ s = (s1.go n, true) := by rw [HS1.out]; rfl
  rw [e]
  have H := hide ((hg.go n).alloc (.cells #[.int .u8 8, .int .i64 a, .int .i64 k, .int .i64 c, .int .i64 n, .string t] 52))
  have g19 := hg.cell.2.2.2.1
  have g19f := hg.free 19
  rw [HWG.out] at g19 g19f H
  clear h hg h1 xb hzg
  go_enter Tryd.func31, Tryd.ntmps31
  go_wp2_with fail
  go_wp2
  go_ret
  exact ⟨rfl, H.out⟩
end Go.Proofs.YtlngeonfabahnaaDoor
