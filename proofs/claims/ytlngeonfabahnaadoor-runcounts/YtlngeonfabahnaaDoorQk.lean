/-
  The contract of an instruction, Op by Op (10, 11, 12). Own work.
-/
import Derived.Test.YtlngeonfabahnaaDoorQc
import Derived.Test.YtlngeonfabahnaaDoorQe
import Derived.Test.YtlngeonfabahnaaDoorQf
import Derived.Test.YtlngeonfabahnaaDoorQv
import Derived.Test.YtlngeonfabahnaaDoorOe
namespace Go.Proofs.YtlngeonfabahnaaDoor
open Go Go.RowKit
set_option linter.unusedSimpArgs false
set_option linter.unusedVariables false

set_option maxRecDepth 100000 in
set_option maxHeartbeats 1600000 in
theorem do_10 {W : World} {b mb : Nat} {cv sv : Value} {w : World} {s : St} {kn : Int → Option Oc} {sg : List Int} (E : Ev W b mb sv kn sg) (h : Rn W b cv (.map (some mb)) sv w s) (hp : Plc s.place) (hsg : s.sig ≤ sg.length) (a k c n : Int) (t : ByteArray) (ha0 : 0 ≤ a) (ha : a < 16) (hb0 : 0 ≤ k) (hb : k < 16) (ht : t.size ≤ 1000000) :
    Calls Tryd.prog 31 #[.pointer (some ⟨b, 0, none⟩), .agg #[.int .u8 10, .int .i64 a, .int .i64 k, .int .i64 c, .int .i64 n, .string t]] w fun e w' => e = .returned (.bool (doI kn sg ⟨10, a, k, c, n, t⟩ s).2) ∧ Rn W b cv (.map (some mb)) sv w' (doI kn sg ⟨10, a, k, c, n, t⟩ s).1 := by
  have hbl : b < w.heap.size := h.lt
  obtain ⟨hp0, hp1⟩ := hp
  obtain ⟨pl, HPL⟩ := named s.place
  rw [← HPL.out] at hp0 hp1
  have hwr : IntKind.i64.wrap (pl + 1) = pl + 1 := wrap_in _ (by omega) (by omega)
  have d19 : w.cell? ⟨b, 19, none⟩ = some (.int .i64 pl) := by rw [HPL.out]; exact h.cell.2.2.2.1
  have f19 := h.free 19
  obtain ⟨wg, HWG⟩ := named (w.setCell ⟨b, 19, none⟩ (.int .i64 (pl + 1)))
  obtain ⟨s1, HS1⟩ := named (s.go (s.place + 1))
  have hg : Rn W b cv (.map (some mb)) sv wg s1 := by rw [HWG.out, HS1.out, ← HPL.out]; exact h.go _
  have hzg : wg.heap.size = w.heap.size := by rw [HWG.out]; simp [World.setCell]
  obtain ⟨pb, HPB⟩ := named w.heap.size
  have hpb : b < pb := by rw [HPB.out]; exact hbl
  obtain ⟨W1, HW⟩ := named (wg.alloc (.cells #[.int .u8 10, .int .i64 a, .int .i64 k, .int .i64 c, .int .i64 n, .string t] 52))
  have h1 : Rn W b cv (.map (some mb)) sv W1 s1 := by rw [HW.out]; exact hg.alloc _
  have xb : RC 6 W1 pb (fun k' => ([.int .u8 10, .int .i64 a, .int .i64 k, .int .i64 c, .int .i64 n, .string t] : List Value).getD k' undef) := by
    rw [HW.out, HPB.out, ← hzg]
    refine RC.new wg _ 52 _ (fun k hk => ?_)
    rcases (show k = 0 ∨ k = 1 ∨ k = 2 ∨ k = 3 ∨ k = 4 ∨ k = 5 by omega) with rfl | rfl | rfl | rfl | rfl | rfl <;> rfl
  have y0 : W1.cell? ⟨pb, 0, none⟩ = some (.int .u8 10) := xb.2.1 0 (by omega)
  have y1 : W1.cell? ⟨pb, 1, none⟩ = some (.int .i64 a) := xb.2.1 1 (by omega)
  have y2 : W1.cell? ⟨pb, 2, none⟩ = some (.int .i64 k) := xb.2.1 2 (by omega)
  have y3 : W1.cell? ⟨pb, 3, none⟩ = some (.int .i64 c) := xb.2.1 3 (by omega)
  have y4 : W1.cell? ⟨pb, 4, none⟩ = some (.int .i64 n) := xb.2.1 4 (by omega)
  have y5 : W1.cell? ⟨pb, 5, none⟩ = some (.string t) := xb.2.1 5 (by omega)
  have hsg1 : s1.sig ≤ sg.length := by rw [HS1.out]; exact hsg
  have e : doI kn sg ⟨10, a, k, c, n, t⟩ s = beginI ⟨10, a, k, c, n, t⟩ 1 (getR s1 k) s1 := by rw [HS1.out]; rfl
  rw [e]
  obtain ⟨j', HJ'⟩ := Int.eq_ofNat_of_zero_le hb0
  subst HJ'
  have h2 := h1.drew
  have rb := h2.reg j' (by omega) (by omega)
  simp only [Int.toNat_natCast] at rb
  obtain ⟨x, HX⟩ := named (getR s1 j')
  rw [← HX.out] at rb ⊢
  have hcl := begin_any h2 ⟨10, a, j', c, n, t⟩ 1 x ha0 ha ht
  have hcl : Calls Tryd.prog 45 #[.pointer (some ⟨b, 0, none⟩), .agg #[.int .u8 10, .int .i64 a, .int .i64 j', .int .i64 c, .int .i64 n, .string t], .int .u8 1, .int .i64 x] W1.drew _ := hcl
  have hs0 : W1.drew.cell? ⟨pb, 0, none⟩ = some (.int .u8 10) ∧ W1.drew.cell? ⟨pb, 1, none⟩ = some (.int .i64 a) ∧ W1.drew.cell? ⟨pb, 2, none⟩ = some (.int .i64 j') ∧ W1.drew.cell? ⟨pb, 3, none⟩ = some (.int .i64 c) ∧ W1.drew.cell? ⟨pb, 4, none⟩ = some (.int .i64 n) ∧ W1.drew.cell? ⟨pb, 5, none⟩ = some (.string t) ∧ W1.drew.cell? ⟨b, 3 + j', none⟩ = some (.int .i64 x) := ⟨y0, y1, y2, y3, y4, y5, rb⟩
  obtain ⟨R, HR⟩ := named (beginI ⟨10, a, j', c, n, t⟩ 1 x s1)
  rw [← HR.out] at hcl ⊢
  clear h2
  clear h hg h1 xb hzg
  go_enter Tryd.func31, Tryd.ntmps31
  go_wp2_with fail
  rw [← HWG.out, ← HW.out, ← HPB.out]
  refine wp_region_N [9, 10] (fun w' => w'.cell? ⟨pb, 0, none⟩ = some (.int .u8 10) ∧ w'.cell? ⟨pb, 1, none⟩ = some (.int .i64 a) ∧ w'.cell? ⟨pb, 2, none⟩ = some (.int .i64 j') ∧ w'.cell? ⟨pb, 3, none⟩ = some (.int .i64 c) ∧ w'.cell? ⟨pb, 4, none⟩ = some (.int .i64 n) ∧ w'.cell? ⟨pb, 5, none⟩ = some (.string t) ∧ w'.cell? ⟨b, 3 + j', none⟩ = some (.int .i64 x)) (by kernel_rfl) ?_
  refine wpAnyN_take 0 [9, 10] (oi := { dst := some 88, op := Go.Op.move (Go.Operand.tmp 0), type := 64, pos := "run.go:87", after := #[], guard := none }) (v := ?_) rfl (by kernel_rfl) (by kernel_rfl) (by kernel_rfl) (by kernel_rfl) (fun _ _ _ h => h) (Or.inl ⟨by rfl, ?hE45⟩) hs0 ?_
  case hE45 =>
    intro u hu
    obtain ⟨u0, u1, u2, u3, u4, u5, u6⟩ := hu
    go_simp
    try with_reducible rfl
  simp only [Act.put, List.setIfInBounds_toArray, List.set_cons_zero, List.set_cons_succ]
  refine wpAnyN_take 1 [9, 10] (oi := { dst := some 89, op := Go.Op.load 52 (Go.Operand.tmp 3), type := 52, pos := "run.go:87", after := #[], guard := none }) (v := ?_) rfl (by kernel_rfl) (by kernel_rfl) (by kernel_rfl) (by kernel_rfl) (fun _ _ _ h => h) (Or.inl ⟨by rfl, ?hE46⟩) hs0 ?_
  case hE46 =>
    intro u hu
    obtain ⟨u0, u1, u2, u3, u4, u5, u6⟩ := hu
    go_simp
    try with_reducible rfl
  simp only [Act.put, List.setIfInBounds_toArray, List.set_cons_zero, List.set_cons_succ]
  refine wpAnyN_take 2 [5, 6, 7, 8, 9, 10] (oi := { dst := some 90, op := Go.Op.move (Go.Operand.tmp 0), type := 64, pos := "run.go:87", after := #[], guard := none }) (v := ?_) rfl (by kernel_rfl) (by kernel_rfl) (by kernel_rfl) (by kernel_rfl) (fun _ _ _ h => h) (Or.inl ⟨by rfl, ?hE47⟩) hs0 ?_
  case hE47 =>
    intro u hu
    obtain ⟨u0, u1, u2, u3, u4, u5, u6⟩ := hu
    go_simp
    try with_reducible rfl
  simp only [Act.put, List.setIfInBounds_toArray, List.set_cons_zero, List.set_cons_succ]
  refine wpAnyN_take 3 [4, 7, 8, 9, 10] (oi := { dst := some 91, op := Go.Op.fieldAddr 52 (Go.Operand.tmp 3) 2, type := 0, pos := "run.go:87", after := #[], guard := none }) (v := ?_) rfl (by kernel_rfl) (by kernel_rfl) (by kernel_rfl) (by kernel_rfl) (fun _ _ _ h => h) (Or.inl ⟨by rfl, ?hE48⟩) hs0 ?_
  case hE48 =>
    intro u hu
    obtain ⟨u0, u1, u2, u3, u4, u5, u6⟩ := hu
    go_simp
    try with_reducible rfl
  simp only [Act.put, List.setIfInBounds_toArray, List.set_cons_zero, List.set_cons_succ]
  refine wpAnyN_take 4 [7, 8, 9, 10] (oi := { dst := some 92, op := Go.Op.load 3 (Go.Operand.tmp 91), type := 3, pos := "run.go:87", after := #[{ on := 3, ground := Go.Ground.data }], guard := none }) (v := ?_) rfl (by kernel_rfl) (by kernel_rfl) (by kernel_rfl) (by kernel_rfl) (fun _ _ _ h => h) (Or.inl ⟨by rfl, ?hE49⟩) hs0 ?_
  case hE49 =>
    intro u hu
    obtain ⟨u0, u1, u2, u3, u4, u5, u6⟩ := hu
    go_simp
    try with_reducible rfl
  simp only [Act.put, List.setIfInBounds_toArray, List.set_cons_zero, List.set_cons_succ]
  refine wpAnyN_take 5 [6, 7, 8, 9, 10] (oi := { dst := some 93, op := Go.Op.nilCheck (Go.Operand.tmp 90), type := 0, pos := "run.go:87", after := #[{ on := 2, ground := Go.Ground.data }], guard := none }) (v := ?_) rfl (by kernel_rfl) (by kernel_rfl) (by kernel_rfl) (by kernel_rfl) (fun _ _ _ h => h) (Or.inl ⟨by rfl, ?hE50⟩) hs0 ?_
  case hE50 =>
    intro u hu
    obtain ⟨u0, u1, u2, u3, u4, u5, u6⟩ := hu
    go_simp
    try with_reducible rfl
  simp only [Act.put, List.setIfInBounds_toArray, List.set_cons_zero, List.set_cons_succ]
  refine wpAnyN_take 6 [7, 8, 9, 10] (oi := { dst := some 94, op := Go.Op.fieldAddr 69 (Go.Operand.tmp 93) 3, type := 0, pos := "run.go:87", after := #[{ on := 5, ground := Go.Ground.data }], guard := none }) (v := ?_) rfl (by kernel_rfl) (by kernel_rfl) (by kernel_rfl) (by kernel_rfl) (fun _ _ _ h => h) (Or.inl ⟨by rfl, ?hE51⟩) hs0 ?_
  case hE51 =>
    intro u hu
    obtain ⟨u0, u1, u2, u3, u4, u5, u6⟩ := hu
    go_simp
    try with_reducible rfl
  simp only [Act.put, List.setIfInBounds_toArray, List.set_cons_zero, List.set_cons_succ]
  refine wpAnyN_take 7 [8, 9, 10] (oi := { dst := some 95, op := Go.Op.indexAddr 67 (Go.Operand.tmp 94) (Go.Operand.tmp 92), type := 0, pos := "run.go:87", after := #[{ on := 6, ground := Go.Ground.data }, { on := 4, ground := Go.Ground.data }], guard := none }) (v := ?_) rfl (by kernel_rfl) (by kernel_rfl) (by kernel_rfl) (by kernel_rfl) (fun _ _ _ h => h) (Or.inl ⟨by rfl, ?hE52⟩) hs0 ?_
  case hE52 =>
    intro u hu
    obtain ⟨u0, u1, u2, u3, u4, u5, u6⟩ := hu
    go_simp
    try with_reducible rfl
  simp only [Act.put, List.setIfInBounds_toArray, List.set_cons_zero, List.set_cons_succ]
  refine wpAnyN_take 8 [9, 10] (oi := { dst := some 96, op := Go.Op.load 2 (Go.Operand.tmp 95), type := 2, pos := "run.go:87", after := #[{ on := 7, ground := Go.Ground.data }], guard := none }) (v := ?_) rfl (by kernel_rfl) (by kernel_rfl) (by kernel_rfl) (by kernel_rfl) (fun _ _ _ h => h) (Or.inl ⟨by rfl, ?hE53⟩) hs0 ?_
  case hE53 =>
    intro u hu
    obtain ⟨u0, u1, u2, u3, u4, u5, u6⟩ := hu
    go_simp
    try with_reducible rfl
  simp only [Act.put, List.setIfInBounds_toArray, List.set_cons_zero, List.set_cons_succ]
  refine wpAnyN_one (i := 9) (o := { dst := some 97, op := Go.Op.call { callee := Go.Callee.value (Go.Operand.func 45), args := #[Go.Operand.tmp 88, Go.Operand.tmp 89, Go.Operand.const (Go.Value.int Go.IntKind.u8 1), Go.Operand.tmp 96], argTypes := #[64, 52, 53, 2] }, type := 4, pos := "run.go:87", after := #[{ on := 0, ground := Go.Ground.data }, { on := 1, ground := Go.Ground.data }, { on := 8, ground := Go.Ground.data }], guard := none }) (by kernel_rfl) rfl (fun K hK => ?_)
  go_simp
  (with_reducible refine Calls.mono hcl ?_)
  rintro e w2 ⟨rfl, h2⟩
  have H := hide h2
  clear h2 hcl
  refine hK _ _ (fun h => absurd (by decide) h) ?_
  clear hK K
  try simp only [Act.put, List.setIfInBounds_toArray, List.set_cons_zero, List.set_cons_succ]
  refine wpAnyN_one (i := 10) (o := { dst := some 4, op := Go.Op.assign (Go.Operand.tmp 97), type := 4, pos := "run.go:87", after := #[{ on := 9, ground := Go.Ground.data }, { on := 9, ground := Go.Ground.chain }, { on := 0, ground := Go.Ground.phase }, { on := 1, ground := Go.Ground.phase }, { on := 2, ground := Go.Ground.phase }, { on := 3, ground := Go.Ground.phase }, { on := 4, ground := Go.Ground.phase }, { on := 5, ground := Go.Ground.phase }, { on := 6, ground := Go.Ground.phase }, { on := 7, ground := Go.Ground.phase }, { on := 8, ground := Go.Ground.phase }, { on := 9, ground := Go.Ground.phase }], guard := none }) (by kernel_rfl) rfl (fun K hK => ?_)
  go_simp
  refine hK _ _ (fun h => absurd (by decide) h) ?_
  clear hK K
  try simp only [Act.put, List.setIfInBounds_toArray, List.set_cons_zero, List.set_cons_succ]
  refine wpAnyN_done (by kernel_rfl) ?_
  go_wp2
  go_ret
  exact ⟨rfl, H.out⟩
set_option maxRecDepth 100000 in
set_option maxHeartbeats 1600000 in
theorem do_11 {W : World} {b mb : Nat} {cv sv : Value} {w : World} {s : St} {kn : Int → Option Oc} {sg : List Int} (E : Ev W b mb sv kn sg) (h : Rn W b cv (.map (some mb)) sv w s) (hp : Plc s.place) (hsg : s.sig ≤ sg.length) (a k c n : Int) (t : ByteArray) (ha0 : 0 ≤ a) (ha : a < 16) (hb0 : 0 ≤ k) (hb : k < 16) (ht : t.size ≤ 1000000) :
    Calls Tryd.prog 31 #[.pointer (some ⟨b, 0, none⟩), .agg #[.int .u8 11, .int .i64 a, .int .i64 k, .int .i64 c, .int .i64 n, .string t]] w fun e w' => e = .returned (.bool (doI kn sg ⟨11, a, k, c, n, t⟩ s).2) ∧ Rn W b cv (.map (some mb)) sv w' (doI kn sg ⟨11, a, k, c, n, t⟩ s).1 := by
  have hbl : b < w.heap.size := h.lt
  obtain ⟨hp0, hp1⟩ := hp
  obtain ⟨pl, HPL⟩ := named s.place
  rw [← HPL.out] at hp0 hp1
  have hwr : IntKind.i64.wrap (pl + 1) = pl + 1 := wrap_in _ (by omega) (by omega)
  have d19 : w.cell? ⟨b, 19, none⟩ = some (.int .i64 pl) := by rw [HPL.out]; exact h.cell.2.2.2.1
  have f19 := h.free 19
  obtain ⟨wg, HWG⟩ := named (w.setCell ⟨b, 19, none⟩ (.int .i64 (pl + 1)))
  obtain ⟨s1, HS1⟩ := named (s.go (s.place + 1))
  have hg : Rn W b cv (.map (some mb)) sv wg s1 := by rw [HWG.out, HS1.out, ← HPL.out]; exact h.go _
  have hzg : wg.heap.size = w.heap.size := by rw [HWG.out]; simp [World.setCell]
  obtain ⟨pb, HPB⟩ := named w.heap.size
  have hpb : b < pb := by rw [HPB.out]; exact hbl
  obtain ⟨W1, HW⟩ := named (wg.alloc (.cells #[.int .u8 11, .int .i64 a, .int .i64 k, .int .i64 c, .int .i64 n, .string t] 52))
  have h1 : Rn W b cv (.map (some mb)) sv W1 s1 := by rw [HW.out]; exact hg.alloc _
  have xb : RC 6 W1 pb (fun k' => ([.int .u8 11, .int .i64 a, .int .i64 k, .int .i64 c, .int .i64 n, .string t] : List Value).getD k' undef) := by
    rw [HW.out, HPB.out, ← hzg]
    refine RC.new wg _ 52 _ (fun k hk => ?_)
    rcases (show k = 0 ∨ k = 1 ∨ k = 2 ∨ k = 3 ∨ k = 4 ∨ k = 5 by omega) with rfl | rfl | rfl | rfl | rfl | rfl <;> rfl
  have y0 : W1.cell? ⟨pb, 0, none⟩ = some (.int .u8 11) := xb.2.1 0 (by omega)
  have y1 : W1.cell? ⟨pb, 1, none⟩ = some (.int .i64 a) := xb.2.1 1 (by omega)
  have y2 : W1.cell? ⟨pb, 2, none⟩ = some (.int .i64 k) := xb.2.1 2 (by omega)
  have y3 : W1.cell? ⟨pb, 3, none⟩ = some (.int .i64 c) := xb.2.1 3 (by omega)
  have y4 : W1.cell? ⟨pb, 4, none⟩ = some (.int .i64 n) := xb.2.1 4 (by omega)
  have y5 : W1.cell? ⟨pb, 5, none⟩ = some (.string t) := xb.2.1 5 (by omega)
  have hsg1 : s1.sig ≤ sg.length := by rw [HS1.out]; exact hsg
  have e : doI kn sg ⟨11, a, k, c, n, t⟩ s = beginI ⟨11, a, k, c, n, t⟩ 2 (if getR s1 k < 0 then 0 else getR s1 k) s1 := by rw [HS1.out]; rfl
  rw [e]
  obtain ⟨j', HJ'⟩ := Int.eq_ofNat_of_zero_le hb0
  subst HJ'
  have h2 := h1.drew
  have rb := h2.reg j' (by omega) (by omega)
  simp only [Int.toNat_natCast] at rb
  obtain ⟨x, HX⟩ := named (getR s1 j')
  rw [← HX.out] at rb ⊢
  obtain ⟨x2, HX2⟩ := named (if x < 0 then 0 else x)
  rw [← HX2.out]
  have hmx : max x 0 = x2 := by rw [HX2.out]; split <;> omega
  have hcl := begin_any h2 ⟨11, a, j', c, n, t⟩ 2 x2 ha0 ha ht
  have hcl : Calls Tryd.prog 45 #[.pointer (some ⟨b, 0, none⟩), .agg #[.int .u8 11, .int .i64 a, .int .i64 j', .int .i64 c, .int .i64 n, .string t], .int .u8 2, .int .i64 x2] W1.drew _ := hcl
  have hs0 : W1.drew.cell? ⟨pb, 0, none⟩ = some (.int .u8 11) ∧ W1.drew.cell? ⟨pb, 1, none⟩ = some (.int .i64 a) ∧ W1.drew.cell? ⟨pb, 2, none⟩ = some (.int .i64 j') ∧ W1.drew.cell? ⟨pb, 3, none⟩ = some (.int .i64 c) ∧ W1.drew.cell? ⟨pb, 4, none⟩ = some (.int .i64 n) ∧ W1.drew.cell? ⟨pb, 5, none⟩ = some (.string t) ∧ W1.drew.cell? ⟨b, 3 + j', none⟩ = some (.int .i64 x) := ⟨y0, y1, y2, y3, y4, y5, rb⟩
  obtain ⟨R, HR⟩ := named (beginI ⟨11, a, j', c, n, t⟩ 2 x2 s1)
  rw [← HR.out] at hcl ⊢
  clear h2
  clear h hg h1 xb hzg
  go_enter Tryd.func31, Tryd.ntmps31
  go_wp2_with fail
  rw [← HWG.out, ← HW.out, ← HPB.out]
  refine wp_region_N [10, 11] (fun w' => w'.cell? ⟨pb, 0, none⟩ = some (.int .u8 11) ∧ w'.cell? ⟨pb, 1, none⟩ = some (.int .i64 a) ∧ w'.cell? ⟨pb, 2, none⟩ = some (.int .i64 j') ∧ w'.cell? ⟨pb, 3, none⟩ = some (.int .i64 c) ∧ w'.cell? ⟨pb, 4, none⟩ = some (.int .i64 n) ∧ w'.cell? ⟨pb, 5, none⟩ = some (.string t) ∧ w'.cell? ⟨b, 3 + j', none⟩ = some (.int .i64 x)) (by kernel_rfl) ?_
  refine wpAnyN_take 0 [10, 11] (oi := { dst := some 100, op := Go.Op.move (Go.Operand.tmp 0), type := 64, pos := "run.go:89", after := #[], guard := none }) (v := ?_) rfl (by kernel_rfl) (by kernel_rfl) (by kernel_rfl) (by kernel_rfl) (fun _ _ _ h => h) (Or.inl ⟨by rfl, ?hE54⟩) hs0 ?_
  case hE54 =>
    intro u hu
    obtain ⟨u0, u1, u2, u3, u4, u5, u6⟩ := hu
    go_simp
    try with_reducible rfl
  simp only [Act.put, List.setIfInBounds_toArray, List.set_cons_zero, List.set_cons_succ]
  refine wpAnyN_take 1 [10, 11] (oi := { dst := some 101, op := Go.Op.load 52 (Go.Operand.tmp 3), type := 52, pos := "run.go:89", after := #[], guard := none }) (v := ?_) rfl (by kernel_rfl) (by kernel_rfl) (by kernel_rfl) (by kernel_rfl) (fun _ _ _ h => h) (Or.inl ⟨by rfl, ?hE55⟩) hs0 ?_
  case hE55 =>
    intro u hu
    obtain ⟨u0, u1, u2, u3, u4, u5, u6⟩ := hu
    go_simp
    try with_reducible rfl
  simp only [Act.put, List.setIfInBounds_toArray, List.set_cons_zero, List.set_cons_succ]
  refine wpAnyN_take 2 [5, 6, 7, 8, 9, 10, 11] (oi := { dst := some 102, op := Go.Op.move (Go.Operand.tmp 0), type := 64, pos := "run.go:89", after := #[], guard := none }) (v := ?_) rfl (by kernel_rfl) (by kernel_rfl) (by kernel_rfl) (by kernel_rfl) (fun _ _ _ h => h) (Or.inl ⟨by rfl, ?hE56⟩) hs0 ?_
  case hE56 =>
    intro u hu
    obtain ⟨u0, u1, u2, u3, u4, u5, u6⟩ := hu
    go_simp
    try with_reducible rfl
  simp only [Act.put, List.setIfInBounds_toArray, List.set_cons_zero, List.set_cons_succ]
  refine wpAnyN_take 3 [4, 7, 8, 9, 10, 11] (oi := { dst := some 103, op := Go.Op.fieldAddr 52 (Go.Operand.tmp 3) 2, type := 0, pos := "run.go:89", after := #[], guard := none }) (v := ?_) rfl (by kernel_rfl) (by kernel_rfl) (by kernel_rfl) (by kernel_rfl) (fun _ _ _ h => h) (Or.inl ⟨by rfl, ?hE57⟩) hs0 ?_
  case hE57 =>
    intro u hu
    obtain ⟨u0, u1, u2, u3, u4, u5, u6⟩ := hu
    go_simp
    try with_reducible rfl
  simp only [Act.put, List.setIfInBounds_toArray, List.set_cons_zero, List.set_cons_succ]
  refine wpAnyN_take 4 [7, 8, 9, 10, 11] (oi := { dst := some 104, op := Go.Op.load 3 (Go.Operand.tmp 103), type := 3, pos := "run.go:89", after := #[{ on := 3, ground := Go.Ground.data }], guard := none }) (v := ?_) rfl (by kernel_rfl) (by kernel_rfl) (by kernel_rfl) (by kernel_rfl) (fun _ _ _ h => h) (Or.inl ⟨by rfl, ?hE58⟩) hs0 ?_
  case hE58 =>
    intro u hu
    obtain ⟨u0, u1, u2, u3, u4, u5, u6⟩ := hu
    go_simp
    try with_reducible rfl
  simp only [Act.put, List.setIfInBounds_toArray, List.set_cons_zero, List.set_cons_succ]
  refine wpAnyN_take 5 [6, 7, 8, 9, 10, 11] (oi := { dst := some 105, op := Go.Op.nilCheck (Go.Operand.tmp 102), type := 0, pos := "run.go:89", after := #[{ on := 2, ground := Go.Ground.data }], guard := none }) (v := ?_) rfl (by kernel_rfl) (by kernel_rfl) (by kernel_rfl) (by kernel_rfl) (fun _ _ _ h => h) (Or.inl ⟨by rfl, ?hE59⟩) hs0 ?_
  case hE59 =>
    intro u hu
    obtain ⟨u0, u1, u2, u3, u4, u5, u6⟩ := hu
    go_simp
    try with_reducible rfl
  simp only [Act.put, List.setIfInBounds_toArray, List.set_cons_zero, List.set_cons_succ]
  refine wpAnyN_take 6 [7, 8, 9, 10, 11] (oi := { dst := some 106, op := Go.Op.fieldAddr 69 (Go.Operand.tmp 105) 3, type := 0, pos := "run.go:89", after := #[{ on := 5, ground := Go.Ground.data }], guard := none }) (v := ?_) rfl (by kernel_rfl) (by kernel_rfl) (by kernel_rfl) (by kernel_rfl) (fun _ _ _ h => h) (Or.inl ⟨by rfl, ?hE60⟩) hs0 ?_
  case hE60 =>
    intro u hu
    obtain ⟨u0, u1, u2, u3, u4, u5, u6⟩ := hu
    go_simp
    try with_reducible rfl
  simp only [Act.put, List.setIfInBounds_toArray, List.set_cons_zero, List.set_cons_succ]
  refine wpAnyN_take 7 [8, 9, 10, 11] (oi := { dst := some 107, op := Go.Op.indexAddr 67 (Go.Operand.tmp 106) (Go.Operand.tmp 104), type := 0, pos := "run.go:89", after := #[{ on := 6, ground := Go.Ground.data }, { on := 4, ground := Go.Ground.data }], guard := none }) (v := ?_) rfl (by kernel_rfl) (by kernel_rfl) (by kernel_rfl) (by kernel_rfl) (fun _ _ _ h => h) (Or.inl ⟨by rfl, ?hE61⟩) hs0 ?_
  case hE61 =>
    intro u hu
    obtain ⟨u0, u1, u2, u3, u4, u5, u6⟩ := hu
    go_simp
    try with_reducible rfl
  simp only [Act.put, List.setIfInBounds_toArray, List.set_cons_zero, List.set_cons_succ]
  refine wpAnyN_take 8 [9, 10, 11] (oi := { dst := some 108, op := Go.Op.load 2 (Go.Operand.tmp 107), type := 2, pos := "run.go:89", after := #[{ on := 7, ground := Go.Ground.data }], guard := none }) (v := ?_) rfl (by kernel_rfl) (by kernel_rfl) (by kernel_rfl) (by kernel_rfl) (fun _ _ _ h => h) (Or.inl ⟨by rfl, ?hE62⟩) hs0 ?_
  case hE62 =>
    intro u hu
    obtain ⟨u0, u1, u2, u3, u4, u5, u6⟩ := hu
    go_simp
    try with_reducible rfl
  simp only [Act.put, List.setIfInBounds_toArray, List.set_cons_zero, List.set_cons_succ]
  refine wpAnyN_one (i := 9) (o := { dst := some 109, op := Go.Op.call { callee := Go.Callee.builtin Go.Builtin.max, args := #[Go.Operand.tmp 108, Go.Operand.const (Go.Value.int Go.IntKind.i64 0)], argTypes := #[2, 2] }, type := 2, pos := "run.go:89", after := #[{ on := 8, ground := Go.Ground.data }], guard := none }) (by kernel_rfl) rfl (fun K hK => ?_)
  go_simp
  refine hK _ _ (fun _ => hs0) ?_
  clear hK K
  try simp only [Act.put, List.setIfInBounds_toArray, List.set_cons_zero, List.set_cons_succ]
  refine wpAnyN_one (i := 10) (o := { dst := some 110, op := Go.Op.call { callee := Go.Callee.value (Go.Operand.func 45), args := #[Go.Operand.tmp 100, Go.Operand.tmp 101, Go.Operand.const (Go.Value.int Go.IntKind.u8 2), Go.Operand.tmp 109], argTypes := #[64, 52, 53, 2] }, type := 4, pos := "run.go:89", after := #[{ on := 0, ground := Go.Ground.data }, { on := 1, ground := Go.Ground.data }, { on := 9, ground := Go.Ground.data }], guard := none }) (by kernel_rfl) rfl (fun K hK => ?_)
  go_simp
  (with_reducible refine Calls.mono hcl ?_)
  rintro e w2 ⟨rfl, h2⟩
  have H := hide h2
  clear h2 hcl
  refine hK _ _ (fun h => absurd (by decide) h) ?_
  clear hK K
  try simp only [Act.put, List.setIfInBounds_toArray, List.set_cons_zero, List.set_cons_succ]
  refine wpAnyN_one (i := 11) (o := { dst := some 4, op := Go.Op.assign (Go.Operand.tmp 110), type := 4, pos := "run.go:89", after := #[{ on := 10, ground := Go.Ground.data }, { on := 10, ground := Go.Ground.chain }, { on := 0, ground := Go.Ground.phase }, { on := 1, ground := Go.Ground.phase }, { on := 2, ground := Go.Ground.phase }, { on := 3, ground := Go.Ground.phase }, { on := 4, ground := Go.Ground.phase }, { on := 5, ground := Go.Ground.phase }, { on := 6, ground := Go.Ground.phase }, { on := 7, ground := Go.Ground.phase }, { on := 8, ground := Go.Ground.phase }, { on := 9, ground := Go.Ground.phase }, { on := 10, ground := Go.Ground.phase }], guard := none }) (by kernel_rfl) rfl (fun K hK => ?_)
  go_simp
  refine hK _ _ (fun h => absurd (by decide) h) ?_
  clear hK K
  try simp only [Act.put, List.setIfInBounds_toArray, List.set_cons_zero, List.set_cons_succ]
  refine wpAnyN_done (by kernel_rfl) ?_
  go_wp2
  go_ret
  exact ⟨rfl, H.out⟩
set_option maxRecDepth 100000 in
set_option maxHeartbeats 1600000 in
theorem do_12 {W : World} {b mb : Nat} {cv sv : Value} {w : World} {s : St} {kn : Int → Option Oc} {sg : List Int} (E : Ev W b mb sv kn sg) (h : Rn W b cv (.map (some mb)) sv w s) (hp : Plc s.place) (hsg : s.sig ≤ sg.length) (a k c n : Int) (t : ByteArray) (ha0 : 0 ≤ a) (ha : a < 16) (hb0 : 0 ≤ k) (hb : k < 16) (ht : t.size ≤ 1000000) :
    Calls Tryd.prog 31 #[.pointer (some ⟨b, 0, none⟩), .agg #[.int .u8 12, .int .i64 a, .int .i64 k, .int .i64 c, .int .i64 n, .string t]] w fun e w' => e = .returned (.bool (doI kn sg ⟨12, a, k, c, n, t⟩ s).2) ∧ Rn W b cv (.map (some mb)) sv w' (doI kn sg ⟨12, a, k, c, n, t⟩ s).1 := by
  have hbl : b < w.heap.size := h.lt
  obtain ⟨hp0, hp1⟩ := hp
  obtain ⟨pl, HPL⟩ := named s.place
  rw [← HPL.out] at hp0 hp1
  have hwr : IntKind.i64.wrap (pl + 1) = pl + 1 := wrap_in _ (by omega) (by omega)
  have d19 : w.cell? ⟨b, 19, none⟩ = some (.int .i64 pl) := by rw [HPL.out]; exact h.cell.2.2.2.1
  have f19 := h.free 19
  obtain ⟨wg, HWG⟩ := named (w.setCell ⟨b, 19, none⟩ (.int .i64 (pl + 1)))
  obtain ⟨s1, HS1⟩ := named (s.go (s.place + 1))
  have hg : Rn W b cv (.map (some mb)) sv wg s1 := by rw [HWG.out, HS1.out, ← HPL.out]; exact h.go _
  have hzg : wg.heap.size = w.heap.size := by rw [HWG.out]; simp [World.setCell]
  obtain ⟨pb, HPB⟩ := named w.heap.size
  have hpb : b < pb := by rw [HPB.out]; exact hbl
  obtain ⟨W1, HW⟩ := named (wg.alloc (.cells #[.int .u8 12, .int .i64 a, .int .i64 k, .int .i64 c, .int .i64 n, .string t] 52))
  have h1 : Rn W b cv (.map (some mb)) sv W1 s1 := by rw [HW.out]; exact hg.alloc _
  have xb : RC 6 W1 pb (fun k' => ([.int .u8 12, .int .i64 a, .int .i64 k, .int .i64 c, .int .i64 n, .string t] : List Value).getD k' undef) := by
    rw [HW.out, HPB.out, ← hzg]
    refine RC.new wg _ 52 _ (fun k hk => ?_)
    rcases (show k = 0 ∨ k = 1 ∨ k = 2 ∨ k = 3 ∨ k = 4 ∨ k = 5 by omega) with rfl | rfl | rfl | rfl | rfl | rfl <;> rfl
  have y0 : W1.cell? ⟨pb, 0, none⟩ = some (.int .u8 12) := xb.2.1 0 (by omega)
  have y1 : W1.cell? ⟨pb, 1, none⟩ = some (.int .i64 a) := xb.2.1 1 (by omega)
  have y2 : W1.cell? ⟨pb, 2, none⟩ = some (.int .i64 k) := xb.2.1 2 (by omega)
  have y3 : W1.cell? ⟨pb, 3, none⟩ = some (.int .i64 c) := xb.2.1 3 (by omega)
  have y4 : W1.cell? ⟨pb, 4, none⟩ = some (.int .i64 n) := xb.2.1 4 (by omega)
  have y5 : W1.cell? ⟨pb, 5, none⟩ = some (.string t) := xb.2.1 5 (by omega)
  have hsg1 : s1.sig ≤ sg.length := by rw [HS1.out]; exact hsg
  have e : doI kn sg ⟨12, a, k, c, n, t⟩ s = beginI ⟨12, a, k, c, n, t⟩ 3 (getR s1 k) s1 := by rw [HS1.out]; rfl
  rw [e]
  obtain ⟨j', HJ'⟩ := Int.eq_ofNat_of_zero_le hb0
  subst HJ'
  have h2 := h1.drew
  have rb := h2.reg j' (by omega) (by omega)
  simp only [Int.toNat_natCast] at rb
  obtain ⟨x, HX⟩ := named (getR s1 j')
  rw [← HX.out] at rb ⊢
  have hcl := begin_any h2 ⟨12, a, j', c, n, t⟩ 3 x ha0 ha ht
  have hcl : Calls Tryd.prog 45 #[.pointer (some ⟨b, 0, none⟩), .agg #[.int .u8 12, .int .i64 a, .int .i64 j', .int .i64 c, .int .i64 n, .string t], .int .u8 3, .int .i64 x] W1.drew _ := hcl
  have hs0 : W1.drew.cell? ⟨pb, 0, none⟩ = some (.int .u8 12) ∧ W1.drew.cell? ⟨pb, 1, none⟩ = some (.int .i64 a) ∧ W1.drew.cell? ⟨pb, 2, none⟩ = some (.int .i64 j') ∧ W1.drew.cell? ⟨pb, 3, none⟩ = some (.int .i64 c) ∧ W1.drew.cell? ⟨pb, 4, none⟩ = some (.int .i64 n) ∧ W1.drew.cell? ⟨pb, 5, none⟩ = some (.string t) ∧ W1.drew.cell? ⟨b, 3 + j', none⟩ = some (.int .i64 x) := ⟨y0, y1, y2, y3, y4, y5, rb⟩
  obtain ⟨R, HR⟩ := named (beginI ⟨12, a, j', c, n, t⟩ 3 x s1)
  rw [← HR.out] at hcl ⊢
  clear h2
  clear h hg h1 xb hzg
  go_enter Tryd.func31, Tryd.ntmps31
  go_wp2_with fail
  rw [← HWG.out, ← HW.out, ← HPB.out]
  refine wp_region_N [9, 10] (fun w' => w'.cell? ⟨pb, 0, none⟩ = some (.int .u8 12) ∧ w'.cell? ⟨pb, 1, none⟩ = some (.int .i64 a) ∧ w'.cell? ⟨pb, 2, none⟩ = some (.int .i64 j') ∧ w'.cell? ⟨pb, 3, none⟩ = some (.int .i64 c) ∧ w'.cell? ⟨pb, 4, none⟩ = some (.int .i64 n) ∧ w'.cell? ⟨pb, 5, none⟩ = some (.string t) ∧ w'.cell? ⟨b, 3 + j', none⟩ = some (.int .i64 x)) (by kernel_rfl) ?_
  refine wpAnyN_take 0 [9, 10] (oi := { dst := some 113, op := Go.Op.move (Go.Operand.tmp 0), type := 64, pos := "run.go:91", after := #[], guard := none }) (v := ?_) rfl (by kernel_rfl) (by kernel_rfl) (by kernel_rfl) (by kernel_rfl) (fun _ _ _ h => h) (Or.inl ⟨by rfl, ?hE63⟩) hs0 ?_
  case hE63 =>
    intro u hu
    obtain ⟨u0, u1, u2, u3, u4, u5, u6⟩ := hu
    go_simp
    try with_reducible rfl
  simp only [Act.put, List.setIfInBounds_toArray, List.set_cons_zero, List.set_cons_succ]
  refine wpAnyN_take 1 [9, 10] (oi := { dst := some 114, op := Go.Op.load 52 (Go.Operand.tmp 3), type := 52, pos := "run.go:91", after := #[], guard := none }) (v := ?_) rfl (by kernel_rfl) (by kernel_rfl) (by kernel_rfl) (by kernel_rfl) (fun _ _ _ h => h) (Or.inl ⟨by rfl, ?hE64⟩) hs0 ?_
  case hE64 =>
    intro u hu
    obtain ⟨u0, u1, u2, u3, u4, u5, u6⟩ := hu
    go_simp
    try with_reducible rfl
  simp only [Act.put, List.setIfInBounds_toArray, List.set_cons_zero, List.set_cons_succ]
  refine wpAnyN_take 2 [5, 6, 7, 8, 9, 10] (oi := { dst := some 115, op := Go.Op.move (Go.Operand.tmp 0), type := 64, pos := "run.go:91", after := #[], guard := none }) (v := ?_) rfl (by kernel_rfl) (by kernel_rfl) (by kernel_rfl) (by kernel_rfl) (fun _ _ _ h => h) (Or.inl ⟨by rfl, ?hE65⟩) hs0 ?_
  case hE65 =>
    intro u hu
    obtain ⟨u0, u1, u2, u3, u4, u5, u6⟩ := hu
    go_simp
    try with_reducible rfl
  simp only [Act.put, List.setIfInBounds_toArray, List.set_cons_zero, List.set_cons_succ]
  refine wpAnyN_take 3 [4, 7, 8, 9, 10] (oi := { dst := some 116, op := Go.Op.fieldAddr 52 (Go.Operand.tmp 3) 2, type := 0, pos := "run.go:91", after := #[], guard := none }) (v := ?_) rfl (by kernel_rfl) (by kernel_rfl) (by kernel_rfl) (by kernel_rfl) (fun _ _ _ h => h) (Or.inl ⟨by rfl, ?hE66⟩) hs0 ?_
  case hE66 =>
    intro u hu
    obtain ⟨u0, u1, u2, u3, u4, u5, u6⟩ := hu
    go_simp
    try with_reducible rfl
  simp only [Act.put, List.setIfInBounds_toArray, List.set_cons_zero, List.set_cons_succ]
  refine wpAnyN_take 4 [7, 8, 9, 10] (oi := { dst := some 117, op := Go.Op.load 3 (Go.Operand.tmp 116), type := 3, pos := "run.go:91", after := #[{ on := 3, ground := Go.Ground.data }], guard := none }) (v := ?_) rfl (by kernel_rfl) (by kernel_rfl) (by kernel_rfl) (by kernel_rfl) (fun _ _ _ h => h) (Or.inl ⟨by rfl, ?hE67⟩) hs0 ?_
  case hE67 =>
    intro u hu
    obtain ⟨u0, u1, u2, u3, u4, u5, u6⟩ := hu
    go_simp
    try with_reducible rfl
  simp only [Act.put, List.setIfInBounds_toArray, List.set_cons_zero, List.set_cons_succ]
  refine wpAnyN_take 5 [6, 7, 8, 9, 10] (oi := { dst := some 118, op := Go.Op.nilCheck (Go.Operand.tmp 115), type := 0, pos := "run.go:91", after := #[{ on := 2, ground := Go.Ground.data }], guard := none }) (v := ?_) rfl (by kernel_rfl) (by kernel_rfl) (by kernel_rfl) (by kernel_rfl) (fun _ _ _ h => h) (Or.inl ⟨by rfl, ?hE68⟩) hs0 ?_
  case hE68 =>
    intro u hu
    obtain ⟨u0, u1, u2, u3, u4, u5, u6⟩ := hu
    go_simp
    try with_reducible rfl
  simp only [Act.put, List.setIfInBounds_toArray, List.set_cons_zero, List.set_cons_succ]
  refine wpAnyN_take 6 [7, 8, 9, 10] (oi := { dst := some 119, op := Go.Op.fieldAddr 69 (Go.Operand.tmp 118) 3, type := 0, pos := "run.go:91", after := #[{ on := 5, ground := Go.Ground.data }], guard := none }) (v := ?_) rfl (by kernel_rfl) (by kernel_rfl) (by kernel_rfl) (by kernel_rfl) (fun _ _ _ h => h) (Or.inl ⟨by rfl, ?hE69⟩) hs0 ?_
  case hE69 =>
    intro u hu
    obtain ⟨u0, u1, u2, u3, u4, u5, u6⟩ := hu
    go_simp
    try with_reducible rfl
  simp only [Act.put, List.setIfInBounds_toArray, List.set_cons_zero, List.set_cons_succ]
  refine wpAnyN_take 7 [8, 9, 10] (oi := { dst := some 120, op := Go.Op.indexAddr 67 (Go.Operand.tmp 119) (Go.Operand.tmp 117), type := 0, pos := "run.go:91", after := #[{ on := 6, ground := Go.Ground.data }, { on := 4, ground := Go.Ground.data }], guard := none }) (v := ?_) rfl (by kernel_rfl) (by kernel_rfl) (by kernel_rfl) (by kernel_rfl) (fun _ _ _ h => h) (Or.inl ⟨by rfl, ?hE70⟩) hs0 ?_
  case hE70 =>
    intro u hu
    obtain ⟨u0, u1, u2, u3, u4, u5, u6⟩ := hu
    go_simp
    try with_reducible rfl
  simp only [Act.put, List.setIfInBounds_toArray, List.set_cons_zero, List.set_cons_succ]
  refine wpAnyN_take 8 [9, 10] (oi := { dst := some 121, op := Go.Op.load 2 (Go.Operand.tmp 120), type := 2, pos := "run.go:91", after := #[{ on := 7, ground := Go.Ground.data }], guard := none }) (v := ?_) rfl (by kernel_rfl) (by kernel_rfl) (by kernel_rfl) (by kernel_rfl) (fun _ _ _ h => h) (Or.inl ⟨by rfl, ?hE71⟩) hs0 ?_
  case hE71 =>
    intro u hu
    obtain ⟨u0, u1, u2, u3, u4, u5, u6⟩ := hu
    go_simp
    try with_reducible rfl
  simp only [Act.put, List.setIfInBounds_toArray, List.set_cons_zero, List.set_cons_succ]
  refine wpAnyN_one (i := 9) (o := { dst := some 122, op := Go.Op.call { callee := Go.Callee.value (Go.Operand.func 45), args := #[Go.Operand.tmp 113, Go.Operand.tmp 114, Go.Operand.const (Go.Value.int Go.IntKind.u8 3), Go.Operand.tmp 121], argTypes := #[64, 52, 53, 2] }, type := 4, pos := "run.go:91", after := #[{ on := 0, ground := Go.Ground.data }, { on := 1, ground := Go.Ground.data }, { on := 8, ground := Go.Ground.data }], guard := none }) (by kernel_rfl) rfl (fun K hK => ?_)
  go_simp
  (with_reducible refine Calls.mono hcl ?_)
  rintro e w2 ⟨rfl, h2⟩
  have H := hide h2
  clear h2 hcl
  refine hK _ _ (fun h => absurd (by decide) h) ?_
  clear hK K
  try simp only [Act.put, List.setIfInBounds_toArray, List.set_cons_zero, List.set_cons_succ]
  refine wpAnyN_one (i := 10) (o := { dst := some 4, op := Go.Op.assign (Go.Operand.tmp 122), type := 4, pos := "run.go:91", after := #[{ on := 9, ground := Go.Ground.data }, { on := 9, ground := Go.Ground.chain }, { on := 0, ground := Go.Ground.phase }, { on := 1, ground := Go.Ground.phase }, { on := 2, ground := Go.Ground.phase }, { on := 3, ground := Go.Ground.phase }, { on := 4, ground := Go.Ground.phase }, { on := 5, ground := Go.Ground.phase }, { on := 6, ground := Go.Ground.phase }, { on := 7, ground := Go.Ground.phase }, { on := 8, ground := Go.Ground.phase }, { on := 9, ground := Go.Ground.phase }], guard := none }) (by kernel_rfl) rfl (fun K hK => ?_)
  go_simp
  refine hK _ _ (fun h => absurd (by decide) h) ?_
  clear hK K
  try simp only [Act.put, List.setIfInBounds_toArray, List.set_cons_zero, List.set_cons_succ]
  refine wpAnyN_done (by kernel_rfl) ?_
  go_wp2
  go_ret
  exact ⟨rfl, H.out⟩
end Go.Proofs.YtlngeonfabahnaaDoor
