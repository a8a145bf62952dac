/-
  The contract of of: a run by what is given. Own work.
-/
import Derived.Test.YtlngeonfabahnaaDoorLb
import Derived.Test.YtlngeonfabahnaaDoorOe
namespace Go.Proofs.YtlngeonfabahnaaDoor
open Go Go.RowKit
set_option linter.unusedSimpArgs false
set_option linter.unusedVariables false

/-- what a run is given -/
def givV (arg : Int) (kv sv : Value) (fuel : Int) : Value := .agg #[.int .i64 arg, kv, sv, .int .i64 fuel]
/-- the first of a row -/
theorem RdK.take {w : World} {ao : Option Addr} {n cap : Nat} {l : List (Int × Oc)} (h : RdK w (.slice ao n cap) l) (m : Nat) (hm : m ≤ l.length) : RdK w (.slice ao m cap) (l.take m) := by
  have := RdX.take h m (by simpa using hm)
  unfold RdK
  rwa [List.map_take]
theorem RdN.take {w : World} {ao : Option Addr} {n cap : Nat} {l : List Int} (h : RdN w (.slice ao n cap) l) (m : Nat) (hm : m ≤ l.length) : RdN w (.slice ao m cap) (l.take m) := by
  have := RdX.take h m (by simpa using hm)
  unfold RdN
  rwa [List.map_take]
theorem RdM.take {w : World} {ao : Option Addr} {n cap : Nat} {l : List Cm} (h : RdM w (.slice ao n cap) l) (m : Nat) (hm : m ≤ l.length) : RdM w (.slice ao m cap) (l.take m) := by
  have := RdX.take h m (by simpa using hm)
  unfold RdM
  rwa [List.map_take]
theorem min300 (n : Nat) : min (n : Int) 300 = ((min n 300 : Nat) : Int) := by omega
theorem take300 {α : Type} (l : List α) : l.take (min l.length 300) = l.take 300 := by
  rcases Nat.le_total l.length 300 with h | h
  · rw [Nat.min_eq_left h, List.take_of_length_le (Nat.le_refl _), List.take_of_length_le h]
  · rw [Nat.min_eq_right h]

set_option maxRecDepth 100000 in
set_option maxHeartbeats 1600000 in
theorem of_any (p : Prg) (cv : Value) (arg : Int) (kv : Value) (l : List (Int × Oc)) (sv : Value) (sg : List Int) (fuel : Int) (w : World) (hk : Kinds w) (hc : RdC w cv p.code) (hw : ∀ i ∈ p.code, i.wf) (hl : RdK w kv l) (hsv : RdN w sv sg) :
    Calls Tryd.prog 12 #[prgV p cv, givV arg kv sv fuel] w fun e w' => ∃ vc, e = .returned (.tuple #[stV (runR p arg (l.take 300) (sg.take 300) fuel).1 vc, .int .i64 (runR p arg (l.take 300) (sg.take 300) fuel).2]) ∧ OwnM w' w.heap.size vc (runR p arg (l.take 300) (sg.take 300) fuel).1.cmds ∧ Below w.heap.size w w' := by
  obtain ⟨ao, cap, hcv, -⟩ := hc.shape
  obtain ⟨ko, kc, hkv, hk1, hk2⟩ := hl.shape
  obtain ⟨so, sc, hsvv, hs1, hs2⟩ := hsv.shape
  obtain ⟨L, HL⟩ := named p.code.length
  rw [← HL.out] at hcv
  subst hcv hkv hsvv
  have HTK := hide (RdK.take hl (min l.length 300) (Nat.min_le_left _ _))
  have HTS := hide (RdN.take hsv (min sg.length 300) (Nat.min_le_left _ _))
  have hm1 := min300 l.length
  have hm2 := min300 sg.length
  have hq1 : (min l.length 300 : Nat) ≤ l.length ∧ min l.length 300 ≤ 300 := ⟨Nat.min_le_left _ _, Nat.min_le_right _ _⟩
  have hq2 : (min sg.length 300 : Nat) ≤ sg.length ∧ min sg.length 300 ≤ 300 := ⟨Nat.min_le_left _ _, Nat.min_le_right _ _⟩
  rw [take300] at HTK HTS
  obtain ⟨km, HKM⟩ := named (min l.length 300)
  obtain ⟨sm, HSM⟩ := named (min sg.length 300)
  rw [← HKM.out] at HTK hm1 hq1
  rw [← HSM.out] at HTS hm2 hq2
  obtain ⟨kl, HKL⟩ := named l.length
  obtain ⟨sl, HSL⟩ := named sg.length
  rw [← HKL.out] at hk1 hm1 hq1 ⊢
  rw [← HSL.out] at hs1 hm2 hq2 ⊢
  obtain ⟨pb, HPB⟩ := named w.heap.size
  obtain ⟨W1, HW1⟩ := named (((w.alloc (.cells #[.string p.name, .int .i64 p.regs, .slice ao L cap] 24)).alloc (.cells #[.int .i64 arg, .slice ko kl kc, .slice so sl sc, .int .i64 fuel] 28)).alloc (.cells #[.int .i64 0, .int .i64 0, .int .i64 0, .int .i64 0, .slice none 0 0, .int .i64 0, .int .i64 0] 35))
  have hb1 : Below w.heap.size w W1 := by rw [HW1.out]; exact (((Below.refl _ _).alloc (Nat.le_refl _) _).alloc (by simp) _).alloc (by simp; omega) _
  have xp : RC 3 W1 pb (fun k => ([.string p.name, .int .i64 p.regs, .slice ao L cap] : List Value).getD k undef) := by
    rw [HW1.out, HPB.out]
    refine ((RC.new w _ 24 _ (fun k hk => ?_)).alloc _).alloc _
    rcases (show k = 0 ∨ k = 1 ∨ k = 2 by omega) with rfl | rfl | rfl <;> rfl
  have hz : (w.alloc (.cells #[.string p.name, .int .i64 p.regs, .slice ao L cap] 24)).heap.size = pb + 1 := by rw [HPB.out]; simp
  have xg : RC 4 W1 (pb + 1) (fun k => ([.int .i64 arg, .slice ko kl kc, .slice so sl sc, .int .i64 fuel] : List Value).getD k undef) := by
    rw [HW1.out, ← hz]
    refine (RC.new _ _ 28 _ (fun k hk => ?_)).alloc _
    rcases (show k = 0 ∨ k = 1 ∨ k = 2 ∨ k = 3 by omega) with rfl | rfl | rfl | rfl <;> rfl
  have hz2 : ((w.alloc (.cells #[.string p.name, .int .i64 p.regs, .slice ao L cap] 24)).alloc (.cells #[.int .i64 arg, .slice ko kl kc, .slice so sl sc, .int .i64 fuel] 28)).heap.size = pb + 2 := by rw [HPB.out]; simp
  have xr : RC 7 W1 (pb + 2) (fun k => ([.int .i64 0, .int .i64 0, .int .i64 0, .int .i64 0, .slice none 0 0, .int .i64 0, .int .i64 0] : List Value).getD k undef) := by
    rw [HW1.out, ← hz2]
    refine RC.new _ _ 35 _ (fun k hk => ?_)
    rcases (show k = 0 ∨ k = 1 ∨ k = 2 ∨ k = 3 ∨ k = 4 ∨ k = 5 ∨ k = 6 by omega) with rfl | rfl | rfl | rfl | rfl | rfl | rfl <;> rfl
  have hzW : W1.heap.size = pb + 3 := by rw [HW1.out, HPB.out]; simp
  have HXR := hide xr
  have HB1 := hide hb1
  have hs0 : W1.drew.cell? ⟨pb, 0, none⟩ = some (.string p.name) ∧ W1.drew.cell? ⟨pb, 1, none⟩ = some (.int .i64 p.regs) ∧ W1.drew.cell? ⟨pb, 2, none⟩ = some (.slice ao L cap) ∧ W1.drew.cell? ⟨pb + 1, 0, none⟩ = some (.int .i64 arg) ∧ W1.drew.cell? ⟨pb + 1, 1, none⟩ = some (.slice ko kl kc) ∧ W1.drew.cell? ⟨pb + 1, 2, none⟩ = some (.slice so sl sc) ∧ W1.drew.cell? ⟨pb + 1, 3, none⟩ = some (.int .i64 fuel) :=
    ⟨xp.2.1 0 (by omega), xp.2.1 1 (by omega), xp.2.1 2 (by omega), xg.2.1 0 (by omega), xg.2.1 1 (by omega), xg.2.1 2 (by omega), xg.2.1 3 (by omega)⟩
  have hcl := run_any p (.slice ao L cap) arg (.slice ko km kc) (l.take 300) (.slice so sm sc) (sg.take 300) fuel W1.drew (hk.below hb1.drew) (hc.below hb1.drew) hw (RdX.below HTK.out hb1.drew) (by simp; omega) (RdX.below HTS.out hb1.drew) (by simp; omega)
  obtain ⟨R, HR⟩ := named (runR p arg (l.take 300) (sg.take 300) fuel)
  rw [← HR.out] at hcl ⊢
  have hcl : Calls Tryd.prog 17 #[.agg #[.string p.name, .int .i64 p.regs, .slice ao L cap], .int .i64 arg, .slice ko km kc, .slice so sm sc, .int .i64 fuel] W1.drew _ := hcl
  show Calls Tryd.prog 12 #[.agg #[.string p.name, .int .i64 p.regs, .slice ao L cap], .agg #[.int .i64 arg, .slice ko kl kc, .slice so sl sc, .int .i64 fuel]] w _
  obtain ⟨R1, R2⟩ := R
  simp only at hcl ⊢
  have g1 : (km : Int) ≤ (kc : Int) := by omega
  have g2 : (sm : Int) ≤ (sc : Int) := by omega
  have g3 : (kl : Int) ≤ (kc : Int) := by omega
  have g4 : (sl : Int) ≤ (sc : Int) := by omega
  have g5 : kc ≤ 9223372036854775807 ∧ sc ≤ 9223372036854775807 := by unfold maxLen at hk2 hs2; exact ⟨by omega, by omega⟩
  clear hk hc hl hsv hb1 xp xg xr hw hz hz2
  go_enter Tryd.func12, Tryd.ntmps12
  go_wp2_with fail
  rw [← HW1.out, ← HPB.out]
  refine wp_region_N [22, 23] (fun w' => w'.cell? ⟨pb, 0, none⟩ = some (.string p.name) ∧ w'.cell? ⟨pb, 1, none⟩ = some (.int .i64 p.regs) ∧ w'.cell? ⟨pb, 2, none⟩ = some (.slice ao L cap) ∧ w'.cell? ⟨pb + 1, 0, none⟩ = some (.int .i64 arg) ∧ w'.cell? ⟨pb + 1, 1, none⟩ = some (.slice ko kl kc) ∧ w'.cell? ⟨pb + 1, 2, none⟩ = some (.slice so sl sc) ∧ w'.cell? ⟨pb + 1, 3, none⟩ = some (.int .i64 fuel)) (by kernel_rfl) ?_
  refine wpAnyN_take 0 [22, 23] (oi := { dst := some 6, op := Go.Op.load 24 (Go.Operand.tmp 2), type := 24, pos := "law.go:40", after := #[], guard := none }) (v := ?_) rfl (by kernel_rfl) (by kernel_rfl) (by kernel_rfl) (by kernel_rfl) (fun _ _ _ h => h) (Or.inl ⟨by rfl, ?hE1⟩) hs0 ?_
  case hE1 =>
    intro u hu
    obtain ⟨u0, u1, u2, u3, u4, u5, u6⟩ := hu
    go_simp
    try with_reducible rfl
  simp only [Act.put, List.setIfInBounds_toArray, List.set_cons_zero, List.set_cons_succ]
  refine wpAnyN_take 1 [22, 23] (oi := { dst := some 7, op := Go.Op.fieldAddr 28 (Go.Operand.tmp 3) 0, type := 0, pos := "law.go:40", after := #[], guard := none }) (v := ?_) rfl (by kernel_rfl) (by kernel_rfl) (by kernel_rfl) (by kernel_rfl) (fun _ _ _ h => h) (Or.inl ⟨by rfl, ?hE2⟩) hs0 ?_
  case hE2 =>
    intro u hu
    obtain ⟨u0, u1, u2, u3, u4, u5, u6⟩ := hu
    go_simp
    try with_reducible rfl
  simp only [Act.put, List.setIfInBounds_toArray, List.set_cons_zero, List.set_cons_succ]
  refine wpAnyN_take 2 [22, 23] (oi := { dst := some 8, op := Go.Op.load 2 (Go.Operand.tmp 7), type := 2, pos := "law.go:40", after := #[{ on := 1, ground := Go.Ground.data }], guard := none }) (v := ?_) rfl (by kernel_rfl) (by kernel_rfl) (by kernel_rfl) (by kernel_rfl) (fun _ _ _ h => h) (Or.inl ⟨by rfl, ?hE3⟩) hs0 ?_
  case hE3 =>
    intro u hu
    obtain ⟨u0, u1, u2, u3, u4, u5, u6⟩ := hu
    go_simp
    try with_reducible rfl
  simp only [Act.put, List.setIfInBounds_toArray, List.set_cons_zero, List.set_cons_succ]
  refine wpAnyN_take 3 [22, 23] (oi := { dst := some 9, op := Go.Op.fieldAddr 28 (Go.Operand.tmp 3) 1, type := 0, pos := "law.go:40", after := #[], guard := none }) (v := ?_) rfl (by kernel_rfl) (by kernel_rfl) (by kernel_rfl) (by kernel_rfl) (fun _ _ _ h => h) (Or.inl ⟨by rfl, ?hE4⟩) hs0 ?_
  case hE4 =>
    intro u hu
    obtain ⟨u0, u1, u2, u3, u4, u5, u6⟩ := hu
    go_simp
    try with_reducible rfl
  simp only [Act.put, List.setIfInBounds_toArray, List.set_cons_zero, List.set_cons_succ]
  refine wpAnyN_take 4 [22, 23] (oi := { dst := some 10, op := Go.Op.load 25 (Go.Operand.tmp 9), type := 25, pos := "law.go:40", after := #[{ on := 3, ground := Go.Ground.data }], guard := none }) (v := ?_) rfl (by kernel_rfl) (by kernel_rfl) (by kernel_rfl) (by kernel_rfl) (fun _ _ _ h => h) (Or.inl ⟨by rfl, ?hE5⟩) hs0 ?_
  case hE5 =>
    intro u hu
    obtain ⟨u0, u1, u2, u3, u4, u5, u6⟩ := hu
    go_simp
    try with_reducible rfl
  simp only [Act.put, List.setIfInBounds_toArray, List.set_cons_zero, List.set_cons_succ]
  refine wpAnyN_take 5 [22, 23] (oi := { dst := some 11, op := Go.Op.fieldAddr 28 (Go.Operand.tmp 3) 1, type := 0, pos := "law.go:40", after := #[], guard := none }) (v := ?_) rfl (by kernel_rfl) (by kernel_rfl) (by kernel_rfl) (by kernel_rfl) (fun _ _ _ h => h) (Or.inl ⟨by rfl, ?hE6⟩) hs0 ?_
  case hE6 =>
    intro u hu
    obtain ⟨u0, u1, u2, u3, u4, u5, u6⟩ := hu
    go_simp
    try with_reducible rfl
  simp only [Act.put, List.setIfInBounds_toArray, List.set_cons_zero, List.set_cons_succ]
  refine wpAnyN_take 6 [22, 23] (oi := { dst := some 12, op := Go.Op.load 25 (Go.Operand.tmp 11), type := 25, pos := "law.go:40", after := #[{ on := 5, ground := Go.Ground.data }], guard := none }) (v := ?_) rfl (by kernel_rfl) (by kernel_rfl) (by kernel_rfl) (by kernel_rfl) (fun _ _ _ h => h) (Or.inl ⟨by rfl, ?hE7⟩) hs0 ?_
  case hE7 =>
    intro u hu
    obtain ⟨u0, u1, u2, u3, u4, u5, u6⟩ := hu
    go_simp
    try with_reducible rfl
  simp only [Act.put, List.setIfInBounds_toArray, List.set_cons_zero, List.set_cons_succ]
  refine wpAnyN_take 7 [22, 23] (oi := { dst := some 13, op := Go.Op.call { callee := Go.Callee.builtin Go.Builtin.len, args := #[Go.Operand.tmp 12], argTypes := #[25] }, type := 3, pos := "law.go:40", after := #[{ on := 6, ground := Go.Ground.data }], guard := none }) (v := ?_) rfl (by kernel_rfl) (by kernel_rfl) (by kernel_rfl) (by kernel_rfl) (fun _ _ _ h => h) (Or.inl ⟨by rfl, ?hE8⟩) hs0 ?_
  case hE8 =>
    intro u hu
    obtain ⟨u0, u1, u2, u3, u4, u5, u6⟩ := hu
    go_simp
    try with_reducible rfl
  simp only [Act.put, List.setIfInBounds_toArray, List.set_cons_zero, List.set_cons_succ]
  refine wpAnyN_take 8 [22, 23] (oi := { dst := some 14, op := Go.Op.call { callee := Go.Callee.builtin Go.Builtin.min, args := #[Go.Operand.tmp 13, Go.Operand.const (Go.Value.int Go.IntKind.i64 300)], argTypes := #[3, 3] }, type := 3, pos := "law.go:40", after := #[{ on := 7, ground := Go.Ground.data }], guard := none }) (v := ?_) rfl (by kernel_rfl) (by kernel_rfl) (by kernel_rfl) (by kernel_rfl) (fun _ _ _ h => h) (Or.inl ⟨by rfl, ?hE9⟩) hs0 ?_
  case hE9 =>
    intro u hu
    obtain ⟨u0, u1, u2, u3, u4, u5, u6⟩ := hu
    go_simp
    try with_reducible rfl
  simp only [Act.put, List.setIfInBounds_toArray, List.set_cons_zero, List.set_cons_succ]
  refine wpAnyN_take 9 [22, 23] (oi := { dst := some 15, op := Go.Op.slice 25 (Go.Operand.tmp 10) none (some (Go.Operand.tmp 14)) none, type := 25, pos := "law.go:40", after := #[{ on := 4, ground := Go.Ground.data }, { on := 8, ground := Go.Ground.data }], guard := none }) (v := ?_) rfl (by kernel_rfl) (by kernel_rfl) (by kernel_rfl) (by kernel_rfl) (fun _ _ _ h => h) (Or.inl ⟨by rfl, ?hE10⟩) hs0 ?_
  case hE10 =>
    intro u hu
    obtain ⟨u0, u1, u2, u3, u4, u5, u6⟩ := hu
    go_simp
    try with_reducible rfl
  simp only [Act.put, List.setIfInBounds_toArray, List.set_cons_zero, List.set_cons_succ]
  refine wpAnyN_take 10 [22, 23] (oi := { dst := some 16, op := Go.Op.fieldAddr 28 (Go.Operand.tmp 3) 2, type := 0, pos := "law.go:40", after := #[], guard := none }) (v := ?_) rfl (by kernel_rfl) (by kernel_rfl) (by kernel_rfl) (by kernel_rfl) (fun _ _ _ h => h) (Or.inl ⟨by rfl, ?hE11⟩) hs0 ?_
  case hE11 =>
    intro u hu
    obtain ⟨u0, u1, u2, u3, u4, u5, u6⟩ := hu
    go_simp
    try with_reducible rfl
  simp only [Act.put, List.setIfInBounds_toArray, List.set_cons_zero, List.set_cons_succ]
  refine wpAnyN_take 11 [22, 23] (oi := { dst := some 17, op := Go.Op.load 26 (Go.Operand.tmp 16), type := 26, pos := "law.go:40", after := #[{ on := 10, ground := Go.Ground.data }], guard := none }) (v := ?_) rfl (by kernel_rfl) (by kernel_rfl) (by kernel_rfl) (by kernel_rfl) (fun _ _ _ h => h) (Or.inl ⟨by rfl, ?hE12⟩) hs0 ?_
  case hE12 =>
    intro u hu
    obtain ⟨u0, u1, u2, u3, u4, u5, u6⟩ := hu
    go_simp
    try with_reducible rfl
  simp only [Act.put, List.setIfInBounds_toArray, List.set_cons_zero, List.set_cons_succ]
  refine wpAnyN_take 12 [22, 23] (oi := { dst := some 18, op := Go.Op.fieldAddr 28 (Go.Operand.tmp 3) 2, type := 0, pos := "law.go:40", after := #[], guard := none }) (v := ?_) rfl (by kernel_rfl) (by kernel_rfl) (by kernel_rfl) (by kernel_rfl) (fun _ _ _ h => h) (Or.inl ⟨by rfl, ?hE13⟩) hs0 ?_
  case hE13 =>
    intro u hu
    obtain ⟨u0, u1, u2, u3, u4, u5, u6⟩ := hu
    go_simp
    try with_reducible rfl
  simp only [Act.put, List.setIfInBounds_toArray, List.set_cons_zero, List.set_cons_succ]
  refine wpAnyN_take 13 [22, 23] (oi := { dst := some 19, op := Go.Op.load 26 (Go.Operand.tmp 18), type := 26, pos := "law.go:40", after := #[{ on := 12, ground := Go.Ground.data }], guard := none }) (v := ?_) rfl (by kernel_rfl) (by kernel_rfl) (by kernel_rfl) (by kernel_rfl) (fun _ _ _ h => h) (Or.inl ⟨by rfl, ?hE14⟩) hs0 ?_
  case hE14 =>
    intro u hu
    obtain ⟨u0, u1, u2, u3, u4, u5, u6⟩ := hu
    go_simp
    try with_reducible rfl
  simp only [Act.put, List.setIfInBounds_toArray, List.set_cons_zero, List.set_cons_succ]
  refine wpAnyN_take 14 [22, 23] (oi := { dst := some 20, op := Go.Op.call { callee := Go.Callee.builtin Go.Builtin.len, args := #[Go.Operand.tmp 19], argTypes := #[26] }, type := 3, pos := "law.go:40", after := #[{ on := 13, ground := Go.Ground.data }], guard := none }) (v := ?_) rfl (by kernel_rfl) (by kernel_rfl) (by kernel_rfl) (by kernel_rfl) (fun _ _ _ h => h) (Or.inl ⟨by rfl, ?hE15⟩) hs0 ?_
  case hE15 =>
    intro u hu
    obtain ⟨u0, u1, u2, u3, u4, u5, u6⟩ := hu
    go_simp
    try with_reducible rfl
  simp only [Act.put, List.setIfInBounds_toArray, List.set_cons_zero, List.set_cons_succ]
  refine wpAnyN_take 15 [22, 23] (oi := { dst := some 21, op := Go.Op.call { callee := Go.Callee.builtin Go.Builtin.min, args := #[Go.Operand.tmp 20, Go.Operand.const (Go.Value.int Go.IntKind.i64 300)], argTypes := #[3, 3] }, type := 3, pos := "law.go:40", after := #[{ on := 14, ground := Go.Ground.data }], guard := none }) (v := ?_) rfl (by kernel_rfl) (by kernel_rfl) (by kernel_rfl) (by kernel_rfl) (fun _ _ _ h => h) (Or.inl ⟨by rfl, ?hE16⟩) hs0 ?_
  case hE16 =>
    intro u hu
    obtain ⟨u0, u1, u2, u3, u4, u5, u6⟩ := hu
    go_simp
    try with_reducible rfl
  simp only [Act.put, List.setIfInBounds_toArray, List.set_cons_zero, List.set_cons_succ]
  refine wpAnyN_take 16 [22, 23] (oi := { dst := some 22, op := Go.Op.slice 26 (Go.Operand.tmp 17) none (some (Go.Operand.tmp 21)) none, type := 26, pos := "law.go:40", after := #[{ on := 11, ground := Go.Ground.data }, { on := 15, ground := Go.Ground.data }], guard := none }) (v := ?_) rfl (by kernel_rfl) (by kernel_rfl) (by kernel_rfl) (by kernel_rfl) (fun _ _ _ h => h) (Or.inl ⟨by rfl, ?hE17⟩) hs0 ?_
  case hE17 =>
    intro u hu
    obtain ⟨u0, u1, u2, u3, u4, u5, u6⟩ := hu
    go_simp
    try with_reducible rfl
  simp only [Act.put, List.setIfInBounds_toArray, List.set_cons_zero, List.set_cons_succ]
  refine wpAnyN_take 17 [22, 23] (oi := { dst := some 23, op := Go.Op.fieldAddr 28 (Go.Operand.tmp 3) 3, type := 0, pos := "law.go:40", after := #[], guard := none }) (v := ?_) rfl (by kernel_rfl) (by kernel_rfl) (by kernel_rfl) (by kernel_rfl) (fun _ _ _ h => h) (Or.inl ⟨by rfl, ?hE18⟩) hs0 ?_
  case hE18 =>
    intro u hu
    obtain ⟨u0, u1, u2, u3, u4, u5, u6⟩ := hu
    go_simp
    try with_reducible rfl
  simp only [Act.put, List.setIfInBounds_toArray, List.set_cons_zero, List.set_cons_succ]
  refine wpAnyN_take 18 [22, 23] (oi := { dst := some 24, op := Go.Op.load 3 (Go.Operand.tmp 23), type := 3, pos := "law.go:40", after := #[{ on := 17, ground := Go.Ground.data }], guard := none }) (v := ?_) rfl (by kernel_rfl) (by kernel_rfl) (by kernel_rfl) (by kernel_rfl) (fun _ _ _ h => h) (Or.inl ⟨by rfl, ?hE19⟩) hs0 ?_
  case hE19 =>
    intro u hu
    obtain ⟨u0, u1, u2, u3, u4, u5, u6⟩ := hu
    go_simp
    try with_reducible rfl
  simp only [Act.put, List.setIfInBounds_toArray, List.set_cons_zero, List.set_cons_succ]
  refine wpAnyN_one (i := 19) (o := { dst := some 25, op := Go.Op.call { callee := Go.Callee.value (Go.Operand.func 17), args := #[Go.Operand.tmp 6, Go.Operand.tmp 8, Go.Operand.tmp 15, Go.Operand.tmp 22, Go.Operand.tmp 24], argTypes := #[24, 2, 25, 26, 3] }, type := 37, pos := "law.go:40", after := #[{ on := 0, ground := Go.Ground.data }, { on := 2, ground := Go.Ground.data }, { on := 9, ground := Go.Ground.data }, { on := 16, ground := Go.Ground.data }, { on := 18, ground := Go.Ground.data }], guard := none }) (by kernel_rfl) rfl (fun K hK => ?_)
  go_simp
  (with_reducible refine Calls.mono hcl ?_)
  rintro e w2 ⟨vc, rfl, hm2, hb2⟩
  have hb2 : Below W1.heap.size W1 w2 := ⟨hb2.os, hb2.tape, hb2.output, hb2.size, hb2.block⟩
  have hs1 : w2.cell? ⟨pb, 0, none⟩ = some (.string p.name) ∧ w2.cell? ⟨pb, 1, none⟩ = some (.int .i64 p.regs) ∧ w2.cell? ⟨pb, 2, none⟩ = some (.slice ao L cap) ∧ w2.cell? ⟨pb + 1, 0, none⟩ = some (.int .i64 arg) ∧ w2.cell? ⟨pb + 1, 1, none⟩ = some (.slice ko kl kc) ∧ w2.cell? ⟨pb + 1, 2, none⟩ = some (.slice so sl sc) ∧ w2.cell? ⟨pb + 1, 3, none⟩ = some (.int .i64 fuel) := ⟨(hb2.cell (p := ⟨pb, 0, none⟩) (by show pb < _; omega)).trans hs0.1, (hb2.cell (p := ⟨pb, 1, none⟩) (by show pb < _; omega)).trans hs0.2.1, (hb2.cell (p := ⟨pb, 2, none⟩) (by show pb < _; omega)).trans hs0.2.2.1, (hb2.cell (p := ⟨pb + 1, 0, none⟩) (by show pb + 1 < _; omega)).trans hs0.2.2.2.1, (hb2.cell (p := ⟨pb + 1, 1, none⟩) (by show pb + 1 < _; omega)).trans hs0.2.2.2.2.1, (hb2.cell (p := ⟨pb + 1, 2, none⟩) (by show pb + 1 < _; omega)).trans hs0.2.2.2.2.2.1, (hb2.cell (p := ⟨pb + 1, 3, none⟩) (by show pb + 1 < _; omega)).trans hs0.2.2.2.2.2.2⟩
  have HM2 := hide hm2
  have x2 := HXR.out.below hb2
  have z0 := x2.2.1 0 (by omega)
  have z1 := x2.2.1 1 (by omega)
  have z2 := x2.2.1 2 (by omega)
  have z3 := x2.2.1 3 (by omega)
  have z4 := x2.2.1 4 (by omega)
  have z5 := x2.2.1 5 (by omega)
  have z6 := x2.2.1 6 (by omega)
  have f0 := x2.2.2 0
  have f1 := x2.2.2 1
  have f2 := x2.2.2 2
  have f3 := x2.2.2 3
  have f4 := x2.2.2 4
  have f5 := x2.2.2 5
  have f6 := x2.2.2 6
  simp only at z0 z1 z2 z3 z4 z5 z6
  have HX2 := hide x2
  have HB2 := hide (HB1.out.trans (hb2.mono (by rw [hzW, ← HPB.out]; omega)))
  rw [show stV R1 vc = .agg #[.int .i64 R1.at_, .int .i64 R1.ost, .int .i64 R1.ova, .int .i64 R1.on, vc, .int .i64 R1.sig, .int .i64 R1.steps] from rfl]
  obtain ⟨mo, mc, hvc, -⟩ := RdM.shape (l := R1.cmds) hm2.rd
  subst hvc
  clear hm2 x2 hcl
  refine hK _ _ (fun _ => hs1) ?_
  clear hK K
  try simp only [Act.put, List.setIfInBounds_toArray, List.set_cons_zero, List.set_cons_succ]
  refine wpAnyN_take 20 [22, 23] (oi := { dst := some 26, op := Go.Op.extract (Go.Operand.tmp 25) 0, type := 35, pos := "law.go:40", after := #[{ on := 19, ground := Go.Ground.data }], guard := none }) (v := ?_) rfl (by kernel_rfl) (by kernel_rfl) (by kernel_rfl) (by kernel_rfl) (fun _ _ _ h => h) (Or.inl ⟨by rfl, ?hE20⟩) hs1 ?_
  case hE20 =>
    intro u hu
    obtain ⟨u0, u1, u2, u3, u4, u5, u6⟩ := hu
    go_simp
    try with_reducible rfl
  simp only [Act.put, List.setIfInBounds_toArray, List.set_cons_zero, List.set_cons_succ]
  refine wpAnyN_take 21 [22, 23] (oi := { dst := some 27, op := Go.Op.extract (Go.Operand.tmp 25) 1, type := 36, pos := "law.go:40", after := #[{ on := 19, ground := Go.Ground.data }], guard := none }) (v := ?_) rfl (by kernel_rfl) (by kernel_rfl) (by kernel_rfl) (by kernel_rfl) (fun _ _ _ h => h) (Or.inl ⟨by rfl, ?hE21⟩) hs1 ?_
  case hE21 =>
    intro u hu
    obtain ⟨u0, u1, u2, u3, u4, u5, u6⟩ := hu
    go_simp
    try with_reducible rfl
  simp only [Act.put, List.setIfInBounds_toArray, List.set_cons_zero, List.set_cons_succ]
  refine wpAnyN_one (i := 22) (o := { dst := none, op := Go.Op.store 35 (Go.Operand.tmp 4) (Go.Operand.tmp 26), type := 0, pos := "law.go:40", after := #[{ on := 20, ground := Go.Ground.data }, { on := 19, ground := Go.Ground.chain }, { on := 0, ground := Go.Ground.phase }, { on := 1, ground := Go.Ground.phase }, { on := 2, ground := Go.Ground.phase }, { on := 3, ground := Go.Ground.phase }, { on := 4, ground := Go.Ground.phase }, { on := 5, ground := Go.Ground.phase }, { on := 6, ground := Go.Ground.phase }, { on := 7, ground := Go.Ground.phase }, { on := 8, ground := Go.Ground.phase }, { on := 9, ground := Go.Ground.phase }, { on := 10, ground := Go.Ground.phase }, { on := 11, ground := Go.Ground.phase }, { on := 12, ground := Go.Ground.phase }, { on := 13, ground := Go.Ground.phase }, { on := 14, ground := Go.Ground.phase }, { on := 15, ground := Go.Ground.phase }, { on := 16, ground := Go.Ground.phase }, { on := 17, ground := Go.Ground.phase }, { on := 18, ground := Go.Ground.phase }, { on := 19, ground := Go.Ground.phase }, { on := 20, ground := Go.Ground.phase }, { on := 21, ground := Go.Ground.phase }], guard := none }) (by kernel_rfl) rfl (fun K hK => ?_)
  go_simp
  refine hK _ _ (fun h => absurd (by decide) h) ?_
  clear hK K
  try simp only [Act.put, List.setIfInBounds_toArray, List.set_cons_zero, List.set_cons_succ]
  refine wpAnyN_one (i := 23) (o := { dst := some 5, op := Go.Op.assign (Go.Operand.tmp 27), type := 36, pos := "law.go:40", after := #[{ on := 21, ground := Go.Ground.data }, { on := 22, ground := Go.Ground.chain }, { on := 0, ground := Go.Ground.phase }, { on := 1, ground := Go.Ground.phase }, { on := 2, ground := Go.Ground.phase }, { on := 3, ground := Go.Ground.phase }, { on := 4, ground := Go.Ground.phase }, { on := 5, ground := Go.Ground.phase }, { on := 6, ground := Go.Ground.phase }, { on := 7, ground := Go.Ground.phase }, { on := 8, ground := Go.Ground.phase }, { on := 9, ground := Go.Ground.phase }, { on := 10, ground := Go.Ground.phase }, { on := 11, ground := Go.Ground.phase }, { on := 12, ground := Go.Ground.phase }, { on := 13, ground := Go.Ground.phase }, { on := 14, ground := Go.Ground.phase }, { on := 15, ground := Go.Ground.phase }, { on := 16, ground := Go.Ground.phase }, { on := 17, ground := Go.Ground.phase }, { on := 18, ground := Go.Ground.phase }, { on := 19, ground := Go.Ground.phase }, { on := 20, ground := Go.Ground.phase }, { on := 21, ground := Go.Ground.phase }, { on := 22, ground := Go.Ground.phase }], guard := none }) (by kernel_rfl) rfl (fun K hK => ?_)
  go_simp
  refine hK _ _ (fun h => absurd (by decide) h) ?_
  clear hK K
  try simp only [Act.put, List.setIfInBounds_toArray, List.set_cons_zero, List.set_cons_succ]
  refine wpAnyN_done (by kernel_rfl) ?_
  go_wp2_with fail
  obtain ⟨X, HX⟩ := named (set7 w2 (pb + 2) (.int .i64 R1.at_) (.int .i64 R1.ost) (.int .i64 R1.ova) (.int .i64 R1.on) (.slice mo R1.cmds.length mc) (.int .i64 R1.sig) (.int .i64 R1.steps))
  have x4 : RC 7 X (pb + 2) (fun k => ([.int .i64 R1.at_, .int .i64 R1.ost, .int .i64 R1.ova, .int .i64 R1.on, .slice mo R1.cmds.length mc, .int .i64 R1.sig, .int .i64 R1.steps] : List Value).getD k undef) := by rw [HX.out]; exact RC.set7 HX2.out _ _ _ _ _ _ _
  have v0 : X.cell? ⟨pb + 1 + 1, 0, none⟩ = some (.int .i64 R1.at_) := x4.2.1 0 (by omega)
  have v1 : X.cell? ⟨pb + 1 + 1, 1, none⟩ = some (.int .i64 R1.ost) := x4.2.1 1 (by omega)
  have v2 : X.cell? ⟨pb + 1 + 1, 2, none⟩ = some (.int .i64 R1.ova) := x4.2.1 2 (by omega)
  have v3 : X.cell? ⟨pb + 1 + 1, 3, none⟩ = some (.int .i64 R1.on) := x4.2.1 3 (by omega)
  have v4 : X.cell? ⟨pb + 1 + 1, 4, none⟩ = some (.slice mo R1.cmds.length mc) := x4.2.1 4 (by omega)
  have v5 : X.cell? ⟨pb + 1 + 1, 5, none⟩ = some (.int .i64 R1.sig) := x4.2.1 5 (by omega)
  have v6 : X.cell? ⟨pb + 1 + 1, 6, none⟩ = some (.int .i64 R1.steps) := x4.2.1 6 (by omega)
  have HBX : Below w.heap.size w X := by rw [HX.out]; exact below_set7 HB2.out (by rw [← HPB.out]; omega) _ _ _ _ _ _ _
  have hlast : OwnM X w.heap.size (.slice mo R1.cmds.length mc) R1.cmds := by
    rw [HX.out]
    exact (HM2.out.heap (w' := set7 w2 (pb + 2) _ _ _ _ _ _ _) fun a ha => set7_other _ _ _ _ _ _ _ _ _ a (by have h1 := (HM2.out.lt a ha).1; have h2 : W1.drew.heap.size = pb + 3 := hzW; omega)).mono (by show w.heap.size ≤ W1.drew.heap.size; have h2 : W1.drew.heap.size = pb + 3 := hzW; rw [h2, ← HPB.out]; omega)
  rw [show (((((((w2.setCell ⟨pb + 1 + 1, 0, none⟩ (.int .i64 R1.at_)).setCell ⟨pb + 1 + 1, 1, none⟩ (.int .i64 R1.ost)).setCell ⟨pb + 1 + 1, 2, none⟩ (.int .i64 R1.ova)).setCell ⟨pb + 1 + 1, 3, none⟩ (.int .i64 R1.on)).setCell ⟨pb + 1 + 1, 4, none⟩ (.slice mo R1.cmds.length mc)).setCell ⟨pb + 1 + 1, 5, none⟩ (.int .i64 R1.sig)).setCell ⟨pb + 1 + 1, 6, none⟩ (.int .i64 R1.steps)) = X from HX.out.symm]
  refine bodyPost_ret (v := .tuple #[.agg #[.int .i64 R1.at_, .int .i64 R1.ost, .int .i64 R1.ova, .int .i64 R1.on, .slice mo R1.cmds.length mc, .int .i64 R1.sig, .int .i64 R1.steps], .int .i64 R2]) (by simp [results, Tryd.results12, go_sem, v0, v1, v2, v3, v4, v5, v6]) rfl ?_
  exact ⟨.slice mo R1.cmds.length mc, rfl, hlast, HBX⟩
end Go.Proofs.YtlngeonfabahnaaDoor
