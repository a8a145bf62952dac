/-
  The contract of Run. Own work.
-/
import Derived.Test.YtlngeonfabahnaaDoorQm
import Derived.Test.YtlngeonfabahnaaDoorQn
namespace Go.Proofs.YtlngeonfabahnaaDoor
open Go Go.RowKit
set_option linter.unusedSimpArgs false
set_option linter.unusedVariables false

/-- what a run comes to from here on -/
def finF (kn : Int → Option Oc) (sg : List Int) (code : List Ins) (fuel : Nat) (s : St) : St := if s.at_ = 0 then fin (it kn sg code (fuel - s.steps) s) else s
theorem finF_step (kn : Int → Option Oc) (sg : List Int) (code : List Ins) (fuel : Nat) (s : St) (h0 : s.at_ = 0) (hs : s.steps ≤ fuel) :
    finF kn sg code fuel (stepF kn sg code fuel s) = finF kn sg code fuel s ∧ ((stepF kn sg code fuel s).at_ = 0 → (stepF kn sg code fuel s).steps = s.steps + 1 ∧ s.steps + 1 ≤ fuel ∧ stepF kn sg code fuel s = step kn sg code s) := by
  by_cases he : s.steps = fuel
  · have e : stepF kn sg code fuel s = { s with at_ := 4 } := if_pos he
    rw [e]
    refine ⟨?_, fun h => by cases h⟩
    unfold finF
    rw [if_pos h0, if_neg (by show ¬ (4 : Nat) = 0; omega), show fuel - s.steps = 0 by omega]
    show ({ s with at_ := 4 } : St) = fin s
    unfold fin
    rw [if_pos h0]
  · have e : stepF kn sg code fuel s = step kn sg code s := if_neg he
    rw [e]
    obtain ⟨-, s0, -⟩ := step_ext kn sg code s h0
    have e2 : fuel - s.steps = (fuel - s.steps - 1) + 1 := by omega
    have e3 : finF kn sg code fuel s = fin (it kn sg code (fuel - s.steps - 1) (step kn sg code s)) := by
      unfold finF
      rw [if_pos h0, e2, it, if_pos h0]
      rfl
    refine ⟨?_, fun h => ⟨s0 h, by omega, rfl⟩⟩
    rw [e3]
    unfold finF
    by_cases h1 : (step kn sg code s).at_ = 0
    · rw [if_pos h1, s0 h1]
      congr 1
    · rw [if_neg h1, it_stood _ _ _ _ _ h1]
      unfold fin
      rw [if_neg h1]
theorem finF_start (kn : Int → Option Oc) (sg : List Int) (code : List Ins) (fuel : Nat) (arg : Int) : finF kn sg code fuel (st0 arg) = runP kn sg code arg fuel := rfl

def noS : St := ⟨fun _ => 0, 0, 0, 0, 0, 0, [], 0, 0⟩
/-- what Run tells: how it stands, and the error -/
def runR (p : Prg) (arg : Int) (l : List (Int × Oc)) (sg : List Int) (fuel : Int) : St × Int :=
  if okP p 20 = true then (if fuel < 0 ∨ 10000 < fuel then (noS, 2) else (runP (knOf l) sg p.code arg fuel.toNat, 0)) else (noS, 100)
/-- how a program stands, as a value -/
def stV (s : St) (vc : Value) : Value := .agg #[.int .i64 s.at_, .int .i64 s.ost, .int .i64 s.ova, .int .i64 s.on, vc, .int .i64 s.sig, .int .i64 s.steps]
/-- how far a run may go yet, as its block tells -/
def left (b fuel : Nat) (w : World) : Nat := if intOf ((w.cell? ⟨b, 20, none⟩).getD undef) = 0 then fuel - (intOf ((w.cell? ⟨b, 26, none⟩).getD undef)).toNat + 1 else 0
theorem left_is {W : World} {b : Nat} {cv mv sv : Value} {w : World} {s : St} (h : Rn W b cv mv sv w s) (fuel : Nat) : left b fuel w = if s.at_ = 0 then fuel - s.steps + 1 else 0 := by
  obtain ⟨-, -, -, -, c20, -, c26⟩ := h.cell
  unfold left
  rw [c20, c26]
  show (if (s.at_ : Int) = 0 then fuel - ((s.steps : Int)).toNat + 1 else 0) = _
  by_cases h0 : s.at_ = 0
  · rw [if_pos h0, if_pos (by omega), Int.toNat_natCast]
  · rw [if_neg h0, if_neg (by omega)]

/-- seven cells are written -/
def set7 (w : World) (g : Nat) (a0 a1 a2 a3 a4 a5 a6 : Value) : World :=
  ((((((w.setCell ⟨g, 0, none⟩ a0).setCell ⟨g, 1, none⟩ a1).setCell ⟨g, 2, none⟩ a2).setCell ⟨g, 3, none⟩ a3).setCell ⟨g, 4, none⟩ a4).setCell ⟨g, 5, none⟩ a5).setCell ⟨g, 6, none⟩ a6
theorem RC.set7 {w : World} {g : Nat} {f : Nat → Value} (h : RC 7 w g f) (a0 a1 a2 a3 a4 a5 a6 : Value) : RC 7 (set7 w g a0 a1 a2 a3 a4 a5 a6) g (fun k => [a0, a1, a2, a3, a4, a5, a6].getD k undef) := by
  have := ((((((h.set 0 (by omega) a0).set 1 (by omega) a1).set 2 (by omega) a2).set 3 (by omega) a3).set 4 (by omega) a4).set 5 (by omega) a5).set 6 (by omega) a6
  refine this.congr (fun k hk => ?_)
  rcases (show k = 0 ∨ k = 1 ∨ k = 2 ∨ k = 3 ∨ k = 4 ∨ k = 5 ∨ k = 6 by omega) with rfl | rfl | rfl | rfl | rfl | rfl | rfl <;> rfl
theorem set7_other (w : World) (g : Nat) (a0 a1 a2 a3 a4 a5 a6 : Value) (k : Nat) (h : k ≠ g) : (set7 w g a0 a1 a2 a3 a4 a5 a6).heap[k]? = w.heap[k]? := by
  unfold set7
  rw [Below.heap_setCell _ _ _ _ h, Below.heap_setCell _ _ _ _ h, Below.heap_setCell _ _ _ _ h, Below.heap_setCell _ _ _ _ h, Below.heap_setCell _ _ _ _ h, Below.heap_setCell _ _ _ _ h, Below.heap_setCell _ _ _ _ h]
theorem below_set7 {B g : Nat} {w w' : World} (h : Below B w w') (hg : B ≤ g) (a0 a1 a2 a3 a4 a5 a6 : Value) : Below B w (set7 w' g a0 a1 a2 a3 a4 a5 a6) :=
  ((((((h.setCell hg _).setCell hg _).setCell hg _).setCell hg _).setCell hg _).setCell hg _).setCell hg _

set_option maxRecDepth 100000 in
set_option maxHeartbeats 3200000 in
theorem run_any (p : Prg) (cv : Value) (arg : Int) (kv : Value) (l : List (Int × Oc)) (sv : Value) (sg : List Int) (fuel : Int) (w : World) (hk : Kinds w) (hc : RdC w cv p.code) (hw : ∀ i ∈ p.code, i.wf) (hl : RdK w kv l) (hll : l.length ≤ 100000) (hsv : RdN w sv sg) (hsl : sg.length ≤ 10000000) :
    Calls Tryd.prog 17 #[prgV p cv, .int .i64 arg, kv, sv, .int .i64 fuel] w fun e w' => ∃ vc, e = .returned (.tuple #[stV (runR p arg l sg fuel).1 vc, .int .i64 (runR p arg l sg fuel).2]) ∧ OwnM w' w.heap.size vc (runR p arg l sg fuel).1.cmds ∧ Below w.heap.size w w' := by
  obtain ⟨ao, cap, hcv, hcl⟩ := hc.shape
  obtain ⟨ko, kc, hkv, -⟩ := hl.shape
  obtain ⟨so, sc, hsvv, -⟩ := hsv.shape
  obtain ⟨L, HL⟩ := named p.code.length
  obtain ⟨kl, HKL⟩ := named l.length
  obtain ⟨sl, HSL⟩ := named sg.length
  rw [← HL.out] at hcv
  rw [← HKL.out] at hkv
  rw [← HSL.out] at hsvv
  subst hcv hkv hsvv
  obtain ⟨pb, HPB⟩ := named w.heap.size
  obtain ⟨W1, HW1⟩ := named (w.alloc (.cells #[.string p.name, .int .i64 p.regs, .slice ao L cap] 24))
  obtain ⟨W2, HW2⟩ := named (W1.alloc (.cells #[.int .i64 0, .int .i64 0, .int .i64 0, .int .i64 0, .slice none 0 0, .int .i64 0, .int .i64 0] 35))
  have hz1 : W1.heap.size = pb + 1 := by rw [HW1.out, HPB.out]; simp
  have hb1 : Below pb w W1 := by rw [HW1.out, HPB.out]; exact (Below.refl _ _).alloc (Nat.le_refl _) _
  have hb2 : Below w.heap.size w W2 := by rw [HW2.out, ← HPB.out]; exact hb1.alloc (by omega) _
  have xp : RC 3 W2 pb (fun k => ([.string p.name, .int .i64 p.regs, .slice ao L cap] : List Value).getD k undef) := by
    rw [HW2.out, HW1.out, HPB.out]
    refine (RC.new w _ 24 _ (fun k hk => ?_)).alloc _
    rcases (show k = 0 ∨ k = 1 ∨ k = 2 by omega) with rfl | rfl | rfl <;> rfl
  have xr : RC 7 W2 (pb + 1) (fun k => ([.int .i64 0, .int .i64 0, .int .i64 0, .int .i64 0, .slice none 0 0, .int .i64 0, .int .i64 0] : List Value).getD k undef) := by
    rw [HW2.out, ← hz1]
    refine RC.new W1 _ 35 _ (fun k hk => ?_)
    rcases (show k = 0 ∨ k = 1 ∨ k = 2 ∨ k = 3 ∨ k = 4 ∨ k = 5 ∨ k = 6 by omega) with rfl | rfl | rfl | rfl | rfl | rfl | rfl <;> rfl
  have hz2 : W2.heap.size = pb + 2 := by rw [HW2.out]; simp [hz1]
  have hchk := check_any p _ 20 W2 (hk.below hb2) (hc.below hb2) hw
  have HB2 := hide hb2
  have HC := hide hc
  have HLs := hide hl
  have HSv := hide hsv
  have HXR := hide xr
  have HXP := hide xp
  have p0 : W2.cell? ⟨pb, 0, none⟩ = some (.string p.name) := xp.2.1 0 (by omega)
  have p1 : W2.cell? ⟨pb, 1, none⟩ = some (.int .i64 p.regs) := xp.2.1 1 (by omega)
  have p2 : W2.cell? ⟨pb, 2, none⟩ = some (.slice ao L cap) := xp.2.1 2 (by omega)
  have r0 := xr.2.1
  obtain ⟨RR, HRR⟩ := named (runR p arg l sg fuel)
  have hHR : RR = runR p arg l sg fuel := HRR.out
  unfold runR at hHR
  rw [← HRR.out]
  show Calls Tryd.prog 17 #[.agg #[.string p.name, .int .i64 p.regs, .slice ao L cap], .int .i64 arg, .slice ko kl kc, .slice so sl sc, .int .i64 fuel] w _
  have hchk : Calls Tryd.prog 22 #[.agg #[.string p.name, .int .i64 p.regs, .slice ao L cap], .int .i64 20] W2 _ := hchk
  have hpw : Hid (pb = w.heap.size) := HPB
  clear hb1 hb2 xp xr hc hl hsv
  by_cases hok : okP p 20 = true
  · rw [if_pos hok] at hHR
    have her : errP p 20 = 0 := by unfold errP; rw [if_pos hok]
    rw [her] at hchk
    by_cases hf0 : fuel < 0
    · rw [if_pos (.inl hf0)] at hHR
      subst hHR
      go_enter Tryd.func17, Tryd.ntmps17
      go_wp2_with fail
      rw [← HW1.out, ← HW2.out, ← HPB.out]
      (with_reducible refine Calls.mono hchk ?_)
      rintro e w3 ⟨rfl, hb3⟩
      have x3 := HXR.out.below hb3
      have c0 := x3.2.1
      have f3 := x3.2.2
      have z0 := c0 0 (by omega)
      have z1 := c0 1 (by omega)
      have z2 := c0 2 (by omega)
      have z3 := c0 3 (by omega)
      have z4 := c0 4 (by omega)
      have z5 := c0 5 (by omega)
      have z6 := c0 6 (by omega)
      have g0 := f3 0
      have g1 := f3 1
      have g2 := f3 2
      have g3 := f3 3
      have g4 := f3 4
      have g5 := f3 5
      have g6 := f3 6
      simp only at z0 z1 z2 z3 z4 z5 z6
      clear c0 f3
      go_wp2
      obtain ⟨X, HX⟩ := named (set7 w3 (pb + 1) (.int .i64 0) (.int .i64 0) (.int .i64 0) (.int .i64 0) (.slice none 0 0) (.int .i64 0) (.int .i64 0))
      have x4 : RC 7 X (pb + 1) (fun k => ([.int .i64 0, .int .i64 0, .int .i64 0, .int .i64 0, .slice none 0 0, .int .i64 0, .int .i64 0] : List Value).getD k undef) := by rw [HX.out]; exact RC.set7 x3 _ _ _ _ _ _ _
      have v0 := x4.2.1 0 (by omega)
      have v1 := x4.2.1 1 (by omega)
      have v2 := x4.2.1 2 (by omega)
      have v3 := x4.2.1 3 (by omega)
      have v4 := x4.2.1 4 (by omega)
      have v5 := x4.2.1 5 (by omega)
      have v6 := x4.2.1 6 (by omega)
      have HBX : Below w.heap.size w X := by rw [HX.out]; exact below_set7 (HB2.out.trans (hb3.mono (by rw [hz2, ← HPB.out]; omega))) (by rw [← HPB.out]; omega) _ _ _ _ _ _ _
      rw [show ((((((w3.setCell ⟨pb + 1, 0, none⟩ (.int .i64 0)).setCell ⟨pb + 1, 1, none⟩ (.int .i64 0)).setCell ⟨pb + 1, 2, none⟩ (.int .i64 0)).setCell ⟨pb + 1, 3, none⟩ (.int .i64 0)).setCell ⟨pb + 1, 4, none⟩ (.slice none 0 0)).setCell ⟨pb + 1, 5, none⟩ (.int .i64 0)).setCell ⟨pb + 1, 6, none⟩ (.int .i64 0) = X from HX.out.symm]
      refine bodyPost_ret (v := .tuple #[.agg #[.int .i64 0, .int .i64 0, .int .i64 0, .int .i64 0, .slice none 0 0, .int .i64 0, .int .i64 0], .int .i64 2]) (by simp [results, Tryd.results17, go_sem, v0, v1, v2, v3, v4, v5, v6]) rfl ?_
      exact ⟨.slice none 0 0, rfl, OwnX.nil _ _ _ _, HBX⟩
    · by_cases hf1 : 10000 < fuel
      · rw [if_pos (.inr hf1)] at hHR
        subst hHR
        go_enter Tryd.func17, Tryd.ntmps17
        go_wp2_with fail
        rw [← HW1.out, ← HW2.out, ← HPB.out]
        (with_reducible refine Calls.mono hchk ?_)
        rintro e w3 ⟨rfl, hb3⟩
        have x3 := HXR.out.below hb3
        have c0 := x3.2.1
        have f3 := x3.2.2
        have z0 := c0 0 (by omega)
        have z1 := c0 1 (by omega)
        have z2 := c0 2 (by omega)
        have z3 := c0 3 (by omega)
        have z4 := c0 4 (by omega)
        have z5 := c0 5 (by omega)
        have z6 := c0 6 (by omega)
        have g0 := f3 0
        have g1 := f3 1
        have g2 := f3 2
        have g3 := f3 3
        have g4 := f3 4
        have g5 := f3 5
        have g6 := f3 6
        simp only at z0 z1 z2 z3 z4 z5 z6
        clear c0 f3
        go_wp2
        obtain ⟨X, HX⟩ := named (set7 w3 (pb + 1) (.int .i64 0) (.int .i64 0) (.int .i64 0) (.int .i64 0) (.slice none 0 0) (.int .i64 0) (.int .i64 0))
        have x4 : RC 7 X (pb + 1) (fun k => ([.int .i64 0, .int .i64 0, .int .i64 0, .int .i64 0, .slice none 0 0, .int .i64 0, .int .i64 0] : List Value).getD k undef) := by rw [HX.out]; exact RC.set7 x3 _ _ _ _ _ _ _
        have v0 := x4.2.1 0 (by omega)
        have v1 := x4.2.1 1 (by omega)
        have v2 := x4.2.1 2 (by omega)
        have v3 := x4.2.1 3 (by omega)
        have v4 := x4.2.1 4 (by omega)
        have v5 := x4.2.1 5 (by omega)
        have v6 := x4.2.1 6 (by omega)
        have HBX : Below w.heap.size w X := by rw [HX.out]; exact below_set7 (HB2.out.trans (hb3.mono (by rw [hz2, ← HPB.out]; omega))) (by rw [← HPB.out]; omega) _ _ _ _ _ _ _
        rw [show ((((((w3.setCell ⟨pb + 1, 0, none⟩ (.int .i64 0)).setCell ⟨pb + 1, 1, none⟩ (.int .i64 0)).setCell ⟨pb + 1, 2, none⟩ (.int .i64 0)).setCell ⟨pb + 1, 3, none⟩ (.int .i64 0)).setCell ⟨pb + 1, 4, none⟩ (.slice none 0 0)).setCell ⟨pb + 1, 5, none⟩ (.int .i64 0)).setCell ⟨pb + 1, 6, none⟩ (.int .i64 0) = X from HX.out.symm]
        refine bodyPost_ret (v := .tuple #[.agg #[.int .i64 0, .int .i64 0, .int .i64 0, .int .i64 0, .slice none 0 0, .int .i64 0, .int .i64 0], .int .i64 2]) (by simp [results, Tryd.results17, go_sem, v0, v1, v2, v3, v4, v5, v6]) rfl ?_
        exact ⟨.slice none 0 0, rfl, OwnX.nil _ _ _ _, HBX⟩
      · rw [if_neg (by omega)] at hHR
        go_enter Tryd.func17, Tryd.ntmps17
        go_wp2_with fail
        rw [← HW1.out, ← HW2.out, ← HPB.out]
        (with_reducible refine Calls.mono hchk ?_)
        rintro e w3 ⟨rfl, hb3⟩
        have x3 := hide (HXR.out.below hb3)
        have hpb2 : pb < W2.heap.size := by omega
        have q2 : w3.drew.cell? ⟨pb, 2, none⟩ = some (.slice ao L cap) := (hb3.cell (p := ⟨pb, 2, none⟩) hpb2).trans p2
        have hsz3 := hb3.size
        have HB3 := hide (HB2.out.trans (hb3.mono (by rw [hz2, ← HPB.out]; omega)))
        have hcl := byNumbers_any (.slice ko kl kc) l w3.drew (RdX.below HLs.out HB3.out.drew) hll
        go_wp2_with fail
        refine wp_region_E 7 (fun w' => w'.cell? ⟨pb, 2, none⟩ = some (.slice ao L cap)) (by kernel_rfl) ?_
        refine wpAnyE_take 0 [7] (oi := { dst := some 24, op := Go.Op.fieldAddr 24 (Go.Operand.tmp 5) 2, type := 0, pos := "run.go:19", after := #[], guard := none }) (v := ?_) rfl (by kernel_rfl) (by kernel_rfl) (by kernel_rfl) (by kernel_rfl) (fun _ _ _ h => h) (Or.inl ⟨by rfl, ?hE1⟩) q2 ?_
        case hE1 =>
          intro u hu
          obtain u0 := hu
          go_simp
          try with_reducible rfl
        simp only [Act.put, List.setIfInBounds_toArray, List.set_cons_zero, List.set_cons_succ]
        refine wpAnyE_take 1 [7] (oi := { dst := some 25, op := Go.Op.load 22 (Go.Operand.tmp 24), type := 22, pos := "run.go:19", after := #[{ on := 0, ground := Go.Ground.data }], guard := none }) (v := ?_) rfl (by kernel_rfl) (by kernel_rfl) (by kernel_rfl) (by kernel_rfl) (fun _ _ _ h => h) (Or.inl ⟨by rfl, ?hE2⟩) q2 ?_
        case hE2 =>
          intro u hu
          obtain u0 := hu
          go_simp
          try with_reducible rfl
        simp only [Act.put, List.setIfInBounds_toArray, List.set_cons_zero, List.set_cons_succ]
        refine wpAnyE_take 2 [7] (oi := { dst := some 26, op := Go.Op.move (Go.Operand.tmp 2), type := 25, pos := "run.go:19", after := #[], guard := none }) (v := ?_) rfl (by kernel_rfl) (by kernel_rfl) (by kernel_rfl) (by kernel_rfl) (fun _ _ _ h => h) (Or.inl ⟨by rfl, ?hE3⟩) q2 ?_
        case hE3 =>
          intro u hu
          obtain u0 := hu
          go_simp
          try with_reducible rfl
        simp only [Act.put, List.setIfInBounds_toArray, List.set_cons_zero, List.set_cons_succ]
        refine wpAnyE_take 4 [7] (oi := { dst := some 28, op := Go.Op.move (Go.Operand.tmp 3), type := 26, pos := "run.go:19", after := #[], guard := none }) (v := ?_) rfl (by kernel_rfl) (by kernel_rfl) (by kernel_rfl) (by kernel_rfl) (fun _ _ _ h => h) (Or.inl ⟨by rfl, ?hE4⟩) q2 ?_
        case hE4 =>
          intro u hu
          obtain u0 := hu
          go_simp
          try with_reducible rfl
        simp only [Act.put, List.setIfInBounds_toArray, List.set_cons_zero, List.set_cons_succ]
        refine wpAnyE_one (i := 3) (o := { dst := some 27, op := Go.Op.call { callee := Go.Callee.value (Go.Operand.func 23), args := #[Go.Operand.tmp 26], argTypes := #[25] }, type := 65, pos := "run.go:19", after := #[{ on := 2, ground := Go.Ground.data }], guard := none }) (by kernel_rfl) rfl (fun K hK => ?_)
        go_simp
        (with_reducible refine Calls.mono hcl ?_)
        rintro e w4 ⟨mb, rfl, hkw, hb4, hmb⟩
        have hb4 : Below w3.heap.size w3 w4 := ⟨hb4.os, hb4.tape, hb4.output, hb4.size, hb4.block⟩
        have hpb3 : pb < w3.heap.size := by omega
        have q4 : w4.cell? ⟨pb, 2, none⟩ = some (.slice ao L cap) := (hb4.cell (p := ⟨pb, 2, none⟩) hpb3).trans q2
        refine hK _ _ (fun _ => q4) ?_
        clear hK K
        try simp only [Act.put, List.setIfInBounds_toArray, List.set_cons_zero, List.set_cons_succ]
        refine wpAnyE_take 5 [7] (oi := { dst := some 29, op := Go.Op.build 69 #[(0, Go.Operand.tmp 25), (1, Go.Operand.tmp 27), (2, Go.Operand.tmp 28)], type := 69, pos := "run.go:19", after := #[{ on := 1, ground := Go.Ground.data }, { on := 3, ground := Go.Ground.data }, { on := 4, ground := Go.Ground.data }], guard := none }) (v := ?_) rfl (by kernel_rfl) (by kernel_rfl) (by kernel_rfl) (by kernel_rfl) (fun _ _ _ h => h) (Or.inl ⟨by rfl, ?hE5⟩) q4 ?_
        case hE5 =>
          intro u hu
          obtain u0 := hu
          go_simp
          try with_reducible rfl
        simp only [Act.put, List.setIfInBounds_toArray, List.set_cons_zero, List.set_cons_succ]
        refine wpAnyE_one (i := 6) (o := { dst := some 30, op := Go.Op.box 69 (Go.Operand.tmp 29), type := 64, pos := "run.go:19", after := #[{ on := 5, ground := Go.Ground.data }], guard := none }) (by kernel_rfl) rfl (fun K hK => ?_)
        go_simp
        obtain ⟨b, HBB⟩ := named w4.heap.size
        obtain ⟨W5, HW5⟩ := named (w4.alloc (.cells #[.slice ao L cap, .map (some mb), .slice so sl sc, .int .i64 0, .int .i64 0, .int .i64 0, .int .i64 0, .int .i64 0, .int .i64 0, .int .i64 0, .int .i64 0, .int .i64 0, .int .i64 0, .int .i64 0, .int .i64 0, .int .i64 0, .int .i64 0, .int .i64 0, .int .i64 0, .int .i64 0, .int .i64 0, .int .i64 0, .int .i64 0, .int .i64 0, .slice none 0 0, .int .i64 0, .int .i64 0] 69))
        rw [← HW5.out, ← HBB.out]
        have hB4 : Below w.heap.size w w4 := HB3.out.trans (hb4.mono (by have := HB3.out.size; omega))
        have HB4 := hide hB4
        have hsz4 := hb4.size
        have q5 : W5.cell? ⟨pb, 2, none⟩ = some (.slice ao L cap) := by rw [HW5.out]; exact (Below.cell (B := w4.heap.size) ((Below.refl _ _).alloc (Nat.le_refl _) _) (p := ⟨pb, 2, none⟩) (by show pb < _; omega)).trans q4
        have HX5 := hide ((x3.out.below hb4).alloc (.cells #[.slice ao L cap, .map (some mb), .slice so sl sc, .int .i64 0, .int .i64 0, .int .i64 0, .int .i64 0, .int .i64 0, .int .i64 0, .int .i64 0, .int .i64 0, .int .i64 0, .int .i64 0, .int .i64 0, .int .i64 0, .int .i64 0, .int .i64 0, .int .i64 0, .int .i64 0, .int .i64 0, .int .i64 0, .int .i64 0, .int .i64 0, .int .i64 0, .slice none 0 0, .int .i64 0, .int .i64 0] 69))
        rw [← HW5.out] at HX5
        have hpbb : pb + 1 < b := by rw [HBB.out]; omega
        have h5 : Rn w4 b (.slice ao L cap) (.map (some mb)) (.slice so sl sc) W5 noS := by
          refine ⟨⟨.slice none 0 0, ?_, OwnX.nil _ _ _ _⟩, by rw [HW5.out, HBB.out]; exact (Below.refl _ _).alloc (Nat.le_refl _) _, by show 0 ≤ 200; omega, by show 0 ≤ 100000000; omega⟩
          rw [HW5.out, HBB.out]
          refine RC.new w4 _ 69 _ (fun k hk => ?_)
          rcases (show k = 0 ∨ k = 1 ∨ k = 2 ∨ k = 3 ∨ k = 4 ∨ k = 5 ∨ k = 6 ∨ k = 7 ∨ k = 8 ∨ k = 9 ∨ k = 10 ∨ k = 11 ∨ k = 12 ∨ k = 13 ∨ k = 14 ∨ k = 15 ∨ k = 16 ∨ k = 17 ∨ k = 18 ∨ k = 19 ∨ k = 20 ∨ k = 21 ∨ k = 22 ∨ k = 23 ∨ k = 24 ∨ k = 25 ∨ k = 26 by omega) with rfl | rfl | rfl | rfl | rfl | rfl | rfl | rfl | rfl | rfl | rfl | rfl | rfl | rfl | rfl | rfl | rfl | rfl | rfl | rfl | rfl | rfl | rfl | rfl | rfl | rfl | rfl <;> rfl
        have HE : Hid (Ev w4 b mb (.slice so sl sc) (knOf l) sg) := ⟨RdX.below HSv.out hB4, hkw, HBB.out, by rw [HBB.out]; exact hmb, hsl⟩
        have HCV : Hid (RdC w4 (.slice ao L cap) p.code) := HC.out.below hB4
        clear hkw
        refine hK _ _ (fun _ => q5) ?_
        clear hK K
        try simp only [Act.put, List.setIfInBounds_toArray, List.set_cons_zero, List.set_cons_succ]
        refine wpAnyE_one (i := 7) (o := { dst := some 12, op := Go.Op.assign (Go.Operand.tmp 30), type := 64, pos := "run.go:19", after := #[{ on := 6, ground := Go.Ground.data }, { on := 3, ground := Go.Ground.chain }, { on := 0, ground := Go.Ground.phase }, { on := 1, ground := Go.Ground.phase }, { on := 2, ground := Go.Ground.phase }, { on := 3, ground := Go.Ground.phase }, { on := 4, ground := Go.Ground.phase }, { on := 5, ground := Go.Ground.phase }, { on := 6, ground := Go.Ground.phase }], guard := none }) (by kernel_rfl) rfl (fun K hK => ?_)
        go_simp
        refine hK _ _ (fun h => absurd rfl h) ?_
        clear hK K
        try simp only [Act.put, List.setIfInBounds_toArray, List.set_cons_zero, List.set_cons_succ]
        refine wpAnyE_done (by kernel_rfl) ?_
        have hS0 : Hid (Rn w4 b (.slice ao L cap) (.map (some mb)) (.slice so sl sc) (W5.setCell ⟨b, 3, none⟩ (.int .i64 arg)) (st0 arg)) := h5.put 0 arg (by omega) (by omega)
        have a3 : W5.cell? ⟨b, 3, none⟩ = some (.int .i64 0) := h5.reg 0 (by omega) (by omega)
        have a3f : W5.frozen? ⟨b, 3, none⟩ = false := h5.free 3
        obtain ⟨fu, HFU⟩ : ∃ fu : Nat, fuel = fu := Int.eq_ofNat_of_zero_le (by omega)
        subst HFU
        have hfu : fu ≤ 10000 := by omega
        have hRR : Hid (finF (knOf l) sg p.code fu (st0 arg) = RR.1) := by
          show _ = _
          rw [hHR, Int.toNat_natCast]
          exact finF_start _ _ _ _ _
        have hRR2 : RR.2 = 0 := by rw [hHR]
        obtain ⟨hl0, -⟩ := ok_len hok
        have hinP : InP p (st0 arg) := ⟨by show (0 : Int) ≤ 0; omega, by show (0 : Int) < _; omega⟩
        have HIP := hide hinP
        have HOK := hide hok
        have HRR2 := hide hRR2
        clear h5 hHR hRR2 hinP hok
        go_wp2_with fail
        go_loopw [41] (fun _ wr => ∃ s, Hid (Rn w4 b (.slice ao L cap) (.map (some mb)) (.slice so sl sc) wr s) ∧ Hid (s.sig ≤ sg.length ∧ (s.at_ = 0 → InP p s ∧ s.steps ≤ fu)) ∧ Hid (finF (knOf l) sg p.code fu s = RR.1)) (fun _ wr => left b fu wr)
        case atStart => exact ⟨_, hS0.out, ⟨Nat.zero_le _, fun _ => ⟨HIP.out, Nat.zero_le _⟩⟩, hRR.out⟩
        case round =>
          obtain ⟨s, HS, HI, HF⟩ := hrel
          have c20 := HS.out.cell.2.2.2.2.1
          by_cases h0 : s.at_ = 0
          · have h0I : ((s.at_ : Int) == 0) = true := by rw [h0]; rfl
            have h0J : (s.at_ : Int) = 0 := by rw [h0]; rfl
            obtain ⟨hsg, hi⟩ := HI.out
            obtain ⟨hin, hst⟩ := hi h0
            have hstep := step_any HE.out HS.out p HOK.out HCV.out hin hsg fu hfu hst
            obtain ⟨hf1, hf2⟩ := finF_step (knOf l) sg p.code fu s h0 hst
            have hlf := left_is HS.out fu
            rw [if_pos h0] at hlf
            have HLF := hide hlf
            obtain ⟨t, HT⟩ := named (stepF (knOf l) sg p.code fu s)
            rw [← HT.out] at hstep hf1 hf2
            have HF1 := hide hf1
            have HF2 := hide hf2
            have hsig : Hid (t.sig ≤ sg.length) := by
              show t.sig ≤ sg.length
              rw [HT.out]
              unfold stepF
              split
              · exact hsg
              · exact (step_ext (knOf l) sg p.code s h0).2.2.2.2.2.2 hsg
            clear hsg hi hin hf1 hf2 hlf
            go_wp2_with fail
            (with_reducible refine Calls.mono hstep ?_)
            rintro e w6 ⟨rfl, h6⟩
            have H6 := hide h6
            clear h6 hstep
            go_wp2
            go_roundw
            case rel => exact ⟨t, H6.out, ⟨hsig.out, fun ht => by
              obtain ⟨e1, e2, e3⟩ := HF2.out ht
              refine ⟨?_, by omega⟩
              rw [e3]
              exact step_in HOK.out _ _ _ (HI.out.2 h0).1 (by rw [← e3]; exact ht)⟩, HF1.out.trans HF.out⟩
            case measure =>
              rw [HLF.out, left_is H6.out fu]
              by_cases ht : t.at_ = 0
              · rw [if_pos ht]
                obtain ⟨e1, e2, -⟩ := HF2.out ht
                omega
              · rw [if_neg ht]
                omega
          · have h0I : ((s.at_ : Int) == 0) = false := beq_eq_false_iff_ne.2 (by omega)
            have h0J : ¬ (s.at_ : Int) = 0 := by omega
            have hs : Hid (s = RR.1) := by
              show s = RR.1
              have := HF.out
              unfold finF at this
              rw [if_neg h0] at this
              exact this
            obtain ⟨vc, hcc, hown⟩ := HS.out.own
            have b21 : wr.cell? ⟨b, 21, none⟩ = some (.int .i64 s.ost) := hcc.2.1 21 (by omega)
            have b22 : wr.cell? ⟨b, 22, none⟩ = some (.int .i64 s.ova) := hcc.2.1 22 (by omega)
            have b23 : wr.cell? ⟨b, 23, none⟩ = some (.int .i64 s.on) := hcc.2.1 23 (by omega)
            have b24 : wr.cell? ⟨b, 24, none⟩ = some vc := hcc.2.1 24 (by omega)
            have b25 : wr.cell? ⟨b, 25, none⟩ = some (.int .i64 s.sig) := hcc.2.1 25 (by omega)
            have b26 : wr.cell? ⟨b, 26, none⟩ = some (.int .i64 s.steps) := hcc.2.1 26 (by omega)
            have hX4 := x3.out.below hb4
            have y3 := hX4.grown (B := b) HS.out.below (by omega)
            have hrdm : RdM wr vc s.cmds := hown.rd
            obtain ⟨mo, mc, hvc, -⟩ := hrdm.shape
            have hsz7 := HS.out.below.size
            have HBW : Below w.heap.size w wr := HB4.out.trans (HS.out.below.mono (by rw [HBB.out]; exact HB4.out.size))
            obtain ⟨X, HX⟩ := named (set7 wr (pb + 1) (.int .i64 s.at_) (.int .i64 s.ost) (.int .i64 s.ova) (.int .i64 s.on) vc (.int .i64 s.sig) (.int .i64 s.steps))
            have x4 : RC 7 X (pb + 1) (fun k => ([.int .i64 s.at_, .int .i64 s.ost, .int .i64 s.ova, .int .i64 s.on, vc, .int .i64 s.sig, .int .i64 s.steps] : List Value).getD k undef) := by rw [HX.out]; exact RC.set7 y3 _ _ _ _ _ _ _
            have v0 := x4.2.1 0 (by omega)
            have v1 := x4.2.1 1 (by omega)
            have v2 := x4.2.1 2 (by omega)
            have v3 := x4.2.1 3 (by omega)
            have v4 := x4.2.1 4 (by omega)
            have v5 := x4.2.1 5 (by omega)
            have v6 := x4.2.1 6 (by omega)
            have z0 := y3.2.1 0 (by omega)
            have z1 := y3.2.1 1 (by omega)
            have z2 := y3.2.1 2 (by omega)
            have z3 := y3.2.1 3 (by omega)
            have z4 := y3.2.1 4 (by omega)
            have z5 := y3.2.1 5 (by omega)
            have z6 := y3.2.1 6 (by omega)
            have g0 := y3.2.2 0
            have g1 := y3.2.2 1
            have g2 := y3.2.2 2
            have g3 := y3.2.2 3
            have g4 := y3.2.2 4
            have g5 := y3.2.2 5
            have g6 := y3.2.2 6
            simp only at z0 z1 z2 z3 z4 z5 z6
            have hlast : OwnM X w.heap.size vc s.cmds := by
              rw [HX.out]
              exact (hown.heap (w' := set7 wr (pb + 1) _ _ _ _ _ _ _) fun a ha => set7_other _ _ _ _ _ _ _ _ _ a (by have := (hown.lt a ha).1; omega)).mono (by rw [← HPB.out]; omega)
            have HBX : Below w.heap.size w X := by rw [HX.out]; exact below_set7 HBW (by rw [← HPB.out]; omega) _ _ _ _ _ _ _
            subst hvc
            go_wp2
            rw [show (((((((wr.setCell ⟨pb + 1, 0, none⟩ (.int .i64 s.at_)).setCell ⟨pb + 1, 1, none⟩ (.int .i64 s.ost)).setCell ⟨pb + 1, 2, none⟩ (.int .i64 s.ova)).setCell ⟨pb + 1, 3, none⟩ (.int .i64 s.on)).setCell ⟨pb + 1, 4, none⟩ (.slice mo s.cmds.length mc)).setCell ⟨pb + 1, 5, none⟩ (.int .i64 s.sig)).setCell ⟨pb + 1, 6, none⟩ (.int .i64 s.steps)) = X from HX.out.symm]
            refine bodyPost_ret (v := .tuple #[.agg #[.int .i64 s.at_, .int .i64 s.ost, .int .i64 s.ova, .int .i64 s.on, .slice mo s.cmds.length mc, .int .i64 s.sig, .int .i64 s.steps], .int .i64 0]) (by simp [results, Tryd.results17, go_sem, v0, v1, v2, v3, v4, v5, v6]) rfl ?_
            exact ⟨.slice mo s.cmds.length mc, by rw [HRR2.out, ← hs.out]; rfl, by rw [← hs.out]; exact hlast, HBX⟩
  · rw [if_neg hok] at hHR
    have her : errP p 20 = 100 := by unfold errP; rw [if_neg hok]
    rw [her] at hchk
    subst hHR
    go_enter Tryd.func17, Tryd.ntmps17
    go_wp2_with fail
    rw [← HW1.out, ← HW2.out, ← HPB.out]
    (with_reducible refine Calls.mono hchk ?_)
    rintro e w3 ⟨rfl, hb3⟩
    have x3 := HXR.out.below hb3
    have c0 := x3.2.1
    have f3 := x3.2.2
    have z0 := c0 0 (by omega)
    have z1 := c0 1 (by omega)
    have z2 := c0 2 (by omega)
    have z3 := c0 3 (by omega)
    have z4 := c0 4 (by omega)
    have z5 := c0 5 (by omega)
    have z6 := c0 6 (by omega)
    have g0 := f3 0
    have g1 := f3 1
    have g2 := f3 2
    have g3 := f3 3
    have g4 := f3 4
    have g5 := f3 5
    have g6 := f3 6
    simp only at z0 z1 z2 z3 z4 z5 z6
    clear c0 f3
    go_wp2
    obtain ⟨X, HX⟩ := named (set7 w3 (pb + 1) (.int .i64 0) (.int .i64 0) (.int .i64 0) (.int .i64 0) (.slice none 0 0) (.int .i64 0) (.int .i64 0))
    have x4 : RC 7 X (pb + 1) (fun k => ([.int .i64 0, .int .i64 0, .int .i64 0, .int .i64 0, .slice none 0 0, .int .i64 0, .int .i64 0] : List Value).getD k undef) := by rw [HX.out]; exact RC.set7 x3 _ _ _ _ _ _ _
    have v0 := x4.2.1 0 (by omega)
    have v1 := x4.2.1 1 (by omega)
    have v2 := x4.2.1 2 (by omega)
    have v3 := x4.2.1 3 (by omega)
    have v4 := x4.2.1 4 (by omega)
    have v5 := x4.2.1 5 (by omega)
    have v6 := x4.2.1 6 (by omega)
    have HBX : Below w.heap.size w X := by rw [HX.out]; exact below_set7 (HB2.out.trans (hb3.mono (by rw [hz2, ← HPB.out]; omega))) (by rw [← HPB.out]; omega) _ _ _ _ _ _ _
    rw [show ((((((w3.setCell ⟨pb + 1, 0, none⟩ (.int .i64 0)).setCell ⟨pb + 1, 1, none⟩ (.int .i64 0)).setCell ⟨pb + 1, 2, none⟩ (.int .i64 0)).setCell ⟨pb + 1, 3, none⟩ (.int .i64 0)).setCell ⟨pb + 1, 4, none⟩ (.slice none 0 0)).setCell ⟨pb + 1, 5, none⟩ (.int .i64 0)).setCell ⟨pb + 1, 6, none⟩ (.int .i64 0) = X from HX.out.symm]
    refine bodyPost_ret (v := .tuple #[.agg #[.int .i64 0, .int .i64 0, .int .i64 0, .int .i64 0, .slice none 0 0, .int .i64 0, .int .i64 0], .int .i64 100]) (by simp [results, Tryd.results17, go_sem, v0, v1, v2, v3, v4, v5, v6]) rfl ?_
    exact ⟨.slice none 0 0, rfl, OwnX.nil _ _ _ _, HBX⟩
end Go.Proofs.YtlngeonfabahnaaDoor
