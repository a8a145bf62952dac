/-
  The walk of RunFuel. Own work.
-/
import Derived.Test.YtlngeonfabahnaaDoorLc
import Derived.Test.YtlngeonfabahnaaDoorLd
import Derived.Test.YtlngeonfabahnaaDoorCj
namespace Go.Proofs.YtlngeonfabahnaaDoor
open Go Go.RowKit
set_option linter.unusedSimpArgs false
set_option linter.unusedVariables false

/-- a run with less fuel beside one with more -/
theorem run_fuel (kn : Int → Option Oc) (sg : List Int) (code : List Ins) (arg : Int) (a b : Nat) (h : a ≤ b) :
    ((runP kn sg code arg a).at_ ≠ 4 → runP kn sg code arg b = runP kn sg code arg a ∧ (runP kn sg code arg a).steps ≤ a) ∧
    ((runP kn sg code arg a).at_ = 4 → (runP kn sg code arg a).steps = a ∧ Ext (runP kn sg code arg a) (runP kn sg code arg b)) := by
  obtain ⟨-, f2, f3, f4, -⟩ := it_facts kn sg code a (st0 arg) rfl
  have hs : (st0 arg).steps = 0 := rfl
  have e : it kn sg code b (st0 arg) = it kn sg code (b - a) (it kn sg code a (st0 arg)) := by rw [← it_add]; congr 1; omega
  have hfin : ∀ s : St, Ext s (fin s) ∧ Ext (fin s) s := fun s => by
    unfold fin
    split <;> exact ⟨⟨List.prefix_refl _, Nat.le_refl _, Nat.le_refl _⟩, ⟨List.prefix_refl _, Nat.le_refl _, Nat.le_refl _⟩⟩
  unfold runP
  by_cases h0 : (it kn sg code a (st0 arg)).at_ = 0
  · have e1 : fin (it kn sg code a (st0 arg)) = { it kn sg code a (st0 arg) with at_ := 4 } := by unfold fin; rw [if_pos h0]
    refine ⟨fun h => absurd (by rw [e1]) h, fun _ => ⟨?_, ?_⟩⟩
    · rw [e1]
      show (it kn sg code a (st0 arg)).steps = a
      rw [f2 h0, hs]
      omega
    · have g := (it_facts kn sg code (b - a) _ h0).1
      rw [← e] at g
      exact ((hfin _).2.trans g).trans (hfin _).1
  · have e1 : fin (it kn sg code a (st0 arg)) = it kn sg code a (st0 arg) := by unfold fin; rw [if_neg h0]
    have e2 : it kn sg code b (st0 arg) = it kn sg code a (st0 arg) := by rw [e, it_stood _ _ _ _ _ h0]
    rw [e2, e1]
    refine ⟨fun _ => ⟨rfl, by omega⟩, fun h => ?_⟩
    rw [h] at f4
    omega
theorem runR_bad (p : Prg) (arg : Int) (l : List (Int × Oc)) (sg : List Int) (fuel : Int) (h : ¬ okP p 20 = true) : runR p arg l sg fuel = (noS, 100) := if_neg h
theorem runR_good (p : Prg) (arg : Int) (l : List (Int × Oc)) (sg : List Int) (fuel : Nat) (h : okP p 20 = true) (hf : fuel ≤ 10000) : runR p arg l sg fuel = (runP (knOf l) sg p.code arg fuel, 0) := by
  unfold runR
  rw [if_pos h, if_neg (by omega), Int.toNat_natCast]

set_option maxRecDepth 100000 in
set_option maxHeartbeats 6400000 in
theorem fuel_walk (w : World) (hk : Kinds w) (p : Prg) (cv : Value) (hc : RdC w cv p.code) (hw : ∀ i ∈ p.code, i.wf) (arg : Int) (kv sv : Value) (fu : Int) (l : List (Int × Oc)) (sg : List Int) (hl : RdK w kv l) (hsv : RdN w sv sg) (t u : Int) :
    Calls Tryd.prog 5 #[.agg #[.string p.name, .int .i64 p.regs, cv], .agg #[.int .i64 arg, kv, sv, .int .i64 fu], .agg #[.int .i64 t, .int .i64 u]] w fun e w' => e = .returned (.bool true) ∧ Below w.heap.size w w' := by
  have HK := hide hk
  obtain ⟨ao, cap, hcv, -⟩ := hc.shape
  obtain ⟨ko, kc, hkv, -⟩ := hl.shape
  obtain ⟨so, sc, hsvv, -⟩ := hsv.shape
  obtain ⟨L, HL⟩ := named p.code.length
  obtain ⟨kl, HKL⟩ := named l.length
  obtain ⟨sl, HSL⟩ := named sg.length
  rw [← HL.out] at hcv
  rw [← HKL.out] at hkv
  rw [← HSL.out] at hsvv
  subst hcv hkv hsvv
  obtain ⟨pb, HPB⟩ := named w.heap.size
  obtain ⟨W1, HW1⟩ := named (((w.alloc (.cells #[.string p.name, .int .i64 p.regs, .slice ao L cap] 24)).alloc (.cells #[.int .i64 arg, .slice ko kl kc, .slice so sl sc, .int .i64 fu] 28)).alloc (.cells #[.int .i64 t, .int .i64 u] 42))
  have hb1 : Below w.heap.size w W1 := by rw [HW1.out]; exact (((Below.refl _ _).alloc (Nat.le_refl _) _).alloc (by simp) _).alloc (by simp; omega) _
  have xp : RC 3 W1 pb (fun k => ([.string p.name, .int .i64 p.regs, .slice ao L cap] : List Value).getD k undef) := by
    rw [HW1.out, HPB.out]
    refine ((RC.new w _ 24 _ (fun k hk => ?_)).alloc _).alloc _
    rcases (show k = 0 ∨ k = 1 ∨ k = 2 by omega) with rfl | rfl | rfl <;> rfl
  have hz : (w.alloc (.cells #[.string p.name, .int .i64 p.regs, .slice ao L cap] 24)).heap.size = pb + 1 := by rw [HPB.out]; simp
  have xg : RC 4 W1 (pb + 1) (fun k => ([.int .i64 arg, .slice ko kl kc, .slice so sl sc, .int .i64 fu] : List Value).getD k undef) := by
    rw [HW1.out, ← hz]
    refine (RC.new _ _ 28 _ (fun k hk => ?_)).alloc _
    rcases (show k = 0 ∨ k = 1 ∨ k = 2 ∨ k = 3 by omega) with rfl | rfl | rfl | rfl <;> rfl
  have hz2 : ((w.alloc (.cells #[.string p.name, .int .i64 p.regs, .slice ao L cap] 24)).alloc (.cells #[.int .i64 arg, .slice ko kl kc, .slice so sl sc, .int .i64 fu] 28)).heap.size = pb + 2 := by rw [HPB.out]; simp
  have xx : RC 2 W1 (pb + 2) (fun k => ([.int .i64 t, .int .i64 u] : List Value).getD k undef) := by
    rw [HW1.out, ← hz2]
    refine RC.new _ _ 42 _ (fun k hk => ?_)
    rcases (show k = 0 ∨ k = 1 by omega) with rfl | rfl <;> rfl
  have hzW : W1.heap.size = pb + 3 := by rw [HW1.out, HPB.out]; simp
  have HB1 := hide hb1
  have HXP := hide xp
  have HXG := hide xg
  have HXX := hide xx
  have HC := hide hc
  have HL0 := hide hl
  have HS0 := hide hsv
  have HWF := hide hw
  have hgr := great_any p (.slice ao L cap) W1 (hc.below hb1)
  have hgr : Calls Tryd.prog 10 #[.agg #[.string p.name, .int .i64 p.regs, .slice ao L cap]] W1 _ := hgr
  have p0 := xp.2.1 0 (by omega)
  have p1 := xp.2.1 1 (by omega)
  have p2 := xp.2.1 2 (by omega)
  clear hk hc hw hl hsv hb1 xp xg xx hz hz2
  go_enter Tryd.func5, Tryd.ntmps5
  go_wp2_with fail
  rw [← HW1.out]
  (with_reducible refine Calls.mono hgr ?_)
  rintro e w2 ⟨v, rfl, ⟨g, rfl, hg⟩, hb2⟩
  have HB2 := hide (HB1.out.trans (hb2.mono (by rw [hzW, ← HPB.out]; omega)))
  cases g with
  | true =>
    go_wp2_with fail
    (with_reducible refine Calls.mono (awake_true w2 (HK.out.below HB2.out)) ?_)
    rintro e w9 ⟨rfl, hb9⟩
    have HB9 := hide (below_call HB2.out hb9)
    clear hb9
    go_wp2
    go_ret
    exact ⟨rfl, HB9.out⟩
  | false =>
    have HX2 := hide (HXX.out.below hb2)
    have HP2 := hide (HXP.out.below hb2)
    have HG2 := hide (HXG.out.below hb2)
    have hzw2 : pb + 3 ≤ w2.heap.size := by have := hb2.size; omega
    obtain ⟨fa, HFA⟩ := named (t % (10001 : Int)).toNat
    obtain ⟨fb, HFB⟩ := named (u % (10001 : Int)).toNat
    have hfa : fa ≤ 10000 := by rw [HFA.out]; omega
    have hfb : fb ≤ 10000 := by rw [HFB.out]; omega
    have hp1 := fun wz => pick_any t 10001 wz (by omega) (by omega)
    have hp2 := fun wz => pick_any u 10001 wz (by omega) (by omega)
    have hp1 : ∀ wz, Calls Tryd.prog 16 #[.int .i64 t, .int .i64 10001] wz fun e w' => e = .returned (.int .i64 (fa : Int)) ∧ w' = wz := fun wz => by rw [HFA.out]; exact hp1 wz
    have hp2 : ∀ wz, Calls Tryd.prog 16 #[.int .i64 u, .int .i64 10001] wz fun e w' => e = .returned (.int .i64 (fb : Int)) ∧ w' = wz := fun wz => by rw [HFB.out]; exact hp2 wz
    have q0 : w2.drew.cell? ⟨pb + 2, 0, none⟩ = some (.int .i64 t) := HX2.out.2.1 0 (by omega)
    have q1 : w2.drew.cell? ⟨pb + 2, 1, none⟩ = some (.int .i64 u) := HX2.out.2.1 1 (by omega)
    have hs0 : w2.drew.cell? ⟨pb + 2, 0, none⟩ = some (.int .i64 t) ∧ w2.drew.cell? ⟨pb + 2, 1, none⟩ = some (.int .i64 u) := ⟨q0, q1⟩
    have hmn : min (fa : Int) (fb : Int) = ((min fa fb : Nat) : Int) := by omega
    have hmx : max (fa : Int) (fb : Int) = ((max fa fb : Nat) : Int) := by omega
    have hle : min fa fb ≤ max fa fb := by omega
    have hmx2 : max fa fb ≤ 10000 := by omega
    obtain ⟨mn, HMN⟩ := named (min fa fb)
    obtain ⟨mx, HMX⟩ := named (max fa fb)
    rw [← HMN.out] at hmn hle
    rw [← HMX.out] at hmx hle hmx2
    have HZ2 := hide hzw2
    clear hb2 q0 q1 hg hzw2
    go_wp2_with fail
    rw [← HPB.out]
    refine wp_region_E 7 (fun w' => w'.cell? ⟨pb + 2, 0, none⟩ = some (.int .i64 t) ∧ w'.cell? ⟨pb + 2, 1, none⟩ = some (.int .i64 u)) (by kernel_rfl) ?_
    refine wpAnyE_take 0 [7] (oi := { dst := some 16, op := Go.Op.indexAddr 42 (Go.Operand.tmp 5) (Go.Operand.const (Go.Value.int Go.IntKind.i64 0)), type := 0, pos := "outright.go:63", after := #[], guard := none }) (v := ?_) rfl (by kernel_rfl) (by kernel_rfl) (by kernel_rfl) (by kernel_rfl) (fun _ _ _ h => h) (Or.inl ⟨by rfl, ?hE1⟩) hs0 ?_
    case hE1 =>
      intro u hu
      obtain ⟨u0, u1⟩ := hu
      go_simp
      try with_reducible rfl
    simp only [Act.put, List.setIfInBounds_toArray, List.set_cons_zero, List.set_cons_succ]
    refine wpAnyE_take 1 [7] (oi := { dst := some 17, op := Go.Op.load 3 (Go.Operand.tmp 16), type := 3, pos := "outright.go:63", after := #[{ on := 0, ground := Go.Ground.data }], guard := none }) (v := ?_) rfl (by kernel_rfl) (by kernel_rfl) (by kernel_rfl) (by kernel_rfl) (fun _ _ _ h => h) (Or.inl ⟨by rfl, ?hE2⟩) hs0 ?_
    case hE2 =>
      intro u hu
      obtain ⟨u0, u1⟩ := hu
      go_simp
      try with_reducible rfl
    simp only [Act.put, List.setIfInBounds_toArray, List.set_cons_zero, List.set_cons_succ]
    refine wpAnyE_take 3 [7] (oi := { dst := some 19, op := Go.Op.indexAddr 42 (Go.Operand.tmp 5) (Go.Operand.const (Go.Value.int Go.IntKind.i64 1)), type := 0, pos := "outright.go:63", after := #[], guard := none }) (v := ?_) rfl (by kernel_rfl) (by kernel_rfl) (by kernel_rfl) (by kernel_rfl) (fun _ _ _ h => h) (Or.inl ⟨by rfl, ?hE3⟩) hs0 ?_
    case hE3 =>
      intro u hu
      obtain ⟨u0, u1⟩ := hu
      go_simp
      try with_reducible rfl
    simp only [Act.put, List.setIfInBounds_toArray, List.set_cons_zero, List.set_cons_succ]
    refine wpAnyE_take 4 [7] (oi := { dst := some 20, op := Go.Op.load 3 (Go.Operand.tmp 19), type := 3, pos := "outright.go:63", after := #[{ on := 3, ground := Go.Ground.data }], guard := none }) (v := ?_) rfl (by kernel_rfl) (by kernel_rfl) (by kernel_rfl) (by kernel_rfl) (fun _ _ _ h => h) (Or.inl ⟨by rfl, ?hE4⟩) hs0 ?_
    case hE4 =>
      intro u hu
      obtain ⟨u0, u1⟩ := hu
      go_simp
      try with_reducible rfl
    simp only [Act.put, List.setIfInBounds_toArray, List.set_cons_zero, List.set_cons_succ]
    refine wpAnyE_one (i := 2) (o := { dst := some 18, op := Go.Op.call { callee := Go.Callee.value (Go.Operand.func 16), args := #[Go.Operand.tmp 17, Go.Operand.const (Go.Value.int Go.IntKind.i64 10001)], argTypes := #[3, 3] }, type := 3, pos := "outright.go:63", after := #[{ on := 1, ground := Go.Ground.data }], guard := none }) (by kernel_rfl) rfl (fun K hK => ?_)
    go_simp
    (with_reducible refine Calls.mono (hp1 _) ?_)
    rintro e w3 ⟨rfl, hw3⟩
    have hw3 := hw3.symm
    subst hw3
    refine hK _ _ (fun _ => hs0) ?_
    clear hK K
    try simp only [Act.put, List.setIfInBounds_toArray, List.set_cons_zero, List.set_cons_succ]
    refine wpAnyE_one (i := 5) (o := { dst := some 21, op := Go.Op.call { callee := Go.Callee.value (Go.Operand.func 16), args := #[Go.Operand.tmp 20, Go.Operand.const (Go.Value.int Go.IntKind.i64 10001)], argTypes := #[3, 3] }, type := 3, pos := "outright.go:63", after := #[{ on := 4, ground := Go.Ground.data }, { on := 2, ground := Go.Ground.chain }], guard := none }) (by kernel_rfl) rfl (fun K hK => ?_)
    go_simp
    (with_reducible refine Calls.mono (hp2 _) ?_)
    rintro e w3 ⟨rfl, hw3⟩
    have hw3 := hw3.symm
    subst hw3
    refine hK _ _ (fun _ => hs0) ?_
    clear hK K
    try simp only [Act.put, List.setIfInBounds_toArray, List.set_cons_zero, List.set_cons_succ]
    refine wpAnyE_one (i := 6) (o := { dst := some 7, op := Go.Op.assign (Go.Operand.tmp 18), type := 3, pos := "outright.go:63", after := #[{ on := 2, ground := Go.Ground.data }, { on := 5, ground := Go.Ground.chain }, { on := 0, ground := Go.Ground.phase }, { on := 1, ground := Go.Ground.phase }, { on := 2, ground := Go.Ground.phase }, { on := 3, ground := Go.Ground.textOnly Go.Departure.lateStores }, { on := 4, ground := Go.Ground.textOnly Go.Departure.lateStores }, { on := 5, ground := Go.Ground.textOnly Go.Departure.lateStoresUnsure }], guard := none }) (by kernel_rfl) rfl (fun K hK => ?_)
    go_simp
    refine hK _ _ (fun _ => hs0) ?_
    clear hK K
    try simp only [Act.put, List.setIfInBounds_toArray, List.set_cons_zero, List.set_cons_succ]
    refine wpAnyE_one (i := 7) (o := { dst := some 8, op := Go.Op.assign (Go.Operand.tmp 21), type := 3, pos := "outright.go:63", after := #[{ on := 5, ground := Go.Ground.data }, { on := 6, ground := Go.Ground.chain }, { on := 0, ground := Go.Ground.phase }, { on := 1, ground := Go.Ground.phase }, { on := 2, ground := Go.Ground.phase }, { on := 3, ground := Go.Ground.phase }, { on := 4, ground := Go.Ground.phase }, { on := 5, ground := Go.Ground.phase }, { on := 6, ground := Go.Ground.phase }], guard := none }) (by kernel_rfl) rfl (fun K hK => ?_)
    go_simp
    refine hK _ _ (fun h => absurd rfl h) ?_
    clear hK K
    try simp only [Act.put, List.setIfInBounds_toArray, List.set_cons_zero, List.set_cons_succ]
    refine wpAnyE_done (by kernel_rfl) ?_
    obtain ⟨W3, HW3⟩ := named (w2.setCell ⟨pb + 1, 3, none⟩ (.int .i64 (mn : Int)))
    have g3 := HG2.out.set 3 (by omega) (.int .i64 (mn : Int))
    rw [← HW3.out] at g3
    have p3 := HP2.out.other (g := pb + 1) (o := 3) (by omega) (.int .i64 (mn : Int))
    rw [← HW3.out] at p3
    have HB3 : Hid (Below w.heap.size w W3) := by show Below _ _ _; rw [HW3.out]; exact HB2.out.setCell (by show w.heap.size ≤ pb + 1; rw [HPB.out]; omega) _
    have hz3 : pb + 3 ≤ W3.heap.size := by rw [HW3.out]; simpa [World.setCell] using HZ2.out
    have HZ3 := hide hz3
    have a3 : w2.drew.cell? ⟨pb + 1, 3, none⟩ = some (.int .i64 fu) := HG2.out.2.1 3 (by omega)
    have a3f : w2.drew.frozen? ⟨pb + 1, 3, none⟩ = false := HG2.out.2.2 3
    have b0 : (w2.setCell ⟨pb + 1, 3, none⟩ (.int .i64 (mn : Int))).drew.cell? ⟨pb, 0, none⟩ = some (.string p.name) := by rw [← HW3.out]; exact p3.2.1 0 (by omega)
    have b1 : (w2.setCell ⟨pb + 1, 3, none⟩ (.int .i64 (mn : Int))).drew.cell? ⟨pb, 1, none⟩ = some (.int .i64 p.regs) := by rw [← HW3.out]; exact p3.2.1 1 (by omega)
    have b2 : (w2.setCell ⟨pb + 1, 3, none⟩ (.int .i64 (mn : Int))).drew.cell? ⟨pb, 2, none⟩ = some (.slice ao L cap) := by rw [← HW3.out]; exact p3.2.1 2 (by omega)
    have c0 : (w2.setCell ⟨pb + 1, 3, none⟩ (.int .i64 (mn : Int))).drew.cell? ⟨pb + 1, 0, none⟩ = some (.int .i64 arg) := by rw [← HW3.out]; exact g3.2.1 0 (by omega)
    have c1 : (w2.setCell ⟨pb + 1, 3, none⟩ (.int .i64 (mn : Int))).drew.cell? ⟨pb + 1, 1, none⟩ = some (.slice ko kl kc) := by rw [← HW3.out]; exact g3.2.1 1 (by omega)
    have c2 : (w2.setCell ⟨pb + 1, 3, none⟩ (.int .i64 (mn : Int))).drew.cell? ⟨pb + 1, 2, none⟩ = some (.slice so sl sc) := by rw [← HW3.out]; exact g3.2.1 2 (by omega)
    have c3 : (w2.setCell ⟨pb + 1, 3, none⟩ (.int .i64 (mn : Int))).drew.cell? ⟨pb + 1, 3, none⟩ = some (.int .i64 (mn : Int)) := by rw [← HW3.out]; exact g3.2.1 3 (by omega)
    have hof := fun f wz (hb : Below w.heap.size w wz) => of_any p (.slice ao L cap) arg (.slice ko kl kc) l (.slice so sl sc) sg f wz (HK.out.below hb) (HC.out.below hb) HWF.out (RdX.below HL0.out hb) (RdX.below HS0.out hb)
    have HOF := hide hof
    have h1 := HOF.out mn W3.drew HB3.out.drew
    have h1 : Calls Tryd.prog 12 #[.agg #[.string p.name, .int .i64 p.regs, .slice ao L cap], .agg #[.int .i64 arg, .slice ko kl kc, .slice so sl sc, .int .i64 (mn : Int)]] W3.drew _ := h1
    obtain ⟨l3, HL3⟩ := named (l.take 300)
    obtain ⟨s3, HS3⟩ := named (sg.take 300)
    rw [← HL3.out, ← HS3.out] at h1 HOF
    have HG3 := hide g3
    have HP3 := hide p3
    clear hp1 hp2 hs0 hof g3 p3 hz3
    go_wp2_with fail
    rw [← HW3.out]
    obtain ⟨R1, HR1⟩ := named (runR p arg l3 s3 mn)
    rw [← HR1.out] at h1
    (with_reducible refine Calls.mono h1 ?_)
    rintro e w4 ⟨v4, rfl, hm4, hb4⟩
    clear a3 a3f b0 b1 b2 c0 c1 c2 c3 h1
    have hb4 : Below W3.heap.size W3 w4 := ⟨hb4.os, hb4.tape, hb4.output, hb4.size, hb4.block⟩
    have HM4 := hide hm4
    obtain ⟨mo, mc, hv4, -⟩ := RdM.shape (l := R1.1.cmds) hm4.rd
    subst hv4
    rw [show stV R1.1 (.slice mo R1.1.cmds.length mc) = .agg #[.int .i64 R1.1.at_, .int .i64 R1.1.ost, .int .i64 R1.1.ova, .int .i64 R1.1.on, .slice mo R1.1.cmds.length mc, .int .i64 R1.1.sig, .int .i64 R1.1.steps] from rfl]
    have HB4 := hide (HB3.out.trans (hb4.mono (by have := HB3.out.size; omega)))
    have HG4 := hide (HG3.out.below hb4)
    have HP4 := hide (HP3.out.below hb4)
    have hsz4 := hb4.size
    obtain ⟨l1, HL1⟩ := named R1.1.cmds.length
    rw [← HL1.out] at HM4 ⊢
    obtain ⟨w4s, HW4s⟩ := named (w4.alloc (.cells #[.int .i64 R1.1.at_, .int .i64 R1.1.ost, .int .i64 R1.1.ova, .int .i64 R1.1.on, .slice mo l1 mc, .int .i64 R1.1.sig, .int .i64 R1.1.steps] 35))
    obtain ⟨W5, HW5⟩ := named (w4s.setCell ⟨pb + 1, 3, none⟩ (.int .i64 (mx : Int)))
    obtain ⟨sb, HSB⟩ := named w4.heap.size
    have hpbs : pb + 1 < sb := by rw [HSB.out]; exact HG4.out.1
    have hz5 : W5.heap.size = sb + 1 := by rw [HW5.out, HW4s.out, HSB.out]; simp [World.setCell]
    have x5s : RC 7 w4s sb (fun k => ([.int .i64 R1.1.at_, .int .i64 R1.1.ost, .int .i64 R1.1.ova, .int .i64 R1.1.on, .slice mo l1 mc, .int .i64 R1.1.sig, .int .i64 R1.1.steps] : List Value).getD k undef) := by
      rw [HW4s.out, HSB.out]
      refine RC.new w4 _ 35 _ (fun k hk => ?_)
      rcases (show k = 0 ∨ k = 1 ∨ k = 2 ∨ k = 3 ∨ k = 4 ∨ k = 5 ∨ k = 6 by omega) with rfl | rfl | rfl | rfl | rfl | rfl | rfl <;> rfl
    have x5 := x5s.other (g := pb + 1) (o := 3) (by omega) (.int .i64 (mx : Int))
    rw [← HW5.out] at x5
    have g5 := (HG4.out.alloc (.cells #[.int .i64 R1.1.at_, .int .i64 R1.1.ost, .int .i64 R1.1.ova, .int .i64 R1.1.on, .slice mo l1 mc, .int .i64 R1.1.sig, .int .i64 R1.1.steps] 35)).set 3 (by omega) (.int .i64 (mx : Int))
    rw [← HW4s.out, ← HW5.out] at g5
    have p5 := (HP4.out.alloc (.cells #[.int .i64 R1.1.at_, .int .i64 R1.1.ost, .int .i64 R1.1.ova, .int .i64 R1.1.on, .slice mo l1 mc, .int .i64 R1.1.sig, .int .i64 R1.1.steps] 35)).other (g := pb + 1) (o := 3) (by omega) (.int .i64 (mx : Int))
    rw [← HW4s.out, ← HW5.out] at p5
    have m5 : RdM W5 (.slice mo l1 mc) R1.1.cmds := by
      rw [HW5.out, HW4s.out]
      exact ((HM4.out.alloc (.cells #[.int .i64 R1.1.at_, .int .i64 R1.1.ost, .int .i64 R1.1.ova, .int .i64 R1.1.on, .slice mo l1 mc, .int .i64 R1.1.sig, .int .i64 R1.1.steps] 35)).heap (w' := (w4.alloc (.cells #[.int .i64 R1.1.at_, .int .i64 R1.1.ost, .int .i64 R1.1.ova, .int .i64 R1.1.on, .slice mo l1 mc, .int .i64 R1.1.sig, .int .i64 R1.1.steps] 35)).setCell ⟨pb + 1, 3, none⟩ (.int .i64 (mx : Int))) fun a ha => Below.heap_setCell _ _ _ _ (by have h1 := (HM4.out.lt a ha).1; have h2 : W3.drew.heap.size = W3.heap.size := rfl; have h3 := HZ3.out; show a ≠ pb + 1; omega)).rd
    have HB5 : Hid (Below w.heap.size w W5) := by
      show Below _ _ _
      rw [HW5.out, HW4s.out]
      exact (HB4.out.alloc HB4.out.size _).setCell (p := ⟨pb + 1, 3, none⟩) (by show w.heap.size ≤ pb + 1; rw [HPB.out]; omega) _
    have a4 : w4.cell? ⟨pb + 1, 3, none⟩ = some (.int .i64 (mn : Int)) := HG4.out.2.1 3 (by omega)
    have a4f : w4.frozen? ⟨pb + 1, 3, none⟩ = false := HG4.out.2.2 3
    have HG4a := HG4.out.alloc (.cells #[.int .i64 R1.1.at_, .int .i64 R1.1.ost, .int .i64 R1.1.ova, .int .i64 R1.1.on, .slice mo l1 mc, .int .i64 R1.1.sig, .int .i64 R1.1.steps] 35)
    have a5 : (w4.alloc (.cells #[.int .i64 R1.1.at_, .int .i64 R1.1.ost, .int .i64 R1.1.ova, .int .i64 R1.1.on, .slice mo l1 mc, .int .i64 R1.1.sig, .int .i64 R1.1.steps] 35)).cell? ⟨pb + 1, 3, none⟩ = some (.int .i64 (mn : Int)) := HG4a.2.1 3 (by omega)
    have a5f : (w4.alloc (.cells #[.int .i64 R1.1.at_, .int .i64 R1.1.ost, .int .i64 R1.1.ova, .int .i64 R1.1.on, .slice mo l1 mc, .int .i64 R1.1.sig, .int .i64 R1.1.steps] 35)).frozen? ⟨pb + 1, 3, none⟩ = false := HG4a.2.2 3
    clear HG4a
    have b0 : W5.cell? ⟨pb, 0, none⟩ = some (.string p.name) := p5.2.1 0 (by omega)
    have b1 : W5.cell? ⟨pb, 1, none⟩ = some (.int .i64 p.regs) := p5.2.1 1 (by omega)
    have b2 : W5.cell? ⟨pb, 2, none⟩ = some (.slice ao L cap) := p5.2.1 2 (by omega)
    have c0 : W5.cell? ⟨pb + 1, 0, none⟩ = some (.int .i64 arg) := g5.2.1 0 (by omega)
    have c1 : W5.cell? ⟨pb + 1, 1, none⟩ = some (.slice ko kl kc) := g5.2.1 1 (by omega)
    have c2 : W5.cell? ⟨pb + 1, 2, none⟩ = some (.slice so sl sc) := g5.2.1 2 (by omega)
    have c3 : W5.cell? ⟨pb + 1, 3, none⟩ = some (.int .i64 (mx : Int)) := g5.2.1 3 (by omega)
    rw [HW5.out, HW4s.out] at b0 b1 b2 c0 c1 c2 c3
    have h2 := HOF.out mx W5 HB5.out
    have h2 : Calls Tryd.prog 12 #[.agg #[.string p.name, .int .i64 p.regs, .slice ao L cap], .agg #[.int .i64 arg, .slice ko kl kc, .slice so sl sc, .int .i64 (mx : Int)]] W5 _ := h2
    obtain ⟨R2, HR2⟩ := named (runR p arg l3 s3 mx)
    rw [← HR2.out] at h2
    have HX5 := hide x5
    have HM5 := hide m5
    have hlt5 : Hid (sb < W5.heap.size) := x5.1
    clear hb4 hm4 x5 g5 p5 m5 hz5 x5s
    go_wp2_with fail
    rw [← HW4s.out, ← HW5.out]
    (with_reducible refine Calls.mono h2 ?_)
    rintro e w6 ⟨v6, rfl, hm6, hb6⟩
    clear a4 a4f a5 a5f b0 b1 b2 c0 c1 c2 c3 h2
    obtain ⟨no, nc, hv6, hn6⟩ := RdM.shape (l := R2.1.cmds) hm6.rd
    subst hv6
    rw [show stV R2.1 (.slice no R2.1.cmds.length nc) = .agg #[.int .i64 R2.1.at_, .int .i64 R2.1.ost, .int .i64 R2.1.ova, .int .i64 R2.1.on, .slice no R2.1.cmds.length nc, .int .i64 R2.1.sig, .int .i64 R2.1.steps] from rfl]
    obtain ⟨l2, HL2⟩ := named R2.1.cmds.length
    rw [← HL2.out] at hm6 hn6 ⊢
    obtain ⟨ub, HUB⟩ := named w6.heap.size
    obtain ⟨W7, HW7⟩ := named (w6.alloc (.cells #[.int .i64 R2.1.at_, .int .i64 R2.1.ost, .int .i64 R2.1.ova, .int .i64 R2.1.on, .slice no l2 nc, .int .i64 R2.1.sig, .int .i64 R2.1.steps] 35))
    have x7 : RC 7 W7 ub (fun k => ([.int .i64 R2.1.at_, .int .i64 R2.1.ost, .int .i64 R2.1.ova, .int .i64 R2.1.on, .slice no l2 nc, .int .i64 R2.1.sig, .int .i64 R2.1.steps] : List Value).getD k undef) := by
      rw [HW7.out, HUB.out]
      refine RC.new w6 _ 35 _ (fun k hk => ?_)
      rcases (show k = 0 ∨ k = 1 ∨ k = 2 ∨ k = 3 ∨ k = 4 ∨ k = 5 ∨ k = 6 by omega) with rfl | rfl | rfl | rfl | rfl | rfl | rfl <;> rfl
    have hb57 : Below W5.heap.size W5 W7 := by rw [HW7.out]; exact hb6.alloc hb6.size _
    have y7 := HX5.out.below hb57
    have HM7 := hide (RdM.below HM5.out hb57)
    have HN7 : Hid (RdM W7 (.slice no l2 nc) R2.1.cmds) := by show RdM _ _ _; rw [HW7.out]; exact RdX.alloc hm6.rd _
    have HB7 := hide (HB5.out.trans (hb57.mono HB5.out.size))
    have d0 : W7.cell? ⟨sb, 0, none⟩ = some (.int .i64 R1.1.at_) := y7.2.1 0 (by omega)
    have d1 : W7.cell? ⟨sb, 1, none⟩ = some (.int .i64 R1.1.ost) := y7.2.1 1 (by omega)
    have d2 : W7.cell? ⟨sb, 2, none⟩ = some (.int .i64 R1.1.ova) := y7.2.1 2 (by omega)
    have d3 : W7.cell? ⟨sb, 3, none⟩ = some (.int .i64 R1.1.on) := y7.2.1 3 (by omega)
    have d4 : W7.cell? ⟨sb, 4, none⟩ = some (.slice mo l1 mc) := y7.2.1 4 (by omega)
    have d5 : W7.cell? ⟨sb, 5, none⟩ = some (.int .i64 R1.1.sig) := y7.2.1 5 (by omega)
    have d6 : W7.cell? ⟨sb, 6, none⟩ = some (.int .i64 R1.1.steps) := y7.2.1 6 (by omega)
    have e0 : W7.cell? ⟨ub, 0, none⟩ = some (.int .i64 R2.1.at_) := x7.2.1 0 (by omega)
    have e1 : W7.cell? ⟨ub, 1, none⟩ = some (.int .i64 R2.1.ost) := x7.2.1 1 (by omega)
    have e2 : W7.cell? ⟨ub, 2, none⟩ = some (.int .i64 R2.1.ova) := x7.2.1 2 (by omega)
    have e3 : W7.cell? ⟨ub, 3, none⟩ = some (.int .i64 R2.1.on) := x7.2.1 3 (by omega)
    have e4 : W7.cell? ⟨ub, 4, none⟩ = some (.slice no l2 nc) := x7.2.1 4 (by omega)
    have e5 : W7.cell? ⟨ub, 5, none⟩ = some (.int .i64 R2.1.sig) := x7.2.1 5 (by omega)
    have e6 : W7.cell? ⟨ub, 6, none⟩ = some (.int .i64 R2.1.steps) := x7.2.1 6 (by omega)
    have hlt7 : Hid (sb < W7.heap.size ∧ ub < W7.heap.size) := ⟨y7.1, x7.1⟩
    clear hb6 hm6 hb57 x7 y7
    by_cases hok : okP p 20 = true
    · have hg1 := runR_good p arg l3 s3 mn hok (by omega)
      have hg2 := runR_good p arg l3 s3 mx hok hmx2
      obtain ⟨hf1, hf2⟩ := run_fuel (knOf l3) s3 p.code arg mn mx hle
      obtain ⟨A, HA⟩ := named (runP (knOf l3) s3 p.code arg mn)
      obtain ⟨B, HBB⟩ := named (runP (knOf l3) s3 p.code arg mx)
      rw [← HA.out] at hg1 hf1 hf2
      rw [← HBB.out] at hg2 hf1 hf2
      have k1 : R1 = (A, 0) := HR1.out.trans hg1
      have k2 : R2 = (B, 0) := HR2.out.trans hg2
      subst k1 k2
      simp only at HL1 HL2 HM7 HN7 d0 d1 d2 d3 d5 d6 e0 e1 e2 e3 e5 e6 ⊢
      by_cases h4 : A.at_ = 4
      · obtain ⟨hst, hext⟩ := hf2 h4
        have q1 : ((A.at_ : Int) == 4) = true := by rw [h4]; rfl
        have q2 : (A.at_ : Int) = 4 := by rw [h4]; rfl
        have q3 : ((A.steps : Int) == (mn : Int)) = true := by rw [hst]; simp
        have q4 : (A.steps : Int) = (mn : Int) := by rw [hst]
        have q5' : decide (mn ≤ B.steps) = true := decide_eq_true (by have := hext.steps; omega)
        have hlen : l1 ≤ l2 := by rw [HL1.out, HL2.out]; exact hext.cmds.length_le
        have q6 : decide (l1 ≤ l2) = true := decide_eq_true hlen
        have q7 : (l1 : Int) ≤ (nc : Int) := by omega
        have q8 : nc ≤ 9223372036854775807 := by have := hn6.2; unfold maxLen at this; omega
        have hsc := sameCmds_any (w := W7.drew) HM7.out (RdM.take (l := B.cmds) HN7.out l1 (by rw [← HL2.out]; exact hlen))
        rw [decide_eq_true (show A.cmds = B.cmds.take l1 by
          obtain ⟨x, hx⟩ := hext.cmds
          rw [← hx, HL1.out, List.take_left])] at hsc
        have HQ := hide hext
        have hs7 : W7.drew.cell? ⟨sb, 4, none⟩ = some (.slice mo l1 mc) ∧ W7.drew.cell? ⟨sb, 6, none⟩ = some (.int .i64 A.steps) ∧ W7.drew.cell? ⟨ub, 4, none⟩ = some (.slice no l2 nc) ∧ W7.drew.cell? ⟨ub, 6, none⟩ = some (.int .i64 B.steps) := ⟨d4, d6, e4, e6⟩
        have g7 : (sb < W7.drew.heap.size ∧ ub < W7.drew.heap.size) := hlt7.out
        have G7 := hide g7
        rw [HW7.out, HSB.out] at d0
        simp only at d0
        clear hf1 hf2 hext hlen hst h4 hg1 hg2 g7 hok hn6 d1 d2 d3 d4 d5 d6 e0 e1 e2 e3 e4 e5 e6 HG4 HP4 HG3 HP3 HG2 HP2 HX2
        go_wp2_with fail
        rw [← HW7.out, ← HSB.out, ← HUB.out]
        refine wp_region_E 36 (fun w' => w'.cell? ⟨sb, 4, none⟩ = some (.slice mo l1 mc) ∧ w'.cell? ⟨sb, 6, none⟩ = some (.int .i64 A.steps) ∧ w'.cell? ⟨ub, 4, none⟩ = some (.slice no l2 nc) ∧ w'.cell? ⟨ub, 6, none⟩ = some (.int .i64 B.steps)) (by kernel_rfl) ?_
        refine wpAnyE_take 0 [36] (oi := { dst := some 71, op := Go.Op.fieldAddr 35 (Go.Operand.tmp 9) 5, type := 0, pos := "outright.go:74", after := #[], guard := none }) (v := ?_) rfl (by kernel_rfl) (by kernel_rfl) (by kernel_rfl) (by kernel_rfl) (fun _ _ _ h => h) (Or.inl ⟨by rfl, ?hE5⟩) hs7 ?_
        case hE5 =>
          intro u hu
          obtain ⟨u0, u1, u2, u3⟩ := hu
          go_simp
          try with_reducible rfl
        simp only [Act.put, List.setIfInBounds_toArray, List.set_cons_zero, List.set_cons_succ]
        refine wpAnyE_take 1 [36] (oi := { dst := some 72, op := Go.Op.load 3 (Go.Operand.tmp 71), type := 3, pos := "outright.go:74", after := #[{ on := 0, ground := Go.Ground.data }], guard := none }) (v := ?_) rfl (by kernel_rfl) (by kernel_rfl) (by kernel_rfl) (by kernel_rfl) (fun _ _ _ h => h) (Or.inl ⟨by rfl, ?hE6⟩) hs7 ?_
        case hE6 =>
          intro u hu
          obtain ⟨u0, u1, u2, u3⟩ := hu
          go_simp
          try with_reducible rfl
        simp only [Act.put, List.setIfInBounds_toArray, List.set_cons_zero, List.set_cons_succ]
        refine wpAnyE_take 2 [36] (oi := { dst := some 73, op := Go.Op.move (Go.Operand.tmp 7), type := 3, pos := "outright.go:74", after := #[], guard := none }) (v := ?_) rfl (by kernel_rfl) (by kernel_rfl) (by kernel_rfl) (by kernel_rfl) (fun _ _ _ h => h) (Or.inl ⟨by rfl, ?hE7⟩) hs7 ?_
        case hE7 =>
          intro u hu
          obtain ⟨u0, u1, u2, u3⟩ := hu
          go_simp
          try with_reducible rfl
        simp only [Act.put, List.setIfInBounds_toArray, List.set_cons_zero, List.set_cons_succ]
        refine wpAnyE_take 3 [36] (oi := { dst := some 74, op := Go.Op.move (Go.Operand.tmp 8), type := 3, pos := "outright.go:74", after := #[], guard := none }) (v := ?_) rfl (by kernel_rfl) (by kernel_rfl) (by kernel_rfl) (by kernel_rfl) (fun _ _ _ h => h) (Or.inl ⟨by rfl, ?hE8⟩) hs7 ?_
        case hE8 =>
          intro u hu
          obtain ⟨u0, u1, u2, u3⟩ := hu
          go_simp
          try with_reducible rfl
        simp only [Act.put, List.setIfInBounds_toArray, List.set_cons_zero, List.set_cons_succ]
        refine wpAnyE_take 4 [36] (oi := { dst := some 75, op := Go.Op.call { callee := Go.Callee.builtin Go.Builtin.min, args := #[Go.Operand.tmp 73, Go.Operand.tmp 74], argTypes := #[3, 3] }, type := 3, pos := "outright.go:74", after := #[{ on := 2, ground := Go.Ground.data }, { on := 3, ground := Go.Ground.data }], guard := none }) (v := ?_) rfl (by kernel_rfl) (by kernel_rfl) (by kernel_rfl) (by kernel_rfl) (fun _ _ _ h => h) (Or.inl ⟨by rfl, ?hE9⟩) hs7 ?_
        case hE9 =>
          intro u hu
          obtain ⟨u0, u1, u2, u3⟩ := hu
          go_simp
          try with_reducible rfl
        simp only [Act.put, List.setIfInBounds_toArray, List.set_cons_zero, List.set_cons_succ]
        refine wpAnyE_take 5 [36] (oi := { dst := some 76, op := Go.Op.binOp Go.BinOp.eql 3 (Go.Operand.tmp 72) (Go.Operand.tmp 75) 3, type := 4, pos := "outright.go:74", after := #[{ on := 1, ground := Go.Ground.data }, { on := 4, ground := Go.Ground.data }], guard := none }) (v := ?_) rfl (by kernel_rfl) (by kernel_rfl) (by kernel_rfl) (by kernel_rfl) (fun _ _ _ h => h) (Or.inl ⟨by rfl, ?hE10⟩) hs7 ?_
        case hE10 =>
          intro u hu
          obtain ⟨u0, u1, u2, u3⟩ := hu
          go_simp
          try with_reducible rfl
        simp only [Act.put, List.setIfInBounds_toArray, List.set_cons_zero, List.set_cons_succ]
        refine wpAnyE_take 6 [36] (oi := { dst := some 77, op := Go.Op.move (Go.Operand.tmp 76), type := 4, pos := "outright.go:74", after := #[{ on := 5, ground := Go.Ground.data }], guard := none }) (v := ?_) rfl (by kernel_rfl) (by kernel_rfl) (by kernel_rfl) (by kernel_rfl) (fun _ _ _ h => h) (Or.inl ⟨by rfl, ?hE11⟩) hs7 ?_
        case hE11 =>
          intro u hu
          obtain ⟨u0, u1, u2, u3⟩ := hu
          go_simp
          try with_reducible rfl
        simp only [Act.put, List.setIfInBounds_toArray, List.set_cons_zero, List.set_cons_succ]
        refine wpAnyE_take 7 [36] (oi := { dst := some 78, op := Go.Op.fieldAddr 35 (Go.Operand.tmp 11) 5, type := 0, pos := "outright.go:74", after := #[{ on := 6, ground := Go.Ground.guard }], guard := some (6, true) }) (v := ?_) rfl (by kernel_rfl) (by kernel_rfl) (by kernel_rfl) (by kernel_rfl) (fun _ _ _ h => h) (Or.inl ⟨by rfl, ?hE12⟩) hs7 ?_
        case hE12 =>
          intro u hu
          obtain ⟨u0, u1, u2, u3⟩ := hu
          go_simp
          try with_reducible rfl
        simp only [Act.put, List.setIfInBounds_toArray, List.set_cons_zero, List.set_cons_succ]
        refine wpAnyE_take 8 [36] (oi := { dst := some 79, op := Go.Op.load 3 (Go.Operand.tmp 78), type := 3, pos := "outright.go:74", after := #[{ on := 7, ground := Go.Ground.data }, { on := 6, ground := Go.Ground.guard }], guard := some (6, true) }) (v := ?_) rfl (by kernel_rfl) (by kernel_rfl) (by kernel_rfl) (by kernel_rfl) (fun _ _ _ h => h) (Or.inl ⟨by rfl, ?hE13⟩) hs7 ?_
        case hE13 =>
          intro u hu
          obtain ⟨u0, u1, u2, u3⟩ := hu
          go_simp
          try with_reducible rfl
        simp only [Act.put, List.setIfInBounds_toArray, List.set_cons_zero, List.set_cons_succ]
        refine wpAnyE_take 9 [36] (oi := { dst := some 80, op := Go.Op.fieldAddr 35 (Go.Operand.tmp 9) 5, type := 0, pos := "outright.go:74", after := #[{ on := 6, ground := Go.Ground.guard }], guard := some (6, true) }) (v := ?_) rfl (by kernel_rfl) (by kernel_rfl) (by kernel_rfl) (by kernel_rfl) (fun _ _ _ h => h) (Or.inl ⟨by rfl, ?hE14⟩) hs7 ?_
        case hE14 =>
          intro u hu
          obtain ⟨u0, u1, u2, u3⟩ := hu
          go_simp
          try with_reducible rfl
        simp only [Act.put, List.setIfInBounds_toArray, List.set_cons_zero, List.set_cons_succ]
        refine wpAnyE_take 10 [36] (oi := { dst := some 81, op := Go.Op.load 3 (Go.Operand.tmp 80), type := 3, pos := "outright.go:74", after := #[{ on := 9, ground := Go.Ground.data }, { on := 6, ground := Go.Ground.guard }], guard := some (6, true) }) (v := ?_) rfl (by kernel_rfl) (by kernel_rfl) (by kernel_rfl) (by kernel_rfl) (fun _ _ _ h => h) (Or.inl ⟨by rfl, ?hE15⟩) hs7 ?_
        case hE15 =>
          intro u hu
          obtain ⟨u0, u1, u2, u3⟩ := hu
          go_simp
          try with_reducible rfl
        simp only [Act.put, List.setIfInBounds_toArray, List.set_cons_zero, List.set_cons_succ]
        refine wpAnyE_take 11 [36] (oi := { dst := some 82, op := Go.Op.binOp Go.BinOp.geq 3 (Go.Operand.tmp 79) (Go.Operand.tmp 81) 3, type := 4, pos := "outright.go:74", after := #[{ on := 8, ground := Go.Ground.data }, { on := 10, ground := Go.Ground.data }, { on := 6, ground := Go.Ground.guard }], guard := some (6, true) }) (v := ?_) rfl (by kernel_rfl) (by kernel_rfl) (by kernel_rfl) (by kernel_rfl) (fun _ _ _ h => h) (Or.inl ⟨by rfl, ?hE16⟩) hs7 ?_
        case hE16 =>
          intro u hu
          obtain ⟨u0, u1, u2, u3⟩ := hu
          go_simp
          try with_reducible rfl
        simp only [Act.put, List.setIfInBounds_toArray, List.set_cons_zero, List.set_cons_succ]
        refine wpAnyE_take 12 [36] (oi := { dst := some 83, op := Go.Op.pick (Go.Operand.tmp 77) (Go.Operand.tmp 82) (Go.Operand.const (Go.Value.bool false)), type := 4, pos := "outright.go:74", after := #[{ on := 6, ground := Go.Ground.data }, { on := 11, ground := Go.Ground.data }], guard := none }) (v := ?_) rfl (by kernel_rfl) (by kernel_rfl) (by kernel_rfl) (by kernel_rfl) (fun _ _ _ h => h) (Or.inl ⟨by rfl, ?hE17⟩) hs7 ?_
        case hE17 =>
          intro u hu
          obtain ⟨u0, u1, u2, u3⟩ := hu
          go_simp
          try with_reducible rfl
        simp only [Act.put, List.setIfInBounds_toArray, List.set_cons_zero, List.set_cons_succ]
        refine wpAnyE_take 13 [36] (oi := { dst := some 84, op := Go.Op.move (Go.Operand.tmp 83), type := 4, pos := "outright.go:74", after := #[{ on := 12, ground := Go.Ground.data }, { on := 6, ground := Go.Ground.chain }], guard := none }) (v := ?_) rfl (by kernel_rfl) (by kernel_rfl) (by kernel_rfl) (by kernel_rfl) (fun _ _ _ h => h) (Or.inl ⟨by rfl, ?hE18⟩) hs7 ?_
        case hE18 =>
          intro u hu
          obtain ⟨u0, u1, u2, u3⟩ := hu
          go_simp
          try with_reducible rfl
        simp only [Act.put, List.setIfInBounds_toArray, List.set_cons_zero, List.set_cons_succ]
        refine wpAnyE_take 14 [36] (oi := { dst := some 85, op := Go.Op.fieldAddr 35 (Go.Operand.tmp 9) 3, type := 0, pos := "outright.go:74", after := #[{ on := 13, ground := Go.Ground.guard }], guard := some (13, true) }) (v := ?_) rfl (by kernel_rfl) (by kernel_rfl) (by kernel_rfl) (by kernel_rfl) (fun _ _ _ h => h) (Or.inl ⟨by rfl, ?hE19⟩) hs7 ?_
        case hE19 =>
          intro u hu
          obtain ⟨u0, u1, u2, u3⟩ := hu
          go_simp
          try with_reducible rfl
        simp only [Act.put, List.setIfInBounds_toArray, List.set_cons_zero, List.set_cons_succ]
        refine wpAnyE_take 15 [36] (oi := { dst := some 86, op := Go.Op.load 33 (Go.Operand.tmp 85), type := 33, pos := "outright.go:74", after := #[{ on := 14, ground := Go.Ground.data }, { on := 13, ground := Go.Ground.guard }], guard := some (13, true) }) (v := ?_) rfl (by kernel_rfl) (by kernel_rfl) (by kernel_rfl) (by kernel_rfl) (fun _ _ _ h => h) (Or.inl ⟨by rfl, ?hE20⟩) hs7 ?_
        case hE20 =>
          intro u hu
          obtain ⟨u0, u1, u2, u3⟩ := hu
          go_simp
          try with_reducible rfl
        simp only [Act.put, List.setIfInBounds_toArray, List.set_cons_zero, List.set_cons_succ]
        refine wpAnyE_take 16 [36] (oi := { dst := some 87, op := Go.Op.call { callee := Go.Callee.builtin Go.Builtin.len, args := #[Go.Operand.tmp 86], argTypes := #[33] }, type := 3, pos := "outright.go:74", after := #[{ on := 15, ground := Go.Ground.data }, { on := 13, ground := Go.Ground.guard }], guard := some (13, true) }) (v := ?_) rfl (by kernel_rfl) (by kernel_rfl) (by kernel_rfl) (by kernel_rfl) (fun _ _ _ h => h) (Or.inl ⟨by rfl, ?hE21⟩) hs7 ?_
        case hE21 =>
          intro u hu
          obtain ⟨u0, u1, u2, u3⟩ := hu
          go_simp
          try with_reducible rfl
        simp only [Act.put, List.setIfInBounds_toArray, List.set_cons_zero, List.set_cons_succ]
        refine wpAnyE_take 17 [36] (oi := { dst := some 88, op := Go.Op.fieldAddr 35 (Go.Operand.tmp 11) 3, type := 0, pos := "outright.go:74", after := #[{ on := 13, ground := Go.Ground.guard }], guard := some (13, true) }) (v := ?_) rfl (by kernel_rfl) (by kernel_rfl) (by kernel_rfl) (by kernel_rfl) (fun _ _ _ h => h) (Or.inl ⟨by rfl, ?hE22⟩) hs7 ?_
        case hE22 =>
          intro u hu
          obtain ⟨u0, u1, u2, u3⟩ := hu
          go_simp
          try with_reducible rfl
        simp only [Act.put, List.setIfInBounds_toArray, List.set_cons_zero, List.set_cons_succ]
        refine wpAnyE_take 18 [36] (oi := { dst := some 89, op := Go.Op.load 33 (Go.Operand.tmp 88), type := 33, pos := "outright.go:74", after := #[{ on := 17, ground := Go.Ground.data }, { on := 13, ground := Go.Ground.guard }], guard := some (13, true) }) (v := ?_) rfl (by kernel_rfl) (by kernel_rfl) (by kernel_rfl) (by kernel_rfl) (fun _ _ _ h => h) (Or.inl ⟨by rfl, ?hE23⟩) hs7 ?_
        case hE23 =>
          intro u hu
          obtain ⟨u0, u1, u2, u3⟩ := hu
          go_simp
          try with_reducible rfl
        simp only [Act.put, List.setIfInBounds_toArray, List.set_cons_zero, List.set_cons_succ]
        refine wpAnyE_take 19 [36] (oi := { dst := some 90, op := Go.Op.call { callee := Go.Callee.builtin Go.Builtin.len, args := #[Go.Operand.tmp 89], argTypes := #[33] }, type := 3, pos := "outright.go:74", after := #[{ on := 18, ground := Go.Ground.data }, { on := 13, ground := Go.Ground.guard }], guard := some (13, true) }) (v := ?_) rfl (by kernel_rfl) (by kernel_rfl) (by kernel_rfl) (by kernel_rfl) (fun _ _ _ h => h) (Or.inl ⟨by rfl, ?hE24⟩) hs7 ?_
        case hE24 =>
          intro u hu
          obtain ⟨u0, u1, u2, u3⟩ := hu
          go_simp
          try with_reducible rfl
        simp only [Act.put, List.setIfInBounds_toArray, List.set_cons_zero, List.set_cons_succ]
        refine wpAnyE_take 20 [36] (oi := { dst := some 91, op := Go.Op.binOp Go.BinOp.leq 3 (Go.Operand.tmp 87) (Go.Operand.tmp 90) 3, type := 4, pos := "outright.go:74", after := #[{ on := 16, ground := Go.Ground.data }, { on := 19, ground := Go.Ground.data }, { on := 13, ground := Go.Ground.guard }], guard := some (13, true) }) (v := ?_) rfl (by kernel_rfl) (by kernel_rfl) (by kernel_rfl) (by kernel_rfl) (fun _ _ _ h => h) (Or.inl ⟨by rfl, ?hE25⟩) hs7 ?_
        case hE25 =>
          intro u hu
          obtain ⟨u0, u1, u2, u3⟩ := hu
          go_simp
          try with_reducible rfl
        simp only [Act.put, List.setIfInBounds_toArray, List.set_cons_zero, List.set_cons_succ]
        refine wpAnyE_take 21 [36] (oi := { dst := some 92, op := Go.Op.pick (Go.Operand.tmp 84) (Go.Operand.tmp 91) (Go.Operand.const (Go.Value.bool false)), type := 4, pos := "outright.go:74", after := #[{ on := 13, ground := Go.Ground.data }, { on := 20, ground := Go.Ground.data }], guard := none }) (v := ?_) rfl (by kernel_rfl) (by kernel_rfl) (by kernel_rfl) (by kernel_rfl) (fun _ _ _ h => h) (Or.inl ⟨by rfl, ?hE26⟩) hs7 ?_
        case hE26 =>
          intro u hu
          obtain ⟨u0, u1, u2, u3⟩ := hu
          go_simp
          try with_reducible rfl
        simp only [Act.put, List.setIfInBounds_toArray, List.set_cons_zero, List.set_cons_succ]
        refine wpAnyE_take 22 [36] (oi := { dst := some 93, op := Go.Op.move (Go.Operand.tmp 92), type := 4, pos := "outright.go:74", after := #[{ on := 21, ground := Go.Ground.data }, { on := 13, ground := Go.Ground.chain }], guard := none }) (v := ?_) rfl (by kernel_rfl) (by kernel_rfl) (by kernel_rfl) (by kernel_rfl) (fun _ _ _ h => h) (Or.inl ⟨by rfl, ?hE27⟩) hs7 ?_
        case hE27 =>
          intro u hu
          obtain ⟨u0, u1, u2, u3⟩ := hu
          go_simp
          try with_reducible rfl
        simp only [Act.put, List.setIfInBounds_toArray, List.set_cons_zero, List.set_cons_succ]
        refine wpAnyE_take 23 [36] (oi := { dst := some 94, op := Go.Op.fieldAddr 35 (Go.Operand.tmp 9) 3, type := 0, pos := "outright.go:74", after := #[{ on := 22, ground := Go.Ground.guard }], guard := some (22, true) }) (v := ?_) rfl (by kernel_rfl) (by kernel_rfl) (by kernel_rfl) (by kernel_rfl) (fun _ _ _ h => h) (Or.inl ⟨by rfl, ?hE28⟩) hs7 ?_
        case hE28 =>
          intro u hu
          obtain ⟨u0, u1, u2, u3⟩ := hu
          go_simp
          try with_reducible rfl
        simp only [Act.put, List.setIfInBounds_toArray, List.set_cons_zero, List.set_cons_succ]
        refine wpAnyE_take 24 [36] (oi := { dst := some 95, op := Go.Op.load 33 (Go.Operand.tmp 94), type := 33, pos := "outright.go:74", after := #[{ on := 23, ground := Go.Ground.data }, { on := 22, ground := Go.Ground.guard }], guard := some (22, true) }) (v := ?_) rfl (by kernel_rfl) (by kernel_rfl) (by kernel_rfl) (by kernel_rfl) (fun _ _ _ h => h) (Or.inl ⟨by rfl, ?hE29⟩) hs7 ?_
        case hE29 =>
          intro u hu
          obtain ⟨u0, u1, u2, u3⟩ := hu
          go_simp
          try with_reducible rfl
        simp only [Act.put, List.setIfInBounds_toArray, List.set_cons_zero, List.set_cons_succ]
        refine wpAnyE_take 25 [36] (oi := { dst := some 96, op := Go.Op.fieldAddr 35 (Go.Operand.tmp 11) 3, type := 0, pos := "outright.go:74", after := #[{ on := 22, ground := Go.Ground.guard }], guard := some (22, true) }) (v := ?_) rfl (by kernel_rfl) (by kernel_rfl) (by kernel_rfl) (by kernel_rfl) (fun _ _ _ h => h) (Or.inl ⟨by rfl, ?hE30⟩) hs7 ?_
        case hE30 =>
          intro u hu
          obtain ⟨u0, u1, u2, u3⟩ := hu
          go_simp
          try with_reducible rfl
        simp only [Act.put, List.setIfInBounds_toArray, List.set_cons_zero, List.set_cons_succ]
        refine wpAnyE_take 26 [36] (oi := { dst := some 97, op := Go.Op.load 33 (Go.Operand.tmp 96), type := 33, pos := "outright.go:74", after := #[{ on := 25, ground := Go.Ground.data }, { on := 22, ground := Go.Ground.guard }], guard := some (22, true) }) (v := ?_) rfl (by kernel_rfl) (by kernel_rfl) (by kernel_rfl) (by kernel_rfl) (fun _ _ _ h => h) (Or.inl ⟨by rfl, ?hE31⟩) hs7 ?_
        case hE31 =>
          intro u hu
          obtain ⟨u0, u1, u2, u3⟩ := hu
          go_simp
          try with_reducible rfl
        simp only [Act.put, List.setIfInBounds_toArray, List.set_cons_zero, List.set_cons_succ]
        refine wpAnyE_take 27 [36] (oi := { dst := some 98, op := Go.Op.fieldAddr 35 (Go.Operand.tmp 9) 3, type := 0, pos := "outright.go:74", after := #[{ on := 22, ground := Go.Ground.guard }], guard := some (22, true) }) (v := ?_) rfl (by kernel_rfl) (by kernel_rfl) (by kernel_rfl) (by kernel_rfl) (fun _ _ _ h => h) (Or.inl ⟨by rfl, ?hE32⟩) hs7 ?_
        case hE32 =>
          intro u hu
          obtain ⟨u0, u1, u2, u3⟩ := hu
          go_simp
          try with_reducible rfl
        simp only [Act.put, List.setIfInBounds_toArray, List.set_cons_zero, List.set_cons_succ]
        refine wpAnyE_take 28 [36] (oi := { dst := some 99, op := Go.Op.load 33 (Go.Operand.tmp 98), type := 33, pos := "outright.go:74", after := #[{ on := 27, ground := Go.Ground.data }, { on := 22, ground := Go.Ground.guard }], guard := some (22, true) }) (v := ?_) rfl (by kernel_rfl) (by kernel_rfl) (by kernel_rfl) (by kernel_rfl) (fun _ _ _ h => h) (Or.inl ⟨by rfl, ?hE33⟩) hs7 ?_
        case hE33 =>
          intro u hu
          obtain ⟨u0, u1, u2, u3⟩ := hu
          go_simp
          try with_reducible rfl
        simp only [Act.put, List.setIfInBounds_toArray, List.set_cons_zero, List.set_cons_succ]
        refine wpAnyE_take 29 [36] (oi := { dst := some 100, op := Go.Op.call { callee := Go.Callee.builtin Go.Builtin.len, args := #[Go.Operand.tmp 99], argTypes := #[33] }, type := 3, pos := "outright.go:74", after := #[{ on := 28, ground := Go.Ground.data }, { on := 22, ground := Go.Ground.guard }], guard := some (22, true) }) (v := ?_) rfl (by kernel_rfl) (by kernel_rfl) (by kernel_rfl) (by kernel_rfl) (fun _ _ _ h => h) (Or.inl ⟨by rfl, ?hE34⟩) hs7 ?_
        case hE34 =>
          intro u hu
          obtain ⟨u0, u1, u2, u3⟩ := hu
          go_simp
          try with_reducible rfl
        simp only [Act.put, List.setIfInBounds_toArray, List.set_cons_zero, List.set_cons_succ]
        refine wpAnyE_take 30 [36] (oi := { dst := some 101, op := Go.Op.slice 33 (Go.Operand.tmp 97) none (some (Go.Operand.tmp 100)) none, type := 33, pos := "outright.go:74", after := #[{ on := 26, ground := Go.Ground.data }, { on := 29, ground := Go.Ground.data }, { on := 22, ground := Go.Ground.guard }], guard := some (22, true) }) (v := ?_) rfl (by kernel_rfl) (by kernel_rfl) (by kernel_rfl) (by kernel_rfl) (fun _ _ _ h => h) (Or.inl ⟨by rfl, ?hE35⟩) hs7 ?_
        case hE35 =>
          intro u hu
          obtain ⟨u0, u1, u2, u3⟩ := hu
          go_simp
          try with_reducible rfl
        simp only [Act.put, List.setIfInBounds_toArray, List.set_cons_zero, List.set_cons_succ]
        refine wpAnyE_one (i := 31) (o := { dst := some 102, op := Go.Op.call { callee := Go.Callee.value (Go.Operand.func 18), args := #[Go.Operand.tmp 95, Go.Operand.tmp 101], argTypes := #[33, 33] }, type := 4, pos := "outright.go:74", after := #[{ on := 24, ground := Go.Ground.data }, { on := 30, ground := Go.Ground.data }, { on := 22, ground := Go.Ground.chain }, { on := 22, ground := Go.Ground.guard }], guard := some (22, true) }) (by kernel_rfl) rfl (fun K hK => ?_)
        go_simp
        (with_reducible refine Calls.mono hsc ?_)
        rintro e w8 ⟨rfl, hb8⟩
        have hs8 : w8.cell? ⟨sb, 4, none⟩ = some (.slice mo l1 mc) ∧ w8.cell? ⟨sb, 6, none⟩ = some (.int .i64 A.steps) ∧ w8.cell? ⟨ub, 4, none⟩ = some (.slice no l2 nc) ∧ w8.cell? ⟨ub, 6, none⟩ = some (.int .i64 B.steps) := ⟨(hb8.cell (p := ⟨sb, 4, none⟩) G7.out.1).trans hs7.1, (hb8.cell (p := ⟨sb, 6, none⟩) G7.out.1).trans hs7.2.1, (hb8.cell (p := ⟨ub, 4, none⟩) G7.out.2).trans hs7.2.2.1, (hb8.cell (p := ⟨ub, 6, none⟩) G7.out.2).trans hs7.2.2.2⟩
        have HB8 := hide (HB7.out.drew.trans (hb8.mono HB7.out.drew.size))
        have G8 : Hid (sb < w8.heap.size ∧ ub < w8.heap.size) := ⟨Nat.lt_of_lt_of_le G7.out.1 hb8.size, Nat.lt_of_lt_of_le G7.out.2 hb8.size⟩
        have haw := awake_true w8 (HK.out.below HB8.out)
        clear hb8 hsc
        refine hK _ _ (fun _ => hs8) ?_
        clear hK K
        try simp only [Act.put, List.setIfInBounds_toArray, List.set_cons_zero, List.set_cons_succ]
        refine wpAnyE_take 32 [36] (oi := { dst := some 103, op := Go.Op.pick (Go.Operand.tmp 93) (Go.Operand.tmp 102) (Go.Operand.const (Go.Value.bool false)), type := 4, pos := "outright.go:74", after := #[{ on := 22, ground := Go.Ground.data }, { on := 31, ground := Go.Ground.data }], guard := none }) (v := ?_) rfl (by kernel_rfl) (by kernel_rfl) (by kernel_rfl) (by kernel_rfl) (fun _ _ _ h => h) (Or.inl ⟨by rfl, ?hE36⟩) hs8 ?_
        case hE36 =>
          intro u hu
          obtain ⟨u0, u1, u2, u3⟩ := hu
          go_simp
          try with_reducible rfl
        simp only [Act.put, List.setIfInBounds_toArray, List.set_cons_zero, List.set_cons_succ]
        refine wpAnyE_take 33 [36] (oi := { dst := some 104, op := Go.Op.move (Go.Operand.tmp 103), type := 4, pos := "outright.go:74", after := #[{ on := 32, ground := Go.Ground.data }, { on := 31, ground := Go.Ground.chain }], guard := none }) (v := ?_) rfl (by kernel_rfl) (by kernel_rfl) (by kernel_rfl) (by kernel_rfl) (fun _ _ _ h => h) (Or.inl ⟨by rfl, ?hE37⟩) hs8 ?_
        case hE37 =>
          intro u hu
          obtain ⟨u0, u1, u2, u3⟩ := hu
          go_simp
          try with_reducible rfl
        simp only [Act.put, List.setIfInBounds_toArray, List.set_cons_zero, List.set_cons_succ]
        refine wpAnyE_one (i := 34) (o := { dst := some 105, op := Go.Op.call { callee := Go.Callee.value (Go.Operand.func 11), args := #[], argTypes := #[] }, type := 4, pos := "outright.go:74", after := #[{ on := 33, ground := Go.Ground.chain }, { on := 33, ground := Go.Ground.guard }], guard := some (33, true) }) (by kernel_rfl) rfl (fun K hK => ?_)
        go_simp
        (with_reducible refine Calls.mono haw ?_)
        rintro e w9 ⟨rfl, hb9⟩
        have hs9 : w9.cell? ⟨sb, 4, none⟩ = some (.slice mo l1 mc) ∧ w9.cell? ⟨sb, 6, none⟩ = some (.int .i64 A.steps) ∧ w9.cell? ⟨ub, 4, none⟩ = some (.slice no l2 nc) ∧ w9.cell? ⟨ub, 6, none⟩ = some (.int .i64 B.steps) := ⟨(hb9.cell (p := ⟨sb, 4, none⟩) G8.out.1).trans hs8.1, (hb9.cell (p := ⟨sb, 6, none⟩) G8.out.1).trans hs8.2.1, (hb9.cell (p := ⟨ub, 4, none⟩) G8.out.2).trans hs8.2.2.1, (hb9.cell (p := ⟨ub, 6, none⟩) G8.out.2).trans hs8.2.2.2⟩
        have HB9 := hide (HB8.out.trans (hb9.mono HB8.out.size))
        clear hb9 haw
        refine hK _ _ (fun _ => hs9) ?_
        clear hK K
        try simp only [Act.put, List.setIfInBounds_toArray, List.set_cons_zero, List.set_cons_succ]
        refine wpAnyE_take 35 [36] (oi := { dst := some 106, op := Go.Op.pick (Go.Operand.tmp 104) (Go.Operand.tmp 105) (Go.Operand.const (Go.Value.bool false)), type := 4, pos := "outright.go:74", after := #[{ on := 33, ground := Go.Ground.data }, { on := 34, ground := Go.Ground.data }], guard := none }) (v := ?_) rfl (by kernel_rfl) (by kernel_rfl) (by kernel_rfl) (by kernel_rfl) (fun _ _ _ h => h) (Or.inl ⟨by rfl, ?hE38⟩) hs9 ?_
        case hE38 =>
          intro u hu
          obtain ⟨u0, u1, u2, u3⟩ := hu
          go_simp
          try with_reducible rfl
        simp only [Act.put, List.setIfInBounds_toArray, List.set_cons_zero, List.set_cons_succ]
        refine wpAnyE_one (i := 36) (o := { dst := some 6, op := Go.Op.assign (Go.Operand.tmp 106), type := 4, pos := "outright.go:74", after := #[{ on := 35, ground := Go.Ground.data }, { on := 34, ground := Go.Ground.chain }, { on := 0, ground := Go.Ground.phase }, { on := 1, ground := Go.Ground.phase }, { on := 2, ground := Go.Ground.phase }, { on := 3, ground := Go.Ground.phase }, { on := 4, ground := Go.Ground.phase }, { on := 5, ground := Go.Ground.phase }, { on := 6, ground := Go.Ground.phase }, { on := 7, ground := Go.Ground.phase }, { on := 8, ground := Go.Ground.phase }, { on := 9, ground := Go.Ground.phase }, { on := 10, ground := Go.Ground.phase }, { on := 11, ground := Go.Ground.phase }, { on := 12, ground := Go.Ground.phase }, { on := 13, ground := Go.Ground.phase }, { on := 14, ground := Go.Ground.phase }, { on := 15, ground := Go.Ground.phase }, { on := 16, ground := Go.Ground.phase }, { on := 17, ground := Go.Ground.phase }, { on := 18, ground := Go.Ground.phase }, { on := 19, ground := Go.Ground.phase }, { on := 20, ground := Go.Ground.phase }, { on := 21, ground := Go.Ground.phase }, { on := 22, ground := Go.Ground.phase }, { on := 23, ground := Go.Ground.phase }, { on := 24, ground := Go.Ground.phase }, { on := 25, ground := Go.Ground.phase }, { on := 26, ground := Go.Ground.phase }, { on := 27, ground := Go.Ground.phase }, { on := 28, ground := Go.Ground.phase }, { on := 29, ground := Go.Ground.phase }, { on := 30, ground := Go.Ground.phase }, { on := 31, ground := Go.Ground.phase }, { on := 32, ground := Go.Ground.phase }, { on := 33, ground := Go.Ground.phase }, { on := 34, ground := Go.Ground.phase }, { on := 35, ground := Go.Ground.phase }], guard := none }) (by kernel_rfl) rfl (fun K hK => ?_)
        go_simp
        refine hK _ _ (fun h => absurd rfl h) ?_
        clear hK K
        try simp only [Act.put, List.setIfInBounds_toArray, List.set_cons_zero, List.set_cons_succ]
        refine wpAnyE_done (by kernel_rfl) ?_
        go_wp2
        go_ret
        exact ⟨rfl, HB9.out⟩
      · obtain ⟨hBA, hst⟩ := hf1 h4
        have q1 : ((A.at_ : Int) == 4) = false := beq_eq_false_iff_ne.2 (by omega)
        have q2 : ¬ (A.at_ : Int) = 4 := by omega
        have q4 : (A.steps : Int) ≤ (mn : Int) := by omega
        have q5 : decide (A.steps ≤ mn) = true := decide_eq_true hst
        have hsame := same_any (w := W7) (s := A) (u := B) HM7.out HN7.out
        rw [decide_eq_true (show Alike A B by rw [hBA]; exact Alike.refl _)] at hsame
        have hsame : Calls Tryd.prog 14 #[.agg #[.int .i64 A.at_, .int .i64 A.ost, .int .i64 A.ova, .int .i64 A.on, .slice mo l1 mc, .int .i64 A.sig, .int .i64 A.steps], .agg #[.int .i64 B.at_, .int .i64 B.ost, .int .i64 B.ova, .int .i64 B.on, .slice no l2 nc, .int .i64 B.sig, .int .i64 B.steps]] W7 _ := hsame
        have D6 := hide d6
        rw [HW7.out, HSB.out] at d0 d1 d2 d3 d4 d5 d6
        rw [HW7.out, HUB.out] at e0 e1 e2 e3 e4 e5 e6
        simp only at d0 d1 d2 d3 d4 d5 d6 e0 e1 e2 e3 e4 e5 e6
        clear hf1 hf2 hst h4 hg1 hg2 hok hn6 HG4 HP4 HG3 HP3 HG2 HP2 HX2 hBA
        go_wp2_with fail
        rw [← HW7.out]
        (with_reducible refine Calls.mono hsame ?_)
        rintro e w8 ⟨rfl, hb8⟩
        have HB8 := hide (HB7.out.trans (hb8.mono HB7.out.size))
        have f6 : w8.cell? ⟨w4.heap.size, 6, none⟩ = some (.int .i64 A.steps) := by rw [← HSB.out]; exact (hb8.cell (p := ⟨sb, 6, none⟩) hlt7.out.1).trans D6.out
        have haw := awake_true w8 (HK.out.below HB8.out)
        clear hb8 hsame d0 d1 d2 d3 d4 d5 d6 e0 e1 e2 e3 e4 e5 e6
        go_wp2_with fail
        (with_reducible refine Calls.mono haw ?_)
        rintro e w9 ⟨rfl, hb9⟩
        have HB9 := hide (HB8.out.trans (hb9.mono HB8.out.size))
        clear hb9 haw
        go_wp2
        go_ret
        exact ⟨rfl, HB9.out⟩
    · have k1 : R1 = (noS, 100) := HR1.out.trans (runR_bad p arg l3 s3 _ hok)
      have k2 : R2 = (noS, 100) := HR2.out.trans (runR_bad p arg l3 s3 _ hok)
      subst k1 k2
      have haw := awake_true W7 (HK.out.below HB7.out)
      clear d0 d1 d2 d3 d4 d5 d6 e0 e1 e2 e3 e4 e5 e6
      go_wp2_with fail
      rw [← HW7.out]
      (with_reducible refine Calls.mono haw ?_)
      rintro e w9 ⟨rfl, hb9⟩
      have HB9 := hide (HB7.out.trans (hb9.mono HB7.out.size))
      clear hb9 haw
      go_wp2
      go_ret
      exact ⟨rfl, HB9.out⟩
end Go.Proofs.YtlngeonfabahnaaDoor
