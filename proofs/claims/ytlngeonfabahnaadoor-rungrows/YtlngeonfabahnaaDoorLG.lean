/-
  The walk of RunGrows. Own work.
-/
import Derived.Test.YtlngeonfabahnaaDoorLF
import Derived.Test.YtlngeonfabahnaaDoorLt
namespace Go.Proofs.YtlngeonfabahnaaDoor
open Go Go.RowKit
set_option linter.unusedSimpArgs false
set_option linter.unusedVariables false

/-- a run with less told beside one with more -/
theorem run_grows (kn kn' : Int → Option Oc) (sg sg' : List Int) (code : List Ins) (arg : Int) (k : Nat) (hk : ∀ n o, kn n = some o → kn' n = some o) (hs : sg <+: sg') :
    ((runP kn sg code arg k).at_ ≠ 2 → (runP kn sg code arg k).at_ ≠ 3 → runP kn' sg' code arg k = runP kn sg code arg k) ∧ Ext (runP kn sg code arg k) (runP kn' sg' code arg k) ∧
    ((runP kn sg code arg k).at_ = 2 → kn (runP kn sg code arg k).on = none) ∧ ((runP kn sg code arg k).at_ = 3 → (runP kn sg code arg k).sig = sg.length) ∧
    ((runP kn sg code arg k).at_ = 1 ∨ (runP kn sg code arg k).at_ = 2 ∨ (runP kn sg code arg k).at_ = 3 ∨ (runP kn sg code arg k).at_ = 4 ∨ (runP kn sg code arg k).at_ = 5) := by
  obtain ⟨m1, m2, m3, m4⟩ := it_more kn kn' sg sg' code hk hs k (st0 arg) rfl
  obtain ⟨-, -, -, f4, -, f6⟩ := it_facts kn sg code k (st0 arg) rfl
  have f6 := f6 (Nat.zero_le _)
  have hfin : ∀ s : St, Ext s (fin s) ∧ Ext (fin s) s := fun s => by
    unfold fin
    split <;> exact ⟨⟨List.prefix_refl _, Nat.le_refl _, Nat.le_refl _⟩, ⟨List.prefix_refl _, Nat.le_refl _, Nat.le_refl _⟩⟩
  unfold runP
  obtain ⟨X, HX⟩ := named (it kn sg code k (st0 arg))
  obtain ⟨Y, HY⟩ := named (it kn' sg' code k (st0 arg))
  rw [← HX.out] at m1 m2 m3 m4 f4 f6 ⊢
  rw [← HY.out] at m1 m2 ⊢
  have e : ∀ c, c ≠ 4 → (fin X).at_ = c → fin X = X := fun c hc h => by
    rcases fin_at X with h' | h'
    · exact h'
    · rw [h'.1] at h; exact absurd h.symm hc
  have n : ∀ c, c ≠ 4 → c ≠ 0 → X.at_ = c → (fin X).at_ = c := fun c hc h0 h => by
    rcases fin_at X with h' | h'
    · rw [h']; exact h
    · exact absurd (h.symm.trans h'.2) h0
  refine ⟨fun h1 h2 => ?_, ((hfin _).2.trans m2).trans (hfin _).1, fun h => ?_, fun h => ?_, ?_⟩
  · rcases m1 with h | h | h
    · rw [h]
    · exact absurd (n 2 (by decide) (by decide) h) h1
    · exact absurd (n 3 (by decide) (by decide) h) h2
  · have h' := e 2 (by decide) h
    rw [h'] at h ⊢
    exact m3 h
  · have h' := e 3 (by decide) h
    rw [h'] at h ⊢
    have := m4 h
    omega
  · rcases fin_at X with h | h
    · rw [h]
      rcases f4 with h' | h' | h' | h' | h'
      · have : (fin X).at_ = 4 := by unfold fin; rw [if_pos h']
        rw [h] at this
        exact .inr (.inr (.inr (.inl this)))
      · exact .inl h'
      · exact .inr (.inl h')
      · exact .inr (.inr (.inl h'))
      · exact .inr (.inr (.inr (.inr h')))
    · rw [h.1]; exact .inr (.inr (.inr (.inl rfl)))
/-- a number that nothing is known of is no row's -/
theorem knOf_none {l : List (Int × Oc)} {n : Int} (h : knOf l n = none) (j : Nat) (hj : j < l.length) : ¬ (l[j]).1 = n := by
  unfold knOf at h
  rw [Option.map_eq_none_iff, List.find?_eq_none] at h
  have := h _ (List.getElem_mem hj)
  simpa using this

set_option maxRecDepth 100000 in
set_option maxHeartbeats 6400000 in
theorem grows_walk (w : World) (hk : Kinds w) (p : Prg) (cv : Value) (hc : RdC w cv p.code) (hw : ∀ i ∈ p.code, i.wf) (arg : Int) (kv sv : Value) (fu : Int) (l : List (Int × Oc)) (sg : List Int) (hl : RdK w kv l) (hsv : RdN w sv sg) (t u : Int) :
    Calls Tryd.prog 4 #[.agg #[.string p.name, .int .i64 p.regs, cv], .agg #[.int .i64 arg, kv, sv, .int .i64 fu], .agg #[.int .i64 t, .int .i64 u]] w fun e w' => e = .returned (.bool true) ∧ Below w.heap.size w w' := by
  have HK := hide hk
  obtain ⟨ao, cap, hcv, -⟩ := hc.shape
  obtain ⟨ko, kc, hkv, -⟩ := hl.shape
  obtain ⟨so, sc, hsvv, hs1, hs2⟩ := hsv.shape
  have HTS := hide (RdN.take (ao := so) (cap := sc) (by rw [← hsvv]; exact hsv) (min sg.length 300) (Nat.min_le_left _ _))
  rw [take300] at HTS
  have hm2 := min300 sg.length
  have hq2 : (min sg.length 300 : Nat) ≤ sg.length ∧ min sg.length 300 ≤ 300 := ⟨Nat.min_le_left _ _, Nat.min_le_right _ _⟩
  obtain ⟨L, HL⟩ := named p.code.length
  obtain ⟨kl, HKL⟩ := named l.length
  obtain ⟨sl, HSL⟩ := named sg.length
  rw [← HL.out] at hcv
  rw [← HKL.out] at hkv
  obtain ⟨sm, HSM⟩ := named (min sg.length 300)
  rw [← HSM.out] at HTS hm2 hq2
  rw [← HSL.out] at hsvv hs1 hm2 hq2
  subst hcv hkv hsvv
  obtain ⟨pb, HPB⟩ := named w.heap.size
  obtain ⟨W1, HW1⟩ := named (((w.alloc (.cells #[.string p.name, .int .i64 p.regs, .slice ao L cap] 24)).alloc (.cells #[.int .i64 arg, .slice ko kl kc, .slice so sl sc, .int .i64 fu] 28)).alloc (.cells #[.int .i64 t, .int .i64 u] 42))
  have hb1 : Below w.heap.size w W1 := by rw [HW1.out]; exact (((Below.refl _ _).alloc (Nat.le_refl _) _).alloc (by simp) _).alloc (by simp; omega) _
  have xp : RC 3 W1 pb (fun k => ([.string p.name, .int .i64 p.regs, .slice ao L cap] : List Value).getD k undef) := by
    rw [HW1.out, HPB.out]
    refine ((RC.new w _ 24 _ (fun k hk => ?_)).alloc _).alloc _
    rcases (show k = 0 ∨ k = 1 ∨ k = 2 by omega) with rfl | rfl | rfl <;> rfl
  have hz : (w.alloc (.cells #[.string p.name, .int .i64 p.regs, .slice ao L cap] 24)).heap.size = pb + 1 := by rw [HPB.out]; simp
  have xg : RC 4 W1 (pb + 1) (fun k => ([.int .i64 arg, .slice ko kl kc, .slice so sl sc, .int .i64 fu] : List Value).getD k undef) := by
    rw [HW1.out, ← hz]
    refine (RC.new _ _ 28 _ (fun k hk => ?_)).alloc _
    rcases (show k = 0 ∨ k = 1 ∨ k = 2 ∨ k = 3 by omega) with rfl | rfl | rfl | rfl <;> rfl
  have hz2 : ((w.alloc (.cells #[.string p.name, .int .i64 p.regs, .slice ao L cap] 24)).alloc (.cells #[.int .i64 arg, .slice ko kl kc, .slice so sl sc, .int .i64 fu] 28)).heap.size = pb + 2 := by rw [HPB.out]; simp
  have xx : RC 2 W1 (pb + 2) (fun k => ([.int .i64 t, .int .i64 u] : List Value).getD k undef) := by
    rw [HW1.out, ← hz2]
    refine RC.new _ _ 42 _ (fun k hk => ?_)
    rcases (show k = 0 ∨ k = 1 by omega) with rfl | rfl <;> rfl
  have hzW : W1.heap.size = pb + 3 := by rw [HW1.out, HPB.out]; simp
  have HB1 := hide hb1
  have HXP := hide xp
  have HXG := hide xg
  have HXX := hide xx
  have HC := hide hc
  have HL0 := hide hl
  have HS0 := hide hsv
  have HWF := hide hw
  have hgr := great_any p (.slice ao L cap) W1 (hc.below hb1)
  have hgr : Calls Tryd.prog 10 #[.agg #[.string p.name, .int .i64 p.regs, .slice ao L cap]] W1 _ := hgr
  have p0 := xp.2.1 0 (by omega)
  have p1 := xp.2.1 1 (by omega)
  have p2 := xp.2.1 2 (by omega)
  clear hk hc hw hl hsv hb1 xp xg xx hz hz2
  go_enter Tryd.func4, Tryd.ntmps4
  go_wp2_with fail
  rw [← HW1.out]
  (with_reducible refine Calls.mono hgr ?_)
  rintro e w2 ⟨v, rfl, ⟨g, rfl, hg⟩, hb2⟩
  have HB2 := hide (HB1.out.trans (hb2.mono (by rw [hzW, ← HPB.out]; omega)))
  cases g with
  | true =>
    go_wp2_with fail
    (with_reducible refine Calls.mono (awake_true w2 (HK.out.below HB2.out)) ?_)
    rintro e w99 ⟨rfl, hb99⟩
    have HB99 := hide (below_call HB2.out hb99)
    clear hb99
    go_wp2
    go_ret
    exact ⟨rfl, HB99.out⟩
  | false =>
    have HX2 := hide (HXX.out.below hb2)
    have HP2 := hide (HXP.out.below hb2)
    have HG2 := hide (HXG.out.below hb2)
    have hzw2 : pb + 3 ≤ w2.heap.size := by have := hb2.size; omega
    have HZ2 := hide hzw2
    have htd := told_any (.slice ko kl kc) l w2 (RdX.below HL0.out HB2.out)
    have g1 : w2.cell? ⟨pb + 1, 1, none⟩ = some (.slice ko kl kc) := HG2.out.2.1 1 (by omega)
    obtain ⟨T, HT⟩ := named (toldP l)
    rw [← HT.out] at htd
    have hTl : T.length ≤ 300 := by rw [HT.out]; exact told_len l
    clear hb2 hg hzw2
    rw [HPB.out] at g1
    go_wp2_with fail
    rw [← HPB.out]
    (with_reducible refine Calls.mono htd ?_)
    rintro e w3 ⟨tv, rfl, ho3, hb3⟩
    rw [← HPB.out] at g1
    have HX3 := hide (HX2.out.below hb3)
    have HG3 := hide (HG2.out.below hb3)
    have HP3 := hide (HP2.out.below hb3)
    have hsz3 := hb3.size
    have HB3 := hide (HB2.out.trans (hb3.mono HB2.out.size))
    obtain ⟨to, tcap, htv, htc1, htc2⟩ := RdK.shape ho3.rd
    have HO3 := hide ho3.rd
    obtain ⟨tl, HTL⟩ := named T.length
    rw [← HTL.out] at hTl htv htc1
    clear htd hb3 ho3 g1
    subst htv
    have e2 : w3.cell? ⟨pb + 1, 2, none⟩ = some (.slice so sl sc) := HG3.out.2.1 2 (by omega)
    have m1 : (sl : Int) ≤ (sc : Int) := by omega
    have m2 : (sm : Int) ≤ (sc : Int) := by omega
    have m3 : sc ≤ 9223372036854775807 := by unfold maxLen at hs2; omega
    have m4 : (tl : Int) ≤ (tcap : Int) := by omega
    have m5 : tcap ≤ 9223372036854775807 := by unfold maxLen at htc2; omega
    obtain ⟨a, HA0⟩ := named (t % ((tl + 1 : Nat) : Int)).toNat
    have hal : a ≤ tl := by rw [HA0.out]; have h1 := Int.emod_nonneg t (show ((tl + 1 : Nat) : Int) ≠ 0 by omega); have h2 := Int.emod_lt_of_pos t (show (0 : Int) < ((tl + 1 : Nat) : Int) by omega); omega
    obtain ⟨b, HB0⟩ := named (u % ((sm + 1 : Nat) : Int)).toNat
    have hbl : b ≤ sm := by rw [HB0.out]; have h1 := Int.emod_nonneg u (show ((sm + 1 : Nat) : Int) ≠ 0 by omega); have h2 := Int.emod_lt_of_pos u (show (0 : Int) < ((sm + 1 : Nat) : Int) by omega); omega
    have hp1 := fun wz => pick_any t (tl + 1) wz (by omega) (by omega)
    have hp2 := fun wz => pick_any u (sm + 1) wz (by omega) (by omega)
    rw [← HA0.out] at hp1
    rw [← HB0.out] at hp2
    have hcast1 : ((tl + 1 : Nat) : Int) = (tl : Int) + 1 := by omega
    have hcast2 : ((sm + 1 : Nat) : Int) = (sm : Int) + 1 := by omega
    rw [hcast1] at hp1
    rw [hcast2] at hp2
    have hwr1 : IntKind.i64.wrap ((tl : Int) + 1) = (tl : Int) + 1 := wrap_in _ (by omega) (by omega)
    have hwr2 : IntKind.i64.wrap ((sm : Int) + 1) = (sm : Int) + 1 := wrap_in _ (by omega) (by omega)
    have m6 : (a : Int) ≤ (tcap : Int) := by omega
    have m7 : (b : Int) ≤ (sc : Int) := by omega
    have hs0 : w3.drew.cell? ⟨pb + 2, 0, none⟩ = some (.int .i64 t) ∧ w3.drew.cell? ⟨pb + 2, 1, none⟩ = some (.int .i64 u) := ⟨HX3.out.2.1 0 (by omega), HX3.out.2.1 1 (by omega)⟩
    go_wp2_with fail
    refine wp_region_E 17 (fun w' => w'.cell? ⟨pb + 2, 0, none⟩ = some (.int .i64 t) ∧ w'.cell? ⟨pb + 2, 1, none⟩ = some (.int .i64 u)) (by kernel_rfl) ?_
    refine wpAnyE_take 0 [17] (oi := { dst := some 30, op := Go.Op.move (Go.Operand.tmp 7), type := 25, pos := "outright.go:35", after := #[], guard := none }) (v := ?_) rfl (by kernel_rfl) (by kernel_rfl) (by kernel_rfl) (by kernel_rfl) (fun _ _ _ h => h) (Or.inl ⟨by rfl, ?hE1⟩) hs0 ?_
    case hE1 =>
      intro u hu
      obtain ⟨u0, u1⟩ := hu
      go_simp
      try with_reducible rfl
    simp only [Act.put, List.setIfInBounds_toArray, List.set_cons_zero, List.set_cons_succ]
    refine wpAnyE_take 1 [17] (oi := { dst := some 31, op := Go.Op.indexAddr 42 (Go.Operand.tmp 5) (Go.Operand.const (Go.Value.int Go.IntKind.i64 0)), type := 0, pos := "outright.go:35", after := #[], guard := none }) (v := ?_) rfl (by kernel_rfl) (by kernel_rfl) (by kernel_rfl) (by kernel_rfl) (fun _ _ _ h => h) (Or.inl ⟨by rfl, ?hE2⟩) hs0 ?_
    case hE2 =>
      intro u hu
      obtain ⟨u0, u1⟩ := hu
      go_simp
      try with_reducible rfl
    simp only [Act.put, List.setIfInBounds_toArray, List.set_cons_zero, List.set_cons_succ]
    refine wpAnyE_take 2 [17] (oi := { dst := some 32, op := Go.Op.load 3 (Go.Operand.tmp 31), type := 3, pos := "outright.go:35", after := #[{ on := 1, ground := Go.Ground.data }], guard := none }) (v := ?_) rfl (by kernel_rfl) (by kernel_rfl) (by kernel_rfl) (by kernel_rfl) (fun _ _ _ h => h) (Or.inl ⟨by rfl, ?hE3⟩) hs0 ?_
    case hE3 =>
      intro u hu
      obtain ⟨u0, u1⟩ := hu
      go_simp
      try with_reducible rfl
    simp only [Act.put, List.setIfInBounds_toArray, List.set_cons_zero, List.set_cons_succ]
    refine wpAnyE_take 3 [17] (oi := { dst := some 33, op := Go.Op.move (Go.Operand.tmp 7), type := 25, pos := "outright.go:35", after := #[], guard := none }) (v := ?_) rfl (by kernel_rfl) (by kernel_rfl) (by kernel_rfl) (by kernel_rfl) (fun _ _ _ h => h) (Or.inl ⟨by rfl, ?hE4⟩) hs0 ?_
    case hE4 =>
      intro u hu
      obtain ⟨u0, u1⟩ := hu
      go_simp
      try with_reducible rfl
    simp only [Act.put, List.setIfInBounds_toArray, List.set_cons_zero, List.set_cons_succ]
    refine wpAnyE_take 4 [17] (oi := { dst := some 34, op := Go.Op.call { callee := Go.Callee.builtin Go.Builtin.len, args := #[Go.Operand.tmp 33], argTypes := #[25] }, type := 3, pos := "outright.go:35", after := #[{ on := 3, ground := Go.Ground.data }], guard := none }) (v := ?_) rfl (by kernel_rfl) (by kernel_rfl) (by kernel_rfl) (by kernel_rfl) (fun _ _ _ h => h) (Or.inl ⟨by rfl, ?hE5⟩) hs0 ?_
    case hE5 =>
      intro u hu
      obtain ⟨u0, u1⟩ := hu
      go_simp
      try with_reducible rfl
    simp only [Act.put, List.setIfInBounds_toArray, List.set_cons_zero, List.set_cons_succ]
    refine wpAnyE_take 5 [17] (oi := { dst := some 35, op := Go.Op.binOp Go.BinOp.add 3 (Go.Operand.tmp 34) (Go.Operand.const (Go.Value.int Go.IntKind.i64 1)) 3, type := 3, pos := "outright.go:35", after := #[{ on := 4, ground := Go.Ground.data }], guard := none }) (v := ?_) rfl (by kernel_rfl) (by kernel_rfl) (by kernel_rfl) (by kernel_rfl) (fun _ _ _ h => h) (Or.inl ⟨by rfl, ?hE6⟩) hs0 ?_
    case hE6 =>
      intro u hu
      obtain ⟨u0, u1⟩ := hu
      go_simp
      try with_reducible rfl
    simp only [Act.put, List.setIfInBounds_toArray, List.set_cons_zero, List.set_cons_succ]
    refine wpAnyE_take 8 [17] (oi := { dst := some 38, op := Go.Op.move (Go.Operand.tmp 8), type := 26, pos := "outright.go:35", after := #[], guard := none }) (v := ?_) rfl (by kernel_rfl) (by kernel_rfl) (by kernel_rfl) (by kernel_rfl) (fun _ _ _ h => h) (Or.inl ⟨by rfl, ?hE7⟩) hs0 ?_
    case hE7 =>
      intro u hu
      obtain ⟨u0, u1⟩ := hu
      go_simp
      try with_reducible rfl
    simp only [Act.put, List.setIfInBounds_toArray, List.set_cons_zero, List.set_cons_succ]
    refine wpAnyE_take 9 [17] (oi := { dst := some 39, op := Go.Op.indexAddr 42 (Go.Operand.tmp 5) (Go.Operand.const (Go.Value.int Go.IntKind.i64 1)), type := 0, pos := "outright.go:35", after := #[], guard := none }) (v := ?_) rfl (by kernel_rfl) (by kernel_rfl) (by kernel_rfl) (by kernel_rfl) (fun _ _ _ h => h) (Or.inl ⟨by rfl, ?hE8⟩) hs0 ?_
    case hE8 =>
      intro u hu
      obtain ⟨u0, u1⟩ := hu
      go_simp
      try with_reducible rfl
    simp only [Act.put, List.setIfInBounds_toArray, List.set_cons_zero, List.set_cons_succ]
    refine wpAnyE_take 10 [17] (oi := { dst := some 40, op := Go.Op.load 3 (Go.Operand.tmp 39), type := 3, pos := "outright.go:35", after := #[{ on := 9, ground := Go.Ground.data }], guard := none }) (v := ?_) rfl (by kernel_rfl) (by kernel_rfl) (by kernel_rfl) (by kernel_rfl) (fun _ _ _ h => h) (Or.inl ⟨by rfl, ?hE9⟩) hs0 ?_
    case hE9 =>
      intro u hu
      obtain ⟨u0, u1⟩ := hu
      go_simp
      try with_reducible rfl
    simp only [Act.put, List.setIfInBounds_toArray, List.set_cons_zero, List.set_cons_succ]
    refine wpAnyE_take 11 [17] (oi := { dst := some 41, op := Go.Op.move (Go.Operand.tmp 8), type := 26, pos := "outright.go:35", after := #[], guard := none }) (v := ?_) rfl (by kernel_rfl) (by kernel_rfl) (by kernel_rfl) (by kernel_rfl) (fun _ _ _ h => h) (Or.inl ⟨by rfl, ?hE10⟩) hs0 ?_
    case hE10 =>
      intro u hu
      obtain ⟨u0, u1⟩ := hu
      go_simp
      try with_reducible rfl
    simp only [Act.put, List.setIfInBounds_toArray, List.set_cons_zero, List.set_cons_succ]
    refine wpAnyE_take 12 [17] (oi := { dst := some 42, op := Go.Op.call { callee := Go.Callee.builtin Go.Builtin.len, args := #[Go.Operand.tmp 41], argTypes := #[26] }, type := 3, pos := "outright.go:35", after := #[{ on := 11, ground := Go.Ground.data }], guard := none }) (v := ?_) rfl (by kernel_rfl) (by kernel_rfl) (by kernel_rfl) (by kernel_rfl) (fun _ _ _ h => h) (Or.inl ⟨by rfl, ?hE11⟩) hs0 ?_
    case hE11 =>
      intro u hu
      obtain ⟨u0, u1⟩ := hu
      go_simp
      try with_reducible rfl
    simp only [Act.put, List.setIfInBounds_toArray, List.set_cons_zero, List.set_cons_succ]
    refine wpAnyE_take 13 [17] (oi := { dst := some 43, op := Go.Op.binOp Go.BinOp.add 3 (Go.Operand.tmp 42) (Go.Operand.const (Go.Value.int Go.IntKind.i64 1)) 3, type := 3, pos := "outright.go:35", after := #[{ on := 12, ground := Go.Ground.data }], guard := none }) (v := ?_) rfl (by kernel_rfl) (by kernel_rfl) (by kernel_rfl) (by kernel_rfl) (fun _ _ _ h => h) (Or.inl ⟨by rfl, ?hE12⟩) hs0 ?_
    case hE12 =>
      intro u hu
      obtain ⟨u0, u1⟩ := hu
      go_simp
      try with_reducible rfl
    simp only [Act.put, List.setIfInBounds_toArray, List.set_cons_zero, List.set_cons_succ]
    refine wpAnyE_one (i := 6) (o := { dst := some 36, op := Go.Op.call { callee := Go.Callee.value (Go.Operand.func 16), args := #[Go.Operand.tmp 32, Go.Operand.tmp 35], argTypes := #[3, 3] }, type := 3, pos := "outright.go:35", after := #[{ on := 2, ground := Go.Ground.data }, { on := 5, ground := Go.Ground.data }], guard := none }) (by kernel_rfl) rfl (fun K hK => ?_)
    go_simp
    (with_reducible refine Calls.mono (hp1 _) ?_)
    rintro e w4 ⟨rfl, hw4⟩
    have hw4 := hw4.symm
    subst hw4
    refine hK _ _ (fun _ => hs0) ?_
    clear hK K
    try simp only [Act.put, List.setIfInBounds_toArray, List.set_cons_zero, List.set_cons_succ]
    refine wpAnyE_take 7 [17] (oi := { dst := some 37, op := Go.Op.slice 25 (Go.Operand.tmp 30) none (some (Go.Operand.tmp 36)) none, type := 25, pos := "outright.go:35", after := #[{ on := 0, ground := Go.Ground.data }, { on := 6, ground := Go.Ground.data }], guard := none }) (v := ?_) rfl (by kernel_rfl) (by kernel_rfl) (by kernel_rfl) (by kernel_rfl) (fun _ _ _ h => h) (Or.inl ⟨by rfl, ?hE13⟩) hs0 ?_
    case hE13 =>
      intro u hu
      obtain ⟨u0, u1⟩ := hu
      go_simp
      try with_reducible rfl
    simp only [Act.put, List.setIfInBounds_toArray, List.set_cons_zero, List.set_cons_succ]
    refine wpAnyE_one (i := 14) (o := { dst := some 44, op := Go.Op.call { callee := Go.Callee.value (Go.Operand.func 16), args := #[Go.Operand.tmp 40, Go.Operand.tmp 43], argTypes := #[3, 3] }, type := 3, pos := "outright.go:35", after := #[{ on := 10, ground := Go.Ground.data }, { on := 13, ground := Go.Ground.data }, { on := 6, ground := Go.Ground.chain }], guard := none }) (by kernel_rfl) rfl (fun K hK => ?_)
    go_simp
    (with_reducible refine Calls.mono (hp2 _) ?_)
    rintro e w4 ⟨rfl, hw4⟩
    have hw4 := hw4.symm
    subst hw4
    refine hK _ _ (fun _ => hs0) ?_
    clear hK K
    try simp only [Act.put, List.setIfInBounds_toArray, List.set_cons_zero, List.set_cons_succ]
    refine wpAnyE_take 15 [17] (oi := { dst := some 45, op := Go.Op.slice 26 (Go.Operand.tmp 38) none (some (Go.Operand.tmp 44)) none, type := 26, pos := "outright.go:35", after := #[{ on := 8, ground := Go.Ground.data }, { on := 14, ground := Go.Ground.data }], guard := none }) (v := ?_) rfl (by kernel_rfl) (by kernel_rfl) (by kernel_rfl) (by kernel_rfl) (fun _ _ _ h => h) (Or.inl ⟨by rfl, ?hE14⟩) hs0 ?_
    case hE14 =>
      intro u hu
      obtain ⟨u0, u1⟩ := hu
      go_simp
      try with_reducible rfl
    simp only [Act.put, List.setIfInBounds_toArray, List.set_cons_zero, List.set_cons_succ]
    refine wpAnyE_one (i := 16) (o := { dst := some 9, op := Go.Op.assign (Go.Operand.tmp 37), type := 25, pos := "outright.go:35", after := #[{ on := 7, ground := Go.Ground.data }, { on := 14, ground := Go.Ground.chain }, { on := 0, ground := Go.Ground.phase }, { on := 1, ground := Go.Ground.phase }, { on := 2, ground := Go.Ground.phase }, { on := 3, ground := Go.Ground.phase }, { on := 4, ground := Go.Ground.phase }, { on := 5, ground := Go.Ground.phase }, { on := 6, ground := Go.Ground.phase }, { on := 7, ground := Go.Ground.phase }, { on := 8, ground := Go.Ground.textOnly Go.Departure.lateStores }, { on := 9, ground := Go.Ground.textOnly Go.Departure.lateStores }, { on := 10, ground := Go.Ground.textOnly Go.Departure.lateStores }, { on := 11, ground := Go.Ground.textOnly Go.Departure.lateStores }, { on := 12, ground := Go.Ground.textOnly Go.Departure.lateStoresUnsure }, { on := 13, ground := Go.Ground.textOnly Go.Departure.lateStores }, { on := 14, ground := Go.Ground.textOnly Go.Departure.lateStoresUnsure }, { on := 15, ground := Go.Ground.textOnly Go.Departure.lateStoresUnsure }], guard := none }) (by kernel_rfl) rfl (fun K hK => ?_)
    go_simp
    refine hK _ _ (fun _ => hs0) ?_
    clear hK K
    try simp only [Act.put, List.setIfInBounds_toArray, List.set_cons_zero, List.set_cons_succ]
    refine wpAnyE_one (i := 17) (o := { dst := some 10, op := Go.Op.assign (Go.Operand.tmp 45), type := 26, pos := "outright.go:35", after := #[{ on := 15, ground := Go.Ground.data }, { on := 16, ground := Go.Ground.chain }, { on := 0, ground := Go.Ground.phase }, { on := 1, ground := Go.Ground.phase }, { on := 2, ground := Go.Ground.phase }, { on := 3, ground := Go.Ground.phase }, { on := 4, ground := Go.Ground.phase }, { on := 5, ground := Go.Ground.phase }, { on := 6, ground := Go.Ground.phase }, { on := 7, ground := Go.Ground.phase }, { on := 8, ground := Go.Ground.phase }, { on := 9, ground := Go.Ground.phase }, { on := 10, ground := Go.Ground.phase }, { on := 11, ground := Go.Ground.phase }, { on := 12, ground := Go.Ground.phase }, { on := 13, ground := Go.Ground.phase }, { on := 14, ground := Go.Ground.phase }, { on := 15, ground := Go.Ground.phase }, { on := 16, ground := Go.Ground.phase }], guard := none }) (by kernel_rfl) rfl (fun K hK => ?_)
    go_simp
    refine hK _ _ (fun h => absurd rfl h) ?_
    clear hK K
    try simp only [Act.put, List.setIfInBounds_toArray, List.set_cons_zero, List.set_cons_succ]
    refine wpAnyE_done (by kernel_rfl) ?_

    clear hp1 hp2 hs0 e2 hm2 hwr1 hwr2 hcast1 hcast2
    have HTA : Hid (RdK w3.drew (.slice to a tcap) (T.take a)) := RdK.take HO3.out a (by rw [← HTL.out]; exact hal)
    have HTA3 : Hid (RdK w3.drew (.slice to tl tcap) T) := HO3.out
    have HB3d : Hid (Below w.heap.size w w3.drew) := HB3.out.drew
    obtain ⟨S, HS⟩ := named (sg.take 300)
    rw [← HS.out] at HTS
    have hSl : S.length = sm := by rw [HS.out, HSM.out, List.length_take]; omega
    have HSB1 : Hid (RdN w (.slice so b sc) (S.take b)) := RdN.take HTS.out b (by rw [hSl]; exact hbl)
    have hrn : ∀ (kv : Value) (kl : List (Int × Oc)) (sv : Value) (sl : List Int) (wz : World), Below w.heap.size w wz → kl.length ≤ 100000 → sl.length ≤ 100000 → RdK wz kv kl → RdN w sv sl → Calls Tryd.prog 17 #[.agg #[.string p.name, .int .i64 p.regs, .slice ao L cap], .int .i64 arg, kv, sv, .int .i64 10000] wz fun e w' => ∃ vc, e = .returned (.tuple #[stV (runR p arg kl sl 10000).1 vc, .int .i64 (runR p arg kl sl 10000).2]) ∧ OwnM w' wz.heap.size vc (runR p arg kl sl 10000).1.cmds ∧ Below wz.heap.size wz w' := fun kv kl sv sl wz hb h1 h2 ht hs => run_any p (.slice ao L cap) arg kv kl sv sl 10000 wz (HK.out.below hb) (HC.out.below hb) HWF.out ht h1 (RdX.below hs hb) (by omega)
    have HRN := hide hrn
    have h1 := HRN.out (.slice to a tcap) (T.take a) (.slice so b sc) (S.take b) w3.drew HB3d.out (by rw [List.length_take, ← HTL.out]; omega) (by rw [List.length_take, hSl]; omega) HTA.out HSB1.out
    obtain ⟨R1, HR1⟩ := named (runR p arg (T.take a) (S.take b) 10000)
    rw [← HR1.out] at h1
    have b0 : w3.drew.cell? ⟨pb, 0, none⟩ = some (.string p.name) := HP3.out.2.1 0 (by omega)
    have b1 : w3.drew.cell? ⟨pb, 1, none⟩ = some (.int .i64 p.regs) := HP3.out.2.1 1 (by omega)
    have b2 : w3.drew.cell? ⟨pb, 2, none⟩ = some (.slice ao L cap) := HP3.out.2.1 2 (by omega)
    have c0 : w3.drew.cell? ⟨pb + 1, 0, none⟩ = some (.int .i64 arg) := HG3.out.2.1 0 (by omega)
    have hz3d : Hid (w3.drew.heap.size = w3.heap.size) := rfl
    clear hrn
    go_wp2_with fail
    (with_reducible refine Calls.mono h1 ?_)
    rintro e w5 ⟨v5, rfl, hm5, hb5⟩
    clear b0 b1 b2 c0 h1
    obtain ⟨mo, mc, hv5, -⟩ := RdM.shape (l := R1.1.cmds) hm5.rd
    subst hv5
    rw [show stV R1.1 (.slice mo R1.1.cmds.length mc) = .agg #[.int .i64 R1.1.at_, .int .i64 R1.1.ost, .int .i64 R1.1.ova, .int .i64 R1.1.on, .slice mo R1.1.cmds.length mc, .int .i64 R1.1.sig, .int .i64 R1.1.steps] from rfl]
    obtain ⟨l1, HL1⟩ := named R1.1.cmds.length
    rw [← HL1.out] at hm5 ⊢
    obtain ⟨sb, HSB⟩ := named w5.heap.size
    obtain ⟨W5, HW5⟩ := named (w5.alloc (.cells #[.int .i64 R1.1.at_, .int .i64 R1.1.ost, .int .i64 R1.1.ova, .int .i64 R1.1.on, .slice mo l1 mc, .int .i64 R1.1.sig, .int .i64 R1.1.steps] 35))
    have x5 : RC 7 W5 sb (fun k => ([.int .i64 R1.1.at_, .int .i64 R1.1.ost, .int .i64 R1.1.ova, .int .i64 R1.1.on, .slice mo l1 mc, .int .i64 R1.1.sig, .int .i64 R1.1.steps] : List Value).getD k undef) := by
      rw [HW5.out, HSB.out]
      refine RC.new w5 _ 35 _ (fun k hk => ?_)
      rcases (show k = 0 ∨ k = 1 ∨ k = 2 ∨ k = 3 ∨ k = 4 ∨ k = 5 ∨ k = 6 by omega) with rfl | rfl | rfl | rfl | rfl | rfl | rfl <;> rfl
    have hb35 : Below w3.drew.heap.size w3.drew W5 := by rw [HW5.out]; exact hb5.alloc hb5.size _
    have HB5 := hide (HB3d.out.trans (hb35.mono HB3d.out.size))
    have HG5 : Hid (RC 4 W5 (pb + 1) (fun k => ([.int .i64 arg, .slice ko kl kc, .slice so sl sc, .int .i64 fu] : List Value).getD k undef)) := RC.below (w := w3.drew) HG3.out hb35
    have HP5 : Hid (RC 3 W5 pb (fun k => ([.string p.name, .int .i64 p.regs, .slice ao L cap] : List Value).getD k undef)) := RC.below (w := w3.drew) HP3.out hb35
    have HTA5 := hide (RdX.below HTA.out hb35)
    have HT5 := hide (RdX.below HTA3.out hb35)
    have HM5 : Hid (RdM W5 (.slice mo l1 mc) R1.1.cmds) := by show RdM _ _ _; rw [HW5.out]; exact (OwnX.alloc hm5 _).rd
    have HX5 := hide x5
    have b0 : W5.cell? ⟨pb, 0, none⟩ = some (.string p.name) := HP5.out.2.1 0 (by omega)
    have b1 : W5.cell? ⟨pb, 1, none⟩ = some (.int .i64 p.regs) := HP5.out.2.1 1 (by omega)
    have b2 : W5.cell? ⟨pb, 2, none⟩ = some (.slice ao L cap) := HP5.out.2.1 2 (by omega)
    have c0 : W5.cell? ⟨pb + 1, 0, none⟩ = some (.int .i64 arg) := HG5.out.2.1 0 (by omega)
    rw [HW5.out] at b0 b1 b2 c0
    have h2 := HRN.out (.slice to tl tcap) T (.slice so sm sc) S W5 HB5.out (by rw [← HTL.out]; omega) (by rw [hSl]; omega) HT5.out HTS.out
    obtain ⟨R2, HR2⟩ := named (runR p arg T S 10000)
    rw [← HR2.out] at h2
    clear hb5 hm5 x5 hb35
    go_wp2_with fail
    rw [← HW5.out]
    (with_reducible refine Calls.mono h2 ?_)
    rintro e w6 ⟨v6, rfl, hm6, hb6⟩
    clear b0 b1 b2 c0 h2
    obtain ⟨no, nc, hv6, hn6⟩ := RdM.shape (l := R2.1.cmds) hm6.rd
    subst hv6
    rw [show stV R2.1 (.slice no R2.1.cmds.length nc) = .agg #[.int .i64 R2.1.at_, .int .i64 R2.1.ost, .int .i64 R2.1.ova, .int .i64 R2.1.on, .slice no R2.1.cmds.length nc, .int .i64 R2.1.sig, .int .i64 R2.1.steps] from rfl]
    obtain ⟨l2, HL2⟩ := named R2.1.cmds.length
    rw [← HL2.out] at hm6 hn6 ⊢
    obtain ⟨ub, HUB⟩ := named w6.heap.size
    obtain ⟨W7, HW7⟩ := named (w6.alloc (.cells #[.int .i64 R2.1.at_, .int .i64 R2.1.ost, .int .i64 R2.1.ova, .int .i64 R2.1.on, .slice no l2 nc, .int .i64 R2.1.sig, .int .i64 R2.1.steps] 35))
    have x7 : RC 7 W7 ub (fun k => ([.int .i64 R2.1.at_, .int .i64 R2.1.ost, .int .i64 R2.1.ova, .int .i64 R2.1.on, .slice no l2 nc, .int .i64 R2.1.sig, .int .i64 R2.1.steps] : List Value).getD k undef) := by
      rw [HW7.out, HUB.out]
      refine RC.new w6 _ 35 _ (fun k hk => ?_)
      rcases (show k = 0 ∨ k = 1 ∨ k = 2 ∨ k = 3 ∨ k = 4 ∨ k = 5 ∨ k = 6 by omega) with rfl | rfl | rfl | rfl | rfl | rfl | rfl <;> rfl
    have hb57 : Below W5.heap.size W5 W7 := by rw [HW7.out]; exact hb6.alloc hb6.size _
    have y7 := HX5.out.below hb57
    have HM7 := hide (RdM.below HM5.out hb57)
    have HN7 : Hid (RdM W7 (.slice no l2 nc) R2.1.cmds) := by show RdM _ _ _; rw [HW7.out]; exact RdX.alloc hm6.rd _
    have HB7 := hide (HB5.out.trans (hb57.mono HB5.out.size))
    have HTA7 := hide (RdX.below HTA5.out hb57)
    have d0 : W7.cell? ⟨sb, 0, none⟩ = some (.int .i64 R1.1.at_) := y7.2.1 0 (by omega)
    have d1 : W7.cell? ⟨sb, 1, none⟩ = some (.int .i64 R1.1.ost) := y7.2.1 1 (by omega)
    have d2 : W7.cell? ⟨sb, 2, none⟩ = some (.int .i64 R1.1.ova) := y7.2.1 2 (by omega)
    have d3 : W7.cell? ⟨sb, 3, none⟩ = some (.int .i64 R1.1.on) := y7.2.1 3 (by omega)
    have d4 : W7.cell? ⟨sb, 4, none⟩ = some (.slice mo l1 mc) := y7.2.1 4 (by omega)
    have d5 : W7.cell? ⟨sb, 5, none⟩ = some (.int .i64 R1.1.sig) := y7.2.1 5 (by omega)
    have d6 : W7.cell? ⟨sb, 6, none⟩ = some (.int .i64 R1.1.steps) := y7.2.1 6 (by omega)
    have e0 : W7.cell? ⟨ub, 0, none⟩ = some (.int .i64 R2.1.at_) := x7.2.1 0 (by omega)
    have e1 : W7.cell? ⟨ub, 1, none⟩ = some (.int .i64 R2.1.ost) := x7.2.1 1 (by omega)
    have e2 : W7.cell? ⟨ub, 2, none⟩ = some (.int .i64 R2.1.ova) := x7.2.1 2 (by omega)
    have e3 : W7.cell? ⟨ub, 3, none⟩ = some (.int .i64 R2.1.on) := x7.2.1 3 (by omega)
    have e4 : W7.cell? ⟨ub, 4, none⟩ = some (.slice no l2 nc) := x7.2.1 4 (by omega)
    have e5 : W7.cell? ⟨ub, 5, none⟩ = some (.int .i64 R2.1.sig) := x7.2.1 5 (by omega)
    have e6 : W7.cell? ⟨ub, 6, none⟩ = some (.int .i64 R2.1.steps) := x7.2.1 6 (by omega)
    have hlt7 : Hid (sb < W7.heap.size ∧ ub < W7.heap.size) := ⟨y7.1, x7.1⟩
    clear hb6 hm6 hb57 x7 y7
    by_cases hok : okP p 20 = true
    · have hg1 := runR_good p arg (T.take a) (S.take b) 10000 hok (by omega)
      have hg2 := runR_good p arg T S 10000 hok (by omega)
      obtain ⟨u1, u2, u3, u4, u5⟩ := run_grows (knOf (T.take a)) (knOf T) (S.take b) S p.code arg 10000 (knOf_more T a) (List.take_prefix _ _)
      rw [List.length_take, hSl, Nat.min_eq_left hbl] at u4
      obtain ⟨A, HA⟩ := named (runP (knOf (T.take a)) (S.take b) p.code arg 10000)
      obtain ⟨B, HBB⟩ := named (runP (knOf T) S p.code arg 10000)
      rw [← HA.out] at hg1 u1 u2 u3 u4 u5
      rw [← HBB.out] at hg2 u1 u2
      have k1 : R1 = (A, 0) := HR1.out.trans hg1
      have k2 : R2 = (B, 0) := HR2.out.trans hg2
      subst k1 k2
      simp only at HL1 HL2 HM7 HN7 d0 d1 d2 d3 d5 d6 e0 e1 e2 e3 e5 e6 ⊢
      have hlen : l1 ≤ l2 := by rw [HL1.out, HL2.out]; exact u2.cmds.length_le
      have q1 : decide (l2 < l1) = false := decide_eq_false (by omega)
      have q1' : ¬ (l2 : Int) < (l1 : Int) := by omega
      have q2 : decide (B.steps < A.steps) = false := decide_eq_false (by have := u2.steps; omega)
      have q2' : ¬ (B.steps : Int) < (A.steps : Int) := by have := u2.steps; omega
      have q3 : decide (B.sig < A.sig) = false := decide_eq_false (by have := u2.sig; omega)
      have q3' : ¬ (B.sig : Int) < (A.sig : Int) := by have := u2.sig; omega
      have q7 : (l1 : Int) ≤ (nc : Int) := by omega
      have q8 : nc ≤ 9223372036854775807 := by have := hn6.2; unfold maxLen at this; omega
      have hsc := sameCmds_any (w := W7.drew) HM7.out (RdM.take (l := B.cmds) HN7.out l1 (by rw [← HL2.out]; exact hlen))
      rw [decide_eq_true (show A.cmds = B.cmds.take l1 by
        obtain ⟨x, hx⟩ := u2.cmds
        rw [← hx, HL1.out, List.take_left])] at hsc
      have hs7 : W7.drew.cell? ⟨sb, 4, none⟩ = some (.slice mo l1 mc) ∧ W7.drew.cell? ⟨sb, 5, none⟩ = some (.int .i64 A.sig) ∧ W7.drew.cell? ⟨sb, 6, none⟩ = some (.int .i64 A.steps) ∧ W7.drew.cell? ⟨ub, 4, none⟩ = some (.slice no l2 nc) ∧ W7.drew.cell? ⟨ub, 5, none⟩ = some (.int .i64 B.sig) ∧ W7.drew.cell? ⟨ub, 6, none⟩ = some (.int .i64 B.steps) := ⟨d4, d5, d6, e4, e5, e6⟩
      have G7 : Hid (sb < W7.drew.heap.size ∧ ub < W7.drew.heap.size) := hlt7.out
      have D0 := hide d0
      have D1 := hide d1
      have D2 := hide d2
      have D3 := hide d3
      have E0 := hide e0
      have E1 := hide e1
      have E2 := hide e2
      have E3 := hide e3
      have U1 := hide u1
      have U3 := hide u3
      have U4 := hide u4
      have U5 := hide u5
      clear u1 u2 u3 u4 u5 hlen hg1 hg2 hok hn6 d0 d1 d2 d3 d4 d5 d6 e0 e1 e2 e3 e4 e5 e6 HG5 HP5 HG3 HP3 HX3 HG2 HP2 HX2 hSl HA0 HB0
      go_wp2_with fail
      rw [← HW7.out, ← HSB.out, ← HUB.out]
      refine wp_region_E 32 (fun w' => w'.cell? ⟨sb, 4, none⟩ = some (.slice mo l1 mc) ∧ w'.cell? ⟨sb, 5, none⟩ = some (.int .i64 A.sig) ∧ w'.cell? ⟨sb, 6, none⟩ = some (.int .i64 A.steps) ∧ w'.cell? ⟨ub, 4, none⟩ = some (.slice no l2 nc) ∧ w'.cell? ⟨ub, 5, none⟩ = some (.int .i64 B.sig) ∧ w'.cell? ⟨ub, 6, none⟩ = some (.int .i64 B.steps)) (by kernel_rfl) ?_
      refine wpAnyE_take 0 [1, 2, 6, 7, 16, 19, 26, 32] (oi := { dst := some 80, op := Go.Op.fieldAddr 35 (Go.Operand.tmp 11) 3, type := 0, pos := "outright.go:41", after := #[], guard := none }) (v := ?_) rfl (by kernel_rfl) (by kernel_rfl) (by kernel_rfl) (by kernel_rfl) (fun _ _ _ h => h) (Or.inl ⟨by rfl, ?hE15⟩) hs7 ?_
      case hE15 =>
        intro u hu
        obtain ⟨u0, u1, u2, u3, u4, u5⟩ := hu
        go_simp
        try with_reducible rfl
      simp only [Act.put, List.setIfInBounds_toArray, List.set_cons_zero, List.set_cons_succ]
      refine wpAnyE_take 1 [2, 6, 7, 16, 19, 26, 32] (oi := { dst := some 81, op := Go.Op.load 33 (Go.Operand.tmp 80), type := 33, pos := "outright.go:41", after := #[{ on := 0, ground := Go.Ground.data }], guard := none }) (v := ?_) rfl (by kernel_rfl) (by kernel_rfl) (by kernel_rfl) (by kernel_rfl) (fun _ _ _ h => h) (Or.inl ⟨by rfl, ?hE16⟩) hs7 ?_
      case hE16 =>
        intro u hu
        obtain ⟨u0, u1, u2, u3, u4, u5⟩ := hu
        go_simp
        try with_reducible rfl
      simp only [Act.put, List.setIfInBounds_toArray, List.set_cons_zero, List.set_cons_succ]
      refine wpAnyE_take 2 [6, 7, 16, 19, 26, 32] (oi := { dst := some 82, op := Go.Op.call { callee := Go.Callee.builtin Go.Builtin.len, args := #[Go.Operand.tmp 81], argTypes := #[33] }, type := 3, pos := "outright.go:41", after := #[{ on := 1, ground := Go.Ground.data }], guard := none }) (v := ?_) rfl (by kernel_rfl) (by kernel_rfl) (by kernel_rfl) (by kernel_rfl) (fun _ _ _ h => h) (Or.inl ⟨by rfl, ?hE17⟩) hs7 ?_
      case hE17 =>
        intro u hu
        obtain ⟨u0, u1, u2, u3, u4, u5⟩ := hu
        go_simp
        try with_reducible rfl
      simp only [Act.put, List.setIfInBounds_toArray, List.set_cons_zero, List.set_cons_succ]
      refine wpAnyE_take 3 [4, 5, 6, 7, 16, 19, 26, 32] (oi := { dst := some 83, op := Go.Op.fieldAddr 35 (Go.Operand.tmp 13) 3, type := 0, pos := "outright.go:41", after := #[], guard := none }) (v := ?_) rfl (by kernel_rfl) (by kernel_rfl) (by kernel_rfl) (by kernel_rfl) (fun _ _ _ h => h) (Or.inl ⟨by rfl, ?hE18⟩) hs7 ?_
      case hE18 =>
        intro u hu
        obtain ⟨u0, u1, u2, u3, u4, u5⟩ := hu
        go_simp
        try with_reducible rfl
      simp only [Act.put, List.setIfInBounds_toArray, List.set_cons_zero, List.set_cons_succ]
      refine wpAnyE_take 4 [5, 6, 7, 16, 19, 26, 32] (oi := { dst := some 84, op := Go.Op.load 33 (Go.Operand.tmp 83), type := 33, pos := "outright.go:41", after := #[{ on := 3, ground := Go.Ground.data }], guard := none }) (v := ?_) rfl (by kernel_rfl) (by kernel_rfl) (by kernel_rfl) (by kernel_rfl) (fun _ _ _ h => h) (Or.inl ⟨by rfl, ?hE19⟩) hs7 ?_
      case hE19 =>
        intro u hu
        obtain ⟨u0, u1, u2, u3, u4, u5⟩ := hu
        go_simp
        try with_reducible rfl
      simp only [Act.put, List.setIfInBounds_toArray, List.set_cons_zero, List.set_cons_succ]
      refine wpAnyE_take 5 [6, 7, 16, 19, 26, 32] (oi := { dst := some 85, op := Go.Op.call { callee := Go.Callee.builtin Go.Builtin.len, args := #[Go.Operand.tmp 84], argTypes := #[33] }, type := 3, pos := "outright.go:41", after := #[{ on := 4, ground := Go.Ground.data }], guard := none }) (v := ?_) rfl (by kernel_rfl) (by kernel_rfl) (by kernel_rfl) (by kernel_rfl) (fun _ _ _ h => h) (Or.inl ⟨by rfl, ?hE20⟩) hs7 ?_
      case hE20 =>
        intro u hu
        obtain ⟨u0, u1, u2, u3, u4, u5⟩ := hu
        go_simp
        try with_reducible rfl
      simp only [Act.put, List.setIfInBounds_toArray, List.set_cons_zero, List.set_cons_succ]
      refine wpAnyE_take 6 [7, 16, 19, 26, 32] (oi := { dst := some 86, op := Go.Op.binOp Go.BinOp.gtr 3 (Go.Operand.tmp 82) (Go.Operand.tmp 85) 3, type := 4, pos := "outright.go:41", after := #[{ on := 2, ground := Go.Ground.data }, { on := 5, ground := Go.Ground.data }], guard := none }) (v := ?_) rfl (by kernel_rfl) (by kernel_rfl) (by kernel_rfl) (by kernel_rfl) (fun _ _ _ h => h) (Or.inl ⟨by rfl, ?hE21⟩) hs7 ?_
      case hE21 =>
        intro u hu
        obtain ⟨u0, u1, u2, u3, u4, u5⟩ := hu
        go_simp
        try with_reducible rfl
      simp only [Act.put, List.setIfInBounds_toArray, List.set_cons_zero, List.set_cons_succ]
      refine wpAnyE_take 7 [16, 19, 26, 32] (oi := { dst := some 87, op := Go.Op.move (Go.Operand.tmp 86), type := 4, pos := "outright.go:41", after := #[{ on := 6, ground := Go.Ground.data }], guard := none }) (v := ?_) rfl (by kernel_rfl) (by kernel_rfl) (by kernel_rfl) (by kernel_rfl) (fun _ _ _ h => h) (Or.inl ⟨by rfl, ?hE22⟩) hs7 ?_
      case hE22 =>
        intro u hu
        obtain ⟨u0, u1, u2, u3, u4, u5⟩ := hu
        go_simp
        try with_reducible rfl
      simp only [Act.put, List.setIfInBounds_toArray, List.set_cons_zero, List.set_cons_succ]
      refine wpAnyE_take 8 [9, 16, 19, 26, 32] (oi := { dst := some 88, op := Go.Op.fieldAddr 35 (Go.Operand.tmp 11) 3, type := 0, pos := "outright.go:41", after := #[{ on := 7, ground := Go.Ground.guard }], guard := some (7, false) }) (v := ?_) rfl (by kernel_rfl) (by kernel_rfl) (by kernel_rfl) (by kernel_rfl) (fun _ _ _ h => h) (Or.inl ⟨by rfl, ?hE23⟩) hs7 ?_
      case hE23 =>
        intro u hu
        obtain ⟨u0, u1, u2, u3, u4, u5⟩ := hu
        go_simp
        try with_reducible rfl
      simp only [Act.put, List.setIfInBounds_toArray, List.set_cons_zero, List.set_cons_succ]
      refine wpAnyE_take 9 [16, 19, 26, 32] (oi := { dst := some 89, op := Go.Op.load 33 (Go.Operand.tmp 88), type := 33, pos := "outright.go:41", after := #[{ on := 8, ground := Go.Ground.data }, { on := 7, ground := Go.Ground.guard }], guard := some (7, false) }) (v := ?_) rfl (by kernel_rfl) (by kernel_rfl) (by kernel_rfl) (by kernel_rfl) (fun _ _ _ h => h) (Or.inl ⟨by rfl, ?hE24⟩) hs7 ?_
      case hE24 =>
        intro u hu
        obtain ⟨u0, u1, u2, u3, u4, u5⟩ := hu
        go_simp
        try with_reducible rfl
      simp only [Act.put, List.setIfInBounds_toArray, List.set_cons_zero, List.set_cons_succ]
      refine wpAnyE_take 10 [11, 15, 16, 19, 26, 32] (oi := { dst := some 90, op := Go.Op.fieldAddr 35 (Go.Operand.tmp 13) 3, type := 0, pos := "outright.go:41", after := #[{ on := 7, ground := Go.Ground.guard }], guard := some (7, false) }) (v := ?_) rfl (by kernel_rfl) (by kernel_rfl) (by kernel_rfl) (by kernel_rfl) (fun _ _ _ h => h) (Or.inl ⟨by rfl, ?hE25⟩) hs7 ?_
      case hE25 =>
        intro u hu
        obtain ⟨u0, u1, u2, u3, u4, u5⟩ := hu
        go_simp
        try with_reducible rfl
      simp only [Act.put, List.setIfInBounds_toArray, List.set_cons_zero, List.set_cons_succ]
      refine wpAnyE_take 11 [15, 16, 19, 26, 32] (oi := { dst := some 91, op := Go.Op.load 33 (Go.Operand.tmp 90), type := 33, pos := "outright.go:41", after := #[{ on := 10, ground := Go.Ground.data }, { on := 7, ground := Go.Ground.guard }], guard := some (7, false) }) (v := ?_) rfl (by kernel_rfl) (by kernel_rfl) (by kernel_rfl) (by kernel_rfl) (fun _ _ _ h => h) (Or.inl ⟨by rfl, ?hE26⟩) hs7 ?_
      case hE26 =>
        intro u hu
        obtain ⟨u0, u1, u2, u3, u4, u5⟩ := hu
        go_simp
        try with_reducible rfl
      simp only [Act.put, List.setIfInBounds_toArray, List.set_cons_zero, List.set_cons_succ]
      refine wpAnyE_take 12 [13, 14, 15, 16, 19, 26, 32] (oi := { dst := some 92, op := Go.Op.fieldAddr 35 (Go.Operand.tmp 11) 3, type := 0, pos := "outright.go:41", after := #[{ on := 7, ground := Go.Ground.guard }], guard := some (7, false) }) (v := ?_) rfl (by kernel_rfl) (by kernel_rfl) (by kernel_rfl) (by kernel_rfl) (fun _ _ _ h => h) (Or.inl ⟨by rfl, ?hE27⟩) hs7 ?_
      case hE27 =>
        intro u hu
        obtain ⟨u0, u1, u2, u3, u4, u5⟩ := hu
        go_simp
        try with_reducible rfl
      simp only [Act.put, List.setIfInBounds_toArray, List.set_cons_zero, List.set_cons_succ]
      refine wpAnyE_take 13 [14, 15, 16, 19, 26, 32] (oi := { dst := some 93, op := Go.Op.load 33 (Go.Operand.tmp 92), type := 33, pos := "outright.go:41", after := #[{ on := 12, ground := Go.Ground.data }, { on := 7, ground := Go.Ground.guard }], guard := some (7, false) }) (v := ?_) rfl (by kernel_rfl) (by kernel_rfl) (by kernel_rfl) (by kernel_rfl) (fun _ _ _ h => h) (Or.inl ⟨by rfl, ?hE28⟩) hs7 ?_
      case hE28 =>
        intro u hu
        obtain ⟨u0, u1, u2, u3, u4, u5⟩ := hu
        go_simp
        try with_reducible rfl
      simp only [Act.put, List.setIfInBounds_toArray, List.set_cons_zero, List.set_cons_succ]
      refine wpAnyE_take 14 [15, 16, 19, 26, 32] (oi := { dst := some 94, op := Go.Op.call { callee := Go.Callee.builtin Go.Builtin.len, args := #[Go.Operand.tmp 93], argTypes := #[33] }, type := 3, pos := "outright.go:41", after := #[{ on := 13, ground := Go.Ground.data }, { on := 7, ground := Go.Ground.guard }], guard := some (7, false) }) (v := ?_) rfl (by kernel_rfl) (by kernel_rfl) (by kernel_rfl) (by kernel_rfl) (fun _ _ _ h => h) (Or.inl ⟨by rfl, ?hE29⟩) hs7 ?_
      case hE29 =>
        intro u hu
        obtain ⟨u0, u1, u2, u3, u4, u5⟩ := hu
        go_simp
        try with_reducible rfl
      simp only [Act.put, List.setIfInBounds_toArray, List.set_cons_zero, List.set_cons_succ]
      refine wpAnyE_take 15 [16, 19, 26, 32] (oi := { dst := some 95, op := Go.Op.slice 33 (Go.Operand.tmp 91) none (some (Go.Operand.tmp 94)) none, type := 33, pos := "outright.go:41", after := #[{ on := 11, ground := Go.Ground.data }, { on := 14, ground := Go.Ground.data }, { on := 7, ground := Go.Ground.guard }], guard := some (7, false) }) (v := ?_) rfl (by kernel_rfl) (by kernel_rfl) (by kernel_rfl) (by kernel_rfl) (fun _ _ _ h => h) (Or.inl ⟨by rfl, ?hE30⟩) hs7 ?_
      case hE30 =>
        intro u hu
        obtain ⟨u0, u1, u2, u3, u4, u5⟩ := hu
        go_simp
        try with_reducible rfl
      simp only [Act.put, List.setIfInBounds_toArray, List.set_cons_zero, List.set_cons_succ]
      refine wpAnyE_one (i := 16) (o := { dst := some 96, op := Go.Op.call { callee := Go.Callee.value (Go.Operand.func 18), args := #[Go.Operand.tmp 89, Go.Operand.tmp 95], argTypes := #[33, 33] }, type := 4, pos := "outright.go:41", after := #[{ on := 9, ground := Go.Ground.data }, { on := 15, ground := Go.Ground.data }, { on := 7, ground := Go.Ground.chain }, { on := 7, ground := Go.Ground.guard }], guard := some (7, false) }) (by kernel_rfl) rfl (fun K hK => ?_)
      go_simp
      (with_reducible refine Calls.mono hsc ?_)
      rintro e w8 ⟨rfl, hb8⟩
      have hs8 : w8.cell? ⟨sb, 4, none⟩ = some (.slice mo l1 mc) ∧ w8.cell? ⟨sb, 5, none⟩ = some (.int .i64 A.sig) ∧ w8.cell? ⟨sb, 6, none⟩ = some (.int .i64 A.steps) ∧ w8.cell? ⟨ub, 4, none⟩ = some (.slice no l2 nc) ∧ w8.cell? ⟨ub, 5, none⟩ = some (.int .i64 B.sig) ∧ w8.cell? ⟨ub, 6, none⟩ = some (.int .i64 B.steps) := ⟨(hb8.cell (p := ⟨sb, 4, none⟩) G7.out.1).trans hs7.1, (hb8.cell (p := ⟨sb, 5, none⟩) G7.out.1).trans hs7.2.1, (hb8.cell (p := ⟨sb, 6, none⟩) G7.out.1).trans hs7.2.2.1, (hb8.cell (p := ⟨ub, 4, none⟩) G7.out.2).trans hs7.2.2.2.1, (hb8.cell (p := ⟨ub, 5, none⟩) G7.out.2).trans hs7.2.2.2.2.1, (hb8.cell (p := ⟨ub, 6, none⟩) G7.out.2).trans hs7.2.2.2.2.2⟩
      have HB8 := hide (HB7.out.drew.trans (hb8.mono HB7.out.drew.size))
      have HB78 : Hid (Below W7.heap.size W7 w8) := (Below.refl _ _).drew.trans (hb8.mono (Nat.le_refl _))
      clear hb8 hsc
      refine hK _ _ (fun _ => hs8) ?_
      clear hK K
      try simp only [Act.put, List.setIfInBounds_toArray, List.set_cons_zero, List.set_cons_succ]
      refine wpAnyE_take 17 [18, 19, 26, 32] (oi := { dst := some 97, op := Go.Op.unOp Go.UnOp.not 4 (Go.Operand.tmp 96), type := 4, pos := "outright.go:41", after := #[{ on := 16, ground := Go.Ground.data }, { on := 7, ground := Go.Ground.guard }], guard := some (7, false) }) (v := ?_) rfl (by kernel_rfl) (by kernel_rfl) (by kernel_rfl) (by kernel_rfl) (fun _ _ _ h => h) (Or.inl ⟨by rfl, ?hE31⟩) hs8 ?_
      case hE31 =>
        intro u hu
        obtain ⟨u0, u1, u2, u3, u4, u5⟩ := hu
        go_simp
        try with_reducible rfl
      simp only [Act.put, List.setIfInBounds_toArray, List.set_cons_zero, List.set_cons_succ]
      refine wpAnyE_take 18 [19, 26, 32] (oi := { dst := some 98, op := Go.Op.pick (Go.Operand.tmp 87) (Go.Operand.const (Go.Value.bool true)) (Go.Operand.tmp 97), type := 4, pos := "outright.go:41", after := #[{ on := 7, ground := Go.Ground.data }, { on := 17, ground := Go.Ground.data }], guard := none }) (v := ?_) rfl (by kernel_rfl) (by kernel_rfl) (by kernel_rfl) (by kernel_rfl) (fun _ _ _ h => h) (Or.inl ⟨by rfl, ?hE32⟩) hs8 ?_
      case hE32 =>
        intro u hu
        obtain ⟨u0, u1, u2, u3, u4, u5⟩ := hu
        go_simp
        try with_reducible rfl
      simp only [Act.put, List.setIfInBounds_toArray, List.set_cons_zero, List.set_cons_succ]
      refine wpAnyE_take 19 [26, 32] (oi := { dst := some 99, op := Go.Op.move (Go.Operand.tmp 98), type := 4, pos := "outright.go:41", after := #[{ on := 18, ground := Go.Ground.data }, { on := 16, ground := Go.Ground.chain }], guard := none }) (v := ?_) rfl (by kernel_rfl) (by kernel_rfl) (by kernel_rfl) (by kernel_rfl) (fun _ _ _ h => h) (Or.inl ⟨by rfl, ?hE33⟩) hs8 ?_
      case hE33 =>
        intro u hu
        obtain ⟨u0, u1, u2, u3, u4, u5⟩ := hu
        go_simp
        try with_reducible rfl
      simp only [Act.put, List.setIfInBounds_toArray, List.set_cons_zero, List.set_cons_succ]
      refine wpAnyE_take 20 [21, 24, 25, 26, 32] (oi := { dst := some 100, op := Go.Op.fieldAddr 35 (Go.Operand.tmp 11) 5, type := 0, pos := "outright.go:41", after := #[{ on := 19, ground := Go.Ground.guard }], guard := some (19, false) }) (v := ?_) rfl (by kernel_rfl) (by kernel_rfl) (by kernel_rfl) (by kernel_rfl) (fun _ _ _ h => h) (Or.inl ⟨by rfl, ?hE34⟩) hs8 ?_
      case hE34 =>
        intro u hu
        obtain ⟨u0, u1, u2, u3, u4, u5⟩ := hu
        go_simp
        try with_reducible rfl
      simp only [Act.put, List.setIfInBounds_toArray, List.set_cons_zero, List.set_cons_succ]
      refine wpAnyE_take 21 [24, 25, 26, 32] (oi := { dst := some 101, op := Go.Op.load 3 (Go.Operand.tmp 100), type := 3, pos := "outright.go:41", after := #[{ on := 20, ground := Go.Ground.data }, { on := 19, ground := Go.Ground.guard }], guard := some (19, false) }) (v := ?_) rfl (by kernel_rfl) (by kernel_rfl) (by kernel_rfl) (by kernel_rfl) (fun _ _ _ h => h) (Or.inl ⟨by rfl, ?hE35⟩) hs8 ?_
      case hE35 =>
        intro u hu
        obtain ⟨u0, u1, u2, u3, u4, u5⟩ := hu
        go_simp
        try with_reducible rfl
      simp only [Act.put, List.setIfInBounds_toArray, List.set_cons_zero, List.set_cons_succ]
      refine wpAnyE_take 22 [23, 24, 25, 26, 32] (oi := { dst := some 102, op := Go.Op.fieldAddr 35 (Go.Operand.tmp 13) 5, type := 0, pos := "outright.go:41", after := #[{ on := 19, ground := Go.Ground.guard }], guard := some (19, false) }) (v := ?_) rfl (by kernel_rfl) (by kernel_rfl) (by kernel_rfl) (by kernel_rfl) (fun _ _ _ h => h) (Or.inl ⟨by rfl, ?hE36⟩) hs8 ?_
      case hE36 =>
        intro u hu
        obtain ⟨u0, u1, u2, u3, u4, u5⟩ := hu
        go_simp
        try with_reducible rfl
      simp only [Act.put, List.setIfInBounds_toArray, List.set_cons_zero, List.set_cons_succ]
      refine wpAnyE_take 23 [24, 25, 26, 32] (oi := { dst := some 103, op := Go.Op.load 3 (Go.Operand.tmp 102), type := 3, pos := "outright.go:41", after := #[{ on := 22, ground := Go.Ground.data }, { on := 19, ground := Go.Ground.guard }], guard := some (19, false) }) (v := ?_) rfl (by kernel_rfl) (by kernel_rfl) (by kernel_rfl) (by kernel_rfl) (fun _ _ _ h => h) (Or.inl ⟨by rfl, ?hE37⟩) hs8 ?_
      case hE37 =>
        intro u hu
        obtain ⟨u0, u1, u2, u3, u4, u5⟩ := hu
        go_simp
        try with_reducible rfl
      simp only [Act.put, List.setIfInBounds_toArray, List.set_cons_zero, List.set_cons_succ]
      refine wpAnyE_take 24 [25, 26, 32] (oi := { dst := some 104, op := Go.Op.binOp Go.BinOp.gtr 3 (Go.Operand.tmp 101) (Go.Operand.tmp 103) 3, type := 4, pos := "outright.go:41", after := #[{ on := 21, ground := Go.Ground.data }, { on := 23, ground := Go.Ground.data }, { on := 19, ground := Go.Ground.guard }], guard := some (19, false) }) (v := ?_) rfl (by kernel_rfl) (by kernel_rfl) (by kernel_rfl) (by kernel_rfl) (fun _ _ _ h => h) (Or.inl ⟨by rfl, ?hE38⟩) hs8 ?_
      case hE38 =>
        intro u hu
        obtain ⟨u0, u1, u2, u3, u4, u5⟩ := hu
        go_simp
        try with_reducible rfl
      simp only [Act.put, List.setIfInBounds_toArray, List.set_cons_zero, List.set_cons_succ]
      refine wpAnyE_take 25 [26, 32] (oi := { dst := some 105, op := Go.Op.pick (Go.Operand.tmp 99) (Go.Operand.const (Go.Value.bool true)) (Go.Operand.tmp 104), type := 4, pos := "outright.go:41", after := #[{ on := 19, ground := Go.Ground.data }, { on := 24, ground := Go.Ground.data }], guard := none }) (v := ?_) rfl (by kernel_rfl) (by kernel_rfl) (by kernel_rfl) (by kernel_rfl) (fun _ _ _ h => h) (Or.inl ⟨by rfl, ?hE39⟩) hs8 ?_
      case hE39 =>
        intro u hu
        obtain ⟨u0, u1, u2, u3, u4, u5⟩ := hu
        go_simp
        try with_reducible rfl
      simp only [Act.put, List.setIfInBounds_toArray, List.set_cons_zero, List.set_cons_succ]
      refine wpAnyE_take 26 [32] (oi := { dst := some 106, op := Go.Op.move (Go.Operand.tmp 105), type := 4, pos := "outright.go:41", after := #[{ on := 25, ground := Go.Ground.data }, { on := 19, ground := Go.Ground.chain }], guard := none }) (v := ?_) rfl (by kernel_rfl) (by kernel_rfl) (by kernel_rfl) (by kernel_rfl) (fun _ _ _ h => h) (Or.inl ⟨by rfl, ?hE40⟩) hs8 ?_
      case hE40 =>
        intro u hu
        obtain ⟨u0, u1, u2, u3, u4, u5⟩ := hu
        go_simp
        try with_reducible rfl
      simp only [Act.put, List.setIfInBounds_toArray, List.set_cons_zero, List.set_cons_succ]
      refine wpAnyE_take 27 [28, 31, 32] (oi := { dst := some 107, op := Go.Op.fieldAddr 35 (Go.Operand.tmp 11) 4, type := 0, pos := "outright.go:41", after := #[{ on := 26, ground := Go.Ground.guard }], guard := some (26, false) }) (v := ?_) rfl (by kernel_rfl) (by kernel_rfl) (by kernel_rfl) (by kernel_rfl) (fun _ _ _ h => h) (Or.inl ⟨by rfl, ?hE41⟩) hs8 ?_
      case hE41 =>
        intro u hu
        obtain ⟨u0, u1, u2, u3, u4, u5⟩ := hu
        go_simp
        try with_reducible rfl
      simp only [Act.put, List.setIfInBounds_toArray, List.set_cons_zero, List.set_cons_succ]
      refine wpAnyE_take 28 [31, 32] (oi := { dst := some 108, op := Go.Op.load 3 (Go.Operand.tmp 107), type := 3, pos := "outright.go:41", after := #[{ on := 27, ground := Go.Ground.data }, { on := 26, ground := Go.Ground.guard }], guard := some (26, false) }) (v := ?_) rfl (by kernel_rfl) (by kernel_rfl) (by kernel_rfl) (by kernel_rfl) (fun _ _ _ h => h) (Or.inl ⟨by rfl, ?hE42⟩) hs8 ?_
      case hE42 =>
        intro u hu
        obtain ⟨u0, u1, u2, u3, u4, u5⟩ := hu
        go_simp
        try with_reducible rfl
      simp only [Act.put, List.setIfInBounds_toArray, List.set_cons_zero, List.set_cons_succ]
      refine wpAnyE_take 29 [30, 31, 32] (oi := { dst := some 109, op := Go.Op.fieldAddr 35 (Go.Operand.tmp 13) 4, type := 0, pos := "outright.go:41", after := #[{ on := 26, ground := Go.Ground.guard }], guard := some (26, false) }) (v := ?_) rfl (by kernel_rfl) (by kernel_rfl) (by kernel_rfl) (by kernel_rfl) (fun _ _ _ h => h) (Or.inl ⟨by rfl, ?hE43⟩) hs8 ?_
      case hE43 =>
        intro u hu
        obtain ⟨u0, u1, u2, u3, u4, u5⟩ := hu
        go_simp
        try with_reducible rfl
      simp only [Act.put, List.setIfInBounds_toArray, List.set_cons_zero, List.set_cons_succ]
      refine wpAnyE_take 30 [31, 32] (oi := { dst := some 110, op := Go.Op.load 3 (Go.Operand.tmp 109), type := 3, pos := "outright.go:41", after := #[{ on := 29, ground := Go.Ground.data }, { on := 26, ground := Go.Ground.guard }], guard := some (26, false) }) (v := ?_) rfl (by kernel_rfl) (by kernel_rfl) (by kernel_rfl) (by kernel_rfl) (fun _ _ _ h => h) (Or.inl ⟨by rfl, ?hE44⟩) hs8 ?_
      case hE44 =>
        intro u hu
        obtain ⟨u0, u1, u2, u3, u4, u5⟩ := hu
        go_simp
        try with_reducible rfl
      simp only [Act.put, List.setIfInBounds_toArray, List.set_cons_zero, List.set_cons_succ]
      refine wpAnyE_take 31 [32] (oi := { dst := some 111, op := Go.Op.binOp Go.BinOp.gtr 3 (Go.Operand.tmp 108) (Go.Operand.tmp 110) 3, type := 4, pos := "outright.go:41", after := #[{ on := 28, ground := Go.Ground.data }, { on := 30, ground := Go.Ground.data }, { on := 26, ground := Go.Ground.guard }], guard := some (26, false) }) (v := ?_) rfl (by kernel_rfl) (by kernel_rfl) (by kernel_rfl) (by kernel_rfl) (fun _ _ _ h => h) (Or.inl ⟨by rfl, ?hE45⟩) hs8 ?_
      case hE45 =>
        intro u hu
        obtain ⟨u0, u1, u2, u3, u4, u5⟩ := hu
        go_simp
        try with_reducible rfl
      simp only [Act.put, List.setIfInBounds_toArray, List.set_cons_zero, List.set_cons_succ]
      refine wpAnyE_one (i := 32) (o := { dst := some 112, op := Go.Op.pick (Go.Operand.tmp 106) (Go.Operand.const (Go.Value.bool true)) (Go.Operand.tmp 111), type := 4, pos := "outright.go:41", after := #[{ on := 26, ground := Go.Ground.data }, { on := 31, ground := Go.Ground.data }], guard := none }) (by kernel_rfl) rfl (fun K hK => ?_)
      go_simp
      refine hK _ _ (fun h => absurd rfl h) ?_
      clear hK K
      try simp only [Act.put, List.setIfInBounds_toArray, List.set_cons_zero, List.set_cons_succ]
      refine wpAnyE_done (by kernel_rfl) ?_
      obtain ⟨d4, d5, d6, e4, e5, e6⟩ := hs8
      have HM8 := hide (RdM.below HM7.out HB78.out)
      have HN8 := hide (RdM.below HN7.out HB78.out)
      have HTA8 := hide (RdX.below HTA7.out HB78.out)
      have hlt8 : Hid (sb < w8.heap.size ∧ ub < w8.heap.size) := ⟨Nat.lt_of_lt_of_le hlt7.out.1 HB78.out.size, Nat.lt_of_lt_of_le hlt7.out.2 HB78.out.size⟩
      have d0 : w8.cell? ⟨sb, 0, none⟩ = some (.int .i64 A.at_) := (HB78.out.cell (p := ⟨sb, 0, none⟩) hlt7.out.1).trans D0.out
      have d1 : w8.cell? ⟨sb, 1, none⟩ = some (.int .i64 A.ost) := (HB78.out.cell (p := ⟨sb, 1, none⟩) hlt7.out.1).trans D1.out
      have d2 : w8.cell? ⟨sb, 2, none⟩ = some (.int .i64 A.ova) := (HB78.out.cell (p := ⟨sb, 2, none⟩) hlt7.out.1).trans D2.out
      have d3 : w8.cell? ⟨sb, 3, none⟩ = some (.int .i64 A.on) := (HB78.out.cell (p := ⟨sb, 3, none⟩) hlt7.out.1).trans D3.out
      have e0 : w8.cell? ⟨ub, 0, none⟩ = some (.int .i64 B.at_) := (HB78.out.cell (p := ⟨ub, 0, none⟩) hlt7.out.2).trans E0.out
      have e1 : w8.cell? ⟨ub, 1, none⟩ = some (.int .i64 B.ost) := (HB78.out.cell (p := ⟨ub, 1, none⟩) hlt7.out.2).trans E1.out
      have e2 : w8.cell? ⟨ub, 2, none⟩ = some (.int .i64 B.ova) := (HB78.out.cell (p := ⟨ub, 2, none⟩) hlt7.out.2).trans E2.out
      have e3 : w8.cell? ⟨ub, 3, none⟩ = some (.int .i64 B.on) := (HB78.out.cell (p := ⟨ub, 3, none⟩) hlt7.out.2).trans E3.out
      clear hs7 q1 q1' q2 q2' q3 q3' q7 q8
      rcases U5.out with h | h | h | h | h
      · have hAB : A = B := (U1.out (by rw [h]; decide) (by rw [h]; decide)).symm
        subst hAB
        rw [h] at d0 e0
        replace d0 : w8.cell? ⟨sb, 0, none⟩ = some (.int .i64 1) := d0
        replace e0 : w8.cell? ⟨ub, 0, none⟩ = some (.int .i64 1) := e0
        have D8 := hide d0
        have hsame := same_any (w := w8) (s := A) (u := A) HM8.out HN8.out
        rw [decide_eq_true (Alike.refl _)] at hsame
        unfold stV at hsame
        rw [h] at hsame
        have hsame : Calls Tryd.prog 14 #[.agg #[.int .i64 1, .int .i64 A.ost, .int .i64 A.ova, .int .i64 A.on, .slice mo l1 mc, .int .i64 A.sig, .int .i64 A.steps], .agg #[.int .i64 1, .int .i64 A.ost, .int .i64 A.ova, .int .i64 A.on, .slice no l2 nc, .int .i64 A.sig, .int .i64 A.steps]] w8 _ := hsame
        clear h
        go_wp2_with fail
        (with_reducible refine Calls.mono hsame ?_)
        rintro e w9 ⟨rfl, hb9⟩
        have HB9 := hide (HB8.out.trans (hb9.mono HB8.out.size))
        have f0 : w9.cell? ⟨sb, 0, none⟩ = some (.int .i64 1) := (hb9.cell (p := ⟨sb, 0, none⟩) hlt8.out.1).trans D8.out
        have haw := awake_true w9 (HK.out.below HB9.out)
        clear hb9 hsame d0 d1 d2 d3 d4 d5 d6 e0 e1 e2 e3 e4 e5 e6
        go_wp2_with fail
        (with_reducible refine Calls.mono haw ?_)
        rintro e w10 ⟨rfl, hb10⟩
        have HB10 := hide (HB9.out.trans (hb10.mono HB9.out.size))
        clear hb10 haw
        go_wp2
        go_ret
        exact ⟨rfl, HB10.out⟩
      · have hno := U3.out h
        rw [h] at d0
        replace d0 : w8.cell? ⟨sb, 0, none⟩ = some (.int .i64 2) := d0
        have D8 := hide d0
        have D83 := hide d3
        have HNO := hide hno
        clear hno
        go_wp2_with fail
        clear d0 d1 d2 d3 d4 d5 d6 e0 e1 e2 e3 e4 e5 e6
        go_loopw [137] (fun ix wr => ∃ j : Nat, j ≤ a ∧ ix = .int .i64 j ∧ Hid (Below w8.heap.size w8 wr)) (fun ix _ => a - (intOf ix).toNat)
        case atStart => exact ⟨0, Nat.zero_le _, rfl, Below.refl _ _⟩
        case round =>
          obtain ⟨j, hj, rfl, HBi⟩ := hrel
          by_cases hja : j < a
          · have hjI : (j : Int) < (a : Int) := by omega
            have hjl : j < (T.take a).length := by rw [List.length_take, ← HTL.out]; omega
            obtain ⟨g, goff, hgo, hgl, c0, c1, c2⟩ := RdK.at (RdX.below HTA8.out HBi.out) j hjl
            subst hgo
            have hne := knOf_none HNO.out j hjl
            obtain ⟨y, HY⟩ := named ((T.take a)[j]'hjl)
            rw [← HY.out] at c0 c1 c2 hne
            obtain ⟨yn, ys, yv⟩ := y
            simp only at c0 c1 c2 hne
            have hnb : (yn == A.on) = false := beq_eq_false_iff_ne.2 hne
            have f3 : (wr.alloc (.cells #[.int .i64 yn, .int .i64 ys, .int .i64 yv] 47)).cell? ⟨sb, 3, none⟩ = some (.int .i64 A.on) := (((HBi.out.alloc HBi.out.size (.cells #[.int .i64 yn, .int .i64 ys, .int .i64 yv] 47)).cell (p := ⟨sb, 3, none⟩) hlt8.out.1)).trans D83.out
            have HBn : Hid (Below w8.heap.size w8 (wr.alloc (.cells #[.int .i64 yn, .int .i64 ys, .int .i64 yv] 47))) := HBi.out.alloc HBi.out.size _
            go_wp2_with fail
            go_roundw
            case rel => exact ⟨j + 1, hja, by go_num, HBn.out⟩
            case measure => simp [intOf]; omega
          · have hjI : ¬ (j : Int) < (a : Int) := by omega
            have HB9 := hide (HB8.out.trans (HBi.out.mono HB8.out.size))
            have f0 : wr.cell? ⟨sb, 0, none⟩ = some (.int .i64 2) := (HBi.out.cell (p := ⟨sb, 0, none⟩) hlt8.out.1).trans D8.out
            have haw := awake_true wr (HK.out.below HB9.out)
            go_wp2_with fail
            (with_reducible refine Calls.mono haw ?_)
            rintro e w10 ⟨rfl, hb10⟩
            have HB10 := hide (HB9.out.trans (hb10.mono HB9.out.size))
            clear hb10 haw
            go_wp2
            go_ret
            exact ⟨rfl, HB10.out⟩
      · have hsg := U4.out h
        rw [h] at d0
        replace d0 : w8.cell? ⟨sb, 0, none⟩ = some (.int .i64 3) := d0
        have hsb : ((A.sig : Int) == (b : Int)) = true := by rw [hsg]; simp
        have hsi : (A.sig : Int) = (b : Int) := by rw [hsg]
        have haw := awake_true w8 (HK.out.below HB8.out)
        clear hsg h
        go_wp2_with fail
        (with_reducible refine Calls.mono haw ?_)
        rintro e w10 ⟨rfl, hb10⟩
        have HB10 := hide (HB8.out.trans (hb10.mono HB8.out.size))
        clear hb10 haw
        go_wp2
        go_ret
        exact ⟨rfl, HB10.out⟩
      · have hAB : A = B := (U1.out (by rw [h]; decide) (by rw [h]; decide)).symm
        subst hAB
        rw [h] at d0 e0
        replace d0 : w8.cell? ⟨sb, 0, none⟩ = some (.int .i64 4) := d0
        replace e0 : w8.cell? ⟨ub, 0, none⟩ = some (.int .i64 4) := e0
        have D8 := hide d0
        have hsame := same_any (w := w8) (s := A) (u := A) HM8.out HN8.out
        rw [decide_eq_true (Alike.refl _)] at hsame
        unfold stV at hsame
        rw [h] at hsame
        have hsame : Calls Tryd.prog 14 #[.agg #[.int .i64 4, .int .i64 A.ost, .int .i64 A.ova, .int .i64 A.on, .slice mo l1 mc, .int .i64 A.sig, .int .i64 A.steps], .agg #[.int .i64 4, .int .i64 A.ost, .int .i64 A.ova, .int .i64 A.on, .slice no l2 nc, .int .i64 A.sig, .int .i64 A.steps]] w8 _ := hsame
        clear h
        go_wp2_with fail
        (with_reducible refine Calls.mono hsame ?_)
        rintro e w9 ⟨rfl, hb9⟩
        have HB9 := hide (HB8.out.trans (hb9.mono HB8.out.size))
        have f0 : w9.cell? ⟨sb, 0, none⟩ = some (.int .i64 4) := (hb9.cell (p := ⟨sb, 0, none⟩) hlt8.out.1).trans D8.out
        have haw := awake_true w9 (HK.out.below HB9.out)
        clear hb9 hsame d0 d1 d2 d3 d4 d5 d6 e0 e1 e2 e3 e4 e5 e6
        go_wp2_with fail
        (with_reducible refine Calls.mono haw ?_)
        rintro e w10 ⟨rfl, hb10⟩
        have HB10 := hide (HB9.out.trans (hb10.mono HB9.out.size))
        clear hb10 haw
        go_wp2
        go_ret
        exact ⟨rfl, HB10.out⟩
      · have hAB : A = B := (U1.out (by rw [h]; decide) (by rw [h]; decide)).symm
        subst hAB
        rw [h] at d0 e0
        replace d0 : w8.cell? ⟨sb, 0, none⟩ = some (.int .i64 5) := d0
        replace e0 : w8.cell? ⟨ub, 0, none⟩ = some (.int .i64 5) := e0
        have D8 := hide d0
        have hsame := same_any (w := w8) (s := A) (u := A) HM8.out HN8.out
        rw [decide_eq_true (Alike.refl _)] at hsame
        unfold stV at hsame
        rw [h] at hsame
        have hsame : Calls Tryd.prog 14 #[.agg #[.int .i64 5, .int .i64 A.ost, .int .i64 A.ova, .int .i64 A.on, .slice mo l1 mc, .int .i64 A.sig, .int .i64 A.steps], .agg #[.int .i64 5, .int .i64 A.ost, .int .i64 A.ova, .int .i64 A.on, .slice no l2 nc, .int .i64 A.sig, .int .i64 A.steps]] w8 _ := hsame
        clear h
        go_wp2_with fail
        (with_reducible refine Calls.mono hsame ?_)
        rintro e w9 ⟨rfl, hb9⟩
        have HB9 := hide (HB8.out.trans (hb9.mono HB8.out.size))
        have f0 : w9.cell? ⟨sb, 0, none⟩ = some (.int .i64 5) := (hb9.cell (p := ⟨sb, 0, none⟩) hlt8.out.1).trans D8.out
        have haw := awake_true w9 (HK.out.below HB9.out)
        clear hb9 hsame d0 d1 d2 d3 d4 d5 d6 e0 e1 e2 e3 e4 e5 e6
        go_wp2_with fail
        (with_reducible refine Calls.mono haw ?_)
        rintro e w10 ⟨rfl, hb10⟩
        have HB10 := hide (HB9.out.trans (hb10.mono HB9.out.size))
        clear hb10 haw
        go_wp2
        go_ret
        exact ⟨rfl, HB10.out⟩
    · have k1 : R1 = (noS, 100) := HR1.out.trans (runR_bad p arg _ _ _ hok)
      have k2 : R2 = (noS, 100) := HR2.out.trans (runR_bad p arg _ _ _ hok)
      subst k1 k2
      have haw := awake_true W7 (HK.out.below HB7.out)
      clear d0 d1 d2 d3 d4 d5 d6 e0 e1 e2 e3 e4 e5 e6
      go_wp2_with fail
      rw [← HW7.out]
      (with_reducible refine Calls.mono haw ?_)
      rintro e w9 ⟨rfl, hb9⟩
      have HB9 := hide (HB7.out.trans (hb9.mono HB7.out.size))
      clear hb9 haw
      go_wp2
      go_ret
      exact ⟨rfl, HB9.out⟩
end Go.Proofs.YtlngeonfabahnaaDoor
