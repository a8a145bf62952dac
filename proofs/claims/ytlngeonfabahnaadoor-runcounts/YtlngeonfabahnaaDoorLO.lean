/-
  The walk of RunOrder. Own work.
-/
import Derived.Test.YtlngeonfabahnaaDoorLF
import Derived.Test.YtlngeonfabahnaaDoorLt
namespace Go.Proofs.YtlngeonfabahnaaDoor
open Go Go.RowKit
set_option linter.unusedSimpArgs false
set_option linter.unusedVariables false

theorem addT_nodup (out : List (Int × Oc)) (x : Int × Oc) (h : (out.map (·.1)).Nodup) : ((addT out x).map (·.1)).Nodup := by
  unfold addT
  by_cases ha : anyT out x = true
  · rw [if_pos ha]; exact h
  · rw [if_neg ha, List.map_append, List.nodup_append]
    refine ⟨h, by simp, ?_⟩
    intro a h1 b hb e
    simp at hb
    subst hb
    subst e
    obtain ⟨y, hy, e⟩ := List.mem_map.1 h1
    exact ha (List.any_eq_true.2 ⟨y, hy, by simpa using e⟩)
theorem told_nodup (l : List (Int × Oc)) : ((toldP l).map (·.1)).Nodup := by
  unfold toldP
  have : ∀ (m out : List (Int × Oc)), (out.map (·.1)).Nodup → ((m.foldl addT out).map (·.1)).Nodup := fun m => by
    induction m with
    | nil => exact fun out h => h
    | cons x t ih => exact fun out h => ih _ (addT_nodup _ _ h)
  exact this _ [] (by simp)
theorem find_mem {l : List (Int × Oc)} {n : Int} {x : Int × Oc} (h : l.find? (fun k => k.1 == n) = some x) : n ∈ l.map (·.1) := by
  have h1 := List.find?_some h
  have h2 := List.mem_of_find?_eq_some h
  have e : x.1 = n := by simpa using h1
  exact List.mem_map.2 ⟨x, h2, e⟩
theorem knOf_swap (a b : List (Int × Oc)) (h : ((a ++ b).map (·.1)).Nodup) (n : Int) : knOf (b ++ a) n = knOf (a ++ b) n := by
  unfold knOf
  rw [List.find?_append, List.find?_append]
  rw [List.map_append, List.nodup_append] at h
  cases ha : a.find? (fun k => k.1 == n) with
  | none => cases b.find? (fun k => k.1 == n) <;> rfl
  | some x =>
    cases hb : b.find? (fun k => k.1 == n) with
    | none => rfl
    | some y => exact absurd rfl (h.2.2 _ (find_mem ha) _ (find_mem hb))
def lit3 : List (Int × Oc) := [(201, (0, 5)), (0, (0, 0)), (-1, (0, 0))]
theorem knOf_turned (T : List (Int × Oc)) (k : Nat) (h : (T.map (·.1)).Nodup) (n : Int) (h0 : 1 ≤ n) (h1 : n ≤ 200) : knOf T n = knOf (lit3 ++ T.drop k ++ T.take k) n := by
  have e : knOf (lit3 ++ T.drop k ++ T.take k) n = knOf (T.drop k ++ T.take k) n := by
    unfold knOf
    rw [List.append_assoc, List.find?_append]
    have : lit3.find? (fun k => k.1 == n) = none := by
      rw [List.find?_eq_none]
      intro x hx
      simp only [lit3, List.mem_cons, List.not_mem_nil, or_false] at hx
      rcases hx with rfl | rfl | rfl <;> simp <;> omega
    rw [this]
    rfl
  rw [e, knOf_swap (T.take k) (T.drop k) (by rw [List.take_append_drop]; exact h), List.take_append_drop]
theorem runR_order (p : Prg) (arg : Int) (l l' : List (Int × Oc)) (sg : List Int) (fuel : Int) (h : ∀ n, 1 ≤ n → n ≤ 200 → knOf l n = knOf l' n) : runR p arg l sg fuel = runR p arg l' sg fuel := by
  unfold runR runP
  rw [it_order (knOf l) (knOf l') sg p.code h _ (st0 arg) (by show 0 ≤ 200; omega)]
/-- the rest of a row -/
theorem RdK.cut {w : World} {g n cap : Nat} {l : List (Int × Oc)} (h : RdK w (.slice (some ⟨g, 0, none⟩) n cap) l) (p : Nat) : RdK w (.slice (if cap = p then some ⟨g, 0, none⟩ else some ⟨g, p * 3, none⟩) (n - p) (cap - p)) (l.drop p) := by
  obtain ⟨ao, c, hv, h1, h2, h3, h4⟩ := h
  cases hv
  have hlen : ((l.drop p).map knC).length = (l.map knC).length - p := by simp
  refine ⟨_, _, by rw [hlen], by omega, by omega, fun e => ?_, fun j hj => ?_⟩
  · split at e <;> cases e
  · rw [hlen] at hj
    obtain ⟨b', off', e, c0⟩ := h4 (p + j) (by omega)
    cases e
    rw [if_neg (by omega)]
    refine ⟨g, p * 3, rfl, fun i u hu => ?_⟩
    rw [show p * 3 + j * 3 + i = 0 + (p + j) * 3 + i by omega]
    exact c0 i u (by rw [List.getElem_map] at hu ⊢; rw [List.getElem_drop] at hu; exact hu)

set_option maxRecDepth 100000 in
set_option maxHeartbeats 6400000 in
theorem order_walk (w : World) (hk : Kinds w) (p : Prg) (cv : Value) (hc : RdC w cv p.code) (hw : ∀ i ∈ p.code, i.wf) (arg : Int) (kv sv : Value) (fu : Int) (l : List (Int × Oc)) (sg : List Int) (hl : RdK w kv l) (hsv : RdN w sv sg) (turn : Int) :
    Calls Tryd.prog 6 #[.agg #[.string p.name, .int .i64 p.regs, cv], .agg #[.int .i64 arg, kv, sv, .int .i64 fu], .int .i64 turn] w fun e w' => e = .returned (.bool true) ∧ Below w.heap.size w w' := by
  have HK := hide hk
  obtain ⟨ao, cap, hcv, -⟩ := hc.shape
  obtain ⟨ko, kc, hkv, -⟩ := hl.shape
  obtain ⟨so, sc, hsvv, -⟩ := hsv.shape
  obtain ⟨L, HL⟩ := named p.code.length
  obtain ⟨kl, HKL⟩ := named l.length
  obtain ⟨sl, HSL⟩ := named sg.length
  rw [← HL.out] at hcv
  rw [← HKL.out] at hkv
  rw [← HSL.out] at hsvv
  subst hcv hkv hsvv
  obtain ⟨pb, HPB⟩ := named w.heap.size
  obtain ⟨W1, HW1⟩ := named ((w.alloc (.cells #[.string p.name, .int .i64 p.regs, .slice ao L cap] 24)).alloc (.cells #[.int .i64 arg, .slice ko kl kc, .slice so sl sc, .int .i64 fu] 28))
  have hb1 : Below w.heap.size w W1 := by rw [HW1.out]; exact ((Below.refl _ _).alloc (Nat.le_refl _) _).alloc (by simp) _
  have xp : RC 3 W1 pb (fun k => ([.string p.name, .int .i64 p.regs, .slice ao L cap] : List Value).getD k undef) := by
    rw [HW1.out, HPB.out]
    refine (RC.new w _ 24 _ (fun k hk => ?_)).alloc _
    rcases (show k = 0 ∨ k = 1 ∨ k = 2 by omega) with rfl | rfl | rfl <;> rfl
  have hz : (w.alloc (.cells #[.string p.name, .int .i64 p.regs, .slice ao L cap] 24)).heap.size = pb + 1 := by rw [HPB.out]; simp
  have xg : RC 4 W1 (pb + 1) (fun k => ([.int .i64 arg, .slice ko kl kc, .slice so sl sc, .int .i64 fu] : List Value).getD k undef) := by
    rw [HW1.out, ← hz]
    refine RC.new _ _ 28 _ (fun k hk => ?_)
    rcases (show k = 0 ∨ k = 1 ∨ k = 2 ∨ k = 3 by omega) with rfl | rfl | rfl | rfl <;> rfl
  have hzW : W1.heap.size = pb + 2 := by rw [HW1.out, HPB.out]; simp
  have HB1 := hide hb1
  have HXP := hide xp
  have HXG := hide xg
  have HC := hide hc
  have HL0 := hide hl
  have HS0 := hide hsv
  have HWF := hide hw
  have hgr := great_any p (.slice ao L cap) W1 (hc.below hb1)
  have hgr : Calls Tryd.prog 10 #[.agg #[.string p.name, .int .i64 p.regs, .slice ao L cap]] W1 _ := hgr
  have p0 := xp.2.1 0 (by omega)
  have p1 := xp.2.1 1 (by omega)
  have p2 := xp.2.1 2 (by omega)
  clear hk hc hw hl hsv hb1 xp xg hz
  go_enter Tryd.func6, Tryd.ntmps6
  go_wp2_with fail
  rw [← HW1.out]
  (with_reducible refine Calls.mono hgr ?_)
  rintro e w2 ⟨v, rfl, ⟨g, rfl, hg⟩, hb2⟩
  have HB2 := hide (HB1.out.trans (hb2.mono (by rw [hzW, ← HPB.out]; omega)))
  cases g with
  | true =>
    go_wp2_with fail
    (with_reducible refine Calls.mono (awake_true w2 (HK.out.below HB2.out)) ?_)
    rintro e w9 ⟨rfl, hb9⟩
    have HB9 := hide (below_call HB2.out hb9)
    clear hb9
    go_wp2
    go_ret
    exact ⟨rfl, HB9.out⟩
  | false =>
    have HP2 := hide (HXP.out.below hb2)
    have HG2 := hide (HXG.out.below hb2)
    have hzw2 : pb + 2 ≤ w2.heap.size := by have := hb2.size; omega
    have HZ2 := hide hzw2
    have htd := told_any (.slice ko kl kc) l w2 (RdX.below HL0.out HB2.out)
    have g1 : w2.cell? ⟨pb + 1, 1, none⟩ = some (.slice ko kl kc) := HG2.out.2.1 1 (by omega)
    obtain ⟨T, HT⟩ := named (toldP l)
    rw [← HT.out] at htd
    have hTl : T.length ≤ 300 := by rw [HT.out]; exact told_len l
    have HND : Hid ((T.map (·.1)).Nodup) := by show List.Nodup _; rw [HT.out]; exact told_nodup l
    clear hb2 hg hzw2
    rw [HPB.out] at g1
    go_wp2_with fail
    rw [← HPB.out]
    (with_reducible refine Calls.mono htd ?_)
    rintro e w3 ⟨tv, rfl, ho3, hb3⟩
    rw [← HPB.out] at g1
    have HO3 := hide ho3
    have HG3 := hide (HG2.out.below hb3)
    have HP3 := hide (HP2.out.below hb3)
    have hsz3 := hb3.size
    have HB3 := hide (HB2.out.trans (hb3.mono HB2.out.size))
    obtain ⟨W4, HW4⟩ := named ((w3.setCell ⟨pb + 1, 1, none⟩ tv).setCell ⟨pb + 1, 3, none⟩ (.int .i64 2000))
    have g4 := (HG3.out.set 1 (by omega) tv).set 3 (by omega) (.int .i64 2000)
    rw [← HW4.out] at g4
    have p4 := (HP3.out.other (g := pb + 1) (o := 1) (by omega) tv).other (g := pb + 1) (o := 3) (by omega) (.int .i64 2000)
    rw [← HW4.out] at p4
    have HB4 : Hid (Below w.heap.size w W4) := by
      show Below _ _ _
      rw [HW4.out]
      exact (HB3.out.setCell (p := ⟨pb + 1, 1, none⟩) (by show w.heap.size ≤ pb + 1; rw [HPB.out]; omega) _).setCell (p := ⟨pb + 1, 3, none⟩) (by show w.heap.size ≤ pb + 1; rw [HPB.out]; omega) _
    have hZ4 : W4.heap.size = w3.heap.size := by rw [HW4.out]; simp [World.setCell]
    have hT4 : RdK W4 tv T := by
      rw [HW4.out]
      exact (OwnX.heap (w' := ((w3.setCell ⟨pb + 1, 1, none⟩ tv).setCell ⟨pb + 1, 3, none⟩ (.int .i64 2000))) HO3.out fun a ha => (Below.heap_setCell _ _ _ _ (by have h1 := (OwnX.lt HO3.out a ha).1; have h2 := HZ2.out; show a ≠ pb + 1; omega)).trans (Below.heap_setCell _ _ _ _ (by have h1 := (OwnX.lt HO3.out a ha).1; have h2 := HZ2.out; show a ≠ pb + 1; omega))).rd
    have a1 : w3.cell? ⟨pb + 1, 1, none⟩ = some (.slice ko kl kc) := HG3.out.2.1 1 (by omega)
    have a1f : w3.frozen? ⟨pb + 1, 1, none⟩ = false := HG3.out.2.2 1
    have a3 : (w3.setCell ⟨pb + 1, 1, none⟩ tv).cell? ⟨pb + 1, 3, none⟩ = some (.int .i64 fu) := (HG3.out.set 1 (by omega) tv).2.1 3 (by omega)
    have a3f : (w3.setCell ⟨pb + 1, 1, none⟩ tv).frozen? ⟨pb + 1, 3, none⟩ = false := (HG3.out.set 1 (by omega) tv).2.2 3
    have b0 : W4.cell? ⟨pb, 0, none⟩ = some (.string p.name) := p4.2.1 0 (by omega)
    have b1 : W4.cell? ⟨pb, 1, none⟩ = some (.int .i64 p.regs) := p4.2.1 1 (by omega)
    have b2 : W4.cell? ⟨pb, 2, none⟩ = some (.slice ao L cap) := p4.2.1 2 (by omega)
    have c0 : W4.cell? ⟨pb + 1, 0, none⟩ = some (.int .i64 arg) := g4.2.1 0 (by omega)
    have c1 : W4.cell? ⟨pb + 1, 1, none⟩ = some tv := g4.2.1 1 (by omega)
    have c2 : W4.cell? ⟨pb + 1, 2, none⟩ = some (.slice so sl sc) := g4.2.1 2 (by omega)
    have c3 : W4.cell? ⟨pb + 1, 3, none⟩ = some (.int .i64 2000) := g4.2.1 3 (by omega)
    rw [HW4.out] at b0 b1 b2 c0 c1 c2 c3
    have hof : ∀ (tv : Value) (T : List (Int × Oc)) (wz : World), Below w.heap.size w wz → RdK wz tv T → Calls Tryd.prog 12 #[.agg #[.string p.name, .int .i64 p.regs, .slice ao L cap], .agg #[.int .i64 arg, tv, .slice so sl sc, .int .i64 2000]] wz fun e w' => ∃ vc, e = .returned (.tuple #[stV (runR p arg (T.take 300) (sg.take 300) 2000).1 vc, .int .i64 (runR p arg (T.take 300) (sg.take 300) 2000).2]) ∧ OwnM w' wz.heap.size vc (runR p arg (T.take 300) (sg.take 300) 2000).1.cmds ∧ Below wz.heap.size wz w' := fun tv T wz hb ht => of_any p (.slice ao L cap) arg tv T (.slice so sl sc) sg 2000 wz (HK.out.below hb) (HC.out.below hb) HWF.out ht (RdX.below HS0.out hb)
    have HOF := hide hof
    have h1 := HOF.out tv T W4 HB4.out hT4
    have HG4 := hide g4
    have HP4 := hide p4
    have HT4 := hide hT4
    obtain ⟨R1, HR1⟩ := named (runR p arg (T.take 300) (sg.take 300) 2000)
    rw [← HR1.out] at h1
    obtain ⟨to, tcap, htv, htc1, htc2⟩ := RdK.shape hT4
    obtain ⟨tl, HTL⟩ := named T.length
    rw [← HTL.out] at hTl htv htc1
    clear hof g4 p4 hT4 htd hb3 ho3 g1
    subst htv
    go_wp2_with fail
    rw [← HW4.out]
    (with_reducible refine Calls.mono h1 ?_)
    rintro e w5 ⟨v5, rfl, hm5, hb5⟩
    clear a1 a1f a3 a3f b0 b1 b2 c0 c1 c2 c3 h1
    obtain ⟨mo, mc, hv5, -⟩ := RdM.shape (l := R1.1.cmds) hm5.rd
    subst hv5
    rw [show stV R1.1 (.slice mo R1.1.cmds.length mc) = .agg #[.int .i64 R1.1.at_, .int .i64 R1.1.ost, .int .i64 R1.1.ova, .int .i64 R1.1.on, .slice mo R1.1.cmds.length mc, .int .i64 R1.1.sig, .int .i64 R1.1.steps] from rfl]
    obtain ⟨l1, HL1⟩ := named R1.1.cmds.length
    rw [← HL1.out] at hm5 ⊢
    obtain ⟨sb, HSB⟩ := named w5.heap.size
    obtain ⟨W5, HW5⟩ := named (w5.alloc (.cells #[.int .i64 R1.1.at_, .int .i64 R1.1.ost, .int .i64 R1.1.ova, .int .i64 R1.1.on, .slice mo l1 mc, .int .i64 R1.1.sig, .int .i64 R1.1.steps] 35))
    have x5 : RC 7 W5 sb (fun k => ([.int .i64 R1.1.at_, .int .i64 R1.1.ost, .int .i64 R1.1.ova, .int .i64 R1.1.on, .slice mo l1 mc, .int .i64 R1.1.sig, .int .i64 R1.1.steps] : List Value).getD k undef) := by
      rw [HW5.out, HSB.out]
      refine RC.new w5 _ 35 _ (fun k hk => ?_)
      rcases (show k = 0 ∨ k = 1 ∨ k = 2 ∨ k = 3 ∨ k = 4 ∨ k = 5 ∨ k = 6 by omega) with rfl | rfl | rfl | rfl | rfl | rfl | rfl <;> rfl
    have hb45 : Below W4.heap.size W4 W5 := by rw [HW5.out]; exact hb5.alloc hb5.size _
    have HB5 := hide (HB4.out.trans (hb45.mono HB4.out.size))
    have HG5 := hide (HG4.out.below hb45)
    have HP5 := hide (HP4.out.below hb45)
    have HT5 := hide (HT4.out.below hb45)
    have HM5 : Hid (OwnM W5 W4.heap.size (.slice mo l1 mc) R1.1.cmds) := by show OwnM _ _ _ _; rw [HW5.out]; exact OwnX.alloc hm5 _
    have hw4s : pb + 1 < W4.heap.size := by have := HZ2.out; omega
    have HX5 := hide x5
    have hsz5 := hb45.size
    have hlt5 : Hid (sb < W5.heap.size) := x5.1
    have hpbs : Hid (pb + 1 < sb) := by show _ < _; rw [HSB.out]; have := HG4.out.1; have := hb5.size; omega
    have e1 : W5.cell? ⟨pb + 1, 1, none⟩ = some (.slice to tl tcap) := HG5.out.2.1 1 (by omega)
    rw [HW5.out] at e1
    obtain ⟨k, HK0⟩ := named (turn % ((tl + 1 : Nat) : Int)).toNat
    have hkl : k ≤ tl := by rw [HK0.out]; have h1 := Int.emod_nonneg turn (show ((tl + 1 : Nat) : Int) ≠ 0 by omega); have h2 := Int.emod_lt_of_pos turn (show (0 : Int) < ((tl + 1 : Nat) : Int) by omega); omega
    have hpk := pick_any turn (tl + 1) W5 (by omega) (by omega)
    rw [← HK0.out] at hpk
    have hcast : ((tl + 1 : Nat) : Int) = (tl : Int) + 1 := by omega
    rw [hcast] at hpk
    have hwr : IntKind.i64.wrap ((tl : Int) + 1) = (tl : Int) + 1 := wrap_in _ (by omega) (by omega)
    have hz5f : W5.heap.size = sb + 1 := by rw [HW5.out, HSB.out]; simp
    clear hb5 hm5 x5 hb45
    go_wp2_with fail
    rw [← HW5.out]
    (with_reducible refine Calls.mono hpk ?_)
    rintro e w6 ⟨rfl, hw6⟩
    have hw6 := hw6.symm
    subst hw6
    clear e1 hpk
    rcases HO3.out.2.2 with ⟨e, h0⟩ | ⟨tg, tc, cur, e, -⟩
    · obtain ⟨rfl, rfl, rfl⟩ : to = none ∧ tl = 0 ∧ tcap = 0 := by cases e; exact ⟨rfl, rfl, rfl⟩
      obtain rfl : k = 0 := by omega
      have HT0 : Hid (T = []) := List.eq_nil_of_length_eq_zero (by have := HTL.out; omega)
      clear e h0
      have hs5 : W5.drew.cell? ⟨pb + 1, 1, none⟩ = some (.slice none 0 0) := HG5.out.2.1 1 (by omega)
      go_wp2_with fail
      refine wp_region_E 16 (fun w' => w'.cell? ⟨pb + 1, 1, none⟩ = some (.slice none 0 0)) (by kernel_rfl) ?_
      refine wpAnyE_take 0 [16] (oi := { dst := some 32, op := Go.Op.build 32 #[(1, Go.Operand.const (Go.Value.int Go.IntKind.i64 5))], type := 32, pos := "outright.go:87", after := #[], guard := none }) (v := ?_) rfl (by kernel_rfl) (by kernel_rfl) (by kernel_rfl) (by kernel_rfl) (fun _ _ _ h => h) (Or.inl ⟨by rfl, ?hZ1⟩) hs5 ?_
      case hZ1 =>
        intro u hu
        obtain u0 := hu
        go_simp
        try with_reducible rfl
      simp only [Act.put, List.setIfInBounds_toArray, List.set_cons_zero, List.set_cons_succ]
      refine wpAnyE_take 1 [16] (oi := { dst := some 33, op := Go.Op.build 47 #[(0, Go.Operand.const (Go.Value.int Go.IntKind.i64 201)), (1, Go.Operand.tmp 32)], type := 47, pos := "outright.go:87", after := #[{ on := 0, ground := Go.Ground.data }], guard := none }) (v := ?_) rfl (by kernel_rfl) (by kernel_rfl) (by kernel_rfl) (by kernel_rfl) (fun _ _ _ h => h) (Or.inl ⟨by rfl, ?hZ2⟩) hs5 ?_
      case hZ2 =>
        intro u hu
        obtain u0 := hu
        go_simp
        try with_reducible rfl
      simp only [Act.put, List.setIfInBounds_toArray, List.set_cons_zero, List.set_cons_succ]
      refine wpAnyE_take 2 [16] (oi := { dst := some 34, op := Go.Op.build 47 #[(0, Go.Operand.const (Go.Value.int Go.IntKind.i64 0))], type := 47, pos := "outright.go:87", after := #[], guard := none }) (v := ?_) rfl (by kernel_rfl) (by kernel_rfl) (by kernel_rfl) (by kernel_rfl) (fun _ _ _ h => h) (Or.inl ⟨by rfl, ?hZ3⟩) hs5 ?_
      case hZ3 =>
        intro u hu
        obtain u0 := hu
        go_simp
        try with_reducible rfl
      simp only [Act.put, List.setIfInBounds_toArray, List.set_cons_zero, List.set_cons_succ]
      refine wpAnyE_take 3 [16] (oi := { dst := some 35, op := Go.Op.build 47 #[(0, Go.Operand.const (Go.Value.int Go.IntKind.i64 (-1)))], type := 47, pos := "outright.go:87", after := #[], guard := none }) (v := ?_) rfl (by kernel_rfl) (by kernel_rfl) (by kernel_rfl) (by kernel_rfl) (fun _ _ _ h => h) (Or.inl ⟨by rfl, ?hZ4⟩) hs5 ?_
      case hZ4 =>
        intro u hu
        obtain u0 := hu
        go_simp
        try with_reducible rfl
      simp only [Act.put, List.setIfInBounds_toArray, List.set_cons_zero, List.set_cons_succ]
      refine wpAnyE_take 5 [16] (oi := { dst := some 37, op := Go.Op.fieldAddr 28 (Go.Operand.tmp 4) 1, type := 0, pos := "outright.go:87", after := #[], guard := none }) (v := ?_) rfl (by kernel_rfl) (by kernel_rfl) (by kernel_rfl) (by kernel_rfl) (fun _ _ _ h => h) (Or.inl ⟨by rfl, ?hZ5⟩) hs5 ?_
      case hZ5 =>
        intro u hu
        obtain u0 := hu
        go_simp
        try with_reducible rfl
      simp only [Act.put, List.setIfInBounds_toArray, List.set_cons_zero, List.set_cons_succ]
      refine wpAnyE_take 6 [16] (oi := { dst := some 38, op := Go.Op.load 25 (Go.Operand.tmp 37), type := 25, pos := "outright.go:87", after := #[{ on := 5, ground := Go.Ground.data }], guard := none }) (v := ?_) rfl (by kernel_rfl) (by kernel_rfl) (by kernel_rfl) (by kernel_rfl) (fun _ _ _ h => h) (Or.inl ⟨by rfl, ?hZ6⟩) hs5 ?_
      case hZ6 =>
        intro u hu
        obtain u0 := hu
        go_simp
        try with_reducible rfl
      simp only [Act.put, List.setIfInBounds_toArray, List.set_cons_zero, List.set_cons_succ]
      refine wpAnyE_take 7 [16] (oi := { dst := some 39, op := Go.Op.move (Go.Operand.tmp 9), type := 3, pos := "outright.go:87", after := #[], guard := none }) (v := ?_) rfl (by kernel_rfl) (by kernel_rfl) (by kernel_rfl) (by kernel_rfl) (fun _ _ _ h => h) (Or.inl ⟨by rfl, ?hZ7⟩) hs5 ?_
      case hZ7 =>
        intro u hu
        obtain u0 := hu
        go_simp
        try with_reducible rfl
      simp only [Act.put, List.setIfInBounds_toArray, List.set_cons_zero, List.set_cons_succ]
      refine wpAnyE_take 8 [16] (oi := { dst := some 40, op := Go.Op.slice 25 (Go.Operand.tmp 38) (some (Go.Operand.tmp 39)) none none, type := 25, pos := "outright.go:87", after := #[{ on := 6, ground := Go.Ground.data }, { on := 7, ground := Go.Ground.data }], guard := none }) (v := ?_) rfl (by kernel_rfl) (by kernel_rfl) (by kernel_rfl) (by kernel_rfl) (fun _ _ _ h => h) (Or.inl ⟨by rfl, ?hZ8⟩) hs5 ?_
      case hZ8 =>
        intro u hu
        obtain u0 := hu
        go_simp
        try with_reducible rfl
      simp only [Act.put, List.setIfInBounds_toArray, List.set_cons_zero, List.set_cons_succ]
      refine wpAnyE_take 10 [16] (oi := { dst := some 42, op := Go.Op.fieldAddr 28 (Go.Operand.tmp 4) 1, type := 0, pos := "outright.go:87", after := #[], guard := none }) (v := ?_) rfl (by kernel_rfl) (by kernel_rfl) (by kernel_rfl) (by kernel_rfl) (fun _ _ _ h => h) (Or.inl ⟨by rfl, ?hZ9⟩) hs5 ?_
      case hZ9 =>
        intro u hu
        obtain u0 := hu
        go_simp
        try with_reducible rfl
      simp only [Act.put, List.setIfInBounds_toArray, List.set_cons_zero, List.set_cons_succ]
      refine wpAnyE_take 11 [16] (oi := { dst := some 43, op := Go.Op.load 25 (Go.Operand.tmp 42), type := 25, pos := "outright.go:87", after := #[{ on := 10, ground := Go.Ground.data }], guard := none }) (v := ?_) rfl (by kernel_rfl) (by kernel_rfl) (by kernel_rfl) (by kernel_rfl) (fun _ _ _ h => h) (Or.inl ⟨by rfl, ?hZ10⟩) hs5 ?_
      case hZ10 =>
        intro u hu
        obtain u0 := hu
        go_simp
        try with_reducible rfl
      simp only [Act.put, List.setIfInBounds_toArray, List.set_cons_zero, List.set_cons_succ]
      refine wpAnyE_take 12 [16] (oi := { dst := some 44, op := Go.Op.move (Go.Operand.tmp 9), type := 3, pos := "outright.go:87", after := #[], guard := none }) (v := ?_) rfl (by kernel_rfl) (by kernel_rfl) (by kernel_rfl) (by kernel_rfl) (fun _ _ _ h => h) (Or.inl ⟨by rfl, ?hZ11⟩) hs5 ?_
      case hZ11 =>
        intro u hu
        obtain u0 := hu
        go_simp
        try with_reducible rfl
      simp only [Act.put, List.setIfInBounds_toArray, List.set_cons_zero, List.set_cons_succ]
      refine wpAnyE_take 13 [16] (oi := { dst := some 45, op := Go.Op.slice 25 (Go.Operand.tmp 43) none (some (Go.Operand.tmp 44)) none, type := 25, pos := "outright.go:87", after := #[{ on := 11, ground := Go.Ground.data }, { on := 12, ground := Go.Ground.data }], guard := none }) (v := ?_) rfl (by kernel_rfl) (by kernel_rfl) (by kernel_rfl) (by kernel_rfl) (fun _ _ _ h => h) (Or.inl ⟨by rfl, ?hZ12⟩) hs5 ?_
      case hZ12 =>
        intro u hu
        obtain u0 := hu
        go_simp
        try with_reducible rfl
      simp only [Act.put, List.setIfInBounds_toArray, List.set_cons_zero, List.set_cons_succ]
      refine wpAnyE_one (i := 4) (o := { dst := some 36, op := Go.Op.buildSlice 25 3 #[(0, Go.Operand.tmp 33), (1, Go.Operand.tmp 34), (2, Go.Operand.tmp 35)], type := 25, pos := "outright.go:87", after := #[{ on := 1, ground := Go.Ground.data }, { on := 2, ground := Go.Ground.data }, { on := 3, ground := Go.Ground.data }], guard := none }) (by kernel_rfl) rfl (fun K hK => ?_)
      go_simp
      obtain ⟨w7, HW7⟩ := named (W5.drew.alloc (.cells #[.int .i64 201, .int .i64 0, .int .i64 5, .int .i64 0, .int .i64 0, .int .i64 0, .int .i64 (-1), .int .i64 0, .int .i64 0] 47))
      have hd7 : (W5.alloc (.cells #[.int .i64 201, .int .i64 0, .int .i64 5, .int .i64 0, .int .i64 0, .int .i64 0, .int .i64 (-1), .int .i64 0, .int .i64 0] 47)).drew = w7 := HW7.out.symm
      try rw [hd7]
      try rw [← HW7.out]
      have hb7 : Below W5.heap.size W5 w7 := by rw [HW7.out]; exact (Below.refl _ _).drew.alloc (Nat.le_refl _) _
      have hs7 : w7.cell? ⟨pb + 1, 1, none⟩ = some (.slice none 0 0) := (hb7.cell (p := ⟨pb + 1, 1, none⟩) (by show pb + 1 < _; have := hpbs.out; have := hlt5.out; omega)).trans hs5
      have hlit : OwnK w7 W5.heap.size (.slice (some ⟨W5.heap.size, 0, none⟩) 3 3) lit3 := by rw [HW7.out]; exact OwnX.lit W5.drew W5.heap.size (Nat.le_refl _) #[.int .i64 201, .int .i64 0, .int .i64 5, .int .i64 0, .int .i64 0, .int .i64 0, .int .i64 (-1), .int .i64 0, .int .i64 0] 3 3 (lit3.map knC) 47 rfl rfl (full_kn _) (by unfold maxLen; omega)
      have HLIT := hide hlit
      have HB7 := hide hb7
      clear hb7 hlit
      refine hK _ _ (fun _ => hs7) ?_
      clear hK K
      try simp only [Act.put, List.setIfInBounds_toArray, List.set_cons_zero, List.set_cons_succ]
      refine wpAnyE_one (i := 9) (o := { dst := some 41, op := Go.Op.call { callee := Go.Callee.builtin Go.Builtin.append, args := #[Go.Operand.tmp 36, Go.Operand.tmp 40], argTypes := #[25, 25] }, type := 25, pos := "outright.go:87", after := #[{ on := 4, ground := Go.Ground.data }, { on := 8, ground := Go.Ground.data }], guard := none }) (by kernel_rfl) rfl (fun K hK => ?_)
      have hc2 : RdK w7 (.slice none 0 0) (T.drop 0) := by rw [HT0.out]; simp; exact RdX.nil _ _
      obtain ⟨v8, w8, hr8, ho8, hg8, hb8⟩ := OwnX.append rt25 HLIT.out hc2 (full_kn _) (by rw [HT0.out]; simp [lit3]) (HB7.out.size) 25
      have hr8 := hide hr8
      refine step_append_runI rfl (.tmp 36) (.tmp 40) 25 25 rfl (.slice (some ⟨W5.heap.size, 0, none⟩) 3 3) (.slice none 0 0) (by simp [Act.eval]) (by simp [Act.eval]) hr8.out ?_
      have hs8 : w8.cell? ⟨pb + 1, 1, none⟩ = some (.slice none 0 0) := (hb8.cell (p := ⟨pb + 1, 1, none⟩) (by show pb + 1 < _; have := hpbs.out; have := hlt5.out; omega)).trans hs7
      have ho8 : OwnK w8 W5.heap.size v8 (lit3 ++ T.drop 0) := by unfold OwnK; rw [List.map_append]; exact ho8
      obtain ⟨q8o, q8c, hv8, -⟩ := RdK.shape ho8.rd
      obtain ⟨q8, HQ8⟩ := named (lit3 ++ T.drop 0).length
      rw [← HQ8.out] at hv8
      subst hv8
      have HO8 := hide ho8
      have HB8 := hide (HB7.out.trans hb8)
      clear ho8 hb8 hg8 hc2
      refine hK _ _ (fun _ => hs8) ?_
      clear hK K
      try simp only [Act.put, List.setIfInBounds_toArray, List.set_cons_zero, List.set_cons_succ]
      refine wpAnyE_one (i := 14) (o := { dst := some 46, op := Go.Op.call { callee := Go.Callee.builtin Go.Builtin.append, args := #[Go.Operand.tmp 41, Go.Operand.tmp 45], argTypes := #[25, 25] }, type := 25, pos := "outright.go:87", after := #[{ on := 9, ground := Go.Ground.data }, { on := 13, ground := Go.Ground.data }, { on := 9, ground := Go.Ground.chain }], guard := none }) (by kernel_rfl) rfl (fun K hK => ?_)
      have hc1 : RdK w8 (.slice none 0 0) (T.take 0) := by rw [HT0.out]; simp; exact RdX.nil _ _
      obtain ⟨v9, w9, hr9, ho9, hg9, hb9⟩ := OwnX.append rt25 HO8.out hc1 (full_kn _) (by rw [HT0.out]; simp [lit3]) (HB8.out.size) 25
      have hr9 := hide hr9
      refine step_append_runI rfl (.tmp 41) (.tmp 45) 25 25 rfl (.slice q8o q8 q8c) (.slice none 0 0) (by simp [Act.eval]) (by simp [Act.eval]) hr9.out ?_
      have hs9 : w9.cell? ⟨pb + 1, 1, none⟩ = some (.slice none 0 0) := (hb9.cell (p := ⟨pb + 1, 1, none⟩) (by show pb + 1 < _; have := hpbs.out; have := hlt5.out; omega)).trans hs8
      have ho9 : OwnK w9 W5.heap.size v9 (lit3 ++ T.drop 0 ++ T.take 0) := by unfold OwnK; rw [List.map_append]; exact ho9
      have hqlen : (lit3 ++ T.drop 0 ++ T.take 0).length = 0 + 3 := by rw [HT0.out]; simp [lit3]
      obtain ⟨q9o, q9c, hv9, -⟩ := RdK.shape ho9.rd
      rw [hqlen] at hv9
      subst hv9
      have HO9 := hide ho9
      have HB9 := hide (HB8.out.trans hb9)
      have g9 := HG5.out.below HB9.out
      have a9f : w9.frozen? ⟨pb + 1, 1, none⟩ = false := g9.2.2 1
      clear ho9 hb9 hg9 hc1 g9
      refine hK _ _ (fun _ => hs9) ?_
      clear hK K
      try simp only [Act.put, List.setIfInBounds_toArray, List.set_cons_zero, List.set_cons_succ]
      refine wpAnyE_take 15 [16] (oi := { dst := some 47, op := Go.Op.fieldAddr 28 (Go.Operand.tmp 4) 1, type := 0, pos := "outright.go:87", after := #[{ on := 0, ground := Go.Ground.phase }, { on := 1, ground := Go.Ground.phase }, { on := 2, ground := Go.Ground.phase }, { on := 3, ground := Go.Ground.phase }, { on := 4, ground := Go.Ground.phase }, { on := 5, ground := Go.Ground.phase }, { on := 6, ground := Go.Ground.phase }, { on := 7, ground := Go.Ground.phase }, { on := 8, ground := Go.Ground.phase }, { on := 9, ground := Go.Ground.phase }, { on := 10, ground := Go.Ground.phase }, { on := 11, ground := Go.Ground.phase }, { on := 12, ground := Go.Ground.phase }, { on := 13, ground := Go.Ground.phase }, { on := 14, ground := Go.Ground.phase }], guard := none }) (v := ?_) rfl (by kernel_rfl) (by kernel_rfl) (by kernel_rfl) (by kernel_rfl) (fun _ _ _ h => h) (Or.inl ⟨by rfl, ?hZ13⟩) hs9 ?_
      case hZ13 =>
        intro u hu
        obtain u0 := hu
        go_simp
        try with_reducible rfl
      simp only [Act.put, List.setIfInBounds_toArray, List.set_cons_zero, List.set_cons_succ]
      refine wpAnyE_one (i := 16) (o := { dst := none, op := Go.Op.store 25 (Go.Operand.tmp 47) (Go.Operand.tmp 46), type := 0, pos := "outright.go:87", after := #[{ on := 15, ground := Go.Ground.data }, { on := 14, ground := Go.Ground.data }, { on := 14, ground := Go.Ground.chain }, { on := 0, ground := Go.Ground.phase }, { on := 1, ground := Go.Ground.phase }, { on := 2, ground := Go.Ground.phase }, { on := 3, ground := Go.Ground.phase }, { on := 4, ground := Go.Ground.phase }, { on := 5, ground := Go.Ground.phase }, { on := 6, ground := Go.Ground.phase }, { on := 7, ground := Go.Ground.phase }, { on := 8, ground := Go.Ground.phase }, { on := 9, ground := Go.Ground.phase }, { on := 10, ground := Go.Ground.phase }, { on := 11, ground := Go.Ground.phase }, { on := 12, ground := Go.Ground.phase }, { on := 13, ground := Go.Ground.phase }, { on := 14, ground := Go.Ground.phase }], guard := none }) (by kernel_rfl) rfl (fun K hK => ?_)
      go_simp
      refine hK _ _ (fun h => absurd rfl h) ?_
      clear hK K
      try simp only [Act.put, List.setIfInBounds_toArray, List.set_cons_zero, List.set_cons_succ]
      refine wpAnyE_done (by kernel_rfl) ?_
      obtain ⟨W9, HW9⟩ := named (w9.setCell ⟨pb + 1, 1, none⟩ (.slice q9o (0 + 3) q9c))
      have g9 := (HG5.out.below HB9.out).set 1 (by omega) (.slice q9o (0 + 3) q9c)
      rw [← HW9.out] at g9
      have p9 := (HP5.out.below HB9.out).other (g := pb + 1) (o := 1) (by omega) (.slice q9o (0 + 3) q9c)
      rw [← HW9.out] at p9
      have x9 := (HX5.out.below HB9.out).other (g := pb + 1) (o := 1) (by have := hpbs.out; omega) (.slice q9o (0 + 3) q9c)
      rw [← HW9.out] at x9
      have q9 : RdK W9 (.slice q9o (0 + 3) q9c) (lit3 ++ T.drop 0 ++ T.take 0) := by
        rw [HW9.out]
        exact (OwnX.heap (w' := w9.setCell ⟨pb + 1, 1, none⟩ (.slice q9o (0 + 3) q9c)) HO9.out fun a ha => Below.heap_setCell _ _ _ _ (by have h1 := (OwnX.lt HO9.out a ha).1; have := hpbs.out; have := hlt5.out; show a ≠ pb + 1; omega)).rd
      have HBW9 : Hid (Below w.heap.size w W9) := by
        show Below _ _ _
        rw [HW9.out]
        exact (HB5.out.trans (HB9.out.mono HB5.out.size)).setCell (p := ⟨pb + 1, 1, none⟩) (by show w.heap.size ≤ pb + 1; rw [HPB.out]; omega) _
      have m9 : RdM W9 (.slice mo l1 mc) R1.1.cmds := by
        rw [HW9.out]
        exact (OwnX.heap (w' := w9.setCell ⟨pb + 1, 1, none⟩ (.slice q9o (0 + 3) q9c)) (OwnX.below HM5.out HB9.out) fun a ha => Below.heap_setCell _ _ _ _ (by have h1 := (OwnX.lt HM5.out a ha).1; show a ≠ pb + 1; omega)).rd
      have HX9 := hide x9
      have HM9 := hide m9
      have HQ9 := hide q9
      have c1 : W9.cell? ⟨pb + 1, 1, none⟩ = some (.slice q9o (0 + 3) q9c) := g9.2.1 1 (by omega)
      have b0 : W9.cell? ⟨pb, 0, none⟩ = some (.string p.name) := p9.2.1 0 (by omega)
      have b1 : W9.cell? ⟨pb, 1, none⟩ = some (.int .i64 p.regs) := p9.2.1 1 (by omega)
      have b2 : W9.cell? ⟨pb, 2, none⟩ = some (.slice ao L cap) := p9.2.1 2 (by omega)
      have c0 : W9.cell? ⟨pb + 1, 0, none⟩ = some (.int .i64 arg) := g9.2.1 0 (by omega)
      have c2 : W9.cell? ⟨pb + 1, 2, none⟩ = some (.slice so sl sc) := g9.2.1 2 (by omega)
      have c3 : W9.cell? ⟨pb + 1, 3, none⟩ = some (.int .i64 2000) := g9.2.1 3 (by omega)
      rw [HW9.out] at b0 b1 b2 c0 c1 c2 c3
      clear g9 p9 x9 m9 q9 a9f
      by_cases hbig : 300 < 0 + 3
      · exact absurd hbig (by omega)
      · have hbI : ¬ (300 : Int) < ((0 + 3 : Nat) : Int) := by omega
        have hbJ : ¬ (300 : Int) < (0 : Int) + 3 := by omega
        have h2 := HOF.out (.slice q9o (0 + 3) q9c) (lit3 ++ T.drop 0 ++ T.take 0) W9 HBW9.out HQ9.out
        have heq : runR p arg ((lit3 ++ T.drop 0 ++ T.take 0).take 300) (sg.take 300) 2000 = R1 := by
          rw [HR1.out, List.take_of_length_le (show (lit3 ++ T.drop 0 ++ T.take 0).length ≤ 300 by rw [hqlen]; omega), List.take_of_length_le (show T.length ≤ 300 by rw [← HTL.out]; exact hTl)]
          exact (runR_order p arg _ _ _ _ (knOf_turned T 0 HND.out)).symm
        rw [heq] at h2
        clear heq
        go_wp2_with fail
        rw [← HW9.out]
        (with_reducible refine Calls.mono h2 ?_)
        rintro e w10 ⟨v10, rfl, hm10, hb10⟩
        clear b0 b1 b2 c0 c1 c2 c3 h2
        obtain ⟨no, nc, hv10, -⟩ := RdM.shape (l := R1.1.cmds) hm10.rd
        subst hv10
        rw [show stV R1.1 (.slice no R1.1.cmds.length nc) = .agg #[.int .i64 R1.1.at_, .int .i64 R1.1.ost, .int .i64 R1.1.ova, .int .i64 R1.1.on, .slice no R1.1.cmds.length nc, .int .i64 R1.1.sig, .int .i64 R1.1.steps] from rfl]
        rw [← HL1.out] at hm10 ⊢
        obtain ⟨W11, HW11⟩ := named (w10.alloc (.cells #[.int .i64 R1.1.at_, .int .i64 R1.1.ost, .int .i64 R1.1.ova, .int .i64 R1.1.on, .slice no l1 nc, .int .i64 R1.1.sig, .int .i64 R1.1.steps] 35))
        have x11 : RC 7 W11 w10.heap.size (fun k => ([.int .i64 R1.1.at_, .int .i64 R1.1.ost, .int .i64 R1.1.ova, .int .i64 R1.1.on, .slice no l1 nc, .int .i64 R1.1.sig, .int .i64 R1.1.steps] : List Value).getD k undef) := by
          rw [HW11.out]
          refine RC.new w10 _ 35 _ (fun k hk => ?_)
          rcases (show k = 0 ∨ k = 1 ∨ k = 2 ∨ k = 3 ∨ k = 4 ∨ k = 5 ∨ k = 6 by omega) with rfl | rfl | rfl | rfl | rfl | rfl | rfl <;> rfl
        have hb9x : Below W9.heap.size W9 W11 := by rw [HW11.out]; exact hb10.alloc hb10.size _
        have HB11 := hide (HBW9.out.trans (hb9x.mono HBW9.out.size))
        have y11 := HX9.out.below hb9x
        have hsame := same_any (w := W11) (s := R1.1) (u := R1.1) (RdM.below HM9.out hb9x) (show RdM W11 (.slice no l1 nc) R1.1.cmds by rw [HW11.out]; exact RdX.alloc hm10.rd _)
        rw [decide_eq_true (Alike.refl _)] at hsame
        have hsame : Calls Tryd.prog 14 #[.agg #[.int .i64 R1.1.at_, .int .i64 R1.1.ost, .int .i64 R1.1.ova, .int .i64 R1.1.on, .slice mo l1 mc, .int .i64 R1.1.sig, .int .i64 R1.1.steps], .agg #[.int .i64 R1.1.at_, .int .i64 R1.1.ost, .int .i64 R1.1.ova, .int .i64 R1.1.on, .slice no l1 nc, .int .i64 R1.1.sig, .int .i64 R1.1.steps]] W11 _ := hsame
        have d0 := y11.2.1 0 (by omega)
        have d1 := y11.2.1 1 (by omega)
        have d2 := y11.2.1 2 (by omega)
        have d3 := y11.2.1 3 (by omega)
        have d4 := y11.2.1 4 (by omega)
        have d5 := y11.2.1 5 (by omega)
        have d6 := y11.2.1 6 (by omega)
        have e0 := x11.2.1 0 (by omega)
        have e1 := x11.2.1 1 (by omega)
        have e2 := x11.2.1 2 (by omega)
        have e3 := x11.2.1 3 (by omega)
        have e4 := x11.2.1 4 (by omega)
        have e5 := x11.2.1 5 (by omega)
        have e6 := x11.2.1 6 (by omega)
        rw [HW11.out] at e0 e1 e2 e3 e4 e5 e6
        rw [HW11.out, HSB.out] at d0 d1 d2 d3 d4 d5 d6
        replace d0 : _ = some (Value.int .i64 (R1.1.at_ : Int)) := d0
        replace d1 : _ = some (Value.int .i64 R1.1.ost) := d1
        replace d2 : _ = some (Value.int .i64 R1.1.ova) := d2
        replace d3 : _ = some (Value.int .i64 R1.1.on) := d3
        replace d4 : _ = some (Value.slice mo l1 mc) := d4
        replace d5 : _ = some (Value.int .i64 (R1.1.sig : Int)) := d5
        replace d6 : _ = some (Value.int .i64 (R1.1.steps : Int)) := d6
        replace e0 : _ = some (Value.int .i64 (R1.1.at_ : Int)) := e0
        replace e1 : _ = some (Value.int .i64 R1.1.ost) := e1
        replace e2 : _ = some (Value.int .i64 R1.1.ova) := e2
        replace e3 : _ = some (Value.int .i64 R1.1.on) := e3
        replace e4 : _ = some (Value.slice no l1 nc) := e4
        replace e5 : _ = some (Value.int .i64 (R1.1.sig : Int)) := e5
        replace e6 : _ = some (Value.int .i64 (R1.1.steps : Int)) := e6
        clear hb10 hm10 hb9x x11 y11
        go_wp2_with fail
        rw [← HW11.out]
        (with_reducible refine Calls.mono hsame ?_)
        rintro e w12 ⟨rfl, hb12⟩
        have HB12 := hide (HB11.out.trans (hb12.mono HB11.out.size))
        have haw := awake_true w12 (HK.out.below HB12.out)
        have hRR : (R1.2 == R1.2) = true := by simp
        clear hb12 hsame d0 d1 d2 d3 d4 d5 d6 e0 e1 e2 e3 e4 e5 e6
        go_wp2_with fail
        (with_reducible refine Calls.mono haw ?_)
        rintro e w13 ⟨rfl, hb13⟩
        have HB13 := hide (HB12.out.trans (hb13.mono HB12.out.size))
        clear hb13 haw
        go_wp2
        go_ret
        exact ⟨rfl, HB13.out⟩
    · obtain ⟨rfl, -, -⟩ : to = some ⟨tg, 0, none⟩ ∧ True ∧ True := by cases e; exact ⟨rfl, trivial, trivial⟩
      have g1 : (k : Int) ≤ (tl : Int) := by omega
      have g2 : (tl : Int) ≤ (tcap : Int) := by omega
      have g3 : (k : Int) ≤ (tcap : Int) := by omega
      have g4 : tcap ≤ 9223372036854775807 := by unfold maxLen at htc2; omega
      obtain ⟨av, HAV⟩ := named (if tcap = k then (some ⟨tg, 0, none⟩ : Option Addr) else some ⟨tg, k * 3, none⟩)
      have hav : (if tcap = k then (some ⟨tg, 0, none⟩ : Option Addr) else some ⟨tg, k * 3, none⟩) = av := HAV.out.symm
      clear e
      have hs5 : W5.drew.cell? ⟨pb + 1, 1, none⟩ = some (.slice (some ⟨tg, 0, none⟩) tl tcap) := HG5.out.2.1 1 (by omega)
      go_wp2_with fail
      refine wp_region_E 16 (fun w' => w'.cell? ⟨pb + 1, 1, none⟩ = some (.slice (some ⟨tg, 0, none⟩) tl tcap)) (by kernel_rfl) ?_
      refine wpAnyE_take 0 [16] (oi := { dst := some 32, op := Go.Op.build 32 #[(1, Go.Operand.const (Go.Value.int Go.IntKind.i64 5))], type := 32, pos := "outright.go:87", after := #[], guard := none }) (v := ?_) rfl (by kernel_rfl) (by kernel_rfl) (by kernel_rfl) (by kernel_rfl) (fun _ _ _ h => h) (Or.inl ⟨by rfl, ?hE14⟩) hs5 ?_
      case hE14 =>
        intro u hu
        obtain u0 := hu
        go_simp
        try with_reducible rfl
      simp only [Act.put, List.setIfInBounds_toArray, List.set_cons_zero, List.set_cons_succ]
      refine wpAnyE_take 1 [16] (oi := { dst := some 33, op := Go.Op.build 47 #[(0, Go.Operand.const (Go.Value.int Go.IntKind.i64 201)), (1, Go.Operand.tmp 32)], type := 47, pos := "outright.go:87", after := #[{ on := 0, ground := Go.Ground.data }], guard := none }) (v := ?_) rfl (by kernel_rfl) (by kernel_rfl) (by kernel_rfl) (by kernel_rfl) (fun _ _ _ h => h) (Or.inl ⟨by rfl, ?hE15⟩) hs5 ?_
      case hE15 =>
        intro u hu
        obtain u0 := hu
        go_simp
        try with_reducible rfl
      simp only [Act.put, List.setIfInBounds_toArray, List.set_cons_zero, List.set_cons_succ]
      refine wpAnyE_take 2 [16] (oi := { dst := some 34, op := Go.Op.build 47 #[(0, Go.Operand.const (Go.Value.int Go.IntKind.i64 0))], type := 47, pos := "outright.go:87", after := #[], guard := none }) (v := ?_) rfl (by kernel_rfl) (by kernel_rfl) (by kernel_rfl) (by kernel_rfl) (fun _ _ _ h => h) (Or.inl ⟨by rfl, ?hE16⟩) hs5 ?_
      case hE16 =>
        intro u hu
        obtain u0 := hu
        go_simp
        try with_reducible rfl
      simp only [Act.put, List.setIfInBounds_toArray, List.set_cons_zero, List.set_cons_succ]
      refine wpAnyE_take 3 [16] (oi := { dst := some 35, op := Go.Op.build 47 #[(0, Go.Operand.const (Go.Value.int Go.IntKind.i64 (-1)))], type := 47, pos := "outright.go:87", after := #[], guard := none }) (v := ?_) rfl (by kernel_rfl) (by kernel_rfl) (by kernel_rfl) (by kernel_rfl) (fun _ _ _ h => h) (Or.inl ⟨by rfl, ?hE17⟩) hs5 ?_
      case hE17 =>
        intro u hu
        obtain u0 := hu
        go_simp
        try with_reducible rfl
      simp only [Act.put, List.setIfInBounds_toArray, List.set_cons_zero, List.set_cons_succ]
      refine wpAnyE_take 5 [16] (oi := { dst := some 37, op := Go.Op.fieldAddr 28 (Go.Operand.tmp 4) 1, type := 0, pos := "outright.go:87", after := #[], guard := none }) (v := ?_) rfl (by kernel_rfl) (by kernel_rfl) (by kernel_rfl) (by kernel_rfl) (fun _ _ _ h => h) (Or.inl ⟨by rfl, ?hE18⟩) hs5 ?_
      case hE18 =>
        intro u hu
        obtain u0 := hu
        go_simp
        try with_reducible rfl
      simp only [Act.put, List.setIfInBounds_toArray, List.set_cons_zero, List.set_cons_succ]
      refine wpAnyE_take 6 [16] (oi := { dst := some 38, op := Go.Op.load 25 (Go.Operand.tmp 37), type := 25, pos := "outright.go:87", after := #[{ on := 5, ground := Go.Ground.data }], guard := none }) (v := ?_) rfl (by kernel_rfl) (by kernel_rfl) (by kernel_rfl) (by kernel_rfl) (fun _ _ _ h => h) (Or.inl ⟨by rfl, ?hE19⟩) hs5 ?_
      case hE19 =>
        intro u hu
        obtain u0 := hu
        go_simp
        try with_reducible rfl
      simp only [Act.put, List.setIfInBounds_toArray, List.set_cons_zero, List.set_cons_succ]
      refine wpAnyE_take 7 [16] (oi := { dst := some 39, op := Go.Op.move (Go.Operand.tmp 9), type := 3, pos := "outright.go:87", after := #[], guard := none }) (v := ?_) rfl (by kernel_rfl) (by kernel_rfl) (by kernel_rfl) (by kernel_rfl) (fun _ _ _ h => h) (Or.inl ⟨by rfl, ?hE20⟩) hs5 ?_
      case hE20 =>
        intro u hu
        obtain u0 := hu
        go_simp
        try with_reducible rfl
      simp only [Act.put, List.setIfInBounds_toArray, List.set_cons_zero, List.set_cons_succ]
      refine wpAnyE_take 8 [16] (oi := { dst := some 40, op := Go.Op.slice 25 (Go.Operand.tmp 38) (some (Go.Operand.tmp 39)) none none, type := 25, pos := "outright.go:87", after := #[{ on := 6, ground := Go.Ground.data }, { on := 7, ground := Go.Ground.data }], guard := none }) (v := ?_) rfl (by kernel_rfl) (by kernel_rfl) (by kernel_rfl) (by kernel_rfl) (fun _ _ _ h => h) (Or.inl ⟨by rfl, ?hE21⟩) hs5 ?_
      case hE21 =>
        intro u hu
        obtain u0 := hu
        go_simp
        try with_reducible rfl
      simp only [Act.put, List.setIfInBounds_toArray, List.set_cons_zero, List.set_cons_succ]
      refine wpAnyE_take 10 [16] (oi := { dst := some 42, op := Go.Op.fieldAddr 28 (Go.Operand.tmp 4) 1, type := 0, pos := "outright.go:87", after := #[], guard := none }) (v := ?_) rfl (by kernel_rfl) (by kernel_rfl) (by kernel_rfl) (by kernel_rfl) (fun _ _ _ h => h) (Or.inl ⟨by rfl, ?hE22⟩) hs5 ?_
      case hE22 =>
        intro u hu
        obtain u0 := hu
        go_simp
        try with_reducible rfl
      simp only [Act.put, List.setIfInBounds_toArray, List.set_cons_zero, List.set_cons_succ]
      refine wpAnyE_take 11 [16] (oi := { dst := some 43, op := Go.Op.load 25 (Go.Operand.tmp 42), type := 25, pos := "outright.go:87", after := #[{ on := 10, ground := Go.Ground.data }], guard := none }) (v := ?_) rfl (by kernel_rfl) (by kernel_rfl) (by kernel_rfl) (by kernel_rfl) (fun _ _ _ h => h) (Or.inl ⟨by rfl, ?hE23⟩) hs5 ?_
      case hE23 =>
        intro u hu
        obtain u0 := hu
        go_simp
        try with_reducible rfl
      simp only [Act.put, List.setIfInBounds_toArray, List.set_cons_zero, List.set_cons_succ]
      refine wpAnyE_take 12 [16] (oi := { dst := some 44, op := Go.Op.move (Go.Operand.tmp 9), type := 3, pos := "outright.go:87", after := #[], guard := none }) (v := ?_) rfl (by kernel_rfl) (by kernel_rfl) (by kernel_rfl) (by kernel_rfl) (fun _ _ _ h => h) (Or.inl ⟨by rfl, ?hE24⟩) hs5 ?_
      case hE24 =>
        intro u hu
        obtain u0 := hu
        go_simp
        try with_reducible rfl
      simp only [Act.put, List.setIfInBounds_toArray, List.set_cons_zero, List.set_cons_succ]
      refine wpAnyE_take 13 [16] (oi := { dst := some 45, op := Go.Op.slice 25 (Go.Operand.tmp 43) none (some (Go.Operand.tmp 44)) none, type := 25, pos := "outright.go:87", after := #[{ on := 11, ground := Go.Ground.data }, { on := 12, ground := Go.Ground.data }], guard := none }) (v := ?_) rfl (by kernel_rfl) (by kernel_rfl) (by kernel_rfl) (by kernel_rfl) (fun _ _ _ h => h) (Or.inl ⟨by rfl, ?hE25⟩) hs5 ?_
      case hE25 =>
        intro u hu
        obtain u0 := hu
        go_simp
        try with_reducible rfl
      simp only [Act.put, List.setIfInBounds_toArray, List.set_cons_zero, List.set_cons_succ]
      refine wpAnyE_one (i := 4) (o := { dst := some 36, op := Go.Op.buildSlice 25 3 #[(0, Go.Operand.tmp 33), (1, Go.Operand.tmp 34), (2, Go.Operand.tmp 35)], type := 25, pos := "outright.go:87", after := #[{ on := 1, ground := Go.Ground.data }, { on := 2, ground := Go.Ground.data }, { on := 3, ground := Go.Ground.data }], guard := none }) (by kernel_rfl) rfl (fun K hK => ?_)
      go_simp
      obtain ⟨w7, HW7⟩ := named (W5.drew.alloc (.cells #[.int .i64 201, .int .i64 0, .int .i64 5, .int .i64 0, .int .i64 0, .int .i64 0, .int .i64 (-1), .int .i64 0, .int .i64 0] 47))
      have hd7 : (W5.alloc (.cells #[.int .i64 201, .int .i64 0, .int .i64 5, .int .i64 0, .int .i64 0, .int .i64 0, .int .i64 (-1), .int .i64 0, .int .i64 0] 47)).drew = w7 := HW7.out.symm
      try rw [hd7]
      try rw [← HW7.out]
      have hb7 : Below W5.heap.size W5 w7 := by rw [HW7.out]; exact (Below.refl _ _).drew.alloc (Nat.le_refl _) _
      have hs7 : w7.cell? ⟨pb + 1, 1, none⟩ = some (.slice (some ⟨tg, 0, none⟩) tl tcap) := (hb7.cell (p := ⟨pb + 1, 1, none⟩) (by show pb + 1 < _; have := hpbs.out; have := hlt5.out; omega)).trans hs5
      have hlit : OwnK w7 W5.heap.size (.slice (some ⟨W5.heap.size, 0, none⟩) 3 3) lit3 := by rw [HW7.out]; exact OwnX.lit W5.drew W5.heap.size (Nat.le_refl _) #[.int .i64 201, .int .i64 0, .int .i64 5, .int .i64 0, .int .i64 0, .int .i64 0, .int .i64 (-1), .int .i64 0, .int .i64 0] 3 3 (lit3.map knC) 47 rfl rfl (full_kn _) (by unfold maxLen; omega)
      have HLIT := hide hlit
      have HB7 := hide hb7
      clear hb7 hlit
      refine hK _ _ (fun _ => hs7) ?_
      clear hK K
      try simp only [Act.put, List.setIfInBounds_toArray, List.set_cons_zero, List.set_cons_succ]
      refine wpAnyE_one (i := 9) (o := { dst := some 41, op := Go.Op.call { callee := Go.Callee.builtin Go.Builtin.append, args := #[Go.Operand.tmp 36, Go.Operand.tmp 40], argTypes := #[25, 25] }, type := 25, pos := "outright.go:87", after := #[{ on := 4, ground := Go.Ground.data }, { on := 8, ground := Go.Ground.data }], guard := none }) (by kernel_rfl) rfl (fun K hK => ?_)
      have hc2 : RdK w7 (.slice av (tl - k) (tcap - k)) (T.drop k) := by have := RdK.cut (RdX.below HT5.out HB7.out) k; rw [hav] at this; exact this
      obtain ⟨v8, w8, hr8, ho8, hg8, hb8⟩ := OwnX.append rt25 HLIT.out hc2 (full_kn _) (by simp [lit3]; rw [← HTL.out]; omega) (HB7.out.size) 25
      have hr8 := hide hr8
      refine step_append_runI rfl (.tmp 36) (.tmp 40) 25 25 rfl (.slice (some ⟨W5.heap.size, 0, none⟩) 3 3) (.slice av (tl - k) (tcap - k)) (by simp [Act.eval]) (by simp [Act.eval]) hr8.out ?_
      have hs8 : w8.cell? ⟨pb + 1, 1, none⟩ = some (.slice (some ⟨tg, 0, none⟩) tl tcap) := (hb8.cell (p := ⟨pb + 1, 1, none⟩) (by show pb + 1 < _; have := hpbs.out; have := hlt5.out; omega)).trans hs7
      have ho8 : OwnK w8 W5.heap.size v8 (lit3 ++ T.drop k) := by unfold OwnK; rw [List.map_append]; exact ho8
      obtain ⟨q8o, q8c, hv8, -⟩ := RdK.shape ho8.rd
      obtain ⟨q8, HQ8⟩ := named (lit3 ++ T.drop k).length
      rw [← HQ8.out] at hv8
      subst hv8
      have HO8 := hide ho8
      have HB8 := hide (HB7.out.trans hb8)
      clear ho8 hb8 hg8 hc2
      refine hK _ _ (fun _ => hs8) ?_
      clear hK K
      try simp only [Act.put, List.setIfInBounds_toArray, List.set_cons_zero, List.set_cons_succ]
      refine wpAnyE_one (i := 14) (o := { dst := some 46, op := Go.Op.call { callee := Go.Callee.builtin Go.Builtin.append, args := #[Go.Operand.tmp 41, Go.Operand.tmp 45], argTypes := #[25, 25] }, type := 25, pos := "outright.go:87", after := #[{ on := 9, ground := Go.Ground.data }, { on := 13, ground := Go.Ground.data }, { on := 9, ground := Go.Ground.chain }], guard := none }) (by kernel_rfl) rfl (fun K hK => ?_)
      have hc1 : RdK w8 (.slice (some ⟨tg, 0, none⟩) k tcap) (T.take k) := RdK.take (RdX.below HT5.out HB8.out) k (by rw [← HTL.out]; exact hkl)
      obtain ⟨v9, w9, hr9, ho9, hg9, hb9⟩ := OwnX.append rt25 HO8.out hc1 (full_kn _) (by simp [lit3]; rw [← HTL.out]; omega) (HB8.out.size) 25
      have hr9 := hide hr9
      refine step_append_runI rfl (.tmp 41) (.tmp 45) 25 25 rfl (.slice q8o q8 q8c) (.slice (some ⟨tg, 0, none⟩) k tcap) (by simp [Act.eval]) (by simp [Act.eval]) hr9.out ?_
      have hs9 : w9.cell? ⟨pb + 1, 1, none⟩ = some (.slice (some ⟨tg, 0, none⟩) tl tcap) := (hb9.cell (p := ⟨pb + 1, 1, none⟩) (by show pb + 1 < _; have := hpbs.out; have := hlt5.out; omega)).trans hs8
      have ho9 : OwnK w9 W5.heap.size v9 (lit3 ++ T.drop k ++ T.take k) := by unfold OwnK; rw [List.map_append]; exact ho9
      have hqlen : (lit3 ++ T.drop k ++ T.take k).length = tl + 3 := by simp [lit3]; rw [← HTL.out]; omega
      obtain ⟨q9o, q9c, hv9, -⟩ := RdK.shape ho9.rd
      rw [hqlen] at hv9
      subst hv9
      have HO9 := hide ho9
      have HB9 := hide (HB8.out.trans hb9)
      have g9 := HG5.out.below HB9.out
      have a9f : w9.frozen? ⟨pb + 1, 1, none⟩ = false := g9.2.2 1
      clear ho9 hb9 hg9 hc1 g9
      refine hK _ _ (fun _ => hs9) ?_
      clear hK K
      try simp only [Act.put, List.setIfInBounds_toArray, List.set_cons_zero, List.set_cons_succ]
      refine wpAnyE_take 15 [16] (oi := { dst := some 47, op := Go.Op.fieldAddr 28 (Go.Operand.tmp 4) 1, type := 0, pos := "outright.go:87", after := #[{ on := 0, ground := Go.Ground.phase }, { on := 1, ground := Go.Ground.phase }, { on := 2, ground := Go.Ground.phase }, { on := 3, ground := Go.Ground.phase }, { on := 4, ground := Go.Ground.phase }, { on := 5, ground := Go.Ground.phase }, { on := 6, ground := Go.Ground.phase }, { on := 7, ground := Go.Ground.phase }, { on := 8, ground := Go.Ground.phase }, { on := 9, ground := Go.Ground.phase }, { on := 10, ground := Go.Ground.phase }, { on := 11, ground := Go.Ground.phase }, { on := 12, ground := Go.Ground.phase }, { on := 13, ground := Go.Ground.phase }, { on := 14, ground := Go.Ground.phase }], guard := none }) (v := ?_) rfl (by kernel_rfl) (by kernel_rfl) (by kernel_rfl) (by kernel_rfl) (fun _ _ _ h => h) (Or.inl ⟨by rfl, ?hE26⟩) hs9 ?_
      case hE26 =>
        intro u hu
        obtain u0 := hu
        go_simp
        try with_reducible rfl
      simp only [Act.put, List.setIfInBounds_toArray, List.set_cons_zero, List.set_cons_succ]
      refine wpAnyE_one (i := 16) (o := { dst := none, op := Go.Op.store 25 (Go.Operand.tmp 47) (Go.Operand.tmp 46), type := 0, pos := "outright.go:87", after := #[{ on := 15, ground := Go.Ground.data }, { on := 14, ground := Go.Ground.data }, { on := 14, ground := Go.Ground.chain }, { on := 0, ground := Go.Ground.phase }, { on := 1, ground := Go.Ground.phase }, { on := 2, ground := Go.Ground.phase }, { on := 3, ground := Go.Ground.phase }, { on := 4, ground := Go.Ground.phase }, { on := 5, ground := Go.Ground.phase }, { on := 6, ground := Go.Ground.phase }, { on := 7, ground := Go.Ground.phase }, { on := 8, ground := Go.Ground.phase }, { on := 9, ground := Go.Ground.phase }, { on := 10, ground := Go.Ground.phase }, { on := 11, ground := Go.Ground.phase }, { on := 12, ground := Go.Ground.phase }, { on := 13, ground := Go.Ground.phase }, { on := 14, ground := Go.Ground.phase }], guard := none }) (by kernel_rfl) rfl (fun K hK => ?_)
      go_simp
      refine hK _ _ (fun h => absurd rfl h) ?_
      clear hK K
      try simp only [Act.put, List.setIfInBounds_toArray, List.set_cons_zero, List.set_cons_succ]
      refine wpAnyE_done (by kernel_rfl) ?_
      obtain ⟨W9, HW9⟩ := named (w9.setCell ⟨pb + 1, 1, none⟩ (.slice q9o (tl + 3) q9c))
      have g9 := (HG5.out.below HB9.out).set 1 (by omega) (.slice q9o (tl + 3) q9c)
      rw [← HW9.out] at g9
      have p9 := (HP5.out.below HB9.out).other (g := pb + 1) (o := 1) (by omega) (.slice q9o (tl + 3) q9c)
      rw [← HW9.out] at p9
      have x9 := (HX5.out.below HB9.out).other (g := pb + 1) (o := 1) (by have := hpbs.out; omega) (.slice q9o (tl + 3) q9c)
      rw [← HW9.out] at x9
      have q9 : RdK W9 (.slice q9o (tl + 3) q9c) (lit3 ++ T.drop k ++ T.take k) := by
        rw [HW9.out]
        exact (OwnX.heap (w' := w9.setCell ⟨pb + 1, 1, none⟩ (.slice q9o (tl + 3) q9c)) HO9.out fun a ha => Below.heap_setCell _ _ _ _ (by have h1 := (OwnX.lt HO9.out a ha).1; have := hpbs.out; have := hlt5.out; show a ≠ pb + 1; omega)).rd
      have HBW9 : Hid (Below w.heap.size w W9) := by
        show Below _ _ _
        rw [HW9.out]
        exact (HB5.out.trans (HB9.out.mono HB5.out.size)).setCell (p := ⟨pb + 1, 1, none⟩) (by show w.heap.size ≤ pb + 1; rw [HPB.out]; omega) _
      have m9 : RdM W9 (.slice mo l1 mc) R1.1.cmds := by
        rw [HW9.out]
        exact (OwnX.heap (w' := w9.setCell ⟨pb + 1, 1, none⟩ (.slice q9o (tl + 3) q9c)) (OwnX.below HM5.out HB9.out) fun a ha => Below.heap_setCell _ _ _ _ (by have h1 := (OwnX.lt HM5.out a ha).1; show a ≠ pb + 1; omega)).rd
      have HX9 := hide x9
      have HM9 := hide m9
      have HQ9 := hide q9
      have c1 : W9.cell? ⟨pb + 1, 1, none⟩ = some (.slice q9o (tl + 3) q9c) := g9.2.1 1 (by omega)
      have b0 : W9.cell? ⟨pb, 0, none⟩ = some (.string p.name) := p9.2.1 0 (by omega)
      have b1 : W9.cell? ⟨pb, 1, none⟩ = some (.int .i64 p.regs) := p9.2.1 1 (by omega)
      have b2 : W9.cell? ⟨pb, 2, none⟩ = some (.slice ao L cap) := p9.2.1 2 (by omega)
      have c0 : W9.cell? ⟨pb + 1, 0, none⟩ = some (.int .i64 arg) := g9.2.1 0 (by omega)
      have c2 : W9.cell? ⟨pb + 1, 2, none⟩ = some (.slice so sl sc) := g9.2.1 2 (by omega)
      have c3 : W9.cell? ⟨pb + 1, 3, none⟩ = some (.int .i64 2000) := g9.2.1 3 (by omega)
      rw [HW9.out] at b0 b1 b2 c0 c1 c2 c3
      clear g9 p9 x9 m9 q9 a9f
      by_cases hbig : 300 < tl + 3
      · have hbI : (300 : Int) < ((tl + 3 : Nat) : Int) := by omega
        have hbJ : (300 : Int) < (tl : Int) + 3 := by omega
        have haw := awake_true W9 (HK.out.below HBW9.out)
        go_wp2_with fail
        rw [← HW9.out]
        (with_reducible refine Calls.mono haw ?_)
        rintro e w10 ⟨rfl, hb10⟩
        have HB10 := hide (HBW9.out.trans (hb10.mono HBW9.out.size))
        clear hb10 haw
        go_wp2
        go_ret
        exact ⟨rfl, HB10.out⟩
      · have hbI : ¬ (300 : Int) < ((tl + 3 : Nat) : Int) := by omega
        have hbJ : ¬ (300 : Int) < (tl : Int) + 3 := by omega
        have h2 := HOF.out (.slice q9o (tl + 3) q9c) (lit3 ++ T.drop k ++ T.take k) W9 HBW9.out HQ9.out
        have heq : runR p arg ((lit3 ++ T.drop k ++ T.take k).take 300) (sg.take 300) 2000 = R1 := by
          rw [HR1.out, List.take_of_length_le (show (lit3 ++ T.drop k ++ T.take k).length ≤ 300 by rw [hqlen]; omega), List.take_of_length_le (show T.length ≤ 300 by rw [← HTL.out]; exact hTl)]
          exact (runR_order p arg _ _ _ _ (knOf_turned T k HND.out)).symm
        rw [heq] at h2
        clear heq
        go_wp2_with fail
        rw [← HW9.out]
        (with_reducible refine Calls.mono h2 ?_)
        rintro e w10 ⟨v10, rfl, hm10, hb10⟩
        clear b0 b1 b2 c0 c1 c2 c3 h2
        obtain ⟨no, nc, hv10, -⟩ := RdM.shape (l := R1.1.cmds) hm10.rd
        subst hv10
        rw [show stV R1.1 (.slice no R1.1.cmds.length nc) = .agg #[.int .i64 R1.1.at_, .int .i64 R1.1.ost, .int .i64 R1.1.ova, .int .i64 R1.1.on, .slice no R1.1.cmds.length nc, .int .i64 R1.1.sig, .int .i64 R1.1.steps] from rfl]
        rw [← HL1.out] at hm10 ⊢
        obtain ⟨W11, HW11⟩ := named (w10.alloc (.cells #[.int .i64 R1.1.at_, .int .i64 R1.1.ost, .int .i64 R1.1.ova, .int .i64 R1.1.on, .slice no l1 nc, .int .i64 R1.1.sig, .int .i64 R1.1.steps] 35))
        have x11 : RC 7 W11 w10.heap.size (fun k => ([.int .i64 R1.1.at_, .int .i64 R1.1.ost, .int .i64 R1.1.ova, .int .i64 R1.1.on, .slice no l1 nc, .int .i64 R1.1.sig, .int .i64 R1.1.steps] : List Value).getD k undef) := by
          rw [HW11.out]
          refine RC.new w10 _ 35 _ (fun k hk => ?_)
          rcases (show k = 0 ∨ k = 1 ∨ k = 2 ∨ k = 3 ∨ k = 4 ∨ k = 5 ∨ k = 6 by omega) with rfl | rfl | rfl | rfl | rfl | rfl | rfl <;> rfl
        have hb9x : Below W9.heap.size W9 W11 := by rw [HW11.out]; exact hb10.alloc hb10.size _
        have HB11 := hide (HBW9.out.trans (hb9x.mono HBW9.out.size))
        have y11 := HX9.out.below hb9x
        have hsame := same_any (w := W11) (s := R1.1) (u := R1.1) (RdM.below HM9.out hb9x) (show RdM W11 (.slice no l1 nc) R1.1.cmds by rw [HW11.out]; exact RdX.alloc hm10.rd _)
        rw [decide_eq_true (Alike.refl _)] at hsame
        have hsame : Calls Tryd.prog 14 #[.agg #[.int .i64 R1.1.at_, .int .i64 R1.1.ost, .int .i64 R1.1.ova, .int .i64 R1.1.on, .slice mo l1 mc, .int .i64 R1.1.sig, .int .i64 R1.1.steps], .agg #[.int .i64 R1.1.at_, .int .i64 R1.1.ost, .int .i64 R1.1.ova, .int .i64 R1.1.on, .slice no l1 nc, .int .i64 R1.1.sig, .int .i64 R1.1.steps]] W11 _ := hsame
        have d0 := y11.2.1 0 (by omega)
        have d1 := y11.2.1 1 (by omega)
        have d2 := y11.2.1 2 (by omega)
        have d3 := y11.2.1 3 (by omega)
        have d4 := y11.2.1 4 (by omega)
        have d5 := y11.2.1 5 (by omega)
        have d6 := y11.2.1 6 (by omega)
        have e0 := x11.2.1 0 (by omega)
        have e1 := x11.2.1 1 (by omega)
        have e2 := x11.2.1 2 (by omega)
        have e3 := x11.2.1 3 (by omega)
        have e4 := x11.2.1 4 (by omega)
        have e5 := x11.2.1 5 (by omega)
        have e6 := x11.2.1 6 (by omega)
        rw [HW11.out] at e0 e1 e2 e3 e4 e5 e6
        rw [HW11.out, HSB.out] at d0 d1 d2 d3 d4 d5 d6
        replace d0 : _ = some (Value.int .i64 (R1.1.at_ : Int)) := d0
        replace d1 : _ = some (Value.int .i64 R1.1.ost) := d1
        replace d2 : _ = some (Value.int .i64 R1.1.ova) := d2
        replace d3 : _ = some (Value.int .i64 R1.1.on) := d3
        replace d4 : _ = some (Value.slice mo l1 mc) := d4
        replace d5 : _ = some (Value.int .i64 (R1.1.sig : Int)) := d5
        replace d6 : _ = some (Value.int .i64 (R1.1.steps : Int)) := d6
        replace e0 : _ = some (Value.int .i64 (R1.1.at_ : Int)) := e0
        replace e1 : _ = some (Value.int .i64 R1.1.ost) := e1
        replace e2 : _ = some (Value.int .i64 R1.1.ova) := e2
        replace e3 : _ = some (Value.int .i64 R1.1.on) := e3
        replace e4 : _ = some (Value.slice no l1 nc) := e4
        replace e5 : _ = some (Value.int .i64 (R1.1.sig : Int)) := e5
        replace e6 : _ = some (Value.int .i64 (R1.1.steps : Int)) := e6
        clear hb10 hm10 hb9x x11 y11
        go_wp2_with fail
        rw [← HW11.out]
        (with_reducible refine Calls.mono hsame ?_)
        rintro e w12 ⟨rfl, hb12⟩
        have HB12 := hide (HB11.out.trans (hb12.mono HB11.out.size))
        have haw := awake_true w12 (HK.out.below HB12.out)
        have hRR : (R1.2 == R1.2) = true := by simp
        clear hb12 hsame d0 d1 d2 d3 d4 d5 d6 e0 e1 e2 e3 e4 e5 e6
        go_wp2_with fail
        (with_reducible refine Calls.mono haw ?_)
        rintro e w13 ⟨rfl, hb13⟩
        have HB13 := hide (HB12.out.trans (hb13.mono HB12.out.size))
        clear hb13 haw
        go_wp2
        go_ret
        exact ⟨rfl, HB13.out⟩
end Go.Proofs.YtlngeonfabahnaaDoor
