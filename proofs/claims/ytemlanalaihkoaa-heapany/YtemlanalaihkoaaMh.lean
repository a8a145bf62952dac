/-
  The contract of settle's closure: two timers are changed about. Own work.
-/
import Derived.Test.YtemlanalaihkoaaMg
namespace Go.Proofs.Ytemlanalaihkoaa
open Go.RowKit Go.Sort

/-- where the timers stand, in numbers -/
def LI (l : Int → Option Nat) : Int → Option Int := fun id => match l id with
  | some i => some (i : Int)
  | none => none
theorem LI_some (l : Int → Option Nat) (id : Int) : (LI l id).isSome = (l id).isSome := by
  unfold LI
  cases l id <;> rfl
theorem LI_set (l : Int → Option Nat) (id : Int) (i : Nat) : setM (LI l) id i = LI (setL l id i) := by
  funext x
  unfold setM LI setL
  split <;> rfl
theorem LI_del (l : Int → Option Nat) (id : Int) : delM (LI l) id = LI (delLk l id) := by
  funext x
  unfold delM LI delLk
  split <;> rfl
theorem two_same (w : World) (g o : Nat) (u v : Value) (p : Addr) (hp : p.block ≠ g) : ((w.setCell ⟨g, o, none⟩ u).setCell ⟨g, o + 1, none⟩ v).cell? p = w.cell? p := by
  rw [World.cell?_setCell_far _ _ _ _ (Ne.symm hp), World.cell?_setCell_far _ _ _ _ (Ne.symm hp)]
theorem two_heap (w : World) (g o : Nat) (u v : Value) (k : Nat) (hk : k ≠ g) : ((w.setCell ⟨g, o, none⟩ u).setCell ⟨g, o + 1, none⟩ v).heap[k]? = w.heap[k]? := by
  rw [Below.heap_setCell _ _ _ _ hk, Below.heap_setCell _ _ _ _ hk]

/-- two timers are changed about in memory -/
theorem Sm.swp {w : World} {sb mb most n g cap : Nat} {f : Nat → Tm} (h : Sm w sb mb (.slice (some ⟨g, 0, none⟩) n cap) most n f) (a b : Nat) (ha : a < n) (hb : b < n) :
    Sm ((((w.setCell ⟨g, a * 2, none⟩ (.int .i64 (f b).1)).setCell ⟨g, a * 2 + 1, none⟩ (.int .i64 (f b).2)).setCell ⟨g, b * 2, none⟩ (.int .i64 (f a).1)).setCell ⟨g, b * 2 + 1, none⟩ (.int .i64 (f a).2)) sb mb (.slice (some ⟨g, 0, none⟩) n cap) most n (Go.Proofs.Ytemlanalaihkoaa.swp f a b) := by
  have hne : sb ≠ g := fun e => h.row_ne (by rw [e]; rfl)
  refine ⟨?_, ?_, h.le, h.mx, fun i hi => ?_⟩
  · rw [two_heap _ _ _ _ _ _ hne, two_heap _ _ _ _ _ _ hne]
    exact h.cs
  · refine ((h.tr.set a ha (f b)).set b hb (f a)).congr fun i hi => ?_
    unfold Go.Proofs.Ytemlanalaihkoaa.swp setF
    by_cases e1 : i = a
    · by_cases e2 : i = b
      · rw [if_pos e1, if_pos e2, ← e1, ← e2]
      · rw [if_pos e1, if_neg e2, if_pos e1]
    · by_cases e2 : i = b
      · rw [if_neg e1, if_pos e2, if_pos e2]
      · rw [if_neg e1, if_neg e2, if_neg e2, if_neg e1]
  · unfold Go.Proofs.Ytemlanalaihkoaa.swp
    split
    · exact h.rg b hb
    · split
      · exact h.rg a ha
      · exact h.rg i hi

set_option maxRecDepth 100000 in
set_option maxHeartbeats 3200000 in
theorem change_any {w : World} {sb mb most n cs : Nat} {tv : Value} {f : Nat → Tm} {l : Int → Option Nat} (h : Sm w sb mb tv most n f) (hm : Mp w mb n 3 (LI l)) (hl : PL l f n)
    (hc : w.heap[cs]? = some (.cells #[.pointer (some ⟨sb, 0, none⟩)] 60 (0, 0))) (a b : Nat) (ha : a < n) (hb : b < n) (hab : a ≠ b) :
    Calls Try.prog 41 #[.int .i64 a, .int .i64 b, .pointer (some ⟨cs, 0, none⟩)] w fun e w' => e = .returned (.tuple #[]) ∧ Sm w' sb mb tv most n (Go.Proofs.Ytemlanalaihkoaa.swp f a b) ∧ Mp w' mb n 3 (LI (setL (setL l (f b).2 a) (f a).2 b)) ∧ Chg (Blk sb mb tv) w w' := by
  obtain ⟨g, cap, hv, hcap, hgs, hgl, hfz, hcc⟩ := h.rows (by omega)
  subst hv
  have hcsg : cs ≠ g := by
    obtain ⟨cur, hcu⟩ := h.tr.elem g rfl
    exact ne_of_elem hc hcu (by decide)
  obtain ⟨es, ck, hmap⟩ := hm.isMap
  have hmg : mb ≠ g := by
    rintro rfl
    obtain ⟨cur, hcu⟩ := h.tr.elem mb rfl
    rw [hmap] at hcu; cases hcu
  have hms : mb ≠ sb := by
    rintro rfl
    have := h.cs
    rw [hmap] at this; cases this
  have hmc : mb ≠ cs := by
    rintro rfl
    rw [hmap] at hc; cases hc
  obtain ⟨ra1, ra2⟩ := h.rg a ha
  obtain ⟨rb1, rb2⟩ := h.rg b hb
  have hn : n ≤ 65536 := Nat.le_trans h.le h.mx
  have hca : w.cell? ⟨cs, 0, none⟩ = some (.pointer (some ⟨sb, 0, none⟩)) := by rw [cell_of hc]; rfl
  have s1 := h.s1
  obtain ⟨a0, a1⟩ := hcc a ha
  obtain ⟨b0, b1⟩ := hcc b hb
  have fa0 := hfz (a * 2)
  have fa1 := hfz (a * 2 + 1)
  have fb0 := hfz (b * 2)
  have fb1 := hfz (b * 2 + 1)
  have hsw := h.swp a b ha hb
  -- behind the two stores
  obtain ⟨W, HW⟩ := named ((((w.setCell ⟨g, a * 2, none⟩ (.int .i64 (f b).1)).setCell ⟨g, a * 2 + 1, none⟩ (.int .i64 (f b).2)).setCell ⟨g, b * 2, none⟩ (.int .i64 (f a).1)).setCell ⟨g, b * 2 + 1, none⟩ (.int .i64 (f a).2))
  rw [← HW.out] at hsw
  have hWh : ∀ k, k ≠ g → W.heap[k]? = w.heap[k]? := fun k hk => by rw [HW.out, two_heap _ _ _ _ _ _ hk, two_heap _ _ _ _ _ _ hk]
  have hchg : Chg (Blk sb mb (.slice (some ⟨g, 0, none⟩) n cap)) w W := by
    rw [HW.out]
    exact ((((Chg.refl _ w).setCell (p := ⟨g, a * 2, none⟩) (.inl (.inr (.inr rfl))) _).setCell (p := ⟨g, a * 2 + 1, none⟩) (.inl (.inr (.inr rfl))) _).setCell (p := ⟨g, b * 2, none⟩) (.inl (.inr (.inr rfl))) _).setCell (p := ⟨g, b * 2 + 1, none⟩) (.inl (.inr (.inr rfl))) _
  have hmW : Mp W.drew.drew mb n 3 (LI l) := hm.heap (hWh mb hmg)
  obtain ⟨va, sta, hra, hsta⟩ := hmW.entry mt76 (by omega) rb2 (by rw [LI_some, (hl _ b).2 ⟨hb, rfl⟩]; rfl)
  obtain ⟨w4, hr4, hm4, hg4, hz4⟩ := hsta a (by unfold I64; omega)
  rw [LI_set] at hm4
  obtain ⟨vb, stb, hrb, hstb⟩ := hm4.entry mt76 (by omega) ra2 (by rw [LI_some, setL]; split; rfl; rw [(hl _ a).2 ⟨ha, rfl⟩]; rfl)
  obtain ⟨w5, hr5, hm5, hg5, hz5⟩ := hstb b (by unfold I64; omega)
  rw [LI_set] at hm5
  have HE : Hid (Sm w5 sb mb (.slice (some ⟨g, 0, none⟩) n cap) most n (Go.Proofs.Ytemlanalaihkoaa.swp f a b) ∧ Mp w5 mb n 3 (LI (setL (setL l (f b).2 a) (f a).2 b)) ∧ Chg (Blk sb mb (.slice (some ⟨g, 0, none⟩) n cap)) w w5) := by
    have k1 : ∀ k, k < W.heap.size → k ≠ mb → w5.heap[k]? = W.heap[k]? := fun k hk hne => by
      rw [hg5.block k (by rw [hz4]; exact hk) (fun e => hne (Option.some.inj e)), hg4.block k hk (fun e => hne (Option.some.inj e))]; rfl
    refine ⟨hsw.heap (k1 sb (lt_of hsw.cs) (Ne.symm hms)) (fun x hx => k1 x (hsw.tr.lt x hx) ?_), hm5, ?_⟩
    · rintro rfl
      exact hmg (Option.some.inj hx).symm
    · refine ((hchg.drew.drew.grown hg4 ?_).grown hg5 ?_)
      · rintro k hk; exact .inl (.inr (.inl (Option.some.inj hk).symm))
      · rintro k hk; exact .inl (.inr (.inl (Option.some.inj hk).symm))
  obtain ⟨x0, HX0⟩ := named (f a).1
  obtain ⟨x1, HX1⟩ := named (f a).2
  obtain ⟨y0, HY0⟩ := named (f b).1
  obtain ⟨y1, HY1⟩ := named (f b).2
  obtain ⟨R, HR⟩ := named (Go.Proofs.Ytemlanalaihkoaa.swp f a b)
  obtain ⟨R2, HR2⟩ := named (LI (setL (setL l (f b).2 a) (f a).2 b))
  rw [← HR.out, ← HR2.out] at HE ⊢
  have wa : W.cell? ⟨g, a * 2 + 1, none⟩ = some (.int .i64 y1) := by
    obtain ⟨g', cap', hv', -, -, -, -, hh⟩ := hsw.rows (by omega)
    cases hv'
    rw [(hh a ha).2, swp_l, HY1.out]
  have wb : W.cell? ⟨g, b * 2 + 1, none⟩ = some (.int .i64 x1) := by
    obtain ⟨g', cap', hv', -, -, -, -, hh⟩ := hsw.rows (by omega)
    cases hv'
    rw [(hh b hb).2, swp_r, HX1.out]
  have wc : W.cell? ⟨cs, 0, none⟩ = some (.pointer (some ⟨sb, 0, none⟩)) := by
    rw [cell_of ((hWh cs hcsg).trans hc)]; rfl
  have ws1 := hsw.s1
  have ws2 := hsw.s2
  simp only [← HX0.out, ← HX1.out, ← HY0.out, ← HY1.out] at a0 a1 b0 b1 hra hrb hr4 hr5 HW
  have haI : (a : Int) < (n : Int) := by omega
  have hbI : (b : Int) < (n : Int) := by omega
  have hgc : g ≠ cs := Ne.symm hcsg
  have hs0 : w.drew.cell? ⟨cs, 0, none⟩ = some (.pointer (some ⟨sb, 0, none⟩)) ∧ w.drew.cell? ⟨sb, 1, none⟩ = some (.slice (some ⟨g, 0, none⟩) n cap) := ⟨hca, s1⟩
  have hs1 : ((w.setCell ⟨g, a * 2, none⟩ (.int .i64 y0)).setCell ⟨g, a * 2 + 1, none⟩ (.int .i64 y1)).drew.cell? ⟨cs, 0, none⟩ = some (.pointer (some ⟨sb, 0, none⟩)) ∧ ((w.setCell ⟨g, a * 2, none⟩ (.int .i64 y0)).setCell ⟨g, a * 2 + 1, none⟩ (.int .i64 y1)).drew.cell? ⟨sb, 1, none⟩ = some (.slice (some ⟨g, 0, none⟩) n cap) := ⟨(two_same w g _ _ _ ⟨cs, 0, none⟩ hcsg).trans hca, (two_same w g _ _ _ ⟨sb, 1, none⟩ (Ne.symm hgs)).trans s1⟩
  have hs2 : ((((w.setCell ⟨g, a * 2, none⟩ (.int .i64 y0)).setCell ⟨g, a * 2 + 1, none⟩ (.int .i64 y1)).setCell ⟨g, b * 2, none⟩ (.int .i64 x0)).setCell ⟨g, b * 2 + 1, none⟩ (.int .i64 x1)).drew.cell? ⟨cs, 0, none⟩ = some (.pointer (some ⟨sb, 0, none⟩)) ∧ ((((w.setCell ⟨g, a * 2, none⟩ (.int .i64 y0)).setCell ⟨g, a * 2 + 1, none⟩ (.int .i64 y1)).setCell ⟨g, b * 2, none⟩ (.int .i64 x0)).setCell ⟨g, b * 2 + 1, none⟩ (.int .i64 x1)).drew.cell? ⟨sb, 1, none⟩ = some (.slice (some ⟨g, 0, none⟩) n cap) := ⟨(two_same _ g _ _ _ ⟨cs, 0, none⟩ hcsg).trans ((two_same w g _ _ _ ⟨cs, 0, none⟩ hcsg).trans hca), (two_same _ g _ _ _ ⟨sb, 1, none⟩ (Ne.symm hgs)).trans ((two_same w g _ _ _ ⟨sb, 1, none⟩ (Ne.symm hgs)).trans s1)⟩
  have ht0 : W.drew.drew.cell? ⟨cs, 0, none⟩ = some (.pointer (some ⟨sb, 0, none⟩)) ∧ W.drew.drew.cell? ⟨sb, 1, none⟩ = some (.slice (some ⟨g, 0, none⟩) n cap) ∧ W.drew.drew.cell? ⟨sb, 2, none⟩ = some (.map (some mb)) ∧ W.drew.drew.cell? ⟨g, a * 2 + 1, none⟩ = some (.int .i64 y1) ∧ W.drew.drew.cell? ⟨g, b * 2 + 1, none⟩ = some (.int .i64 x1) := ⟨wc, ws1, ws2, wa, wb⟩
  have ht1 : w4.cell? ⟨cs, 0, none⟩ = some (.pointer (some ⟨sb, 0, none⟩)) ∧ w4.cell? ⟨sb, 1, none⟩ = some (.slice (some ⟨g, 0, none⟩) n cap) ∧ w4.cell? ⟨sb, 2, none⟩ = some (.map (some mb)) ∧ w4.cell? ⟨g, a * 2 + 1, none⟩ = some (.int .i64 y1) ∧ w4.cell? ⟨g, b * 2 + 1, none⟩ = some (.int .i64 x1) := by
    have k : ∀ (p : Addr) v, p.block ≠ mb → W.cell? p = some v → w4.cell? p = some v := fun p v hp h => by
      rw [World.cell?_of_block (w := W.drew.drew) (hg4.block p.block (World.block_lt_of_cell? W p h) (fun e => hp (Option.some.inj e)))]; exact h
    exact ⟨k _ _ (Ne.symm hmc) wc, k _ _ (Ne.symm hms) ws1, k _ _ (Ne.symm hms) ws2, k _ _ (Ne.symm hmg) wa, k _ _ (Ne.symm hmg) wb⟩
  have ht2 : w5.cell? ⟨cs, 0, none⟩ = some (.pointer (some ⟨sb, 0, none⟩)) ∧ w5.cell? ⟨sb, 1, none⟩ = some (.slice (some ⟨g, 0, none⟩) n cap) ∧ w5.cell? ⟨sb, 2, none⟩ = some (.map (some mb)) ∧ w5.cell? ⟨g, a * 2 + 1, none⟩ = some (.int .i64 y1) ∧ w5.cell? ⟨g, b * 2 + 1, none⟩ = some (.int .i64 x1) := by
    obtain ⟨t1, t2, t3, t4, t5⟩ := ht1
    have k : ∀ (p : Addr) v, p.block ≠ mb → w4.cell? p = some v → w5.cell? p = some v := fun p v hp h => by
      rw [World.cell?_of_block (hg5.block p.block (World.block_lt_of_cell? w4 p h) (fun e => hp (Option.some.inj e)))]; exact h
    exact ⟨k _ _ (Ne.symm hmc) t1, k _ _ (Ne.symm hms) t2, k _ _ (Ne.symm hms) t3, k _ _ (Ne.symm hmg) t4, k _ _ (Ne.symm hmg) t5⟩
  clear hfz hcc h hm hl hc hsw hWh hchg hmW hsta hstb hm4 hm5 hg4 hg5 hz4 hz5 wa wb wc ws1 ws2 hmap ra1 ra2 rb1 rb2
  go_enter Try.func41, Try.ntmps41
  go_wp2_with fail
  refine wp_region_held_drew (S := (fun w' => w'.cell? ⟨cs, 0, none⟩ = some (.pointer (some ⟨sb, 0, none⟩)) ∧ w'.cell? ⟨sb, 1, none⟩ = some (.slice (some ⟨g, 0, none⟩) n cap))) (by kernel_rfl) hs0 (fun _ => ?_)
  refine wpAnyH_take (i := 0) (oi := { dst := some 5, op := Go.Op.load 60 (Go.Operand.tmp 2), type := 60, pos := "heap.go:136", after := #[], guard := none }) (v := ?_) rfl (by kernel_rfl) (by kernel_rfl) (by kernel_rfl) (fun _ _ _ h => h) (Or.inl ⟨by rfl, ?hy1⟩) hs0 ?_
  case hy1 =>
    intro u hu
    obtain ⟨u0, u1⟩ := hu
    go_simp
    try with_reducible rfl
  simp only [Act.put, List.setIfInBounds_toArray, List.set_cons_zero, List.set_cons_succ]
  refine wpAnyH_take (i := 1) (oi := { dst := some 6, op := Go.Op.nilCheck (Go.Operand.tmp 5), type := 0, pos := "heap.go:136", after := #[{ on := 0, ground := Go.Ground.data }], guard := none }) (v := ?_) rfl (by kernel_rfl) (by kernel_rfl) (by kernel_rfl) (fun _ _ _ h => h) (Or.inl ⟨by rfl, ?hy2⟩) hs0 ?_
  case hy2 =>
    intro u hu
    obtain ⟨u0, u1⟩ := hu
    go_simp
    try with_reducible rfl
  simp only [Act.put, List.setIfInBounds_toArray, List.set_cons_zero, List.set_cons_succ]
  refine wpAnyH_take (i := 2) (oi := { dst := some 7, op := Go.Op.fieldAddr 79 (Go.Operand.tmp 6) 1, type := 0, pos := "heap.go:136", after := #[{ on := 1, ground := Go.Ground.data }], guard := none }) (v := ?_) rfl (by kernel_rfl) (by kernel_rfl) (by kernel_rfl) (fun _ _ _ h => h) (Or.inl ⟨by rfl, ?hy3⟩) hs0 ?_
  case hy3 =>
    intro u hu
    obtain ⟨u0, u1⟩ := hu
    go_simp
    try with_reducible rfl
  simp only [Act.put, List.setIfInBounds_toArray, List.set_cons_zero, List.set_cons_succ]
  refine wpAnyH_take (i := 3) (oi := { dst := some 8, op := Go.Op.load 38 (Go.Operand.tmp 7), type := 38, pos := "heap.go:136", after := #[{ on := 2, ground := Go.Ground.data }], guard := none }) (v := ?_) rfl (by kernel_rfl) (by kernel_rfl) (by kernel_rfl) (fun _ _ _ h => h) (Or.inl ⟨by rfl, ?hy4⟩) hs0 ?_
  case hy4 =>
    intro u hu
    obtain ⟨u0, u1⟩ := hu
    go_simp
    try with_reducible rfl
  simp only [Act.put, List.setIfInBounds_toArray, List.set_cons_zero, List.set_cons_succ]
  refine wpAnyH_take (i := 4) (oi := { dst := some 9, op := Go.Op.move (Go.Operand.tmp 0), type := 3, pos := "heap.go:136", after := #[], guard := none }) (v := ?_) rfl (by kernel_rfl) (by kernel_rfl) (by kernel_rfl) (fun _ _ _ h => h) (Or.inl ⟨by rfl, ?hy5⟩) hs0 ?_
  case hy5 =>
    intro u hu
    obtain ⟨u0, u1⟩ := hu
    go_simp
    try with_reducible rfl
  simp only [Act.put, List.setIfInBounds_toArray, List.set_cons_zero, List.set_cons_succ]
  refine wpAnyH_take (i := 5) (oi := { dst := some 10, op := Go.Op.load 60 (Go.Operand.tmp 2), type := 60, pos := "heap.go:136", after := #[], guard := none }) (v := ?_) rfl (by kernel_rfl) (by kernel_rfl) (by kernel_rfl) (fun _ _ _ h => h) (Or.inl ⟨by rfl, ?hy6⟩) hs0 ?_
  case hy6 =>
    intro u hu
    obtain ⟨u0, u1⟩ := hu
    go_simp
    try with_reducible rfl
  simp only [Act.put, List.setIfInBounds_toArray, List.set_cons_zero, List.set_cons_succ]
  refine wpAnyH_take (i := 6) (oi := { dst := some 11, op := Go.Op.nilCheck (Go.Operand.tmp 10), type := 0, pos := "heap.go:136", after := #[{ on := 5, ground := Go.Ground.data }], guard := none }) (v := ?_) rfl (by kernel_rfl) (by kernel_rfl) (by kernel_rfl) (fun _ _ _ h => h) (Or.inl ⟨by rfl, ?hy7⟩) hs0 ?_
  case hy7 =>
    intro u hu
    obtain ⟨u0, u1⟩ := hu
    go_simp
    try with_reducible rfl
  simp only [Act.put, List.setIfInBounds_toArray, List.set_cons_zero, List.set_cons_succ]
  refine wpAnyH_take (i := 7) (oi := { dst := some 12, op := Go.Op.fieldAddr 79 (Go.Operand.tmp 11) 1, type := 0, pos := "heap.go:136", after := #[{ on := 6, ground := Go.Ground.data }], guard := none }) (v := ?_) rfl (by kernel_rfl) (by kernel_rfl) (by kernel_rfl) (fun _ _ _ h => h) (Or.inl ⟨by rfl, ?hy8⟩) hs0 ?_
  case hy8 =>
    intro u hu
    obtain ⟨u0, u1⟩ := hu
    go_simp
    try with_reducible rfl
  simp only [Act.put, List.setIfInBounds_toArray, List.set_cons_zero, List.set_cons_succ]
  refine wpAnyH_take (i := 8) (oi := { dst := some 13, op := Go.Op.load 38 (Go.Operand.tmp 12), type := 38, pos := "heap.go:136", after := #[{ on := 7, ground := Go.Ground.data }], guard := none }) (v := ?_) rfl (by kernel_rfl) (by kernel_rfl) (by kernel_rfl) (fun _ _ _ h => h) (Or.inl ⟨by rfl, ?hy9⟩) hs0 ?_
  case hy9 =>
    intro u hu
    obtain ⟨u0, u1⟩ := hu
    go_simp
    try with_reducible rfl
  simp only [Act.put, List.setIfInBounds_toArray, List.set_cons_zero, List.set_cons_succ]
  refine wpAnyH_take (i := 9) (oi := { dst := some 14, op := Go.Op.move (Go.Operand.tmp 1), type := 3, pos := "heap.go:136", after := #[{ on := 25, ground := Go.Ground.gcOnly Go.Departure.lateStores }], guard := none }) (v := ?_) rfl (by kernel_rfl) (by kernel_rfl) (by kernel_rfl) (fun _ _ _ h => h) (Or.inl ⟨by rfl, ?hy10⟩) hs0 ?_
  case hy10 =>
    intro u hu
    obtain ⟨u0, u1⟩ := hu
    go_simp
    try with_reducible rfl
  simp only [Act.put, List.setIfInBounds_toArray, List.set_cons_zero, List.set_cons_succ]
  refine wpAnyH_take (i := 10) (oi := { dst := some 15, op := Go.Op.load 60 (Go.Operand.tmp 2), type := 60, pos := "heap.go:136", after := #[], guard := none }) (v := ?_) rfl (by kernel_rfl) (by kernel_rfl) (by kernel_rfl) (fun _ _ _ h => h) (Or.inl ⟨by rfl, ?hy11⟩) hs0 ?_
  case hy11 =>
    intro u hu
    obtain ⟨u0, u1⟩ := hu
    go_simp
    try with_reducible rfl
  simp only [Act.put, List.setIfInBounds_toArray, List.set_cons_zero, List.set_cons_succ]
  refine wpAnyH_take (i := 11) (oi := { dst := some 16, op := Go.Op.nilCheck (Go.Operand.tmp 15), type := 0, pos := "heap.go:136", after := #[{ on := 10, ground := Go.Ground.data }], guard := none }) (v := ?_) rfl (by kernel_rfl) (by kernel_rfl) (by kernel_rfl) (fun _ _ _ h => h) (Or.inl ⟨by rfl, ?hy12⟩) hs0 ?_
  case hy12 =>
    intro u hu
    obtain ⟨u0, u1⟩ := hu
    go_simp
    try with_reducible rfl
  simp only [Act.put, List.setIfInBounds_toArray, List.set_cons_zero, List.set_cons_succ]
  refine wpAnyH_take (i := 12) (oi := { dst := some 17, op := Go.Op.fieldAddr 79 (Go.Operand.tmp 16) 1, type := 0, pos := "heap.go:136", after := #[{ on := 11, ground := Go.Ground.data }], guard := none }) (v := ?_) rfl (by kernel_rfl) (by kernel_rfl) (by kernel_rfl) (fun _ _ _ h => h) (Or.inl ⟨by rfl, ?hy13⟩) hs0 ?_
  case hy13 =>
    intro u hu
    obtain ⟨u0, u1⟩ := hu
    go_simp
    try with_reducible rfl
  simp only [Act.put, List.setIfInBounds_toArray, List.set_cons_zero, List.set_cons_succ]
  refine wpAnyH_take (i := 13) (oi := { dst := some 18, op := Go.Op.load 38 (Go.Operand.tmp 17), type := 38, pos := "heap.go:136", after := #[{ on := 12, ground := Go.Ground.data }], guard := none }) (v := ?_) rfl (by kernel_rfl) (by kernel_rfl) (by kernel_rfl) (fun _ _ _ h => h) (Or.inl ⟨by rfl, ?hy14⟩) hs0 ?_
  case hy14 =>
    intro u hu
    obtain ⟨u0, u1⟩ := hu
    go_simp
    try with_reducible rfl
  simp only [Act.put, List.setIfInBounds_toArray, List.set_cons_zero, List.set_cons_succ]
  refine wpAnyH_take (i := 14) (oi := { dst := some 19, op := Go.Op.move (Go.Operand.tmp 1), type := 3, pos := "heap.go:136", after := #[], guard := none }) (v := ?_) rfl (by kernel_rfl) (by kernel_rfl) (by kernel_rfl) (fun _ _ _ h => h) (Or.inl ⟨by rfl, ?hy15⟩) hs0 ?_
  case hy15 =>
    intro u hu
    obtain ⟨u0, u1⟩ := hu
    go_simp
    try with_reducible rfl
  simp only [Act.put, List.setIfInBounds_toArray, List.set_cons_zero, List.set_cons_succ]
  refine wpAnyH_take (i := 15) (oi := { dst := some 20, op := Go.Op.indexAddr 38 (Go.Operand.tmp 18) (Go.Operand.tmp 19), type := 0, pos := "heap.go:136", after := #[{ on := 13, ground := Go.Ground.data }, { on := 14, ground := Go.Ground.data }], guard := none }) (v := ?_) rfl (by kernel_rfl) (by kernel_rfl) (by kernel_rfl) (fun _ _ _ h => h) (Or.inl ⟨by rfl, ?hy16⟩) hs0 ?_
  case hy16 =>
    intro u hu
    obtain ⟨u0, u1⟩ := hu
    go_simp
    try with_reducible rfl
  simp only [Act.put, List.setIfInBounds_toArray, List.set_cons_zero, List.set_cons_succ]
  refine wpAnyH_take (i := 17) (oi := { dst := some 22, op := Go.Op.load 60 (Go.Operand.tmp 2), type := 60, pos := "heap.go:136", after := #[], guard := none }) (v := ?_) rfl (by kernel_rfl) (by kernel_rfl) (by kernel_rfl) (fun _ _ _ h => h) (Or.inl ⟨by rfl, ?hy17⟩) hs0 ?_
  case hy17 =>
    intro u hu
    obtain ⟨u0, u1⟩ := hu
    go_simp
    try with_reducible rfl
  simp only [Act.put, List.setIfInBounds_toArray, List.set_cons_zero, List.set_cons_succ]
  refine wpAnyH_take (i := 18) (oi := { dst := some 23, op := Go.Op.nilCheck (Go.Operand.tmp 22), type := 0, pos := "heap.go:136", after := #[{ on := 17, ground := Go.Ground.data }], guard := none }) (v := ?_) rfl (by kernel_rfl) (by kernel_rfl) (by kernel_rfl) (fun _ _ _ h => h) (Or.inl ⟨by rfl, ?hy18⟩) hs0 ?_
  case hy18 =>
    intro u hu
    obtain ⟨u0, u1⟩ := hu
    go_simp
    try with_reducible rfl
  simp only [Act.put, List.setIfInBounds_toArray, List.set_cons_zero, List.set_cons_succ]
  refine wpAnyH_take (i := 19) (oi := { dst := some 24, op := Go.Op.fieldAddr 79 (Go.Operand.tmp 23) 1, type := 0, pos := "heap.go:136", after := #[{ on := 18, ground := Go.Ground.data }], guard := none }) (v := ?_) rfl (by kernel_rfl) (by kernel_rfl) (by kernel_rfl) (fun _ _ _ h => h) (Or.inl ⟨by rfl, ?hy19⟩) hs0 ?_
  case hy19 =>
    intro u hu
    obtain ⟨u0, u1⟩ := hu
    go_simp
    try with_reducible rfl
  simp only [Act.put, List.setIfInBounds_toArray, List.set_cons_zero, List.set_cons_succ]
  refine wpAnyH_take (i := 20) (oi := { dst := some 25, op := Go.Op.load 38 (Go.Operand.tmp 24), type := 38, pos := "heap.go:136", after := #[{ on := 19, ground := Go.Ground.data }], guard := none }) (v := ?_) rfl (by kernel_rfl) (by kernel_rfl) (by kernel_rfl) (fun _ _ _ h => h) (Or.inl ⟨by rfl, ?hy20⟩) hs0 ?_
  case hy20 =>
    intro u hu
    obtain ⟨u0, u1⟩ := hu
    go_simp
    try with_reducible rfl
  simp only [Act.put, List.setIfInBounds_toArray, List.set_cons_zero, List.set_cons_succ]
  refine wpAnyH_take (i := 21) (oi := { dst := some 26, op := Go.Op.move (Go.Operand.tmp 0), type := 3, pos := "heap.go:136", after := #[], guard := none }) (v := ?_) rfl (by kernel_rfl) (by kernel_rfl) (by kernel_rfl) (fun _ _ _ h => h) (Or.inl ⟨by rfl, ?hy21⟩) hs0 ?_
  case hy21 =>
    intro u hu
    obtain ⟨u0, u1⟩ := hu
    go_simp
    try with_reducible rfl
  simp only [Act.put, List.setIfInBounds_toArray, List.set_cons_zero, List.set_cons_succ]
  refine wpAnyH_take (i := 22) (oi := { dst := some 27, op := Go.Op.indexAddr 38 (Go.Operand.tmp 25) (Go.Operand.tmp 26), type := 0, pos := "heap.go:136", after := #[{ on := 20, ground := Go.Ground.data }, { on := 21, ground := Go.Ground.data }], guard := none }) (v := ?_) rfl (by kernel_rfl) (by kernel_rfl) (by kernel_rfl) (fun _ _ _ h => h) (Or.inl ⟨by rfl, ?hy22⟩) hs0 ?_
  case hy22 =>
    intro u hu
    obtain ⟨u0, u1⟩ := hu
    go_simp
    try with_reducible rfl
  simp only [Act.put, List.setIfInBounds_toArray, List.set_cons_zero, List.set_cons_succ]
  refine wpAnyH_ready (rs := [16, 23]) (by kernel_rfl) (by simp) ?_
  refine AllReadyH.cons (o := { dst := some 21, op := Go.Op.load 30 (Go.Operand.tmp 20), type := 30, pos := "heap.go:136", after := #[{ on := 15, ground := Go.Ground.data }], guard := none }) rfl (fun K hK => ?b23_16) (AllReadyH.cons (o := { dst := some 28, op := Go.Op.load 30 (Go.Operand.tmp 27), type := 30, pos := "heap.go:136", after := #[{ on := 22, ground := Go.Ground.data }], guard := none }) rfl (fun K hK => ?b23_23) AllReadyH.nil)
  case' b23_16 =>
    go_simp
    refine hK.out _ _ hs0 (fun _ => ?_)
    clear hK K
    try simp only [Act.put, List.setIfInBounds_toArray, List.set_cons_zero, List.set_cons_succ]
    refine wpAnyH_ready (rs := [23]) (by kernel_rfl) (by simp) ?_
    refine AllReadyH.cons (o := { dst := some 28, op := Go.Op.load 30 (Go.Operand.tmp 27), type := 30, pos := "heap.go:136", after := #[{ on := 22, ground := Go.Ground.data }], guard := none }) rfl (fun K hK => ?_) AllReadyH.nil
    go_simp
    refine hK.out _ _ hs0 (fun _ => ?_)
    clear hK K
    try simp only [Act.put, List.setIfInBounds_toArray, List.set_cons_zero, List.set_cons_succ]
    refine wpAnyH_take (i := 24) (oi := { dst := some 29, op := Go.Op.indexAddr 38 (Go.Operand.tmp 8) (Go.Operand.tmp 9), type := 0, pos := "heap.go:136", after := #[{ on := 3, ground := Go.Ground.data }, { on := 4, ground := Go.Ground.data }, { on := 0, ground := Go.Ground.phase }, { on := 1, ground := Go.Ground.phase }, { on := 2, ground := Go.Ground.phase }, { on := 3, ground := Go.Ground.phase }, { on := 4, ground := Go.Ground.phase }, { on := 5, ground := Go.Ground.textOnly Go.Departure.inlinedCapture }, { on := 6, ground := Go.Ground.textOnly Go.Departure.lateStoresUnsure }, { on := 7, ground := Go.Ground.textOnly Go.Departure.lateStoresUnsure }, { on := 8, ground := Go.Ground.phase }, { on := 9, ground := Go.Ground.textOnly Go.Departure.lateStores }, { on := 10, ground := Go.Ground.phase }, { on := 11, ground := Go.Ground.phase }, { on := 12, ground := Go.Ground.phase }, { on := 13, ground := Go.Ground.phase }, { on := 14, ground := Go.Ground.phase }, { on := 15, ground := Go.Ground.phase }, { on := 16, ground := Go.Ground.phase }, { on := 17, ground := Go.Ground.textOnly Go.Departure.inlinedCapture }, { on := 18, ground := Go.Ground.textOnly Go.Departure.lateStoresUnsure }, { on := 19, ground := Go.Ground.textOnly Go.Departure.lateStoresUnsure }, { on := 20, ground := Go.Ground.phase }, { on := 21, ground := Go.Ground.textOnly Go.Departure.lateStores }, { on := 22, ground := Go.Ground.textOnly Go.Departure.lateStoresUnsure }, { on := 23, ground := Go.Ground.phase }], guard := none }) (v := ?_) rfl (by kernel_rfl) (by kernel_rfl) (by kernel_rfl) (fun _ _ _ h => h) (Or.inl ⟨by rfl, ?hy25⟩) hs0 ?_
    case hy25 =>
      intro u hu
      obtain ⟨u0, u1⟩ := hu
      go_simp
      try with_reducible rfl
    simp only [Act.put, List.setIfInBounds_toArray, List.set_cons_zero, List.set_cons_succ]
    refine wpAnyH_ready (rs := [25]) (by kernel_rfl) (by simp) ?_
    refine AllReadyH.cons (o := { dst := none, op := Go.Op.store 30 (Go.Operand.tmp 29) (Go.Operand.tmp 21), type := 0, pos := "heap.go:136", after := #[{ on := 24, ground := Go.Ground.data }, { on := 16, ground := Go.Ground.data }, { on := 0, ground := Go.Ground.phase }, { on := 1, ground := Go.Ground.phase }, { on := 2, ground := Go.Ground.phase }, { on := 3, ground := Go.Ground.phase }, { on := 4, ground := Go.Ground.phase }, { on := 5, ground := Go.Ground.textOnly Go.Departure.inlinedCapture }, { on := 6, ground := Go.Ground.textOnly Go.Departure.lateStoresUnsure }, { on := 7, ground := Go.Ground.textOnly Go.Departure.lateStoresUnsure }, { on := 8, ground := Go.Ground.phase }, { on := 9, ground := Go.Ground.textOnly Go.Departure.lateStores }, { on := 10, ground := Go.Ground.phase }, { on := 11, ground := Go.Ground.phase }, { on := 12, ground := Go.Ground.phase }, { on := 13, ground := Go.Ground.phase }, { on := 14, ground := Go.Ground.phase }, { on := 15, ground := Go.Ground.phase }, { on := 16, ground := Go.Ground.phase }, { on := 17, ground := Go.Ground.textOnly Go.Departure.inlinedCapture }, { on := 18, ground := Go.Ground.textOnly Go.Departure.lateStoresUnsure }, { on := 19, ground := Go.Ground.textOnly Go.Departure.lateStoresUnsure }, { on := 20, ground := Go.Ground.phase }, { on := 21, ground := Go.Ground.textOnly Go.Departure.lateStores }, { on := 22, ground := Go.Ground.textOnly Go.Departure.lateStoresUnsure }, { on := 23, ground := Go.Ground.phase }], guard := none }) rfl (fun K hK => ?_) AllReadyH.nil
    go_simp
    refine hK.out _ _ hs1 (fun _ => ?_)
    clear hK K
    try simp only [Act.put, List.setIfInBounds_toArray, List.set_cons_zero, List.set_cons_succ]
    refine wpAnyH_take (i := 26) (oi := { dst := some 30, op := Go.Op.indexAddr 38 (Go.Operand.tmp 13) (Go.Operand.tmp 14), type := 0, pos := "heap.go:136", after := #[{ on := 8, ground := Go.Ground.data }, { on := 9, ground := Go.Ground.data }, { on := 0, ground := Go.Ground.phase }, { on := 1, ground := Go.Ground.phase }, { on := 2, ground := Go.Ground.phase }, { on := 3, ground := Go.Ground.phase }, { on := 4, ground := Go.Ground.phase }, { on := 5, ground := Go.Ground.phase }, { on := 6, ground := Go.Ground.phase }, { on := 7, ground := Go.Ground.phase }, { on := 8, ground := Go.Ground.phase }, { on := 9, ground := Go.Ground.phase }, { on := 10, ground := Go.Ground.phase }, { on := 11, ground := Go.Ground.phase }, { on := 12, ground := Go.Ground.phase }, { on := 13, ground := Go.Ground.phase }, { on := 14, ground := Go.Ground.phase }, { on := 15, ground := Go.Ground.phase }, { on := 16, ground := Go.Ground.phase }, { on := 17, ground := Go.Ground.phase }, { on := 18, ground := Go.Ground.phase }, { on := 19, ground := Go.Ground.phase }, { on := 20, ground := Go.Ground.phase }, { on := 21, ground := Go.Ground.phase }, { on := 22, ground := Go.Ground.phase }, { on := 23, ground := Go.Ground.phase }, { on := 24, ground := Go.Ground.phase }, { on := 25, ground := Go.Ground.phase }], guard := none }) (v := ?_) rfl (by kernel_rfl) (by kernel_rfl) (by kernel_rfl) (fun _ _ _ h => h) (Or.inl ⟨by rfl, ?hy27⟩) hs1 ?_
    case hy27 =>
      intro u hu
      obtain ⟨u0, u1⟩ := hu
      go_simp
      try with_reducible rfl
    simp only [Act.put, List.setIfInBounds_toArray, List.set_cons_zero, List.set_cons_succ]
    refine wpAnyH_ready (rs := [27]) (by kernel_rfl) (by simp) ?_
    refine AllReadyH.cons (o := { dst := none, op := Go.Op.store 30 (Go.Operand.tmp 30) (Go.Operand.tmp 28), type := 0, pos := "heap.go:136", after := #[{ on := 26, ground := Go.Ground.data }, { on := 23, ground := Go.Ground.data }, { on := 25, ground := Go.Ground.chain }, { on := 0, ground := Go.Ground.phase }, { on := 1, ground := Go.Ground.phase }, { on := 2, ground := Go.Ground.phase }, { on := 3, ground := Go.Ground.phase }, { on := 4, ground := Go.Ground.phase }, { on := 5, ground := Go.Ground.phase }, { on := 6, ground := Go.Ground.phase }, { on := 7, ground := Go.Ground.phase }, { on := 8, ground := Go.Ground.phase }, { on := 9, ground := Go.Ground.phase }, { on := 10, ground := Go.Ground.phase }, { on := 11, ground := Go.Ground.phase }, { on := 12, ground := Go.Ground.phase }, { on := 13, ground := Go.Ground.phase }, { on := 14, ground := Go.Ground.phase }, { on := 15, ground := Go.Ground.phase }, { on := 16, ground := Go.Ground.phase }, { on := 17, ground := Go.Ground.phase }, { on := 18, ground := Go.Ground.phase }, { on := 19, ground := Go.Ground.phase }, { on := 20, ground := Go.Ground.phase }, { on := 21, ground := Go.Ground.phase }, { on := 22, ground := Go.Ground.phase }, { on := 23, ground := Go.Ground.phase }, { on := 24, ground := Go.Ground.phase }, { on := 25, ground := Go.Ground.phase }], guard := none }) rfl (fun K hK => ?_) AllReadyH.nil
    go_simp
    refine hK.out _ _ hs2 (fun _ => ?_)
    clear hK K
    try simp only [Act.put, List.setIfInBounds_toArray, List.set_cons_zero, List.set_cons_succ]
    refine wpAnyH_done (by kernel_rfl) ?_ _
  case' b23_23 =>
    go_simp
    refine hK.out _ _ hs0 (fun _ => ?_)
    clear hK K
    try simp only [Act.put, List.setIfInBounds_toArray, List.set_cons_zero, List.set_cons_succ]
    refine wpAnyH_ready (rs := [16]) (by kernel_rfl) (by simp) ?_
    refine AllReadyH.cons (o := { dst := some 21, op := Go.Op.load 30 (Go.Operand.tmp 20), type := 30, pos := "heap.go:136", after := #[{ on := 15, ground := Go.Ground.data }], guard := none }) rfl (fun K hK => ?_) AllReadyH.nil
    go_simp
    refine hK.out _ _ hs0 (fun _ => ?_)
    clear hK K
    try simp only [Act.put, List.setIfInBounds_toArray, List.set_cons_zero, List.set_cons_succ]
    refine wpAnyH_take (i := 24) (oi := { dst := some 29, op := Go.Op.indexAddr 38 (Go.Operand.tmp 8) (Go.Operand.tmp 9), type := 0, pos := "heap.go:136", after := #[{ on := 3, ground := Go.Ground.data }, { on := 4, ground := Go.Ground.data }, { on := 0, ground := Go.Ground.phase }, { on := 1, ground := Go.Ground.phase }, { on := 2, ground := Go.Ground.phase }, { on := 3, ground := Go.Ground.phase }, { on := 4, ground := Go.Ground.phase }, { on := 5, ground := Go.Ground.textOnly Go.Departure.inlinedCapture }, { on := 6, ground := Go.Ground.textOnly Go.Departure.lateStoresUnsure }, { on := 7, ground := Go.Ground.textOnly Go.Departure.lateStoresUnsure }, { on := 8, ground := Go.Ground.phase }, { on := 9, ground := Go.Ground.textOnly Go.Departure.lateStores }, { on := 10, ground := Go.Ground.phase }, { on := 11, ground := Go.Ground.phase }, { on := 12, ground := Go.Ground.phase }, { on := 13, ground := Go.Ground.phase }, { on := 14, ground := Go.Ground.phase }, { on := 15, ground := Go.Ground.phase }, { on := 16, ground := Go.Ground.phase }, { on := 17, ground := Go.Ground.textOnly Go.Departure.inlinedCapture }, { on := 18, ground := Go.Ground.textOnly Go.Departure.lateStoresUnsure }, { on := 19, ground := Go.Ground.textOnly Go.Departure.lateStoresUnsure }, { on := 20, ground := Go.Ground.phase }, { on := 21, ground := Go.Ground.textOnly Go.Departure.lateStores }, { on := 22, ground := Go.Ground.textOnly Go.Departure.lateStoresUnsure }, { on := 23, ground := Go.Ground.phase }], guard := none }) (v := ?_) rfl (by kernel_rfl) (by kernel_rfl) (by kernel_rfl) (fun _ _ _ h => h) (Or.inl ⟨by rfl, ?hy30⟩) hs0 ?_
    case hy30 =>
      intro u hu
      obtain ⟨u0, u1⟩ := hu
      go_simp
      try with_reducible rfl
    simp only [Act.put, List.setIfInBounds_toArray, List.set_cons_zero, List.set_cons_succ]
    refine wpAnyH_ready (rs := [25]) (by kernel_rfl) (by simp) ?_
    refine AllReadyH.cons (o := { dst := none, op := Go.Op.store 30 (Go.Operand.tmp 29) (Go.Operand.tmp 21), type := 0, pos := "heap.go:136", after := #[{ on := 24, ground := Go.Ground.data }, { on := 16, ground := Go.Ground.data }, { on := 0, ground := Go.Ground.phase }, { on := 1, ground := Go.Ground.phase }, { on := 2, ground := Go.Ground.phase }, { on := 3, ground := Go.Ground.phase }, { on := 4, ground := Go.Ground.phase }, { on := 5, ground := Go.Ground.textOnly Go.Departure.inlinedCapture }, { on := 6, ground := Go.Ground.textOnly Go.Departure.lateStoresUnsure }, { on := 7, ground := Go.Ground.textOnly Go.Departure.lateStoresUnsure }, { on := 8, ground := Go.Ground.phase }, { on := 9, ground := Go.Ground.textOnly Go.Departure.lateStores }, { on := 10, ground := Go.Ground.phase }, { on := 11, ground := Go.Ground.phase }, { on := 12, ground := Go.Ground.phase }, { on := 13, ground := Go.Ground.phase }, { on := 14, ground := Go.Ground.phase }, { on := 15, ground := Go.Ground.phase }, { on := 16, ground := Go.Ground.phase }, { on := 17, ground := Go.Ground.textOnly Go.Departure.inlinedCapture }, { on := 18, ground := Go.Ground.textOnly Go.Departure.lateStoresUnsure }, { on := 19, ground := Go.Ground.textOnly Go.Departure.lateStoresUnsure }, { on := 20, ground := Go.Ground.phase }, { on := 21, ground := Go.Ground.textOnly Go.Departure.lateStores }, { on := 22, ground := Go.Ground.textOnly Go.Departure.lateStoresUnsure }, { on := 23, ground := Go.Ground.phase }], guard := none }) rfl (fun K hK => ?_) AllReadyH.nil
    go_simp
    refine hK.out _ _ hs1 (fun _ => ?_)
    clear hK K
    try simp only [Act.put, List.setIfInBounds_toArray, List.set_cons_zero, List.set_cons_succ]
    refine wpAnyH_take (i := 26) (oi := { dst := some 30, op := Go.Op.indexAddr 38 (Go.Operand.tmp 13) (Go.Operand.tmp 14), type := 0, pos := "heap.go:136", after := #[{ on := 8, ground := Go.Ground.data }, { on := 9, ground := Go.Ground.data }, { on := 0, ground := Go.Ground.phase }, { on := 1, ground := Go.Ground.phase }, { on := 2, ground := Go.Ground.phase }, { on := 3, ground := Go.Ground.phase }, { on := 4, ground := Go.Ground.phase }, { on := 5, ground := Go.Ground.phase }, { on := 6, ground := Go.Ground.phase }, { on := 7, ground := Go.Ground.phase }, { on := 8, ground := Go.Ground.phase }, { on := 9, ground := Go.Ground.phase }, { on := 10, ground := Go.Ground.phase }, { on := 11, ground := Go.Ground.phase }, { on := 12, ground := Go.Ground.phase }, { on := 13, ground := Go.Ground.phase }, { on := 14, ground := Go.Ground.phase }, { on := 15, ground := Go.Ground.phase }, { on := 16, ground := Go.Ground.phase }, { on := 17, ground := Go.Ground.phase }, { on := 18, ground := Go.Ground.phase }, { on := 19, ground := Go.Ground.phase }, { on := 20, ground := Go.Ground.phase }, { on := 21, ground := Go.Ground.phase }, { on := 22, ground := Go.Ground.phase }, { on := 23, ground := Go.Ground.phase }, { on := 24, ground := Go.Ground.phase }, { on := 25, ground := Go.Ground.phase }], guard := none }) (v := ?_) rfl (by kernel_rfl) (by kernel_rfl) (by kernel_rfl) (fun _ _ _ h => h) (Or.inl ⟨by rfl, ?hy32⟩) hs1 ?_
    case hy32 =>
      intro u hu
      obtain ⟨u0, u1⟩ := hu
      go_simp
      try with_reducible rfl
    simp only [Act.put, List.setIfInBounds_toArray, List.set_cons_zero, List.set_cons_succ]
    refine wpAnyH_ready (rs := [27]) (by kernel_rfl) (by simp) ?_
    refine AllReadyH.cons (o := { dst := none, op := Go.Op.store 30 (Go.Operand.tmp 30) (Go.Operand.tmp 28), type := 0, pos := "heap.go:136", after := #[{ on := 26, ground := Go.Ground.data }, { on := 23, ground := Go.Ground.data }, { on := 25, ground := Go.Ground.chain }, { on := 0, ground := Go.Ground.phase }, { on := 1, ground := Go.Ground.phase }, { on := 2, ground := Go.Ground.phase }, { on := 3, ground := Go.Ground.phase }, { on := 4, ground := Go.Ground.phase }, { on := 5, ground := Go.Ground.phase }, { on := 6, ground := Go.Ground.phase }, { on := 7, ground := Go.Ground.phase }, { on := 8, ground := Go.Ground.phase }, { on := 9, ground := Go.Ground.phase }, { on := 10, ground := Go.Ground.phase }, { on := 11, ground := Go.Ground.phase }, { on := 12, ground := Go.Ground.phase }, { on := 13, ground := Go.Ground.phase }, { on := 14, ground := Go.Ground.phase }, { on := 15, ground := Go.Ground.phase }, { on := 16, ground := Go.Ground.phase }, { on := 17, ground := Go.Ground.phase }, { on := 18, ground := Go.Ground.phase }, { on := 19, ground := Go.Ground.phase }, { on := 20, ground := Go.Ground.phase }, { on := 21, ground := Go.Ground.phase }, { on := 22, ground := Go.Ground.phase }, { on := 23, ground := Go.Ground.phase }, { on := 24, ground := Go.Ground.phase }, { on := 25, ground := Go.Ground.phase }], guard := none }) rfl (fun K hK => ?_) AllReadyH.nil
    go_simp
    refine hK.out _ _ hs2 (fun _ => ?_)
    clear hK K
    try simp only [Act.put, List.setIfInBounds_toArray, List.set_cons_zero, List.set_cons_succ]
    refine wpAnyH_done (by kernel_rfl) ?_ _
  all_goals
    rw [← HW.out]
    go_wp2_with fail
    refine wp_region_held_drew (S := (fun w' => w'.cell? ⟨cs, 0, none⟩ = some (.pointer (some ⟨sb, 0, none⟩)) ∧ w'.cell? ⟨sb, 1, none⟩ = some (.slice (some ⟨g, 0, none⟩) n cap) ∧ w'.cell? ⟨sb, 2, none⟩ = some (.map (some mb)) ∧ w'.cell? ⟨g, a * 2 + 1, none⟩ = some (.int .i64 y1) ∧ w'.cell? ⟨g, b * 2 + 1, none⟩ = some (.int .i64 x1))) (by kernel_rfl) ht0 (fun _ => ?_)
    refine wpAnyH_take (i := 0) (oi := { dst := some 31, op := Go.Op.load 60 (Go.Operand.tmp 2), type := 60, pos := "heap.go:137", after := #[], guard := none }) (v := ?_) rfl (by kernel_rfl) (by kernel_rfl) (by kernel_rfl) (fun _ _ _ h => h) (Or.inl ⟨by rfl, ?hy34⟩) ht0 ?_
    case hy34 =>
      intro u hu
      obtain ⟨u0, u1, u2, u3, u4⟩ := hu
      go_simp
      try with_reducible rfl
    simp only [Act.put, List.setIfInBounds_toArray, List.set_cons_zero, List.set_cons_succ]
    refine wpAnyH_take (i := 1) (oi := { dst := some 32, op := Go.Op.nilCheck (Go.Operand.tmp 31), type := 0, pos := "heap.go:137", after := #[{ on := 0, ground := Go.Ground.data }], guard := none }) (v := ?_) rfl (by kernel_rfl) (by kernel_rfl) (by kernel_rfl) (fun _ _ _ h => h) (Or.inl ⟨by rfl, ?hy35⟩) ht0 ?_
    case hy35 =>
      intro u hu
      obtain ⟨u0, u1, u2, u3, u4⟩ := hu
      go_simp
      try with_reducible rfl
    simp only [Act.put, List.setIfInBounds_toArray, List.set_cons_zero, List.set_cons_succ]
    refine wpAnyH_take (i := 2) (oi := { dst := some 33, op := Go.Op.fieldAddr 79 (Go.Operand.tmp 32) 2, type := 0, pos := "heap.go:137", after := #[{ on := 1, ground := Go.Ground.data }], guard := none }) (v := ?_) rfl (by kernel_rfl) (by kernel_rfl) (by kernel_rfl) (fun _ _ _ h => h) (Or.inl ⟨by rfl, ?hy36⟩) ht0 ?_
    case hy36 =>
      intro u hu
      obtain ⟨u0, u1, u2, u3, u4⟩ := hu
      go_simp
      try with_reducible rfl
    simp only [Act.put, List.setIfInBounds_toArray, List.set_cons_zero, List.set_cons_succ]
    refine wpAnyH_take (i := 3) (oi := { dst := some 34, op := Go.Op.load 76 (Go.Operand.tmp 33), type := 76, pos := "heap.go:137", after := #[{ on := 2, ground := Go.Ground.data }], guard := none }) (v := ?_) rfl (by kernel_rfl) (by kernel_rfl) (by kernel_rfl) (fun _ _ _ h => h) (Or.inl ⟨by rfl, ?hy37⟩) ht0 ?_
    case hy37 =>
      intro u hu
      obtain ⟨u0, u1, u2, u3, u4⟩ := hu
      go_simp
      try with_reducible rfl
    simp only [Act.put, List.setIfInBounds_toArray, List.set_cons_zero, List.set_cons_succ]
    refine wpAnyH_take (i := 4) (oi := { dst := some 35, op := Go.Op.load 60 (Go.Operand.tmp 2), type := 60, pos := "heap.go:137", after := #[], guard := none }) (v := ?_) rfl (by kernel_rfl) (by kernel_rfl) (by kernel_rfl) (fun _ _ _ h => h) (Or.inl ⟨by rfl, ?hy38⟩) ht0 ?_
    case hy38 =>
      intro u hu
      obtain ⟨u0, u1, u2, u3, u4⟩ := hu
      go_simp
      try with_reducible rfl
    simp only [Act.put, List.setIfInBounds_toArray, List.set_cons_zero, List.set_cons_succ]
    refine wpAnyH_take (i := 5) (oi := { dst := some 36, op := Go.Op.nilCheck (Go.Operand.tmp 35), type := 0, pos := "heap.go:137", after := #[{ on := 4, ground := Go.Ground.data }], guard := none }) (v := ?_) rfl (by kernel_rfl) (by kernel_rfl) (by kernel_rfl) (fun _ _ _ h => h) (Or.inl ⟨by rfl, ?hy39⟩) ht0 ?_
    case hy39 =>
      intro u hu
      obtain ⟨u0, u1, u2, u3, u4⟩ := hu
      go_simp
      try with_reducible rfl
    simp only [Act.put, List.setIfInBounds_toArray, List.set_cons_zero, List.set_cons_succ]
    refine wpAnyH_take (i := 6) (oi := { dst := some 37, op := Go.Op.fieldAddr 79 (Go.Operand.tmp 36) 1, type := 0, pos := "heap.go:137", after := #[{ on := 5, ground := Go.Ground.data }], guard := none }) (v := ?_) rfl (by kernel_rfl) (by kernel_rfl) (by kernel_rfl) (fun _ _ _ h => h) (Or.inl ⟨by rfl, ?hy40⟩) ht0 ?_
    case hy40 =>
      intro u hu
      obtain ⟨u0, u1, u2, u3, u4⟩ := hu
      go_simp
      try with_reducible rfl
    simp only [Act.put, List.setIfInBounds_toArray, List.set_cons_zero, List.set_cons_succ]
    refine wpAnyH_take (i := 7) (oi := { dst := some 38, op := Go.Op.load 38 (Go.Operand.tmp 37), type := 38, pos := "heap.go:137", after := #[{ on := 6, ground := Go.Ground.data }], guard := none }) (v := ?_) rfl (by kernel_rfl) (by kernel_rfl) (by kernel_rfl) (fun _ _ _ h => h) (Or.inl ⟨by rfl, ?hy41⟩) ht0 ?_
    case hy41 =>
      intro u hu
      obtain ⟨u0, u1, u2, u3, u4⟩ := hu
      go_simp
      try with_reducible rfl
    simp only [Act.put, List.setIfInBounds_toArray, List.set_cons_zero, List.set_cons_succ]
    refine wpAnyH_take (i := 8) (oi := { dst := some 39, op := Go.Op.move (Go.Operand.tmp 0), type := 3, pos := "heap.go:137", after := #[], guard := none }) (v := ?_) rfl (by kernel_rfl) (by kernel_rfl) (by kernel_rfl) (fun _ _ _ h => h) (Or.inl ⟨by rfl, ?hy42⟩) ht0 ?_
    case hy42 =>
      intro u hu
      obtain ⟨u0, u1, u2, u3, u4⟩ := hu
      go_simp
      try with_reducible rfl
    simp only [Act.put, List.setIfInBounds_toArray, List.set_cons_zero, List.set_cons_succ]
    refine wpAnyH_take (i := 9) (oi := { dst := some 40, op := Go.Op.indexAddr 38 (Go.Operand.tmp 38) (Go.Operand.tmp 39), type := 0, pos := "heap.go:137", after := #[{ on := 7, ground := Go.Ground.data }, { on := 8, ground := Go.Ground.data }], guard := none }) (v := ?_) rfl (by kernel_rfl) (by kernel_rfl) (by kernel_rfl) (fun _ _ _ h => h) (Or.inl ⟨by rfl, ?hy43⟩) ht0 ?_
    case hy43 =>
      intro u hu
      obtain ⟨u0, u1, u2, u3, u4⟩ := hu
      go_simp
      try with_reducible rfl
    simp only [Act.put, List.setIfInBounds_toArray, List.set_cons_zero, List.set_cons_succ]
    refine wpAnyH_take (i := 10) (oi := { dst := some 41, op := Go.Op.fieldAddr 30 (Go.Operand.tmp 40) 1, type := 0, pos := "heap.go:137", after := #[{ on := 9, ground := Go.Ground.data }], guard := none }) (v := ?_) rfl (by kernel_rfl) (by kernel_rfl) (by kernel_rfl) (fun _ _ _ h => h) (Or.inl ⟨by rfl, ?hy44⟩) ht0 ?_
    case hy44 =>
      intro u hu
      obtain ⟨u0, u1, u2, u3, u4⟩ := hu
      go_simp
      try with_reducible rfl
    simp only [Act.put, List.setIfInBounds_toArray, List.set_cons_zero, List.set_cons_succ]
    refine wpAnyH_take (i := 11) (oi := { dst := some 42, op := Go.Op.load 3 (Go.Operand.tmp 41), type := 3, pos := "heap.go:137", after := #[{ on := 10, ground := Go.Ground.data }], guard := none }) (v := ?_) rfl (by kernel_rfl) (by kernel_rfl) (by kernel_rfl) (fun _ _ _ h => h) (Or.inl ⟨by rfl, ?hy45⟩) ht0 ?_
    case hy45 =>
      intro u hu
      obtain ⟨u0, u1, u2, u3, u4⟩ := hu
      go_simp
      try with_reducible rfl
    simp only [Act.put, List.setIfInBounds_toArray, List.set_cons_zero, List.set_cons_succ]
    refine wpAnyH_take (i := 12) (oi := { dst := some 43, op := Go.Op.load 60 (Go.Operand.tmp 2), type := 60, pos := "heap.go:137", after := #[], guard := none }) (v := ?_) rfl (by kernel_rfl) (by kernel_rfl) (by kernel_rfl) (fun _ _ _ h => h) (Or.inl ⟨by rfl, ?hy46⟩) ht0 ?_
    case hy46 =>
      intro u hu
      obtain ⟨u0, u1, u2, u3, u4⟩ := hu
      go_simp
      try with_reducible rfl
    simp only [Act.put, List.setIfInBounds_toArray, List.set_cons_zero, List.set_cons_succ]
    refine wpAnyH_take (i := 13) (oi := { dst := some 44, op := Go.Op.nilCheck (Go.Operand.tmp 43), type := 0, pos := "heap.go:137", after := #[{ on := 12, ground := Go.Ground.data }], guard := none }) (v := ?_) rfl (by kernel_rfl) (by kernel_rfl) (by kernel_rfl) (fun _ _ _ h => h) (Or.inl ⟨by rfl, ?hy47⟩) ht0 ?_
    case hy47 =>
      intro u hu
      obtain ⟨u0, u1, u2, u3, u4⟩ := hu
      go_simp
      try with_reducible rfl
    simp only [Act.put, List.setIfInBounds_toArray, List.set_cons_zero, List.set_cons_succ]
    refine wpAnyH_take (i := 14) (oi := { dst := some 45, op := Go.Op.fieldAddr 79 (Go.Operand.tmp 44) 2, type := 0, pos := "heap.go:137", after := #[{ on := 13, ground := Go.Ground.data }], guard := none }) (v := ?_) rfl (by kernel_rfl) (by kernel_rfl) (by kernel_rfl) (fun _ _ _ h => h) (Or.inl ⟨by rfl, ?hy48⟩) ht0 ?_
    case hy48 =>
      intro u hu
      obtain ⟨u0, u1, u2, u3, u4⟩ := hu
      go_simp
      try with_reducible rfl
    simp only [Act.put, List.setIfInBounds_toArray, List.set_cons_zero, List.set_cons_succ]
    refine wpAnyH_take (i := 15) (oi := { dst := some 46, op := Go.Op.load 76 (Go.Operand.tmp 45), type := 76, pos := "heap.go:137", after := #[{ on := 14, ground := Go.Ground.data }], guard := none }) (v := ?_) rfl (by kernel_rfl) (by kernel_rfl) (by kernel_rfl) (fun _ _ _ h => h) (Or.inl ⟨by rfl, ?hy49⟩) ht0 ?_
    case hy49 =>
      intro u hu
      obtain ⟨u0, u1, u2, u3, u4⟩ := hu
      go_simp
      try with_reducible rfl
    simp only [Act.put, List.setIfInBounds_toArray, List.set_cons_zero, List.set_cons_succ]
    refine wpAnyH_take (i := 16) (oi := { dst := some 47, op := Go.Op.load 60 (Go.Operand.tmp 2), type := 60, pos := "heap.go:137", after := #[], guard := none }) (v := ?_) rfl (by kernel_rfl) (by kernel_rfl) (by kernel_rfl) (fun _ _ _ h => h) (Or.inl ⟨by rfl, ?hy50⟩) ht0 ?_
    case hy50 =>
      intro u hu
      obtain ⟨u0, u1, u2, u3, u4⟩ := hu
      go_simp
      try with_reducible rfl
    simp only [Act.put, List.setIfInBounds_toArray, List.set_cons_zero, List.set_cons_succ]
    refine wpAnyH_take (i := 17) (oi := { dst := some 48, op := Go.Op.nilCheck (Go.Operand.tmp 47), type := 0, pos := "heap.go:137", after := #[{ on := 16, ground := Go.Ground.data }], guard := none }) (v := ?_) rfl (by kernel_rfl) (by kernel_rfl) (by kernel_rfl) (fun _ _ _ h => h) (Or.inl ⟨by rfl, ?hy51⟩) ht0 ?_
    case hy51 =>
      intro u hu
      obtain ⟨u0, u1, u2, u3, u4⟩ := hu
      go_simp
      try with_reducible rfl
    simp only [Act.put, List.setIfInBounds_toArray, List.set_cons_zero, List.set_cons_succ]
    refine wpAnyH_take (i := 18) (oi := { dst := some 49, op := Go.Op.fieldAddr 79 (Go.Operand.tmp 48) 1, type := 0, pos := "heap.go:137", after := #[{ on := 17, ground := Go.Ground.data }], guard := none }) (v := ?_) rfl (by kernel_rfl) (by kernel_rfl) (by kernel_rfl) (fun _ _ _ h => h) (Or.inl ⟨by rfl, ?hy52⟩) ht0 ?_
    case hy52 =>
      intro u hu
      obtain ⟨u0, u1, u2, u3, u4⟩ := hu
      go_simp
      try with_reducible rfl
    simp only [Act.put, List.setIfInBounds_toArray, List.set_cons_zero, List.set_cons_succ]
    refine wpAnyH_take (i := 19) (oi := { dst := some 50, op := Go.Op.load 38 (Go.Operand.tmp 49), type := 38, pos := "heap.go:137", after := #[{ on := 18, ground := Go.Ground.data }], guard := none }) (v := ?_) rfl (by kernel_rfl) (by kernel_rfl) (by kernel_rfl) (fun _ _ _ h => h) (Or.inl ⟨by rfl, ?hy53⟩) ht0 ?_
    case hy53 =>
      intro u hu
      obtain ⟨u0, u1, u2, u3, u4⟩ := hu
      go_simp
      try with_reducible rfl
    simp only [Act.put, List.setIfInBounds_toArray, List.set_cons_zero, List.set_cons_succ]
    refine wpAnyH_take (i := 20) (oi := { dst := some 51, op := Go.Op.move (Go.Operand.tmp 1), type := 3, pos := "heap.go:137", after := #[], guard := none }) (v := ?_) rfl (by kernel_rfl) (by kernel_rfl) (by kernel_rfl) (fun _ _ _ h => h) (Or.inl ⟨by rfl, ?hy54⟩) ht0 ?_
    case hy54 =>
      intro u hu
      obtain ⟨u0, u1, u2, u3, u4⟩ := hu
      go_simp
      try with_reducible rfl
    simp only [Act.put, List.setIfInBounds_toArray, List.set_cons_zero, List.set_cons_succ]
    refine wpAnyH_take (i := 21) (oi := { dst := some 52, op := Go.Op.indexAddr 38 (Go.Operand.tmp 50) (Go.Operand.tmp 51), type := 0, pos := "heap.go:137", after := #[{ on := 19, ground := Go.Ground.data }, { on := 20, ground := Go.Ground.data }], guard := none }) (v := ?_) rfl (by kernel_rfl) (by kernel_rfl) (by kernel_rfl) (fun _ _ _ h => h) (Or.inl ⟨by rfl, ?hy55⟩) ht0 ?_
    case hy55 =>
      intro u hu
      obtain ⟨u0, u1, u2, u3, u4⟩ := hu
      go_simp
      try with_reducible rfl
    simp only [Act.put, List.setIfInBounds_toArray, List.set_cons_zero, List.set_cons_succ]
    refine wpAnyH_take (i := 22) (oi := { dst := some 53, op := Go.Op.fieldAddr 30 (Go.Operand.tmp 52) 1, type := 0, pos := "heap.go:137", after := #[{ on := 21, ground := Go.Ground.data }], guard := none }) (v := ?_) rfl (by kernel_rfl) (by kernel_rfl) (by kernel_rfl) (fun _ _ _ h => h) (Or.inl ⟨by rfl, ?hy56⟩) ht0 ?_
    case hy56 =>
      intro u hu
      obtain ⟨u0, u1, u2, u3, u4⟩ := hu
      go_simp
      try with_reducible rfl
    simp only [Act.put, List.setIfInBounds_toArray, List.set_cons_zero, List.set_cons_succ]
    refine wpAnyH_take (i := 23) (oi := { dst := some 54, op := Go.Op.load 3 (Go.Operand.tmp 53), type := 3, pos := "heap.go:137", after := #[{ on := 22, ground := Go.Ground.data }], guard := none }) (v := ?_) rfl (by kernel_rfl) (by kernel_rfl) (by kernel_rfl) (fun _ _ _ h => h) (Or.inl ⟨by rfl, ?hy57⟩) ht0 ?_
    case hy57 =>
      intro u hu
      obtain ⟨u0, u1, u2, u3, u4⟩ := hu
      go_simp
      try with_reducible rfl
    simp only [Act.put, List.setIfInBounds_toArray, List.set_cons_zero, List.set_cons_succ]
    refine wpAnyH_take (i := 24) (oi := { dst := some 55, op := Go.Op.move (Go.Operand.tmp 0), type := 3, pos := "heap.go:137", after := #[{ on := 26, ground := Go.Ground.gcOnly Go.Departure.tupleMapEntryFirst }], guard := none }) (v := ?_) rfl (by kernel_rfl) (by kernel_rfl) (by kernel_rfl) (fun _ _ _ h => h) (Or.inl ⟨by rfl, ?hy58⟩) ht0 ?_
    case hy58 =>
      intro u hu
      obtain ⟨u0, u1, u2, u3, u4⟩ := hu
      go_simp
      try with_reducible rfl
    simp only [Act.put, List.setIfInBounds_toArray, List.set_cons_zero, List.set_cons_succ]
    refine wpAnyH_take (i := 25) (oi := { dst := some 56, op := Go.Op.move (Go.Operand.tmp 1), type := 3, pos := "heap.go:137", after := #[{ on := 28, ground := Go.Ground.gcOnly Go.Departure.lateStores }, { on := 29, ground := Go.Ground.gcOnly Go.Departure.tupleMapEntryFirst }], guard := none }) (v := ?_) rfl (by kernel_rfl) (by kernel_rfl) (by kernel_rfl) (fun _ _ _ h => h) (Or.inl ⟨by rfl, ?hy59⟩) ht0 ?_
    case hy59 =>
      intro u hu
      obtain ⟨u0, u1, u2, u3, u4⟩ := hu
      go_simp
      try with_reducible rfl
    simp only [Act.put, List.setIfInBounds_toArray, List.set_cons_zero, List.set_cons_succ]
    refine wpAnyH_ready (rs := [26]) (by kernel_rfl) (by simp) ?_
    refine AllReadyH.cons (o := { dst := some 57, op := Go.Op.mapEntry 76 (Go.Operand.tmp 34) (Go.Operand.tmp 42), type := 0, pos := "heap.go:137", after := #[{ on := 3, ground := Go.Ground.data }, { on := 11, ground := Go.Ground.data }, { on := 0, ground := Go.Ground.textOnly Go.Departure.tupleMapEntryFirst }, { on := 1, ground := Go.Ground.textOnly Go.Departure.tupleMapEntryFirst }, { on := 2, ground := Go.Ground.textOnly Go.Departure.tupleMapEntryFirst }, { on := 3, ground := Go.Ground.textOnly Go.Departure.tupleMapEntryFirst }, { on := 4, ground := Go.Ground.textOnly Go.Departure.tupleMapEntryFirst }, { on := 5, ground := Go.Ground.textOnly Go.Departure.tupleMapEntryFirst }, { on := 6, ground := Go.Ground.textOnly Go.Departure.tupleMapEntryFirst }, { on := 7, ground := Go.Ground.textOnly Go.Departure.tupleMapEntryFirst }, { on := 8, ground := Go.Ground.textOnly Go.Departure.tupleMapEntryFirst }, { on := 9, ground := Go.Ground.textOnly Go.Departure.tupleMapEntryFirst }, { on := 10, ground := Go.Ground.textOnly Go.Departure.tupleMapEntryFirst }, { on := 11, ground := Go.Ground.textOnly Go.Departure.tupleMapEntryFirst }, { on := 12, ground := Go.Ground.textOnly Go.Departure.inlinedCapture }, { on := 13, ground := Go.Ground.textOnly Go.Departure.lateStoresUnsure }, { on := 14, ground := Go.Ground.textOnly Go.Departure.lateStoresUnsure }, { on := 15, ground := Go.Ground.phase }, { on := 16, ground := Go.Ground.textOnly Go.Departure.inlinedCapture }, { on := 17, ground := Go.Ground.textOnly Go.Departure.lateStoresUnsure }, { on := 18, ground := Go.Ground.textOnly Go.Departure.lateStoresUnsure }, { on := 19, ground := Go.Ground.phase }, { on := 20, ground := Go.Ground.textOnly Go.Departure.lateStores }, { on := 21, ground := Go.Ground.textOnly Go.Departure.lateStoresUnsure }, { on := 22, ground := Go.Ground.textOnly Go.Departure.lateStoresUnsure }, { on := 23, ground := Go.Ground.phase }, { on := 24, ground := Go.Ground.textOnly Go.Departure.tupleMapEntryFirst }, { on := 25, ground := Go.Ground.textOnly Go.Departure.lateStores }], guard := none }) rfl (fun K hK => ?_) AllReadyH.nil
    go_simp
    refine hK.out _ _ ht0 (fun _ => ?_)
    clear hK K
    try simp only [Act.put, List.setIfInBounds_toArray, List.set_cons_zero, List.set_cons_succ]
    refine wpAnyH_take (i := 27) (oi := { dst := some 58, op := Go.Op.extract (Go.Operand.tmp 57) 1, type := 3, pos := "heap.go:137", after := #[{ on := 26, ground := Go.Ground.data }], guard := none }) (v := ?_) rfl (by kernel_rfl) (by kernel_rfl) (by kernel_rfl) (fun _ _ _ h => h) (Or.inl ⟨by rfl, ?hy61⟩) ht0 ?_
    case hy61 =>
      intro u hu
      obtain ⟨u0, u1, u2, u3, u4⟩ := hu
      go_simp
      try with_reducible rfl
    simp only [Act.put, List.setIfInBounds_toArray, List.set_cons_zero, List.set_cons_succ]
    refine wpAnyH_ready (rs := [28]) (by kernel_rfl) (by simp) ?_
    refine AllReadyH.cons (o := { dst := none, op := Go.Op.entryStore 76 (Go.Operand.tmp 34) (Go.Operand.tmp 58) (Go.Operand.tmp 55), type := 0, pos := "heap.go:137", after := #[{ on := 3, ground := Go.Ground.data }, { on := 27, ground := Go.Ground.data }, { on := 24, ground := Go.Ground.data }, { on := 26, ground := Go.Ground.chain }, { on := 0, ground := Go.Ground.phase }, { on := 1, ground := Go.Ground.phase }, { on := 2, ground := Go.Ground.phase }, { on := 3, ground := Go.Ground.phase }, { on := 4, ground := Go.Ground.phase }, { on := 5, ground := Go.Ground.phase }, { on := 6, ground := Go.Ground.phase }, { on := 7, ground := Go.Ground.phase }, { on := 8, ground := Go.Ground.phase }, { on := 9, ground := Go.Ground.phase }, { on := 10, ground := Go.Ground.phase }, { on := 11, ground := Go.Ground.phase }, { on := 12, ground := Go.Ground.textOnly Go.Departure.inlinedCapture }, { on := 13, ground := Go.Ground.textOnly Go.Departure.lateStoresUnsure }, { on := 14, ground := Go.Ground.textOnly Go.Departure.lateStoresUnsure }, { on := 15, ground := Go.Ground.phase }, { on := 16, ground := Go.Ground.textOnly Go.Departure.inlinedCapture }, { on := 17, ground := Go.Ground.textOnly Go.Departure.lateStoresUnsure }, { on := 18, ground := Go.Ground.textOnly Go.Departure.lateStoresUnsure }, { on := 19, ground := Go.Ground.phase }, { on := 20, ground := Go.Ground.textOnly Go.Departure.lateStores }, { on := 21, ground := Go.Ground.textOnly Go.Departure.lateStoresUnsure }, { on := 22, ground := Go.Ground.textOnly Go.Departure.lateStoresUnsure }, { on := 23, ground := Go.Ground.phase }, { on := 24, ground := Go.Ground.phase }, { on := 25, ground := Go.Ground.textOnly Go.Departure.lateStores }, { on := 26, ground := Go.Ground.phase }], guard := none }) rfl (fun K hK => ?_) AllReadyH.nil
    go_simp
    refine hK.out _ _ ht1 (fun _ => ?_)
    clear hK K
    try simp only [Act.put, List.setIfInBounds_toArray, List.set_cons_zero, List.set_cons_succ]
    refine wpAnyH_ready (rs := [29]) (by kernel_rfl) (by simp) ?_
    refine AllReadyH.cons (o := { dst := some 59, op := Go.Op.mapEntry 76 (Go.Operand.tmp 46) (Go.Operand.tmp 54), type := 0, pos := "heap.go:137", after := #[{ on := 15, ground := Go.Ground.data }, { on := 23, ground := Go.Ground.data }, { on := 28, ground := Go.Ground.chain }, { on := 0, ground := Go.Ground.phase }, { on := 1, ground := Go.Ground.phase }, { on := 2, ground := Go.Ground.phase }, { on := 3, ground := Go.Ground.phase }, { on := 4, ground := Go.Ground.phase }, { on := 5, ground := Go.Ground.phase }, { on := 6, ground := Go.Ground.phase }, { on := 7, ground := Go.Ground.phase }, { on := 8, ground := Go.Ground.phase }, { on := 9, ground := Go.Ground.phase }, { on := 10, ground := Go.Ground.phase }, { on := 11, ground := Go.Ground.phase }, { on := 12, ground := Go.Ground.textOnly Go.Departure.inlinedCapture }, { on := 13, ground := Go.Ground.textOnly Go.Departure.lateStoresUnsure }, { on := 14, ground := Go.Ground.textOnly Go.Departure.lateStoresUnsure }, { on := 15, ground := Go.Ground.phase }, { on := 16, ground := Go.Ground.textOnly Go.Departure.inlinedCapture }, { on := 17, ground := Go.Ground.textOnly Go.Departure.lateStoresUnsure }, { on := 18, ground := Go.Ground.textOnly Go.Departure.lateStoresUnsure }, { on := 19, ground := Go.Ground.phase }, { on := 20, ground := Go.Ground.textOnly Go.Departure.tupleMapEntryFirst }, { on := 21, ground := Go.Ground.textOnly Go.Departure.lateStoresUnsure }, { on := 22, ground := Go.Ground.textOnly Go.Departure.lateStoresUnsure }, { on := 23, ground := Go.Ground.phase }, { on := 24, ground := Go.Ground.phase }, { on := 25, ground := Go.Ground.textOnly Go.Departure.tupleMapEntryFirst }, { on := 26, ground := Go.Ground.phase }, { on := 27, ground := Go.Ground.phase }, { on := 28, ground := Go.Ground.phase }], guard := none }) rfl (fun K hK => ?_) AllReadyH.nil
    go_simp
    refine hK.out _ _ ht1 (fun _ => ?_)
    clear hK K
    try simp only [Act.put, List.setIfInBounds_toArray, List.set_cons_zero, List.set_cons_succ]
    refine wpAnyH_take (i := 30) (oi := { dst := some 60, op := Go.Op.extract (Go.Operand.tmp 59) 1, type := 3, pos := "heap.go:137", after := #[{ on := 29, ground := Go.Ground.data }], guard := none }) (v := ?_) rfl (by kernel_rfl) (by kernel_rfl) (by kernel_rfl) (fun _ _ _ h => h) (Or.inl ⟨by rfl, ?hy64⟩) ht1 ?_
    case hy64 =>
      intro u hu
      obtain ⟨u0, u1, u2, u3, u4⟩ := hu
      go_simp
      try with_reducible rfl
    simp only [Act.put, List.setIfInBounds_toArray, List.set_cons_zero, List.set_cons_succ]
    refine wpAnyH_ready (rs := [31]) (by kernel_rfl) (by simp) ?_
    refine AllReadyH.cons (o := { dst := none, op := Go.Op.entryStore 76 (Go.Operand.tmp 46) (Go.Operand.tmp 60) (Go.Operand.tmp 56), type := 0, pos := "heap.go:137", after := #[{ on := 15, ground := Go.Ground.data }, { on := 30, ground := Go.Ground.data }, { on := 25, ground := Go.Ground.data }, { on := 29, ground := Go.Ground.chain }, { on := 0, ground := Go.Ground.phase }, { on := 1, ground := Go.Ground.phase }, { on := 2, ground := Go.Ground.phase }, { on := 3, ground := Go.Ground.phase }, { on := 4, ground := Go.Ground.phase }, { on := 5, ground := Go.Ground.phase }, { on := 6, ground := Go.Ground.phase }, { on := 7, ground := Go.Ground.phase }, { on := 8, ground := Go.Ground.phase }, { on := 9, ground := Go.Ground.phase }, { on := 10, ground := Go.Ground.phase }, { on := 11, ground := Go.Ground.phase }, { on := 12, ground := Go.Ground.phase }, { on := 13, ground := Go.Ground.phase }, { on := 14, ground := Go.Ground.phase }, { on := 15, ground := Go.Ground.phase }, { on := 16, ground := Go.Ground.phase }, { on := 17, ground := Go.Ground.phase }, { on := 18, ground := Go.Ground.phase }, { on := 19, ground := Go.Ground.phase }, { on := 20, ground := Go.Ground.phase }, { on := 21, ground := Go.Ground.phase }, { on := 22, ground := Go.Ground.phase }, { on := 23, ground := Go.Ground.phase }, { on := 24, ground := Go.Ground.phase }, { on := 25, ground := Go.Ground.phase }, { on := 26, ground := Go.Ground.phase }, { on := 27, ground := Go.Ground.phase }, { on := 28, ground := Go.Ground.phase }, { on := 29, ground := Go.Ground.phase }], guard := none }) rfl (fun K hK => ?_) AllReadyH.nil
    go_simp
    refine hK.out _ _ ht2 (fun _ => ?_)
    clear hK K
    try simp only [Act.put, List.setIfInBounds_toArray, List.set_cons_zero, List.set_cons_succ]
    refine wpAnyH_done (by kernel_rfl) ?_ _
    go_end0
    exact ⟨rfl, HE.out⟩
end Go.Proofs.Ytemlanalaihkoaa
