/-
  The contract of strike. Own work.
-/
import Derived.Test.YtemlanalaihkoaaMi
namespace Go.Proofs.Ytemlanalaihkoaa
open Go.RowKit Go.Sort

theorem hide {p : Prop} (h : p) : Hid p := h
/-- the timer of place p struck out -/
def Struck (w0 : World) (sb mb : Nat) (tv : Value) (most n : Nat) (f0 : Nat → Tm) (p : Nat) (w : World) : Prop :=
  ∃ tv' f l, Sm w sb mb tv' most n f ∧ Mp w mb n 3 (LI l) ∧ PL l f n ∧ HO f n ∧ (∀ x, (∃ i, i < n ∧ f i = x) ↔ ∃ i, i < n ∧ setF f0 p (f0 n) i = x) ∧ Chg (Blk sb mb tv) w0 w ∧ tv'.ownBlock = tv.ownBlock

theorem C2.set {w : World} {g : Nat} {a b : Value} {t : TypeId} (h : w.heap[g]? = some (.cells #[a, b] t (0, 0))) (x y : Value) : ((w.setCell ⟨g, 0, none⟩ x).setCell ⟨g, 0 + 1, none⟩ y).heap[g]? = some (.cells #[x, y] t (0, 0)) := by
  have a1 := heap_setCell_same w g 0 #[a, b] t x h
  have a2 := heap_setCell_same _ g 1 _ t y a1
  exact a2

theorem wrap_small (n : Int) (h : -9223372036854775808 ≤ n ∧ n ≤ 9223372036854775807) : IntKind.i64.wrap n = n := by
  simp [IntKind.wrap, IntKind.bits, IntKind.signed]
  omega
theorem wrap64_small (n : Int) (h : -9223372036854775808 ≤ n ∧ n ≤ 9223372036854775807) : wrap64 n = n := by
  unfold wrap64
  omega
theorem blk_same {sb mb : Nat} {tv tv' : Value} (h : tv'.ownBlock = tv.ownBlock) (b : Nat) : Blk sb mb tv' b ↔ Blk sb mb tv b := by
  unfold Blk
  rw [h]

set_option maxRecDepth 100000 in
set_option maxHeartbeats 3200000 in
theorem strike_any {w : World} {sb mb most n : Nat} {tv : Value} {f : Nat → Tm} {l : Int → Option Nat} (h : Sm w sb mb tv most (n + 1) f) (hm : Mp w mb (n + 1) 3 (LI l)) (hl : PL l f (n + 1)) (ho : HO f (n + 1)) (p : Nat) (hp : p ≤ n) :
    Calls Try.prog 35 #[.pointer (some ⟨sb, 0, none⟩), .int .i64 p] w fun e w' => e = .returned (.agg #[.int .i64 (f p).1, .int .i64 (f p).2]) ∧ Struck w sb mb tv most n f p w' := by
  obtain ⟨g, cap, hv, hcap, hgs, hgl, hfz, hcc⟩ := h.rows (by omega)
  subst hv
  have hn : n + 1 ≤ 65536 := Nat.le_trans h.le h.mx
  obtain ⟨x0, HX0⟩ := named (f p).1
  obtain ⟨x1, HX1⟩ := named (f p).2
  obtain ⟨z0, HZ0⟩ := named (f n).1
  obtain ⟨z1, HZ1⟩ := named (f n).2
  obtain ⟨r, HR⟩ := named w.heap.size
  obtain ⟨W1, HW1⟩ := named (w.alloc (.cells #[.int .i64 0, .int .i64 0] 30))
  obtain ⟨gn, HGN⟩ := named W1.heap.size
  have HB1 : Hid (Below w.heap.size w W1) := by show Below _ _ _; rw [HW1.out]; exact (Below.refl _ _).alloc (Nat.le_refl _) _
  have HRC : Hid (W1.heap[r]? = some (.cells #[.int .i64 0, .int .i64 0] 30 (0, 0))) := by show _ = _; rw [HW1.out, HR.out]; exact heap_new _ _
  have HS1 := hide (h.below HB1.out)
  obtain ⟨W2, HW2⟩ := named (W1.alloc (.cells #[.int .i64 x0, .int .i64 x1] 30))
  have HB2 : Hid (Below W1.heap.size W1 W2) := by
    show Below _ _ _
    rw [HW2.out]
    exact (Below.refl _ _).alloc (Nat.le_refl _) _
  have HGC : Hid (W2.heap[gn]? = some (.cells #[.int .i64 x0, .int .i64 x1] 30 (0, 0))) := by
    show _ = _
    rw [HW2.out, HGN.out]
    exact heap_new _ _
  have S1 : Hid (∀ w' : World, Below W1.heap.size W1 w' → w'.cell? ⟨sb, 1, none⟩ = some (.slice (some ⟨g, 0, none⟩) (n + 1) cap) ∧ w'.cell? ⟨g, p * 2, none⟩ = some (.int .i64 x0) ∧ w'.cell? ⟨g, p * 2 + 1, none⟩ = some (.int .i64 x1)) := fun w' hb => by
    have hS := HS1.out.below hb
    obtain ⟨g', cap', hv', -, -, -, -, hh⟩ := hS.rows (by omega)
    cases hv'
    refine ⟨hS.s1, ?_, ?_⟩
    · rw [(hh p (by omega)).1, HX0.out]
    · rw [(hh p (by omega)).2, HX1.out]
  have hs0 := S1.out W1.drew ⟨rfl, rfl, rfl, Nat.le_refl _, fun _ _ => rfl⟩
  have hs1 := hide (S1.out (W1.alloc (.cells #[.int .i64 0, .int .i64 0] 30)).drew ((Below.refl _ _).alloc (Nat.le_refl _) _).drew)
  have hs2 := hide (S1.out W2.drew HB2.out.drew)
  rw [HW2.out] at hs2
  -- behind the first store: W2 has the timer that goes, in a block of its own
  have HS2 := hide (HS1.out.below HB2.out)
  have HBW2 : Hid (Below w.heap.size w W2) := below_call HB1.out HB2.out
  have HM2 : Hid (Mp W2 mb (n + 1) 3 (LI l)) := hm.heap (HBW2.out.block _ hm.lt)
  have hgg : gn ≠ g := by
    have := lt_of HGC.out
    have := HB1.out.size
    rw [HGN.out]; omega
  have hgr : gn ≠ r := by
    have := lt_of HRC.out
    rw [HGN.out]; omega
  have hgsb : gn ≠ sb := by
    have := lt_of HS1.out.cs
    rw [HGN.out]; omega
  obtain ⟨es, ck, hmap⟩ := HM2.out.isMap
  have hmg : mb ≠ g := by
    rintro rfl
    obtain ⟨cur, hcu⟩ := HS2.out.tr.elem mb rfl
    rw [hmap] at hcu; cases hcu
  have hms : mb ≠ sb := by
    rintro rfl
    have := HS2.out.cs
    rw [hmap] at this; cases this
  have hmgn : mb ≠ gn := by
    rintro rfl
    have := HGC.out
    rw [hmap] at this; cases this
  -- behind the second: the last timer stands at p
  obtain ⟨W3, HW3⟩ := named ((W2.setCell ⟨g, p * 2, none⟩ (.int .i64 z0)).setCell ⟨g, p * 2 + 1, none⟩ (.int .i64 z1))
  have HS3 : Hid (Sm W3 sb mb (.slice (some ⟨g, 0, none⟩) (n + 1) cap) most (n + 1) (setF f p (f n))) := by
    show Sm _ _ _ _ _ _ _
    rw [HW3.out, HZ0.out, HZ1.out]
    refine ⟨(two_heap _ _ _ _ _ _ (Ne.symm hgs)).trans HS2.out.cs, HS2.out.tr.set p (by omega) (f n), HS2.out.le, HS2.out.mx, fun i hi => ?_⟩
    unfold setF
    split
    · exact HS2.out.rg n (by omega)
    · exact HS2.out.rg i hi
  have HM3 : Hid (Mp W3 mb (n + 1) 3 (LI l)) := by
    refine HM2.out.heap ?_
    rw [HW3.out]
    exact two_heap _ _ _ _ _ _ hmg
  have HG3 : Hid (W3.heap[gn]? = some (.cells #[.int .i64 x0, .int .i64 x1] 30 (0, 0))) := by
    show _ = _
    rw [HW3.out]
    exact (two_heap _ _ _ _ _ _ hgg).trans HGC.out
  have HC3 : Hid (Chg (Blk sb mb (.slice (some ⟨g, 0, none⟩) (n + 1) cap)) w W3) := by
    show Chg _ _ _
    rw [HW3.out]
    exact ((Chg.ofBelow HBW2.out _).setCell (p := ⟨g, p * 2, none⟩) (.inl (.inr (.inr rfl))) _).setCell (p := ⟨g, p * 2 + 1, none⟩) (.inl (.inr (.inr rfl))) _
  have S3 : Hid (∀ w' : World, Sm w' sb mb (.slice (some ⟨g, 0, none⟩) (n + 1) cap) most (n + 1) (setF f p (f n)) → w'.cell? ⟨sb, 1, none⟩ = some (.slice (some ⟨g, 0, none⟩) (n + 1) cap) ∧ w'.cell? ⟨g, n * 2, none⟩ = some (.int .i64 z0) ∧ w'.cell? ⟨g, n * 2 + 1, none⟩ = some (.int .i64 z1) ∧ w'.cell? ⟨g, p * 2 + 1, none⟩ = some (.int .i64 z1)) := fun w' hS => by
    obtain ⟨g', cap', hv', -, -, -, -, hh⟩ := hS.rows (by omega)
    cases hv'
    have en : setF f p (f n) n = f n := by
      unfold setF
      split <;> rfl
    refine ⟨hS.s1, ?_, ?_, ?_⟩
    · rw [(hh n (by omega)).1, en, HZ0.out]
    · rw [(hh n (by omega)).2, en, HZ1.out]
    · rw [(hh p (by omega)).2, setF_same, HZ1.out]
  have ht0 : W2.drew.drew.cell? ⟨sb, 1, none⟩ = some (.slice (some ⟨g, 0, none⟩) (n + 1) cap) ∧ W2.drew.drew.cell? ⟨g, n * 2, none⟩ = some (.int .i64 z0) ∧ W2.drew.drew.cell? ⟨g, n * 2 + 1, none⟩ = some (.int .i64 z1) := by
    obtain ⟨g', cap', hv', -, -, -, -, hh⟩ := HS2.out.rows (by omega)
    cases hv'
    exact ⟨HS2.out.s1, by rw [HZ0.out]; exact (hh n (by omega)).1, by rw [HZ1.out]; exact (hh n (by omega)).2⟩
  have ht1 := hide (S3.out W3.drew.drew HS3.out.drew.drew)
  have fz0 : W2.frozen? ⟨g, p * 2, none⟩ = false := by
    obtain ⟨g', cap', hv', -, -, -, hh, -⟩ := HS2.out.rows (by omega)
    cases hv'
    exact hh _
  have wp0 : W2.cell? ⟨g, p * 2, none⟩ = some (.int .i64 x0) := (S1.out W2 HB2.out).2.1
  have wp1 : W2.cell? ⟨g, p * 2 + 1, none⟩ = some (.int .i64 x1) := (S1.out W2 HB2.out).2.2
  have fz1 : W2.frozen? ⟨g, p * 2 + 1, none⟩ = false := by
    obtain ⟨g', cap', hv', -, -, -, hh, -⟩ := HS2.out.rows (by omega)
    cases hv'
    exact hh _
  -- behind the third: the last one's place is told anew; W4
  obtain ⟨rz1, rx1⟩ : I64 z1 ∧ I64 x1 := ⟨by rw [HZ1.out]; exact (h.rg n (by omega)).2, by rw [HX1.out]; exact (h.rg p (by omega)).2⟩
  have HM3d : Hid (Mp W3.drew.drew.drew mb (n + 1) 3 (LI l)) := HM3.out.heap rfl
  obtain ⟨W4, hr4, hm4, hg4, hz4⟩ := HM3d.out.store mt76 (by omega) rz1 (v := (p : Int)) (by unfold I64; omega)
  have hin : (LI l z1).isSome = true := by rw [LI_some, HZ1.out, (hl _ n).2 ⟨by omega, rfl⟩]; rfl
  rw [if_pos hin, LI_set] at hm4
  have hk4 : ∀ k, k < W3.heap.size → k ≠ mb → W4.heap[k]? = W3.heap[k]? := fun k hk hne => by
    rw [hg4.block k hk (fun e => hne (Option.some.inj e))]; rfl
  have HS4 := hide (HS3.out.heap (w' := W4) (hk4 _ (lt_of HS3.out.cs) (Ne.symm hms)) (fun a ha => hk4 a (HS3.out.tr.lt a ha) (by rintro rfl; exact hmg (Option.some.inj ha).symm)))
  have HM4 := hide (hm4)
  have HG4 : Hid (W4.heap[gn]? = some (.cells #[.int .i64 x0, .int .i64 x1] 30 (0, 0))) := (hk4 gn (lt_of HG3.out) (Ne.symm hmgn)).trans HG3.out
  have HC4 := hide (HC3.out.drew.drew.drew.grown hg4 (by rintro k hk; exact .inl (.inr (.inl (Option.some.inj hk).symm))))
  have ht2 := hide (S3.out W4.drew.drew HS4.out.drew.drew)
  have ht2' : Hid _ := S3.out W4 HS4.out
  have ht3 : W3.drew.drew.drew.cell? ⟨sb, 2, none⟩ = some (.map (some mb)) ∧ W3.drew.drew.drew.cell? ⟨sb, 1, none⟩ = some (.slice (some ⟨g, 0, none⟩) (n + 1) cap) ∧ W3.drew.drew.drew.cell? ⟨g, p * 2 + 1, none⟩ = some (.int .i64 z1) := ⟨HS3.out.s2, ht1.out.1, ht1.out.2.2.2⟩
  have ht4 : Hid (W4.cell? ⟨sb, 2, none⟩ = some (.map (some mb)) ∧ W4.cell? ⟨sb, 1, none⟩ = some (.slice (some ⟨g, 0, none⟩) (n + 1) cap) ∧ W4.cell? ⟨g, p * 2 + 1, none⟩ = some (.int .i64 z1)) := ⟨HS4.out.s2, ht2'.out.1, ht2'.out.2.2.2⟩
  have c41 := HS4.out.s1
  have f41 : W4.frozen? ⟨sb, 1, none⟩ = false := frozen_of HS4.out.cs _
  -- the row is one shorter; W5
  obtain ⟨W5, HW5⟩ := named (W4.setCell ⟨sb, 1, none⟩ (.slice (some ⟨g, 0, none⟩) n cap))
  have HS5 : Hid (Sm W5 sb mb (.slice (some ⟨g, 0, none⟩) n cap) most n (setF f p (f n))) := by
    show Sm _ _ _ _ _ _ _
    rw [HW5.out]
    refine ⟨?_, ((HS4.out.tr.less rfl n (by omega)).heap fun a ha => heap_setCell_other _ _ _ _ ?_), ?_, HS4.out.mx, fun i hi => HS4.out.rg i (by omega)⟩
    · exact heap_setCell_same _ _ _ _ _ _ HS4.out.cs
    · rintro rfl
      exact hgs (Option.some.inj ha)
    · have := HS4.out.le; omega
  have HM5 := hide (HM4.out.heap (w' := W5) (by rw [HW5.out]; exact heap_setCell_other _ _ _ _ hms))
  have HG5 : Hid (W5.heap[gn]? = some (.cells #[.int .i64 x0, .int .i64 x1] 30 (0, 0))) := by
    show _ = _
    rw [HW5.out]
    exact (heap_setCell_other _ _ _ _ hgsb).trans HG4.out
  have HC5 : Hid (Chg (Blk sb mb (.slice (some ⟨g, 0, none⟩) (n + 1) cap)) w W5) := by
    show Chg _ _ _
    rw [HW5.out]
    exact HC4.out.setCell (p := ⟨sb, 1, none⟩) (.inl (.inl rfl)) _
  -- the one that goes is struck out of the map; W6
  have HM5d := hide (HM5.out.heap (w' := W5.drew) rfl)
  obtain ⟨W6, hr6, hm6, hg6, hz6⟩ := HM5d.out.drop mt76 rx1 0
  have hin6 : (LI (setL l z1 p) x1).isSome = true := by
    rw [LI_some, setL]
    split
    · rfl
    · rw [HX1.out, (hl _ p).2 ⟨by omega, rfl⟩]; rfl
  rw [if_pos hin6, LI_del, Nat.add_sub_cancel] at hm6
  have hk6 : ∀ k, k < W5.heap.size → k ≠ mb → W6.heap[k]? = W5.heap[k]? := fun k hk hne => by
    rw [hg6.block k hk (fun e => hne (Option.some.inj e))]; rfl
  have HS6 := hide (HS5.out.heap (w' := W6) (hk6 _ (lt_of HS5.out.cs) (Ne.symm hms)) (fun a ha => hk6 a (HS5.out.tr.lt a ha) (by rintro rfl; exact hmg (Option.some.inj ha).symm)))
  have HM6 := hide (hm6)
  have HG6 : Hid (W6.heap[gn]? = some (.cells #[.int .i64 x0, .int .i64 x1] 30 (0, 0))) := (hk6 gn (lt_of HG5.out) (Ne.symm hmgn)).trans HG5.out
  have HC6 := hide (HC5.out.drew.grown hg6 (by rintro k hk; exact .inl (.inr (.inl (Option.some.inj hk).symm))))
  have hpl6 : Hid (PL (delLk (setL l z1 p) x1) (setF f p (f n)) n) := by
    show PL _ _ _
    rw [HZ1.out, HX1.out]
    exact hl.strike hp
  have hu0 : W5.drew.cell? ⟨sb, 2, none⟩ = some (.map (some mb)) ∧ W5.drew.cell? ⟨gn, 1, none⟩ = some (.int .i64 x1) := ⟨HS5.out.s2, by rw [cell_of (w := W5.drew) HG5.out]; rfl⟩
  have hu1 : Hid (W6.cell? ⟨sb, 2, none⟩ = some (.map (some mb)) ∧ W6.cell? ⟨gn, 1, none⟩ = some (.int .i64 x1)) := ⟨HS6.out.s2, by rw [cell_of HG6.out]; rfl⟩
  have HHO : Hid (HO f (n + 1)) := ho
  -- the result's block
  have HR1 : Hid (W2.heap[r]? = some (.cells #[.int .i64 0, .int .i64 0] 30 (0, 0))) := (HB2.out.block _ (lt_of HRC.out)).trans HRC.out
  have hrl : w.heap.size ≤ r := by rw [HR.out]; exact Nat.le_refl _
  have hrg : r ≠ g := by rw [HR.out]; omega
  have hrsb : r ≠ sb := by have := lt_of h.cs; rw [HR.out]; omega
  have hrm : r ≠ mb := by have := hm.lt; rw [HR.out]; omega
  have HR3 : Hid (W3.heap[r]? = some (.cells #[.int .i64 0, .int .i64 0] 30 (0, 0))) := by
    show _ = _
    rw [HW3.out]
    exact (two_heap _ _ _ _ _ _ hrg).trans HR1.out
  have HR4 : Hid (W4.heap[r]? = some (.cells #[.int .i64 0, .int .i64 0] 30 (0, 0))) := (hk4 r (lt_of HR3.out) hrm).trans HR3.out
  have HR5 : Hid (W5.heap[r]? = some (.cells #[.int .i64 0, .int .i64 0] 30 (0, 0))) := by
    show _ = _
    rw [HW5.out]
    exact (heap_setCell_other _ _ _ _ hrsb).trans HR4.out
  have HR6 : Hid (W6.heap[r]? = some (.cells #[.int .i64 0, .int .i64 0] 30 (0, 0))) := (hk6 r (lt_of HR5.out) hrm).trans HR5.out
  have HEND : Hid (∀ (w7 : World) (f' : Nat → Tm) (l' : Int → Option Nat), Sm w7 sb mb (.slice (some ⟨g, 0, none⟩) n cap) most n f' → Mp w7 mb n 3 (LI l') → PL l' f' n → HO f' n → (∀ x, (∃ i, i < n ∧ f' i = x) ↔ ∃ i, i < n ∧ setF f p (f n) i = x) → Chg (Blk sb mb (.slice (some ⟨g, 0, none⟩) n cap)) W6 w7 →
      (w7.heap[gn]? = some (.cells #[.int .i64 x0, .int .i64 x1] 30 (0, 0)) ∧ w7.heap[r]? = some (.cells #[.int .i64 0, .int .i64 0] 30 (0, 0))) ∧ Struck w sb mb (.slice (some ⟨g, 0, none⟩) (n + 1) cap) most n f p ((w7.setCell ⟨r, 0, none⟩ (.int .i64 x0)).setCell ⟨r, 1, none⟩ (.int .i64 x1))) := by
    intro w7 f' l' k1 k2 k3 k4 k5 k6
    have nb : ∀ b, b ≠ sb → b ≠ mb → b ≠ g → ¬ Blk sb mb (.slice (some ⟨g, 0, none⟩) n cap) b := fun b h1 h2 h3 h4 => by
      rcases h4 with h4 | h4 | h4
      · exact h1 h4
      · exact h2 h4
      · exact h3 (Option.some.inj h4).symm
    refine ⟨⟨(k6.block _ (lt_of HG6.out) (nb gn hgsb (Ne.symm hmgn) hgg)).trans HG6.out, (k6.block _ (lt_of HR6.out) (nb r hrsb hrm hrg)).trans HR6.out⟩, _, f', l', k1.heap ((two_heap _ _ _ _ _ _ (Ne.symm hrsb))) (fun a ha => two_heap _ _ _ _ _ _ ?_), k2.heap (two_heap _ _ _ _ _ _ (Ne.symm hrm)), k3, k4, k5, ?_, rfl⟩
    · rintro rfl
      exact hrg (Option.some.inj ha).symm
    · exact ((HC6.out.trans k6 (fun _ _ h => (blk_same rfl _).1 h)).setCell (p := ⟨r, 0, none⟩) (.inr hrl) _).setCell (p := ⟨r, 1, none⟩) (.inr hrl) _
  have hncap : (n : Int) ≤ (cap : Int) := by omega
  rw [HW3.out] at ht1
  obtain ⟨N, HN⟩ := named (n + 1)
  rw [← HN.out] at hs0 hs1 hs2 ht0 ht1 ht3 ht4 c41
  have hNI : (N : Int) - 1 = (n : Int) := by rw [HN.out]; omega
  have hnN : (n : Int) < (N : Int) := by rw [HN.out]; omega
  have hpN : (p : Int) < (N : Int) := by rw [HN.out]; omega
  have hwn := wrap_small (n : Int) (by omega)
  have hwn2 := wrap64_small (n : Int) (by omega)
  clear h hm hl ho hfz hcc hm4 hm6 hg4 hg6 hz4 hz6 hk4 hk6 hin hin6 HM3d HM5d ht2 ht2' rz1 rx1 hmap
  go_enter Try.func35, Try.ntmps35
  go_wp2_with (rw [← HW1.out])
  rw [← HR.out]
  go_region_held3 (fun w' => w'.cell? ⟨sb, 1, none⟩ = some (.slice (some ⟨g, 0, none⟩) N cap) ∧ w'.cell? ⟨g, p * 2, none⟩ = some (.int .i64 x0) ∧ w'.cell? ⟨g, p * 2 + 1, none⟩ = some (.int .i64 x1)) (first | assumption | exact hs1.out | exact hs2.out) (fail)
  rw [← HW2.out, ← HGN.out]
  clear hs0 hs1 hs2
  go_wp2_with fail
  go_region_held3 (fun w' => w'.cell? ⟨sb, 1, none⟩ = some (.slice (some ⟨g, 0, none⟩) N cap) ∧ w'.cell? ⟨g, n * 2, none⟩ = some (.int .i64 z0) ∧ w'.cell? ⟨g, n * 2 + 1, none⟩ = some (.int .i64 z1)) (first | assumption | exact ⟨ht1.out.1, ht1.out.2.1, ht1.out.2.2.1⟩) (fail)
  rw [← HW3.out]
  clear ht0 ht1
  go_wp2_with fail
  go_region_held3 (fun w' => w'.cell? ⟨sb, 2, none⟩ = some (.map (some mb)) ∧ w'.cell? ⟨sb, 1, none⟩ = some (.slice (some ⟨g, 0, none⟩) N cap) ∧ w'.cell? ⟨g, p * 2 + 1, none⟩ = some (.int .i64 z1)) (first | assumption | exact ht4.out) (fail)
  clear ht3 ht4
  go_wp2_with fail
  rw [← HW5.out]
  go_region_held3 (fun w' => w'.cell? ⟨sb, 2, none⟩ = some (.map (some mb)) ∧ w'.cell? ⟨gn, 1, none⟩ = some (.int .i64 x1)) (first | assumption | exact hu1.out) (fail)
  clear hu0 hu1 c41 f41 fz0 fz1 wp0 wp1 hr4 hr6
  by_cases hpn : p < n
  · have hset := settle_any HS6.out HM6.out hpl6.out p (Wr.strike HHO.out hpn) hpn
    have hpnI : (p : Int) < (n : Int) := by omega
    go_wp2_with fail
    (with_reducible refine Calls.mono hset ?_)
    clear hset
    rintro e w7 ⟨rfl, f', l', k1, k2, k3, k4, k5, k6⟩
    obtain ⟨⟨g7, r7⟩, hst⟩ := HEND.out w7 f' l' k1 k2 k3 k4 k5 k6
    have HST := hide hst
    obtain ⟨-, g0, g1, -⟩ := C2.of g7
    obtain ⟨-, q0, q1, e0, e1⟩ := C2.of r7
    clear k1 k2 k3 k4 k5 k6 hst g7 r7
    go_wp2_with fail
    refine bodyPost_ret (v := .agg #[.int .i64 x0, .int .i64 x1]) (by simp [results, Try.results35, go_sem, q0, q1]) rfl ⟨by rw [HX0.out, HX1.out], ?_⟩
    exact HST.out
  · have hpn' : p = n := by omega
    obtain ⟨⟨g7, r7⟩, hst⟩ := HEND.out W6 (setF f p (f n)) _ HS6.out HM6.out hpl6.out (HHO.out.less.congr fun i hi => setF_other _ _ _ _ (by omega)) (fun _ => Iff.rfl) (Chg.refl _ _)
    have HST := hide hst
    obtain ⟨-, g0, g1, -⟩ := C2.of g7
    obtain ⟨-, q0, q1, e0, e1⟩ := C2.of r7
    clear hst g7 r7 hpn'
    have hpnI : ¬ (p : Int) < (n : Int) := by omega
    go_wp2_with fail
    refine bodyPost_ret (v := .agg #[.int .i64 x0, .int .i64 x1]) (by simp [results, Try.results35, go_sem, q0, q1]) rfl ⟨by rw [HX0.out, HX1.out], ?_⟩
    exact HST.out
end Go.Proofs.Ytemlanalaihkoaa
