/-
  The walk of RunWaits. Own work.
-/
import Derived.Test.YtlngeonfabahnaaDoorLF
import Derived.Test.YtlngeonfabahnaaDoorLt
namespace Go.Proofs.YtlngeonfabahnaaDoor
open Go Go.RowKit
set_option linter.unusedSimpArgs false
set_option linter.unusedVariables false

/-- the number that a run waits for -/
theorem it_on (kn : Int → Option Oc) (sg : List Int) (code : List Ins) (k : Nat) (s : St) (h0 : s.at_ = 0) (hl : s.cmds.length ≤ 200) (hw : (it kn sg code k s).at_ = 2) :
    1 ≤ (it kn sg code k s).on ∧ (it kn sg code k s).on ≤ 200 ∧ kn (it kn sg code k s).on = none := by
  induction k generalizing s with
  | zero => rw [it, h0] at hw; cases hw
  | succ k ih =>
    obtain ⟨e, s0, s1, s2, s3, s4, s5⟩ := step_ext kn sg code s h0
    have h22 := step_wait kn sg code s h0
    rw [it, if_pos h0] at hw ⊢
    by_cases h : (step kn sg code s).at_ = 0
    · exact ih _ h (s4 hl) hw
    · rw [it_stood _ _ _ _ _ h] at hw ⊢
      obtain ⟨-, hc, -, hn⟩ := h22 hw
      exact ⟨hc.1, Int.le_trans hc.2 (by show (s.cmds.length : Int) ≤ 200; omega), hn⟩
theorem run_waits (kn : Int → Option Oc) (sg : List Int) (code : List Ins) (arg : Int) (k : Nat) (h : (runP kn sg code arg k).at_ = 2) :
    (1 ≤ (runP kn sg code arg k).on ∧ (runP kn sg code arg k).on ≤ 200 ∧ kn (runP kn sg code arg k).on = none) ∧
    (∀ kn' : Int → Option Oc, (∀ n o, kn n = some o → kn' n = some o) → kn' (runP kn sg code arg k).on = none → runP kn' sg code arg k = runP kn sg code arg k) ∧
    (∀ (kn' : Int → Option Oc) (o : Oc), (∀ n o, kn n = some o → kn' n = some o) → kn' (runP kn sg code arg k).on = some o → (runP kn sg code arg k).steps < (runP kn' sg code arg k).steps) := by
  have e : runP kn sg code arg k = it kn sg code k (st0 arg) := by
    unfold runP at h ⊢
    rcases fin_at (it kn sg code k (st0 arg)) with h' | h'
    · exact h'
    · rw [h'.1] at h; cases h
  rw [e] at h ⊢
  refine ⟨it_on kn sg code k (st0 arg) rfl (Nat.zero_le _) h, fun kn' hk hn => ?_, fun kn' o hk ho => ?_⟩
  · have := (it_waits kn kn' sg code hk k (st0 arg) rfl h).1 hn
    unfold runP
    rw [this]
    unfold fin
    rw [if_neg (by omega)]
  · have := (it_waits kn kn' sg code hk k (st0 arg) rfl h).2 o ho
    unfold runP
    have hs : ∀ s : St, (fin s).steps = s.steps := fun s => by unfold fin; split <;> rfl
    rw [hs]
    exact this
/-- the numbers that are there -/
def thF (on : Int) (l : List (Int × Oc)) : KI.MF := fun n => if n = on ∨ n ∈ l.map (·.1) then some (.int .i64 1) else none
theorem thF_nil (on : Int) : KI.setM (fun _ => none) on (.int .i64 1) = thF on [] := by
  funext n
  unfold KI.setM thF
  by_cases h : n = on
  · rw [if_pos h, if_pos (.inl h)]
  · rw [if_neg h, if_neg (by simp [h])]
theorem thF_snoc (on : Int) (l : List (Int × Oc)) (x : Int × Oc) : KI.setM (thF on l) x.1 (.int .i64 1) = thF on (l ++ [x]) := by
  funext n
  unfold KI.setM thF
  by_cases h : n = x.1
  · rw [if_pos h, if_pos (.inr (by simp [h]))]
  · rw [if_neg h]
    by_cases h2 : n = on ∨ n ∈ l.map (·.1)
    · rw [if_pos h2, if_pos (by rcases h2 with h2 | h2 <;> simp_all)]
    · rw [if_neg h2, if_neg (by simp_all)]
def MpT (w : World) (mb k : Nat) (on : Int) (l : List (Int × Oc)) : Prop := ∃ m, m ≤ k ∧ KI.Mp w mb m (thF on l)
theorem MpT.lt {w : World} {mb k : Nat} {on : Int} {l : List (Int × Oc)} (h : MpT w mb k on l) : mb < w.heap.size := by
  obtain ⟨m, -, h1⟩ := h
  exact h1.lt
theorem MpT.below {w w' : World} {mb k : Nat} {on : Int} {l : List (Int × Oc)} (h : MpT w mb k on l) (hb : Below w.heap.size w w') : MpT w' mb k on l := by
  obtain ⟨m, hm, h1⟩ := h
  exact ⟨m, hm, h1.heap (hb.block mb h1.lt)⟩
theorem MpT.store {w : World} {mb k : Nat} {on : Int} {l : List (Int × Oc)} (h : MpT w mb k on l) (hk : k < 1000000) (x : Int × Oc) (hx : IR x.1) :
    ∃ w', (Instr.mapUpdate 57 (.map (some mb)) (.int .i64 x.1) (.int .i64 1)).run Tryd.prog w = .ok () w' ∧ MpT w' mb (k + 1) on (l ++ [x]) ∧ w.grownBy w' (some mb) ∧ w'.heap.size = w.heap.size := by
  obtain ⟨m, hm, k1⟩ := h
  obtain ⟨w', hr, hp, hg, hs⟩ := k1.store KI.mt57 (by omega) hx (.int .i64 1)
  refine ⟨w', hr, ⟨_, ?_, by rw [← thF_snoc]; exact hp⟩, hg, hs⟩
  split <;> omega
theorem MpT.first (w : World) (on : Int) (hx : IR on) :
    ∃ w', (Instr.mapUpdate 57 (.map (some w.heap.size)) (.int .i64 on) (.int .i64 1)).run Tryd.prog (w.alloc (.map #[] 0)) = .ok () w' ∧ MpT w' w.heap.size 1 on [] ∧ Below w.heap.size w w' ∧ w'.heap.size = w.heap.size + 1 := by
  obtain ⟨w', hr, hp, hg, hs⟩ := (KI.Mp.made w).store KI.mt57 (by omega) hx (.int .i64 1)
  refine ⟨w', hr, ⟨_, ?_, by rw [← thF_nil]; exact hp⟩, ?_, by rw [hs]; simp⟩
  · split <;> omega
  · exact ((Below.refl w.heap.size w).alloc (Nat.le_refl _) _).grown hg (by simp) (fun q hq => by cases hq; exact Nat.le_refl _)
theorem MpT.look {w : World} {mb k : Nat} {on : Int} {l : List (Int × Oc)} (h : MpT w mb k on l) (n : Int) (hn : IR n) :
    (Instr.lookup 57 (.map (some mb)) (.int .i64 n) false).run Tryd.prog w = .ok (.int .i64 (if n = on ∨ n ∈ l.map (·.1) then 1 else 0)) w := by
  obtain ⟨m, -, k1⟩ := h
  rw [k1.look KI.mt57 hn]
  unfold thF
  split <;> rfl
/-- the outcomes, and behind them those of the numbers to j that are not there -/
def moreN (l : List (Int × Oc)) (on : Int) : Nat → List (Int × Oc)
  | 0 => l
  | j + 1 => if ((j + 1 : Nat) : Int) = on ∨ ((j + 1 : Nat) : Int) ∈ l.map (·.1) then moreN l on j else moreN l on j ++ [(((j + 1 : Nat) : Int), (0, ((j + 1 : Nat) : Int)))]
theorem moreN_len (l : List (Int × Oc)) (on : Int) (j : Nat) : (moreN l on j).length ≤ l.length + j := by
  induction j with
  | zero => exact Nat.le_refl _
  | succ j ih =>
    unfold moreN
    split
    · omega
    · simp; omega
theorem moreN_more (l : List (Int × Oc)) (on : Int) (j : Nat) (n : Int) (o : Oc) (h : knOf l n = some o) : knOf (moreN l on j) n = some o := by
  induction j with
  | zero => exact h
  | succ j ih =>
    unfold moreN
    split
    · exact ih
    · rw [knOf_snoc, ih]
theorem moreN_none (l : List (Int × Oc)) (on : Int) (j : Nat) (h : knOf l on = none) : knOf (moreN l on j) on = none := by
  induction j with
  | zero => exact h
  | succ j ih =>
    unfold moreN
    split
    · exact ih
    · rename_i hn
      rw [knOf_snoc, ih]
      show (if ((j + 1 : Nat) : Int) = on then _ else none) = none
      rw [if_neg (fun e => hn (.inl e))]
theorem knOf_last (l : List (Int × Oc)) (on : Int) (o : Oc) (h : knOf l on = none) : knOf (l ++ [(on, o)]) on = some o := by
  rw [knOf_snoc, h]
  exact if_pos rfl
theorem knOf_app (l m : List (Int × Oc)) (n : Int) (o : Oc) (h : knOf l n = some o) : knOf (l ++ m) n = some o := by
  unfold knOf at h ⊢
  rw [List.find?_append]
  cases hf : l.find? (fun k => k.1 == n) with
  | none => rw [hf] at h; cases h
  | some x => rw [hf] at h; exact h
theorem RC.same {N : Nat} {w w' : World} {b : Nat} {f : Nat → Value} (h : RC N w b f) (hk : w'.heap[b]? = w.heap[b]?) (hs : w.heap.size ≤ w'.heap.size) : RC N w' b f :=
  ⟨Nat.lt_of_lt_of_le h.1 hs, fun k hk' => (World.cell?_of_block (w := w) hk).trans (h.2.1 k hk'), fun k => (World.frozen?_of_block (w := w) hk).trans (h.2.2 k)⟩
theorem wpAnyE_two {P : Program} {ops : Array Oper} {Q : Exit → Act → World → Prop} {md : Region.Mode} {S : World → Prop} {n i j : Nat} {fuel : Nat} {listed : Array Bool} {a : Act} {w : World} (hr : Region.ready md ops listed = [i, j]) {o o' : Oper} (ho : ops[i]? = some o) (ho' : ops[j]? = some o')
    (h : ∀ K : Act → World → Prop, (∀ b u, (i ≠ n → S u) → wpAnyE P md ops Q S n fuel (listed.setIfInBounds i true) b u → K b u) → if Region.wanted o (yielded ops a.tmps) = true then Oper.wp P o a w K Q else K (a.put o.dst undef) w)
    (h' : ∀ K : Act → World → Prop, (∀ b u, (j ≠ n → S u) → wpAnyE P md ops Q S n fuel (listed.setIfInBounds j true) b u → K b u) → if Region.wanted o' (yielded ops a.tmps) = true then Oper.wp P o' a w K Q else K (a.put o'.dst undef) w) :
    wpAnyE P md ops Q S n (fuel + 1) listed a w := by
  refine ⟨fun h0 => ?_, fun q hq => ?_⟩
  · rw [hr] at h0
    cases h0
  · rw [hr] at hq
    rcases List.mem_cons.1 hq with e | hq
    · subst e
      exact wpOp_step ho fun K hK => h K fun b u h1 h2 => hK b u ⟨h2, h1⟩
    · rw [List.mem_singleton] at hq
      subst hq
      exact wpOp_step ho' fun K hK => h' K fun b u h1 h2 => hK b u ⟨h2, h1⟩
theorem told_mem (l : List (Int × Oc)) : ∀ x ∈ toldP l, x ∈ l := by
  have : ∀ (m out : List (Int × Oc)), ∀ x ∈ m.foldl addT out, x ∈ out ∨ x ∈ m := fun m => by
    induction m with
    | nil => exact fun out x h => .inl h
    | cons y t ih =>
      intro out x h
      rcases ih _ x h with h | h
      · unfold addT at h
        split at h
        · exact .inl h
        · rcases List.mem_append.1 h with h | h
          · exact .inl h
          · simp at h; subst h; exact .inr (.head _)
      · exact .inr (.tail _ h)
  intro x h
  rcases this _ [] x h with h | h
  · cases h
  · exact List.mem_of_mem_take h
theorem moreN_q (l : List (Int × Oc)) (on : Int) (q : Nat) (h : 1 ≤ q) : moreN l on q = if (q : Int) = on ∨ (q : Int) ∈ l.map (·.1) then moreN l on (q - 1) else moreN l on (q - 1) ++ [((q : Int), (0, (q : Int)))] := by
  obtain ⟨j, rfl⟩ : ∃ j, q = j + 1 := ⟨q - 1, by omega⟩
  rfl

set_option maxRecDepth 100000 in
set_option maxHeartbeats 6400000 in
theorem waits_walk (w : World) (hk : Kinds w) (p : Prg) (cv : Value) (hc : RdC w cv p.code) (hw : ∀ i ∈ p.code, i.wf) (arg : Int) (kv sv : Value) (fu : Int) (l : List (Int × Oc)) (sg : List Int) (hl : RdK w kv l) (hsv : RdN w sv sg) (hwk : ∀ k ∈ l, IR k.1) :
    Calls Tryd.prog 8 #[.agg #[.string p.name, .int .i64 p.regs, cv], .agg #[.int .i64 arg, kv, sv, .int .i64 fu]] w fun e w' => e = .returned (.bool true) ∧ Below w.heap.size w w' := by
  have HK := hide hk
  obtain ⟨ao, cap, hcv, -⟩ := hc.shape
  obtain ⟨ko, kc, hkv, -⟩ := hl.shape
  obtain ⟨so, sc, hsvv, -⟩ := hsv.shape
  obtain ⟨L, HL⟩ := named p.code.length
  obtain ⟨kl, HKL⟩ := named l.length
  obtain ⟨sl, HSL⟩ := named sg.length
  rw [← HL.out] at hcv
  rw [← HKL.out] at hkv
  rw [← HSL.out] at hsvv
  subst hcv hkv hsvv
  obtain ⟨pb, HPB⟩ := named w.heap.size
  obtain ⟨W1, HW1⟩ := named ((w.alloc (.cells #[.string p.name, .int .i64 p.regs, .slice ao L cap] 24)).alloc (.cells #[.int .i64 arg, .slice ko kl kc, .slice so sl sc, .int .i64 fu] 28))
  have hb1 : Below w.heap.size w W1 := by rw [HW1.out]; exact ((Below.refl _ _).alloc (Nat.le_refl _) _).alloc (by simp) _
  have xp : RC 3 W1 pb (fun k => ([.string p.name, .int .i64 p.regs, .slice ao L cap] : List Value).getD k undef) := by
    rw [HW1.out, HPB.out]
    refine (RC.new w _ 24 _ (fun k hk => ?_)).alloc _
    rcases (show k = 0 ∨ k = 1 ∨ k = 2 by omega) with rfl | rfl | rfl <;> rfl
  have hz : (w.alloc (.cells #[.string p.name, .int .i64 p.regs, .slice ao L cap] 24)).heap.size = pb + 1 := by rw [HPB.out]; simp
  have xg : RC 4 W1 (pb + 1) (fun k => ([.int .i64 arg, .slice ko kl kc, .slice so sl sc, .int .i64 fu] : List Value).getD k undef) := by
    rw [HW1.out, ← hz]
    refine RC.new _ _ 28 _ (fun k hk => ?_)
    rcases (show k = 0 ∨ k = 1 ∨ k = 2 ∨ k = 3 by omega) with rfl | rfl | rfl | rfl <;> rfl
  have hzW : W1.heap.size = pb + 2 := by rw [HW1.out, HPB.out]; simp
  have HB1 := hide hb1
  have HXP := hide xp
  have HXG := hide xg
  have HC := hide hc
  have HL0 := hide hl
  have HS0 := hide hsv
  have HWF := hide hw
  have hgr := great_any p (.slice ao L cap) W1 (hc.below hb1)
  have hgr : Calls Tryd.prog 10 #[.agg #[.string p.name, .int .i64 p.regs, .slice ao L cap]] W1 _ := hgr
  have p0 := xp.2.1 0 (by omega)
  have p1 := xp.2.1 1 (by omega)
  have p2 := xp.2.1 2 (by omega)
  clear hk hc hw hl hsv hb1 xp xg hz
  go_enter Tryd.func8, Tryd.ntmps8
  go_wp2_with fail
  rw [← HW1.out]
  (with_reducible refine Calls.mono hgr ?_)
  rintro e w2 ⟨v, rfl, ⟨g, rfl, hg⟩, hb2⟩
  have HB2 := hide (HB1.out.trans (hb2.mono (by rw [hzW, ← HPB.out]; omega)))
  cases g with
  | true =>
    go_wp2_with fail
    (with_reducible refine Calls.mono (awake_true w2 (HK.out.below HB2.out)) ?_)
    rintro e w9 ⟨rfl, hb9⟩
    have HB9 := hide (below_call HB2.out hb9)
    clear hb9
    go_wp2
    go_ret
    exact ⟨rfl, HB9.out⟩
  | false =>
    have HP2 := hide (HXP.out.below hb2)
    have HG2 := hide (HXG.out.below hb2)
    have hzw2 : pb + 2 ≤ w2.heap.size := by have := hb2.size; omega
    have HZ2 := hide hzw2
    have htd := told_any (.slice ko kl kc) l w2 (RdX.below HL0.out HB2.out)
    have g1 : w2.cell? ⟨pb + 1, 1, none⟩ = some (.slice ko kl kc) := HG2.out.2.1 1 (by omega)
    obtain ⟨T, HT⟩ := named (toldP l)
    rw [← HT.out] at htd
    have hTl : T.length ≤ 300 := by rw [HT.out]; exact told_len l
    clear hb2 hg hzw2
    rw [HPB.out] at g1
    go_wp2_with fail
    rw [← HPB.out]
    (with_reducible refine Calls.mono htd ?_)
    rintro e w3 ⟨tv, rfl, ho3, hb3⟩
    rw [← HPB.out] at g1
    have HG3 := hide (HG2.out.below hb3)
    have HP3 := hide (HP2.out.below hb3)
    have hsz3 := hb3.size
    have HB3 := hide (HB2.out.trans (hb3.mono HB2.out.size))
    obtain ⟨to, tcap, htv, htc1, htc2⟩ := RdK.shape ho3.rd
    have HO3 := hide ho3
    obtain ⟨tl, HTL⟩ := named T.length
    rw [← HTL.out] at hTl htv htc1
    clear htd hb3 ho3 g1
    subst htv
    obtain ⟨km, HKM⟩ := named (min tl 90)
    have hkm : km ≤ tl ∧ km ≤ 90 := by rw [HKM.out]; omega
    have hmin : min (tl : Int) 90 = (km : Int) := by rw [HKM.out]; omega
    have m4 : (tl : Int) ≤ (tcap : Int) := by omega
    have m6 : (km : Int) ≤ (tcap : Int) := by omega
    have m5 : tcap ≤ 9223372036854775807 := by unfold maxLen at htc2; omega
    obtain ⟨W4, HW4⟩ := named (((w3.setCell ⟨pb + 1, 1, none⟩ (.slice to tl tcap)).setCell ⟨pb + 1, 3, none⟩ (.int .i64 3000)).setCell ⟨pb + 1, 1, none⟩ (.slice to km tcap))
    have g4 := ((HG3.out.set 1 (by omega) (.slice to tl tcap)).set 3 (by omega) (.int .i64 3000)).set 1 (by omega) (.slice to km tcap)
    rw [← HW4.out] at g4
    have p4 := ((HP3.out.other (g := pb + 1) (o := 1) (by omega) (.slice to tl tcap)).other (g := pb + 1) (o := 3) (by omega) (.int .i64 3000)).other (g := pb + 1) (o := 1) (by omega) (.slice to km tcap)
    rw [← HW4.out] at p4
    have HB4 : Hid (Below w.heap.size w W4) := by
      show Below _ _ _
      rw [HW4.out]
      exact ((HB3.out.setCell (p := ⟨pb + 1, 1, none⟩) (by show w.heap.size ≤ pb + 1; rw [HPB.out]; omega) _).setCell (p := ⟨pb + 1, 3, none⟩) (by show w.heap.size ≤ pb + 1; rw [HPB.out]; omega) _).setCell (p := ⟨pb + 1, 1, none⟩) (by show w.heap.size ≤ pb + 1; rw [HPB.out]; omega) _
    obtain ⟨K, HKK⟩ := named (T.take 90)
    have hKT : ∀ x ∈ K, x ∈ T := fun x hx => by rw [HKK.out] at hx; exact List.mem_of_mem_take hx
    have hKl : K.length = km := by rw [HKK.out, List.length_take, HKM.out, HTL.out, Nat.min_comm]
    have hT4 : RdK W4 (.slice to km tcap) K := by
      have h1 : RdK W4 (.slice to tl tcap) T := by
        rw [HW4.out]
        exact (OwnX.heap (w' := (((w3.setCell ⟨pb + 1, 1, none⟩ (.slice to tl tcap)).setCell ⟨pb + 1, 3, none⟩ (.int .i64 3000)).setCell ⟨pb + 1, 1, none⟩ (.slice to km tcap))) HO3.out fun a ha => ((Below.heap_setCell _ _ _ _ (by have h1 := (OwnX.lt HO3.out a ha).1; have h2 := HZ2.out; show a ≠ pb + 1; omega)).trans (Below.heap_setCell _ _ _ _ (by have h1 := (OwnX.lt HO3.out a ha).1; have h2 := HZ2.out; show a ≠ pb + 1; omega))).trans (Below.heap_setCell _ _ _ _ (by have h1 := (OwnX.lt HO3.out a ha).1; have h2 := HZ2.out; show a ≠ pb + 1; omega))).rd
      have h2 := RdK.take h1 km (by rw [← HTL.out]; exact hkm.1)
      have h3 : T.take km = K := by
        rw [HKK.out, HKM.out, HTL.out]
        rcases Nat.le_total T.length 90 with h | h
        · rw [Nat.min_eq_left h, List.take_of_length_le (Nat.le_refl _), List.take_of_length_le h]
        · rw [Nat.min_eq_right h]
      rw [h3] at h2
      exact h2
    have a1 : w3.cell? ⟨pb + 1, 1, none⟩ = some (.slice ko kl kc) := HG3.out.2.1 1 (by omega)
    have a1f : w3.frozen? ⟨pb + 1, 1, none⟩ = false := HG3.out.2.2 1
    have a3 : (w3.setCell ⟨pb + 1, 1, none⟩ (.slice to tl tcap)).cell? ⟨pb + 1, 3, none⟩ = some (.int .i64 fu) := (HG3.out.set 1 (by omega) (.slice to tl tcap)).2.1 3 (by omega)
    have a3f : (w3.setCell ⟨pb + 1, 1, none⟩ (.slice to tl tcap)).frozen? ⟨pb + 1, 3, none⟩ = false := (HG3.out.set 1 (by omega) (.slice to tl tcap)).2.2 3
    have r1 : ((w3.setCell ⟨pb + 1, 1, none⟩ (.slice to tl tcap)).setCell ⟨pb + 1, 3, none⟩ (.int .i64 3000)).cell? ⟨pb + 1, 1, none⟩ = some (.slice to tl tcap) := ((HG3.out.set 1 (by omega) (.slice to tl tcap)).set 3 (by omega) (.int .i64 3000)).2.1 1 (by omega)
    have r1f : ((w3.setCell ⟨pb + 1, 1, none⟩ (.slice to tl tcap)).setCell ⟨pb + 1, 3, none⟩ (.int .i64 3000)).frozen? ⟨pb + 1, 1, none⟩ = false := ((HG3.out.set 1 (by omega) (.slice to tl tcap)).set 3 (by omega) (.int .i64 3000)).2.2 1
    have b0 : W4.cell? ⟨pb, 0, none⟩ = some (.string p.name) := p4.2.1 0 (by omega)
    have b1 : W4.cell? ⟨pb, 1, none⟩ = some (.int .i64 p.regs) := p4.2.1 1 (by omega)
    have b2 : W4.cell? ⟨pb, 2, none⟩ = some (.slice ao L cap) := p4.2.1 2 (by omega)
    have c0 : W4.cell? ⟨pb + 1, 0, none⟩ = some (.int .i64 arg) := g4.2.1 0 (by omega)
    have c1 : W4.cell? ⟨pb + 1, 1, none⟩ = some (.slice to km tcap) := g4.2.1 1 (by omega)
    have c2 : W4.cell? ⟨pb + 1, 2, none⟩ = some (.slice so sl sc) := g4.2.1 2 (by omega)
    have c3 : W4.cell? ⟨pb + 1, 3, none⟩ = some (.int .i64 3000) := g4.2.1 3 (by omega)
    rw [HW4.out] at b0 b1 b2 c0 c1 c2 c3
    have h1 := of_any p (.slice ao L cap) arg (.slice to km tcap) K (.slice so sl sc) sg 3000 W4 (HK.out.below HB4.out) (HC.out.below HB4.out) HWF.out hT4 (RdX.below HS0.out HB4.out)
    rw [List.take_of_length_le (show K.length ≤ 300 by omega)] at h1
    have h1 : Calls Tryd.prog 12 #[.agg #[.string p.name, .int .i64 p.regs, .slice ao L cap], .agg #[.int .i64 arg, .slice to km tcap, .slice so sl sc, .int .i64 3000]] W4 _ := h1
    obtain ⟨S, HS⟩ := named (sg.take 300)
    rw [← HS.out] at h1
    obtain ⟨R1, HR1⟩ := named (runR p arg K S 3000)
    rw [← HR1.out] at h1
    have HG4 := hide g4
    have HP4 := hide p4
    have HT4 := hide hT4
    clear g4 p4 hT4
    go_wp2_with fail
    rw [← HW4.out]
    (with_reducible refine Calls.mono h1 ?_)
    rintro e w5 ⟨v5, rfl, hm5, hb5⟩
    clear a1 a1f a3 a3f r1 r1f b0 b1 b2 c0 c1 c2 c3 h1
    obtain ⟨mo, mc, hv5, -⟩ := RdM.shape (l := R1.1.cmds) hm5.rd
    subst hv5
    rw [show stV R1.1 (.slice mo R1.1.cmds.length mc) = .agg #[.int .i64 R1.1.at_, .int .i64 R1.1.ost, .int .i64 R1.1.ova, .int .i64 R1.1.on, .slice mo R1.1.cmds.length mc, .int .i64 R1.1.sig, .int .i64 R1.1.steps] from rfl]
    obtain ⟨l1, HL1⟩ := named R1.1.cmds.length
    rw [← HL1.out] at hm5 ⊢
    obtain ⟨sb, HSB⟩ := named w5.heap.size
    obtain ⟨W5, HW5⟩ := named (w5.alloc (.cells #[.int .i64 R1.1.at_, .int .i64 R1.1.ost, .int .i64 R1.1.ova, .int .i64 R1.1.on, .slice mo l1 mc, .int .i64 R1.1.sig, .int .i64 R1.1.steps] 35))
    have x5 : RC 7 W5 sb (fun k => ([.int .i64 R1.1.at_, .int .i64 R1.1.ost, .int .i64 R1.1.ova, .int .i64 R1.1.on, .slice mo l1 mc, .int .i64 R1.1.sig, .int .i64 R1.1.steps] : List Value).getD k undef) := by
      rw [HW5.out, HSB.out]
      refine RC.new w5 _ 35 _ (fun k hk => ?_)
      rcases (show k = 0 ∨ k = 1 ∨ k = 2 ∨ k = 3 ∨ k = 4 ∨ k = 5 ∨ k = 6 by omega) with rfl | rfl | rfl | rfl | rfl | rfl | rfl <;> rfl
    have hb45 : Below W4.heap.size W4 W5 := by rw [HW5.out]; exact hb5.alloc hb5.size _
    have HB5 := hide (HB4.out.trans (hb45.mono HB4.out.size))
    have HG5 := hide (HG4.out.below hb45)
    have HP5 := hide (HP4.out.below hb45)
    have HT5 := hide (RdX.below HT4.out hb45)
    have HM5 : Hid (RdM W5 (.slice mo l1 mc) R1.1.cmds) := by show RdM _ _ _; rw [HW5.out]; exact (OwnX.alloc hm5 _).rd
    have hz5 : W5.heap.size = w5.heap.size + 1 := by rw [HW5.out]; simp
    clear hb5 hm5 hb45
    by_cases hok : okP p 20 = true
    · have hg1 := runR_good p arg K S 3000 hok (by omega)
      have HG0 : Hid (∀ m : List (Int × Oc), runR p arg m S 3000 = (runP (knOf m) S p.code arg 3000, 0)) := fun m => runR_good p arg m S 3000 hok (by omega)
      have hwt := run_waits (knOf K) S p.code arg 3000
      obtain ⟨A, HA⟩ := named (runP (knOf K) S p.code arg 3000)
      rw [← HA.out] at hg1 hwt
      have k1 : R1 = (A, 0) := HR1.out.trans hg1
      subst k1
      simp only at HL1 HM5 x5 HW5 ⊢
      have HX5 := hide x5
      have d0 : W5.cell? ⟨sb, 0, none⟩ = some (.int .i64 A.at_) := x5.2.1 0 (by omega)
      rw [HW5.out, HSB.out] at d0
      clear x5 hg1 hok
      by_cases h2 : A.at_ = 2
      · obtain ⟨⟨on1, on2, on3⟩, hw1, hw2⟩ := hwt h2
        have q1 : ((A.at_ : Int) == 2) = true := by rw [h2]; rfl
        have q2 : (A.at_ : Int) = 2 := by rw [h2]; rfl
        rw [q2] at HW5 d0
        obtain ⟨w6, hr6, hm6, hb6, hs6⟩ := MpT.first W5 A.on ⟨by omega, by omega⟩
        rw [hz5] at hr6
        rw [HW5.out] at hr6
        have d3 : (W5.alloc (.map #[] 0)).cell? ⟨sb, 3, none⟩ = some (.int .i64 A.on) := (HX5.out.alloc (.map #[] 0)).2.1 3 (by omega)
        rw [HW5.out, HSB.out] at d3
        obtain ⟨mb, HMB⟩ := named W5.heap.size
        rw [← HMB.out] at hm6 hb6
        have c1 : w6.cell? ⟨pb + 1, 1, none⟩ = some (.slice to km tcap) := (HG5.out.below (by rw [← HMB.out]; exact hb6)).2.1 1 (by omega)
        have hmm := @run_makeMap Tryd.prog
        have HM6 := hide hm6
        have HB6 := hide hb6
        have ON := hide (And.intro on1 (And.intro on2 on3))
        have HW1' := hide hw1
        have HW2' := hide hw2
        have H2 := hide h2
        have HMB5 : Hid (mb = w5.heap.size + 1) := by show _ = _; rw [HMB.out, hz5]
        clear hz5
        clear hwt hw1 hw2 on1 on2 on3 hm6 hb6 h2
        go_wp2
        rw [← HMB5.out, ← HSB.out]
        clear d0 d3 c1 hr6 hmm q1 q2 hmin m4
        have hpbs : Hid (pb + 1 < mb) := by show _ < _; rw [HMB.out]; exact HG5.out.1
        have hsbm : Hid (sb < mb) := by show _ < _; rw [HMB.out]; exact HX5.out.1
        go_loopw [54] (fun i wr => ∃ k : Nat, k ≤ km ∧ i = .int .i64 k ∧ Hid (MpT wr mb (k + 1) A.on (K.take k)) ∧ Hid (Below mb W5 wr)) (fun i _ => km - (intOf i).toNat)
        case atStart => exact ⟨0, Nat.zero_le _, rfl, HM6.out, HB6.out⟩
        case round =>
          obtain ⟨k, hk, rfl, HM, HB⟩ := hrel
          by_cases hlt : k < km
          · have hkI : (k : Int) < (km : Int) := by omega
            have hb0 : Below W5.heap.size W5 wr := by rw [← HMB.out]; exact HB.out
            have hkl : k < K.length := by omega
            obtain ⟨b, off, hab, hbl, a0, a1, a2⟩ := RdK.at (RdX.below HT5.out hb0) k hkl
            subst hab
            have htk : K.take (k + 1) = K.take k ++ [K[k]'hkl] := List.take_succ_eq_append_getElem _
            have hir : IR (K[k]'hkl).1 := hwk _ (told_mem _ _ (by rw [← HT.out]; exact hKT _ (List.getElem_mem _)))
            obtain ⟨x, HX⟩ := named (K[k]'hkl)
            rw [← HX.out] at a0 a1 a2 htk hir
            obtain ⟨xn, xst, xva⟩ := x
            simp only at a0 a1 a2 hir
            have HTK := hide htk
            clear htk hb0
            have hlk : Hid (Below wr.heap.size wr (wr.alloc (.cells #[.int .i64 xn, .int .i64 xst, .int .i64 xva] 47))) := (Below.refl _ _).alloc (Nat.le_refl _) _
            have hM1 := HM.out.below hlk.out
            have hB1 := HB.out.trans (hlk.out.mono (by have := HM.out.lt; omega))
            obtain ⟨w7, hr, hm7, hg7, hs7⟩ := hM1.store (by omega) (xn, (xst, xva)) hir
            replace hr : (Instr.mapUpdate 57 (.map (some mb)) (.int .i64 xn) (.int .i64 1)).run Tryd.prog (wr.alloc (.cells #[.int .i64 xn, .int .i64 xst, .int .i64 xva] 47)) = .ok () w7 := hr
            have HM7 : Hid (MpT w7 mb (k + 1 + 1) A.on (K.take (k + 1))) := by
              show MpT _ _ _ _ _
              rw [HTK.out]
              exact hm7
            have HB7 : Hid (Below mb W5 w7) := hB1.grown hg7 (Nat.le_of_lt hM1.lt) (fun q hq => by cases hq; exact Nat.le_refl _)
            clear hM1 hB1 hm7 hg7 hs7 hir
            go_wp2
            go_roundw
            case rel => exact ⟨k + 1, hlt, by go_num, HM7.out, HB7.out⟩
            case measure => simp [intOf]; omega
          · obtain ⟨Wb, rfl⟩ : ∃ x, x = wr := ⟨wr, rfl⟩
            have hkn : k = km := by omega
            have hkI : ¬ (k : Int) < (km : Int) := by omega
            have hm := HM.out
            rw [List.take_of_length_le (by omega)] at hm
            have HMW := hide hm
            obtain ⟨base, HBASE⟩ := named Wb.heap.size
            have hmbb : Hid (mb < base) := by show _ < _; rw [HBASE.out]; exact hm.lt
            have hb0 : Below W5.heap.size W5 Wb := by rw [← HMB.out]; exact HB.out
            have hbl : Below Wb.heap.size Wb (Wb.alloc (.cells #[] 47)) := (Below.refl _ _).alloc (Nat.le_refl _) _
            have c1 : (Wb.alloc (.cells #[] 47)).cell? ⟨pb + 1, 1, none⟩ = some (.slice to km tcap) := (HG5.out.below (hb0.trans (hbl.mono hb0.size))).2.1 1 (by omega)
            have hlit : OwnX (Wb.alloc (.cells #[] 47)) Wb.heap.size 47 3 (.slice (some ⟨Wb.heap.size, 0, none⟩) 0 0) ([] : List (List Value)) := OwnX.lit Wb Wb.heap.size (Nat.le_refl _) #[] 3 0 [] 47 rfl rfl (Full.nil _) (by unfold maxLen; omega)
            obtain ⟨v7, w7, hr, ho7, -, hb7⟩ := OwnX.append rt25 hlit (RdX.below HT5.out (hb0.trans (hbl.mono hb0.size))) (full_kn _) (by simp; omega) (by simp) 25
            have hO7 : OwnK w7 Wb.heap.size v7 (moreN K A.on 0) := by unfold OwnK; exact ho7
            have HO7 := hide hO7
            have HB7 : Hid (Below Wb.heap.size Wb w7) := hbl.trans hb7
            have HB0 := hide hb0
            clear hm hb0 hbl hlit ho7 hb7 hO7
            go_wp2_with (at_builtin; go_must (refine Lib.wpList_append_run _ rfl _ _ _ _ rfl _ _ rfl rfl _ _ hr ?_))
            rw [← HBASE.out] at HB7 HO7
            clear hr c1
            go_loopw [10, 11] (fun all n wr2 => ∃ q : Nat, 1 ≤ q ∧ q ≤ 201 ∧ n = .int .i64 q ∧ Hid (OwnK wr2 base all (moreN K A.on (q - 1))) ∧ Hid (Below base Wb wr2)) (fun _ n _ => 201 - (intOf n).toNat)
            case atStart => exact ⟨1, Nat.le_refl _, by omega, by go_num, HO7.out, HB7.out⟩
            case round =>
              obtain ⟨q, hq0, hq1, rfl, HO, HBq⟩ := hrel
              obtain ⟨ro, rc, hrv, -⟩ := RdK.shape HO.out.rd
              obtain ⟨rn, HRN2⟩ := named (moreN K A.on (q - 1)).length
              rw [← HRN2.out] at hrv
              subst hrv
              have hbw : Below Wb.heap.size Wb wr := by rw [← HBASE.out]; exact HBq.out
              by_cases hq : q ≤ 200
              · have hqI : (q : Int) ≤ 200 := by omega
                have hlook := (HMW.out.below hbw).look (q : Int) ⟨by omega, by omega⟩
                have hmq := moreN_q K A.on q hq0
                have hql := moreN_len K A.on (q - 1)
                have hbs : base ≤ wr.heap.size := by rw [HBASE.out]; exact hbw.size
                by_cases hin : (q : Int) = A.on ∨ (q : Int) ∈ K.map (·.1)
                · rw [if_pos hin] at hlook hmq
                  have HO2 : Hid (OwnK wr base (.slice ro rn rc) (moreN K A.on (q + 1 - 1))) := by show OwnK _ _ _ (moreN K A.on q); rw [hmq]; exact HO.out
                  clear hmq hin hbw
                  go_wp2
                  go_roundw
                  case rel => exact ⟨q + 1, by omega, by omega, by go_num, HO2.out, HBq.out⟩
                  case measure => simp [intOf]; omega
                · rw [if_neg hin] at hlook hmq
                  obtain ⟨v', w', hr, ho, hb⟩ := HO.out.append1 ((q : Int), (0, (q : Int))) (by omega) hbs
                  simp only at hr
                  have HO2 : Hid (OwnK w' base v' (moreN K A.on (q + 1 - 1))) := by show OwnK _ _ _ (moreN K A.on q); rw [hmq]; exact ho
                  have HB2 := hide (HBq.out.trans hb)
                  clear hmq hin hbw ho hb
                  go_wp2_with (at_builtin; go_must (refine Lib.wpList_append_run _ rfl _ _ _ _ rfl _ _ rfl rfl _ _ hr ?_))
                  go_roundw
                  case rel => exact ⟨q + 1, by omega, by omega, by go_num, HO2.out, HB2.out⟩
                  case measure => simp [intOf]; omega
              · obtain ⟨WR, rfl⟩ : ∃ x, x = wr := ⟨wr, rfl⟩
                have hqI : ¬ (q : Int) ≤ 200 := by omega
                obtain rfl : q = 201 := by omega
                obtain ⟨M, HM0⟩ := named (moreN K A.on 200)
                have hO : OwnK WR base (.slice ro rn rc) M := by rw [HM0.out]; exact HO.out
                have HOWR := hide hO
                have hMl : M.length ≤ 290 := by have := moreN_len K A.on 200; rw [HM0.out]; omega
                have HMLEN := hide hMl
                have hmore : ∀ n o, knOf K n = some o → knOf M n = some o := by rw [HM0.out]; exact moreN_more K A.on 200
                have hnone : knOf M A.on = none := by rw [HM0.out]; exact moreN_none K A.on 200 ON.out.2.2
                have hR2 : runR p arg M S 3000 = (A, 0) := by rw [HG0.out, HW1'.out _ hmore hnone]
                obtain ⟨B, HBR⟩ := named (runP (knOf (M ++ [(A.on, ((0 : Int), (0 : Int)))])) S p.code arg 3000)
                have HR3 : Hid (runR p arg (M ++ [(A.on, ((0 : Int), (0 : Int)))]) S 3000 = (B, 0)) := by show _ = _; rw [HG0.out, HBR.out]
                have HLT : Hid (A.steps < B.steps) := by
                  show _ < _
                  rw [HBR.out]
                  exact HW2'.out _ (0, 0) (fun n o h => knOf_app _ _ _ _ (hmore n o h)) (knOf_last M A.on (0, 0) hnone)
                have hBR : Below base Wb WR := HBq.out
                have hbW5 : Below mb W5 WR := by
                  have h0 : Below mb W5 Wb := by rw [HMB.out]; exact HB0.out
                  exact h0.trans (hBR.mono (by have := hmbb.out; omega))
                have hbW5' : Below W5.heap.size W5 WR := by rw [← HMB.out]; exact hbW5
                have hbw : Below w.heap.size w WR := HB5.out.trans (hbW5'.mono HB5.out.size)
                have HBW := hide hbw
                have c0 : WR.cell? ⟨pb + 1, 0, none⟩ = some (.int .i64 arg) := (HG5.out.below hbW5').2.1 0 (by omega)
                have c2 : WR.cell? ⟨pb + 1, 2, none⟩ = some (.slice so sl sc) := (HG5.out.below hbW5').2.1 2 (by omega)
                have c3 : WR.cell? ⟨pb + 1, 3, none⟩ = some (.int .i64 3000) := (HG5.out.below hbW5').2.1 3 (by omega)
                have b0 : WR.cell? ⟨pb, 0, none⟩ = some (.string p.name) := (HP5.out.below hbW5').2.1 0 (by omega)
                have b1 : WR.cell? ⟨pb, 1, none⟩ = some (.int .i64 p.regs) := (HP5.out.below hbW5').2.1 1 (by omega)
                have b2 : WR.cell? ⟨pb, 2, none⟩ = some (.slice ao L cap) := (HP5.out.below hbW5').2.1 2 (by omega)
                obtain ⟨sm, HSM⟩ := named (min sl 300)
                have hms : min (sl : Int) 300 = (sm : Int) := by rw [HSM.out]; omega
                obtain ⟨so', sc', hsh, hs1, hs2⟩ := RdN.shape HS0.out
                obtain ⟨rfl, hsl0, rfl⟩ : so = so' ∧ sl = sg.length ∧ sc = sc' := by cases hsh; exact ⟨rfl, HSL.out, rfl⟩
                rw [← hsl0] at hs1
                have m1 : (sl : Int) ≤ (sc : Int) := by omega
                have m2 : (sm : Int) ≤ (sc : Int) := by omega
                have m3 : sc ≤ 9223372036854775807 := by unfold maxLen at hs2; omega
                have hTS := RdN.take HS0.out (min sg.length 300) (Nat.min_le_left _ _)
                rw [take300, ← hsl0, ← HSM.out, ← HS.out] at hTS
                have hSl : S.length ≤ 300 := by rw [HS.out, List.length_take]; omega
                have hrn : ∀ (kv : Value) (kl : List (Int × Oc)) (wz : World), Below w.heap.size w wz → kl.length ≤ 100000 → RdK wz kv kl → Calls Tryd.prog 17 #[.agg #[.string p.name, .int .i64 p.regs, .slice ao L cap], .int .i64 arg, kv, .slice so sm sc, .int .i64 3000] wz fun e w' => ∃ vc, e = .returned (.tuple #[stV (runR p arg kl S 3000).1 vc, .int .i64 (runR p arg kl S 3000).2]) ∧ OwnM w' wz.heap.size vc (runR p arg kl S 3000).1.cmds ∧ Below wz.heap.size wz w' := fun kv kl wz hb h1 ht => run_any p (.slice ao L cap) arg kv kl (.slice so sm sc) S 3000 wz (HK.out.below hb) (HC.out.below hb) HWF.out ht h1 (RdX.below hTS hb) (by omega)
                have HRN := hide hrn
                have h2 := HRN.out (.slice ro rn rc) M WR hbw (by omega) HOWR.out.rd
                rw [hR2] at h2
                have HB5R := hide hbW5
                have HBAS : Hid (mb < base ∧ base ≤ WR.heap.size) := ⟨hmbb.out, by have := hBR.size; rw [HBASE.out]; exact this⟩
                clear hO hMl hmore hnone hR2 hBR hbW5 hbw hsh hsl0 hTS hSl hrn
                go_wp2_with fail
                (with_reducible refine Calls.mono h2 ?_)
                rintro e w8 ⟨v8, rfl, hm8, hb8⟩
                have HX5R := hide (HX5.out.below hbW5')
                have HP5R := hide (HP5.out.below hbW5')
                have HG5R := hide (HG5.out.below hbW5')
                clear b0 b1 b2 c0 c2 c3 h2 hbW5' hms
                obtain ⟨no, nc, hv8, -⟩ := RdM.shape (l := A.cmds) hm8.rd
                subst hv8
                rw [show stV A (.slice no A.cmds.length nc) = .agg #[.int .i64 A.at_, .int .i64 A.ost, .int .i64 A.ova, .int .i64 A.on, .slice no A.cmds.length nc, .int .i64 A.sig, .int .i64 A.steps] from rfl]
                rw [← HL1.out] at hm8 ⊢
                obtain ⟨nb, HNB⟩ := named w8.heap.size
                obtain ⟨W9, HW9⟩ := named (w8.alloc (.cells #[.int .i64 A.at_, .int .i64 A.ost, .int .i64 A.ova, .int .i64 A.on, .slice no l1 nc, .int .i64 A.sig, .int .i64 A.steps] 35))
                have x9 : RC 7 W9 nb (fun k => ([.int .i64 A.at_, .int .i64 A.ost, .int .i64 A.ova, .int .i64 A.on, .slice no l1 nc, .int .i64 A.sig, .int .i64 A.steps] : List Value).getD k undef) := by
                  rw [HW9.out, HNB.out]
                  refine RC.new w8 _ 35 _ (fun k hk => ?_)
                  rcases (show k = 0 ∨ k = 1 ∨ k = 2 ∨ k = 3 ∨ k = 4 ∨ k = 5 ∨ k = 6 by omega) with rfl | rfl | rfl | rfl | rfl | rfl | rfl <;> rfl
                have hbR9 : Below WR.heap.size WR W9 := by rw [HW9.out]; exact hb8.alloc hb8.size _
                have HX9n := hide x9
                have HX9s := hide (HX5R.out.below hbR9)
                have HP9 := hide (HP5R.out.below hbR9)
                have HG9 := hide (HG5R.out.below hbR9)
                have HN9 : Hid (OwnM W9 WR.heap.size (.slice no l1 nc) A.cmds) := by show OwnM _ _ _ _; rw [HW9.out]; exact OwnX.alloc hm8 _
                have HO9 := hide (HOWR.out.below hbR9)
                have HNBW : Hid (WR.heap.size ≤ nb) := by show _ ≤ _; rw [HNB.out]; exact hb8.size
                have HWRW9 : Hid (WR.heap.size ≤ W9.heap.size) := hbR9.size
                have HBW9 : Hid (base ≤ W9.heap.size) := Nat.le_trans HBAS.out.2 hbR9.size
                have HBwW9 := hide (HBW.out.trans (hbR9.mono HBW.out.size))
                have HBM9 : Hid (Below mb W5 W9) := HB5R.out.trans (hbR9.mono (by have := HBAS.out; omega))
                have HBWB : Hid (w.heap.size ≤ base) := by have := HBAS.out.1; have := hpbs.out; show _ ≤ _; rw [← HPB.out]; omega
                have hsx : ∀ X : World, Below base W9 X → (fun w' => w'.cell? ⟨pb, 0, none⟩ = some (.string p.name) ∧ w'.cell? ⟨pb, 1, none⟩ = some (.int .i64 p.regs) ∧ w'.cell? ⟨pb, 2, none⟩ = some (.slice ao L cap) ∧ w'.cell? ⟨pb + 1, 0, none⟩ = some (.int .i64 arg) ∧ w'.cell? ⟨pb + 1, 3, none⟩ = some (.int .i64 3000) ∧ w'.cell? ⟨sb, 3, none⟩ = some (.int .i64 A.on)) X := fun X hb => ⟨(HP9.out.grown hb (by have := hpbs.out; have := hmbb.out; omega)).2.1 0 (by omega), (HP9.out.grown hb (by have := hpbs.out; have := hmbb.out; omega)).2.1 1 (by omega), (HP9.out.grown hb (by have := hpbs.out; have := hmbb.out; omega)).2.1 2 (by omega), (HG9.out.grown hb (by have := hpbs.out; have := hmbb.out; omega)).2.1 0 (by omega), (HG9.out.grown hb (by have := hpbs.out; have := hmbb.out; omega)).2.1 3 (by omega), (HX9s.out.grown hb (by have := hsbm.out; have := hmbb.out; omega)).2.1 3 (by omega)⟩
                have HSX := hide hsx
                obtain ⟨Wq, HWq⟩ := named W9.drew
                have HBS0 : Hid (Below base W9 Wq) := by show Below _ _ _; rw [HWq.out]; exact (Below.refl _ _).drew
                have HKP0 : Hid (∀ a, WR.heap.size ≤ a → a < W9.heap.size → Wq.heap[a]? = W9.heap[a]?) := by show ∀ a, _; rw [HWq.out]; exact fun a _ _ => rfl
                have HOX0 : Hid (OwnK Wq base (.slice ro rn rc) M) := by show OwnK _ _ _ _; rw [HWq.out]; exact HO9.out
                have hsS0 := HSX.out Wq HBS0.out
                clear hb8 hm8 x9 hbR9 hsx
                go_wp2_with fail
                rw [← HW9.out, ← HNB.out]
                refine wp_region_E 18 (fun w' => w'.cell? ⟨pb, 0, none⟩ = some (.string p.name) ∧ w'.cell? ⟨pb, 1, none⟩ = some (.int .i64 p.regs) ∧ w'.cell? ⟨pb, 2, none⟩ = some (.slice ao L cap) ∧ w'.cell? ⟨pb + 1, 0, none⟩ = some (.int .i64 arg) ∧ w'.cell? ⟨pb + 1, 3, none⟩ = some (.int .i64 3000) ∧ w'.cell? ⟨sb, 3, none⟩ = some (.int .i64 A.on)) (by kernel_rfl) ?_
                rw [← HWq.out]
                refine wpAnyE_take 0 [18] (oi := { dst := some 100, op := Go.Op.load 24 (Go.Operand.tmp 2), type := 24, pos := "more.go:35", after := #[], guard := none }) (v := ?_) rfl (by kernel_rfl) (by kernel_rfl) (by kernel_rfl) (by kernel_rfl) (fun _ _ _ h => h) (Or.inl ⟨by rfl, ?hE15⟩) hsS0 ?_
                case hE15 =>
                  intro u hu
                  obtain ⟨u0, u1, u2, u3, u4, u5⟩ := hu
                  go_simp
                  try with_reducible rfl
                simp only [Act.put, List.setIfInBounds_toArray, List.set_cons_zero, List.set_cons_succ]
                refine wpAnyE_take 1 [18] (oi := { dst := some 101, op := Go.Op.fieldAddr 28 (Go.Operand.tmp 3) 0, type := 0, pos := "more.go:35", after := #[], guard := none }) (v := ?_) rfl (by kernel_rfl) (by kernel_rfl) (by kernel_rfl) (by kernel_rfl) (fun _ _ _ h => h) (Or.inl ⟨by rfl, ?hE16⟩) hsS0 ?_
                case hE16 =>
                  intro u hu
                  obtain ⟨u0, u1, u2, u3, u4, u5⟩ := hu
                  go_simp
                  try with_reducible rfl
                simp only [Act.put, List.setIfInBounds_toArray, List.set_cons_zero, List.set_cons_succ]
                refine wpAnyE_take 2 [18] (oi := { dst := some 102, op := Go.Op.load 2 (Go.Operand.tmp 101), type := 2, pos := "more.go:35", after := #[{ on := 1, ground := Go.Ground.data }], guard := none }) (v := ?_) rfl (by kernel_rfl) (by kernel_rfl) (by kernel_rfl) (by kernel_rfl) (fun _ _ _ h => h) (Or.inl ⟨by rfl, ?hE17⟩) hsS0 ?_
                case hE17 =>
                  intro u hu
                  obtain ⟨u0, u1, u2, u3, u4, u5⟩ := hu
                  go_simp
                  try with_reducible rfl
                simp only [Act.put, List.setIfInBounds_toArray, List.set_cons_zero, List.set_cons_succ]
                refine wpAnyE_take 3 [18] (oi := { dst := some 103, op := Go.Op.move (Go.Operand.tmp 10), type := 25, pos := "more.go:35", after := #[], guard := none }) (v := ?_) rfl (by kernel_rfl) (by kernel_rfl) (by kernel_rfl) (by kernel_rfl) (fun _ _ _ h => h) (Or.inl ⟨by rfl, ?hE18⟩) hsS0 ?_
                case hE18 =>
                  intro u hu
                  obtain ⟨u0, u1, u2, u3, u4, u5⟩ := hu
                  go_simp
                  try with_reducible rfl
                simp only [Act.put, List.setIfInBounds_toArray, List.set_cons_zero, List.set_cons_succ]
                refine wpAnyE_take 4 [18] (oi := { dst := some 104, op := Go.Op.fieldAddr 35 (Go.Operand.tmp 5) 2, type := 0, pos := "more.go:35", after := #[], guard := none }) (v := ?_) rfl (by kernel_rfl) (by kernel_rfl) (by kernel_rfl) (by kernel_rfl) (fun _ _ _ h => h) (Or.inl ⟨by rfl, ?hE19⟩) hsS0 ?_
                case hE19 =>
                  intro u hu
                  obtain ⟨u0, u1, u2, u3, u4, u5⟩ := hu
                  go_simp
                  try with_reducible rfl
                simp only [Act.put, List.setIfInBounds_toArray, List.set_cons_zero, List.set_cons_succ]
                refine wpAnyE_take 5 [18] (oi := { dst := some 105, op := Go.Op.load 3 (Go.Operand.tmp 104), type := 3, pos := "more.go:35", after := #[{ on := 4, ground := Go.Ground.data }], guard := none }) (v := ?_) rfl (by kernel_rfl) (by kernel_rfl) (by kernel_rfl) (by kernel_rfl) (fun _ _ _ h => h) (Or.inl ⟨by rfl, ?hE20⟩) hsS0 ?_
                case hE20 =>
                  intro u hu
                  obtain ⟨u0, u1, u2, u3, u4, u5⟩ := hu
                  go_simp
                  try with_reducible rfl
                simp only [Act.put, List.setIfInBounds_toArray, List.set_cons_zero, List.set_cons_succ]
                refine wpAnyE_take 6 [18] (oi := { dst := some 106, op := Go.Op.build 47 #[(0, Go.Operand.tmp 105)], type := 47, pos := "more.go:35", after := #[{ on := 5, ground := Go.Ground.data }], guard := none }) (v := ?_) rfl (by kernel_rfl) (by kernel_rfl) (by kernel_rfl) (by kernel_rfl) (fun _ _ _ h => h) (Or.inl ⟨by rfl, ?hE21⟩) hsS0 ?_
                case hE21 =>
                  intro u hu
                  obtain ⟨u0, u1, u2, u3, u4, u5⟩ := hu
                  go_simp
                  try with_reducible rfl
                simp only [Act.put, List.setIfInBounds_toArray, List.set_cons_zero, List.set_cons_succ]
                refine wpAnyE_take 9 [18] (oi := { dst := some 109, op := Go.Op.move (Go.Operand.tmp 12), type := 26, pos := "more.go:35", after := #[], guard := none }) (v := ?_) rfl (by kernel_rfl) (by kernel_rfl) (by kernel_rfl) (by kernel_rfl) (fun _ _ _ h => h) (Or.inl ⟨by rfl, ?hE22⟩) hsS0 ?_
                case hE22 =>
                  intro u hu
                  obtain ⟨u0, u1, u2, u3, u4, u5⟩ := hu
                  go_simp
                  try with_reducible rfl
                simp only [Act.put, List.setIfInBounds_toArray, List.set_cons_zero, List.set_cons_succ]
                refine wpAnyE_take 10 [18] (oi := { dst := some 110, op := Go.Op.fieldAddr 28 (Go.Operand.tmp 3) 3, type := 0, pos := "more.go:35", after := #[], guard := none }) (v := ?_) rfl (by kernel_rfl) (by kernel_rfl) (by kernel_rfl) (by kernel_rfl) (fun _ _ _ h => h) (Or.inl ⟨by rfl, ?hE23⟩) hsS0 ?_
                case hE23 =>
                  intro u hu
                  obtain ⟨u0, u1, u2, u3, u4, u5⟩ := hu
                  go_simp
                  try with_reducible rfl
                simp only [Act.put, List.setIfInBounds_toArray, List.set_cons_zero, List.set_cons_succ]
                refine wpAnyE_take 11 [18] (oi := { dst := some 111, op := Go.Op.load 3 (Go.Operand.tmp 110), type := 3, pos := "more.go:35", after := #[{ on := 10, ground := Go.Ground.data }], guard := none }) (v := ?_) rfl (by kernel_rfl) (by kernel_rfl) (by kernel_rfl) (by kernel_rfl) (fun _ _ _ h => h) (Or.inl ⟨by rfl, ?hE24⟩) hsS0 ?_
                case hE24 =>
                  intro u hu
                  obtain ⟨u0, u1, u2, u3, u4, u5⟩ := hu
                  go_simp
                  try with_reducible rfl
                simp only [Act.put, List.setIfInBounds_toArray, List.set_cons_zero, List.set_cons_succ]
                refine wpAnyE_two (i := 7) (j := 16) (o := { dst := some 107, op := Go.Op.buildSlice 25 1 #[(0, Go.Operand.tmp 106)], type := 25, pos := "more.go:35", after := #[{ on := 6, ground := Go.Ground.data }], guard := none }) (o' := { dst := some 15, op := Go.Op.alloc 35, type := 0, pos := "more.go:35", after := #[], guard := none }) (by kernel_rfl) rfl rfl (fun K hK => ?w25a) (fun K hK => ?w25b)
                case' w25a =>
                  go_simp
                  obtain ⟨lb, HLB⟩ := named Wq.heap.size
                  obtain ⟨X1, HXN1⟩ := named (Wq.alloc (.cells #[.int .i64 A.on, .int .i64 0, .int .i64 0] 47))
                  try rw [← HXN1.out]
                  try rw [← HLB.out]
                  have hb7 : Below Wq.heap.size Wq X1 := by rw [HXN1.out]; exact (Below.refl _ _).alloc (Nat.le_refl _) _
                  have hst : Below base Wq X1 := hb7.mono (by have := HBS0.out.size; have := HBW9.out; omega)
                  have kst : ∀ a, WR.heap.size ≤ a → a < Wq.heap.size → X1.heap[a]? = Wq.heap[a]? := fun a _ h2 => hb7.block a h2
                  have HBS1 : Hid (Below base W9 X1) := HBS0.out.trans hst
                  have HKP1 : Hid (∀ a, WR.heap.size ≤ a → a < W9.heap.size → X1.heap[a]? = W9.heap[a]?) := fun a h1 h2 => (kst a h1 (Nat.lt_of_lt_of_le h2 HBS0.out.size)).trans (HKP0.out a h1 h2)
                  have hsS1 := HSX.out X1 HBS1.out
                  have HOX1 := hide (HOX0.out.below hb7)
                  have HLIT1 : Hid (RdK X1 (.slice (some ⟨lb, 0, none⟩) 1 1) [(A.on, (0, 0))]) := by
                    show RdK _ _ _
                    rw [HXN1.out, HLB.out]
                    exact RdX.lit Wq #[.int .i64 A.on, .int .i64 0, .int .i64 0] 3 1 ([(A.on, ((0 : Int), (0 : Int)))].map knC) 47 rfl rfl (full_kn _) (by unfold maxLen; omega)
                  clear hst kst hb7
                  refine hK _ _ (fun _ => hsS1) ?_
                  clear hK K
                  try simp only [Act.put, List.setIfInBounds_toArray, List.set_cons_zero, List.set_cons_succ]
                  refine wpAnyE_two (i := 8) (j := 16) (o := { dst := some 108, op := Go.Op.call { callee := Go.Callee.builtin Go.Builtin.append, args := #[Go.Operand.tmp 103, Go.Operand.tmp 107], argTypes := #[25, 25] }, type := 25, pos := "more.go:35", after := #[{ on := 3, ground := Go.Ground.data }, { on := 7, ground := Go.Ground.data }], guard := none }) (o' := { dst := some 15, op := Go.Op.alloc 35, type := 0, pos := "more.go:35", after := #[], guard := none }) (by kernel_rfl) rfl rfl (fun K hK => ?w26a) (fun K hK => ?w26b)
                  case' w26a =>
                    obtain ⟨va, X2, hr8, hoa, hga, hst⟩ := OwnX.append rt25 HOX1.out HLIT1.out (full_kn _) (by have := HMLEN.out; simp; omega) (by have := HBS1.out.size; have := HBW9.out; omega) 25
                    have HR8 := hide hr8
                    refine step_append_runI rfl (.tmp 103) (.tmp 107) 25 25 rfl (.slice ro rn rc) (.slice (some ⟨lb, 0, none⟩) 1 1) (by simp [Act.eval]) (by simp [Act.eval]) HR8.out ?_
                    have kst : ∀ a, WR.heap.size ≤ a → a < X1.heap.size → X2.heap[a]? = X1.heap[a]? := fun a h1 h2 => hga.block a h2 (fun e => by have := (OwnX.lt HOWR.out a e.symm).2; omega)
                    have HBS2 : Hid (Below base W9 X2) := HBS1.out.trans hst
                    have HKP2 : Hid (∀ a, WR.heap.size ≤ a → a < W9.heap.size → X2.heap[a]? = W9.heap[a]?) := fun a h1 h2 => (kst a h1 (Nat.lt_of_lt_of_le h2 HBS1.out.size)).trans (HKP1.out a h1 h2)
                    have hsS2 := HSX.out X2 HBS2.out
                    have HVA2 : Hid (RdK X2 va (M ++ [(A.on, (0, 0))])) := by
                      show RdK _ _ _
                      unfold RdK
                      rw [List.map_append]
                      exact hoa.rd
                    clear hst kst hga hoa hr8
                    refine hK _ _ (fun _ => hsS2) ?_
                    clear hK K
                    try simp only [Act.put, List.setIfInBounds_toArray, List.set_cons_zero, List.set_cons_succ]
                    refine wpAnyE_two (i := 12) (j := 16) (o := { dst := some 112, op := Go.Op.call { callee := Go.Callee.value (Go.Operand.func 17), args := #[Go.Operand.tmp 100, Go.Operand.tmp 102, Go.Operand.tmp 108, Go.Operand.tmp 109, Go.Operand.tmp 111], argTypes := #[24, 2, 25, 26, 3] }, type := 37, pos := "more.go:35", after := #[{ on := 0, ground := Go.Ground.data }, { on := 2, ground := Go.Ground.data }, { on := 8, ground := Go.Ground.data }, { on := 9, ground := Go.Ground.data }, { on := 11, ground := Go.Ground.data }, { on := 8, ground := Go.Ground.chain }], guard := none }) (o' := { dst := some 15, op := Go.Op.alloc 35, type := 0, pos := "more.go:35", after := #[], guard := none }) (by kernel_rfl) rfl rfl (fun K hK => ?w27a) (fun K hK => ?w27b)
                    case' w27a =>
                      have h12 := HRN.out va (M ++ [(A.on, (0, 0))]) X2 (HBwW9.out.trans (HBS2.out.mono (by have := HBWB.out; omega))) (by have := HMLEN.out; simp; omega) HVA2.out
                      rw [HR3.out] at h12
                      go_simp
                      (with_reducible refine Calls.mono h12 ?_)
                      rintro e X3 ⟨vu, rfl, hmu, hbu⟩
                      clear h12
                      have hst : Below base X2 X3 := hbu.mono (by have := HBS2.out.size; have := HBW9.out; omega)
                      have kst : ∀ a, WR.heap.size ≤ a → a < X2.heap.size → X3.heap[a]? = X2.heap[a]? := fun a _ h2 => hbu.block a h2
                      have HBS3 : Hid (Below base W9 X3) := HBS2.out.trans hst
                      have HKP3 : Hid (∀ a, WR.heap.size ≤ a → a < W9.heap.size → X3.heap[a]? = W9.heap[a]?) := fun a h1 h2 => (kst a h1 (Nat.lt_of_lt_of_le h2 HBS2.out.size)).trans (HKP2.out a h1 h2)
                      have hsS3 := HSX.out X3 HBS3.out
                      obtain ⟨uo, uc, hvu, -⟩ := RdM.shape (l := B.cmds) hmu.rd
                      subst hvu
                      rw [show stV B (.slice uo B.cmds.length uc) = .agg #[.int .i64 B.at_, .int .i64 B.ost, .int .i64 B.ova, .int .i64 B.on, .slice uo B.cmds.length uc, .int .i64 B.sig, .int .i64 B.steps] from rfl]
                      clear hst kst hbu hmu
                      refine hK _ _ (fun _ => hsS3) ?_
                      clear hK K
                      try simp only [Act.put, List.setIfInBounds_toArray, List.set_cons_zero, List.set_cons_succ]
                      refine wpAnyE_take 13 [18] (oi := { dst := some 99, op := Go.Op.move (Go.Operand.tmp 112), type := 37, pos := "more.go:35", after := #[{ on := 12, ground := Go.Ground.data }], guard := none }) (v := ?_) rfl (by kernel_rfl) (by kernel_rfl) (by kernel_rfl) (by kernel_rfl) (fun _ _ _ h => h) (Or.inl ⟨by rfl, ?hE28⟩) hsS3 ?_
                      case hE28 =>
                        intro u hu
                        obtain ⟨u0, u1, u2, u3, u4, u5⟩ := hu
                        go_simp
                        try with_reducible rfl
                      simp only [Act.put, List.setIfInBounds_toArray, List.set_cons_zero, List.set_cons_succ]
                      refine wpAnyE_take 14 [18] (oi := { dst := some 113, op := Go.Op.extract (Go.Operand.tmp 99) 0, type := 35, pos := "more.go:35", after := #[{ on := 13, ground := Go.Ground.data }], guard := none }) (v := ?_) rfl (by kernel_rfl) (by kernel_rfl) (by kernel_rfl) (by kernel_rfl) (fun _ _ _ h => h) (Or.inl ⟨by rfl, ?hE29⟩) hsS3 ?_
                      case hE29 =>
                        intro u hu
                        obtain ⟨u0, u1, u2, u3, u4, u5⟩ := hu
                        go_simp
                        try with_reducible rfl
                      simp only [Act.put, List.setIfInBounds_toArray, List.set_cons_zero, List.set_cons_succ]
                      refine wpAnyE_take 15 [18] (oi := { dst := some 114, op := Go.Op.extract (Go.Operand.tmp 99) 1, type := 36, pos := "more.go:35", after := #[{ on := 13, ground := Go.Ground.data }, { on := 17, ground := Go.Ground.gcOnly Go.Departure.lateStores }], guard := none }) (v := ?_) rfl (by kernel_rfl) (by kernel_rfl) (by kernel_rfl) (by kernel_rfl) (fun _ _ _ h => h) (Or.inl ⟨by rfl, ?hE30⟩) hsS3 ?_
                      case hE30 =>
                        intro u hu
                        obtain ⟨u0, u1, u2, u3, u4, u5⟩ := hu
                        go_simp
                        try with_reducible rfl
                      simp only [Act.put, List.setIfInBounds_toArray, List.set_cons_zero, List.set_cons_succ]
                      refine wpAnyE_one (i := 16) (o := { dst := some 15, op := Go.Op.alloc 35, type := 0, pos := "more.go:35", after := #[], guard := none }) (by kernel_rfl) rfl (fun K hK => ?_)
                      go_simp
                      obtain ⟨tb, HTB⟩ := named X3.heap.size
                      obtain ⟨X4, HXN4⟩ := named (X3.alloc (.cells #[.int .i64 0, .int .i64 0, .int .i64 0, .int .i64 0, .slice none 0 0, .int .i64 0, .int .i64 0] 35))
                      try rw [← HXN4.out]
                      try rw [← HTB.out]
                      have hb16 : Below X3.heap.size X3 X4 := by rw [HXN4.out]; exact (Below.refl _ _).alloc (Nat.le_refl _) _
                      have hst : Below base X3 X4 := hb16.mono (by have := HBS3.out.size; have := HBW9.out; omega)
                      have kst : ∀ a, WR.heap.size ≤ a → a < X3.heap.size → X4.heap[a]? = X3.heap[a]? := fun a _ h2 => hb16.block a h2
                      have HBS4 : Hid (Below base W9 X4) := HBS3.out.trans hst
                      have HKP4 : Hid (∀ a, WR.heap.size ≤ a → a < W9.heap.size → X4.heap[a]? = W9.heap[a]?) := fun a h1 h2 => (kst a h1 (Nat.lt_of_lt_of_le h2 HBS3.out.size)).trans (HKP3.out a h1 h2)
                      have hsS4 := HSX.out X4 HBS4.out
                      have HZ74 : Hid (RC 7 X4 tb (fun k => ([.int .i64 0, .int .i64 0, .int .i64 0, .int .i64 0, .slice none 0 0, .int .i64 0, .int .i64 0] : List Value).getD k undef)) := by
                        show RC _ _ _ _
                        rw [HXN4.out, HTB.out]
                        refine RC.new X3 _ 35 _ (fun k hk => ?_)
                        rcases (show k = 0 ∨ k = 1 ∨ k = 2 ∨ k = 3 ∨ k = 4 ∨ k = 5 ∨ k = 6 by omega) with rfl | rfl | rfl | rfl | rfl | rfl | rfl <;> rfl
                      have HTBW : Hid (W9.heap.size ≤ tb) := by show _ ≤ _; rw [HTB.out]; exact HBS3.out.size
                      clear hst kst hb16
                      refine hK _ _ (fun _ => hsS4) ?_
                      clear hK K
                      try simp only [Act.put, List.setIfInBounds_toArray, List.set_cons_zero, List.set_cons_succ]
                      refine wpAnyE_one (i := 17) (o := { dst := none, op := Go.Op.store 35 (Go.Operand.tmp 15) (Go.Operand.tmp 113), type := 0, pos := "more.go:35", after := #[{ on := 16, ground := Go.Ground.data }, { on := 14, ground := Go.Ground.data }, { on := 12, ground := Go.Ground.chain }, { on := 0, ground := Go.Ground.phase }, { on := 1, ground := Go.Ground.phase }, { on := 2, ground := Go.Ground.phase }, { on := 3, ground := Go.Ground.phase }, { on := 4, ground := Go.Ground.phase }, { on := 5, ground := Go.Ground.phase }, { on := 6, ground := Go.Ground.phase }, { on := 7, ground := Go.Ground.phase }, { on := 8, ground := Go.Ground.phase }, { on := 9, ground := Go.Ground.phase }, { on := 10, ground := Go.Ground.phase }, { on := 11, ground := Go.Ground.phase }, { on := 12, ground := Go.Ground.phase }, { on := 13, ground := Go.Ground.phase }, { on := 14, ground := Go.Ground.phase }, { on := 15, ground := Go.Ground.textOnly Go.Departure.lateStores }, { on := 16, ground := Go.Ground.phase }], guard := none }) (by kernel_rfl) rfl (fun K hK => ?_)
                      have z0 : X4.cell? ⟨tb, 0, none⟩ = some (.int .i64 0) := HZ74.out.2.1 0 (by omega)
                      have z1 : X4.cell? ⟨tb, 1, none⟩ = some (.int .i64 0) := HZ74.out.2.1 1 (by omega)
                      have z2 : X4.cell? ⟨tb, 2, none⟩ = some (.int .i64 0) := HZ74.out.2.1 2 (by omega)
                      have z3 : X4.cell? ⟨tb, 3, none⟩ = some (.int .i64 0) := HZ74.out.2.1 3 (by omega)
                      have z4 : X4.cell? ⟨tb, 4, none⟩ = some (.slice none 0 0) := HZ74.out.2.1 4 (by omega)
                      have z5 : X4.cell? ⟨tb, 5, none⟩ = some (.int .i64 0) := HZ74.out.2.1 5 (by omega)
                      have z6 : X4.cell? ⟨tb, 6, none⟩ = some (.int .i64 0) := HZ74.out.2.1 6 (by omega)
                      have f0 := HZ74.out.2.2 0
                      have f1 := HZ74.out.2.2 1
                      have f2 := HZ74.out.2.2 2
                      have f3 := HZ74.out.2.2 3
                      have f4 := HZ74.out.2.2 4
                      have f5 := HZ74.out.2.2 5
                      have f6 := HZ74.out.2.2 6
                      go_simp
                      obtain ⟨X5, HXN5⟩ := named (set7 X4 tb (.int .i64 B.at_) (.int .i64 B.ost) (.int .i64 B.ova) (.int .i64 B.on) (.slice uo B.cmds.length uc) (.int .i64 B.sig) (.int .i64 B.steps))
                      have hset : (((((((X4.setCell ⟨tb, 0, none⟩ (.int .i64 B.at_)).setCell ⟨tb, 1, none⟩ (.int .i64 B.ost)).setCell ⟨tb, 2, none⟩ (.int .i64 B.ova)).setCell ⟨tb, 3, none⟩ (.int .i64 B.on)).setCell ⟨tb, 4, none⟩ (.slice uo B.cmds.length uc)).setCell ⟨tb, 5, none⟩ (.int .i64 B.sig)).setCell ⟨tb, 6, none⟩ (.int .i64 B.steps)) = X5 := HXN5.out.symm
                      try rw [hset]
                      clear z0 z1 z2 z3 z4 z5 z6 f0 f1 f2 f3 f4 f5 f6
                      have hst : Below base X4 X5 := by rw [HXN5.out]; exact below_set7 (Below.refl _ _) (by have := HTBW.out; have := HBW9.out; omega) _ _ _ _ _ _ _
                      have HBS5 : Hid (Below base W9 X5) := HBS4.out.trans hst
                      have HKP5 : Hid (∀ a, WR.heap.size ≤ a → a < W9.heap.size → X5.heap[a]? = W9.heap[a]?) := fun a h1 h2 => by rw [HXN5.out, set7_other _ _ _ _ _ _ _ _ _ a (by have := HTBW.out; omega)]; exact HKP4.out a h1 h2
                      have hsS5 := HSX.out X5 HBS5.out
                      have HU5 : Hid (RC 7 X5 tb (fun k => ([.int .i64 B.at_, .int .i64 B.ost, .int .i64 B.ova, .int .i64 B.on, .slice uo B.cmds.length uc, .int .i64 B.sig, .int .i64 B.steps] : List Value).getD k undef)) := by show RC _ _ _ _; rw [HXN5.out]; exact RC.set7 HZ74.out _ _ _ _ _ _ _
                      clear hset hst
                      refine hK _ _ (fun _ => hsS5) ?_
                      clear hK K
                      try simp only [Act.put, List.setIfInBounds_toArray, List.set_cons_zero, List.set_cons_succ]
                      refine wpAnyE_one (i := 18) (o := { dst := some 16, op := Go.Op.assign (Go.Operand.tmp 114), type := 36, pos := "more.go:35", after := #[{ on := 15, ground := Go.Ground.data }, { on := 17, ground := Go.Ground.chain }, { on := 0, ground := Go.Ground.phase }, { on := 1, ground := Go.Ground.phase }, { on := 2, ground := Go.Ground.phase }, { on := 3, ground := Go.Ground.phase }, { on := 4, ground := Go.Ground.phase }, { on := 5, ground := Go.Ground.phase }, { on := 6, ground := Go.Ground.phase }, { on := 7, ground := Go.Ground.phase }, { on := 8, ground := Go.Ground.phase }, { on := 9, ground := Go.Ground.phase }, { on := 10, ground := Go.Ground.phase }, { on := 11, ground := Go.Ground.phase }, { on := 12, ground := Go.Ground.phase }, { on := 13, ground := Go.Ground.phase }, { on := 14, ground := Go.Ground.phase }, { on := 15, ground := Go.Ground.phase }, { on := 16, ground := Go.Ground.phase }, { on := 17, ground := Go.Ground.phase }], guard := none }) (by kernel_rfl) rfl (fun K hK => ?_)
                      go_simp
                      refine hK _ _ (fun h => absurd rfl h) ?_
                      clear hK K
                      try simp only [Act.put, List.setIfInBounds_toArray, List.set_cons_zero, List.set_cons_succ]
                      refine wpAnyE_done (by kernel_rfl) ?_
                      have HMX : Hid (RdM X5 (.slice mo l1 mc) A.cmds) := RdM.below HM5.out (by rw [← HMB.out]; exact HBM9.out.trans (HBS5.out.mono (by have := hmbb.out; omega)))
                      have HNX : Hid (RdM X5 (.slice no l1 nc) A.cmds) := (OwnX.heap (w' := X5) HN9.out fun a ha => HKP5.out a (OwnX.lt HN9.out a ha).1 (OwnX.lt HN9.out a ha).2).rd
                      have y5 := HX9s.out.grown HBS5.out (by have := hsbm.out; have := hmbb.out; omega)
                      have x7 := HX9n.out.same (HKP5.out nb HNBW.out HX9n.out.1) HBS5.out.size
                      have hsame := same_any (w := X5) (s := A) (u := A) HMX.out HNX.out
                      rw [decide_eq_true (Alike.refl _)] at hsame
                      have hsame : Calls Tryd.prog 14 #[.agg #[.int .i64 A.at_, .int .i64 A.ost, .int .i64 A.ova, .int .i64 A.on, .slice mo l1 mc, .int .i64 A.sig, .int .i64 A.steps], .agg #[.int .i64 A.at_, .int .i64 A.ost, .int .i64 A.ova, .int .i64 A.on, .slice no l1 nc, .int .i64 A.sig, .int .i64 A.steps]] X5 _ := hsame
                      have d0 : X5.cell? ⟨sb, 0, none⟩ = some (.int .i64 A.at_) := y5.2.1 0 (by omega)
                      have d1 : X5.cell? ⟨sb, 1, none⟩ = some (.int .i64 A.ost) := y5.2.1 1 (by omega)
                      have d2 : X5.cell? ⟨sb, 2, none⟩ = some (.int .i64 A.ova) := y5.2.1 2 (by omega)
                      have d3 : X5.cell? ⟨sb, 3, none⟩ = some (.int .i64 A.on) := y5.2.1 3 (by omega)
                      have d4 : X5.cell? ⟨sb, 4, none⟩ = some (.slice mo l1 mc) := y5.2.1 4 (by omega)
                      have d5 : X5.cell? ⟨sb, 5, none⟩ = some (.int .i64 A.sig) := y5.2.1 5 (by omega)
                      have d6 : X5.cell? ⟨sb, 6, none⟩ = some (.int .i64 A.steps) := y5.2.1 6 (by omega)
                      have e0 : X5.cell? ⟨nb, 0, none⟩ = some (.int .i64 A.at_) := x7.2.1 0 (by omega)
                      have e1 : X5.cell? ⟨nb, 1, none⟩ = some (.int .i64 A.ost) := x7.2.1 1 (by omega)
                      have e2 : X5.cell? ⟨nb, 2, none⟩ = some (.int .i64 A.ova) := x7.2.1 2 (by omega)
                      have e3 : X5.cell? ⟨nb, 3, none⟩ = some (.int .i64 A.on) := x7.2.1 3 (by omega)
                      have e4 : X5.cell? ⟨nb, 4, none⟩ = some (.slice no l1 nc) := x7.2.1 4 (by omega)
                      have e5 : X5.cell? ⟨nb, 5, none⟩ = some (.int .i64 A.sig) := x7.2.1 5 (by omega)
                      have e6 : X5.cell? ⟨nb, 6, none⟩ = some (.int .i64 A.steps) := x7.2.1 6 (by omega)
                      have D6 := hide d6
                      have U6 : Hid (X5.cell? ⟨tb, 6, none⟩ = some (.int .i64 B.steps)) := HU5.out.2.1 6 (by omega)
                      have HBF : Hid (Below w.heap.size w X5) := HBwW9.out.trans (HBS5.out.mono (by have := HBWB.out; omega))
                      clear y5 x7 hsS5
                      go_wp2_with fail
                      (with_reducible refine Calls.mono hsame ?_)
                      rintro e wz ⟨rfl, hbz⟩
                      have HBZ := hide (HBF.out.trans (hbz.mono HBF.out.size))
                      have g6 : wz.cell? ⟨tb, 6, none⟩ = some (.int .i64 B.steps) := (hbz.cell (p := ⟨tb, 6, none⟩) HU5.out.1).trans U6.out
                      have h6 : wz.cell? ⟨sb, 6, none⟩ = some (.int .i64 A.steps) := (hbz.cell (p := ⟨sb, 6, none⟩) (HX9s.out.grown HBS5.out (by have := hsbm.out; have := hmbb.out; omega)).1).trans D6.out
                      have s1 : decide (A.steps < B.steps) = true := decide_eq_true HLT.out
                      have s2 : (A.steps : Int) < (B.steps : Int) := by have := HLT.out; omega
                      have haw := awake_true wz (HK.out.below HBZ.out)
                      clear hbz hsame d0 d1 d2 d3 d4 d5 d6 e0 e1 e2 e3 e4 e5 e6
                      go_wp2_with fail
                      (with_reducible refine Calls.mono haw ?_)
                      rintro e wy ⟨rfl, hby⟩
                      have HBY := hide (HBZ.out.trans (hby.mono HBZ.out.size))
                      clear hby haw
                      go_wp2
                      go_ret
                      exact ⟨rfl, HBY.out⟩
                    case' w27b =>
                      go_simp
                      obtain ⟨tb, HTB⟩ := named X2.heap.size
                      obtain ⟨X6, HXN6⟩ := named (X2.alloc (.cells #[.int .i64 0, .int .i64 0, .int .i64 0, .int .i64 0, .slice none 0 0, .int .i64 0, .int .i64 0] 35))
                      try rw [← HXN6.out]
                      try rw [← HTB.out]
                      have hb16 : Below X2.heap.size X2 X6 := by rw [HXN6.out]; exact (Below.refl _ _).alloc (Nat.le_refl _) _
                      have hst : Below base X2 X6 := hb16.mono (by have := HBS2.out.size; have := HBW9.out; omega)
                      have kst : ∀ a, WR.heap.size ≤ a → a < X2.heap.size → X6.heap[a]? = X2.heap[a]? := fun a _ h2 => hb16.block a h2
                      have HBS6 : Hid (Below base W9 X6) := HBS2.out.trans hst
                      have HKP6 : Hid (∀ a, WR.heap.size ≤ a → a < W9.heap.size → X6.heap[a]? = W9.heap[a]?) := fun a h1 h2 => (kst a h1 (Nat.lt_of_lt_of_le h2 HBS2.out.size)).trans (HKP2.out a h1 h2)
                      have hsS6 := HSX.out X6 HBS6.out
                      have HZ76 : Hid (RC 7 X6 tb (fun k => ([.int .i64 0, .int .i64 0, .int .i64 0, .int .i64 0, .slice none 0 0, .int .i64 0, .int .i64 0] : List Value).getD k undef)) := by
                        show RC _ _ _ _
                        rw [HXN6.out, HTB.out]
                        refine RC.new X2 _ 35 _ (fun k hk => ?_)
                        rcases (show k = 0 ∨ k = 1 ∨ k = 2 ∨ k = 3 ∨ k = 4 ∨ k = 5 ∨ k = 6 by omega) with rfl | rfl | rfl | rfl | rfl | rfl | rfl <;> rfl
                      have HTBW : Hid (W9.heap.size ≤ tb) := by show _ ≤ _; rw [HTB.out]; exact HBS2.out.size
                      have HVA6 := hide (RdX.below HVA2.out hb16)
                      clear hst kst hb16
                      refine hK _ _ (fun _ => hsS6) ?_
                      clear hK K
                      try simp only [Act.put, List.setIfInBounds_toArray, List.set_cons_zero, List.set_cons_succ]
                      refine wpAnyE_one (i := 12) (o := { dst := some 112, op := Go.Op.call { callee := Go.Callee.value (Go.Operand.func 17), args := #[Go.Operand.tmp 100, Go.Operand.tmp 102, Go.Operand.tmp 108, Go.Operand.tmp 109, Go.Operand.tmp 111], argTypes := #[24, 2, 25, 26, 3] }, type := 37, pos := "more.go:35", after := #[{ on := 0, ground := Go.Ground.data }, { on := 2, ground := Go.Ground.data }, { on := 8, ground := Go.Ground.data }, { on := 9, ground := Go.Ground.data }, { on := 11, ground := Go.Ground.data }, { on := 8, ground := Go.Ground.chain }], guard := none }) (by kernel_rfl) rfl (fun K hK => ?_)
                      have h12 := HRN.out va (M ++ [(A.on, (0, 0))]) X6 (HBwW9.out.trans (HBS6.out.mono (by have := HBWB.out; omega))) (by have := HMLEN.out; simp; omega) HVA6.out
                      rw [HR3.out] at h12
                      go_simp
                      (with_reducible refine Calls.mono h12 ?_)
                      rintro e X7 ⟨vu, rfl, hmu, hbu⟩
                      clear h12
                      have hst : Below base X6 X7 := hbu.mono (by have := HBS6.out.size; have := HBW9.out; omega)
                      have kst : ∀ a, WR.heap.size ≤ a → a < X6.heap.size → X7.heap[a]? = X6.heap[a]? := fun a _ h2 => hbu.block a h2
                      have HBS7 : Hid (Below base W9 X7) := HBS6.out.trans hst
                      have HKP7 : Hid (∀ a, WR.heap.size ≤ a → a < W9.heap.size → X7.heap[a]? = W9.heap[a]?) := fun a h1 h2 => (kst a h1 (Nat.lt_of_lt_of_le h2 HBS6.out.size)).trans (HKP6.out a h1 h2)
                      have hsS7 := HSX.out X7 HBS7.out
                      obtain ⟨uo, uc, hvu, -⟩ := RdM.shape (l := B.cmds) hmu.rd
                      subst hvu
                      rw [show stV B (.slice uo B.cmds.length uc) = .agg #[.int .i64 B.at_, .int .i64 B.ost, .int .i64 B.ova, .int .i64 B.on, .slice uo B.cmds.length uc, .int .i64 B.sig, .int .i64 B.steps] from rfl]
                      have HZ77 := hide (HZ76.out.below hbu)
                      clear hst kst hbu hmu
                      refine hK _ _ (fun _ => hsS7) ?_
                      clear hK K
                      try simp only [Act.put, List.setIfInBounds_toArray, List.set_cons_zero, List.set_cons_succ]
                      refine wpAnyE_take 13 [18] (oi := { dst := some 99, op := Go.Op.move (Go.Operand.tmp 112), type := 37, pos := "more.go:35", after := #[{ on := 12, ground := Go.Ground.data }], guard := none }) (v := ?_) rfl (by kernel_rfl) (by kernel_rfl) (by kernel_rfl) (by kernel_rfl) (fun _ _ _ h => h) (Or.inl ⟨by rfl, ?hE31⟩) hsS7 ?_
                      case hE31 =>
                        intro u hu
                        obtain ⟨u0, u1, u2, u3, u4, u5⟩ := hu
                        go_simp
                        try with_reducible rfl
                      simp only [Act.put, List.setIfInBounds_toArray, List.set_cons_zero, List.set_cons_succ]
                      refine wpAnyE_take 14 [18] (oi := { dst := some 113, op := Go.Op.extract (Go.Operand.tmp 99) 0, type := 35, pos := "more.go:35", after := #[{ on := 13, ground := Go.Ground.data }], guard := none }) (v := ?_) rfl (by kernel_rfl) (by kernel_rfl) (by kernel_rfl) (by kernel_rfl) (fun _ _ _ h => h) (Or.inl ⟨by rfl, ?hE32⟩) hsS7 ?_
                      case hE32 =>
                        intro u hu
                        obtain ⟨u0, u1, u2, u3, u4, u5⟩ := hu
                        go_simp
                        try with_reducible rfl
                      simp only [Act.put, List.setIfInBounds_toArray, List.set_cons_zero, List.set_cons_succ]
                      refine wpAnyE_take 15 [18] (oi := { dst := some 114, op := Go.Op.extract (Go.Operand.tmp 99) 1, type := 36, pos := "more.go:35", after := #[{ on := 13, ground := Go.Ground.data }, { on := 17, ground := Go.Ground.gcOnly Go.Departure.lateStores }], guard := none }) (v := ?_) rfl (by kernel_rfl) (by kernel_rfl) (by kernel_rfl) (by kernel_rfl) (fun _ _ _ h => h) (Or.inl ⟨by rfl, ?hE33⟩) hsS7 ?_
                      case hE33 =>
                        intro u hu
                        obtain ⟨u0, u1, u2, u3, u4, u5⟩ := hu
                        go_simp
                        try with_reducible rfl
                      simp only [Act.put, List.setIfInBounds_toArray, List.set_cons_zero, List.set_cons_succ]
                      refine wpAnyE_one (i := 17) (o := { dst := none, op := Go.Op.store 35 (Go.Operand.tmp 15) (Go.Operand.tmp 113), type := 0, pos := "more.go:35", after := #[{ on := 16, ground := Go.Ground.data }, { on := 14, ground := Go.Ground.data }, { on := 12, ground := Go.Ground.chain }, { on := 0, ground := Go.Ground.phase }, { on := 1, ground := Go.Ground.phase }, { on := 2, ground := Go.Ground.phase }, { on := 3, ground := Go.Ground.phase }, { on := 4, ground := Go.Ground.phase }, { on := 5, ground := Go.Ground.phase }, { on := 6, ground := Go.Ground.phase }, { on := 7, ground := Go.Ground.phase }, { on := 8, ground := Go.Ground.phase }, { on := 9, ground := Go.Ground.phase }, { on := 10, ground := Go.Ground.phase }, { on := 11, ground := Go.Ground.phase }, { on := 12, ground := Go.Ground.phase }, { on := 13, ground := Go.Ground.phase }, { on := 14, ground := Go.Ground.phase }, { on := 15, ground := Go.Ground.textOnly Go.Departure.lateStores }, { on := 16, ground := Go.Ground.phase }], guard := none }) (by kernel_rfl) rfl (fun K hK => ?_)
                      have z0 : X7.cell? ⟨tb, 0, none⟩ = some (.int .i64 0) := HZ77.out.2.1 0 (by omega)
                      have z1 : X7.cell? ⟨tb, 1, none⟩ = some (.int .i64 0) := HZ77.out.2.1 1 (by omega)
                      have z2 : X7.cell? ⟨tb, 2, none⟩ = some (.int .i64 0) := HZ77.out.2.1 2 (by omega)
                      have z3 : X7.cell? ⟨tb, 3, none⟩ = some (.int .i64 0) := HZ77.out.2.1 3 (by omega)
                      have z4 : X7.cell? ⟨tb, 4, none⟩ = some (.slice none 0 0) := HZ77.out.2.1 4 (by omega)
                      have z5 : X7.cell? ⟨tb, 5, none⟩ = some (.int .i64 0) := HZ77.out.2.1 5 (by omega)
                      have z6 : X7.cell? ⟨tb, 6, none⟩ = some (.int .i64 0) := HZ77.out.2.1 6 (by omega)
                      have f0 := HZ77.out.2.2 0
                      have f1 := HZ77.out.2.2 1
                      have f2 := HZ77.out.2.2 2
                      have f3 := HZ77.out.2.2 3
                      have f4 := HZ77.out.2.2 4
                      have f5 := HZ77.out.2.2 5
                      have f6 := HZ77.out.2.2 6
                      go_simp
                      obtain ⟨X8, HXN8⟩ := named (set7 X7 tb (.int .i64 B.at_) (.int .i64 B.ost) (.int .i64 B.ova) (.int .i64 B.on) (.slice uo B.cmds.length uc) (.int .i64 B.sig) (.int .i64 B.steps))
                      have hset : (((((((X7.setCell ⟨tb, 0, none⟩ (.int .i64 B.at_)).setCell ⟨tb, 1, none⟩ (.int .i64 B.ost)).setCell ⟨tb, 2, none⟩ (.int .i64 B.ova)).setCell ⟨tb, 3, none⟩ (.int .i64 B.on)).setCell ⟨tb, 4, none⟩ (.slice uo B.cmds.length uc)).setCell ⟨tb, 5, none⟩ (.int .i64 B.sig)).setCell ⟨tb, 6, none⟩ (.int .i64 B.steps)) = X8 := HXN8.out.symm
                      try rw [hset]
                      clear z0 z1 z2 z3 z4 z5 z6 f0 f1 f2 f3 f4 f5 f6
                      have hst : Below base X7 X8 := by rw [HXN8.out]; exact below_set7 (Below.refl _ _) (by have := HTBW.out; have := HBW9.out; omega) _ _ _ _ _ _ _
                      have HBS8 : Hid (Below base W9 X8) := HBS7.out.trans hst
                      have HKP8 : Hid (∀ a, WR.heap.size ≤ a → a < W9.heap.size → X8.heap[a]? = W9.heap[a]?) := fun a h1 h2 => by rw [HXN8.out, set7_other _ _ _ _ _ _ _ _ _ a (by have := HTBW.out; omega)]; exact HKP7.out a h1 h2
                      have hsS8 := HSX.out X8 HBS8.out
                      have HU8 : Hid (RC 7 X8 tb (fun k => ([.int .i64 B.at_, .int .i64 B.ost, .int .i64 B.ova, .int .i64 B.on, .slice uo B.cmds.length uc, .int .i64 B.sig, .int .i64 B.steps] : List Value).getD k undef)) := by show RC _ _ _ _; rw [HXN8.out]; exact RC.set7 HZ77.out _ _ _ _ _ _ _
                      clear hset hst
                      refine hK _ _ (fun _ => hsS8) ?_
                      clear hK K
                      try simp only [Act.put, List.setIfInBounds_toArray, List.set_cons_zero, List.set_cons_succ]
                      refine wpAnyE_one (i := 18) (o := { dst := some 16, op := Go.Op.assign (Go.Operand.tmp 114), type := 36, pos := "more.go:35", after := #[{ on := 15, ground := Go.Ground.data }, { on := 17, ground := Go.Ground.chain }, { on := 0, ground := Go.Ground.phase }, { on := 1, ground := Go.Ground.phase }, { on := 2, ground := Go.Ground.phase }, { on := 3, ground := Go.Ground.phase }, { on := 4, ground := Go.Ground.phase }, { on := 5, ground := Go.Ground.phase }, { on := 6, ground := Go.Ground.phase }, { on := 7, ground := Go.Ground.phase }, { on := 8, ground := Go.Ground.phase }, { on := 9, ground := Go.Ground.phase }, { on := 10, ground := Go.Ground.phase }, { on := 11, ground := Go.Ground.phase }, { on := 12, ground := Go.Ground.phase }, { on := 13, ground := Go.Ground.phase }, { on := 14, ground := Go.Ground.phase }, { on := 15, ground := Go.Ground.phase }, { on := 16, ground := Go.Ground.phase }, { on := 17, ground := Go.Ground.phase }], guard := none }) (by kernel_rfl) rfl (fun K hK => ?_)
                      go_simp
                      refine hK _ _ (fun h => absurd rfl h) ?_
                      clear hK K
                      try simp only [Act.put, List.setIfInBounds_toArray, List.set_cons_zero, List.set_cons_succ]
                      refine wpAnyE_done (by kernel_rfl) ?_
                      have HMX : Hid (RdM X8 (.slice mo l1 mc) A.cmds) := RdM.below HM5.out (by rw [← HMB.out]; exact HBM9.out.trans (HBS8.out.mono (by have := hmbb.out; omega)))
                      have HNX : Hid (RdM X8 (.slice no l1 nc) A.cmds) := (OwnX.heap (w' := X8) HN9.out fun a ha => HKP8.out a (OwnX.lt HN9.out a ha).1 (OwnX.lt HN9.out a ha).2).rd
                      have y5 := HX9s.out.grown HBS8.out (by have := hsbm.out; have := hmbb.out; omega)
                      have x7 := HX9n.out.same (HKP8.out nb HNBW.out HX9n.out.1) HBS8.out.size
                      have hsame := same_any (w := X8) (s := A) (u := A) HMX.out HNX.out
                      rw [decide_eq_true (Alike.refl _)] at hsame
                      have hsame : Calls Tryd.prog 14 #[.agg #[.int .i64 A.at_, .int .i64 A.ost, .int .i64 A.ova, .int .i64 A.on, .slice mo l1 mc, .int .i64 A.sig, .int .i64 A.steps], .agg #[.int .i64 A.at_, .int .i64 A.ost, .int .i64 A.ova, .int .i64 A.on, .slice no l1 nc, .int .i64 A.sig, .int .i64 A.steps]] X8 _ := hsame
                      have d0 : X8.cell? ⟨sb, 0, none⟩ = some (.int .i64 A.at_) := y5.2.1 0 (by omega)
                      have d1 : X8.cell? ⟨sb, 1, none⟩ = some (.int .i64 A.ost) := y5.2.1 1 (by omega)
                      have d2 : X8.cell? ⟨sb, 2, none⟩ = some (.int .i64 A.ova) := y5.2.1 2 (by omega)
                      have d3 : X8.cell? ⟨sb, 3, none⟩ = some (.int .i64 A.on) := y5.2.1 3 (by omega)
                      have d4 : X8.cell? ⟨sb, 4, none⟩ = some (.slice mo l1 mc) := y5.2.1 4 (by omega)
                      have d5 : X8.cell? ⟨sb, 5, none⟩ = some (.int .i64 A.sig) := y5.2.1 5 (by omega)
                      have d6 : X8.cell? ⟨sb, 6, none⟩ = some (.int .i64 A.steps) := y5.2.1 6 (by omega)
                      have e0 : X8.cell? ⟨nb, 0, none⟩ = some (.int .i64 A.at_) := x7.2.1 0 (by omega)
                      have e1 : X8.cell? ⟨nb, 1, none⟩ = some (.int .i64 A.ost) := x7.2.1 1 (by omega)
                      have e2 : X8.cell? ⟨nb, 2, none⟩ = some (.int .i64 A.ova) := x7.2.1 2 (by omega)
                      have e3 : X8.cell? ⟨nb, 3, none⟩ = some (.int .i64 A.on) := x7.2.1 3 (by omega)
                      have e4 : X8.cell? ⟨nb, 4, none⟩ = some (.slice no l1 nc) := x7.2.1 4 (by omega)
                      have e5 : X8.cell? ⟨nb, 5, none⟩ = some (.int .i64 A.sig) := x7.2.1 5 (by omega)
                      have e6 : X8.cell? ⟨nb, 6, none⟩ = some (.int .i64 A.steps) := x7.2.1 6 (by omega)
                      have D6 := hide d6
                      have U6 : Hid (X8.cell? ⟨tb, 6, none⟩ = some (.int .i64 B.steps)) := HU8.out.2.1 6 (by omega)
                      have HBF : Hid (Below w.heap.size w X8) := HBwW9.out.trans (HBS8.out.mono (by have := HBWB.out; omega))
                      clear y5 x7 hsS8
                      go_wp2_with fail
                      (with_reducible refine Calls.mono hsame ?_)
                      rintro e wz ⟨rfl, hbz⟩
                      have HBZ := hide (HBF.out.trans (hbz.mono HBF.out.size))
                      have g6 : wz.cell? ⟨tb, 6, none⟩ = some (.int .i64 B.steps) := (hbz.cell (p := ⟨tb, 6, none⟩) HU8.out.1).trans U6.out
                      have h6 : wz.cell? ⟨sb, 6, none⟩ = some (.int .i64 A.steps) := (hbz.cell (p := ⟨sb, 6, none⟩) (HX9s.out.grown HBS8.out (by have := hsbm.out; have := hmbb.out; omega)).1).trans D6.out
                      have s1 : decide (A.steps < B.steps) = true := decide_eq_true HLT.out
                      have s2 : (A.steps : Int) < (B.steps : Int) := by have := HLT.out; omega
                      have haw := awake_true wz (HK.out.below HBZ.out)
                      clear hbz hsame d0 d1 d2 d3 d4 d5 d6 e0 e1 e2 e3 e4 e5 e6
                      go_wp2_with fail
                      (with_reducible refine Calls.mono haw ?_)
                      rintro e wy ⟨rfl, hby⟩
                      have HBY := hide (HBZ.out.trans (hby.mono HBZ.out.size))
                      clear hby haw
                      go_wp2
                      go_ret
                      exact ⟨rfl, HBY.out⟩
                  case' w26b =>
                    go_simp
                    obtain ⟨tb, HTB⟩ := named X1.heap.size
                    obtain ⟨X9, HXN9⟩ := named (X1.alloc (.cells #[.int .i64 0, .int .i64 0, .int .i64 0, .int .i64 0, .slice none 0 0, .int .i64 0, .int .i64 0] 35))
                    try rw [← HXN9.out]
                    try rw [← HTB.out]
                    have hb16 : Below X1.heap.size X1 X9 := by rw [HXN9.out]; exact (Below.refl _ _).alloc (Nat.le_refl _) _
                    have hst : Below base X1 X9 := hb16.mono (by have := HBS1.out.size; have := HBW9.out; omega)
                    have kst : ∀ a, WR.heap.size ≤ a → a < X1.heap.size → X9.heap[a]? = X1.heap[a]? := fun a _ h2 => hb16.block a h2
                    have HBS9 : Hid (Below base W9 X9) := HBS1.out.trans hst
                    have HKP9 : Hid (∀ a, WR.heap.size ≤ a → a < W9.heap.size → X9.heap[a]? = W9.heap[a]?) := fun a h1 h2 => (kst a h1 (Nat.lt_of_lt_of_le h2 HBS1.out.size)).trans (HKP1.out a h1 h2)
                    have hsS9 := HSX.out X9 HBS9.out
                    have HZ79 : Hid (RC 7 X9 tb (fun k => ([.int .i64 0, .int .i64 0, .int .i64 0, .int .i64 0, .slice none 0 0, .int .i64 0, .int .i64 0] : List Value).getD k undef)) := by
                      show RC _ _ _ _
                      rw [HXN9.out, HTB.out]
                      refine RC.new X1 _ 35 _ (fun k hk => ?_)
                      rcases (show k = 0 ∨ k = 1 ∨ k = 2 ∨ k = 3 ∨ k = 4 ∨ k = 5 ∨ k = 6 by omega) with rfl | rfl | rfl | rfl | rfl | rfl | rfl <;> rfl
                    have HTBW : Hid (W9.heap.size ≤ tb) := by show _ ≤ _; rw [HTB.out]; exact HBS1.out.size
                    have HOX9 := hide (HOX1.out.below hb16)
                    have HLIT9 := hide (RdX.below HLIT1.out hb16)
                    clear hst kst hb16
                    refine hK _ _ (fun _ => hsS9) ?_
                    clear hK K
                    try simp only [Act.put, List.setIfInBounds_toArray, List.set_cons_zero, List.set_cons_succ]
                    refine wpAnyE_one (i := 8) (o := { dst := some 108, op := Go.Op.call { callee := Go.Callee.builtin Go.Builtin.append, args := #[Go.Operand.tmp 103, Go.Operand.tmp 107], argTypes := #[25, 25] }, type := 25, pos := "more.go:35", after := #[{ on := 3, ground := Go.Ground.data }, { on := 7, ground := Go.Ground.data }], guard := none }) (by kernel_rfl) rfl (fun K hK => ?_)
                    obtain ⟨va, X10, hr8, hoa, hga, hst⟩ := OwnX.append rt25 HOX9.out HLIT9.out (full_kn _) (by have := HMLEN.out; simp; omega) (by have := HBS9.out.size; have := HBW9.out; omega) 25
                    have HR8 := hide hr8
                    refine step_append_runI rfl (.tmp 103) (.tmp 107) 25 25 rfl (.slice ro rn rc) (.slice (some ⟨lb, 0, none⟩) 1 1) (by simp [Act.eval]) (by simp [Act.eval]) HR8.out ?_
                    have kst : ∀ a, WR.heap.size ≤ a → a < X9.heap.size → X10.heap[a]? = X9.heap[a]? := fun a h1 h2 => hga.block a h2 (fun e => by have := (OwnX.lt HOWR.out a e.symm).2; omega)
                    have HBS10 : Hid (Below base W9 X10) := HBS9.out.trans hst
                    have HKP10 : Hid (∀ a, WR.heap.size ≤ a → a < W9.heap.size → X10.heap[a]? = W9.heap[a]?) := fun a h1 h2 => (kst a h1 (Nat.lt_of_lt_of_le h2 HBS9.out.size)).trans (HKP9.out a h1 h2)
                    have hsS10 := HSX.out X10 HBS10.out
                    have HVA10 : Hid (RdK X10 va (M ++ [(A.on, (0, 0))])) := by
                      show RdK _ _ _
                      unfold RdK
                      rw [List.map_append]
                      exact hoa.rd
                    have HZ710 : Hid (RC 7 X10 tb (fun k => ([.int .i64 0, .int .i64 0, .int .i64 0, .int .i64 0, .slice none 0 0, .int .i64 0, .int .i64 0] : List Value).getD k undef)) := HZ79.out.same (kst tb (by have := HTBW.out; have := HWRW9.out; omega) HZ79.out.1) hga.size
                    clear hst kst hga hoa hr8
                    refine hK _ _ (fun _ => hsS10) ?_
                    clear hK K
                    try simp only [Act.put, List.setIfInBounds_toArray, List.set_cons_zero, List.set_cons_succ]
                    refine wpAnyE_one (i := 12) (o := { dst := some 112, op := Go.Op.call { callee := Go.Callee.value (Go.Operand.func 17), args := #[Go.Operand.tmp 100, Go.Operand.tmp 102, Go.Operand.tmp 108, Go.Operand.tmp 109, Go.Operand.tmp 111], argTypes := #[24, 2, 25, 26, 3] }, type := 37, pos := "more.go:35", after := #[{ on := 0, ground := Go.Ground.data }, { on := 2, ground := Go.Ground.data }, { on := 8, ground := Go.Ground.data }, { on := 9, ground := Go.Ground.data }, { on := 11, ground := Go.Ground.data }, { on := 8, ground := Go.Ground.chain }], guard := none }) (by kernel_rfl) rfl (fun K hK => ?_)
                    have h12 := HRN.out va (M ++ [(A.on, (0, 0))]) X10 (HBwW9.out.trans (HBS10.out.mono (by have := HBWB.out; omega))) (by have := HMLEN.out; simp; omega) HVA10.out
                    rw [HR3.out] at h12
                    go_simp
                    (with_reducible refine Calls.mono h12 ?_)
                    rintro e X11 ⟨vu, rfl, hmu, hbu⟩
                    clear h12
                    have hst : Below base X10 X11 := hbu.mono (by have := HBS10.out.size; have := HBW9.out; omega)
                    have kst : ∀ a, WR.heap.size ≤ a → a < X10.heap.size → X11.heap[a]? = X10.heap[a]? := fun a _ h2 => hbu.block a h2
                    have HBS11 : Hid (Below base W9 X11) := HBS10.out.trans hst
                    have HKP11 : Hid (∀ a, WR.heap.size ≤ a → a < W9.heap.size → X11.heap[a]? = W9.heap[a]?) := fun a h1 h2 => (kst a h1 (Nat.lt_of_lt_of_le h2 HBS10.out.size)).trans (HKP10.out a h1 h2)
                    have hsS11 := HSX.out X11 HBS11.out
                    obtain ⟨uo, uc, hvu, -⟩ := RdM.shape (l := B.cmds) hmu.rd
                    subst hvu
                    rw [show stV B (.slice uo B.cmds.length uc) = .agg #[.int .i64 B.at_, .int .i64 B.ost, .int .i64 B.ova, .int .i64 B.on, .slice uo B.cmds.length uc, .int .i64 B.sig, .int .i64 B.steps] from rfl]
                    have HZ711 := hide (HZ710.out.below hbu)
                    clear hst kst hbu hmu
                    refine hK _ _ (fun _ => hsS11) ?_
                    clear hK K
                    try simp only [Act.put, List.setIfInBounds_toArray, List.set_cons_zero, List.set_cons_succ]
                    refine wpAnyE_take 13 [18] (oi := { dst := some 99, op := Go.Op.move (Go.Operand.tmp 112), type := 37, pos := "more.go:35", after := #[{ on := 12, ground := Go.Ground.data }], guard := none }) (v := ?_) rfl (by kernel_rfl) (by kernel_rfl) (by kernel_rfl) (by kernel_rfl) (fun _ _ _ h => h) (Or.inl ⟨by rfl, ?hE34⟩) hsS11 ?_
                    case hE34 =>
                      intro u hu
                      obtain ⟨u0, u1, u2, u3, u4, u5⟩ := hu
                      go_simp
                      try with_reducible rfl
                    simp only [Act.put, List.setIfInBounds_toArray, List.set_cons_zero, List.set_cons_succ]
                    refine wpAnyE_take 14 [18] (oi := { dst := some 113, op := Go.Op.extract (Go.Operand.tmp 99) 0, type := 35, pos := "more.go:35", after := #[{ on := 13, ground := Go.Ground.data }], guard := none }) (v := ?_) rfl (by kernel_rfl) (by kernel_rfl) (by kernel_rfl) (by kernel_rfl) (fun _ _ _ h => h) (Or.inl ⟨by rfl, ?hE35⟩) hsS11 ?_
                    case hE35 =>
                      intro u hu
                      obtain ⟨u0, u1, u2, u3, u4, u5⟩ := hu
                      go_simp
                      try with_reducible rfl
                    simp only [Act.put, List.setIfInBounds_toArray, List.set_cons_zero, List.set_cons_succ]
                    refine wpAnyE_take 15 [18] (oi := { dst := some 114, op := Go.Op.extract (Go.Operand.tmp 99) 1, type := 36, pos := "more.go:35", after := #[{ on := 13, ground := Go.Ground.data }, { on := 17, ground := Go.Ground.gcOnly Go.Departure.lateStores }], guard := none }) (v := ?_) rfl (by kernel_rfl) (by kernel_rfl) (by kernel_rfl) (by kernel_rfl) (fun _ _ _ h => h) (Or.inl ⟨by rfl, ?hE36⟩) hsS11 ?_
                    case hE36 =>
                      intro u hu
                      obtain ⟨u0, u1, u2, u3, u4, u5⟩ := hu
                      go_simp
                      try with_reducible rfl
                    simp only [Act.put, List.setIfInBounds_toArray, List.set_cons_zero, List.set_cons_succ]
                    refine wpAnyE_one (i := 17) (o := { dst := none, op := Go.Op.store 35 (Go.Operand.tmp 15) (Go.Operand.tmp 113), type := 0, pos := "more.go:35", after := #[{ on := 16, ground := Go.Ground.data }, { on := 14, ground := Go.Ground.data }, { on := 12, ground := Go.Ground.chain }, { on := 0, ground := Go.Ground.phase }, { on := 1, ground := Go.Ground.phase }, { on := 2, ground := Go.Ground.phase }, { on := 3, ground := Go.Ground.phase }, { on := 4, ground := Go.Ground.phase }, { on := 5, ground := Go.Ground.phase }, { on := 6, ground := Go.Ground.phase }, { on := 7, ground := Go.Ground.phase }, { on := 8, ground := Go.Ground.phase }, { on := 9, ground := Go.Ground.phase }, { on := 10, ground := Go.Ground.phase }, { on := 11, ground := Go.Ground.phase }, { on := 12, ground := Go.Ground.phase }, { on := 13, ground := Go.Ground.phase }, { on := 14, ground := Go.Ground.phase }, { on := 15, ground := Go.Ground.textOnly Go.Departure.lateStores }, { on := 16, ground := Go.Ground.phase }], guard := none }) (by kernel_rfl) rfl (fun K hK => ?_)
                    have z0 : X11.cell? ⟨tb, 0, none⟩ = some (.int .i64 0) := HZ711.out.2.1 0 (by omega)
                    have z1 : X11.cell? ⟨tb, 1, none⟩ = some (.int .i64 0) := HZ711.out.2.1 1 (by omega)
                    have z2 : X11.cell? ⟨tb, 2, none⟩ = some (.int .i64 0) := HZ711.out.2.1 2 (by omega)
                    have z3 : X11.cell? ⟨tb, 3, none⟩ = some (.int .i64 0) := HZ711.out.2.1 3 (by omega)
                    have z4 : X11.cell? ⟨tb, 4, none⟩ = some (.slice none 0 0) := HZ711.out.2.1 4 (by omega)
                    have z5 : X11.cell? ⟨tb, 5, none⟩ = some (.int .i64 0) := HZ711.out.2.1 5 (by omega)
                    have z6 : X11.cell? ⟨tb, 6, none⟩ = some (.int .i64 0) := HZ711.out.2.1 6 (by omega)
                    have f0 := HZ711.out.2.2 0
                    have f1 := HZ711.out.2.2 1
                    have f2 := HZ711.out.2.2 2
                    have f3 := HZ711.out.2.2 3
                    have f4 := HZ711.out.2.2 4
                    have f5 := HZ711.out.2.2 5
                    have f6 := HZ711.out.2.2 6
                    go_simp
                    obtain ⟨X12, HXN12⟩ := named (set7 X11 tb (.int .i64 B.at_) (.int .i64 B.ost) (.int .i64 B.ova) (.int .i64 B.on) (.slice uo B.cmds.length uc) (.int .i64 B.sig) (.int .i64 B.steps))
                    have hset : (((((((X11.setCell ⟨tb, 0, none⟩ (.int .i64 B.at_)).setCell ⟨tb, 1, none⟩ (.int .i64 B.ost)).setCell ⟨tb, 2, none⟩ (.int .i64 B.ova)).setCell ⟨tb, 3, none⟩ (.int .i64 B.on)).setCell ⟨tb, 4, none⟩ (.slice uo B.cmds.length uc)).setCell ⟨tb, 5, none⟩ (.int .i64 B.sig)).setCell ⟨tb, 6, none⟩ (.int .i64 B.steps)) = X12 := HXN12.out.symm
                    try rw [hset]
                    clear z0 z1 z2 z3 z4 z5 z6 f0 f1 f2 f3 f4 f5 f6
                    have hst : Below base X11 X12 := by rw [HXN12.out]; exact below_set7 (Below.refl _ _) (by have := HTBW.out; have := HBW9.out; omega) _ _ _ _ _ _ _
                    have HBS12 : Hid (Below base W9 X12) := HBS11.out.trans hst
                    have HKP12 : Hid (∀ a, WR.heap.size ≤ a → a < W9.heap.size → X12.heap[a]? = W9.heap[a]?) := fun a h1 h2 => by rw [HXN12.out, set7_other _ _ _ _ _ _ _ _ _ a (by have := HTBW.out; omega)]; exact HKP11.out a h1 h2
                    have hsS12 := HSX.out X12 HBS12.out
                    have HU12 : Hid (RC 7 X12 tb (fun k => ([.int .i64 B.at_, .int .i64 B.ost, .int .i64 B.ova, .int .i64 B.on, .slice uo B.cmds.length uc, .int .i64 B.sig, .int .i64 B.steps] : List Value).getD k undef)) := by show RC _ _ _ _; rw [HXN12.out]; exact RC.set7 HZ711.out _ _ _ _ _ _ _
                    clear hset hst
                    refine hK _ _ (fun _ => hsS12) ?_
                    clear hK K
                    try simp only [Act.put, List.setIfInBounds_toArray, List.set_cons_zero, List.set_cons_succ]
                    refine wpAnyE_one (i := 18) (o := { dst := some 16, op := Go.Op.assign (Go.Operand.tmp 114), type := 36, pos := "more.go:35", after := #[{ on := 15, ground := Go.Ground.data }, { on := 17, ground := Go.Ground.chain }, { on := 0, ground := Go.Ground.phase }, { on := 1, ground := Go.Ground.phase }, { on := 2, ground := Go.Ground.phase }, { on := 3, ground := Go.Ground.phase }, { on := 4, ground := Go.Ground.phase }, { on := 5, ground := Go.Ground.phase }, { on := 6, ground := Go.Ground.phase }, { on := 7, ground := Go.Ground.phase }, { on := 8, ground := Go.Ground.phase }, { on := 9, ground := Go.Ground.phase }, { on := 10, ground := Go.Ground.phase }, { on := 11, ground := Go.Ground.phase }, { on := 12, ground := Go.Ground.phase }, { on := 13, ground := Go.Ground.phase }, { on := 14, ground := Go.Ground.phase }, { on := 15, ground := Go.Ground.phase }, { on := 16, ground := Go.Ground.phase }, { on := 17, ground := Go.Ground.phase }], guard := none }) (by kernel_rfl) rfl (fun K hK => ?_)
                    go_simp
                    refine hK _ _ (fun h => absurd rfl h) ?_
                    clear hK K
                    try simp only [Act.put, List.setIfInBounds_toArray, List.set_cons_zero, List.set_cons_succ]
                    refine wpAnyE_done (by kernel_rfl) ?_
                    have HMX : Hid (RdM X12 (.slice mo l1 mc) A.cmds) := RdM.below HM5.out (by rw [← HMB.out]; exact HBM9.out.trans (HBS12.out.mono (by have := hmbb.out; omega)))
                    have HNX : Hid (RdM X12 (.slice no l1 nc) A.cmds) := (OwnX.heap (w' := X12) HN9.out fun a ha => HKP12.out a (OwnX.lt HN9.out a ha).1 (OwnX.lt HN9.out a ha).2).rd
                    have y5 := HX9s.out.grown HBS12.out (by have := hsbm.out; have := hmbb.out; omega)
                    have x7 := HX9n.out.same (HKP12.out nb HNBW.out HX9n.out.1) HBS12.out.size
                    have hsame := same_any (w := X12) (s := A) (u := A) HMX.out HNX.out
                    rw [decide_eq_true (Alike.refl _)] at hsame
                    have hsame : Calls Tryd.prog 14 #[.agg #[.int .i64 A.at_, .int .i64 A.ost, .int .i64 A.ova, .int .i64 A.on, .slice mo l1 mc, .int .i64 A.sig, .int .i64 A.steps], .agg #[.int .i64 A.at_, .int .i64 A.ost, .int .i64 A.ova, .int .i64 A.on, .slice no l1 nc, .int .i64 A.sig, .int .i64 A.steps]] X12 _ := hsame
                    have d0 : X12.cell? ⟨sb, 0, none⟩ = some (.int .i64 A.at_) := y5.2.1 0 (by omega)
                    have d1 : X12.cell? ⟨sb, 1, none⟩ = some (.int .i64 A.ost) := y5.2.1 1 (by omega)
                    have d2 : X12.cell? ⟨sb, 2, none⟩ = some (.int .i64 A.ova) := y5.2.1 2 (by omega)
                    have d3 : X12.cell? ⟨sb, 3, none⟩ = some (.int .i64 A.on) := y5.2.1 3 (by omega)
                    have d4 : X12.cell? ⟨sb, 4, none⟩ = some (.slice mo l1 mc) := y5.2.1 4 (by omega)
                    have d5 : X12.cell? ⟨sb, 5, none⟩ = some (.int .i64 A.sig) := y5.2.1 5 (by omega)
                    have d6 : X12.cell? ⟨sb, 6, none⟩ = some (.int .i64 A.steps) := y5.2.1 6 (by omega)
                    have e0 : X12.cell? ⟨nb, 0, none⟩ = some (.int .i64 A.at_) := x7.2.1 0 (by omega)
                    have e1 : X12.cell? ⟨nb, 1, none⟩ = some (.int .i64 A.ost) := x7.2.1 1 (by omega)
                    have e2 : X12.cell? ⟨nb, 2, none⟩ = some (.int .i64 A.ova) := x7.2.1 2 (by omega)
                    have e3 : X12.cell? ⟨nb, 3, none⟩ = some (.int .i64 A.on) := x7.2.1 3 (by omega)
                    have e4 : X12.cell? ⟨nb, 4, none⟩ = some (.slice no l1 nc) := x7.2.1 4 (by omega)
                    have e5 : X12.cell? ⟨nb, 5, none⟩ = some (.int .i64 A.sig) := x7.2.1 5 (by omega)
                    have e6 : X12.cell? ⟨nb, 6, none⟩ = some (.int .i64 A.steps) := x7.2.1 6 (by omega)
                    have D6 := hide d6
                    have U6 : Hid (X12.cell? ⟨tb, 6, none⟩ = some (.int .i64 B.steps)) := HU12.out.2.1 6 (by omega)
                    have HBF : Hid (Below w.heap.size w X12) := HBwW9.out.trans (HBS12.out.mono (by have := HBWB.out; omega))
                    clear y5 x7 hsS12
                    go_wp2_with fail
                    (with_reducible refine Calls.mono hsame ?_)
                    rintro e wz ⟨rfl, hbz⟩
                    have HBZ := hide (HBF.out.trans (hbz.mono HBF.out.size))
                    have g6 : wz.cell? ⟨tb, 6, none⟩ = some (.int .i64 B.steps) := (hbz.cell (p := ⟨tb, 6, none⟩) HU12.out.1).trans U6.out
                    have h6 : wz.cell? ⟨sb, 6, none⟩ = some (.int .i64 A.steps) := (hbz.cell (p := ⟨sb, 6, none⟩) (HX9s.out.grown HBS12.out (by have := hsbm.out; have := hmbb.out; omega)).1).trans D6.out
                    have s1 : decide (A.steps < B.steps) = true := decide_eq_true HLT.out
                    have s2 : (A.steps : Int) < (B.steps : Int) := by have := HLT.out; omega
                    have haw := awake_true wz (HK.out.below HBZ.out)
                    clear hbz hsame d0 d1 d2 d3 d4 d5 d6 e0 e1 e2 e3 e4 e5 e6
                    go_wp2_with fail
                    (with_reducible refine Calls.mono haw ?_)
                    rintro e wy ⟨rfl, hby⟩
                    have HBY := hide (HBZ.out.trans (hby.mono HBZ.out.size))
                    clear hby haw
                    go_wp2
                    go_ret
                    exact ⟨rfl, HBY.out⟩
                case' w25b =>
                  go_simp
                  obtain ⟨tb, HTB⟩ := named Wq.heap.size
                  obtain ⟨X13, HXN13⟩ := named (Wq.alloc (.cells #[.int .i64 0, .int .i64 0, .int .i64 0, .int .i64 0, .slice none 0 0, .int .i64 0, .int .i64 0] 35))
                  try rw [← HXN13.out]
                  try rw [← HTB.out]
                  have hb16 : Below Wq.heap.size Wq X13 := by rw [HXN13.out]; exact (Below.refl _ _).alloc (Nat.le_refl _) _
                  have hst : Below base Wq X13 := hb16.mono (by have := HBS0.out.size; have := HBW9.out; omega)
                  have kst : ∀ a, WR.heap.size ≤ a → a < Wq.heap.size → X13.heap[a]? = Wq.heap[a]? := fun a _ h2 => hb16.block a h2
                  have HBS13 : Hid (Below base W9 X13) := HBS0.out.trans hst
                  have HKP13 : Hid (∀ a, WR.heap.size ≤ a → a < W9.heap.size → X13.heap[a]? = W9.heap[a]?) := fun a h1 h2 => (kst a h1 (Nat.lt_of_lt_of_le h2 HBS0.out.size)).trans (HKP0.out a h1 h2)
                  have hsS13 := HSX.out X13 HBS13.out
                  have HZ713 : Hid (RC 7 X13 tb (fun k => ([.int .i64 0, .int .i64 0, .int .i64 0, .int .i64 0, .slice none 0 0, .int .i64 0, .int .i64 0] : List Value).getD k undef)) := by
                    show RC _ _ _ _
                    rw [HXN13.out, HTB.out]
                    refine RC.new Wq _ 35 _ (fun k hk => ?_)
                    rcases (show k = 0 ∨ k = 1 ∨ k = 2 ∨ k = 3 ∨ k = 4 ∨ k = 5 ∨ k = 6 by omega) with rfl | rfl | rfl | rfl | rfl | rfl | rfl <;> rfl
                  have HTBW : Hid (W9.heap.size ≤ tb) := by show _ ≤ _; rw [HTB.out]; exact HBS0.out.size
                  have HOX13 := hide (HOX0.out.below hb16)
                  clear hst kst hb16
                  refine hK _ _ (fun _ => hsS13) ?_
                  clear hK K
                  try simp only [Act.put, List.setIfInBounds_toArray, List.set_cons_zero, List.set_cons_succ]
                  refine wpAnyE_one (i := 7) (o := { dst := some 107, op := Go.Op.buildSlice 25 1 #[(0, Go.Operand.tmp 106)], type := 25, pos := "more.go:35", after := #[{ on := 6, ground := Go.Ground.data }], guard := none }) (by kernel_rfl) rfl (fun K hK => ?_)
                  go_simp
                  obtain ⟨lb, HLB⟩ := named X13.heap.size
                  obtain ⟨X14, HXN14⟩ := named (X13.alloc (.cells #[.int .i64 A.on, .int .i64 0, .int .i64 0] 47))
                  try rw [← HXN14.out]
                  try rw [← HLB.out]
                  have hb7 : Below X13.heap.size X13 X14 := by rw [HXN14.out]; exact (Below.refl _ _).alloc (Nat.le_refl _) _
                  have hst : Below base X13 X14 := hb7.mono (by have := HBS13.out.size; have := HBW9.out; omega)
                  have kst : ∀ a, WR.heap.size ≤ a → a < X13.heap.size → X14.heap[a]? = X13.heap[a]? := fun a _ h2 => hb7.block a h2
                  have HBS14 : Hid (Below base W9 X14) := HBS13.out.trans hst
                  have HKP14 : Hid (∀ a, WR.heap.size ≤ a → a < W9.heap.size → X14.heap[a]? = W9.heap[a]?) := fun a h1 h2 => (kst a h1 (Nat.lt_of_lt_of_le h2 HBS13.out.size)).trans (HKP13.out a h1 h2)
                  have hsS14 := HSX.out X14 HBS14.out
                  have HOX14 := hide (HOX13.out.below hb7)
                  have HLIT14 : Hid (RdK X14 (.slice (some ⟨lb, 0, none⟩) 1 1) [(A.on, (0, 0))]) := by
                    show RdK _ _ _
                    rw [HXN14.out, HLB.out]
                    exact RdX.lit X13 #[.int .i64 A.on, .int .i64 0, .int .i64 0] 3 1 ([(A.on, ((0 : Int), (0 : Int)))].map knC) 47 rfl rfl (full_kn _) (by unfold maxLen; omega)
                  have HZ714 := hide (HZ713.out.below hb7)
                  clear hst kst hb7
                  refine hK _ _ (fun _ => hsS14) ?_
                  clear hK K
                  try simp only [Act.put, List.setIfInBounds_toArray, List.set_cons_zero, List.set_cons_succ]
                  refine wpAnyE_one (i := 8) (o := { dst := some 108, op := Go.Op.call { callee := Go.Callee.builtin Go.Builtin.append, args := #[Go.Operand.tmp 103, Go.Operand.tmp 107], argTypes := #[25, 25] }, type := 25, pos := "more.go:35", after := #[{ on := 3, ground := Go.Ground.data }, { on := 7, ground := Go.Ground.data }], guard := none }) (by kernel_rfl) rfl (fun K hK => ?_)
                  obtain ⟨va, X15, hr8, hoa, hga, hst⟩ := OwnX.append rt25 HOX14.out HLIT14.out (full_kn _) (by have := HMLEN.out; simp; omega) (by have := HBS14.out.size; have := HBW9.out; omega) 25
                  have HR8 := hide hr8
                  refine step_append_runI rfl (.tmp 103) (.tmp 107) 25 25 rfl (.slice ro rn rc) (.slice (some ⟨lb, 0, none⟩) 1 1) (by simp [Act.eval]) (by simp [Act.eval]) HR8.out ?_
                  have kst : ∀ a, WR.heap.size ≤ a → a < X14.heap.size → X15.heap[a]? = X14.heap[a]? := fun a h1 h2 => hga.block a h2 (fun e => by have := (OwnX.lt HOWR.out a e.symm).2; omega)
                  have HBS15 : Hid (Below base W9 X15) := HBS14.out.trans hst
                  have HKP15 : Hid (∀ a, WR.heap.size ≤ a → a < W9.heap.size → X15.heap[a]? = W9.heap[a]?) := fun a h1 h2 => (kst a h1 (Nat.lt_of_lt_of_le h2 HBS14.out.size)).trans (HKP14.out a h1 h2)
                  have hsS15 := HSX.out X15 HBS15.out
                  have HVA15 : Hid (RdK X15 va (M ++ [(A.on, (0, 0))])) := by
                    show RdK _ _ _
                    unfold RdK
                    rw [List.map_append]
                    exact hoa.rd
                  have HZ715 : Hid (RC 7 X15 tb (fun k => ([.int .i64 0, .int .i64 0, .int .i64 0, .int .i64 0, .slice none 0 0, .int .i64 0, .int .i64 0] : List Value).getD k undef)) := HZ714.out.same (kst tb (by have := HTBW.out; have := HWRW9.out; omega) HZ714.out.1) hga.size
                  clear hst kst hga hoa hr8
                  refine hK _ _ (fun _ => hsS15) ?_
                  clear hK K
                  try simp only [Act.put, List.setIfInBounds_toArray, List.set_cons_zero, List.set_cons_succ]
                  refine wpAnyE_one (i := 12) (o := { dst := some 112, op := Go.Op.call { callee := Go.Callee.value (Go.Operand.func 17), args := #[Go.Operand.tmp 100, Go.Operand.tmp 102, Go.Operand.tmp 108, Go.Operand.tmp 109, Go.Operand.tmp 111], argTypes := #[24, 2, 25, 26, 3] }, type := 37, pos := "more.go:35", after := #[{ on := 0, ground := Go.Ground.data }, { on := 2, ground := Go.Ground.data }, { on := 8, ground := Go.Ground.data }, { on := 9, ground := Go.Ground.data }, { on := 11, ground := Go.Ground.data }, { on := 8, ground := Go.Ground.chain }], guard := none }) (by kernel_rfl) rfl (fun K hK => ?_)
                  have h12 := HRN.out va (M ++ [(A.on, (0, 0))]) X15 (HBwW9.out.trans (HBS15.out.mono (by have := HBWB.out; omega))) (by have := HMLEN.out; simp; omega) HVA15.out
                  rw [HR3.out] at h12
                  go_simp
                  (with_reducible refine Calls.mono h12 ?_)
                  rintro e X16 ⟨vu, rfl, hmu, hbu⟩
                  clear h12
                  have hst : Below base X15 X16 := hbu.mono (by have := HBS15.out.size; have := HBW9.out; omega)
                  have kst : ∀ a, WR.heap.size ≤ a → a < X15.heap.size → X16.heap[a]? = X15.heap[a]? := fun a _ h2 => hbu.block a h2
                  have HBS16 : Hid (Below base W9 X16) := HBS15.out.trans hst
                  have HKP16 : Hid (∀ a, WR.heap.size ≤ a → a < W9.heap.size → X16.heap[a]? = W9.heap[a]?) := fun a h1 h2 => (kst a h1 (Nat.lt_of_lt_of_le h2 HBS15.out.size)).trans (HKP15.out a h1 h2)
                  have hsS16 := HSX.out X16 HBS16.out
                  obtain ⟨uo, uc, hvu, -⟩ := RdM.shape (l := B.cmds) hmu.rd
                  subst hvu
                  rw [show stV B (.slice uo B.cmds.length uc) = .agg #[.int .i64 B.at_, .int .i64 B.ost, .int .i64 B.ova, .int .i64 B.on, .slice uo B.cmds.length uc, .int .i64 B.sig, .int .i64 B.steps] from rfl]
                  have HZ716 := hide (HZ715.out.below hbu)
                  clear hst kst hbu hmu
                  refine hK _ _ (fun _ => hsS16) ?_
                  clear hK K
                  try simp only [Act.put, List.setIfInBounds_toArray, List.set_cons_zero, List.set_cons_succ]
                  refine wpAnyE_take 13 [18] (oi := { dst := some 99, op := Go.Op.move (Go.Operand.tmp 112), type := 37, pos := "more.go:35", after := #[{ on := 12, ground := Go.Ground.data }], guard := none }) (v := ?_) rfl (by kernel_rfl) (by kernel_rfl) (by kernel_rfl) (by kernel_rfl) (fun _ _ _ h => h) (Or.inl ⟨by rfl, ?hE37⟩) hsS16 ?_
                  case hE37 =>
                    intro u hu
                    obtain ⟨u0, u1, u2, u3, u4, u5⟩ := hu
                    go_simp
                    try with_reducible rfl
                  simp only [Act.put, List.setIfInBounds_toArray, List.set_cons_zero, List.set_cons_succ]
                  refine wpAnyE_take 14 [18] (oi := { dst := some 113, op := Go.Op.extract (Go.Operand.tmp 99) 0, type := 35, pos := "more.go:35", after := #[{ on := 13, ground := Go.Ground.data }], guard := none }) (v := ?_) rfl (by kernel_rfl) (by kernel_rfl) (by kernel_rfl) (by kernel_rfl) (fun _ _ _ h => h) (Or.inl ⟨by rfl, ?hE38⟩) hsS16 ?_
                  case hE38 =>
                    intro u hu
                    obtain ⟨u0, u1, u2, u3, u4, u5⟩ := hu
                    go_simp
                    try with_reducible rfl
                  simp only [Act.put, List.setIfInBounds_toArray, List.set_cons_zero, List.set_cons_succ]
                  refine wpAnyE_take 15 [18] (oi := { dst := some 114, op := Go.Op.extract (Go.Operand.tmp 99) 1, type := 36, pos := "more.go:35", after := #[{ on := 13, ground := Go.Ground.data }, { on := 17, ground := Go.Ground.gcOnly Go.Departure.lateStores }], guard := none }) (v := ?_) rfl (by kernel_rfl) (by kernel_rfl) (by kernel_rfl) (by kernel_rfl) (fun _ _ _ h => h) (Or.inl ⟨by rfl, ?hE39⟩) hsS16 ?_
                  case hE39 =>
                    intro u hu
                    obtain ⟨u0, u1, u2, u3, u4, u5⟩ := hu
                    go_simp
                    try with_reducible rfl
                  simp only [Act.put, List.setIfInBounds_toArray, List.set_cons_zero, List.set_cons_succ]
                  refine wpAnyE_one (i := 17) (o := { dst := none, op := Go.Op.store 35 (Go.Operand.tmp 15) (Go.Operand.tmp 113), type := 0, pos := "more.go:35", after := #[{ on := 16, ground := Go.Ground.data }, { on := 14, ground := Go.Ground.data }, { on := 12, ground := Go.Ground.chain }, { on := 0, ground := Go.Ground.phase }, { on := 1, ground := Go.Ground.phase }, { on := 2, ground := Go.Ground.phase }, { on := 3, ground := Go.Ground.phase }, { on := 4, ground := Go.Ground.phase }, { on := 5, ground := Go.Ground.phase }, { on := 6, ground := Go.Ground.phase }, { on := 7, ground := Go.Ground.phase }, { on := 8, ground := Go.Ground.phase }, { on := 9, ground := Go.Ground.phase }, { on := 10, ground := Go.Ground.phase }, { on := 11, ground := Go.Ground.phase }, { on := 12, ground := Go.Ground.phase }, { on := 13, ground := Go.Ground.phase }, { on := 14, ground := Go.Ground.phase }, { on := 15, ground := Go.Ground.textOnly Go.Departure.lateStores }, { on := 16, ground := Go.Ground.phase }], guard := none }) (by kernel_rfl) rfl (fun K hK => ?_)
                  have z0 : X16.cell? ⟨tb, 0, none⟩ = some (.int .i64 0) := HZ716.out.2.1 0 (by omega)
                  have z1 : X16.cell? ⟨tb, 1, none⟩ = some (.int .i64 0) := HZ716.out.2.1 1 (by omega)
                  have z2 : X16.cell? ⟨tb, 2, none⟩ = some (.int .i64 0) := HZ716.out.2.1 2 (by omega)
                  have z3 : X16.cell? ⟨tb, 3, none⟩ = some (.int .i64 0) := HZ716.out.2.1 3 (by omega)
                  have z4 : X16.cell? ⟨tb, 4, none⟩ = some (.slice none 0 0) := HZ716.out.2.1 4 (by omega)
                  have z5 : X16.cell? ⟨tb, 5, none⟩ = some (.int .i64 0) := HZ716.out.2.1 5 (by omega)
                  have z6 : X16.cell? ⟨tb, 6, none⟩ = some (.int .i64 0) := HZ716.out.2.1 6 (by omega)
                  have f0 := HZ716.out.2.2 0
                  have f1 := HZ716.out.2.2 1
                  have f2 := HZ716.out.2.2 2
                  have f3 := HZ716.out.2.2 3
                  have f4 := HZ716.out.2.2 4
                  have f5 := HZ716.out.2.2 5
                  have f6 := HZ716.out.2.2 6
                  go_simp
                  obtain ⟨X17, HXN17⟩ := named (set7 X16 tb (.int .i64 B.at_) (.int .i64 B.ost) (.int .i64 B.ova) (.int .i64 B.on) (.slice uo B.cmds.length uc) (.int .i64 B.sig) (.int .i64 B.steps))
                  have hset : (((((((X16.setCell ⟨tb, 0, none⟩ (.int .i64 B.at_)).setCell ⟨tb, 1, none⟩ (.int .i64 B.ost)).setCell ⟨tb, 2, none⟩ (.int .i64 B.ova)).setCell ⟨tb, 3, none⟩ (.int .i64 B.on)).setCell ⟨tb, 4, none⟩ (.slice uo B.cmds.length uc)).setCell ⟨tb, 5, none⟩ (.int .i64 B.sig)).setCell ⟨tb, 6, none⟩ (.int .i64 B.steps)) = X17 := HXN17.out.symm
                  try rw [hset]
                  clear z0 z1 z2 z3 z4 z5 z6 f0 f1 f2 f3 f4 f5 f6
                  have hst : Below base X16 X17 := by rw [HXN17.out]; exact below_set7 (Below.refl _ _) (by have := HTBW.out; have := HBW9.out; omega) _ _ _ _ _ _ _
                  have HBS17 : Hid (Below base W9 X17) := HBS16.out.trans hst
                  have HKP17 : Hid (∀ a, WR.heap.size ≤ a → a < W9.heap.size → X17.heap[a]? = W9.heap[a]?) := fun a h1 h2 => by rw [HXN17.out, set7_other _ _ _ _ _ _ _ _ _ a (by have := HTBW.out; omega)]; exact HKP16.out a h1 h2
                  have hsS17 := HSX.out X17 HBS17.out
                  have HU17 : Hid (RC 7 X17 tb (fun k => ([.int .i64 B.at_, .int .i64 B.ost, .int .i64 B.ova, .int .i64 B.on, .slice uo B.cmds.length uc, .int .i64 B.sig, .int .i64 B.steps] : List Value).getD k undef)) := by show RC _ _ _ _; rw [HXN17.out]; exact RC.set7 HZ716.out _ _ _ _ _ _ _
                  clear hset hst
                  refine hK _ _ (fun _ => hsS17) ?_
                  clear hK K
                  try simp only [Act.put, List.setIfInBounds_toArray, List.set_cons_zero, List.set_cons_succ]
                  refine wpAnyE_one (i := 18) (o := { dst := some 16, op := Go.Op.assign (Go.Operand.tmp 114), type := 36, pos := "more.go:35", after := #[{ on := 15, ground := Go.Ground.data }, { on := 17, ground := Go.Ground.chain }, { on := 0, ground := Go.Ground.phase }, { on := 1, ground := Go.Ground.phase }, { on := 2, ground := Go.Ground.phase }, { on := 3, ground := Go.Ground.phase }, { on := 4, ground := Go.Ground.phase }, { on := 5, ground := Go.Ground.phase }, { on := 6, ground := Go.Ground.phase }, { on := 7, ground := Go.Ground.phase }, { on := 8, ground := Go.Ground.phase }, { on := 9, ground := Go.Ground.phase }, { on := 10, ground := Go.Ground.phase }, { on := 11, ground := Go.Ground.phase }, { on := 12, ground := Go.Ground.phase }, { on := 13, ground := Go.Ground.phase }, { on := 14, ground := Go.Ground.phase }, { on := 15, ground := Go.Ground.phase }, { on := 16, ground := Go.Ground.phase }, { on := 17, ground := Go.Ground.phase }], guard := none }) (by kernel_rfl) rfl (fun K hK => ?_)
                  go_simp
                  refine hK _ _ (fun h => absurd rfl h) ?_
                  clear hK K
                  try simp only [Act.put, List.setIfInBounds_toArray, List.set_cons_zero, List.set_cons_succ]
                  refine wpAnyE_done (by kernel_rfl) ?_
                  have HMX : Hid (RdM X17 (.slice mo l1 mc) A.cmds) := RdM.below HM5.out (by rw [← HMB.out]; exact HBM9.out.trans (HBS17.out.mono (by have := hmbb.out; omega)))
                  have HNX : Hid (RdM X17 (.slice no l1 nc) A.cmds) := (OwnX.heap (w' := X17) HN9.out fun a ha => HKP17.out a (OwnX.lt HN9.out a ha).1 (OwnX.lt HN9.out a ha).2).rd
                  have y5 := HX9s.out.grown HBS17.out (by have := hsbm.out; have := hmbb.out; omega)
                  have x7 := HX9n.out.same (HKP17.out nb HNBW.out HX9n.out.1) HBS17.out.size
                  have hsame := same_any (w := X17) (s := A) (u := A) HMX.out HNX.out
                  rw [decide_eq_true (Alike.refl _)] at hsame
                  have hsame : Calls Tryd.prog 14 #[.agg #[.int .i64 A.at_, .int .i64 A.ost, .int .i64 A.ova, .int .i64 A.on, .slice mo l1 mc, .int .i64 A.sig, .int .i64 A.steps], .agg #[.int .i64 A.at_, .int .i64 A.ost, .int .i64 A.ova, .int .i64 A.on, .slice no l1 nc, .int .i64 A.sig, .int .i64 A.steps]] X17 _ := hsame
                  have d0 : X17.cell? ⟨sb, 0, none⟩ = some (.int .i64 A.at_) := y5.2.1 0 (by omega)
                  have d1 : X17.cell? ⟨sb, 1, none⟩ = some (.int .i64 A.ost) := y5.2.1 1 (by omega)
                  have d2 : X17.cell? ⟨sb, 2, none⟩ = some (.int .i64 A.ova) := y5.2.1 2 (by omega)
                  have d3 : X17.cell? ⟨sb, 3, none⟩ = some (.int .i64 A.on) := y5.2.1 3 (by omega)
                  have d4 : X17.cell? ⟨sb, 4, none⟩ = some (.slice mo l1 mc) := y5.2.1 4 (by omega)
                  have d5 : X17.cell? ⟨sb, 5, none⟩ = some (.int .i64 A.sig) := y5.2.1 5 (by omega)
                  have d6 : X17.cell? ⟨sb, 6, none⟩ = some (.int .i64 A.steps) := y5.2.1 6 (by omega)
                  have e0 : X17.cell? ⟨nb, 0, none⟩ = some (.int .i64 A.at_) := x7.2.1 0 (by omega)
                  have e1 : X17.cell? ⟨nb, 1, none⟩ = some (.int .i64 A.ost) := x7.2.1 1 (by omega)
                  have e2 : X17.cell? ⟨nb, 2, none⟩ = some (.int .i64 A.ova) := x7.2.1 2 (by omega)
                  have e3 : X17.cell? ⟨nb, 3, none⟩ = some (.int .i64 A.on) := x7.2.1 3 (by omega)
                  have e4 : X17.cell? ⟨nb, 4, none⟩ = some (.slice no l1 nc) := x7.2.1 4 (by omega)
                  have e5 : X17.cell? ⟨nb, 5, none⟩ = some (.int .i64 A.sig) := x7.2.1 5 (by omega)
                  have e6 : X17.cell? ⟨nb, 6, none⟩ = some (.int .i64 A.steps) := x7.2.1 6 (by omega)
                  have D6 := hide d6
                  have U6 : Hid (X17.cell? ⟨tb, 6, none⟩ = some (.int .i64 B.steps)) := HU17.out.2.1 6 (by omega)
                  have HBF : Hid (Below w.heap.size w X17) := HBwW9.out.trans (HBS17.out.mono (by have := HBWB.out; omega))
                  clear y5 x7 hsS17
                  go_wp2_with fail
                  (with_reducible refine Calls.mono hsame ?_)
                  rintro e wz ⟨rfl, hbz⟩
                  have HBZ := hide (HBF.out.trans (hbz.mono HBF.out.size))
                  have g6 : wz.cell? ⟨tb, 6, none⟩ = some (.int .i64 B.steps) := (hbz.cell (p := ⟨tb, 6, none⟩) HU17.out.1).trans U6.out
                  have h6 : wz.cell? ⟨sb, 6, none⟩ = some (.int .i64 A.steps) := (hbz.cell (p := ⟨sb, 6, none⟩) (HX9s.out.grown HBS17.out (by have := hsbm.out; have := hmbb.out; omega)).1).trans D6.out
                  have s1 : decide (A.steps < B.steps) = true := decide_eq_true HLT.out
                  have s2 : (A.steps : Int) < (B.steps : Int) := by have := HLT.out; omega
                  have haw := awake_true wz (HK.out.below HBZ.out)
                  clear hbz hsame d0 d1 d2 d3 d4 d5 d6 e0 e1 e2 e3 e4 e5 e6
                  go_wp2_with fail
                  (with_reducible refine Calls.mono haw ?_)
                  rintro e wy ⟨rfl, hby⟩
                  have HBY := hide (HBZ.out.trans (hby.mono HBZ.out.size))
                  clear hby haw
                  go_wp2
                  go_ret
                  exact ⟨rfl, HBY.out⟩
      · have q1 : ((A.at_ : Int) == 2) = false := beq_eq_false_iff_ne.2 (by omega)
        have q2 : ¬ (A.at_ : Int) = 2 := by omega
        have haw := awake_true W5 (HK.out.below HB5.out)
        clear hwt
        go_wp2_with fail
        rw [← HW5.out]
        (with_reducible refine Calls.mono haw ?_)
        rintro e w9 ⟨rfl, hb9⟩
        have HB9 := hide (HB5.out.trans (hb9.mono HB5.out.size))
        clear hb9 haw
        go_wp2
        go_ret
        exact ⟨rfl, HB9.out⟩
    · have k1 : R1 = (noS, 100) := HR1.out.trans (runR_bad p arg _ _ _ hok)
      subst k1
      have haw := awake_true W5 (HK.out.below HB5.out)
      clear x5
      go_wp2_with fail
      rw [← HW5.out]
      (with_reducible refine Calls.mono haw ?_)
      rintro e w9 ⟨rfl, hb9⟩
      have HB9 := hide (HB5.out.trans (hb9.mono HB5.out.size))
      clear hb9 haw
      go_wp2
      go_ret
      exact ⟨rfl, HB9.out⟩
end Go.Proofs.YtlngeonfabahnaaDoor
