/-
  The walk of RunCounts. Own work.
-/
import Derived.Test.YtlngeonfabahnaaDoorLC1
namespace Go.Proofs.YtlngeonfabahnaaDoor
open Go Go.RowKit
set_option linter.unusedSimpArgs false
set_option linter.unusedVariables false

/-- more instructions behind those of a row of one's own -/
theorem OwnI.app {w : World} {base : Nat} {v : Value} {l : List Ins} (h : OwnX w base 52 6 v (l.map insC)) (ys : List Ins) (hl : l.length ≤ 100000) (hy : ys.length ≤ 1000) (hb : base ≤ w.heap.size) :
    ∃ v' w', (Builtin.append_ #[22, 22] 22 #[v, .slice (some ⟨w.heap.size, 0, none⟩) ys.length ys.length]).run Tryd.prog (w.alloc (.cells (ys.map insC).flatten.toArray 52)) = .ok v' w' ∧ OwnX w' base 52 6 v' ((l ++ ys).map insC) ∧ (w.alloc (.cells (ys.map insC).flatten.toArray 52)).grownBy w' v.ownBlock ∧ Below base w w' := by
  have hrd := RdX.lit w (ys.map insC).flatten.toArray 6 ys.length (ys.map insC) 52 rfl (by simp) (full_in _) (by unfold maxLen; omega)
  obtain ⟨v', w', hr, ho, hg, hbl⟩ := OwnX.append rt22 (OwnX.alloc h _) hrd (full_in _) (by simp; omega) (Nat.le_trans hb (by simp)) 22
  refine ⟨v', w', hr, ?_, hg, ((Below.refl base w).alloc hb _).trans hbl⟩
  rw [List.map_append]
  exact ho
/-- a block that stays as it was; two rows of one's own, of other things, are not the same block -/
theorem RC.same1 {N : Nat} {w w' : World} {b : Nat} {f : Nat → Value} (h : RC N w b f) (hk : w'.heap[b]? = w.heap[b]?) (hs : w.heap.size ≤ w'.heap.size) : RC N w' b f :=
  ⟨Nat.lt_of_lt_of_le h.1 hs, fun k hk' => (World.cell?_of_block (w := w) hk).trans (h.2.1 k hk'), fun k => (World.frozen?_of_block (w := w) hk).trans (h.2.2 k)⟩
theorem OwnX.apart {w : World} {b b' : Nat} {e e' : TypeId} {sz sz' : Nat} {v v' : Value} {xs xs' : List (List Value)} (h : OwnX w b e sz v xs) (h' : OwnX w b' e' sz' v' xs') (ne : e ≠ e') (a : Nat) (ha : v.ownBlock = some a) : v'.ownBlock ≠ some a := by
  intro ha'
  rcases h.2.2 with ⟨e1, -⟩ | ⟨g, cap, cur, e1, -, h1, -⟩
  · rw [e1] at ha; cases ha
  · rcases h'.2.2 with ⟨e2, -⟩ | ⟨g', cap', cur', e2, -, h2, -⟩
    · rw [e2] at ha'; cases ha'
    · rw [e1] at ha; rw [e2] at ha'
      cases ha; cases ha'
      rw [h1] at h2
      cases h2
      exact ne rfl

set_option maxRecDepth 100000 in
set_option maxHeartbeats 6400000 in
theorem counts_walk (w : World) (hk : Kinds w) (n : Int) (hn : 0 ≤ n ∧ n < 256) (v : Value) (vs : List Int) (hv : RdN w v vs) :
    Calls Tryd.prog 7 #[.int .u8 n, v] w fun e w' => e = .returned (.bool true) ∧ Below w.heap.size w w' := by
  have HK := hide hk
  obtain ⟨ao, cap, hvv, hv1, hv2⟩ := hv.shape
  obtain ⟨vl, HVL⟩ := named vs.length
  rw [← HVL.out] at hvv hv1
  subst hvv
  have HV := hide hv
  obtain ⟨k, HK0⟩ := named (n % 21).toNat
  have hkn : n % 21 = (k : Int) := by rw [HK0.out]; omega
  have hkt : n.tmod 21 = (k : Int) := by rw [Int.tmod_eq_emod_of_nonneg hn.1]; exact hkn
  have hk20 : k ≤ 20 := by omega
  have hw1 : IntKind.u8.wrap (k : Int) = (k : Int) := by simp [IntKind.wrap, IntKind.bits, IntKind.signed]; omega
  have hw2 : IntKind.i64.wrap (k : Int) = (k : Int) := wrap_in _ (by omega) (by omega)
  clear hk hv
  obtain ⟨pb, HPB⟩ := named w.heap.size
  obtain ⟨W1, HW1⟩ := named (w.alloc (.cells #[.string ⟨#[115, 117, 109]⟩, .int .i64 6, .slice none 0 0] 24))
  have x1 : RC 3 W1 pb (fun k => ([.string ⟨#[115, 117, 109]⟩, .int .i64 6, .slice none 0 0] : List Value).getD k undef) := by
    rw [HW1.out, HPB.out]
    refine RC.new w _ 24 _ (fun k hk => ?_)
    rcases (show k = 0 ∨ k = 1 ∨ k = 2 by omega) with rfl | rfl | rfl <;> rfl
  have hb1 : Below w.heap.size w W1 := by rw [HW1.out]; exact (Below.refl _ _).alloc (Nat.le_refl _) _
  have HX1 := hide x1
  have HB1 := hide hb1
  have hz1 : Hid (W1.heap.size = pb + 1) := by show _ = _; rw [HW1.out, HPB.out]; simp
  clear x1 hb1
  go_enter Tryd.func7, Tryd.ntmps7
  go_wp2
  rw [← HW1.out, ← HPB.out]
  go_loopw [20] (fun i wr => ∃ j : Nat, j ≤ k ∧ i = .int .i64 j ∧ ∃ cv, Hid (OwnX wr (pb + 1) 52 6 cv ((List.replicate j actC).map insC)) ∧ Hid (RC 3 wr pb (fun k => ([.string ⟨#[115, 117, 109]⟩, .int .i64 6, cv] : List Value).getD k undef)) ∧ Hid (Below w.heap.size w wr) ∧ Hid (pb + 1 ≤ wr.heap.size)) (fun i _ => k - (intOf i).toNat)
  case atStart => exact ⟨0, Nat.zero_le _, rfl, _, OwnX.nil _ _ _ _, HX1.out, HB1.out, Nat.le_of_eq hz1.out.symm⟩
  case round =>
    obtain ⟨j, hj, rfl, cv, HO, HX, HB, HZ⟩ := hrel
    by_cases hjk : j < k
    · have hjI : (j : Int) < (k : Int) := by omega
      have c2 : wr.cell? ⟨pb, 2, none⟩ = some cv := HX.out.2.1 2 (by omega)
      obtain ⟨v', w', hr, ho, hg, hb⟩ := OwnI.app HO.out [actC] (by simp; omega) (by simp) HZ.out
      have hx' := HX.out.grown hb (by omega)
      have s2 : w'.cell? ⟨pb, 2, none⟩ = some cv := hx'.2.1 2 (by omega)
      have s2f : w'.frozen? ⟨pb, 2, none⟩ = false := hx'.2.2 2
      replace hr : (Builtin.append_ #[22, 22] 22 #[cv, .slice (some ⟨wr.heap.size, 0, none⟩) 1 1]).run Tryd.prog (wr.alloc (.cells #[.int .u8 10, .int .i64 1, .int .i64 0, .int .i64 0, .int .i64 0, .string ⟨#[111, 110, 101]⟩] 52)) = .ok v' w' := hr
      have e1 : List.replicate j actC ++ [actC] = List.replicate (j + 1) actC := List.replicate_succ'.symm
      rw [e1] at ho
      obtain ⟨qo, qc, hv8⟩ := OwnX.shape ho
      obtain ⟨qn, HQN⟩ := named ((List.replicate (j + 1) actC).map insC).length
      rw [← HQN.out] at hv8
      subst hv8
      have HO2 : Hid (OwnX (w'.setCell ⟨pb, 2, none⟩ (.slice qo qn qc)) (pb + 1) 52 6 (.slice qo qn qc) ((List.replicate (j + 1) actC).map insC)) := OwnX.far ho (by omega) (.slice qo qn qc)
      have HX2 : Hid (RC 3 (w'.setCell ⟨pb, 2, none⟩ (.slice qo qn qc)) pb (fun k => ([.string ⟨#[115, 117, 109]⟩, .int .i64 6, .slice qo qn qc] : List Value).getD k undef)) := (hx'.set 2 (by omega) (.slice qo qn qc)).congr (fun q hq => by rcases (show q = 0 ∨ q = 1 ∨ q = 2 by omega) with rfl | rfl | rfl <;> rfl)
      have HB2 : Hid (Below w.heap.size w (w'.setCell ⟨pb, 2, none⟩ (.slice qo qn qc))) := (HB.out.trans (hb.mono (by rw [← HPB.out]; omega))).setCell (p := ⟨pb, 2, none⟩) (by show w.heap.size ≤ pb; rw [HPB.out]; exact Nat.le_refl _) _
      have HZ2 : Hid (pb + 1 ≤ (w'.setCell ⟨pb, 2, none⟩ (.slice qo qn qc)).heap.size) := by have h1 := HZ.out; have h2 := hb.size; show _ ≤ _; simp [World.setCell]; omega
      clear ho hg hb hx' e1
      go_wp2_with (at_builtin; go_must (refine Lib.wpList_append_run _ rfl _ _ _ _ rfl _ _ rfl rfl _ _ hr ?_))
      go_roundw
      case rel => exact ⟨j + 1, hjk, by go_num, _, HO2.out, HX2.out, HB2.out, HZ2.out⟩
      case measure => simp [intOf]; omega
    · obtain ⟨Wa, rfl⟩ : ∃ x, x = wr := ⟨wr, rfl⟩
      obtain rfl : j = k := by omega
      have hjI : ¬ (j : Int) < (j : Int) := by omega
      go_wp2
      go_loopw [7, 8, 9] (fun kv wv i wr => ∃ ii : Nat, ii ≤ j ∧ i = .int .i64 ii ∧ wv = .int .i64 (wantC vs j (j - ii)) ∧ Hid (OwnK wr (pb + 1) kv (knwC vs j (j - ii))) ∧ ∃ cv, Hid (OwnX wr (pb + 1) 52 6 cv ((cod j (j - ii)).map insC)) ∧ Hid (RC 3 wr pb (fun k => ([.string ⟨#[115, 117, 109]⟩, .int .i64 6, cv] : List Value).getD k undef)) ∧ Hid (Below w.heap.size w wr) ∧ Hid (pb + 1 ≤ wr.heap.size)) (fun _ _ i _ => (intOf i).toNat)
      case atStart =>
        refine ⟨j, Nat.le_refl _, rfl, ?_, ?_, cv, ?_, HX.out, HB.out, HZ.out⟩
        · rw [Nat.sub_self]; rfl
        · rw [Nat.sub_self]; exact OwnX.nil _ _ _ _
        · rw [Nat.sub_self]; exact HO.out
      case round =>
        obtain ⟨ii, hii, rfl, rfl, HOK, cv, HO, HX, HB, HZ⟩ := hrel
        by_cases hi1 : 1 ≤ ii
        · have hi1I : (1 : Int) ≤ (ii : Int) := by omega
          have hw0 : IntKind.i64.wrap (ii : Int) = (ii : Int) := wrap_in _ (by omega) (by omega)
          obtain ⟨im, HIM⟩ := named (ii - 1)
          have hsub : (ii : Int) - 1 = (im : Int) := by rw [HIM.out]; omega
          have hws : IntKind.i64.wrap ((ii : Int) - 1) = (im : Int) := by rw [hsub]; exact wrap_in _ (by omega) (by omega)
          obtain ⟨r, HR3⟩ := named (ii % 3)
          have hmodt : (ii : Int).tmod 3 = (r : Int) := by rw [Int.tmod_eq_emod_of_nonneg (by omega), HR3.out]; omega
          have hjm : j - (ii - 1) = j - ii + 1 := by omega
          have hjj : j - (j - ii) = ii := by omega
          obtain ⟨x, HXV⟩ := named (valC vs ii)
          have hkw : knwC vs j (j - (ii - 1)) = knwC vs j (j - ii) ++ [((ii : Int), ((r : Int), x))] := by rw [hjm, knwC, hjj, HXV.out, HR3.out]
          have hww : wantC vs j (j - (ii - 1)) = IntKind.i64.wrap (wantC vs j (j - ii) + x) := by rw [hjm, wantC, hjj, HXV.out]; rfl
          have hcc : cod j (j - (ii - 1)) = cod j (j - ii) ++ trio ii := by rw [hjm, cod, hjj]
          have hkl := knw_len vs j (j - ii)
          have hcl := cod_len j (j - ii)
          obtain ⟨ko, kc, hkv, -⟩ := RdK.shape HOK.out.rd
          rw [hkl] at hkv
          subst hkv
          have hwo : Below (pb + 1) wr wr := Below.refl _ _
          obtain ⟨v7, w7, hr7, ho7, hg7, hb7⟩ : ∃ v' w', (Builtin.append_ #[25, 25] 25 #[.slice ko (j - ii) kc, .slice (some ⟨wr.heap.size, 0, none⟩) 1 1]).run Tryd.prog (wr.alloc (.cells #[.int .i64 (ii : Int), .int .i64 (r : Int), .int .i64 x] 47)) = .ok v' w' ∧ OwnK w' (pb + 1) v' (knwC vs j (j - ii) ++ [((ii : Int), ((r : Int), x))]) ∧ (wr.alloc (.cells #[.int .i64 (ii : Int), .int .i64 (r : Int), .int .i64 x] 47)).grownBy w' (Value.slice ko (j - ii) kc).ownBlock ∧ Below (pb + 1) wr w' := by
            have hrd := RdX.lit wr #[.int .i64 (ii : Int), .int .i64 (r : Int), .int .i64 x] 3 1 ([((ii : Int), ((r : Int), x))].map knC) 47 rfl rfl (full_kn _) (by unfold maxLen; omega)
            obtain ⟨v', w', hr, ho, hg, hbl⟩ := OwnX.append rt25 (OwnX.alloc HOK.out _) hrd (full_kn _) (by simp; omega) (Nat.le_trans HZ.out (by simp)) 25
            refine ⟨v', w', hr, ?_, hg, ((Below.refl (pb + 1) wr).alloc HZ.out _).trans hbl⟩
            unfold OwnK
            rw [List.map_append]
            exact ho
          rw [← hkw] at ho7
          have HC7 : Hid (OwnX w7 (pb + 1) 52 6 cv ((cod j (j - ii)).map insC)) := OwnX.heap (OwnX.alloc HO.out (.cells #[.int .i64 (ii : Int), .int .i64 (r : Int), .int .i64 x] 47)) fun a ha => hg7.block a (OwnX.lt (OwnX.alloc HO.out _) a ha).2 (fun e => OwnX.apart HO.out HOK.out (by decide) a ha e.symm)
          have hx7 := HX.out.grown hb7 (by omega)
          have c2 : w7.cell? ⟨pb, 2, none⟩ = some cv := hx7.2.1 2 (by omega)
          have hz7 : pb + 1 ≤ w7.heap.size := Nat.le_trans HZ.out hb7.size
          obtain ⟨v8, w8, hr8, ho8, hg8, hb8⟩ := OwnI.app HC7.out (trio ii) (by omega) (by simp [trio]) hz7
          replace hr8 : (Builtin.append_ #[22, 22] 22 #[cv, .slice (some ⟨w7.heap.size, 0, none⟩) 3 3]).run Tryd.prog (w7.alloc (.cells #[.int .u8 1, .int .i64 2, .int .i64 0, .int .i64 0, .int .i64 (ii : Int), .string ⟨#[]⟩, .int .u8 13, .int .i64 3, .int .i64 2, .int .i64 4, .int .i64 0, .string ⟨#[]⟩, .int .u8 3, .int .i64 5, .int .i64 5, .int .i64 3, .int .i64 0, .string ⟨#[]⟩] 52)) = .ok v8 w8 := hr8
          rw [← hcc] at ho8
          obtain ⟨qo, qc, hv8⟩ := OwnX.shape ho8
          obtain ⟨qn, HQN⟩ := named ((cod j (j - (ii - 1))).map insC).length
          rw [← HQN.out] at hv8
          subst hv8
          have hx8 := hx7.grown hb8 (by omega)
          have s2 : w8.cell? ⟨pb, 2, none⟩ = some cv := hx8.2.1 2 (by omega)
          have s2f : w8.frozen? ⟨pb, 2, none⟩ = false := hx8.2.2 2
          have hk8 : OwnK w8 (pb + 1) v7 (knwC vs j (j - (ii - 1))) := OwnX.heap (OwnX.alloc ho7 _) fun a ha => hg8.block a (OwnX.lt (OwnX.alloc ho7 _) a ha).2 (fun e => OwnX.apart ho7 HC7.out (by decide) a ha e.symm)
          have HK9 : Hid (OwnK (w8.setCell ⟨pb, 2, none⟩ (.slice qo qn qc)) (pb + 1) v7 (knwC vs j (j - (ii - 1)))) := OwnX.far hk8 (by omega) (.slice qo qn qc)
          have HO9 : Hid (OwnX (w8.setCell ⟨pb, 2, none⟩ (.slice qo qn qc)) (pb + 1) 52 6 (.slice qo qn qc) ((cod j (j - (ii - 1))).map insC)) := OwnX.far ho8 (by omega) (.slice qo qn qc)
          have HX9 : Hid (RC 3 (w8.setCell ⟨pb, 2, none⟩ (.slice qo qn qc)) pb (fun k => ([.string ⟨#[115, 117, 109]⟩, .int .i64 6, .slice qo qn qc] : List Value).getD k undef)) := (hx8.set 2 (by omega) (.slice qo qn qc)).congr (fun q hq => by rcases (show q = 0 ∨ q = 1 ∨ q = 2 by omega) with rfl | rfl | rfl <;> rfl)
          have HB9 : Hid (Below w.heap.size w (w8.setCell ⟨pb, 2, none⟩ (.slice qo qn qc))) := ((HB.out.trans (hb7.mono (by rw [← HPB.out]; omega))).trans (hb8.mono (by rw [← HPB.out]; omega))).setCell (p := ⟨pb, 2, none⟩) (by show w.heap.size ≤ pb; rw [HPB.out]; exact Nat.le_refl _) _
          have HZ9 : Hid (pb + 1 ≤ (w8.setCell ⟨pb, 2, none⟩ (.slice qo qn qc)).heap.size) := by have h2 := hb8.size; show _ ≤ _; simp [World.setCell]; omega
          have HWW := hide hww
          obtain ⟨wt, HWT⟩ := named (wantC vs j (j - ii))
          have hww2 : IntKind.i64.wrap (wt + x) = wantC vs j (j - (ii - 1)) := by rw [HWT.out]; exact hww.symm
          have HWW2 := hide hww2
          rw [← HWT.out]
          clear hww hww2 hkw hcc hkl hcl hwo ho7 hg7 hx7 hz7 ho8 hg8 hx8 hk8 hb7 hb8
          by_cases hlv : ii ≤ vl
          · have hlI : (ii : Int) ≤ (vl : Int) := by omega
            have hvr := RdX.below HV.out HB.out
            obtain ⟨b, off, hab, hbl, a0⟩ := RdN.at (l := vs) hvr im (by rw [← HVL.out]; omega)
            subst hab
            have hxe : vs[im]'(by rw [← HVL.out]; omega) = x := by
              rw [HXV.out, valC, if_pos (by rw [← HVL.out]; exact hlv), ← HIM.out, List.getD_eq_getElem?_getD, List.getElem?_eq_getElem (by rw [← HVL.out]; omega)]
              rfl
            rw [hxe] at a0
            clear hvr hxe
            have imI : (im : Int) < (vl : Int) := by omega
            have imN : im < vl := by omega
            go_wp2_with (at_builtin; go_must (first | refine Lib.wpList_append_run _ rfl _ _ _ _ rfl _ _ rfl rfl _ _ hr7 ?_ | refine Lib.wpList_append_run _ rfl _ _ _ _ rfl _ _ rfl rfl _ _ hr8 ?_))
            go_roundw
            case rel => exact ⟨ii - 1, by omega, by rw [← HIM.out], congrArg (Value.int .i64) (by rw [← HWW2.out, IntKind.wrap_i64, wrap64]), HK9.out, _, HO9.out, HX9.out, HB9.out, HZ9.out⟩
            case measure => simp [intOf]; omega
          · have hlI : ¬ (ii : Int) ≤ (vl : Int) := by omega
            have hxe : x = (ii : Int) := by rw [HXV.out, valC, if_neg (by rw [← HVL.out]; exact hlv)]
            subst hxe
            go_wp2_with (at_builtin; go_must (first | refine Lib.wpList_append_run _ rfl _ _ _ _ rfl _ _ rfl rfl _ _ hr7 ?_ | refine Lib.wpList_append_run _ rfl _ _ _ _ rfl _ _ rfl rfl _ _ hr8 ?_))
            go_roundw
            case rel => exact ⟨ii - 1, by omega, by rw [← HIM.out], congrArg (Value.int .i64) (by rw [← HWW2.out, IntKind.wrap_i64, wrap64]), HK9.out, _, HO9.out, HX9.out, HB9.out, HZ9.out⟩
            case measure => simp [intOf]; omega
        · obtain ⟨Wb, rfl⟩ : ∃ x, x = wr := ⟨wr, rfl⟩
          obtain rfl : ii = 0 := by omega
          simp only [Nat.sub_zero] at HOK HO ⊢
          obtain ⟨wt, HWT⟩ := named (wantC vs j j)
          rw [← HWT.out]
          have hkl := knw_len vs j j
          have hcl := cod_len j j
          obtain ⟨ko, kc, hkv, hkc1, hkc2⟩ := RdK.shape HOK.out.rd
          rw [hkl] at hkv hkc1
          subst hkv
          have c2 : Wb.cell? ⟨pb, 2, none⟩ = some cv := HX.out.2.1 2 (by omega)
          obtain ⟨v', w3, hr, ho, hg, hb⟩ := OwnI.app HO.out [⟨15, 5, 0, 0, 0, ⟨#[]⟩⟩] (by omega) (by simp) HZ.out
          obtain ⟨qo, qc, hv8⟩ := OwnX.shape ho
          obtain ⟨qn, HQN⟩ := named ((cod j j ++ ([⟨15, 5, 0, 0, 0, ⟨#[]⟩⟩] : List Ins)).map insC).length
          rw [← HQN.out] at hv8
          subst hv8
          have hx' := HX.out.grown hb (by omega)
          have s2 : w3.cell? ⟨pb, 2, none⟩ = some cv := hx'.2.1 2 (by omega)
          have s2f : w3.frozen? ⟨pb, 2, none⟩ = false := hx'.2.2 2
          replace hr : (Builtin.append_ #[22, 22] 22 #[cv, .slice (some ⟨Wb.heap.size, 0, none⟩) 1 1]).run Tryd.prog (Wb.alloc (.cells #[.int .u8 15, .int .i64 5, .int .i64 0, .int .i64 0, .int .i64 0, .string ⟨#[]⟩] 52)) = .ok (.slice qo qn qc) w3 := hr
          have hk3 : OwnK w3 (pb + 1) (.slice ko j kc) (knwC vs j j) := OwnX.heap (OwnX.alloc HOK.out _) fun a ha => hg.block a (OwnX.lt (OwnX.alloc HOK.out _) a ha).2 (fun e => OwnX.apart HOK.out HO.out (by decide) a ha e.symm)
          have HK3 : Hid (OwnK (w3.setCell ⟨pb, 2, none⟩ (.slice qo qn qc)) (pb + 1) (.slice ko j kc) (knwC vs j j)) := OwnX.far hk3 (by omega) (.slice qo qn qc)
          have HO3 : Hid (OwnX (w3.setCell ⟨pb, 2, none⟩ (.slice qo qn qc)) (pb + 1) 52 6 (.slice qo qn qc) ((sumC j).map insC)) := OwnX.far ho (by omega) (.slice qo qn qc)
          have HX3 : Hid (RC 3 (w3.setCell ⟨pb, 2, none⟩ (.slice qo qn qc)) pb (fun k => ([.string ⟨#[115, 117, 109]⟩, .int .i64 6, .slice qo qn qc] : List Value).getD k undef)) := (hx'.set 2 (by omega) (.slice qo qn qc)).congr (fun q hq => by rcases (show q = 0 ∨ q = 1 ∨ q = 2 by omega) with rfl | rfl | rfl <;> rfl)
          have HB3 : Hid (Below w.heap.size w (w3.setCell ⟨pb, 2, none⟩ (.slice qo qn qc))) := (HB.out.trans (hb.mono (by rw [← HPB.out]; omega))).setCell (p := ⟨pb, 2, none⟩) (by show w.heap.size ≤ pb; rw [HPB.out]; exact Nat.le_refl _) _
          obtain ⟨W3, HW3⟩ := named (w3.setCell ⟨pb, 2, none⟩ (.slice qo qn qc))
          rw [← HW3.out] at HK3 HO3 HX3 HB3
          have p0 : W3.cell? ⟨pb, 0, none⟩ = some (.string ⟨#[115, 117, 109]⟩) := HX3.out.2.1 0 (by omega)
          have p1 : W3.cell? ⟨pb, 1, none⟩ = some (.int .i64 6) := HX3.out.2.1 1 (by omega)
          have p2 : W3.cell? ⟨pb, 2, none⟩ = some (.slice qo qn qc) := HX3.out.2.1 2 (by omega)
          rw [HW3.out] at p0 p1 p2
          obtain ⟨A, hA, a1, a2, a3, a4⟩ := sum_run vs j hk20
          have HOC : Hid (RdC W3 (.slice qo qn qc) (sumC j)) := RdC.of HO3.out.rd
          have h1 := run_any (sumP j) (.slice qo qn qc) 9 (.slice ko j kc) (knwC vs j j) (.slice none 0 0) [] 10000 W3 (HK.out.below HB3.out) HOC.out (sum_wf j hk20) HK3.out.rd (by omega) (RdN.nil _) (by simp)
          rw [hA] at h1
          have h1 : Calls Tryd.prog 17 #[.agg #[.string ⟨#[115, 117, 109]⟩, .int .i64 6, .slice qo qn qc], .int .i64 9, .slice ko j kc, .slice none 0 0, .int .i64 10000] W3 _ := h1
          clear ho hg hb hx' hk3 hkl hcl hA
          go_wp2_with (at_builtin; go_must (refine Lib.wpList_append_run _ rfl _ _ _ _ rfl _ _ rfl rfl _ _ hr ?_))
          rw [← HW3.out]
          (with_reducible refine Calls.mono h1 ?_)
          rintro e w5 ⟨v5, rfl, hm5, hb5⟩
          clear p0 p1 p2 h1 hr c2 s2 s2f
          obtain ⟨mo, mc, hv5, -⟩ := RdM.shape (l := A.cmds) hm5.rd
          subst hv5
          simp only at hm5 ⊢
          rw [a4] at hm5
          rw [cms_len] at hm5
          rw [show stV A (.slice mo A.cmds.length mc) = .agg #[.int .i64 1, .int .i64 0, .int .i64 wt, .int .i64 A.on, .slice mo j mc, .int .i64 A.sig, .int .i64 A.steps] from by unfold stV; rw [a1, a2, a3, a4, cms_len, ← HWT.out]; rfl]
          obtain ⟨sb, HSB⟩ := named w5.heap.size
          obtain ⟨W5, HW5⟩ := named (w5.alloc (.cells #[.int .i64 1, .int .i64 0, .int .i64 wt, .int .i64 A.on, .slice mo j mc, .int .i64 A.sig, .int .i64 A.steps] 35))
          have x5 : RC 7 W5 sb (fun k => ([.int .i64 1, .int .i64 0, .int .i64 wt, .int .i64 A.on, .slice mo j mc, .int .i64 A.sig, .int .i64 A.steps] : List Value).getD k undef) := by
            rw [HW5.out, HSB.out]
            refine RC.new w5 _ 35 _ (fun k hk => ?_)
            rcases (show k = 0 ∨ k = 1 ∨ k = 2 ∨ k = 3 ∨ k = 4 ∨ k = 5 ∨ k = 6 by omega) with rfl | rfl | rfl | rfl | rfl | rfl | rfl <;> rfl
          have hb35 : Below W3.heap.size W3 W5 := by rw [HW5.out]; exact hb5.alloc hb5.size _
          have HB35 := hide hb35
          have HB5 := hide (HB3.out.trans (hb35.mono HB3.out.size))
          have HM5 : Hid (RdM W5 (.slice mo j mc) (cmsC j)) := by show RdM _ _ _; rw [HW5.out]; exact (OwnX.alloc hm5 _).rd
          have HX5 := hide x5
          have HSBW : Hid (w.heap.size ≤ sb) := by have h1 := HB3.out.size; have h2 := hb5.size; show _ ≤ _; rw [HSB.out]; omega
          have HPSB : Hid (pb < sb) := by have h1 := HX3.out.1; have h2 := hb5.size; show _ < _; rw [HSB.out]; omega
          have d0 : W5.cell? ⟨sb, 0, none⟩ = some (.int .i64 1) := x5.2.1 0 (by omega)
          have d1 : W5.cell? ⟨sb, 1, none⟩ = some (.int .i64 0) := x5.2.1 1 (by omega)
          have d2 : W5.cell? ⟨sb, 2, none⟩ = some (.int .i64 wt) := x5.2.1 2 (by omega)
          have d4 : W5.cell? ⟨sb, 4, none⟩ = some (.slice mo j mc) := x5.2.1 4 (by omega)
          rw [HW5.out, HSB.out] at d0 d1 d2 d4
          clear hb5 hm5 x5 hb35 a1 a2 a3 a4
          go_wp2
          rw [← HW5.out, ← HSB.out]
          clear d0 d1 d2 d4
          go_loopw [101] (fun i wr => ∃ c : Nat, c ≤ j ∧ i = .int .i64 c ∧ Hid (Below W5.heap.size W5 wr)) (fun i _ => j - (intOf i).toNat)
          case atStart => exact ⟨0, Nat.zero_le _, rfl, Below.refl _ _⟩
          case round =>
            obtain ⟨c, hc, rfl, HBc⟩ := hrel
            by_cases hcj : c < j
            · have hcI : (c : Int) < (j : Int) := by omega
              obtain ⟨b, off, hab, hbl, a0, a1, a2, a3, a4⟩ := RdM.at (l := cmsC j) (RdX.below HM5.out HBc.out) c (by rw [cms_len]; exact hcj)
              subst hab
              rw [cms_at] at a0 a1 a2 a3 a4
              have hwc : IntKind.i64.wrap ((c : Int) + 1) = (c : Int) + 1 := wrap_in _ (by omega) (by omega)
              replace a0 : wr.cell? ⟨b, off + c * 5, none⟩ = some (.int .i64 ((c : Int) + 1)) := a0
              replace a1 : wr.cell? ⟨b, off + c * 5 + 1, none⟩ = some (.int .u8 1) := a1
              replace a2 : wr.cell? ⟨b, off + c * 5 + 2, none⟩ = some (.string oneS) := a2
              replace a3 : wr.cell? ⟨b, off + c * 5 + 3, none⟩ = some (.int .i64 9) := a3
              replace a4 : wr.cell? ⟨b, off + c * 5 + 4, none⟩ = some (.int .i64 0) := a4
              have HBn : Hid (Below W5.heap.size W5 (wr.alloc (.cells #[.int .i64 ((c : Int) + 1), .int .u8 1, .string oneS, .int .i64 9, .int .i64 0] 55))) := HBc.out.alloc HBc.out.size _
              go_wp2
              go_roundw
              case rel => exact ⟨c + 1, hcj, by go_num, HBn.out⟩
              case measure => simp [intOf]; omega
            · obtain ⟨Wc, rfl⟩ : ∃ x, x = wr := ⟨wr, rfl⟩
              obtain rfl : c = j := by omega
              have HBC := hide (HB5.out.trans (HBc.out.mono HB5.out.size))
              by_cases hj0 : 0 < c
              · have hjI : (0 : Int) < (c : Int) := by omega
                have hcN : ¬ c = 0 := by omega
                have hcc' : ¬ (c : Int) < (c : Int) := by omega
                rcases HK3.out.2.2 with ⟨e, h0⟩ | ⟨kg, kcap, cur, e, -⟩
                · rw [List.length_map, knw_len] at h0; omega
                obtain ⟨rfl, -⟩ : ko = some ⟨kg, 0, none⟩ ∧ True := by injection e with h1; exact ⟨h1, trivial⟩
                clear e
                have g1 : (1 : Int) ≤ (c : Int) := by omega
                have g2 : (c : Int) ≤ (kc : Int) := by omega
                have g3 : (1 : Int) ≤ (kc : Int) := by omega
                have g4 : kc ≤ 9223372036854775807 := by unfold maxLen at hkc2; omega
                obtain ⟨av, HAV⟩ := named (if kc = 1 then (some ⟨kg, 0, none⟩ : Option Addr) else some ⟨kg, 3, none⟩)
                have hav : (if kc = 1 then (some ⟨kg, 0, none⟩ : Option Addr) else some ⟨kg, 3, none⟩) = av := HAV.out.symm
                obtain ⟨B, hB, b1, b2⟩ := sum_wait ((knwC vs c c).drop 1) c hk20 hj0 (knw_rest vs c c (Nat.le_refl _) hj0)
                have hbd : Below W3.heap.size W3 Wc.drew := (HB35.out.trans (HBc.out.mono HB35.out.size)).drew
                have hcut : RdK Wc.drew (.slice av (c - 1) (kc - 1)) ((knwC vs c c).drop 1) := by
                  have := RdK.cut (RdX.below HK3.out.rd hbd) 1
                  rw [Nat.one_mul, hav] at this
                  exact this
                have h2 := run_any (sumP c) (.slice qo qn qc) 9 (.slice av (c - 1) (kc - 1)) ((knwC vs c c).drop 1) (.slice none 0 0) [] 10000 Wc.drew (HK.out.below HBC.out.drew) (RdC.of (RdX.below HO3.out.rd hbd)) (sum_wf c hk20) hcut (by rw [List.length_drop, knw_len]; omega) (RdN.nil _) (by simp)
                rw [hB] at h2
                have h2 : Calls Tryd.prog 17 #[.agg #[.string ⟨#[115, 117, 109]⟩, .int .i64 6, .slice qo qn qc], .int .i64 9, .slice av (c - 1) (kc - 1), .slice none 0 0, .int .i64 10000] Wc.drew _ := h2
                have hpx := HX3.out.below hbd
                have hs0 : Wc.drew.cell? ⟨pb, 0, none⟩ = some (.string ⟨#[115, 117, 109]⟩) ∧ Wc.drew.cell? ⟨pb, 1, none⟩ = some (.int .i64 6) ∧ Wc.drew.cell? ⟨pb, 2, none⟩ = some (.slice qo qn qc) := ⟨hpx.2.1 0 (by omega), hpx.2.1 1 (by omega), hpx.2.1 2 (by omega)⟩
                have HPX := hide hpx
                have HXC : Hid (RC 7 Wc.drew sb (fun k => ([.int .i64 1, .int .i64 0, .int .i64 wt, .int .i64 A.on, .slice mo c mc, .int .i64 A.sig, .int .i64 A.steps] : List Value).getD k undef)) := RC.below HX5.out HBc.out.drew
                clear hcut hbd hB hpx
                go_wp2_with fail
                refine wp_region_E 8 (fun w' => w'.cell? ⟨pb, 0, none⟩ = some (.string ⟨#[115, 117, 109]⟩) ∧ w'.cell? ⟨pb, 1, none⟩ = some (.int .i64 6) ∧ w'.cell? ⟨pb, 2, none⟩ = some (.slice qo qn qc)) (by kernel_rfl) ?_
                refine wpAnyE_take 0 [8] (oi := { dst := some 120, op := Go.Op.load 24 (Go.Operand.tmp 6), type := 24, pos := "outright.go:125", after := #[], guard := none }) (v := ?_) rfl (by kernel_rfl) (by kernel_rfl) (by kernel_rfl) (by kernel_rfl) (fun _ _ _ h => h) (Or.inl ⟨by rfl, ?hE15⟩) hs0 ?_
                case hE15 =>
                  intro u hu
                  obtain ⟨u0, u1, u2⟩ := hu
                  go_simp
                  try with_reducible rfl
                simp only [Act.put, List.setIfInBounds_toArray, List.set_cons_zero, List.set_cons_succ]
                refine wpAnyE_take 1 [8] (oi := { dst := some 121, op := Go.Op.move (Go.Operand.tmp 7), type := 25, pos := "outright.go:125", after := #[], guard := none }) (v := ?_) rfl (by kernel_rfl) (by kernel_rfl) (by kernel_rfl) (by kernel_rfl) (fun _ _ _ h => h) (Or.inl ⟨by rfl, ?hE16⟩) hs0 ?_
                case hE16 =>
                  intro u hu
                  obtain ⟨u0, u1, u2⟩ := hu
                  go_simp
                  try with_reducible rfl
                simp only [Act.put, List.setIfInBounds_toArray, List.set_cons_zero, List.set_cons_succ]
                refine wpAnyE_take 2 [8] (oi := { dst := some 122, op := Go.Op.slice 25 (Go.Operand.tmp 121) (some (Go.Operand.const (Go.Value.int Go.IntKind.i64 1))) none none, type := 25, pos := "outright.go:125", after := #[{ on := 1, ground := Go.Ground.data }], guard := none }) (v := ?_) rfl (by kernel_rfl) (by kernel_rfl) (by kernel_rfl) (by kernel_rfl) (fun _ _ _ h => h) (Or.inl ⟨by rfl, ?hE17⟩) hs0 ?_
                case hE17 =>
                  intro u hu
                  obtain ⟨u0, u1, u2⟩ := hu
                  go_simp
                  try with_reducible rfl
                simp only [Act.put, List.setIfInBounds_toArray, List.set_cons_zero, List.set_cons_succ]
                refine wpAnyE_one (i := 3) (o := { dst := some 123, op := Go.Op.call { callee := Go.Callee.value (Go.Operand.func 17), args := #[Go.Operand.tmp 120, Go.Operand.const (Go.Value.int Go.IntKind.i64 9), Go.Operand.tmp 122, Go.Operand.const (Go.Value.slice none 0 0), Go.Operand.const (Go.Value.int Go.IntKind.i64 10000)], argTypes := #[24, 2, 25, 26, 3] }, type := 37, pos := "outright.go:125", after := #[{ on := 0, ground := Go.Ground.data }, { on := 2, ground := Go.Ground.data }], guard := none }) (by kernel_rfl) rfl (fun K hK => ?_)
                go_simp
                (with_reducible refine Calls.mono h2 ?_)
                rintro e w8 ⟨v8, rfl, hm8, hb8⟩
                have hp8 := HPX.out.below hb8
                have hp8_ := hp8
                have hs8 : w8.cell? ⟨pb, 0, none⟩ = some (.string ⟨#[115, 117, 109]⟩) ∧ w8.cell? ⟨pb, 1, none⟩ = some (.int .i64 6) ∧ w8.cell? ⟨pb, 2, none⟩ = some (.slice qo qn qc) := ⟨hp8.2.1 0 (by omega), hp8.2.1 1 (by omega), hp8.2.1 2 (by omega)⟩
                have x2 := HXC.out.below hb8
                have z0 : w8.cell? ⟨sb, 0, none⟩ = some (.int .i64 1) := x2.2.1 0 (by omega)
                have z1 : w8.cell? ⟨sb, 1, none⟩ = some (.int .i64 0) := x2.2.1 1 (by omega)
                have z2 : w8.cell? ⟨sb, 2, none⟩ = some (.int .i64 wt) := x2.2.1 2 (by omega)
                have z3 : w8.cell? ⟨sb, 3, none⟩ = some (.int .i64 A.on) := x2.2.1 3 (by omega)
                have z4 : w8.cell? ⟨sb, 4, none⟩ = some (.slice mo c mc) := x2.2.1 4 (by omega)
                have z5 : w8.cell? ⟨sb, 5, none⟩ = some (.int .i64 A.sig) := x2.2.1 5 (by omega)
                have z6 : w8.cell? ⟨sb, 6, none⟩ = some (.int .i64 A.steps) := x2.2.1 6 (by omega)
                have f0 := x2.2.2 0
                have f1 := x2.2.2 1
                have f2 := x2.2.2 2
                have f3 := x2.2.2 3
                have f4 := x2.2.2 4
                have f5 := x2.2.2 5
                have f6 := x2.2.2 6
                have HX8 := hide x2
                have HB8 := hide (HBC.out.drew.trans (hb8.mono HBC.out.drew.size))
                obtain ⟨no, nc, hvc, -⟩ := RdM.shape (l := B.cmds) hm8.rd
                subst hvc
                simp only
                rw [show stV B (.slice no B.cmds.length nc) = .agg #[.int .i64 2, .int .i64 B.ost, .int .i64 B.ova, .int .i64 (c : Int), .slice no B.cmds.length nc, .int .i64 B.sig, .int .i64 B.steps] from by unfold stV; rw [b1, b2]; rfl]
                clear hm8 x2 h2 hp8 hb8 b1 b2
                have HP8 := hide hp8_
                refine hK _ _ (fun _ => hs8) ?_
                clear hK K
                try simp only [Act.put, List.setIfInBounds_toArray, List.set_cons_zero, List.set_cons_succ]
                refine wpAnyE_take 4 [8] (oi := { dst := some 119, op := Go.Op.move (Go.Operand.tmp 123), type := 37, pos := "outright.go:125", after := #[{ on := 3, ground := Go.Ground.data }], guard := none }) (v := ?_) rfl (by kernel_rfl) (by kernel_rfl) (by kernel_rfl) (by kernel_rfl) (fun _ _ _ h => h) (Or.inl ⟨by rfl, ?hE18⟩) hs8 ?_
                case hE18 =>
                  intro u hu
                  obtain ⟨u0, u1, u2⟩ := hu
                  go_simp
                  try with_reducible rfl
                simp only [Act.put, List.setIfInBounds_toArray, List.set_cons_zero, List.set_cons_succ]
                refine wpAnyE_take 5 [8] (oi := { dst := some 124, op := Go.Op.extract (Go.Operand.tmp 119) 0, type := 35, pos := "outright.go:125", after := #[{ on := 4, ground := Go.Ground.data }], guard := none }) (v := ?_) rfl (by kernel_rfl) (by kernel_rfl) (by kernel_rfl) (by kernel_rfl) (fun _ _ _ h => h) (Or.inl ⟨by rfl, ?hE19⟩) hs8 ?_
                case hE19 =>
                  intro u hu
                  obtain ⟨u0, u1, u2⟩ := hu
                  go_simp
                  try with_reducible rfl
                simp only [Act.put, List.setIfInBounds_toArray, List.set_cons_zero, List.set_cons_succ]
                refine wpAnyE_take 6 [8] (oi := { dst := some 125, op := Go.Op.extract (Go.Operand.tmp 119) 1, type := 36, pos := "outright.go:125", after := #[{ on := 4, ground := Go.Ground.data }, { on := 7, ground := Go.Ground.gcOnly Go.Departure.lateStores }], guard := none }) (v := ?_) rfl (by kernel_rfl) (by kernel_rfl) (by kernel_rfl) (by kernel_rfl) (fun _ _ _ h => h) (Or.inl ⟨by rfl, ?hE20⟩) hs8 ?_
                case hE20 =>
                  intro u hu
                  obtain ⟨u0, u1, u2⟩ := hu
                  go_simp
                  try with_reducible rfl
                simp only [Act.put, List.setIfInBounds_toArray, List.set_cons_zero, List.set_cons_succ]
                refine wpAnyE_one (i := 7) (o := { dst := none, op := Go.Op.store 35 (Go.Operand.tmp 11) (Go.Operand.tmp 124), type := 0, pos := "outright.go:125", after := #[{ on := 5, ground := Go.Ground.data }, { on := 3, ground := Go.Ground.chain }, { on := 0, ground := Go.Ground.phase }, { on := 1, ground := Go.Ground.phase }, { on := 2, ground := Go.Ground.phase }, { on := 3, ground := Go.Ground.phase }, { on := 4, ground := Go.Ground.phase }, { on := 5, ground := Go.Ground.phase }, { on := 6, ground := Go.Ground.textOnly Go.Departure.lateStores }], guard := none }) (by kernel_rfl) rfl (fun K hK => ?_)
                go_simp
                obtain ⟨X, HXE⟩ := named (set7 w8 sb (.int .i64 2) (.int .i64 B.ost) (.int .i64 B.ova) (.int .i64 (c : Int)) (.slice no B.cmds.length nc) (.int .i64 B.sig) (.int .i64 B.steps))
                have hset : (((((((w8.setCell ⟨sb, 0, none⟩ (.int .i64 2)).setCell ⟨sb, 1, none⟩ (.int .i64 B.ost)).setCell ⟨sb, 2, none⟩ (.int .i64 B.ova)).setCell ⟨sb, 3, none⟩ (.int .i64 (c : Int))).setCell ⟨sb, 4, none⟩ (.slice no B.cmds.length nc)).setCell ⟨sb, 5, none⟩ (.int .i64 B.sig)).setCell ⟨sb, 6, none⟩ (.int .i64 B.steps)) = X := HXE.out.symm
                rw [hset]
                have hp9 := HP8.out.same1 (w' := X) (by rw [HXE.out]; exact set7_other _ _ _ _ _ _ _ _ _ pb (by have := HPSB.out; omega)) (by rw [HXE.out]; simp [set7, World.setCell])
                have hs9 : X.cell? ⟨pb, 0, none⟩ = some (.string ⟨#[115, 117, 109]⟩) ∧ X.cell? ⟨pb, 1, none⟩ = some (.int .i64 6) ∧ X.cell? ⟨pb, 2, none⟩ = some (.slice qo qn qc) := ⟨hp9.2.1 0 (by omega), hp9.2.1 1 (by omega), hp9.2.1 2 (by omega)⟩
                clear hp9 hset z0 z1 z2 z3 z4 z5 z6 f0 f1 f2 f3 f4 f5 f6
                refine hK _ _ (fun _ => hs9) ?_
                clear hK K
                try simp only [Act.put, List.setIfInBounds_toArray, List.set_cons_zero, List.set_cons_succ]
                refine wpAnyE_one (i := 8) (o := { dst := some 12, op := Go.Op.assign (Go.Operand.tmp 125), type := 36, pos := "outright.go:125", after := #[{ on := 6, ground := Go.Ground.data }, { on := 7, ground := Go.Ground.chain }, { on := 0, ground := Go.Ground.phase }, { on := 1, ground := Go.Ground.phase }, { on := 2, ground := Go.Ground.phase }, { on := 3, ground := Go.Ground.phase }, { on := 4, ground := Go.Ground.phase }, { on := 5, ground := Go.Ground.phase }, { on := 6, ground := Go.Ground.phase }, { on := 7, ground := Go.Ground.phase }], guard := none }) (by kernel_rfl) rfl (fun K hK => ?_)
                go_simp
                refine hK _ _ (fun h => absurd rfl h) ?_
                clear hK K
                try simp only [Act.put, List.setIfInBounds_toArray, List.set_cons_zero, List.set_cons_succ]
                refine wpAnyE_done (by kernel_rfl) ?_
                have x8 : RC 7 X sb (fun k => ([.int .i64 2, .int .i64 B.ost, .int .i64 B.ova, .int .i64 (c : Int), .slice no B.cmds.length nc, .int .i64 B.sig, .int .i64 B.steps] : List Value).getD k undef) := by rw [HXE.out]; exact RC.set7 HX8.out _ _ _ _ _ _ _
                have v0 : X.cell? ⟨sb, 0, none⟩ = some (.int .i64 2) := x8.2.1 0 (by omega)
                have v3 : X.cell? ⟨sb, 3, none⟩ = some (.int .i64 (c : Int)) := x8.2.1 3 (by omega)
                have HBX : Hid (Below w.heap.size w X) := by show Below _ _ _; rw [HXE.out]; exact below_set7 HB8.out HSBW.out _ _ _ _ _ _ _
                have haw := awake_true X (HK.out.below HBX.out)
                clear x8
                go_wp2_with fail
                (with_reducible refine Calls.mono haw ?_)
                rintro e wy ⟨rfl, hby⟩
                have HBY := hide (HBX.out.trans (hby.mono HBX.out.size))
                clear hby haw
                go_wp2
                go_ret
                exact ⟨rfl, HBY.out⟩
              · have hc0 : c = 0 := by omega
                have hjI : ¬ (0 : Int) < (c : Int) := by omega
                have hcc' : ¬ (c : Int) < (c : Int) := by omega
                have haw := awake_true Wc (HK.out.below HBC.out)
                clear hc0
                go_wp2_with fail
                (with_reducible refine Calls.mono haw ?_)
                rintro e wy ⟨rfl, hby⟩
                have HBY := hide (HBC.out.trans (hby.mono HBC.out.size))
                clear hby haw
                go_wp2
                go_ret
                exact ⟨rfl, HBY.out⟩
end Go.Proofs.YtlngeonfabahnaaDoor
