/-
  What is taken from a queue is what was put into it, in that order: the law is walked. Own work.
-/
import Derived.Test.YtdbbdecmfnajiaaOe
import Derived.Deep.CutBlock
import Derived.Deep.DeepCutAuto
namespace Go.Proofs.Ytdbbdecmfnajiaa
open Go.RowKit Go.Sort
set_option linter.unusedVariables false

set_option maxRecDepth 100000 in
set_option maxHeartbeats 25600000 in
theorem order_walk (w : World) (n0 : Int) (hn0 : 0 ≤ n0 ∧ n0 ≤ 255) (v1 : Value) (ops : List Op) (hv1 : RdO w v1 ops) (hops : ∀ x ∈ ops, I64 x.1 ∧ I64 x.2.1 ∧ x.2.2.size ≤ maxLen) :
    Calls Try.prog 6 #[.int .u8 n0, v1] w fun e w' => e = .returned (.bool true) ∧ Below w.heap.size w w' := by
  obtain ⟨S, hS⟩ : ∃ S : Nat, 1 + n0 % 20 = (S : Int) := ⟨(1 + n0 % 20).toNat, by omega⟩
  have hS1 : 1 ≤ S ∧ S ≤ 20 := by omega
  have k0 := new_any w (S : Int) (by unfold capOk; omega)
  obtain ⟨a0, a1⟩ := hn0
  have HV := hide hv1
  have HOPS := hide hops
  obtain ⟨bo, dap, rfl, hol⟩ := hv1.shape
  unfold maxLen at hol
  clear hv1 hops
  obtain ⟨p, HP⟩ := named ops.length
  rw [← HP.out] at HV hol ⊢
  have hmm := @run_makeMap Try.prog
  go_enter Try.func6, Try.ntmps6
  go_wp2_with fail
  (with_reducible refine Calls.mono k0 ?_)
  clear k0
  rintro e u0 ⟨r, F, rfl, h1, h2, h3⟩
  have HOI : Hid (OI w (u0.alloc (.map #[] 0)) r S u0.heap.size 0) := OI.new h1 h2 h3
  obtain ⟨rb, rfl⟩ := h1.ptr
  obtain ⟨hb, HHB⟩ := named u0.heap.size
  rw [← HHB.out] at HOI
  have hhb : u0.heap.size = hb := HHB.out.symm
  clear h1 h2 h3
  go_wp2_with fail
  clear hS a0 a1 hmm
  go_loopw [9] (fun iv wr => ∃ k : Nat, k ≤ p ∧ k ≤ 200 ∧ iv = .int .i64 k ∧ Hid (OI w wr (.pointer (some ⟨rb, 0, none⟩)) S hb k)) (fun iv _ => p - (intOf iv).toNat)
  case atStart => exact ⟨0, Nat.zero_le _, by omega, rfl, HOI⟩
  case round =>
    obtain ⟨k, hk, hk200, rfl, HK⟩ := hrel
    clear HOI
    by_cases hlt : k < p ∧ k < 200
    · obtain ⟨hkp, hk2⟩ := hlt
      have hkl : k < ops.length := by rw [← HP.out]; exact hkp
      obtain ⟨bx, off, hab, d0, d1, d2⟩ := (HV.out.below HK.out.bel).at k hkl
      subst hab
      obtain ⟨-, -, hsz⟩ := HOPS.out _ (List.getElem_mem hkl)
      obtain ⟨kd, HKD⟩ := named ops[k].1
      obtain ⟨nn, HNN⟩ := named ops[k].2.1
      obtain ⟨nm, HNM⟩ := named ops[k].2.2
      rw [← HKD.out] at d0
      rw [← HNN.out] at d1
      rw [← HNM.out] at d2 hsz
      have hkI : (k : Int) < (p : Int) := by omega
      have hkJ : (k : Int) < 200 := by omega
      obtain ⟨X, HX⟩ := named (wr.alloc (.cells #[.int .i64 kd, .int .i64 nn, .string nm] 43))
      have HOR := hide (HK.out.start HX)
      obtain ⟨xb, HXB⟩ := named wr.heap.size
      have hxb : wr.heap.size = xb := HXB.out.symm
      rw [← HXB.out] at HOR
      have f0 : X.cell? ⟨xb, 0, none⟩ = some (.int .i64 kd) := by rw [cell_of HOR.out.op]; rfl
      have f1 : X.cell? ⟨xb, 1, none⟩ = some (.int .i64 nn) := by rw [cell_of HOR.out.op]; rfl
      have f2 : X.cell? ⟨xb, 2, none⟩ = some (.string nm) := by rw [cell_of HOR.out.op]; rfl
      have hnmax : nm.size ≤ 9223372036854775807 := by unfold maxLen at hsz; omega
      clear HK
      by_cases h0 : nm.size = 0
      · have heP : nm.toList = [] := by
          rw [tl_data]
          exact List.eq_nil_of_length_eq_zero (by simpa using h0)
        have heB : (nm.toList == []) = true := by rw [heP]; rfl
        go_wp2_with (rw [← HX.out])
        go_roundw
        case rel => exact ⟨k + 1, hkp, by omega, by go_num, hide (HOR.out.oi.more (Nat.le_succ k))⟩
        case measure => simp [intOf]; omega
      · have heB : (nm.toList == []) = false := by
          rw [tl_data]
          cases e : nm.data.toList with
          | nil => exact absurd (by simpa using congrArg List.length e) h0
          | cons a t => rfl
        by_cases h40 : 40 < nm.size
        · have h4I : (40 : Int) < (nm.size : Int) := by omega
          go_wp2_with (rw [← HX.out])
          go_roundw
          case rel => exact ⟨k + 1, hkp, by omega, by go_num, hide (HOR.out.oi.more (Nat.le_succ k))⟩
          case measure => simp [intOf]; omega
        · have h4I : ¬ (40 : Int) < (nm.size : Int) := by omega
          have hr : right nm := ⟨by omega, by omega⟩
          have HRN := hide hr
          obtain ⟨hv, L, hLs, HLK0⟩ := HOR.out.lookB nm hr
          obtain ⟨hlk, hrd, kput, ktake, ktake0, kdrop, kdrop0, -, -, -⟩ := HLK0 X (Below.refl _ _)
          have HLKB := hide HLK0
          clear HLK0
          obtain ⟨lo, lc, hvv⟩ := hrd.shape
          subst hvv
          have HLS := hide hLs
          go_upto_block 2 with (rw [← HX.out])
          go_cut [12, 13, 14, 15, 16] from 59 to 166 (fun _ _ _ _ _ wx => Hid (OR w wx (.pointer (some ⟨rb, 0, none⟩)) S hb (k + 1) xb #[.int .i64 kd, .int .i64 nn, .string nm]))
          case first =>
            by_cases hk5 : kd ≤ 5
            · by_cases hf : L.length < S
              · have kp := kput nn
                rw [if_pos ⟨hf, by omega⟩] at kp
                have hlI : (L.length : Int) < (S : Int) := by omega
                clear kput ktake ktake0 kdrop kdrop0
                go_wp2_with fail
                (with_reducible refine Calls.mono kp ?_)
                clear kp
                rintro e y1 ⟨rfl, hm⟩
                have HSX : Hid (∀ x : World, Below y1.heap.size y1 x → x.cell? ⟨xb, 2, none⟩ = some (.string nm) ∧ x.cell? ⟨xb, 1, none⟩ = some (.int .i64 nn)) := fun x hx => by
                  have hh := (hx.block _ (lt_of hm.op)).trans hm.op
                  exact ⟨by rw [cell_of hh]; rfl, by rw [cell_of hh]; rfl⟩
                have g0 : y1.cell? ⟨xb, 0, none⟩ = some (.int .i64 kd) := by rw [cell_of hm.op]; rfl
                have g1 : y1.cell? ⟨xb, 1, none⟩ = some (.int .i64 nn) := by rw [cell_of hm.op]; rfl
                have g2 : y1.cell? ⟨xb, 2, none⟩ = some (.string nm) := by rw [cell_of hm.op]; rfl
                have HRD : Hid (∀ x : World, Below y1.heap.size y1 x → RdI x (.slice lo L.length lc) L) := fun x hx => hm.rd.below hx
                have hs0 : y1.cell? ⟨xb, 2, none⟩ = some (.string nm) ∧ y1.cell? ⟨xb, 1, none⟩ = some (.int .i64 nn) := ⟨g2, g1⟩
                have HOM := hide hm
                clear hm f0 f1 f2
                go_wp2_with fail
                refine wp_region_held_drew (S := (fun u => u.cell? ⟨xb, 2, none⟩ = some (.string nm) ∧ u.cell? ⟨xb, 1, none⟩ = some (.int .i64 nn))) (by kernel_rfl) hs0 (fun _ => ?_)
                refine wpAnyH_take (i := 0) (oi := { dst := some 125, op := Go.Op.move (Go.Operand.tmp 8), type := 63, pos := "outright.go:33", after := #[], guard := none }) (v := ?_) rfl (by kernel_rfl) (by kernel_rfl) (by kernel_rfl) (fun _ _ _ h => h) (Or.inl ⟨by rfl, ?hy1⟩) hs0 ?_
                case hy1 =>
                  intro u hu
                  obtain ⟨u0, u1⟩ := hu
                  go_simp
                  try with_reducible rfl
                simp only [Act.put, List.setIfInBounds_toArray, List.set_cons_zero, List.set_cons_succ]
                refine wpAnyH_take (i := 1) (oi := { dst := some 126, op := Go.Op.fieldAddr 43 (Go.Operand.tmp 10) 2, type := 0, pos := "outright.go:33", after := #[], guard := none }) (v := ?_) rfl (by kernel_rfl) (by kernel_rfl) (by kernel_rfl) (fun _ _ _ h => h) (Or.inl ⟨by rfl, ?hy2⟩) hs0 ?_
                case hy2 =>
                  intro u hu
                  obtain ⟨u0, u1⟩ := hu
                  go_simp
                  try with_reducible rfl
                simp only [Act.put, List.setIfInBounds_toArray, List.set_cons_zero, List.set_cons_succ]
                refine wpAnyH_take (i := 2) (oi := { dst := some 127, op := Go.Op.load 9 (Go.Operand.tmp 126), type := 9, pos := "outright.go:33", after := #[{ on := 1, ground := Go.Ground.data }], guard := none }) (v := ?_) rfl (by kernel_rfl) (by kernel_rfl) (by kernel_rfl) (fun _ _ _ h => h) (Or.inl ⟨by rfl, ?hy3⟩) hs0 ?_
                case hy3 =>
                  intro u hu
                  obtain ⟨u0, u1⟩ := hu
                  go_simp
                  try with_reducible rfl
                simp only [Act.put, List.setIfInBounds_toArray, List.set_cons_zero, List.set_cons_succ]
                refine wpAnyH_take (i := 4) (oi := { dst := some 129, op := Go.Op.move (Go.Operand.tmp 11), type := 22, pos := "outright.go:33", after := #[], guard := none }) (v := ?_) rfl (by kernel_rfl) (by kernel_rfl) (by kernel_rfl) (fun _ _ _ h => h) (Or.inl ⟨by rfl, ?hy4⟩) hs0 ?_
                case hy4 =>
                  intro u hu
                  obtain ⟨u0, u1⟩ := hu
                  go_simp
                  try with_reducible rfl
                simp only [Act.put, List.setIfInBounds_toArray, List.set_cons_zero, List.set_cons_succ]
                refine wpAnyH_take (i := 6) (oi := { dst := some 131, op := Go.Op.fieldAddr 43 (Go.Operand.tmp 10) 1, type := 0, pos := "outright.go:33", after := #[], guard := none }) (v := ?_) rfl (by kernel_rfl) (by kernel_rfl) (by kernel_rfl) (fun _ _ _ h => h) (Or.inl ⟨by rfl, ?hy5⟩) hs0 ?_
                case hy5 =>
                  intro u hu
                  obtain ⟨u0, u1⟩ := hu
                  go_simp
                  try with_reducible rfl
                simp only [Act.put, List.setIfInBounds_toArray, List.set_cons_zero, List.set_cons_succ]
                refine wpAnyH_take (i := 7) (oi := { dst := some 132, op := Go.Op.load 3 (Go.Operand.tmp 131), type := 3, pos := "outright.go:33", after := #[{ on := 6, ground := Go.Ground.data }], guard := none }) (v := ?_) rfl (by kernel_rfl) (by kernel_rfl) (by kernel_rfl) (fun _ _ _ h => h) (Or.inl ⟨by rfl, ?hy6⟩) hs0 ?_
                case hy6 =>
                  intro u hu
                  obtain ⟨u0, u1⟩ := hu
                  go_simp
                  try with_reducible rfl
                simp only [Act.put, List.setIfInBounds_toArray, List.set_cons_zero, List.set_cons_succ]
                refine wpAnyH_ready (rs := [3, 8]) (by kernel_rfl) (by simp) ?_
                refine AllReadyH.cons (o := { dst := some 128, op := Go.Op.buildSlice 22 0 #[], type := 22, pos := "outright.go:33", after := #[], guard := none }) rfl (fun K hK => ?b7_3) (AllReadyH.cons (o := { dst := some 133, op := Go.Op.buildSlice 22 1 #[(0, Go.Operand.tmp 132)], type := 22, pos := "outright.go:33", after := #[{ on := 7, ground := Go.Ground.data }], guard := none }) rfl (fun K hK => ?b7_8) AllReadyH.nil)
                case' b7_3 =>
                  go_simp
                  obtain ⟨V1, HV1⟩ := named ((y1.alloc (.cells #[] 3)).drew)
                  have HB1 : Hid (Below y1.heap.size y1 V1) := by rw [HV1.out]; exact ((Below.refl _ _).alloc (Nat.le_refl _) _).drew
                  have hx1 := HSX.out V1 HB1.out
                  rw [← HV1.out]
                  have HE1 : Hid (OwnI V1 y1.heap.size (.slice (some ⟨y1.heap.size, 0, none⟩) 0 0) []) := by rw [HV1.out]; exact (OwnI.empty y1).heap fun _ _ => rfl
                  refine hK.out _ _ hx1 (fun _ => ?_)
                  clear hK K
                  try simp only [Act.put, List.setIfInBounds_toArray, List.set_cons_zero, List.set_cons_succ]
                  refine wpAnyH_ready (rs := [5, 8]) (by kernel_rfl) (by simp) ?_
                  refine AllReadyH.cons (o := { dst := some 130, op := Go.Op.call { callee := Go.Callee.builtin Go.Builtin.append, args := #[Go.Operand.tmp 128, Go.Operand.tmp 129], argTypes := #[22, 22] }, type := 22, pos := "outright.go:33", after := #[{ on := 3, ground := Go.Ground.data }, { on := 4, ground := Go.Ground.data }], guard := none }) rfl (fun K hK => ?b8_5) (AllReadyH.cons (o := { dst := some 133, op := Go.Op.buildSlice 22 1 #[(0, Go.Operand.tmp 132)], type := 22, pos := "outright.go:33", after := #[{ on := 7, ground := Go.Ground.data }], guard := none }) rfl (fun K hK => ?b8_8) AllReadyH.nil)
                  case' b8_5 =>
                    obtain ⟨v1, V2, hr1, ho1, hb1, hg1⟩ := push_any HB1.out HE1.out HB1.out.size (Nat.le_refl _) HRD.out (by have := HLS.out; simp; omega)
                    have HR1 := hide hr1
                    have HO1 := hide ho1
                    have HB2 := hide hb1
                    have HG1 := hide hg1
                    have hx2 := HSX.out V2 hb1
                    clear hr1 ho1 hb1 hg1
                    refine step_append_runI rfl (.tmp 128) (.tmp 129) 22 22 rfl (.slice (some ⟨y1.heap.size, 0, none⟩) 0 0) (.slice lo L.length lc) (by simp [Act.eval]) (by simp [Act.eval]) HR1.out ?_
                    refine hK.out _ _ hx2 (fun _ => ?_)
                    clear hK K
                    try simp only [Act.put, List.setIfInBounds_toArray, List.set_cons_zero, List.set_cons_succ]
                    refine wpAnyH_ready (rs := [8]) (by kernel_rfl) (by simp) ?_
                    refine AllReadyH.cons (o := { dst := some 133, op := Go.Op.buildSlice 22 1 #[(0, Go.Operand.tmp 132)], type := 22, pos := "outright.go:33", after := #[{ on := 7, ground := Go.Ground.data }], guard := none }) rfl (fun K hK => ?_) AllReadyH.nil
                    go_simp
                    obtain ⟨V3, HV3⟩ := named (V2.alloc (.cells #[.int .i64 nn] 3))
                    have HB3 : Hid (Below y1.heap.size y1 V3) := by rw [HV3.out]; exact (HB2.out.alloc HB2.out.size _)
                    have hx3 := HSX.out V3 HB3.out
                    rw [← HV3.out]
                    have HO3 : Hid (OwnI V3 y1.heap.size v1 ([] ++ L)) := by rw [HV3.out]; exact HO1.out.below ((Below.refl _ _).alloc (Nat.le_refl _) _)
                    have HC3 : Hid (V3.cell? ⟨V2.heap.size, 0, none⟩ = some (.int .i64 nn)) := by show _ = _; rw [HV3.out, cell_of (heap_new V2 _)]; rfl
                    refine hK.out _ _ hx3 (fun _ => ?_)
                    clear hK K
                    try simp only [Act.put, List.setIfInBounds_toArray, List.set_cons_zero, List.set_cons_succ]
                    refine wpAnyH_ready (rs := [9]) (by kernel_rfl) (by simp) ?_
                    refine AllReadyH.cons (o := { dst := some 134, op := Go.Op.call { callee := Go.Callee.builtin Go.Builtin.append, args := #[Go.Operand.tmp 130, Go.Operand.tmp 133], argTypes := #[22, 22] }, type := 22, pos := "outright.go:33", after := #[{ on := 5, ground := Go.Ground.data }, { on := 8, ground := Go.Ground.data }, { on := 5, ground := Go.Ground.chain }], guard := none }) rfl (fun K hK => ?_) AllReadyH.nil
                    obtain ⟨v2, V4, hr2, ho2, hb2⟩ := push_one HB3.out HO3.out HB3.out.size (Nat.le_refl _) HC3.out (by have := HLS.out; simp; omega)
                    have HR2 := hide hr2
                    have HO2 := hide ho2
                    have HB4 := hide hb2
                    have hx4 := HSX.out V4 hb2
                    clear hr2 ho2 hb2
                    refine step_append_runI rfl (.tmp 130) (.tmp 133) 22 22 rfl v1 (.slice (some ⟨V2.heap.size, 0, none⟩) 1 1) (by simp [Act.eval]) (by simp [Act.eval]) HR2.out ?_
                    refine hK.out _ _ hx4 (fun _ => ?_)
                    clear hK K
                    try simp only [Act.put, List.setIfInBounds_toArray, List.set_cons_zero, List.set_cons_succ]
                    refine wpAnyH_ready (rs := [10]) (by kernel_rfl) (by simp) ?_
                    refine AllReadyH.cons (o := { dst := none, op := Go.Op.mapUpdate 63 (Go.Operand.tmp 125) (Go.Operand.tmp 127) (Go.Operand.tmp 134), type := 0, pos := "outright.go:33", after := #[{ on := 0, ground := Go.Ground.data }, { on := 2, ground := Go.Ground.data }, { on := 9, ground := Go.Ground.data }, { on := 9, ground := Go.Ground.chain }, { on := 0, ground := Go.Ground.phase }, { on := 1, ground := Go.Ground.phase }, { on := 2, ground := Go.Ground.phase }, { on := 3, ground := Go.Ground.phase }, { on := 4, ground := Go.Ground.phase }, { on := 5, ground := Go.Ground.phase }, { on := 6, ground := Go.Ground.phase }, { on := 7, ground := Go.Ground.phase }, { on := 8, ground := Go.Ground.phase }, { on := 9, ground := Go.Ground.phase }], guard := none }) rfl (fun K hK => ?_) AllReadyH.nil
                    obtain ⟨w4, hr4, hor⟩ := HOM.out.lay (by omega) HRN.out HB4.out (Nat.le_refl _) (by have := HO2.out; rwa [List.nil_append] at this)
                    have HORF := hide hor
                    have hx5 : w4.cell? ⟨xb, 2, none⟩ = some (.string nm) ∧ w4.cell? ⟨xb, 1, none⟩ = some (.int .i64 nn) := by have hh := hor.op; exact ⟨by rw [cell_of hh]; rfl, by rw [cell_of hh]; rfl⟩
                    clear hor
                    go_simp
                    refine hK.out _ _ hx5 (fun _ => ?_)
                    clear hK K
                    try simp only [Act.put, List.setIfInBounds_toArray, List.set_cons_zero, List.set_cons_succ]
                    refine wpAnyH_done (by kernel_rfl) ?_ _
                    go_wp2_with fail
                    go_meet
                    exact HORF
                  case' b8_8 =>
                    go_simp
                    obtain ⟨V2, HV2⟩ := named (V1.alloc (.cells #[.int .i64 nn] 3))
                    have HB2 : Hid (Below y1.heap.size y1 V2) := by rw [HV2.out]; exact (HB1.out.alloc HB1.out.size _)
                    have hx2 := HSX.out V2 HB2.out
                    rw [← HV2.out]
                    have HE2 : Hid (OwnI V2 y1.heap.size (.slice (some ⟨y1.heap.size, 0, none⟩) 0 0) []) := by rw [HV2.out]; exact HE1.out.below ((Below.refl _ _).alloc (Nat.le_refl _) _)
                    have HC2 : Hid (V2.cell? ⟨V1.heap.size, 0, none⟩ = some (.int .i64 nn)) := by show _ = _; rw [HV2.out, cell_of (heap_new V1 _)]; rfl
                    have HL2 : Hid (V1.heap.size < V2.heap.size) := World.block_lt_of_cell? V2 _ HC2.out
                    refine hK.out _ _ hx2 (fun _ => ?_)
                    clear hK K
                    try simp only [Act.put, List.setIfInBounds_toArray, List.set_cons_zero, List.set_cons_succ]
                    refine wpAnyH_ready (rs := [5]) (by kernel_rfl) (by simp) ?_
                    refine AllReadyH.cons (o := { dst := some 130, op := Go.Op.call { callee := Go.Callee.builtin Go.Builtin.append, args := #[Go.Operand.tmp 128, Go.Operand.tmp 129], argTypes := #[22, 22] }, type := 22, pos := "outright.go:33", after := #[{ on := 3, ground := Go.Ground.data }, { on := 4, ground := Go.Ground.data }], guard := none }) rfl (fun K hK => ?_) AllReadyH.nil
                    obtain ⟨v1, V3, hr1, ho1, hb1, hg1⟩ := push_any HB2.out HE2.out HB2.out.size (Nat.le_refl _) HRD.out (by have := HLS.out; simp; omega)
                    have HR1 := hide hr1
                    have HO1 := hide ho1
                    have HB3 := hide hb1
                    have HG1 := hide hg1
                    have hx3 := HSX.out V3 hb1
                    clear hr1 ho1 hb1 hg1
                    have HC3 : Hid (V3.cell? ⟨V1.heap.size, 0, none⟩ = some (.int .i64 nn)) := by show _ = _; rw [World.cell?_of_block (w := V2) (HG1.out.block _ HL2.out fun e => by have h1 : y1.heap.size < V1.heap.size := (HE1.out.lt _ rfl).2; have h2 : V1.heap.size = y1.heap.size := Option.some.inj e; omega)]; exact HC2.out
                    refine step_append_runI rfl (.tmp 128) (.tmp 129) 22 22 rfl (.slice (some ⟨y1.heap.size, 0, none⟩) 0 0) (.slice lo L.length lc) (by simp [Act.eval]) (by simp [Act.eval]) HR1.out ?_
                    refine hK.out _ _ hx3 (fun _ => ?_)
                    clear hK K
                    try simp only [Act.put, List.setIfInBounds_toArray, List.set_cons_zero, List.set_cons_succ]
                    refine wpAnyH_ready (rs := [9]) (by kernel_rfl) (by simp) ?_
                    refine AllReadyH.cons (o := { dst := some 134, op := Go.Op.call { callee := Go.Callee.builtin Go.Builtin.append, args := #[Go.Operand.tmp 130, Go.Operand.tmp 133], argTypes := #[22, 22] }, type := 22, pos := "outright.go:33", after := #[{ on := 5, ground := Go.Ground.data }, { on := 8, ground := Go.Ground.data }, { on := 5, ground := Go.Ground.chain }], guard := none }) rfl (fun K hK => ?_) AllReadyH.nil
                    obtain ⟨v2, V4, hr2, ho2, hb2⟩ := push_one HB3.out HO1.out HB3.out.size (Nat.le_refl _) HC3.out (by have := HLS.out; simp; omega)
                    have HR2 := hide hr2
                    have HO2 := hide ho2
                    have HB4 := hide hb2
                    have hx4 := HSX.out V4 hb2
                    clear hr2 ho2 hb2
                    refine step_append_runI rfl (.tmp 130) (.tmp 133) 22 22 rfl v1 (.slice (some ⟨V1.heap.size, 0, none⟩) 1 1) (by simp [Act.eval]) (by simp [Act.eval]) HR2.out ?_
                    refine hK.out _ _ hx4 (fun _ => ?_)
                    clear hK K
                    try simp only [Act.put, List.setIfInBounds_toArray, List.set_cons_zero, List.set_cons_succ]
                    refine wpAnyH_ready (rs := [10]) (by kernel_rfl) (by simp) ?_
                    refine AllReadyH.cons (o := { dst := none, op := Go.Op.mapUpdate 63 (Go.Operand.tmp 125) (Go.Operand.tmp 127) (Go.Operand.tmp 134), type := 0, pos := "outright.go:33", after := #[{ on := 0, ground := Go.Ground.data }, { on := 2, ground := Go.Ground.data }, { on := 9, ground := Go.Ground.data }, { on := 9, ground := Go.Ground.chain }, { on := 0, ground := Go.Ground.phase }, { on := 1, ground := Go.Ground.phase }, { on := 2, ground := Go.Ground.phase }, { on := 3, ground := Go.Ground.phase }, { on := 4, ground := Go.Ground.phase }, { on := 5, ground := Go.Ground.phase }, { on := 6, ground := Go.Ground.phase }, { on := 7, ground := Go.Ground.phase }, { on := 8, ground := Go.Ground.phase }, { on := 9, ground := Go.Ground.phase }], guard := none }) rfl (fun K hK => ?_) AllReadyH.nil
                    obtain ⟨w4, hr4, hor⟩ := HOM.out.lay (by omega) HRN.out HB4.out (Nat.le_refl _) (by have := HO2.out; rwa [List.nil_append] at this)
                    have HORF := hide hor
                    have hx5 : w4.cell? ⟨xb, 2, none⟩ = some (.string nm) ∧ w4.cell? ⟨xb, 1, none⟩ = some (.int .i64 nn) := by have hh := hor.op; exact ⟨by rw [cell_of hh]; rfl, by rw [cell_of hh]; rfl⟩
                    clear hor
                    go_simp
                    refine hK.out _ _ hx5 (fun _ => ?_)
                    clear hK K
                    try simp only [Act.put, List.setIfInBounds_toArray, List.set_cons_zero, List.set_cons_succ]
                    refine wpAnyH_done (by kernel_rfl) ?_ _
                    go_wp2_with fail
                    go_meet
                    exact HORF
                case' b7_8 =>
                  go_simp
                  obtain ⟨V1, HV1⟩ := named ((y1.alloc (.cells #[.int .i64 nn] 3)).drew)
                  have HB1 : Hid (Below y1.heap.size y1 V1) := by rw [HV1.out]; exact ((Below.refl _ _).alloc (Nat.le_refl _) _).drew
                  have hx1 := HSX.out V1 HB1.out
                  rw [← HV1.out]
                  have HC1 : Hid (V1.cell? ⟨y1.heap.size, 0, none⟩ = some (.int .i64 nn)) := by show _ = _; rw [HV1.out]; show (y1.alloc _).cell? _ = _; rw [cell_of (heap_new y1 _)]; rfl
                  have HL1 : Hid (y1.heap.size < V1.heap.size) := World.block_lt_of_cell? V1 _ HC1.out
                  refine hK.out _ _ hx1 (fun _ => ?_)
                  clear hK K
                  try simp only [Act.put, List.setIfInBounds_toArray, List.set_cons_zero, List.set_cons_succ]
                  refine wpAnyH_ready (rs := [3]) (by kernel_rfl) (by simp) ?_
                  refine AllReadyH.cons (o := { dst := some 128, op := Go.Op.buildSlice 22 0 #[], type := 22, pos := "outright.go:33", after := #[], guard := none }) rfl (fun K hK => ?_) AllReadyH.nil
                  go_simp
                  obtain ⟨V2, HV2⟩ := named (V1.alloc (.cells #[] 3))
                  have HB2 : Hid (Below y1.heap.size y1 V2) := by rw [HV2.out]; exact (HB1.out.alloc HB1.out.size _)
                  have hx2 := HSX.out V2 HB2.out
                  rw [← HV2.out]
                  have HE2 : Hid (OwnI V2 V1.heap.size (.slice (some ⟨V1.heap.size, 0, none⟩) 0 0) []) := by rw [HV2.out]; exact OwnI.empty V1
                  have HC2 : Hid (V2.cell? ⟨y1.heap.size, 0, none⟩ = some (.int .i64 nn)) := by show _ = _; rw [HV2.out, World.cell?_of_block (w := V1) (((Below.refl V1.heap.size V1).alloc (Nat.le_refl _) _).block _ HL1.out)]; exact HC1.out
                  have HL2 : Hid (y1.heap.size < V2.heap.size) := World.block_lt_of_cell? V2 _ HC2.out
                  refine hK.out _ _ hx2 (fun _ => ?_)
                  clear hK K
                  try simp only [Act.put, List.setIfInBounds_toArray, List.set_cons_zero, List.set_cons_succ]
                  refine wpAnyH_ready (rs := [5]) (by kernel_rfl) (by simp) ?_
                  refine AllReadyH.cons (o := { dst := some 130, op := Go.Op.call { callee := Go.Callee.builtin Go.Builtin.append, args := #[Go.Operand.tmp 128, Go.Operand.tmp 129], argTypes := #[22, 22] }, type := 22, pos := "outright.go:33", after := #[{ on := 3, ground := Go.Ground.data }, { on := 4, ground := Go.Ground.data }], guard := none }) rfl (fun K hK => ?_) AllReadyH.nil
                  obtain ⟨v1, V3, hr1, ho1, hb1, hg1⟩ := push_any HB2.out HE2.out (Nat.le_of_lt (HE2.out.lt _ rfl).2) HB1.out.size HRD.out (by have := HLS.out; simp; omega)
                  have HR1 := hide hr1
                  have HO1 := hide ho1
                  have HB3 := hide hb1
                  have HG1 := hide hg1
                  have hx3 := HSX.out V3 hb1
                  clear hr1 ho1 hb1 hg1
                  have HC3 : Hid (V3.cell? ⟨y1.heap.size, 0, none⟩ = some (.int .i64 nn)) := by show _ = _; rw [World.cell?_of_block (w := V2) (HG1.out.block _ HL2.out fun e => by have h1 := HL1.out; have h2 : y1.heap.size = V1.heap.size := Option.some.inj e; omega)]; exact HC2.out
                  have HL3 : Hid (V1.heap.size ≤ V3.heap.size) := Nat.le_trans (Nat.le_of_lt (HE2.out.lt _ rfl).2) HG1.out.size
                  refine step_append_runI rfl (.tmp 128) (.tmp 129) 22 22 rfl (.slice (some ⟨V1.heap.size, 0, none⟩) 0 0) (.slice lo L.length lc) (by simp [Act.eval]) (by simp [Act.eval]) HR1.out ?_
                  refine hK.out _ _ hx3 (fun _ => ?_)
                  clear hK K
                  try simp only [Act.put, List.setIfInBounds_toArray, List.set_cons_zero, List.set_cons_succ]
                  refine wpAnyH_ready (rs := [9]) (by kernel_rfl) (by simp) ?_
                  refine AllReadyH.cons (o := { dst := some 134, op := Go.Op.call { callee := Go.Callee.builtin Go.Builtin.append, args := #[Go.Operand.tmp 130, Go.Operand.tmp 133], argTypes := #[22, 22] }, type := 22, pos := "outright.go:33", after := #[{ on := 5, ground := Go.Ground.data }, { on := 8, ground := Go.Ground.data }, { on := 5, ground := Go.Ground.chain }], guard := none }) rfl (fun K hK => ?_) AllReadyH.nil
                  obtain ⟨v2, V4, hr2, ho2, hb2⟩ := push_one HB3.out HO1.out HL3.out HB1.out.size HC3.out (by have := HLS.out; simp; omega)
                  have HR2 := hide hr2
                  have HO2 := hide ho2
                  have HB4 := hide hb2
                  have hx4 := HSX.out V4 hb2
                  clear hr2 ho2 hb2
                  refine step_append_runI rfl (.tmp 130) (.tmp 133) 22 22 rfl v1 (.slice (some ⟨y1.heap.size, 0, none⟩) 1 1) (by simp [Act.eval]) (by simp [Act.eval]) HR2.out ?_
                  refine hK.out _ _ hx4 (fun _ => ?_)
                  clear hK K
                  try simp only [Act.put, List.setIfInBounds_toArray, List.set_cons_zero, List.set_cons_succ]
                  refine wpAnyH_ready (rs := [10]) (by kernel_rfl) (by simp) ?_
                  refine AllReadyH.cons (o := { dst := none, op := Go.Op.mapUpdate 63 (Go.Operand.tmp 125) (Go.Operand.tmp 127) (Go.Operand.tmp 134), type := 0, pos := "outright.go:33", after := #[{ on := 0, ground := Go.Ground.data }, { on := 2, ground := Go.Ground.data }, { on := 9, ground := Go.Ground.data }, { on := 9, ground := Go.Ground.chain }, { on := 0, ground := Go.Ground.phase }, { on := 1, ground := Go.Ground.phase }, { on := 2, ground := Go.Ground.phase }, { on := 3, ground := Go.Ground.phase }, { on := 4, ground := Go.Ground.phase }, { on := 5, ground := Go.Ground.phase }, { on := 6, ground := Go.Ground.phase }, { on := 7, ground := Go.Ground.phase }, { on := 8, ground := Go.Ground.phase }, { on := 9, ground := Go.Ground.phase }], guard := none }) rfl (fun K hK => ?_) AllReadyH.nil
                  obtain ⟨w4, hr4, hor⟩ := HOM.out.lay (by omega) HRN.out HB4.out HB1.out.size (by have := HO2.out; rwa [List.nil_append] at this)
                  have HORF := hide hor
                  have hx5 : w4.cell? ⟨xb, 2, none⟩ = some (.string nm) ∧ w4.cell? ⟨xb, 1, none⟩ = some (.int .i64 nn) := by have hh := hor.op; exact ⟨by rw [cell_of hh]; rfl, by rw [cell_of hh]; rfl⟩
                  clear hor
                  go_simp
                  refine hK.out _ _ hx5 (fun _ => ?_)
                  clear hK K
                  try simp only [Act.put, List.setIfInBounds_toArray, List.set_cons_zero, List.set_cons_succ]
                  refine wpAnyH_done (by kernel_rfl) ?_ _
                  go_wp2_with fail
                  go_meet
                  exact HORF
              · have kp := kput nn
                rw [if_neg (fun h => hf h.1)] at kp
                have kp := kp (by omega)
                have hlI : ¬ (L.length : Int) < (S : Int) := by omega
                clear kput ktake ktake0 kdrop kdrop0
                go_wp2_with fail
                (with_reducible refine Calls.mono kp ?_)
                clear kp
                rintro e y1 ⟨rfl, hm⟩
                have g0 : y1.cell? ⟨xb, 0, none⟩ = some (.int .i64 kd) := by rw [cell_of hm.op]; rfl
                have HORF := hide (hm.more (Nat.le_succ k))
                clear hm f0 f1 f2
                go_wp2_with fail
                go_meet
                exact HORF
            · by_cases hk7 : kd ≤ 7
              · cases L with
                | nil =>
                  have kp := ktake0 rfl
                  clear kput ktake ktake0 kdrop kdrop0
                  go_wp2_with fail
                  (with_reducible refine Calls.mono kp ?_)
                  clear kp
                  rintro e y1 ⟨rfl, hm⟩
                  have HORF := hide (hm.more (Nat.le_succ k))
                  clear hm f0 f1 f2
                  go_wp2_with fail
                  go_meet
                  exact HORF
                | cons x t =>
                  have kp := ktake x t rfl
                  obtain ⟨b, off, e0, c0⟩ := hrd.at 0 (by simp)
                  subst e0
                  rw [Nat.add_zero] at c0
                  have hn : (x :: t).length = t.length + 1 := rfl
                  obtain ⟨hnc, hcm⟩ : t.length + 1 ≤ lc ∧ lc ≤ maxLen := by
                    obtain ⟨_, _, e, h1, h2, _⟩ := hrd
                    cases e
                    exact ⟨by rw [← hn]; exact h1, h2⟩
                  rw [hn] at kp hrd hLs ⊢
                  have hn0 : (0 : Int) < (t.length : Int) + 1 := by omega
                  have hn1 : (0 : Int) < ((t.length + 1 : Nat) : Int) := by omega
                  have hnI : ((t.length + 1 : Nat) : Int) ≤ (lc : Int) := by omega
                  have hn2 : (1 : Int) ≤ ((t.length + 1 : Nat) : Int) := by omega
                  have hn3 : (1 : Int) ≤ (t.length : Int) + 1 := by omega
                  have hn4 : (t.length : Int) + 1 ≤ (lc : Int) := by omega
                  have hcmI : (lc : Int) ≤ 9223372036854775807 := by unfold maxLen at hcm; omega
                  clear kput ktake ktake0 kdrop kdrop0
                  go_wp2_with fail
                  (with_reducible refine Calls.mono kp ?_)
                  clear kp
                  rintro e y1 ⟨rfl, hm⟩
                  have HSX : Hid (∀ x : World, Below y1.heap.size y1 x → x.cell? ⟨xb, 2, none⟩ = some (.string nm) ∧ x.cell? ⟨xb, 1, none⟩ = some (.int .i64 nn)) := fun x hx => by
                    have hh := (hx.block _ (lt_of hm.op)).trans hm.op
                    exact ⟨by rw [cell_of hh]; rfl, by rw [cell_of hh]; rfl⟩
                  have g0 : y1.cell? ⟨xb, 0, none⟩ = some (.int .i64 kd) := by rw [cell_of hm.op]; rfl
                  have g1 : y1.cell? ⟨xb, 1, none⟩ = some (.int .i64 nn) := by rw [cell_of hm.op]; rfl
                  have g2 : y1.cell? ⟨xb, 2, none⟩ = some (.string nm) := by rw [cell_of hm.op]; rfl
                  have hcut := hm.rd
                  rw [← hn] at hcut
                  have hcut := hcut.cutO 1
                  have c1 : y1.cell? ⟨b, off, none⟩ = some (.int .i64 x) := by
                    obtain ⟨b', off', e, c1⟩ := (show RdI y1 (.slice (some ⟨b, off, none⟩) (x :: t).length lc) (x :: t) by rw [hn]; exact hm.rd).at 0 (by simp)
                    cases e
                    exact c1
                  obtain ⟨av, HAV⟩ := named (if lc = 1 then some (⟨b, off, none⟩ : Addr) else some ⟨b, off + 1, none⟩)
                  have hav : (if lc = 1 then some (⟨b, off, none⟩ : Addr) else some ⟨b, off + 1, none⟩) = av := HAV.out.symm
                  have HST : Hid (∃ w', (Instr.mapUpdate 63 (.map (some hb)) (.string nm) (.slice av t.length (lc - 1))).run Try.prog y1.drew = .ok () w' ∧ OR w w' (.pointer (some ⟨rb, 0, none⟩)) S hb (k + 1) xb #[.int .i64 kd, .int .i64 nn, .string nm]) := by
                    rw [HAV.out]
                    refine hm.store (by omega) HRN.out ((Below.refl _ _).drew) (by rw [hn] at hcut; exact hcut) fun ao n' c' e => ?_
                    have hb9 := World.block_lt_of_cell? y1 _ c1
                    by_cases e1 : lc = 1
                    · rw [if_pos e1] at e
                      cases e
                      exact ⟨.inr ⟨_, _, ⟨b, off, none⟩, rfl, rfl⟩, hb9⟩
                    · rw [if_neg e1] at e
                      cases e
                      exact ⟨.inr ⟨_, _, ⟨b, off, none⟩, rfl, rfl⟩, hb9⟩
                  have hs0 : y1.cell? ⟨xb, 2, none⟩ = some (.string nm) ∧ y1.cell? ⟨xb, 1, none⟩ = some (.int .i64 nn) := ⟨g2, g1⟩
                  have HOM := hide hm
                  clear hm f0 f1 f2 c0 hcut
                  go_wp2_with fail
                  refine wp_region_held_drew (S := (fun u => u.cell? ⟨xb, 2, none⟩ = some (.string nm) ∧ u.cell? ⟨xb, 1, none⟩ = some (.int .i64 nn))) (by kernel_rfl) hs0 (fun _ => ?_)
                  refine wpAnyH_take (i := 0) (oi := { dst := some 162, op := Go.Op.move (Go.Operand.tmp 8), type := 63, pos := "outright.go:41", after := #[], guard := none }) (v := ?_) rfl (by kernel_rfl) (by kernel_rfl) (by kernel_rfl) (fun _ _ _ h => h) (Or.inl ⟨by rfl, ?hy19⟩) hs0 ?_
                  case hy19 =>
                    intro u hu
                    obtain ⟨u0, u1⟩ := hu
                    go_simp
                    try with_reducible rfl
                  simp only [Act.put, List.setIfInBounds_toArray, List.set_cons_zero, List.set_cons_succ]
                  refine wpAnyH_take (i := 1) (oi := { dst := some 163, op := Go.Op.fieldAddr 43 (Go.Operand.tmp 10) 2, type := 0, pos := "outright.go:41", after := #[], guard := none }) (v := ?_) rfl (by kernel_rfl) (by kernel_rfl) (by kernel_rfl) (fun _ _ _ h => h) (Or.inl ⟨by rfl, ?hy20⟩) hs0 ?_
                  case hy20 =>
                    intro u hu
                    obtain ⟨u0, u1⟩ := hu
                    go_simp
                    try with_reducible rfl
                  simp only [Act.put, List.setIfInBounds_toArray, List.set_cons_zero, List.set_cons_succ]
                  refine wpAnyH_take (i := 2) (oi := { dst := some 164, op := Go.Op.load 9 (Go.Operand.tmp 163), type := 9, pos := "outright.go:41", after := #[{ on := 1, ground := Go.Ground.data }], guard := none }) (v := ?_) rfl (by kernel_rfl) (by kernel_rfl) (by kernel_rfl) (fun _ _ _ h => h) (Or.inl ⟨by rfl, ?hy21⟩) hs0 ?_
                  case hy21 =>
                    intro u hu
                    obtain ⟨u0, u1⟩ := hu
                    go_simp
                    try with_reducible rfl
                  simp only [Act.put, List.setIfInBounds_toArray, List.set_cons_zero, List.set_cons_succ]
                  refine wpAnyH_take (i := 3) (oi := { dst := some 165, op := Go.Op.move (Go.Operand.tmp 11), type := 22, pos := "outright.go:41", after := #[], guard := none }) (v := ?_) rfl (by kernel_rfl) (by kernel_rfl) (by kernel_rfl) (fun _ _ _ h => h) (Or.inl ⟨by rfl, ?hy22⟩) hs0 ?_
                  case hy22 =>
                    intro u hu
                    obtain ⟨u0, u1⟩ := hu
                    go_simp
                    try with_reducible rfl
                  simp only [Act.put, List.setIfInBounds_toArray, List.set_cons_zero, List.set_cons_succ]
                  refine wpAnyH_take (i := 4) (oi := { dst := some 166, op := Go.Op.slice 22 (Go.Operand.tmp 165) (some (Go.Operand.const (Go.Value.int Go.IntKind.i64 1))) none none, type := 22, pos := "outright.go:41", after := #[{ on := 3, ground := Go.Ground.data }], guard := none }) (v := ?_) rfl (by kernel_rfl) (by kernel_rfl) (by kernel_rfl) (fun _ _ _ h => h) (Or.inl ⟨by rfl, ?hy23⟩) hs0 ?_
                  case hy23 =>
                    intro u hu
                    obtain ⟨u0, u1⟩ := hu
                    go_simp
                    try with_reducible rfl
                  simp only [Act.put, List.setIfInBounds_toArray, List.set_cons_zero, List.set_cons_succ]
                  refine wpAnyH_ready (rs := [5]) (by kernel_rfl) (by simp) ?_
                  refine AllReadyH.cons (o := { dst := none, op := Go.Op.mapUpdate 63 (Go.Operand.tmp 162) (Go.Operand.tmp 164) (Go.Operand.tmp 166), type := 0, pos := "outright.go:41", after := #[{ on := 0, ground := Go.Ground.data }, { on := 2, ground := Go.Ground.data }, { on := 4, ground := Go.Ground.data }, { on := 0, ground := Go.Ground.phase }, { on := 1, ground := Go.Ground.phase }, { on := 2, ground := Go.Ground.phase }, { on := 3, ground := Go.Ground.phase }, { on := 4, ground := Go.Ground.phase }], guard := none }) rfl (fun K hK => ?_) AllReadyH.nil
                  obtain ⟨w4, hr4, hor⟩ := HST.out
                  have HORF := hide hor
                  have hx5 : w4.cell? ⟨xb, 2, none⟩ = some (.string nm) ∧ w4.cell? ⟨xb, 1, none⟩ = some (.int .i64 nn) := by have hh := hor.op; exact ⟨by rw [cell_of hh]; rfl, by rw [cell_of hh]; rfl⟩
                  clear hor
                  go_simp
                  refine hK.out _ _ hx5 (fun _ => ?_)
                  clear hK K
                  try simp only [Act.put, List.setIfInBounds_toArray, List.set_cons_zero, List.set_cons_succ]
                  refine wpAnyH_done (by kernel_rfl) ?_ _
                  go_wp2_with fail
                  all_goals (go_meet; exact HORF)
              · clear kput ktake ktake0 kdrop kdrop0
                obtain ⟨hnc, hcm⟩ : L.length ≤ lc ∧ lc ≤ maxLen := by
                  obtain ⟨_, _, e, h1, h2, _⟩ := hrd
                  cases e
                  exact ⟨h1, h2⟩
                have hnI : (L.length : Int) ≤ (lc : Int) := by omega
                have hcmI : (lc : Int) ≤ 9223372036854775807 := by unfold maxLen at hcm; omega
                clear hlk hrd
                go_wp2_with fail
                go_loopw [15, 16] (fun av iv wy => ∃ (j : Nat) (i a : Int), j ≤ L.length ∧ i + 1 = (j : Int) ∧ iv = .int .i64 i ∧ av = .int .i64 a ∧ Hid (AT L nn j a) ∧ Hid (Below X.heap.size X wy)) (fun _ iv _ => (intOf iv + 1).toNat)
                case atStart => exact ⟨L.length, (L.length : Int) - 1, -1, Nat.le_refl _, by omega, by go_num, rfl, AT.start L nn, hide (Below.refl _ _)⟩
                case round =>
                  obtain ⟨j, i, a, hj, hij, rfl, rfl, HAT, HBX⟩ := hrel
                  have hopw := (HBX.out.block _ (lt_of HOR.out.op)).trans HOR.out.op
                  have w0f : wr.cell? ⟨xb, 0, none⟩ = some (.int .i64 kd) := by rw [cell_of hopw]; rfl
                  have w1f : wr.cell? ⟨xb, 1, none⟩ = some (.int .i64 nn) := by rw [cell_of hopw]; rfl
                  have w2f : wr.cell? ⟨xb, 2, none⟩ = some (.string nm) := by rw [cell_of hopw]; rfl
                  clear f0 f1 f2 hopw
                  cases j with
                  | zero =>
                    obtain rfl : i = -1 := by omega
                    rcases HAT.out.done with ⟨rfl, hni⟩ | ⟨t, rfl, htl, hin, her⟩
                    · have kp := (HLKB.out wr HBX.out).2.2.2.2.2.2.1 nn hni
                      clear hni
                      go_wp2_with fail
                      (with_reducible refine Calls.mono kp ?_)
                      clear kp
                      rintro e y1 ⟨rfl, hm⟩
                      have HORF := hide (hm.more (Nat.le_succ k))
                      clear hm w0f w1f w2f
                      go_wp2_with fail
                      go_meet
                      exact HORF
                    · have kp := (HLKB.out wr HBX.out).2.2.2.2.2.1 nn hin
                      have ht0 : (0 : Int) ≤ (t : Int) := by omega
                      have HER := hide her
                      clear hin her
                      go_wp2_with fail
                      (with_reducible refine Calls.mono kp ?_)
                      clear kp
                      rintro e y1 ⟨rfl, hm⟩
                      have HSX : Hid (∀ x : World, Below y1.heap.size y1 x → x.cell? ⟨xb, 2, none⟩ = some (.string nm) ∧ x.cell? ⟨xb, 1, none⟩ = some (.int .i64 nn)) := fun x hx => by
                        have hh := (hx.block _ (lt_of hm.op)).trans hm.op
                        exact ⟨by rw [cell_of hh]; rfl, by rw [cell_of hh]; rfl⟩
                      have g0 : y1.cell? ⟨xb, 0, none⟩ = some (.int .i64 kd) := by rw [cell_of hm.op]; rfl
                      have g1 : y1.cell? ⟨xb, 1, none⟩ = some (.int .i64 nn) := by rw [cell_of hm.op]; rfl
                      have g2 : y1.cell? ⟨xb, 2, none⟩ = some (.string nm) := by rw [cell_of hm.op]; rfl
                      have HRDX0 : Hid (∀ x : World, Below y1.heap.size y1 x → RdI x (.slice lo L.length lc) L) := fun x hx => hm.rd.below hx
                      obtain ⟨b, off, eb, -⟩ := hm.rd.at t htl
                      subst eb
                      obtain ⟨V1, HV1⟩ := named ((y1.alloc (.cells #[] 3)).drew)
                      have hb1 : Below y1.heap.size y1 V1 := by rw [HV1.out]; exact ((Below.refl _ _).alloc (Nat.le_refl _) _).drew
                      have he1 : OwnI V1 y1.heap.size (.slice (some ⟨y1.heap.size, 0, none⟩) 0 0) [] := by rw [HV1.out]; exact (OwnI.empty y1).heap fun _ _ => rfl
                      obtain ⟨v1, V2, hr1, ho1, hb2, -⟩ := push_any hb1 he1 hb1.size (Nat.le_refl _) (fun x h => (HRDX0.out x h).cut1 (p := t) (by omega)) (by rw [List.length_take]; have := HLS.out; simp; omega)
                      obtain ⟨jj, HJJ⟩ := named (t + 1)
                      obtain ⟨v2, V3, hr2, ho2, hb3, -⟩ := push_any hb2 ho1 hb2.size (Nat.le_refl _) (fun x h => (HRDX0.out x h).cutO jj) (by have := HLS.out; rw [List.nil_append, List.length_take, List.length_drop]; omega)
                      obtain ⟨w4, hr4, hor⟩ := hm.lay (by omega) HRN.out hb3 (Nat.le_refl _) (by rw [HER.out, ← HJJ.out]; rwa [List.nil_append] at ho2)
                      obtain ⟨av, HAV⟩ := named (if lc = jj then some (⟨b, off, none⟩ : Addr) else some ⟨b, off + jj, none⟩)
                      have hav : (if lc = jj then some (⟨b, off, none⟩ : Addr) else some ⟨b, off + jj, none⟩) = av := HAV.out.symm
                      rw [← HAV.out] at hr2
                      have HX1 := hide (HSX.out V1 hb1)
                      have HX2 := hide (HSX.out V2 hb2)
                      have HX3 := hide (HSX.out V3 hb3)
                      have HX5 : Hid (w4.cell? ⟨xb, 2, none⟩ = some (.string nm) ∧ w4.cell? ⟨xb, 1, none⟩ = some (.int .i64 nn)) := by have hh := hor.op; exact ⟨by rw [cell_of hh]; rfl, by rw [cell_of hh]; rfl⟩
                      have HR1 := hide hr1
                      have HR2 := hide hr2
                      have HR4 := hide hr4
                      have HORF := hide hor
                      have hjm : (t : Int) ≤ (lc : Int) := by omega
                      have hj1 : (jj : Int) ≤ (L.length : Int) := by have := HJJ.out; omega
                      have hj2 : (0 : Int) ≤ (jj : Int) := by omega
                      have HWR : Hid (IntKind.i64.wrap ((t : Int) + 1) = (jj : Int)) := by show _ = _; rw [IntKind.wrap_i64]; have := HJJ.out; omega
                      have hs0 : y1.cell? ⟨xb, 2, none⟩ = some (.string nm) ∧ y1.cell? ⟨xb, 1, none⟩ = some (.int .i64 nn) := ⟨g2, g1⟩
                      clear hm w0f w1f w2f hb1 he1 hr1 ho1 hb2 hr2 ho2 hb3 hr4 hor
                      go_wp2_with fail
                      have hwr := HWR.out
                      refine wp_region_held_drew (S := (fun u => u.cell? ⟨xb, 2, none⟩ = some (.string nm) ∧ u.cell? ⟨xb, 1, none⟩ = some (.int .i64 nn))) (by kernel_rfl) hs0 (fun _ => ?_)
                      refine wpAnyH_take (i := 0) (oi := { dst := some 85, op := Go.Op.move (Go.Operand.tmp 8), type := 63, pos := "outright.go:54", after := #[], guard := none }) (v := ?_) rfl (by kernel_rfl) (by kernel_rfl) (by kernel_rfl) (fun _ _ _ h => h) (Or.inl ⟨by rfl, ?hy25⟩) hs0 ?_
                      case hy25 =>
                        intro u hu
                        obtain ⟨u0, u1⟩ := hu
                        go_simp
                        try with_reducible rfl
                      simp only [Act.put, List.setIfInBounds_toArray, List.set_cons_zero, List.set_cons_succ]
                      refine wpAnyH_take (i := 1) (oi := { dst := some 86, op := Go.Op.fieldAddr 43 (Go.Operand.tmp 10) 2, type := 0, pos := "outright.go:54", after := #[], guard := none }) (v := ?_) rfl (by kernel_rfl) (by kernel_rfl) (by kernel_rfl) (fun _ _ _ h => h) (Or.inl ⟨by rfl, ?hy26⟩) hs0 ?_
                      case hy26 =>
                        intro u hu
                        obtain ⟨u0, u1⟩ := hu
                        go_simp
                        try with_reducible rfl
                      simp only [Act.put, List.setIfInBounds_toArray, List.set_cons_zero, List.set_cons_succ]
                      refine wpAnyH_take (i := 2) (oi := { dst := some 87, op := Go.Op.load 9 (Go.Operand.tmp 86), type := 9, pos := "outright.go:54", after := #[{ on := 1, ground := Go.Ground.data }], guard := none }) (v := ?_) rfl (by kernel_rfl) (by kernel_rfl) (by kernel_rfl) (fun _ _ _ h => h) (Or.inl ⟨by rfl, ?hy27⟩) hs0 ?_
                      case hy27 =>
                        intro u hu
                        obtain ⟨u0, u1⟩ := hu
                        go_simp
                        try with_reducible rfl
                      simp only [Act.put, List.setIfInBounds_toArray, List.set_cons_zero, List.set_cons_succ]
                      refine wpAnyH_take (i := 4) (oi := { dst := some 89, op := Go.Op.move (Go.Operand.tmp 11), type := 22, pos := "outright.go:54", after := #[], guard := none }) (v := ?_) rfl (by kernel_rfl) (by kernel_rfl) (by kernel_rfl) (fun _ _ _ h => h) (Or.inl ⟨by rfl, ?hy28⟩) hs0 ?_
                      case hy28 =>
                        intro u hu
                        obtain ⟨u0, u1⟩ := hu
                        go_simp
                        try with_reducible rfl
                      simp only [Act.put, List.setIfInBounds_toArray, List.set_cons_zero, List.set_cons_succ]
                      refine wpAnyH_take (i := 5) (oi := { dst := some 90, op := Go.Op.move (Go.Operand.tmp 15), type := 3, pos := "outright.go:54", after := #[], guard := none }) (v := ?_) rfl (by kernel_rfl) (by kernel_rfl) (by kernel_rfl) (fun _ _ _ h => h) (Or.inl ⟨by rfl, ?hy29⟩) hs0 ?_
                      case hy29 =>
                        intro u hu
                        obtain ⟨u0, u1⟩ := hu
                        go_simp
                        try with_reducible rfl
                      simp only [Act.put, List.setIfInBounds_toArray, List.set_cons_zero, List.set_cons_succ]
                      refine wpAnyH_take (i := 6) (oi := { dst := some 91, op := Go.Op.slice 22 (Go.Operand.tmp 89) none (some (Go.Operand.tmp 90)) none, type := 22, pos := "outright.go:54", after := #[{ on := 4, ground := Go.Ground.data }, { on := 5, ground := Go.Ground.data }], guard := none }) (v := ?_) rfl (by kernel_rfl) (by kernel_rfl) (by kernel_rfl) (fun _ _ _ h => h) (Or.inl ⟨by rfl, ?hy30⟩) hs0 ?_
                      case hy30 =>
                        intro u hu
                        obtain ⟨u0, u1⟩ := hu
                        go_simp
                        try with_reducible rfl
                      simp only [Act.put, List.setIfInBounds_toArray, List.set_cons_zero, List.set_cons_succ]
                      refine wpAnyH_take (i := 8) (oi := { dst := some 93, op := Go.Op.move (Go.Operand.tmp 11), type := 22, pos := "outright.go:54", after := #[], guard := none }) (v := ?_) rfl (by kernel_rfl) (by kernel_rfl) (by kernel_rfl) (fun _ _ _ h => h) (Or.inl ⟨by rfl, ?hy31⟩) hs0 ?_
                      case hy31 =>
                        intro u hu
                        obtain ⟨u0, u1⟩ := hu
                        go_simp
                        try with_reducible rfl
                      simp only [Act.put, List.setIfInBounds_toArray, List.set_cons_zero, List.set_cons_succ]
                      refine wpAnyH_take (i := 9) (oi := { dst := some 94, op := Go.Op.move (Go.Operand.tmp 15), type := 3, pos := "outright.go:54", after := #[], guard := none }) (v := ?_) rfl (by kernel_rfl) (by kernel_rfl) (by kernel_rfl) (fun _ _ _ h => h) (Or.inl ⟨by rfl, ?hy32⟩) hs0 ?_
                      case hy32 =>
                        intro u hu
                        obtain ⟨u0, u1⟩ := hu
                        go_simp
                        try with_reducible rfl
                      simp only [Act.put, List.setIfInBounds_toArray, List.set_cons_zero, List.set_cons_succ]
                      refine wpAnyH_take (i := 10) (oi := { dst := some 95, op := Go.Op.binOp Go.BinOp.add 3 (Go.Operand.tmp 94) (Go.Operand.const (Go.Value.int Go.IntKind.i64 1)) 3, type := 3, pos := "outright.go:54", after := #[{ on := 9, ground := Go.Ground.data }], guard := none }) (v := ?_) rfl (by kernel_rfl) (by kernel_rfl) (by kernel_rfl) (fun _ _ _ h => h) (Or.inl ⟨by rfl, ?hy33⟩) hs0 ?_
                      case hy33 =>
                        intro u hu
                        obtain ⟨u0, u1⟩ := hu
                        go_simp
                        try with_reducible rfl
                      simp only [Act.put, List.setIfInBounds_toArray, List.set_cons_zero, List.set_cons_succ]
                      refine wpAnyH_take (i := 11) (oi := { dst := some 96, op := Go.Op.slice 22 (Go.Operand.tmp 93) (some (Go.Operand.tmp 95)) none none, type := 22, pos := "outright.go:54", after := #[{ on := 8, ground := Go.Ground.data }, { on := 10, ground := Go.Ground.data }], guard := none }) (v := ?_) rfl (by kernel_rfl) (by kernel_rfl) (by kernel_rfl) (fun _ _ _ h => h) (Or.inl ⟨by rfl, ?hy34⟩) hs0 ?_
                      case hy34 =>
                        intro u hu
                        obtain ⟨u0, u1⟩ := hu
                        go_simp
                        try with_reducible rfl
                      simp only [Act.put, List.setIfInBounds_toArray, List.set_cons_zero, List.set_cons_succ]
                      refine wpAnyH_ready (rs := [3]) (by kernel_rfl) (by simp) ?_
                      refine AllReadyH.cons (o := { dst := some 88, op := Go.Op.buildSlice 22 0 #[], type := 22, pos := "outright.go:54", after := #[], guard := none }) rfl (fun K hK => ?_) AllReadyH.nil
                      go_simp
                      rw [← HV1.out]
                      refine hK.out _ _ HX1.out (fun _ => ?_)
                      clear hK K
                      try simp only [Act.put, List.setIfInBounds_toArray, List.set_cons_zero, List.set_cons_succ]
                      refine wpAnyH_ready (rs := [7]) (by kernel_rfl) (by simp) ?_
                      refine AllReadyH.cons (o := { dst := some 92, op := Go.Op.call { callee := Go.Callee.builtin Go.Builtin.append, args := #[Go.Operand.tmp 88, Go.Operand.tmp 91], argTypes := #[22, 22] }, type := 22, pos := "outright.go:54", after := #[{ on := 3, ground := Go.Ground.data }, { on := 6, ground := Go.Ground.data }], guard := none }) rfl (fun K hK => ?_) AllReadyH.nil
                      refine step_append_runI rfl (.tmp 88) (.tmp 91) 22 22 rfl (.slice (some ⟨y1.heap.size, 0, none⟩) 0 0) (.slice (some ⟨b, off, none⟩) t lc) (by simp [Act.eval]) (by simp [Act.eval]) HR1.out ?_
                      refine hK.out _ _ HX2.out (fun _ => ?_)
                      clear hK K
                      try simp only [Act.put, List.setIfInBounds_toArray, List.set_cons_zero, List.set_cons_succ]
                      refine wpAnyH_ready (rs := [12]) (by kernel_rfl) (by simp) ?_
                      refine AllReadyH.cons (o := { dst := some 97, op := Go.Op.call { callee := Go.Callee.builtin Go.Builtin.append, args := #[Go.Operand.tmp 92, Go.Operand.tmp 96], argTypes := #[22, 22] }, type := 22, pos := "outright.go:54", after := #[{ on := 7, ground := Go.Ground.data }, { on := 11, ground := Go.Ground.data }, { on := 7, ground := Go.Ground.chain }], guard := none }) rfl (fun K hK => ?_) AllReadyH.nil
                      refine step_append_runI rfl (.tmp 92) (.tmp 96) 22 22 rfl v1 (.slice av (L.length - jj) (lc - jj)) (by simp [Act.eval]) (by simp [Act.eval]) HR2.out ?_
                      refine hK.out _ _ HX3.out (fun _ => ?_)
                      clear hK K
                      try simp only [Act.put, List.setIfInBounds_toArray, List.set_cons_zero, List.set_cons_succ]
                      refine wpAnyH_ready (rs := [13]) (by kernel_rfl) (by simp) ?_
                      refine AllReadyH.cons (o := { dst := none, op := Go.Op.mapUpdate 63 (Go.Operand.tmp 85) (Go.Operand.tmp 87) (Go.Operand.tmp 97), type := 0, pos := "outright.go:54", after := #[{ on := 0, ground := Go.Ground.data }, { on := 2, ground := Go.Ground.data }, { on := 12, ground := Go.Ground.data }, { on := 12, ground := Go.Ground.chain }, { on := 0, ground := Go.Ground.phase }, { on := 1, ground := Go.Ground.phase }, { on := 2, ground := Go.Ground.phase }, { on := 3, ground := Go.Ground.phase }, { on := 4, ground := Go.Ground.phase }, { on := 5, ground := Go.Ground.phase }, { on := 6, ground := Go.Ground.phase }, { on := 7, ground := Go.Ground.phase }, { on := 8, ground := Go.Ground.phase }, { on := 9, ground := Go.Ground.phase }, { on := 10, ground := Go.Ground.phase }, { on := 11, ground := Go.Ground.phase }, { on := 12, ground := Go.Ground.phase }], guard := none }) rfl (fun K hK => ?_) AllReadyH.nil
                      have hr4 := HR4.out
                      go_simp
                      refine hK.out _ _ HX5.out (fun _ => ?_)
                      clear hK K
                      try simp only [Act.put, List.setIfInBounds_toArray, List.set_cons_zero, List.set_cons_succ]
                      refine wpAnyH_done (by kernel_rfl) ?_ _
                      clear hwr
                      go_wp2_with fail
                      all_goals (go_meet; exact HORF)
                  | succ m =>
                    obtain rfl : i = (m : Int) := by omega
                    have hml : m < L.length := hj
                    have hrd := (HLKB.out wr HBX.out).2.1
                    obtain ⟨b, off, eb, c0⟩ := hrd.at m hml
                    subst eb
                    obtain ⟨x, HX9⟩ := named L[m]
                    rw [← HX9.out] at c0
                    have hmI : (m : Int) < (L.length : Int) := by omega
                    have hm0 : (0 : Int) ≤ (m : Int) := by omega
                    clear hrd
                    by_cases hx : x = nn
                    · have hxB : (x == nn) = true := by simpa using hx
                      go_wp2_with fail
                      go_quiet (fail)
                      go_wp2_with fail
                      go_roundw
                      case rel => exact ⟨m, (m : Int) - 1, (m : Int), by omega, by omega, by go_num, rfl, AT.hit (by rw [List.getElem?_eq_getElem hml, ← HX9.out, hx]), hide (by first | exact HBX.out | exact HBX.out.drew | exact ⟨HBX.out.os, HBX.out.tape, HBX.out.output, HBX.out.size, HBX.out.block⟩)⟩
                      case measure => simp [intOf]
                    · have hxB : (x == nn) = false := beq_eq_false_iff_ne.2 hx
                      go_wp2_with fail
                      go_quiet (fail)
                      go_wp2_with fail
                      go_roundw
                      case rel => exact ⟨m, (m : Int) - 1, a, by omega, by omega, by go_num, rfl, HAT.out.miss (by rw [List.getElem?_eq_getElem hml, ← HX9.out]; exact fun e => hx (Option.some.inj e)), hide (by first | exact HBX.out | exact HBX.out.drew | exact ⟨HBX.out.os, HBX.out.tape, HBX.out.output, HBX.out.size, HBX.out.block⟩)⟩
                      case measure => simp [intOf]
          case rest =>
            have HX1 := hcut
            clear hcut
            have hop := HX1.out.op
            have g2 : wc.cell? ⟨xb, 2, none⟩ = some (.string nm) := by rw [cell_of hop]; rfl
            have g1 : wc.cell? ⟨xb, 1, none⟩ = some (.int .i64 nn) := by rw [cell_of hop]; rfl
            have hs0 : wc.cell? ⟨xb, 2, none⟩ = some (.string nm) ∧ wc.cell? ⟨xb, 1, none⟩ = some (.int .i64 nn) := ⟨g2, g1⟩
            have HSX : Hid (∀ x : World, Below wc.heap.size wc x → x.cell? ⟨xb, 2, none⟩ = some (.string nm) ∧ x.cell? ⟨xb, 1, none⟩ = some (.int .i64 nn)) := fun x hx => by
              have hh := (hx.block _ (lt_of hop)).trans hop
              exact ⟨by rw [cell_of hh]; rfl, by rw [cell_of hh]; rfl⟩
            obtain ⟨v9, n9, hn9, htl⟩ := HX1.out.tail nm HRN.out
            have HTL := hide htl
            have HOR2 := HX1
            have hd1 : decide ((S : Int) < (n9 : Int)) = false := decide_eq_false (by omega)
            have hd0 : decide (S < n9) = false := decide_eq_false (by omega)
            have hd2 : ¬ (S : Int) < (n9 : Int) := by omega
            have hd3 : IntKind.i64.wrap ((n9 : Int) + ((S - n9 : Nat) : Int)) = (S : Int) := by rw [IntKind.wrap_i64] <;> omega
            clear htl hop f0 f1 f2 hrd hlk
            clear kput ktake ktake0 kdrop kdrop0
            go_wp2_with fail
            refine wp_region_held_drew (S := (fun u => u.cell? ⟨xb, 2, none⟩ = some (.string nm) ∧ u.cell? ⟨xb, 1, none⟩ = some (.int .i64 nn))) (by kernel_rfl) hs0 (fun _ => ?_)
            refine wpAnyH_take (i := 0) (oi := { dst := some 167, op := Go.Op.move (Go.Operand.tmp 6), type := 23, pos := "outright.go:57", after := #[], guard := none }) (v := ?_) rfl (by kernel_rfl) (by kernel_rfl) (by kernel_rfl) (fun _ _ _ h => h) (Or.inl ⟨by rfl, ?hy39⟩) hs0 ?_
            case hy39 =>
              intro u hu
              obtain ⟨u0, u1⟩ := hu
              go_simp
              try with_reducible rfl
            simp only [Act.put, List.setIfInBounds_toArray, List.set_cons_zero, List.set_cons_succ]
            refine wpAnyH_take (i := 1) (oi := { dst := some 168, op := Go.Op.fieldAddr 43 (Go.Operand.tmp 10) 2, type := 0, pos := "outright.go:57", after := #[], guard := none }) (v := ?_) rfl (by kernel_rfl) (by kernel_rfl) (by kernel_rfl) (fun _ _ _ h => h) (Or.inl ⟨by rfl, ?hy40⟩) hs0 ?_
            case hy40 =>
              intro u hu
              obtain ⟨u0, u1⟩ := hu
              go_simp
              try with_reducible rfl
            simp only [Act.put, List.setIfInBounds_toArray, List.set_cons_zero, List.set_cons_succ]
            refine wpAnyH_take (i := 2) (oi := { dst := some 169, op := Go.Op.load 9 (Go.Operand.tmp 168), type := 9, pos := "outright.go:57", after := #[{ on := 1, ground := Go.Ground.data }], guard := none }) (v := ?_) rfl (by kernel_rfl) (by kernel_rfl) (by kernel_rfl) (fun _ _ _ h => h) (Or.inl ⟨by rfl, ?hy41⟩) hs0 ?_
            case hy41 =>
              intro u hu
              obtain ⟨u0, u1⟩ := hu
              go_simp
              try with_reducible rfl
            simp only [Act.put, List.setIfInBounds_toArray, List.set_cons_zero, List.set_cons_succ]
            refine wpAnyH_take (i := 4) (oi := { dst := some 171, op := Go.Op.move (Go.Operand.tmp 5), type := 3, pos := "outright.go:57", after := #[], guard := none }) (v := ?_) rfl (by kernel_rfl) (by kernel_rfl) (by kernel_rfl) (fun _ _ _ h => h) (Or.inl ⟨by rfl, ?hy42⟩) hs0 ?_
            case hy42 =>
              intro u hu
              obtain ⟨u0, u1⟩ := hu
              go_simp
              try with_reducible rfl
            simp only [Act.put, List.setIfInBounds_toArray, List.set_cons_zero, List.set_cons_succ]
            refine wpAnyH_ready (rs := [3]) (by kernel_rfl) (by simp) ?_
            refine AllReadyH.cons (o := { dst := some 170, op := Go.Op.call { callee := Go.Callee.value (Go.Operand.func 18), args := #[Go.Operand.tmp 167, Go.Operand.tmp 169], argTypes := #[23, 9] }, type := 3, pos := "outright.go:57", after := #[{ on := 0, ground := Go.Ground.data }, { on := 2, ground := Go.Ground.data }], guard := none }) rfl (fun K hK => ?_) AllReadyH.nil
            go_simp
            (with_reducible refine Calls.mono (HTL.out _ (show Below wc.heap.size wc wc.drew from (Below.refl _ _).drew)).1 ?_)
            rintro e y1 ⟨rfl, hb⟩
            have HB1 : Hid (Below wc.heap.size wc y1) := ⟨hb.os, hb.tape, hb.output, hb.size, hb.block⟩
            have hx1 := HSX.out y1 HB1.out
            clear hb
            refine hK.out _ _ hx1 (fun _ => ?_)
            clear hK K
            try simp only [Act.put, List.setIfInBounds_toArray, List.set_cons_zero, List.set_cons_succ]
            refine wpAnyH_take (i := 5) (oi := { dst := some 172, op := Go.Op.binOp Go.BinOp.gtr 3 (Go.Operand.tmp 170) (Go.Operand.tmp 171) 3, type := 4, pos := "outright.go:57", after := #[{ on := 3, ground := Go.Ground.data }, { on := 4, ground := Go.Ground.data }], guard := none }) (v := ?_) rfl (by kernel_rfl) (by kernel_rfl) (by kernel_rfl) (fun _ _ _ h => h) (Or.inl ⟨by rfl, ?hy44⟩) hx1 ?_
            case hy44 =>
              intro u hu
              obtain ⟨u0, u1⟩ := hu
              go_simp
              try with_reducible rfl
            simp only [Act.put, List.setIfInBounds_toArray, List.set_cons_zero, List.set_cons_succ]
            refine wpAnyH_take (i := 6) (oi := { dst := some 173, op := Go.Op.move (Go.Operand.tmp 172), type := 4, pos := "outright.go:57", after := #[{ on := 5, ground := Go.Ground.data }, { on := 3, ground := Go.Ground.chain }], guard := none }) (v := ?_) rfl (by kernel_rfl) (by kernel_rfl) (by kernel_rfl) (fun _ _ _ h => h) (Or.inl ⟨by rfl, ?hy45⟩) hx1 ?_
            case hy45 =>
              intro u hu
              obtain ⟨u0, u1⟩ := hu
              go_simp
              try with_reducible rfl
            simp only [Act.put, List.setIfInBounds_toArray, List.set_cons_zero, List.set_cons_succ]
            refine wpAnyH_take (i := 7) (oi := { dst := some 174, op := Go.Op.move (Go.Operand.tmp 6), type := 23, pos := "outright.go:57", after := #[{ on := 6, ground := Go.Ground.guard }], guard := some (6, false) }) (v := ?_) rfl (by kernel_rfl) (by kernel_rfl) (by kernel_rfl) (fun _ _ _ h => h) (Or.inl ⟨by rfl, ?hy46⟩) hx1 ?_
            case hy46 =>
              intro u hu
              obtain ⟨u0, u1⟩ := hu
              go_simp
              try with_reducible rfl
            simp only [Act.put, List.setIfInBounds_toArray, List.set_cons_zero, List.set_cons_succ]
            refine wpAnyH_take (i := 8) (oi := { dst := some 175, op := Go.Op.fieldAddr 43 (Go.Operand.tmp 10) 2, type := 0, pos := "outright.go:57", after := #[{ on := 6, ground := Go.Ground.guard }], guard := some (6, false) }) (v := ?_) rfl (by kernel_rfl) (by kernel_rfl) (by kernel_rfl) (fun _ _ _ h => h) (Or.inl ⟨by rfl, ?hy47⟩) hx1 ?_
            case hy47 =>
              intro u hu
              obtain ⟨u0, u1⟩ := hu
              go_simp
              try with_reducible rfl
            simp only [Act.put, List.setIfInBounds_toArray, List.set_cons_zero, List.set_cons_succ]
            refine wpAnyH_take (i := 9) (oi := { dst := some 176, op := Go.Op.load 9 (Go.Operand.tmp 175), type := 9, pos := "outright.go:57", after := #[{ on := 8, ground := Go.Ground.data }, { on := 6, ground := Go.Ground.guard }], guard := some (6, false) }) (v := ?_) rfl (by kernel_rfl) (by kernel_rfl) (by kernel_rfl) (fun _ _ _ h => h) (Or.inl ⟨by rfl, ?hy48⟩) hx1 ?_
            case hy48 =>
              intro u hu
              obtain ⟨u0, u1⟩ := hu
              go_simp
              try with_reducible rfl
            simp only [Act.put, List.setIfInBounds_toArray, List.set_cons_zero, List.set_cons_succ]
            refine wpAnyH_take (i := 11) (oi := { dst := some 178, op := Go.Op.move (Go.Operand.tmp 6), type := 23, pos := "outright.go:57", after := #[{ on := 6, ground := Go.Ground.guard }], guard := some (6, false) }) (v := ?_) rfl (by kernel_rfl) (by kernel_rfl) (by kernel_rfl) (fun _ _ _ h => h) (Or.inl ⟨by rfl, ?hy49⟩) hx1 ?_
            case hy49 =>
              intro u hu
              obtain ⟨u0, u1⟩ := hu
              go_simp
              try with_reducible rfl
            simp only [Act.put, List.setIfInBounds_toArray, List.set_cons_zero, List.set_cons_succ]
            refine wpAnyH_take (i := 12) (oi := { dst := some 179, op := Go.Op.fieldAddr 43 (Go.Operand.tmp 10) 2, type := 0, pos := "outright.go:57", after := #[{ on := 6, ground := Go.Ground.guard }], guard := some (6, false) }) (v := ?_) rfl (by kernel_rfl) (by kernel_rfl) (by kernel_rfl) (fun _ _ _ h => h) (Or.inl ⟨by rfl, ?hy50⟩) hx1 ?_
            case hy50 =>
              intro u hu
              obtain ⟨u0, u1⟩ := hu
              go_simp
              try with_reducible rfl
            simp only [Act.put, List.setIfInBounds_toArray, List.set_cons_zero, List.set_cons_succ]
            refine wpAnyH_take (i := 13) (oi := { dst := some 180, op := Go.Op.load 9 (Go.Operand.tmp 179), type := 9, pos := "outright.go:57", after := #[{ on := 12, ground := Go.Ground.data }, { on := 6, ground := Go.Ground.guard }], guard := some (6, false) }) (v := ?_) rfl (by kernel_rfl) (by kernel_rfl) (by kernel_rfl) (fun _ _ _ h => h) (Or.inl ⟨by rfl, ?hy51⟩) hx1 ?_
            case hy51 =>
              intro u hu
              obtain ⟨u0, u1⟩ := hu
              go_simp
              try with_reducible rfl
            simp only [Act.put, List.setIfInBounds_toArray, List.set_cons_zero, List.set_cons_succ]
            refine wpAnyH_take (i := 16) (oi := { dst := some 183, op := Go.Op.move (Go.Operand.tmp 5), type := 3, pos := "outright.go:57", after := #[{ on := 6, ground := Go.Ground.guard }], guard := some (6, false) }) (v := ?_) rfl (by kernel_rfl) (by kernel_rfl) (by kernel_rfl) (fun _ _ _ h => h) (Or.inl ⟨by rfl, ?hy52⟩) hx1 ?_
            case hy52 =>
              intro u hu
              obtain ⟨u0, u1⟩ := hu
              go_simp
              try with_reducible rfl
            simp only [Act.put, List.setIfInBounds_toArray, List.set_cons_zero, List.set_cons_succ]
            refine wpAnyH_ready (rs := [10]) (by kernel_rfl) (by simp) ?_
            refine AllReadyH.cons (o := { dst := some 177, op := Go.Op.call { callee := Go.Callee.value (Go.Operand.func 18), args := #[Go.Operand.tmp 174, Go.Operand.tmp 176], argTypes := #[23, 9] }, type := 3, pos := "outright.go:57", after := #[{ on := 7, ground := Go.Ground.data }, { on := 9, ground := Go.Ground.data }, { on := 6, ground := Go.Ground.chain }, { on := 6, ground := Go.Ground.guard }], guard := some (6, false) }) rfl (fun K hK => ?_) AllReadyH.nil
            go_simp
            (with_reducible refine Calls.mono (HTL.out _ HB1.out).1 ?_)
            rintro e y2 ⟨rfl, hb⟩
            have HB2 := hide (below_call HB1.out hb)
            have hx2 := HSX.out y2 HB2.out
            clear hb
            refine hK.out _ _ hx2 (fun _ => ?_)
            clear hK K
            try simp only [Act.put, List.setIfInBounds_toArray, List.set_cons_zero, List.set_cons_succ]
            refine wpAnyH_ready (rs := [14]) (by kernel_rfl) (by simp) ?_
            refine AllReadyH.cons (o := { dst := some 181, op := Go.Op.call { callee := Go.Callee.value (Go.Operand.func 14), args := #[Go.Operand.tmp 178, Go.Operand.tmp 180], argTypes := #[23, 9] }, type := 3, pos := "outright.go:57", after := #[{ on := 11, ground := Go.Ground.data }, { on := 13, ground := Go.Ground.data }, { on := 10, ground := Go.Ground.chain }, { on := 6, ground := Go.Ground.guard }], guard := some (6, false) }) rfl (fun K hK => ?_) AllReadyH.nil
            go_simp
            (with_reducible refine Calls.mono (HTL.out _ HB2.out).2.1 ?_)
            rintro e y3 ⟨rfl, hb⟩
            have HB3 := hide (below_call HB2.out hb)
            have hx3 := HSX.out y3 HB3.out
            have hlk3 := (HTL.out _ HB3.out).2.2.1
            clear hb
            refine hK.out _ _ hx3 (fun _ => ?_)
            clear hK K
            try simp only [Act.put, List.setIfInBounds_toArray, List.set_cons_zero, List.set_cons_succ]
            refine wpAnyH_take (i := 15) (oi := { dst := some 182, op := Go.Op.binOp Go.BinOp.add 3 (Go.Operand.tmp 177) (Go.Operand.tmp 181) 3, type := 3, pos := "outright.go:57", after := #[{ on := 10, ground := Go.Ground.data }, { on := 14, ground := Go.Ground.data }, { on := 6, ground := Go.Ground.guard }], guard := some (6, false) }) (v := ?_) rfl (by kernel_rfl) (by kernel_rfl) (by kernel_rfl) (fun _ _ _ h => h) (Or.inl ⟨by rfl, ?hy55⟩) hx3 ?_
            case hy55 =>
              intro u hu
              obtain ⟨u0, u1⟩ := hu
              go_simp
              try with_reducible rfl
            simp only [Act.put, List.setIfInBounds_toArray, List.set_cons_zero, List.set_cons_succ]
            refine wpAnyH_take (i := 17) (oi := { dst := some 184, op := Go.Op.binOp Go.BinOp.neq 3 (Go.Operand.tmp 182) (Go.Operand.tmp 183) 3, type := 4, pos := "outright.go:57", after := #[{ on := 15, ground := Go.Ground.data }, { on := 16, ground := Go.Ground.data }, { on := 6, ground := Go.Ground.guard }], guard := some (6, false) }) (v := ?_) rfl (by kernel_rfl) (by kernel_rfl) (by kernel_rfl) (fun _ _ _ h => h) (Or.inl ⟨by rfl, ?hy56⟩) hx3 ?_
            case hy56 =>
              intro u hu
              obtain ⟨u0, u1⟩ := hu
              go_simp
              try with_reducible rfl
            simp only [Act.put, List.setIfInBounds_toArray, List.set_cons_zero, List.set_cons_succ]
            refine wpAnyH_take (i := 18) (oi := { dst := some 185, op := Go.Op.pick (Go.Operand.tmp 173) (Go.Operand.const (Go.Value.bool true)) (Go.Operand.tmp 184), type := 4, pos := "outright.go:57", after := #[{ on := 6, ground := Go.Ground.data }, { on := 17, ground := Go.Ground.data }], guard := none }) (v := ?_) rfl (by kernel_rfl) (by kernel_rfl) (by kernel_rfl) (fun _ _ _ h => h) (Or.inl ⟨by rfl, ?hy57⟩) hx3 ?_
            case hy57 =>
              intro u hu
              obtain ⟨u0, u1⟩ := hu
              go_simp
              try with_reducible rfl
            simp only [Act.put, List.setIfInBounds_toArray, List.set_cons_zero, List.set_cons_succ]
            refine wpAnyH_take (i := 19) (oi := { dst := some 186, op := Go.Op.move (Go.Operand.tmp 185), type := 4, pos := "outright.go:57", after := #[{ on := 18, ground := Go.Ground.data }, { on := 14, ground := Go.Ground.chain }], guard := none }) (v := ?_) rfl (by kernel_rfl) (by kernel_rfl) (by kernel_rfl) (fun _ _ _ h => h) (Or.inl ⟨by rfl, ?hy58⟩) hx3 ?_
            case hy58 =>
              intro u hu
              obtain ⟨u0, u1⟩ := hu
              go_simp
              try with_reducible rfl
            simp only [Act.put, List.setIfInBounds_toArray, List.set_cons_zero, List.set_cons_succ]
            refine wpAnyH_take (i := 20) (oi := { dst := some 187, op := Go.Op.move (Go.Operand.tmp 6), type := 23, pos := "outright.go:57", after := #[{ on := 19, ground := Go.Ground.guard }], guard := some (19, false) }) (v := ?_) rfl (by kernel_rfl) (by kernel_rfl) (by kernel_rfl) (fun _ _ _ h => h) (Or.inl ⟨by rfl, ?hy59⟩) hx3 ?_
            case hy59 =>
              intro u hu
              obtain ⟨u0, u1⟩ := hu
              go_simp
              try with_reducible rfl
            simp only [Act.put, List.setIfInBounds_toArray, List.set_cons_zero, List.set_cons_succ]
            refine wpAnyH_take (i := 21) (oi := { dst := some 188, op := Go.Op.fieldAddr 43 (Go.Operand.tmp 10) 2, type := 0, pos := "outright.go:57", after := #[{ on := 19, ground := Go.Ground.guard }], guard := some (19, false) }) (v := ?_) rfl (by kernel_rfl) (by kernel_rfl) (by kernel_rfl) (fun _ _ _ h => h) (Or.inl ⟨by rfl, ?hy60⟩) hx3 ?_
            case hy60 =>
              intro u hu
              obtain ⟨u0, u1⟩ := hu
              go_simp
              try with_reducible rfl
            simp only [Act.put, List.setIfInBounds_toArray, List.set_cons_zero, List.set_cons_succ]
            refine wpAnyH_take (i := 22) (oi := { dst := some 189, op := Go.Op.load 9 (Go.Operand.tmp 188), type := 9, pos := "outright.go:57", after := #[{ on := 21, ground := Go.Ground.data }, { on := 19, ground := Go.Ground.guard }], guard := some (19, false) }) (v := ?_) rfl (by kernel_rfl) (by kernel_rfl) (by kernel_rfl) (fun _ _ _ h => h) (Or.inl ⟨by rfl, ?hy61⟩) hx3 ?_
            case hy61 =>
              intro u hu
              obtain ⟨u0, u1⟩ := hu
              go_simp
              try with_reducible rfl
            simp only [Act.put, List.setIfInBounds_toArray, List.set_cons_zero, List.set_cons_succ]
            refine wpAnyH_take (i := 23) (oi := { dst := some 190, op := Go.Op.move (Go.Operand.tmp 8), type := 63, pos := "outright.go:57", after := #[{ on := 19, ground := Go.Ground.guard }], guard := some (19, false) }) (v := ?_) rfl (by kernel_rfl) (by kernel_rfl) (by kernel_rfl) (fun _ _ _ h => h) (Or.inl ⟨by rfl, ?hy62⟩) hx3 ?_
            case hy62 =>
              intro u hu
              obtain ⟨u0, u1⟩ := hu
              go_simp
              try with_reducible rfl
            simp only [Act.put, List.setIfInBounds_toArray, List.set_cons_zero, List.set_cons_succ]
            refine wpAnyH_take (i := 24) (oi := { dst := some 191, op := Go.Op.fieldAddr 43 (Go.Operand.tmp 10) 2, type := 0, pos := "outright.go:57", after := #[{ on := 19, ground := Go.Ground.guard }], guard := some (19, false) }) (v := ?_) rfl (by kernel_rfl) (by kernel_rfl) (by kernel_rfl) (fun _ _ _ h => h) (Or.inl ⟨by rfl, ?hy63⟩) hx3 ?_
            case hy63 =>
              intro u hu
              obtain ⟨u0, u1⟩ := hu
              go_simp
              try with_reducible rfl
            simp only [Act.put, List.setIfInBounds_toArray, List.set_cons_zero, List.set_cons_succ]
            refine wpAnyH_take (i := 25) (oi := { dst := some 192, op := Go.Op.load 9 (Go.Operand.tmp 191), type := 9, pos := "outright.go:57", after := #[{ on := 24, ground := Go.Ground.data }, { on := 19, ground := Go.Ground.guard }], guard := some (19, false) }) (v := ?_) rfl (by kernel_rfl) (by kernel_rfl) (by kernel_rfl) (fun _ _ _ h => h) (Or.inl ⟨by rfl, ?hy64⟩) hx3 ?_
            case hy64 =>
              intro u hu
              obtain ⟨u0, u1⟩ := hu
              go_simp
              try with_reducible rfl
            simp only [Act.put, List.setIfInBounds_toArray, List.set_cons_zero, List.set_cons_succ]
            refine wpAnyH_ready (rs := [26]) (by kernel_rfl) (by simp) ?_
            refine AllReadyH.cons (o := { dst := some 193, op := Go.Op.lookup 63 (Go.Operand.tmp 190) (Go.Operand.tmp 192) false, type := 22, pos := "outright.go:57", after := #[{ on := 23, ground := Go.Ground.data }, { on := 25, ground := Go.Ground.data }, { on := 19, ground := Go.Ground.guard }], guard := some (19, false) }) rfl (fun K hK => ?_) AllReadyH.nil
            go_simp
            refine hK.out _ _ hx3 (fun _ => ?_)
            clear hK K
            try simp only [Act.put, List.setIfInBounds_toArray, List.set_cons_zero, List.set_cons_succ]
            refine wpAnyH_ready (rs := [27]) (by kernel_rfl) (by simp) ?_
            refine AllReadyH.cons (o := { dst := some 194, op := Go.Op.call { callee := Go.Callee.value (Go.Operand.func 29), args := #[Go.Operand.tmp 187, Go.Operand.tmp 189, Go.Operand.tmp 193], argTypes := #[23, 9, 22] }, type := 4, pos := "outright.go:57", after := #[{ on := 20, ground := Go.Ground.data }, { on := 22, ground := Go.Ground.data }, { on := 26, ground := Go.Ground.data }, { on := 19, ground := Go.Ground.chain }, { on := 19, ground := Go.Ground.guard }], guard := some (19, false) }) rfl (fun K hK => ?_) AllReadyH.nil
            go_simp
            (with_reducible refine Calls.mono (HTL.out _ HB3.out).2.2.2 ?_)
            rintro e y4 ⟨rfl, hb⟩
            have HB4 := hide (below_call HB3.out hb)
            have hx4 := HSX.out y4 HB4.out
            clear hb
            refine hK.out _ _ hx4 (fun _ => ?_)
            clear hK K
            try simp only [Act.put, List.setIfInBounds_toArray, List.set_cons_zero, List.set_cons_succ]
            refine wpAnyH_take (i := 28) (oi := { dst := some 195, op := Go.Op.unOp Go.UnOp.not 4 (Go.Operand.tmp 194), type := 4, pos := "outright.go:57", after := #[{ on := 27, ground := Go.Ground.data }, { on := 19, ground := Go.Ground.guard }], guard := some (19, false) }) (v := ?_) rfl (by kernel_rfl) (by kernel_rfl) (by kernel_rfl) (fun _ _ _ h => h) (Or.inl ⟨by rfl, ?hy67⟩) hx4 ?_
            case hy67 =>
              intro u hu
              obtain ⟨u0, u1⟩ := hu
              go_simp
              try with_reducible rfl
            simp only [Act.put, List.setIfInBounds_toArray, List.set_cons_zero, List.set_cons_succ]
            refine wpAnyH_take (i := 29) (oi := { dst := some 196, op := Go.Op.pick (Go.Operand.tmp 186) (Go.Operand.const (Go.Value.bool true)) (Go.Operand.tmp 195), type := 4, pos := "outright.go:57", after := #[{ on := 19, ground := Go.Ground.data }, { on := 28, ground := Go.Ground.data }], guard := none }) (v := ?_) rfl (by kernel_rfl) (by kernel_rfl) (by kernel_rfl) (fun _ _ _ h => h) (Or.inl ⟨by rfl, ?hy68⟩) hx4 ?_
            case hy68 =>
              intro u hu
              obtain ⟨u0, u1⟩ := hu
              go_simp
              try with_reducible rfl
            simp only [Act.put, List.setIfInBounds_toArray, List.set_cons_zero, List.set_cons_succ]
            refine wpAnyH_done (by kernel_rfl) ?_ _
            clear hlk3
            have HXX := hide (HOR2.out.below HB4.out).oi
            go_wp2_with fail
            go_roundw
            case rel => exact ⟨k + 1, hkp, by omega, by go_num, HXX⟩
            case measure => simp [intOf]; omega
    · have hk9 : k ≤ 200 := hk200
      obtain hcond | ⟨hcA, hcB⟩ : (¬ (k : Int) < (p : Int)) ∨ ((k : Int) < (p : Int) ∧ ¬ (k : Int) < 200) := by
        by_cases e : (k : Int) < (p : Int)
        · exact .inr ⟨e, by omega⟩
        · exact .inl e
      all_goals
        clear hlt
        obtain ⟨m, A, F', hn, H, LH, h1, h2, h3, h4, h5⟩ := HK.out
        obtain ⟨w1, hrun, hrg, hg1, hz1⟩ := h1.mp.range mt63
        have HF0 := hide (FI.start h1 h2 hrg hg1)
        have H1 := hide h1
        have H2 := hide h2
        have H5 := hide h5
        have hn2 : hn ≤ 200 := by omega
        obtain ⟨rg, HRG⟩ := named wr.heap.size
        rw [← HRG.out] at HF0 hrun
        have HLE : Hid (wr.heap.size ≤ rg) := by show _ ≤ _; rw [HRG.out]; exact Nat.le_refl _
        clear h1 h2 h3 h4 h5 hrg hg1 hz1 HK
        go_wp2_with fail
        go_loopw [17] (fun nv wx => ∃ left cnt vs, vs.length + cnt ≤ hn ∧ nv = .int .i64 ((vs.length : Nat) : Int) ∧ Hid (FI wr wx hb rg hn H A left cnt vs)) (fun _ wx => wx.rangeLeft hb rg)
        case atStart => exact ⟨_, hn, [], by simp, rfl, HF0⟩
        case round =>
          obtain ⟨left, cnt, vs, hvc, rfl, HN⟩ := hrel
          clear HF0
          rcases HN.out.rng.next 0 with ⟨hc0, hl, hrun2⟩ | ⟨s, v, ux, cnt', hs, hls, hE, hrun2, hrg, hlt, hgr, hsz, hen⟩
          · have g1 := H1.out.below HN.out.be
            have kn := names_r g1.rq.rg
            have HDN : Hid (∀ s : ByteArray, s.data.toList ∈ vs ↔ lA A s ≠ []) := fun s => by
              rw [HN.out.mem s]
              exact ⟨And.left, fun h => ⟨h, hl s (g1.rq.rg.nm h).max⟩⟩
            clear g1 hl
            go_wp2_with fail
            (with_reducible refine Calls.mono kn ?_)
            clear kn
            rintro e y1 ⟨nv, NL, rfl, hos, hno, hnl, hb1⟩
            have hlen := same_len hno HN.out.nd HDN.out
            obtain ⟨no, nc, hnv⟩ := hos.shape
            rw [hlen] at hnv
            subst hnv
            have HEND : Hid (Below w.heap.size w y1) := H1.out.rq.bel.trans ((HN.out.be.trans (hb1.mono HN.out.be.size)).mono H1.out.rq.le)
            clear hos hno hnl hb1 hlen
            go_wp2_with fail
            (with_reducible refine Calls.mono (awake_any _) ?_)
            rintro e y2 ⟨rfl, hb2⟩
            go_wp2_with fail
            go_ret
            exact ⟨rfl, HEND.out.trans (hb2.mono HEND.out.size)⟩
          · have hnx := HN.out.step hrg hgr HLE.out hls
            have g1 := H1.out.below hnx.be
            obtain ⟨hvr, -⟩ := g1.rd s v hE
            obtain ⟨lo9, lc9, hvv⟩ := hvr.shape
            subst hvv
            have hl20 := H5.out s
            have k3 := has_r g1.rq.rg s hs hvr (by omega)
            rw [H2.out s, decide_eq_true rfl] at k3
            rw [H2.out s] at hnx
            have HNX := hide hnx
            have HMS : Hid (wr.rangeLeft hb rg = cnt) := HN.out.rng.left_eq
            have hvI : ((vs.length : Nat) : Int) ≤ 200 := by omega
            obtain ⟨q, HQ⟩ := named (LH s).length
            rw [← HQ.out] at k3 hl20
            clear hrg hgr hnx g1 hvr HN hsz hls
            rcases Nat.eq_zero_or_pos q with hq0 | hq0
            · subst hq0
              have he : LH s = [] := List.eq_nil_of_length_eq_zero HQ.out.symm
              rw [if_pos he] at HNX
              rw [← HQ.out] at hrun2 hen
              go_wp2_with fail
              (with_reducible refine Calls.mono k3 ?_)
              clear k3
              rintro e y2 ⟨rfl, hb2⟩
              have hfin := HNX.out.below hb2
              have hmm : y2.rangeLeft hb rg < wr.rangeLeft hb rg := by rw [hfin.rng.left_eq, HMS.out]; exact hlt
              have HFIN := hide hfin
              have HMM := hide hmm
              clear hfin hmm hb2 hrun2 hen
              go_wp2_with fail
              go_roundw
              case rel => exact ⟨_, cnt', vs, by omega, rfl, HFIN⟩
              case measure => exact HMM.out
            · have he : ¬ LH s = [] := fun e => by have := HQ.out; rw [e] at this; simp at this; omega
              rw [if_neg he] at HNX
              rw [← HQ.out] at hrun2 hen
              have hqI : (0 : Int) < (q : Int) := by omega
              go_wp2_with fail
              (with_reducible refine Calls.mono k3 ?_)
              clear k3
              rintro e y2 ⟨rfl, hb2⟩
              have hfin := HNX.out.below hb2
              have hmm : y2.rangeLeft hb rg < wr.rangeLeft hb rg := by rw [hfin.rng.left_eq, HMS.out]; exact hlt
              have HFIN := hide hfin
              have HMM := hide hmm
              clear hfin hmm hb2 hrun2 hen
              go_wp2_with fail
              go_roundw
              case rel => exact ⟨_, cnt', s.data.toList :: vs, by rw [List.length_cons]; omega, by rw [List.length_cons]; go_num, HFIN⟩
              case measure => exact HMM.out
end Go.Proofs.Ytdbbdecmfnajiaa
