/-
  The contract of SameCmds. Own work.
-/
import Derived.Test.YtlngeonfabahnaaDoorQo
import Derived.Deep.RegionHeld
namespace Go.Proofs.YtlngeonfabahnaaDoor
open Go Go.RowKit
set_option linter.unusedSimpArgs false
set_option linter.unusedVariables false

theorem Cm.eq_of {i j : Cm} (h0 : i.n = j.n) (h1 : i.kind = j.kind) (h2 : i.s = j.s) (h3 : i.arg = j.arg) (h4 : i.pol = j.pol) : i = j := by
  cases i; cases j
  simp only at h0 h1 h2 h3 h4
  subst h0 h1 h2 h3 h4
  rfl
instance : DecidableEq Cm := fun i j =>
  if h : i.n = j.n ∧ i.kind = j.kind ∧ i.s = j.s ∧ i.arg = j.arg ∧ i.pol = j.pol then .isTrue (Cm.eq_of h.1 h.2.1 h.2.2.1 h.2.2.2.1 h.2.2.2.2)
  else .isFalse (fun e => h (by subst e; exact ⟨rfl, rfl, rfl, rfl, rfl⟩))
theorem neq_cm {α : Type} (x y : Cm) (h : ¬ x = y) (A B : α) : (if (x.n : Int) = (y.n : Int) then if (x.kind : Int) = (y.kind : Int) then if x.s.toList = y.s.toList then if x.arg = y.arg then if x.pol = y.pol then A else B else B else B else B else B) = B := by
  split
  · split
    · split
      · split
        · split
          · rename_i h0 h1 h2 h3 h4
            exfalso
            rw [ByteArray.toList_eq, ByteArray.toList_eq] at h2
            exact h (Cm.eq_of (by omega) (by omega) (ByteArray.ext (Array.toList_inj.1 h2)) h3 h4)
          · rfl
        · rfl
      · rfl
    · rfl
  · rfl
theorem RdM.below {w w' : World} {v : Value} {l : List Cm} (h : RdM w v l) (hb : Below w.heap.size w w') : RdM w' v l := RdX.below h hb
set_option maxRecDepth 100000 in
set_option maxHeartbeats 1600000 in
theorem sameCmds_any {w : World} {u v : Value} {l m : List Cm} (hu : RdM w u l) (hv : RdM w v m) :
    Calls Tryd.prog 18 #[u, v] w fun e w' => e = .returned (.bool (decide (l = m))) ∧ Below w.heap.size w w' := by
  obtain ⟨ao, cap, rfl, hl⟩ := hu.shape
  obtain ⟨bo, dap, rfl, hm⟩ := hv.shape
  have HU := hide hu
  have HV := hide hv
  clear hu hv
  by_cases hlen : l.length = m.length
  · obtain ⟨n, HN⟩ := named l.length
    have HM : Hid (m.length = n) := by rw [HN.out]; exact hlen.symm
    rw [← HN.out] at HU hl
    rw [HM.out] at HV
    rw [HM.out, ← HN.out]
    have hlN : n ≤ 9223372036854775807 := by
      have h2 := hl.2
      have h1 := hl.1
      unfold maxLen at h2
      omega
    obtain ⟨R, HR⟩ := named (decide (l = m))
    rw [← HR.out]
    clear hlen hm
    go_enter Tryd.func18, Tryd.ntmps18
    go_wp2
    go_loopw [5] (fun i wr => ∃ k : Nat, k ≤ n ∧ i = .int .i64 k ∧ Hid (l.take k = m.take k) ∧ Hid (Below w.heap.size w wr)) (fun i _ => n - (intOf i).toNat)
    case atStart => exact ⟨0, Nat.zero_le _, rfl, by show _ = _; simp, Below.refl _ _⟩
    case round =>
      obtain ⟨k, hk, rfl, HT, HB⟩ := hrel
      by_cases hlt : k < n
      · obtain ⟨b, off, hab, -, a0, a1, a2, a3, a4⟩ := RdM.at (RdM.below HU.out HB.out) k (by rw [← HN.out]; exact hlt)
        obtain ⟨b', off', hab', -, b0, b1, b2, b3, b4⟩ := RdM.at (RdM.below HV.out HB.out) k (by rw [HM.out]; exact hlt)
        subst hab
        subst hab'
        have hkI : (k : Int) < (n : Int) := by omega
        obtain ⟨x, HX⟩ := named (l[k]'(by rw [← HN.out]; exact hlt))
        obtain ⟨y, HY⟩ := named (m[k]'(by rw [HM.out]; exact hlt))
        rw [← HX.out] at a0 a1 a2 a3 a4
        rw [← HY.out] at b0 b1 b2 b3 b4
        by_cases he : x = y
        · have HT1 : Hid (l.take (k + 1) = m.take (k + 1)) := by
            show _ = _
            rw [List.take_succ_eq_append_getElem (by rw [← HN.out]; exact hlt), List.take_succ_eq_append_getElem (by rw [HM.out]; exact hlt), HT.out]
            congr 2
            rw [← HX.out, ← HY.out]
            exact he
          clear HX HY
          subst he
          have hs0 : wr.drew.cell? ⟨b, off + k * 5, none⟩ = some (.int .i64 (x.n : Int)) ∧ wr.drew.cell? ⟨b, off + k * 5 + 1, none⟩ = some (.int .u8 (x.kind : Int)) ∧ wr.drew.cell? ⟨b, off + k * 5 + 2, none⟩ = some (.string x.s) ∧ wr.drew.cell? ⟨b, off + k * 5 + 3, none⟩ = some (.int .i64 x.arg) ∧ wr.drew.cell? ⟨b, off + k * 5 + 4, none⟩ = some (.int .i64 x.pol) ∧ wr.drew.cell? ⟨b', off' + k * 5, none⟩ = some (.int .i64 (x.n : Int)) ∧ wr.drew.cell? ⟨b', off' + k * 5 + 1, none⟩ = some (.int .u8 (x.kind : Int)) ∧ wr.drew.cell? ⟨b', off' + k * 5 + 2, none⟩ = some (.string x.s) ∧ wr.drew.cell? ⟨b', off' + k * 5 + 3, none⟩ = some (.int .i64 x.arg) ∧ wr.drew.cell? ⟨b', off' + k * 5 + 4, none⟩ = some (.int .i64 x.pol) := ⟨a0, a1, a2, a3, a4, b0, b1, b2, b3, b4⟩
          clear a0 a1 a2 a3 a4 b0 b1 b2 b3 b4
          go_wp2_with fail
          refine wp_region_held_drew (S := (fun u => u.cell? ⟨b, off + k * 5, none⟩ = some (.int .i64 (x.n : Int)) ∧ u.cell? ⟨b, off + k * 5 + 1, none⟩ = some (.int .u8 (x.kind : Int)) ∧ u.cell? ⟨b, off + k * 5 + 2, none⟩ = some (.string x.s) ∧ u.cell? ⟨b, off + k * 5 + 3, none⟩ = some (.int .i64 x.arg) ∧ u.cell? ⟨b, off + k * 5 + 4, none⟩ = some (.int .i64 x.pol) ∧ u.cell? ⟨b', off' + k * 5, none⟩ = some (.int .i64 (x.n : Int)) ∧ u.cell? ⟨b', off' + k * 5 + 1, none⟩ = some (.int .u8 (x.kind : Int)) ∧ u.cell? ⟨b', off' + k * 5 + 2, none⟩ = some (.string x.s) ∧ u.cell? ⟨b', off' + k * 5 + 3, none⟩ = some (.int .i64 x.arg) ∧ u.cell? ⟨b', off' + k * 5 + 4, none⟩ = some (.int .i64 x.pol))) (by kernel_rfl) hs0 (fun _ => ?_)
          refine wpAnyH_take (i := 0) (oi := { dst := some 17, op := Go.Op.move (Go.Operand.tmp 0), type := 33, pos := "kit.go:24", after := #[], guard := none }) (v := ?_) rfl (by kernel_rfl) (by kernel_rfl) (by kernel_rfl) (fun _ _ _ h => h) (Or.inl ⟨by rfl, ?hy1⟩) hs0 ?_
          case hy1 =>
            intro u hu
            obtain ⟨u0, u1, u2, u3, u4, u5, u6, u7, u8, u9⟩ := hu
            go_simp
            try with_reducible rfl
          simp only [Act.put, List.setIfInBounds_toArray, List.set_cons_zero, List.set_cons_succ]
          refine wpAnyH_take (i := 1) (oi := { dst := some 18, op := Go.Op.move (Go.Operand.tmp 5), type := 3, pos := "kit.go:24", after := #[], guard := none }) (v := ?_) rfl (by kernel_rfl) (by kernel_rfl) (by kernel_rfl) (fun _ _ _ h => h) (Or.inl ⟨by rfl, ?hy2⟩) hs0 ?_
          case hy2 =>
            intro u hu
            obtain ⟨u0, u1, u2, u3, u4, u5, u6, u7, u8, u9⟩ := hu
            go_simp
            try with_reducible rfl
          simp only [Act.put, List.setIfInBounds_toArray, List.set_cons_zero, List.set_cons_succ]
          refine wpAnyH_take (i := 2) (oi := { dst := some 19, op := Go.Op.indexAddr 33 (Go.Operand.tmp 17) (Go.Operand.tmp 18), type := 0, pos := "kit.go:24", after := #[{ on := 0, ground := Go.Ground.data }, { on := 1, ground := Go.Ground.data }], guard := none }) (v := ?_) rfl (by kernel_rfl) (by kernel_rfl) (by kernel_rfl) (fun _ _ _ h => h) (Or.inl ⟨by rfl, ?hy3⟩) hs0 ?_
          case hy3 =>
            intro u hu
            obtain ⟨u0, u1, u2, u3, u4, u5, u6, u7, u8, u9⟩ := hu
            go_simp
            try with_reducible rfl
          simp only [Act.put, List.setIfInBounds_toArray, List.set_cons_zero, List.set_cons_succ]
          refine wpAnyH_take (i := 3) (oi := { dst := some 20, op := Go.Op.load 55 (Go.Operand.tmp 19), type := 55, pos := "kit.go:24", after := #[{ on := 2, ground := Go.Ground.data }], guard := none }) (v := ?_) rfl (by kernel_rfl) (by kernel_rfl) (by kernel_rfl) (fun _ _ _ h => h) (Or.inl ⟨by rfl, ?hy4⟩) hs0 ?_
          case hy4 =>
            intro u hu
            obtain ⟨u0, u1, u2, u3, u4, u5, u6, u7, u8, u9⟩ := hu
            go_simp
            try with_reducible rfl
          simp only [Act.put, List.setIfInBounds_toArray, List.set_cons_zero, List.set_cons_succ]
          refine wpAnyH_take (i := 4) (oi := { dst := some 21, op := Go.Op.move (Go.Operand.tmp 1), type := 33, pos := "kit.go:24", after := #[], guard := none }) (v := ?_) rfl (by kernel_rfl) (by kernel_rfl) (by kernel_rfl) (fun _ _ _ h => h) (Or.inl ⟨by rfl, ?hy5⟩) hs0 ?_
          case hy5 =>
            intro u hu
            obtain ⟨u0, u1, u2, u3, u4, u5, u6, u7, u8, u9⟩ := hu
            go_simp
            try with_reducible rfl
          simp only [Act.put, List.setIfInBounds_toArray, List.set_cons_zero, List.set_cons_succ]
          refine wpAnyH_take (i := 5) (oi := { dst := some 22, op := Go.Op.move (Go.Operand.tmp 5), type := 3, pos := "kit.go:24", after := #[], guard := none }) (v := ?_) rfl (by kernel_rfl) (by kernel_rfl) (by kernel_rfl) (fun _ _ _ h => h) (Or.inl ⟨by rfl, ?hy6⟩) hs0 ?_
          case hy6 =>
            intro u hu
            obtain ⟨u0, u1, u2, u3, u4, u5, u6, u7, u8, u9⟩ := hu
            go_simp
            try with_reducible rfl
          simp only [Act.put, List.setIfInBounds_toArray, List.set_cons_zero, List.set_cons_succ]
          refine wpAnyH_take (i := 6) (oi := { dst := some 23, op := Go.Op.indexAddr 33 (Go.Operand.tmp 21) (Go.Operand.tmp 22), type := 0, pos := "kit.go:24", after := #[{ on := 4, ground := Go.Ground.data }, { on := 5, ground := Go.Ground.data }], guard := none }) (v := ?_) rfl (by kernel_rfl) (by kernel_rfl) (by kernel_rfl) (fun _ _ _ h => h) (Or.inl ⟨by rfl, ?hy7⟩) hs0 ?_
          case hy7 =>
            intro u hu
            obtain ⟨u0, u1, u2, u3, u4, u5, u6, u7, u8, u9⟩ := hu
            go_simp
            try with_reducible rfl
          simp only [Act.put, List.setIfInBounds_toArray, List.set_cons_zero, List.set_cons_succ]
          refine wpAnyH_take (i := 7) (oi := { dst := some 24, op := Go.Op.load 55 (Go.Operand.tmp 23), type := 55, pos := "kit.go:24", after := #[{ on := 6, ground := Go.Ground.data }], guard := none }) (v := ?_) rfl (by kernel_rfl) (by kernel_rfl) (by kernel_rfl) (fun _ _ _ h => h) (Or.inl ⟨by rfl, ?hy8⟩) hs0 ?_
          case hy8 =>
            intro u hu
            obtain ⟨u0, u1, u2, u3, u4, u5, u6, u7, u8, u9⟩ := hu
            go_simp
            try with_reducible rfl
          simp only [Act.put, List.setIfInBounds_toArray, List.set_cons_zero, List.set_cons_succ]
          refine wpAnyH_take (i := 8) (oi := { dst := some 25, op := Go.Op.binOp Go.BinOp.neq 55 (Go.Operand.tmp 20) (Go.Operand.tmp 24) 55, type := 4, pos := "kit.go:24", after := #[{ on := 3, ground := Go.Ground.data }, { on := 7, ground := Go.Ground.data }], guard := none }) (v := ?_) rfl (by kernel_rfl) (by kernel_rfl) (by kernel_rfl) (fun _ _ _ h => h) (Or.inl ⟨by rfl, ?hy9⟩) hs0 ?_
          case hy9 =>
            intro u hu
            obtain ⟨u0, u1, u2, u3, u4, u5, u6, u7, u8, u9⟩ := hu
            go_simp
            try with_reducible rfl
          simp only [Act.put, List.setIfInBounds_toArray, List.set_cons_zero, List.set_cons_succ]
          refine wpAnyH_done (by kernel_rfl) ?_ _
          go_wp2_with fail
          go_roundw
          case rel => exact ⟨k + 1, hlt, by go_num, HT1, HB.out.drew⟩
          case measure => simp [intOf]; omega
        · have HNE := hide he
          have HF : Hid (R = false) := by
            show R = false
            rw [HR.out, decide_eq_false_iff_not]
            rintro rfl
            exact he (by rw [HX.out, HY.out])
          have hs0 : wr.drew.cell? ⟨b, off + k * 5, none⟩ = some (.int .i64 (x.n : Int)) ∧ wr.drew.cell? ⟨b, off + k * 5 + 1, none⟩ = some (.int .u8 (x.kind : Int)) ∧ wr.drew.cell? ⟨b, off + k * 5 + 2, none⟩ = some (.string x.s) ∧ wr.drew.cell? ⟨b, off + k * 5 + 3, none⟩ = some (.int .i64 x.arg) ∧ wr.drew.cell? ⟨b, off + k * 5 + 4, none⟩ = some (.int .i64 x.pol) ∧ wr.drew.cell? ⟨b', off' + k * 5, none⟩ = some (.int .i64 (y.n : Int)) ∧ wr.drew.cell? ⟨b', off' + k * 5 + 1, none⟩ = some (.int .u8 (y.kind : Int)) ∧ wr.drew.cell? ⟨b', off' + k * 5 + 2, none⟩ = some (.string y.s) ∧ wr.drew.cell? ⟨b', off' + k * 5 + 3, none⟩ = some (.int .i64 y.arg) ∧ wr.drew.cell? ⟨b', off' + k * 5 + 4, none⟩ = some (.int .i64 y.pol) := ⟨a0, a1, a2, a3, a4, b0, b1, b2, b3, b4⟩
          clear a0 a1 a2 a3 a4 b0 b1 b2 b3 b4 he
          go_wp2_with fail
          refine wp_region_held_drew (S := (fun u => u.cell? ⟨b, off + k * 5, none⟩ = some (.int .i64 (x.n : Int)) ∧ u.cell? ⟨b, off + k * 5 + 1, none⟩ = some (.int .u8 (x.kind : Int)) ∧ u.cell? ⟨b, off + k * 5 + 2, none⟩ = some (.string x.s) ∧ u.cell? ⟨b, off + k * 5 + 3, none⟩ = some (.int .i64 x.arg) ∧ u.cell? ⟨b, off + k * 5 + 4, none⟩ = some (.int .i64 x.pol) ∧ u.cell? ⟨b', off' + k * 5, none⟩ = some (.int .i64 (y.n : Int)) ∧ u.cell? ⟨b', off' + k * 5 + 1, none⟩ = some (.int .u8 (y.kind : Int)) ∧ u.cell? ⟨b', off' + k * 5 + 2, none⟩ = some (.string y.s) ∧ u.cell? ⟨b', off' + k * 5 + 3, none⟩ = some (.int .i64 y.arg) ∧ u.cell? ⟨b', off' + k * 5 + 4, none⟩ = some (.int .i64 y.pol))) (by kernel_rfl) hs0 (fun _ => ?_)
          refine wpAnyH_take (i := 0) (oi := { dst := some 17, op := Go.Op.move (Go.Operand.tmp 0), type := 33, pos := "kit.go:24", after := #[], guard := none }) (v := ?_) rfl (by kernel_rfl) (by kernel_rfl) (by kernel_rfl) (fun _ _ _ h => h) (Or.inl ⟨by rfl, ?hy10⟩) hs0 ?_
          case hy10 =>
            intro u hu
            obtain ⟨u0, u1, u2, u3, u4, u5, u6, u7, u8, u9⟩ := hu
            go_simp
            try with_reducible rfl
          simp only [Act.put, List.setIfInBounds_toArray, List.set_cons_zero, List.set_cons_succ]
          refine wpAnyH_take (i := 1) (oi := { dst := some 18, op := Go.Op.move (Go.Operand.tmp 5), type := 3, pos := "kit.go:24", after := #[], guard := none }) (v := ?_) rfl (by kernel_rfl) (by kernel_rfl) (by kernel_rfl) (fun _ _ _ h => h) (Or.inl ⟨by rfl, ?hy11⟩) hs0 ?_
          case hy11 =>
            intro u hu
            obtain ⟨u0, u1, u2, u3, u4, u5, u6, u7, u8, u9⟩ := hu
            go_simp
            try with_reducible rfl
          simp only [Act.put, List.setIfInBounds_toArray, List.set_cons_zero, List.set_cons_succ]
          refine wpAnyH_take (i := 2) (oi := { dst := some 19, op := Go.Op.indexAddr 33 (Go.Operand.tmp 17) (Go.Operand.tmp 18), type := 0, pos := "kit.go:24", after := #[{ on := 0, ground := Go.Ground.data }, { on := 1, ground := Go.Ground.data }], guard := none }) (v := ?_) rfl (by kernel_rfl) (by kernel_rfl) (by kernel_rfl) (fun _ _ _ h => h) (Or.inl ⟨by rfl, ?hy12⟩) hs0 ?_
          case hy12 =>
            intro u hu
            obtain ⟨u0, u1, u2, u3, u4, u5, u6, u7, u8, u9⟩ := hu
            go_simp
            try with_reducible rfl
          simp only [Act.put, List.setIfInBounds_toArray, List.set_cons_zero, List.set_cons_succ]
          refine wpAnyH_take (i := 3) (oi := { dst := some 20, op := Go.Op.load 55 (Go.Operand.tmp 19), type := 55, pos := "kit.go:24", after := #[{ on := 2, ground := Go.Ground.data }], guard := none }) (v := ?_) rfl (by kernel_rfl) (by kernel_rfl) (by kernel_rfl) (fun _ _ _ h => h) (Or.inl ⟨by rfl, ?hy13⟩) hs0 ?_
          case hy13 =>
            intro u hu
            obtain ⟨u0, u1, u2, u3, u4, u5, u6, u7, u8, u9⟩ := hu
            go_simp
            try with_reducible rfl
          simp only [Act.put, List.setIfInBounds_toArray, List.set_cons_zero, List.set_cons_succ]
          refine wpAnyH_take (i := 4) (oi := { dst := some 21, op := Go.Op.move (Go.Operand.tmp 1), type := 33, pos := "kit.go:24", after := #[], guard := none }) (v := ?_) rfl (by kernel_rfl) (by kernel_rfl) (by kernel_rfl) (fun _ _ _ h => h) (Or.inl ⟨by rfl, ?hy14⟩) hs0 ?_
          case hy14 =>
            intro u hu
            obtain ⟨u0, u1, u2, u3, u4, u5, u6, u7, u8, u9⟩ := hu
            go_simp
            try with_reducible rfl
          simp only [Act.put, List.setIfInBounds_toArray, List.set_cons_zero, List.set_cons_succ]
          refine wpAnyH_take (i := 5) (oi := { dst := some 22, op := Go.Op.move (Go.Operand.tmp 5), type := 3, pos := "kit.go:24", after := #[], guard := none }) (v := ?_) rfl (by kernel_rfl) (by kernel_rfl) (by kernel_rfl) (fun _ _ _ h => h) (Or.inl ⟨by rfl, ?hy15⟩) hs0 ?_
          case hy15 =>
            intro u hu
            obtain ⟨u0, u1, u2, u3, u4, u5, u6, u7, u8, u9⟩ := hu
            go_simp
            try with_reducible rfl
          simp only [Act.put, List.setIfInBounds_toArray, List.set_cons_zero, List.set_cons_succ]
          refine wpAnyH_take (i := 6) (oi := { dst := some 23, op := Go.Op.indexAddr 33 (Go.Operand.tmp 21) (Go.Operand.tmp 22), type := 0, pos := "kit.go:24", after := #[{ on := 4, ground := Go.Ground.data }, { on := 5, ground := Go.Ground.data }], guard := none }) (v := ?_) rfl (by kernel_rfl) (by kernel_rfl) (by kernel_rfl) (fun _ _ _ h => h) (Or.inl ⟨by rfl, ?hy16⟩) hs0 ?_
          case hy16 =>
            intro u hu
            obtain ⟨u0, u1, u2, u3, u4, u5, u6, u7, u8, u9⟩ := hu
            go_simp
            try with_reducible rfl
          simp only [Act.put, List.setIfInBounds_toArray, List.set_cons_zero, List.set_cons_succ]
          refine wpAnyH_take (i := 7) (oi := { dst := some 24, op := Go.Op.load 55 (Go.Operand.tmp 23), type := 55, pos := "kit.go:24", after := #[{ on := 6, ground := Go.Ground.data }], guard := none }) (v := ?_) rfl (by kernel_rfl) (by kernel_rfl) (by kernel_rfl) (fun _ _ _ h => h) (Or.inl ⟨by rfl, ?hy17⟩) hs0 ?_
          case hy17 =>
            intro u hu
            obtain ⟨u0, u1, u2, u3, u4, u5, u6, u7, u8, u9⟩ := hu
            go_simp
            try with_reducible rfl
          simp only [Act.put, List.setIfInBounds_toArray, List.set_cons_zero, List.set_cons_succ]
          refine wpAnyH_take (i := 8) (oi := { dst := some 25, op := Go.Op.binOp Go.BinOp.neq 55 (Go.Operand.tmp 20) (Go.Operand.tmp 24) 55, type := 4, pos := "kit.go:24", after := #[{ on := 3, ground := Go.Ground.data }, { on := 7, ground := Go.Ground.data }], guard := none }) (v := .bool true) rfl (by kernel_rfl) (by kernel_rfl) (by kernel_rfl) (fun _ _ _ h => h) (Or.inl ⟨by rfl, ?hy18⟩) hs0 ?_
          case hy18 =>
            intro u hu
            obtain ⟨u0, u1, u2, u3, u4, u5, u6, u7, u8, u9⟩ := hu
            go_simp
            try show _ = _
            first | exact neq_cm x y HNE.out _ _ | (intro hq1 hq2 hq3 hq4 hq5; exact HNE.out (Cm.eq_of (by omega) (by omega) (ByteArray.ext (Array.toList_inj.1 (by simpa [ByteArray.toList_eq] using hq3))) hq4 hq5))
          simp only [Act.put, List.setIfInBounds_toArray, List.set_cons_zero, List.set_cons_succ]
          refine wpAnyH_done (by kernel_rfl) ?_ _
          go_wp2_with fail
          go_ret
          exact ⟨by rw [HF.out]; rfl, HB.out.drew⟩
      · have hkn : k = n := by omega
        subst hkn
        go_wp2
        go_ret
        refine ⟨?_, HB.out⟩
        have hlm : l = m := by
          have := HT.out
          rw [List.take_of_length_le (by rw [← HN.out]; exact Nat.le_refl _), List.take_of_length_le (by rw [HM.out]; exact Nat.le_refl _)] at this
          exact this
        rw [HR.out, decide_eq_true hlm]
        rfl
  · have hne : ¬ l = m := fun e => hlen (by rw [e])
    obtain ⟨n, HN⟩ := named l.length
    obtain ⟨n', HN'⟩ := named m.length
    rw [← HN.out, ← HN'.out] at hlen
    rw [← HN.out, ← HN'.out]
    have hI : ¬ (n : Int) = (n' : Int) := by omega
    have hB : ((n : Int) == (n' : Int)) = false := beq_eq_false_iff_ne.2 hI
    have hB2 : ((n : Int) != (n' : Int)) = true := by simp [hI]
    rw [decide_eq_false hne]
    go_enter Tryd.func18, Tryd.ntmps18
    go_wp2
    go_ret
    exact ⟨rfl, Below.refl _ _⟩
end Go.Proofs.YtlngeonfabahnaaDoor
