/-
  Pick, SameInstrs, Same. Own work.
-/
import Derived.Test.YtpiiehenmkinaaaDoorCg
namespace Go.Proofs.YtpiiehenmkinaaaDoor
open Go.RowKit

theorem Ins.eq_of {i j : Ins} (h0 : i.op = j.op) (h1 : i.a = j.a) (h2 : i.b = j.b) (h3 : i.c = j.c) (h4 : i.n = j.n) (h5 : i.s = j.s) : i = j := by
  cases i; cases j
  simp only at h0 h1 h2 h3 h4 h5
  subst h0 h1 h2 h3 h4 h5
  rfl
instance : DecidableEq Ins := fun i j =>
  if h : i.op = j.op ∧ i.a = j.a ∧ i.b = j.b ∧ i.c = j.c ∧ i.n = j.n ∧ i.s = j.s then .isTrue (Ins.eq_of h.1 h.2.1 h.2.2.1 h.2.2.2.1 h.2.2.2.2.1 h.2.2.2.2.2)
  else .isFalse (fun e => h (by subst e; exact ⟨rfl, rfl, rfl, rfl, rfl, rfl⟩))
theorem neq_chain {α : Type} (x y : Ins) (h : ¬ x = y) (A B : α) : (if (x.op : Int) = (y.op : Int) then if x.a = y.a then if x.b = y.b then if x.c = y.c then if x.n = y.n then if x.s.toList = y.s.toList then A else B else B else B else B else B else B) = B := by
  split
  · split
    · split
      · split
        · split
          · split
            · rename_i h0 h1 h2 h3 h4 h5
              exfalso
              rw [ByteArray.toList_eq, ByteArray.toList_eq] at h5
              exact h (Ins.eq_of (by omega) h1 h2 h3 h4 (ByteArray.ext (Array.toList_inj.1 h5)))
            · rfl
          · rfl
        · rfl
      · rfl
    · rfl
  · rfl
def P6 (u : World) (b o : Nat) (x : Ins) : Prop := u.cell? ⟨b, o, none⟩ = some (.int .u8 (x.op : Int)) ∧ u.cell? ⟨b, o + 1, none⟩ = some (.int .i64 x.a) ∧ u.cell? ⟨b, o + 2, none⟩ = some (.int .i64 x.b) ∧ u.cell? ⟨b, o + 3, none⟩ = some (.int .i64 x.c) ∧ u.cell? ⟨b, o + 4, none⟩ = some (.int .i64 x.n) ∧ u.cell? ⟨b, o + 5, none⟩ = some (.string x.s)

set_option maxRecDepth 100000 in
set_option maxHeartbeats 1600000 in
theorem sameInstrs_any {w : World} {u v : Value} {l m : List Ins} (hu : RdC w u l) (hv : RdC w v m) :
    Calls Tryd.prog 41 #[u, v] w fun e w' => e = .returned (.bool (decide (l = m))) ∧ Below w.heap.size w w' := by
  obtain ⟨ao, cap, rfl, hl⟩ := hu.shape
  obtain ⟨bo, dap, rfl, hm⟩ := hv.shape
  have HU := hide hu
  have HV := hide hv
  clear hu hv
  by_cases hlen : l.length = m.length
  · obtain ⟨n, HN⟩ := named l.length
    have HM : Hid (m.length = n) := by rw [HN.out]; exact hlen.symm
    rw [← HN.out] at HU hl
    rw [HM.out] at HV
    rw [HM.out, ← HN.out]
    obtain ⟨R, HR⟩ := named (decide (l = m))
    rw [← HR.out]
    clear hlen hm
    go_enter Tryd.func41, Tryd.ntmps41
    go_wp2
    go_loopw [5] (fun i wr => ∃ k : Nat, k ≤ n ∧ i = .int .i64 k ∧ Hid (l.take k = m.take k) ∧ Hid (Below w.heap.size w wr)) (fun i _ => n - (intOf i).toNat)
    case atStart => exact ⟨0, Nat.zero_le _, rfl, by show _ = _; simp, Below.refl _ _⟩
    case round =>
      obtain ⟨k, hk, rfl, HT, HB⟩ := hrel
      by_cases hlt : k < n
      · obtain ⟨b, off, hab, -, a0, a1, a2, a3, a4, a5⟩ := (HU.out.below HB.out).at k (by rw [← HN.out]; exact hlt)
        obtain ⟨b', off', hab', -, b0, b1, b2, b3, b4, b5⟩ := (HV.out.below HB.out).at k (by rw [HM.out]; exact hlt)
        subst hab
        subst hab'
        have hkI : (k : Int) < (n : Int) := by omega
        obtain ⟨x, HX⟩ := named (l[k]'(by rw [← HN.out]; exact hlt))
        obtain ⟨y, HY⟩ := named (m[k]'(by rw [HM.out]; exact hlt))
        rw [← HX.out] at a0 a1 a2 a3 a4 a5
        rw [← HY.out] at b0 b1 b2 b3 b4 b5
        by_cases he : x = y
        · have HT1 : Hid (l.take (k + 1) = m.take (k + 1)) := by
            show _ = _
            rw [List.take_succ_eq_append_getElem (by rw [← HN.out]; exact hlt), List.take_succ_eq_append_getElem (by rw [HM.out]; exact hlt), HT.out]
            congr 2
            rw [← HX.out, ← HY.out]
            exact he
          clear HX HY
          subst he
          have hs0 : wr.drew.cell? ⟨b, off + k * 6, none⟩ = some (.int .u8 (x.op : Int)) ∧ wr.drew.cell? ⟨b, off + k * 6 + 1, none⟩ = some (.int .i64 x.a) ∧ wr.drew.cell? ⟨b, off + k * 6 + 2, none⟩ = some (.int .i64 x.b) ∧ wr.drew.cell? ⟨b, off + k * 6 + 3, none⟩ = some (.int .i64 x.c) ∧ wr.drew.cell? ⟨b, off + k * 6 + 4, none⟩ = some (.int .i64 x.n) ∧ wr.drew.cell? ⟨b, off + k * 6 + 5, none⟩ = some (.string x.s) ∧ wr.drew.cell? ⟨b', off' + k * 6, none⟩ = some (.int .u8 (x.op : Int)) ∧ wr.drew.cell? ⟨b', off' + k * 6 + 1, none⟩ = some (.int .i64 x.a) ∧ wr.drew.cell? ⟨b', off' + k * 6 + 2, none⟩ = some (.int .i64 x.b) ∧ wr.drew.cell? ⟨b', off' + k * 6 + 3, none⟩ = some (.int .i64 x.c) ∧ wr.drew.cell? ⟨b', off' + k * 6 + 4, none⟩ = some (.int .i64 x.n) ∧ wr.drew.cell? ⟨b', off' + k * 6 + 5, none⟩ = some (.string x.s) := ⟨a0, a1, a2, a3, a4, a5, b0, b1, b2, b3, b4, b5⟩
          clear a0 a1 a2 a3 a4 a5 b0 b1 b2 b3 b4 b5
          go_wp2_with fail
          refine wp_region_held_drew (S := (fun u => u.cell? ⟨b, off + k * 6, none⟩ = some (.int .u8 (x.op : Int)) ∧ u.cell? ⟨b, off + k * 6 + 1, none⟩ = some (.int .i64 x.a) ∧ u.cell? ⟨b, off + k * 6 + 2, none⟩ = some (.int .i64 x.b) ∧ u.cell? ⟨b, off + k * 6 + 3, none⟩ = some (.int .i64 x.c) ∧ u.cell? ⟨b, off + k * 6 + 4, none⟩ = some (.int .i64 x.n) ∧ u.cell? ⟨b, off + k * 6 + 5, none⟩ = some (.string x.s) ∧ u.cell? ⟨b', off' + k * 6, none⟩ = some (.int .u8 (x.op : Int)) ∧ u.cell? ⟨b', off' + k * 6 + 1, none⟩ = some (.int .i64 x.a) ∧ u.cell? ⟨b', off' + k * 6 + 2, none⟩ = some (.int .i64 x.b) ∧ u.cell? ⟨b', off' + k * 6 + 3, none⟩ = some (.int .i64 x.c) ∧ u.cell? ⟨b', off' + k * 6 + 4, none⟩ = some (.int .i64 x.n) ∧ u.cell? ⟨b', off' + k * 6 + 5, none⟩ = some (.string x.s))) (by kernel_rfl) hs0 (fun _ => ?_)
          refine wpAnyH_take (i := 0) (oi := { dst := some 17, op := Go.Op.move (Go.Operand.tmp 0), type := 22, pos := "kit.go:68", after := #[], guard := none }) (v := ?_) rfl (by kernel_rfl) (by kernel_rfl) (by kernel_rfl) (fun _ _ _ h => h) (Or.inl ⟨by rfl, ?hy1⟩) hs0 ?_
          case hy1 =>
            intro u hu
            obtain ⟨u0, u1, u2, u3, u4, u5, u6, u7, u8, u9, u10, u11⟩ := hu
            go_simp
            try with_reducible rfl
          simp only [Act.put, List.setIfInBounds_toArray, List.set_cons_zero, List.set_cons_succ]
          refine wpAnyH_take (i := 1) (oi := { dst := some 18, op := Go.Op.move (Go.Operand.tmp 5), type := 3, pos := "kit.go:68", after := #[], guard := none }) (v := ?_) rfl (by kernel_rfl) (by kernel_rfl) (by kernel_rfl) (fun _ _ _ h => h) (Or.inl ⟨by rfl, ?hy2⟩) hs0 ?_
          case hy2 =>
            intro u hu
            obtain ⟨u0, u1, u2, u3, u4, u5, u6, u7, u8, u9, u10, u11⟩ := hu
            go_simp
            try with_reducible rfl
          simp only [Act.put, List.setIfInBounds_toArray, List.set_cons_zero, List.set_cons_succ]
          refine wpAnyH_take (i := 2) (oi := { dst := some 19, op := Go.Op.indexAddr 22 (Go.Operand.tmp 17) (Go.Operand.tmp 18), type := 0, pos := "kit.go:68", after := #[{ on := 0, ground := Go.Ground.data }, { on := 1, ground := Go.Ground.data }], guard := none }) (v := ?_) rfl (by kernel_rfl) (by kernel_rfl) (by kernel_rfl) (fun _ _ _ h => h) (Or.inl ⟨by rfl, ?hy3⟩) hs0 ?_
          case hy3 =>
            intro u hu
            obtain ⟨u0, u1, u2, u3, u4, u5, u6, u7, u8, u9, u10, u11⟩ := hu
            go_simp
            try with_reducible rfl
          simp only [Act.put, List.setIfInBounds_toArray, List.set_cons_zero, List.set_cons_succ]
          refine wpAnyH_take (i := 3) (oi := { dst := some 20, op := Go.Op.load 28 (Go.Operand.tmp 19), type := 28, pos := "kit.go:68", after := #[{ on := 2, ground := Go.Ground.data }], guard := none }) (v := ?_) rfl (by kernel_rfl) (by kernel_rfl) (by kernel_rfl) (fun _ _ _ h => h) (Or.inl ⟨by rfl, ?hy4⟩) hs0 ?_
          case hy4 =>
            intro u hu
            obtain ⟨u0, u1, u2, u3, u4, u5, u6, u7, u8, u9, u10, u11⟩ := hu
            go_simp
            try with_reducible rfl
          simp only [Act.put, List.setIfInBounds_toArray, List.set_cons_zero, List.set_cons_succ]
          refine wpAnyH_take (i := 4) (oi := { dst := some 21, op := Go.Op.move (Go.Operand.tmp 1), type := 22, pos := "kit.go:68", after := #[], guard := none }) (v := ?_) rfl (by kernel_rfl) (by kernel_rfl) (by kernel_rfl) (fun _ _ _ h => h) (Or.inl ⟨by rfl, ?hy5⟩) hs0 ?_
          case hy5 =>
            intro u hu
            obtain ⟨u0, u1, u2, u3, u4, u5, u6, u7, u8, u9, u10, u11⟩ := hu
            go_simp
            try with_reducible rfl
          simp only [Act.put, List.setIfInBounds_toArray, List.set_cons_zero, List.set_cons_succ]
          refine wpAnyH_take (i := 5) (oi := { dst := some 22, op := Go.Op.move (Go.Operand.tmp 5), type := 3, pos := "kit.go:68", after := #[], guard := none }) (v := ?_) rfl (by kernel_rfl) (by kernel_rfl) (by kernel_rfl) (fun _ _ _ h => h) (Or.inl ⟨by rfl, ?hy6⟩) hs0 ?_
          case hy6 =>
            intro u hu
            obtain ⟨u0, u1, u2, u3, u4, u5, u6, u7, u8, u9, u10, u11⟩ := hu
            go_simp
            try with_reducible rfl
          simp only [Act.put, List.setIfInBounds_toArray, List.set_cons_zero, List.set_cons_succ]
          refine wpAnyH_take (i := 6) (oi := { dst := some 23, op := Go.Op.indexAddr 22 (Go.Operand.tmp 21) (Go.Operand.tmp 22), type := 0, pos := "kit.go:68", after := #[{ on := 4, ground := Go.Ground.data }, { on := 5, ground := Go.Ground.data }], guard := none }) (v := ?_) rfl (by kernel_rfl) (by kernel_rfl) (by kernel_rfl) (fun _ _ _ h => h) (Or.inl ⟨by rfl, ?hy7⟩) hs0 ?_
          case hy7 =>
            intro u hu
            obtain ⟨u0, u1, u2, u3, u4, u5, u6, u7, u8, u9, u10, u11⟩ := hu
            go_simp
            try with_reducible rfl
          simp only [Act.put, List.setIfInBounds_toArray, List.set_cons_zero, List.set_cons_succ]
          refine wpAnyH_take (i := 7) (oi := { dst := some 24, op := Go.Op.load 28 (Go.Operand.tmp 23), type := 28, pos := "kit.go:68", after := #[{ on := 6, ground := Go.Ground.data }], guard := none }) (v := ?_) rfl (by kernel_rfl) (by kernel_rfl) (by kernel_rfl) (fun _ _ _ h => h) (Or.inl ⟨by rfl, ?hy8⟩) hs0 ?_
          case hy8 =>
            intro u hu
            obtain ⟨u0, u1, u2, u3, u4, u5, u6, u7, u8, u9, u10, u11⟩ := hu
            go_simp
            try with_reducible rfl
          simp only [Act.put, List.setIfInBounds_toArray, List.set_cons_zero, List.set_cons_succ]
          refine wpAnyH_take (i := 8) (oi := { dst := some 25, op := Go.Op.binOp Go.BinOp.neq 28 (Go.Operand.tmp 20) (Go.Operand.tmp 24) 28, type := 4, pos := "kit.go:68", after := #[{ on := 3, ground := Go.Ground.data }, { on := 7, ground := Go.Ground.data }], guard := none }) (v := ?_) rfl (by kernel_rfl) (by kernel_rfl) (by kernel_rfl) (fun _ _ _ h => h) (Or.inl ⟨by rfl, ?hy9⟩) hs0 ?_
          case hy9 =>
            intro u hu
            obtain ⟨u0, u1, u2, u3, u4, u5, u6, u7, u8, u9, u10, u11⟩ := hu
            go_simp
            try with_reducible rfl
          simp only [Act.put, List.setIfInBounds_toArray, List.set_cons_zero, List.set_cons_succ]
          refine wpAnyH_done (by kernel_rfl) ?_ _
          go_wp2_with fail
          go_roundw
          case rel => exact ⟨k + 1, hlt, by go_num, HT1, HB.out.drew⟩
          case measure => simp [intOf]; omega

        · have HNE := hide he
          have HF : Hid (R = false) := by
            show R = false
            rw [HR.out, decide_eq_false_iff_not]
            rintro rfl
            exact he (by rw [HX.out, HY.out])
          have hs0 : wr.drew.cell? ⟨b, off + k * 6, none⟩ = some (.int .u8 (x.op : Int)) ∧ wr.drew.cell? ⟨b, off + k * 6 + 1, none⟩ = some (.int .i64 x.a) ∧ wr.drew.cell? ⟨b, off + k * 6 + 2, none⟩ = some (.int .i64 x.b) ∧ wr.drew.cell? ⟨b, off + k * 6 + 3, none⟩ = some (.int .i64 x.c) ∧ wr.drew.cell? ⟨b, off + k * 6 + 4, none⟩ = some (.int .i64 x.n) ∧ wr.drew.cell? ⟨b, off + k * 6 + 5, none⟩ = some (.string x.s) ∧ wr.drew.cell? ⟨b', off' + k * 6, none⟩ = some (.int .u8 (y.op : Int)) ∧ wr.drew.cell? ⟨b', off' + k * 6 + 1, none⟩ = some (.int .i64 y.a) ∧ wr.drew.cell? ⟨b', off' + k * 6 + 2, none⟩ = some (.int .i64 y.b) ∧ wr.drew.cell? ⟨b', off' + k * 6 + 3, none⟩ = some (.int .i64 y.c) ∧ wr.drew.cell? ⟨b', off' + k * 6 + 4, none⟩ = some (.int .i64 y.n) ∧ wr.drew.cell? ⟨b', off' + k * 6 + 5, none⟩ = some (.string y.s) := ⟨a0, a1, a2, a3, a4, a5, b0, b1, b2, b3, b4, b5⟩
          clear a0 a1 a2 a3 a4 a5 b0 b1 b2 b3 b4 b5
          go_wp2_with fail
          refine wp_region_held_drew (S := (fun u => u.cell? ⟨b, off + k * 6, none⟩ = some (.int .u8 (x.op : Int)) ∧ u.cell? ⟨b, off + k * 6 + 1, none⟩ = some (.int .i64 x.a) ∧ u.cell? ⟨b, off + k * 6 + 2, none⟩ = some (.int .i64 x.b) ∧ u.cell? ⟨b, off + k * 6 + 3, none⟩ = some (.int .i64 x.c) ∧ u.cell? ⟨b, off + k * 6 + 4, none⟩ = some (.int .i64 x.n) ∧ u.cell? ⟨b, off + k * 6 + 5, none⟩ = some (.string x.s) ∧ u.cell? ⟨b', off' + k * 6, none⟩ = some (.int .u8 (y.op : Int)) ∧ u.cell? ⟨b', off' + k * 6 + 1, none⟩ = some (.int .i64 y.a) ∧ u.cell? ⟨b', off' + k * 6 + 2, none⟩ = some (.int .i64 y.b) ∧ u.cell? ⟨b', off' + k * 6 + 3, none⟩ = some (.int .i64 y.c) ∧ u.cell? ⟨b', off' + k * 6 + 4, none⟩ = some (.int .i64 y.n) ∧ u.cell? ⟨b', off' + k * 6 + 5, none⟩ = some (.string y.s))) (by kernel_rfl) hs0 (fun _ => ?_)
          refine wpAnyH_take (i := 0) (oi := { dst := some 17, op := Go.Op.move (Go.Operand.tmp 0), type := 22, pos := "kit.go:68", after := #[], guard := none }) (v := ?_) rfl (by kernel_rfl) (by kernel_rfl) (by kernel_rfl) (fun _ _ _ h => h) (Or.inl ⟨by rfl, ?hy10⟩) hs0 ?_
          case hy10 =>
            intro u hu
            obtain ⟨u0, u1, u2, u3, u4, u5, u6, u7, u8, u9, u10, u11⟩ := hu
            go_simp
            try with_reducible rfl
          simp only [Act.put, List.setIfInBounds_toArray, List.set_cons_zero, List.set_cons_succ]
          refine wpAnyH_take (i := 1) (oi := { dst := some 18, op := Go.Op.move (Go.Operand.tmp 5), type := 3, pos := "kit.go:68", after := #[], guard := none }) (v := ?_) rfl (by kernel_rfl) (by kernel_rfl) (by kernel_rfl) (fun _ _ _ h => h) (Or.inl ⟨by rfl, ?hy11⟩) hs0 ?_
          case hy11 =>
            intro u hu
            obtain ⟨u0, u1, u2, u3, u4, u5, u6, u7, u8, u9, u10, u11⟩ := hu
            go_simp
            try with_reducible rfl
          simp only [Act.put, List.setIfInBounds_toArray, List.set_cons_zero, List.set_cons_succ]
          refine wpAnyH_take (i := 2) (oi := { dst := some 19, op := Go.Op.indexAddr 22 (Go.Operand.tmp 17) (Go.Operand.tmp 18), type := 0, pos := "kit.go:68", after := #[{ on := 0, ground := Go.Ground.data }, { on := 1, ground := Go.Ground.data }], guard := none }) (v := ?_) rfl (by kernel_rfl) (by kernel_rfl) (by kernel_rfl) (fun _ _ _ h => h) (Or.inl ⟨by rfl, ?hy12⟩) hs0 ?_
          case hy12 =>
            intro u hu
            obtain ⟨u0, u1, u2, u3, u4, u5, u6, u7, u8, u9, u10, u11⟩ := hu
            go_simp
            try with_reducible rfl
          simp only [Act.put, List.setIfInBounds_toArray, List.set_cons_zero, List.set_cons_succ]
          refine wpAnyH_take (i := 3) (oi := { dst := some 20, op := Go.Op.load 28 (Go.Operand.tmp 19), type := 28, pos := "kit.go:68", after := #[{ on := 2, ground := Go.Ground.data }], guard := none }) (v := ?_) rfl (by kernel_rfl) (by kernel_rfl) (by kernel_rfl) (fun _ _ _ h => h) (Or.inl ⟨by rfl, ?hy13⟩) hs0 ?_
          case hy13 =>
            intro u hu
            obtain ⟨u0, u1, u2, u3, u4, u5, u6, u7, u8, u9, u10, u11⟩ := hu
            go_simp
            try with_reducible rfl
          simp only [Act.put, List.setIfInBounds_toArray, List.set_cons_zero, List.set_cons_succ]
          refine wpAnyH_take (i := 4) (oi := { dst := some 21, op := Go.Op.move (Go.Operand.tmp 1), type := 22, pos := "kit.go:68", after := #[], guard := none }) (v := ?_) rfl (by kernel_rfl) (by kernel_rfl) (by kernel_rfl) (fun _ _ _ h => h) (Or.inl ⟨by rfl, ?hy14⟩) hs0 ?_
          case hy14 =>
            intro u hu
            obtain ⟨u0, u1, u2, u3, u4, u5, u6, u7, u8, u9, u10, u11⟩ := hu
            go_simp
            try with_reducible rfl
          simp only [Act.put, List.setIfInBounds_toArray, List.set_cons_zero, List.set_cons_succ]
          refine wpAnyH_take (i := 5) (oi := { dst := some 22, op := Go.Op.move (Go.Operand.tmp 5), type := 3, pos := "kit.go:68", after := #[], guard := none }) (v := ?_) rfl (by kernel_rfl) (by kernel_rfl) (by kernel_rfl) (fun _ _ _ h => h) (Or.inl ⟨by rfl, ?hy15⟩) hs0 ?_
          case hy15 =>
            intro u hu
            obtain ⟨u0, u1, u2, u3, u4, u5, u6, u7, u8, u9, u10, u11⟩ := hu
            go_simp
            try with_reducible rfl
          simp only [Act.put, List.setIfInBounds_toArray, List.set_cons_zero, List.set_cons_succ]
          refine wpAnyH_take (i := 6) (oi := { dst := some 23, op := Go.Op.indexAddr 22 (Go.Operand.tmp 21) (Go.Operand.tmp 22), type := 0, pos := "kit.go:68", after := #[{ on := 4, ground := Go.Ground.data }, { on := 5, ground := Go.Ground.data }], guard := none }) (v := ?_) rfl (by kernel_rfl) (by kernel_rfl) (by kernel_rfl) (fun _ _ _ h => h) (Or.inl ⟨by rfl, ?hy16⟩) hs0 ?_
          case hy16 =>
            intro u hu
            obtain ⟨u0, u1, u2, u3, u4, u5, u6, u7, u8, u9, u10, u11⟩ := hu
            go_simp
            try with_reducible rfl
          simp only [Act.put, List.setIfInBounds_toArray, List.set_cons_zero, List.set_cons_succ]
          refine wpAnyH_take (i := 7) (oi := { dst := some 24, op := Go.Op.load 28 (Go.Operand.tmp 23), type := 28, pos := "kit.go:68", after := #[{ on := 6, ground := Go.Ground.data }], guard := none }) (v := ?_) rfl (by kernel_rfl) (by kernel_rfl) (by kernel_rfl) (fun _ _ _ h => h) (Or.inl ⟨by rfl, ?hy17⟩) hs0 ?_
          case hy17 =>
            intro u hu
            obtain ⟨u0, u1, u2, u3, u4, u5, u6, u7, u8, u9, u10, u11⟩ := hu
            go_simp
            try with_reducible rfl
          simp only [Act.put, List.setIfInBounds_toArray, List.set_cons_zero, List.set_cons_succ]
          refine wpAnyH_take (i := 8) (oi := { dst := some 25, op := Go.Op.binOp Go.BinOp.neq 28 (Go.Operand.tmp 20) (Go.Operand.tmp 24) 28, type := 4, pos := "kit.go:68", after := #[{ on := 3, ground := Go.Ground.data }, { on := 7, ground := Go.Ground.data }], guard := none }) (v := .bool true) rfl (by kernel_rfl) (by kernel_rfl) (by kernel_rfl) (fun _ _ _ h => h) (Or.inl ⟨by rfl, ?hy18⟩) hs0 ?_
          case hy18 =>
            intro u hu
            obtain ⟨u0, u1, u2, u3, u4, u5, u6, u7, u8, u9, u10, u11⟩ := hu
            go_simp
            try show _ = _
            first | exact neq_chain x y HNE.out _ _ | (intro hq1 hq2 hq3 hq4 hq5 hq6; exact HNE.out (Ins.eq_of (by omega) hq2 hq3 hq4 hq5 (ByteArray.ext (Array.toList_inj.1 (by simpa [ByteArray.toList_eq] using hq6))))) | trace_state
          simp only [Act.put, List.setIfInBounds_toArray, List.set_cons_zero, List.set_cons_succ]
          refine wpAnyH_done (by kernel_rfl) ?_ _
          go_wp2_with fail
          go_ret
          exact ⟨by rw [HF.out]; rfl, HB.out.drew⟩

      · have hkn : k = n := by omega
        subst hkn
        go_wp2
        go_ret
        refine ⟨?_, HB.out⟩
        have hlm : l = m := by
          have := HT.out
          rw [List.take_of_length_le (by rw [← HN.out]; exact Nat.le_refl _), List.take_of_length_le (by rw [HM.out]; exact Nat.le_refl _)] at this
          exact this
        rw [HR.out, decide_eq_true hlm]
        rfl
  · have hne : ¬ ((l.length : Int) = (m.length : Int)) := by omega
    go_enter Tryd.func41, Tryd.ntmps41
    go_wp2
    go_ret
    refine ⟨?_, Below.refl _ _⟩
    rw [decide_eq_false (fun e => hlen (by rw [e]))]
    rfl
end Go.Proofs.YtpiiehenmkinaaaDoor
