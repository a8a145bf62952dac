/-
  The contract of told: outcomes, of each number the first one alone. Own work.
-/
import Derived.Test.YtlngeonfabahnaaDoorLd
import Derived.Deep.RegionHeld
namespace Go.Proofs.YtlngeonfabahnaaDoor
open Go Go.RowKit
set_option linter.unusedSimpArgs false
set_option linter.unusedVariables false

def anyT (out : List (Int × Oc)) (x : Int × Oc) : Bool := out.any fun k => k.1 == x.1
def addT (out : List (Int × Oc)) (x : Int × Oc) : List (Int × Oc) := if anyT out x = true then out else out ++ [x]
def toldP (l : List (Int × Oc)) : List (Int × Oc) := (l.take 300).foldl addT []
theorem addT_len (out : List (Int × Oc)) (x : Int × Oc) : (addT out x).length ≤ out.length + 1 := by
  unfold addT
  split <;> simp
theorem foldT_len (l out : List (Int × Oc)) : (l.foldl addT out).length ≤ out.length + l.length := by
  induction l generalizing out with
  | nil => simp
  | cons x t ih =>
    rw [List.foldl_cons, List.length_cons]
    have h1 := ih (addT out x)
    have h2 := addT_len out x
    omega
theorem told_len (l : List (Int × Oc)) : (toldP l).length ≤ 300 := by
  have := foldT_len (l.take 300) []
  have h : (l.take 300).length ≤ 300 := List.length_take_le _ _
  unfold toldP
  simp at this
  omega
theorem fold_snoc (l : List (Int × Oc)) (k : Nat) (h : k < l.length) : (l.take (k + 1)).foldl addT [] = addT ((l.take k).foldl addT []) l[k] := by
  rw [List.take_succ_eq_append_getElem h, List.foldl_append]
  rfl
/-- outcomes in a row of a call's own -/
def OwnK (w : World) (base : Nat) (v : Value) (l : List (Int × Oc)) : Prop := OwnX w base 47 3 v (l.map knC)
theorem OwnK.rd {w : World} {base : Nat} {v : Value} {l : List (Int × Oc)} (h : OwnK w base v l) : RdK w v l := OwnX.rd h
theorem OwnK.below {w w' : World} {base : Nat} {v : Value} {l : List (Int × Oc)} (h : OwnK w base v l) (hb : Below w.heap.size w w') : OwnK w' base v l := OwnX.below h hb
theorem OwnK.append1 {w : World} {base : Nat} {v : Value} {l : List (Int × Oc)} (h : OwnK w base v l) (x : Int × Oc) (hl : l.length ≤ 100000) (hb : base ≤ w.heap.size) :
    ∃ v' w', (Builtin.append_ #[25, 25] 25 #[v, .slice (some ⟨w.heap.size, 0, none⟩) 1 1]).run Tryd.prog (w.alloc (.cells #[.int .i64 x.1, .int .i64 x.2.1, .int .i64 x.2.2] 47)) = .ok v' w' ∧ OwnK w' base v' (l ++ [x]) ∧ Below base w w' := by
  have hrd := RdX.lit w #[.int .i64 x.1, .int .i64 x.2.1, .int .i64 x.2.2] 3 1 ([x].map knC) 47 rfl rfl (full_kn _) (by unfold maxLen; omega)
  obtain ⟨v', w', hr, ho, -, hbl⟩ := OwnX.append rt25 (OwnX.alloc h _) hrd (full_kn _) (by simp; omega) (Nat.le_trans hb (by simp)) 25
  refine ⟨v', w', hr, ?_, ((Below.refl base w).alloc hb _).trans hbl⟩
  unfold OwnK
  rw [List.map_append]
  exact ho

set_option maxRecDepth 100000 in
set_option maxHeartbeats 3200000 in
theorem told_any (v : Value) (l : List (Int × Oc)) (w : World) (h : RdK w v l) :
    Calls Tryd.prog 15 #[v] w fun e w' => ∃ u, e = .returned u ∧ OwnK w' w.heap.size u (toldP l) ∧ Below w.heap.size w w' := by
  obtain ⟨ao, cap, hv, hc1, hc2⟩ := RdK.shape h
  subst hv
  have HR := hide h
  obtain ⟨n, HN⟩ := named l.length
  rw [← HN.out] at HR hc1 ⊢
  have hnb : n ≤ 9223372036854775807 := by unfold maxLen at hc2; omega
  clear h
  go_enter Tryd.func15, Tryd.ntmps15
  go_wp2
  go_loopw [3, 4] (fun u i wr => ∃ k : Nat, k ≤ n ∧ k ≤ 300 ∧ i = .int .i64 k ∧ Hid (OwnK wr w.heap.size u ((l.take k).foldl addT [])) ∧ Hid (Below w.heap.size w wr)) (fun _ i _ => n - (intOf i).toNat)
  case atStart => exact ⟨0, Nat.zero_le _, Nat.zero_le _, rfl, OwnX.nil _ _ _ _, Below.refl _ _⟩
  case round =>
    obtain ⟨k, hk, hk3, rfl, HO, HB⟩ := hrel
    by_cases hlt : k < n
    · have hkI : (k : Int) < (n : Int) := by omega
      by_cases hlt3 : k < 300
      · have hkJ : (k : Int) < 300 := by omega
        obtain ⟨b, off, hab, hbl, a0, a1, a2⟩ := RdK.at (RdX.below HR.out HB.out) k (by rw [← HN.out]; exact hlt)
        subst hab
        have htk := fold_snoc l k (by rw [← HN.out]; exact hlt)
        obtain ⟨x, HX⟩ := named (l[k]'(by rw [← HN.out]; exact hlt))
        rw [← HX.out] at a0 a1 a2 htk
        obtain ⟨uo, uc, huv, hu1, hu2⟩ := RdK.shape HO.out.rd
        have hql : ((l.take k).foldl addT []).length ≤ 300 := by
          have h1 := foldT_len (l.take k) []
          have h2 : (l.take k).length ≤ k := List.length_take_le _ _
          simp at h1
          omega
        obtain ⟨out, HOUT⟩ := named ((l.take k).foldl addT [])
        rw [← HOUT.out] at HO htk hql huv hu1
        obtain ⟨q, HQ⟩ := named out.length
        rw [← HQ.out] at hql huv hu1
        subst huv
        have HTK := hide htk
        have A0 := hide a0
        have A1 := hide a1
        have A2 := hide a2
        have HBL := hide hbl
        clear htk a0 a1 a2
        go_wp2_with fail
        go_loopw [5, 20] (fun th ix wr2 => ∃ j : Nat, j ≤ q ∧ ix = .int .i64 j ∧ th = .bool (anyT (out.take j) x) ∧ Hid (Below wr.heap.size wr wr2)) (fun _ ix _ => q - (intOf ix).toNat)
        case atStart => exact ⟨0, Nat.zero_le _, rfl, rfl, Below.refl _ _⟩
        case round =>
          obtain ⟨j, hj, rfl, rfl, HBi⟩ := hrel
          by_cases hjq : j < q
          · have hjI : (j : Int) < (q : Int) := by omega
            obtain ⟨g, goff, hgo, hgl, c0, c1, c2⟩ := RdK.at (HO.out.below HBi.out).rd j (by rw [← HQ.out]; exact hjq)
            subst hgo
            have htj : anyT (out.take (j + 1)) x = (anyT (out.take j) x || ((out[j]'(by rw [← HQ.out]; exact hjq)).1 == x.1)) := by
              unfold anyT
              rw [List.take_succ_eq_append_getElem (by rw [← HQ.out]; exact hjq), List.any_append]
              simp
            obtain ⟨y, HY⟩ := named (out[j]'(by rw [← HQ.out]; exact hjq))
            rw [← HY.out] at c0 c1 c2 htj
            obtain ⟨yn, ys, yv⟩ := y
            simp only at c0 c1 c2 htj
            have a0 := (HBi.out.cell (p := ⟨b, off + k * 3, none⟩) HBL.out).trans A0.out
            obtain ⟨W2, HW2⟩ := named (wr.alloc (.cells #[.int .i64 yn, .int .i64 ys, .int .i64 yv] 47))
            obtain ⟨yb, HYB⟩ := named wr.heap.size
            have hb2 : Below wr.heap.size wr W2 := by rw [HW2.out]; exact (Below.refl _ _).alloc (Nat.le_refl _) _
            have e0 : W2.drew.cell? ⟨yb, 0, none⟩ = some (.int .i64 yn) := by rw [HW2.out, HYB.out]; exact (cell_of_row _ wr.heap.size 0 _ 47 (0, 0) (heap_alloc_new wr _)).trans rfl
            have e1 : W2.drew.cell? ⟨b, off + k * 3, none⟩ = some (.int .i64 x.1) := (hb2.cell (p := ⟨b, off + k * 3, none⟩) (Nat.lt_of_lt_of_le HBL.out HBi.out.size)).trans a0
            have HB2 := hide (HBi.out.trans (hb2.mono HBi.out.size))
            have hs0 : W2.drew.cell? ⟨yb, 0, none⟩ = some (.int .i64 yn) ∧ W2.drew.cell? ⟨b, off + k * 3, none⟩ = some (.int .i64 x.1) := ⟨e0, e1⟩
            have HTJ := hide htj
            clear hb2 e0 e1 htj a0
            obtain ⟨th, HTH⟩ := named (anyT (out.take j) x)
            rw [← HTH.out] at HTJ ⊢
            cases th with
            | true =>
              go_wp2_with fail
              rw [← HW2.out, ← HYB.out]
              refine wp_region_held_drew (S := (fun u => u.cell? ⟨yb, 0, none⟩ = some (.int .i64 yn) ∧ u.cell? ⟨b, off + k * 3, none⟩ = some (.int .i64 x.1))) (by kernel_rfl) hs0 (fun _ => ?_)
              refine wpAnyH_take (i := 0) (oi := { dst := some 24, op := Go.Op.move (Go.Operand.tmp 5), type := 4, pos := "outright.go:18", after := #[], guard := none }) (v := ?_) rfl (by kernel_rfl) (by kernel_rfl) (by kernel_rfl) (fun _ _ _ h => h) (Or.inl ⟨by rfl, ?hy1⟩) hs0 ?_
              case hy1 =>
                intro u hu
                obtain ⟨u0, u1⟩ := hu
                go_simp
                try with_reducible rfl
              simp only [Act.put, List.setIfInBounds_toArray, List.set_cons_zero, List.set_cons_succ]
              refine wpAnyH_take (i := 1) (oi := { dst := some 25, op := Go.Op.move (Go.Operand.tmp 24), type := 4, pos := "outright.go:18", after := #[{ on := 0, ground := Go.Ground.data }], guard := none }) (v := ?_) rfl (by kernel_rfl) (by kernel_rfl) (by kernel_rfl) (fun _ _ _ h => h) (Or.inl ⟨by rfl, ?hy2⟩) hs0 ?_
              case hy2 =>
                intro u hu
                obtain ⟨u0, u1⟩ := hu
                go_simp
                try with_reducible rfl
              simp only [Act.put, List.setIfInBounds_toArray, List.set_cons_zero, List.set_cons_succ]
              refine wpAnyH_take (i := 2) (oi := { dst := some 26, op := Go.Op.fieldAddr 47 (Go.Operand.tmp 7) 0, type := 0, pos := "outright.go:18", after := #[{ on := 1, ground := Go.Ground.guard }], guard := some (1, false) }) (v := undef) rfl (by kernel_rfl) (by kernel_rfl) (by kernel_rfl) (fun _ _ _ h => h) (Or.inr ⟨by rfl, rfl⟩) hs0 ?_
              simp only [Act.put, List.setIfInBounds_toArray, List.set_cons_zero, List.set_cons_succ]
              refine wpAnyH_take (i := 3) (oi := { dst := some 27, op := Go.Op.load 3 (Go.Operand.tmp 26), type := 3, pos := "outright.go:18", after := #[{ on := 2, ground := Go.Ground.data }, { on := 1, ground := Go.Ground.guard }], guard := some (1, false) }) (v := undef) rfl (by kernel_rfl) (by kernel_rfl) (by kernel_rfl) (fun _ _ _ h => h) (Or.inr ⟨by rfl, rfl⟩) hs0 ?_
              simp only [Act.put, List.setIfInBounds_toArray, List.set_cons_zero, List.set_cons_succ]
              refine wpAnyH_take (i := 4) (oi := { dst := some 28, op := Go.Op.move (Go.Operand.tmp 0), type := 25, pos := "outright.go:18", after := #[{ on := 1, ground := Go.Ground.guard }], guard := some (1, false) }) (v := undef) rfl (by kernel_rfl) (by kernel_rfl) (by kernel_rfl) (fun _ _ _ h => h) (Or.inr ⟨by rfl, rfl⟩) hs0 ?_
              simp only [Act.put, List.setIfInBounds_toArray, List.set_cons_zero, List.set_cons_succ]
              refine wpAnyH_take (i := 5) (oi := { dst := some 29, op := Go.Op.move (Go.Operand.tmp 4), type := 3, pos := "outright.go:18", after := #[{ on := 1, ground := Go.Ground.guard }], guard := some (1, false) }) (v := undef) rfl (by kernel_rfl) (by kernel_rfl) (by kernel_rfl) (fun _ _ _ h => h) (Or.inr ⟨by rfl, rfl⟩) hs0 ?_
              simp only [Act.put, List.setIfInBounds_toArray, List.set_cons_zero, List.set_cons_succ]
              refine wpAnyH_take (i := 6) (oi := { dst := some 30, op := Go.Op.indexAddr 25 (Go.Operand.tmp 28) (Go.Operand.tmp 29), type := 0, pos := "outright.go:18", after := #[{ on := 4, ground := Go.Ground.data }, { on := 5, ground := Go.Ground.data }, { on := 1, ground := Go.Ground.guard }], guard := some (1, false) }) (v := undef) rfl (by kernel_rfl) (by kernel_rfl) (by kernel_rfl) (fun _ _ _ h => h) (Or.inr ⟨by rfl, rfl⟩) hs0 ?_
              simp only [Act.put, List.setIfInBounds_toArray, List.set_cons_zero, List.set_cons_succ]
              refine wpAnyH_take (i := 7) (oi := { dst := some 31, op := Go.Op.fieldAddr 47 (Go.Operand.tmp 30) 0, type := 0, pos := "outright.go:18", after := #[{ on := 6, ground := Go.Ground.data }, { on := 1, ground := Go.Ground.guard }], guard := some (1, false) }) (v := undef) rfl (by kernel_rfl) (by kernel_rfl) (by kernel_rfl) (fun _ _ _ h => h) (Or.inr ⟨by rfl, rfl⟩) hs0 ?_
              simp only [Act.put, List.setIfInBounds_toArray, List.set_cons_zero, List.set_cons_succ]
              refine wpAnyH_take (i := 8) (oi := { dst := some 32, op := Go.Op.load 3 (Go.Operand.tmp 31), type := 3, pos := "outright.go:18", after := #[{ on := 7, ground := Go.Ground.data }, { on := 1, ground := Go.Ground.guard }], guard := some (1, false) }) (v := undef) rfl (by kernel_rfl) (by kernel_rfl) (by kernel_rfl) (fun _ _ _ h => h) (Or.inr ⟨by rfl, rfl⟩) hs0 ?_
              simp only [Act.put, List.setIfInBounds_toArray, List.set_cons_zero, List.set_cons_succ]
              refine wpAnyH_take (i := 9) (oi := { dst := some 33, op := Go.Op.binOp Go.BinOp.eql 3 (Go.Operand.tmp 27) (Go.Operand.tmp 32) 3, type := 4, pos := "outright.go:18", after := #[{ on := 3, ground := Go.Ground.data }, { on := 8, ground := Go.Ground.data }, { on := 1, ground := Go.Ground.guard }], guard := some (1, false) }) (v := undef) rfl (by kernel_rfl) (by kernel_rfl) (by kernel_rfl) (fun _ _ _ h => h) (Or.inr ⟨by rfl, rfl⟩) hs0 ?_
              simp only [Act.put, List.setIfInBounds_toArray, List.set_cons_zero, List.set_cons_succ]
              refine wpAnyH_take (i := 10) (oi := { dst := some 34, op := Go.Op.pick (Go.Operand.tmp 25) (Go.Operand.const (Go.Value.bool true)) (Go.Operand.tmp 33), type := 4, pos := "outright.go:18", after := #[{ on := 1, ground := Go.Ground.data }, { on := 9, ground := Go.Ground.data }], guard := none }) (v := ?_) rfl (by kernel_rfl) (by kernel_rfl) (by kernel_rfl) (fun _ _ _ h => h) (Or.inl ⟨by rfl, ?hy11⟩) hs0 ?_
              case hy11 =>
                intro u hu
                obtain ⟨u0, u1⟩ := hu
                go_simp
                try with_reducible rfl
              simp only [Act.put, List.setIfInBounds_toArray, List.set_cons_zero, List.set_cons_succ]
              refine wpAnyH_ready (rs := [11]) (by kernel_rfl) (by simp) ?_
              refine AllReadyH.cons (o := { dst := some 5, op := Go.Op.assign (Go.Operand.tmp 34), type := 4, pos := "outright.go:18", after := #[{ on := 10, ground := Go.Ground.data }, { on := 1, ground := Go.Ground.chain }, { on := 0, ground := Go.Ground.phase }, { on := 1, ground := Go.Ground.phase }, { on := 2, ground := Go.Ground.phase }, { on := 3, ground := Go.Ground.phase }, { on := 4, ground := Go.Ground.phase }, { on := 5, ground := Go.Ground.phase }, { on := 6, ground := Go.Ground.phase }, { on := 7, ground := Go.Ground.phase }, { on := 8, ground := Go.Ground.phase }, { on := 9, ground := Go.Ground.phase }, { on := 10, ground := Go.Ground.phase }], guard := none }) rfl (fun K hK => ?_) AllReadyH.nil
              go_simp
              refine hK.out _ _ hs0 (fun _ => ?_)
              clear hK K
              try simp only [Act.put, List.setIfInBounds_toArray, List.set_cons_zero, List.set_cons_succ]
              refine wpAnyH_done (by kernel_rfl) ?_ _
              go_wp2_with fail
              go_roundw
              case rel => exact ⟨j + 1, hjq, by go_num, by rw [HTJ.out]; rfl, HB2.out.drew⟩
              case measure => simp [intOf]; omega
            | false =>
              go_wp2_with fail
              rw [← HW2.out, ← HYB.out]
              refine wp_region_held_drew (S := (fun u => u.cell? ⟨yb, 0, none⟩ = some (.int .i64 yn) ∧ u.cell? ⟨b, off + k * 3, none⟩ = some (.int .i64 x.1))) (by kernel_rfl) hs0 (fun _ => ?_)
              refine wpAnyH_take (i := 0) (oi := { dst := some 24, op := Go.Op.move (Go.Operand.tmp 5), type := 4, pos := "outright.go:18", after := #[], guard := none }) (v := ?_) rfl (by kernel_rfl) (by kernel_rfl) (by kernel_rfl) (fun _ _ _ h => h) (Or.inl ⟨by rfl, ?hy13⟩) hs0 ?_
              case hy13 =>
                intro u hu
                obtain ⟨u0, u1⟩ := hu
                go_simp
                try with_reducible rfl
              simp only [Act.put, List.setIfInBounds_toArray, List.set_cons_zero, List.set_cons_succ]
              refine wpAnyH_take (i := 1) (oi := { dst := some 25, op := Go.Op.move (Go.Operand.tmp 24), type := 4, pos := "outright.go:18", after := #[{ on := 0, ground := Go.Ground.data }], guard := none }) (v := ?_) rfl (by kernel_rfl) (by kernel_rfl) (by kernel_rfl) (fun _ _ _ h => h) (Or.inl ⟨by rfl, ?hy14⟩) hs0 ?_
              case hy14 =>
                intro u hu
                obtain ⟨u0, u1⟩ := hu
                go_simp
                try with_reducible rfl
              simp only [Act.put, List.setIfInBounds_toArray, List.set_cons_zero, List.set_cons_succ]
              refine wpAnyH_take (i := 2) (oi := { dst := some 26, op := Go.Op.fieldAddr 47 (Go.Operand.tmp 7) 0, type := 0, pos := "outright.go:18", after := #[{ on := 1, ground := Go.Ground.guard }], guard := some (1, false) }) (v := ?_) rfl (by kernel_rfl) (by kernel_rfl) (by kernel_rfl) (fun _ _ _ h => h) (Or.inl ⟨by rfl, ?hy15⟩) hs0 ?_
              case hy15 =>
                intro u hu
                obtain ⟨u0, u1⟩ := hu
                go_simp
                try with_reducible rfl
              simp only [Act.put, List.setIfInBounds_toArray, List.set_cons_zero, List.set_cons_succ]
              refine wpAnyH_take (i := 3) (oi := { dst := some 27, op := Go.Op.load 3 (Go.Operand.tmp 26), type := 3, pos := "outright.go:18", after := #[{ on := 2, ground := Go.Ground.data }, { on := 1, ground := Go.Ground.guard }], guard := some (1, false) }) (v := ?_) rfl (by kernel_rfl) (by kernel_rfl) (by kernel_rfl) (fun _ _ _ h => h) (Or.inl ⟨by rfl, ?hy16⟩) hs0 ?_
              case hy16 =>
                intro u hu
                obtain ⟨u0, u1⟩ := hu
                go_simp
                try with_reducible rfl
              simp only [Act.put, List.setIfInBounds_toArray, List.set_cons_zero, List.set_cons_succ]
              refine wpAnyH_take (i := 4) (oi := { dst := some 28, op := Go.Op.move (Go.Operand.tmp 0), type := 25, pos := "outright.go:18", after := #[{ on := 1, ground := Go.Ground.guard }], guard := some (1, false) }) (v := ?_) rfl (by kernel_rfl) (by kernel_rfl) (by kernel_rfl) (fun _ _ _ h => h) (Or.inl ⟨by rfl, ?hy17⟩) hs0 ?_
              case hy17 =>
                intro u hu
                obtain ⟨u0, u1⟩ := hu
                go_simp
                try with_reducible rfl
              simp only [Act.put, List.setIfInBounds_toArray, List.set_cons_zero, List.set_cons_succ]
              refine wpAnyH_take (i := 5) (oi := { dst := some 29, op := Go.Op.move (Go.Operand.tmp 4), type := 3, pos := "outright.go:18", after := #[{ on := 1, ground := Go.Ground.guard }], guard := some (1, false) }) (v := ?_) rfl (by kernel_rfl) (by kernel_rfl) (by kernel_rfl) (fun _ _ _ h => h) (Or.inl ⟨by rfl, ?hy18⟩) hs0 ?_
              case hy18 =>
                intro u hu
                obtain ⟨u0, u1⟩ := hu
                go_simp
                try with_reducible rfl
              simp only [Act.put, List.setIfInBounds_toArray, List.set_cons_zero, List.set_cons_succ]
              refine wpAnyH_take (i := 6) (oi := { dst := some 30, op := Go.Op.indexAddr 25 (Go.Operand.tmp 28) (Go.Operand.tmp 29), type := 0, pos := "outright.go:18", after := #[{ on := 4, ground := Go.Ground.data }, { on := 5, ground := Go.Ground.data }, { on := 1, ground := Go.Ground.guard }], guard := some (1, false) }) (v := ?_) rfl (by kernel_rfl) (by kernel_rfl) (by kernel_rfl) (fun _ _ _ h => h) (Or.inl ⟨by rfl, ?hy19⟩) hs0 ?_
              case hy19 =>
                intro u hu
                obtain ⟨u0, u1⟩ := hu
                go_simp
                try with_reducible rfl
              simp only [Act.put, List.setIfInBounds_toArray, List.set_cons_zero, List.set_cons_succ]
              refine wpAnyH_take (i := 7) (oi := { dst := some 31, op := Go.Op.fieldAddr 47 (Go.Operand.tmp 30) 0, type := 0, pos := "outright.go:18", after := #[{ on := 6, ground := Go.Ground.data }, { on := 1, ground := Go.Ground.guard }], guard := some (1, false) }) (v := ?_) rfl (by kernel_rfl) (by kernel_rfl) (by kernel_rfl) (fun _ _ _ h => h) (Or.inl ⟨by rfl, ?hy20⟩) hs0 ?_
              case hy20 =>
                intro u hu
                obtain ⟨u0, u1⟩ := hu
                go_simp
                try with_reducible rfl
              simp only [Act.put, List.setIfInBounds_toArray, List.set_cons_zero, List.set_cons_succ]
              refine wpAnyH_take (i := 8) (oi := { dst := some 32, op := Go.Op.load 3 (Go.Operand.tmp 31), type := 3, pos := "outright.go:18", after := #[{ on := 7, ground := Go.Ground.data }, { on := 1, ground := Go.Ground.guard }], guard := some (1, false) }) (v := ?_) rfl (by kernel_rfl) (by kernel_rfl) (by kernel_rfl) (fun _ _ _ h => h) (Or.inl ⟨by rfl, ?hy21⟩) hs0 ?_
              case hy21 =>
                intro u hu
                obtain ⟨u0, u1⟩ := hu
                go_simp
                try with_reducible rfl
              simp only [Act.put, List.setIfInBounds_toArray, List.set_cons_zero, List.set_cons_succ]
              refine wpAnyH_take (i := 9) (oi := { dst := some 33, op := Go.Op.binOp Go.BinOp.eql 3 (Go.Operand.tmp 27) (Go.Operand.tmp 32) 3, type := 4, pos := "outright.go:18", after := #[{ on := 3, ground := Go.Ground.data }, { on := 8, ground := Go.Ground.data }, { on := 1, ground := Go.Ground.guard }], guard := some (1, false) }) (v := ?_) rfl (by kernel_rfl) (by kernel_rfl) (by kernel_rfl) (fun _ _ _ h => h) (Or.inl ⟨by rfl, ?hy22⟩) hs0 ?_
              case hy22 =>
                intro u hu
                obtain ⟨u0, u1⟩ := hu
                go_simp
                try with_reducible rfl
              simp only [Act.put, List.setIfInBounds_toArray, List.set_cons_zero, List.set_cons_succ]
              refine wpAnyH_take (i := 10) (oi := { dst := some 34, op := Go.Op.pick (Go.Operand.tmp 25) (Go.Operand.const (Go.Value.bool true)) (Go.Operand.tmp 33), type := 4, pos := "outright.go:18", after := #[{ on := 1, ground := Go.Ground.data }, { on := 9, ground := Go.Ground.data }], guard := none }) (v := ?_) rfl (by kernel_rfl) (by kernel_rfl) (by kernel_rfl) (fun _ _ _ h => h) (Or.inl ⟨by rfl, ?hy23⟩) hs0 ?_
              case hy23 =>
                intro u hu
                obtain ⟨u0, u1⟩ := hu
                go_simp
                try with_reducible rfl
              simp only [Act.put, List.setIfInBounds_toArray, List.set_cons_zero, List.set_cons_succ]
              refine wpAnyH_ready (rs := [11]) (by kernel_rfl) (by simp) ?_
              refine AllReadyH.cons (o := { dst := some 5, op := Go.Op.assign (Go.Operand.tmp 34), type := 4, pos := "outright.go:18", after := #[{ on := 10, ground := Go.Ground.data }, { on := 1, ground := Go.Ground.chain }, { on := 0, ground := Go.Ground.phase }, { on := 1, ground := Go.Ground.phase }, { on := 2, ground := Go.Ground.phase }, { on := 3, ground := Go.Ground.phase }, { on := 4, ground := Go.Ground.phase }, { on := 5, ground := Go.Ground.phase }, { on := 6, ground := Go.Ground.phase }, { on := 7, ground := Go.Ground.phase }, { on := 8, ground := Go.Ground.phase }, { on := 9, ground := Go.Ground.phase }, { on := 10, ground := Go.Ground.phase }], guard := none }) rfl (fun K hK => ?_) AllReadyH.nil
              go_simp
              refine hK.out _ _ hs0 (fun _ => ?_)
              clear hK K
              try simp only [Act.put, List.setIfInBounds_toArray, List.set_cons_zero, List.set_cons_succ]
              refine wpAnyH_done (by kernel_rfl) ?_ _
              go_wp2_with fail
              go_roundw
              case rel => exact ⟨j + 1, hjq, by go_num, by rw [HTJ.out]; rfl, HB2.out.drew⟩
              case measure => simp [intOf]; omega
          · have hjn : j = q := by omega
            subst hjn
            have hth : out.take j = out := List.take_of_length_le (by rw [← HQ.out]; exact Nat.le_refl _)
            rw [hth]
            obtain ⟨th, HTH⟩ := named (anyT out x)
            rw [← HTH.out]
            cases th with
            | true =>
              have HO2 : Hid (OwnK wr w.heap.size (.slice uo j uc) ((l.take (k + 1)).foldl addT [])) := by
                show OwnK _ _ _ _
                rw [HTK.out]
                unfold addT
                rw [if_pos HTH.out.symm]
                exact HO.out.below HBi.out
              have HB2 := hide (HB.out.trans (HBi.out.mono HB.out.size))
              go_wp2_with fail
              go_roundw
              case rel => exact ⟨k + 1, hlt, by omega, by go_num, HO2.out, HB2.out⟩
              case measure => simp [intOf]; omega
            | false =>
              have HB2 := hide (HB.out.trans (HBi.out.mono HB.out.size))
              obtain ⟨v', w', hr, ho, hb⟩ := (HO.out.below HBi.out).append1 x (by rw [← HQ.out]; omega) HB2.out.size
              obtain ⟨x0, x1, x2⟩ := x
              simp only at hr ho
              have HO2 : Hid (OwnK w' w.heap.size v' ((l.take (k + 1)).foldl addT [])) := by
                show OwnK _ _ _ _
                rw [HTK.out]
                unfold addT
                rw [if_neg (by rw [← HTH.out]; decide)]
                exact ho
              have HB3 := hide (HB2.out.trans hb)
              have a0 := (HBi.out.cell (p := ⟨b, off + k * 3, none⟩) HBL.out).trans A0.out
              have a1 := (HBi.out.cell (p := ⟨b, off + k * 3 + 1, none⟩) HBL.out).trans A1.out
              have a2 := (HBi.out.cell (p := ⟨b, off + k * 3 + 2, none⟩) HBL.out).trans A2.out
              clear ho hb
              go_wp2_with (at_builtin; go_must (refine Lib.wpList_append_run _ rfl _ _ _ _ rfl _ _ rfl rfl _ _ hr ?_))
              go_roundw
              case rel => exact ⟨k + 1, hlt, by omega, by go_num, HO2.out, HB3.out⟩
              case measure => simp [intOf]; omega
      · have hkJ : ¬ (k : Int) < 300 := by omega
        have hk300 : k = 300 := by omega
        go_wp2
        go_ret
        refine ⟨_, rfl, ?_, HB.out⟩
        have := HO.out
        rw [hk300] at this
        exact this
    · have hkI : ¬ (k : Int) < (n : Int) := by omega
      have hkn : k = n := by omega
      go_wp2
      go_ret
      refine ⟨_, rfl, ?_, HB.out⟩
      have := HO.out
      rw [List.take_of_length_le (by rw [← HN.out]; omega)] at this
      unfold toldP
      rw [List.take_of_length_le (by rw [← HN.out]; omega)]
      exact this
end Go.Proofs.YtlngeonfabahnaaDoor
