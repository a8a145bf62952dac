/-
  Contracts of a run's end, its signals, its signs. Own work.
-/
import Derived.Test.YtlngeonfabahnaaDoorQb
import Derived.Test.YtlngeonfabahnaaDoorOd
namespace Go.Proofs.YtlngeonfabahnaaDoor
open Go Go.RowKit
set_option linter.unusedSimpArgs false
set_option linter.unusedVariables false

set_option maxRecDepth 100000 in
theorem end_any {W : World} {b : Nat} {cv mv sv : Value} {w : World} {s : St} (h : Rn W b cv mv sv w s) (x v : Int) :
    Calls Tryd.prog 48 #[.pointer (some ⟨b, 0, none⟩), .int .i64 x, .int .i64 v] w fun e w' => e = .returned (.tuple #[]) ∧ Rn W b cv mv sv w' (endI x v s) := by
  obtain ⟨vc, hc, -⟩ := id h.own
  have c20 : w.cell? ⟨b, 20, none⟩ = some (.int .i64 s.at_) := hc.2.1 20 (by omega)
  have c21 : w.cell? ⟨b, 21, none⟩ = some (.int .i64 s.ost) := hc.2.1 21 (by omega)
  have c22 : w.cell? ⟨b, 22, none⟩ = some (.int .i64 s.ova) := hc.2.1 22 (by omega)
  have f20 := h.free 20
  have f21 := h.free 21
  have f22 := h.free 22
  have H := hide (show Rn W b cv mv sv _ (endI x v s) from (h.stand 1).out x v)
  clear hc h
  go_enter Tryd.func48, Tryd.ntmps48
  go_wp2
  go_end0
  exact ⟨rfl, H.out⟩

theorem oneIf_any (z : Bool) (w : World) : Calls Tryd.prog 43 #[.bool z] w fun e w' => e = .returned (.int .i64 (one z)) ∧ w' = w := by
  cases z with
  | true =>
    go_enter Tryd.func43, Tryd.ntmps43
    go_wp2
    go_ret
    exact ⟨rfl, rfl⟩
  | false =>
    go_enter Tryd.func43, Tryd.ntmps43
    go_wp2
    go_ret
    exact ⟨rfl, rfl⟩
/-- what the sign of an Op makes of two numbers -/
def signB (o : Nat) (x y : Int) : Int := match o with
  | 3 => wr (x + y)
  | 4 => wr (x - y)
  | 5 => wr (x * y)
  | 6 => one (decide (x < y))
  | _ => one (decide (x = y))
def signF (o : Nat) : Nat := match o with
  | 3 => 39
  | 4 => 40
  | 5 => 41
  | 6 => 42
  | _ => 44
theorem sign3 (x y : Int) (w : World) : Calls Tryd.prog 39 #[.int .i64 x, .int .i64 y] w fun e w' => e = .returned (.int .i64 (signB 3 x y)) ∧ w' = w := by
  have e : IntKind.i64.wrap (x + y) = signB 3 x y := rfl
  obtain ⟨r, HR⟩ := named (signB 3 x y)
  rw [← HR.out] at e ⊢
  go_enter Tryd.func39, Tryd.ntmps39
  go_wp2
  go_ret
  exact ⟨rfl, rfl⟩
theorem sign4 (x y : Int) (w : World) : Calls Tryd.prog 40 #[.int .i64 x, .int .i64 y] w fun e w' => e = .returned (.int .i64 (signB 4 x y)) ∧ w' = w := by
  have e : IntKind.i64.wrap (x - y) = signB 4 x y := rfl
  obtain ⟨r, HR⟩ := named (signB 4 x y)
  rw [← HR.out] at e ⊢
  go_enter Tryd.func40, Tryd.ntmps40
  go_wp2
  go_ret
  exact ⟨rfl, rfl⟩
theorem sign5 (x y : Int) (w : World) : Calls Tryd.prog 41 #[.int .i64 x, .int .i64 y] w fun e w' => e = .returned (.int .i64 (signB 5 x y)) ∧ w' = w := by
  have e : IntKind.i64.wrap (x * y) = signB 5 x y := rfl
  obtain ⟨r, HR⟩ := named (signB 5 x y)
  rw [← HR.out] at e ⊢
  go_enter Tryd.func41, Tryd.ntmps41
  go_wp2
  go_ret
  exact ⟨rfl, rfl⟩
theorem sign6 (x y : Int) (w : World) : Calls Tryd.prog 42 #[.int .i64 x, .int .i64 y] w fun e w' => e = .returned (.int .i64 (signB 6 x y)) ∧ w' = w := by
  have e : signB 6 x y = one (decide (x < y)) := rfl
  obtain ⟨r, HR⟩ := named (signB 6 x y)
  rw [← HR.out] at e ⊢
  have HE := hide e
  clear e
  go_enter Tryd.func42, Tryd.ntmps42
  go_wp2_with fail
  refine (oneIf_any _ _).mono ?_
  rintro e w1 ⟨rfl, rfl⟩
  go_wp2
  go_ret
  exact ⟨ret_int HE.out.symm, rfl⟩
theorem sign7 (x y : Int) (w : World) : Calls Tryd.prog 44 #[.int .i64 x, .int .i64 y] w fun e w' => e = .returned (.int .i64 (signB 7 x y)) ∧ w' = w := by
  have e : signB 7 x y = one (decide (x = y)) := rfl
  obtain ⟨r, HR⟩ := named (signB 7 x y)
  rw [← HR.out] at e ⊢
  have HE := hide e
  clear e
  go_enter Tryd.func44, Tryd.ntmps44
  go_wp2_with fail
  refine (oneIf_any _ _).mono ?_
  rintro e w1 ⟨rfl, rfl⟩
  go_wp2
  go_ret
  exact ⟨ret_int HE.out.symm, rfl⟩

set_option maxRecDepth 100000 in
theorem sign_any_3 {W : World} {b : Nat} {cv mv sv : Value} {w : World} {s : St} (h : Rn W b cv mv sv w s) (op : Nat) (a k c n : Int) (t : ByteArray)
    (ha0 : 0 ≤ a) (ha : a < 16) (hb0 : 0 ≤ k) (hb : k < 16) (hc0 : 0 ≤ c) (hc : c < 16) :
    Calls Tryd.prog 38 #[.pointer (some ⟨b, 0, none⟩), .agg #[.int .u8 (op : Int), .int .i64 a, .int .i64 k, .int .i64 c, .int .i64 n, .string t], .func (.func 39) #[] #[]] w fun e w' => e = .returned (.tuple #[]) ∧ Rn W b cv mv sv w' (s.put a (signB 3 (getR s k) (getR s c))) := by
  obtain ⟨W1, HW⟩ := named (w.alloc (.cells #[.int .u8 (op : Int), .int .i64 a, .int .i64 k, .int .i64 c, .int .i64 n, .string t] 52))
  have h1 : Rn W b cv mv sv W1.drew s := by rw [HW.out]; exact (h.alloc _).thenBelow (Below.refl _ _).drew
  have rb := h1.reg k hb0 hb
  have rc := h1.reg c hc0 hc
  have ra := h1.reg a ha0 ha
  have fa := h1.free (3 + a.toNat)
  have H := hide (h1.put a (signB 3 (getR s k) (getR s c)) ha0 ha)
  have hcall := sign3 (getR s k) (getR s c) W1.drew
  obtain ⟨xb, HB⟩ := named (getR s k)
  obtain ⟨xc, HC⟩ := named (getR s c)
  rw [← HB.out, ← HC.out] at H
  rw [← HB.out] at rb
  rw [← HC.out] at rc
  rw [← HB.out, ← HC.out] at hcall ⊢
  obtain ⟨r, HR⟩ := named (signB 3 xb xc)
  rw [← HR.out] at H hcall ⊢
  obtain ⟨j, HJ⟩ := Int.eq_ofNat_of_zero_le ha0
  obtain ⟨j', HJ'⟩ := Int.eq_ofNat_of_zero_le hb0
  obtain ⟨j'', HJ''⟩ := Int.eq_ofNat_of_zero_le hc0
  subst HJ HJ' HJ''
  simp only [Int.toNat_natCast] at ra fa rb rc
  have H : Hid (Rn W b cv mv sv (W1.drew.setCell ⟨b, 3 + j, none⟩ (.int .i64 r)) (s.put (j : Int) r)) := H.out
  have x1 : W1.drew.cell? ⟨w.heap.size, 1, none⟩ = some (.int .i64 j) := by rw [HW.out]; exact (cell_of_row _ w.heap.size 1 _ 52 (0, 0) (heap_alloc_new w _)).trans rfl
  have x2 : W1.drew.cell? ⟨w.heap.size, 2, none⟩ = some (.int .i64 j') := by rw [HW.out]; exact (cell_of_row _ w.heap.size 2 _ 52 (0, 0) (heap_alloc_new w _)).trans rfl
  have x3 : W1.drew.cell? ⟨w.heap.size, 3, none⟩ = some (.int .i64 j'') := by rw [HW.out]; exact (cell_of_row _ w.heap.size 3 _ 52 (0, 0) (heap_alloc_new w _)).trans rfl
  obtain ⟨pb, HPB⟩ := named w.heap.size
  rw [← HPB.out] at x1 x2 x3
  have hs0 : W1.drew.cell? ⟨b, 3 + j', none⟩ = some (.int .i64 xb) ∧ W1.drew.cell? ⟨b, 3 + j'', none⟩ = some (.int .i64 xc) ∧ W1.drew.cell? ⟨pb, 1, none⟩ = some (.int .i64 j) ∧ W1.drew.cell? ⟨pb, 2, none⟩ = some (.int .i64 j') ∧ W1.drew.cell? ⟨pb, 3, none⟩ = some (.int .i64 j'') := ⟨rb, rc, x1, x2, x3⟩
  have hj : j < 16 := by omega
  have hj' : j' < 16 := by omega
  have hj'' : j'' < 16 := by omega
  clear h1 h rb rc x1 x2 x3
  go_enter Tryd.func38, Tryd.ntmps38
  go_wp2_with fail
  rw [← HW.out, ← HPB.out]
  refine wp_region_E 22 (fun w' => w'.cell? ⟨b, 3 + j', none⟩ = some (.int .i64 xb) ∧ w'.cell? ⟨b, 3 + j'', none⟩ = some (.int .i64 xc) ∧ w'.cell? ⟨pb, 1, none⟩ = some (.int .i64 j) ∧ w'.cell? ⟨pb, 2, none⟩ = some (.int .i64 j') ∧ w'.cell? ⟨pb, 3, none⟩ = some (.int .i64 j'')) (by kernel_rfl) ?_
  refine wpAnyE_take 0 [22] (oi := { dst := some 6, op := Go.Op.move (Go.Operand.tmp 0), type := 64, pos := "run.go:106", after := #[], guard := none }) (v := ?_) rfl (by kernel_rfl) (by kernel_rfl) (by kernel_rfl) (by kernel_rfl) (fun _ _ _ h => h) (Or.inl ⟨by rfl, ?hE1⟩) hs0 ?_
  case hE1 =>
    intro u hu
    obtain ⟨u0, u1, u2, u3, u4⟩ := hu
    go_simp
    try with_reducible rfl
  simp only [Act.put, List.setIfInBounds_toArray, List.set_cons_zero, List.set_cons_succ]
  refine wpAnyE_take 1 [22] (oi := { dst := some 7, op := Go.Op.fieldAddr 52 (Go.Operand.tmp 4) 1, type := 0, pos := "run.go:106", after := #[], guard := none }) (v := ?_) rfl (by kernel_rfl) (by kernel_rfl) (by kernel_rfl) (by kernel_rfl) (fun _ _ _ h => h) (Or.inl ⟨by rfl, ?hE2⟩) hs0 ?_
  case hE2 =>
    intro u hu
    obtain ⟨u0, u1, u2, u3, u4⟩ := hu
    go_simp
    try with_reducible rfl
  simp only [Act.put, List.setIfInBounds_toArray, List.set_cons_zero, List.set_cons_succ]
  refine wpAnyE_take 2 [22] (oi := { dst := some 8, op := Go.Op.load 3 (Go.Operand.tmp 7), type := 3, pos := "run.go:106", after := #[{ on := 1, ground := Go.Ground.data }], guard := none }) (v := ?_) rfl (by kernel_rfl) (by kernel_rfl) (by kernel_rfl) (by kernel_rfl) (fun _ _ _ h => h) (Or.inl ⟨by rfl, ?hE3⟩) hs0 ?_
  case hE3 =>
    intro u hu
    obtain ⟨u0, u1, u2, u3, u4⟩ := hu
    go_simp
    try with_reducible rfl
  simp only [Act.put, List.setIfInBounds_toArray, List.set_cons_zero, List.set_cons_succ]
  refine wpAnyE_take 3 [22] (oi := { dst := some 9, op := Go.Op.move (Go.Operand.tmp 2), type := 86, pos := "run.go:106", after := #[], guard := none }) (v := ?_) rfl (by kernel_rfl) (by kernel_rfl) (by kernel_rfl) (by kernel_rfl) (fun _ _ _ h => h) (Or.inl ⟨by rfl, ?hE4⟩) hs0 ?_
  case hE4 =>
    intro u hu
    obtain ⟨u0, u1, u2, u3, u4⟩ := hu
    go_simp
    try with_reducible rfl
  simp only [Act.put, List.setIfInBounds_toArray, List.set_cons_zero, List.set_cons_succ]
  refine wpAnyE_take 4 [22] (oi := { dst := some 10, op := Go.Op.move (Go.Operand.tmp 0), type := 64, pos := "run.go:106", after := #[], guard := none }) (v := ?_) rfl (by kernel_rfl) (by kernel_rfl) (by kernel_rfl) (by kernel_rfl) (fun _ _ _ h => h) (Or.inl ⟨by rfl, ?hE5⟩) hs0 ?_
  case hE5 =>
    intro u hu
    obtain ⟨u0, u1, u2, u3, u4⟩ := hu
    go_simp
    try with_reducible rfl
  simp only [Act.put, List.setIfInBounds_toArray, List.set_cons_zero, List.set_cons_succ]
  refine wpAnyE_take 5 [22] (oi := { dst := some 11, op := Go.Op.fieldAddr 52 (Go.Operand.tmp 4) 2, type := 0, pos := "run.go:106", after := #[], guard := none }) (v := ?_) rfl (by kernel_rfl) (by kernel_rfl) (by kernel_rfl) (by kernel_rfl) (fun _ _ _ h => h) (Or.inl ⟨by rfl, ?hE6⟩) hs0 ?_
  case hE6 =>
    intro u hu
    obtain ⟨u0, u1, u2, u3, u4⟩ := hu
    go_simp
    try with_reducible rfl
  simp only [Act.put, List.setIfInBounds_toArray, List.set_cons_zero, List.set_cons_succ]
  refine wpAnyE_take 6 [22] (oi := { dst := some 12, op := Go.Op.load 3 (Go.Operand.tmp 11), type := 3, pos := "run.go:106", after := #[{ on := 5, ground := Go.Ground.data }], guard := none }) (v := ?_) rfl (by kernel_rfl) (by kernel_rfl) (by kernel_rfl) (by kernel_rfl) (fun _ _ _ h => h) (Or.inl ⟨by rfl, ?hE7⟩) hs0 ?_
  case hE7 =>
    intro u hu
    obtain ⟨u0, u1, u2, u3, u4⟩ := hu
    go_simp
    try with_reducible rfl
  simp only [Act.put, List.setIfInBounds_toArray, List.set_cons_zero, List.set_cons_succ]
  refine wpAnyE_take 7 [22] (oi := { dst := some 13, op := Go.Op.nilCheck (Go.Operand.tmp 10), type := 0, pos := "run.go:106", after := #[{ on := 4, ground := Go.Ground.data }], guard := none }) (v := ?_) rfl (by kernel_rfl) (by kernel_rfl) (by kernel_rfl) (by kernel_rfl) (fun _ _ _ h => h) (Or.inl ⟨by rfl, ?hE8⟩) hs0 ?_
  case hE8 =>
    intro u hu
    obtain ⟨u0, u1, u2, u3, u4⟩ := hu
    go_simp
    try with_reducible rfl
  simp only [Act.put, List.setIfInBounds_toArray, List.set_cons_zero, List.set_cons_succ]
  refine wpAnyE_take 8 [22] (oi := { dst := some 14, op := Go.Op.fieldAddr 69 (Go.Operand.tmp 13) 3, type := 0, pos := "run.go:106", after := #[{ on := 7, ground := Go.Ground.data }], guard := none }) (v := ?_) rfl (by kernel_rfl) (by kernel_rfl) (by kernel_rfl) (by kernel_rfl) (fun _ _ _ h => h) (Or.inl ⟨by rfl, ?hE9⟩) hs0 ?_
  case hE9 =>
    intro u hu
    obtain ⟨u0, u1, u2, u3, u4⟩ := hu
    go_simp
    try with_reducible rfl
  simp only [Act.put, List.setIfInBounds_toArray, List.set_cons_zero, List.set_cons_succ]
  refine wpAnyE_take 9 [22] (oi := { dst := some 15, op := Go.Op.indexAddr 67 (Go.Operand.tmp 14) (Go.Operand.tmp 12), type := 0, pos := "run.go:106", after := #[{ on := 8, ground := Go.Ground.data }, { on := 6, ground := Go.Ground.data }], guard := none }) (v := ?_) rfl (by kernel_rfl) (by kernel_rfl) (by kernel_rfl) (by kernel_rfl) (fun _ _ _ h => h) (Or.inl ⟨by rfl, ?hE10⟩) hs0 ?_
  case hE10 =>
    intro u hu
    obtain ⟨u0, u1, u2, u3, u4⟩ := hu
    go_simp
    try with_reducible rfl
  simp only [Act.put, List.setIfInBounds_toArray, List.set_cons_zero, List.set_cons_succ]
  refine wpAnyE_take 10 [22] (oi := { dst := some 16, op := Go.Op.load 2 (Go.Operand.tmp 15), type := 2, pos := "run.go:106", after := #[{ on := 9, ground := Go.Ground.data }], guard := none }) (v := ?_) rfl (by kernel_rfl) (by kernel_rfl) (by kernel_rfl) (by kernel_rfl) (fun _ _ _ h => h) (Or.inl ⟨by rfl, ?hE11⟩) hs0 ?_
  case hE11 =>
    intro u hu
    obtain ⟨u0, u1, u2, u3, u4⟩ := hu
    go_simp
    try with_reducible rfl
  simp only [Act.put, List.setIfInBounds_toArray, List.set_cons_zero, List.set_cons_succ]
  refine wpAnyE_take 11 [22] (oi := { dst := some 17, op := Go.Op.move (Go.Operand.tmp 0), type := 64, pos := "run.go:106", after := #[], guard := none }) (v := ?_) rfl (by kernel_rfl) (by kernel_rfl) (by kernel_rfl) (by kernel_rfl) (fun _ _ _ h => h) (Or.inl ⟨by rfl, ?hE12⟩) hs0 ?_
  case hE12 =>
    intro u hu
    obtain ⟨u0, u1, u2, u3, u4⟩ := hu
    go_simp
    try with_reducible rfl
  simp only [Act.put, List.setIfInBounds_toArray, List.set_cons_zero, List.set_cons_succ]
  refine wpAnyE_take 12 [22] (oi := { dst := some 18, op := Go.Op.fieldAddr 52 (Go.Operand.tmp 4) 3, type := 0, pos := "run.go:106", after := #[], guard := none }) (v := ?_) rfl (by kernel_rfl) (by kernel_rfl) (by kernel_rfl) (by kernel_rfl) (fun _ _ _ h => h) (Or.inl ⟨by rfl, ?hE13⟩) hs0 ?_
  case hE13 =>
    intro u hu
    obtain ⟨u0, u1, u2, u3, u4⟩ := hu
    go_simp
    try with_reducible rfl
  simp only [Act.put, List.setIfInBounds_toArray, List.set_cons_zero, List.set_cons_succ]
  refine wpAnyE_take 13 [22] (oi := { dst := some 19, op := Go.Op.load 3 (Go.Operand.tmp 18), type := 3, pos := "run.go:106", after := #[{ on := 12, ground := Go.Ground.data }], guard := none }) (v := ?_) rfl (by kernel_rfl) (by kernel_rfl) (by kernel_rfl) (by kernel_rfl) (fun _ _ _ h => h) (Or.inl ⟨by rfl, ?hE14⟩) hs0 ?_
  case hE14 =>
    intro u hu
    obtain ⟨u0, u1, u2, u3, u4⟩ := hu
    go_simp
    try with_reducible rfl
  simp only [Act.put, List.setIfInBounds_toArray, List.set_cons_zero, List.set_cons_succ]
  refine wpAnyE_take 14 [22] (oi := { dst := some 20, op := Go.Op.nilCheck (Go.Operand.tmp 17), type := 0, pos := "run.go:106", after := #[{ on := 11, ground := Go.Ground.data }], guard := none }) (v := ?_) rfl (by kernel_rfl) (by kernel_rfl) (by kernel_rfl) (by kernel_rfl) (fun _ _ _ h => h) (Or.inl ⟨by rfl, ?hE15⟩) hs0 ?_
  case hE15 =>
    intro u hu
    obtain ⟨u0, u1, u2, u3, u4⟩ := hu
    go_simp
    try with_reducible rfl
  simp only [Act.put, List.setIfInBounds_toArray, List.set_cons_zero, List.set_cons_succ]
  refine wpAnyE_take 15 [22] (oi := { dst := some 21, op := Go.Op.fieldAddr 69 (Go.Operand.tmp 20) 3, type := 0, pos := "run.go:106", after := #[{ on := 14, ground := Go.Ground.data }], guard := none }) (v := ?_) rfl (by kernel_rfl) (by kernel_rfl) (by kernel_rfl) (by kernel_rfl) (fun _ _ _ h => h) (Or.inl ⟨by rfl, ?hE16⟩) hs0 ?_
  case hE16 =>
    intro u hu
    obtain ⟨u0, u1, u2, u3, u4⟩ := hu
    go_simp
    try with_reducible rfl
  simp only [Act.put, List.setIfInBounds_toArray, List.set_cons_zero, List.set_cons_succ]
  refine wpAnyE_take 16 [22] (oi := { dst := some 22, op := Go.Op.indexAddr 67 (Go.Operand.tmp 21) (Go.Operand.tmp 19), type := 0, pos := "run.go:106", after := #[{ on := 15, ground := Go.Ground.data }, { on := 13, ground := Go.Ground.data }], guard := none }) (v := ?_) rfl (by kernel_rfl) (by kernel_rfl) (by kernel_rfl) (by kernel_rfl) (fun _ _ _ h => h) (Or.inl ⟨by rfl, ?hE17⟩) hs0 ?_
  case hE17 =>
    intro u hu
    obtain ⟨u0, u1, u2, u3, u4⟩ := hu
    go_simp
    try with_reducible rfl
  simp only [Act.put, List.setIfInBounds_toArray, List.set_cons_zero, List.set_cons_succ]
  refine wpAnyE_take 17 [22] (oi := { dst := some 23, op := Go.Op.load 2 (Go.Operand.tmp 22), type := 2, pos := "run.go:106", after := #[{ on := 16, ground := Go.Ground.data }], guard := none }) (v := ?_) rfl (by kernel_rfl) (by kernel_rfl) (by kernel_rfl) (by kernel_rfl) (fun _ _ _ h => h) (Or.inl ⟨by rfl, ?hE18⟩) hs0 ?_
  case hE18 =>
    intro u hu
    obtain ⟨u0, u1, u2, u3, u4⟩ := hu
    go_simp
    try with_reducible rfl
  simp only [Act.put, List.setIfInBounds_toArray, List.set_cons_zero, List.set_cons_succ]
  refine wpAnyE_take 19 [20, 21, 22] (oi := { dst := some 25, op := Go.Op.nilCheck (Go.Operand.tmp 6), type := 0, pos := "run.go:106", after := #[{ on := 0, ground := Go.Ground.data }], guard := none }) (v := ?_) rfl (by kernel_rfl) (by kernel_rfl) (by kernel_rfl) (by kernel_rfl) (fun _ _ _ h => h) (Or.inl ⟨by rfl, ?hE19⟩) hs0 ?_
  case hE19 =>
    intro u hu
    obtain ⟨u0, u1, u2, u3, u4⟩ := hu
    go_simp
    try with_reducible rfl
  simp only [Act.put, List.setIfInBounds_toArray, List.set_cons_zero, List.set_cons_succ]
  refine wpAnyE_take 20 [21, 22] (oi := { dst := some 26, op := Go.Op.fieldAddr 69 (Go.Operand.tmp 25) 3, type := 0, pos := "run.go:106", after := #[{ on := 19, ground := Go.Ground.data }], guard := none }) (v := ?_) rfl (by kernel_rfl) (by kernel_rfl) (by kernel_rfl) (by kernel_rfl) (fun _ _ _ h => h) (Or.inl ⟨by rfl, ?hE20⟩) hs0 ?_
  case hE20 =>
    intro u hu
    obtain ⟨u0, u1, u2, u3, u4⟩ := hu
    go_simp
    try with_reducible rfl
  simp only [Act.put, List.setIfInBounds_toArray, List.set_cons_zero, List.set_cons_succ]
  refine wpAnyE_one (i := 18) (o := { dst := some 24, op := Go.Op.call { callee := Go.Callee.value (Go.Operand.tmp 9), args := #[Go.Operand.tmp 16, Go.Operand.tmp 23], argTypes := #[2, 2] }, type := 2, pos := "run.go:106", after := #[{ on := 3, ground := Go.Ground.data }, { on := 10, ground := Go.Ground.data }, { on := 17, ground := Go.Ground.data }], guard := none }) (by kernel_rfl) rfl (fun K hK => ?_)
  go_simp
  (with_reducible refine Calls.mono hcall ?_)
  rintro e w1 ⟨rfl, rfl⟩
  refine hK _ _ (fun _ => hs0) ?_
  clear hK K
  try simp only [Act.put, List.setIfInBounds_toArray, List.set_cons_zero, List.set_cons_succ]
  refine wpAnyE_take 21 [22] (oi := { dst := some 27, op := Go.Op.indexAddr 67 (Go.Operand.tmp 26) (Go.Operand.tmp 8), type := 0, pos := "run.go:106", after := #[{ on := 20, ground := Go.Ground.data }, { on := 2, ground := Go.Ground.data }, { on := 0, ground := Go.Ground.phase }, { on := 1, ground := Go.Ground.phase }, { on := 2, ground := Go.Ground.phase }, { on := 3, ground := Go.Ground.phase }, { on := 4, ground := Go.Ground.phase }, { on := 5, ground := Go.Ground.phase }, { on := 6, ground := Go.Ground.phase }, { on := 7, ground := Go.Ground.phase }, { on := 8, ground := Go.Ground.phase }, { on := 9, ground := Go.Ground.phase }, { on := 10, ground := Go.Ground.phase }, { on := 11, ground := Go.Ground.phase }, { on := 12, ground := Go.Ground.phase }, { on := 13, ground := Go.Ground.phase }, { on := 14, ground := Go.Ground.phase }, { on := 15, ground := Go.Ground.phase }, { on := 16, ground := Go.Ground.phase }, { on := 17, ground := Go.Ground.phase }, { on := 18, ground := Go.Ground.phase }], guard := none }) (v := ?_) rfl (by kernel_rfl) (by kernel_rfl) (by kernel_rfl) (by kernel_rfl) (fun _ _ _ h => h) (Or.inl ⟨by rfl, ?hE21⟩) hs0 ?_
  case hE21 =>
    intro u hu
    obtain ⟨u0, u1, u2, u3, u4⟩ := hu
    go_simp
    try with_reducible rfl
  simp only [Act.put, List.setIfInBounds_toArray, List.set_cons_zero, List.set_cons_succ]
  refine wpAnyE_one (i := 22) (o := { dst := none, op := Go.Op.store 2 (Go.Operand.tmp 27) (Go.Operand.tmp 24), type := 0, pos := "run.go:106", after := #[{ on := 21, ground := Go.Ground.data }, { on := 18, ground := Go.Ground.data }, { on := 18, ground := Go.Ground.chain }, { on := 0, ground := Go.Ground.phase }, { on := 1, ground := Go.Ground.phase }, { on := 2, ground := Go.Ground.phase }, { on := 3, ground := Go.Ground.phase }, { on := 4, ground := Go.Ground.phase }, { on := 5, ground := Go.Ground.phase }, { on := 6, ground := Go.Ground.phase }, { on := 7, ground := Go.Ground.phase }, { on := 8, ground := Go.Ground.phase }, { on := 9, ground := Go.Ground.phase }, { on := 10, ground := Go.Ground.phase }, { on := 11, ground := Go.Ground.phase }, { on := 12, ground := Go.Ground.phase }, { on := 13, ground := Go.Ground.phase }, { on := 14, ground := Go.Ground.phase }, { on := 15, ground := Go.Ground.phase }, { on := 16, ground := Go.Ground.phase }, { on := 17, ground := Go.Ground.phase }, { on := 18, ground := Go.Ground.phase }], guard := none }) (by kernel_rfl) rfl (fun K hK => ?_)
  go_simp
  refine hK _ _ (fun h => absurd rfl h) ?_
  clear hK K
  try simp only [Act.put, List.setIfInBounds_toArray, List.set_cons_zero, List.set_cons_succ]
  refine wpAnyE_done (by kernel_rfl) ?_
  go_wp2
  go_end0
  exact ⟨rfl, H.out⟩
set_option maxRecDepth 100000 in
theorem sign_any_4 {W : World} {b : Nat} {cv mv sv : Value} {w : World} {s : St} (h : Rn W b cv mv sv w s) (op : Nat) (a k c n : Int) (t : ByteArray)
    (ha0 : 0 ≤ a) (ha : a < 16) (hb0 : 0 ≤ k) (hb : k < 16) (hc0 : 0 ≤ c) (hc : c < 16) :
    Calls Tryd.prog 38 #[.pointer (some ⟨b, 0, none⟩), .agg #[.int .u8 (op : Int), .int .i64 a, .int .i64 k, .int .i64 c, .int .i64 n, .string t], .func (.func 40) #[] #[]] w fun e w' => e = .returned (.tuple #[]) ∧ Rn W b cv mv sv w' (s.put a (signB 4 (getR s k) (getR s c))) := by
  obtain ⟨W1, HW⟩ := named (w.alloc (.cells #[.int .u8 (op : Int), .int .i64 a, .int .i64 k, .int .i64 c, .int .i64 n, .string t] 52))
  have h1 : Rn W b cv mv sv W1.drew s := by rw [HW.out]; exact (h.alloc _).thenBelow (Below.refl _ _).drew
  have rb := h1.reg k hb0 hb
  have rc := h1.reg c hc0 hc
  have ra := h1.reg a ha0 ha
  have fa := h1.free (3 + a.toNat)
  have H := hide (h1.put a (signB 4 (getR s k) (getR s c)) ha0 ha)
  have hcall := sign4 (getR s k) (getR s c) W1.drew
  obtain ⟨xb, HB⟩ := named (getR s k)
  obtain ⟨xc, HC⟩ := named (getR s c)
  rw [← HB.out, ← HC.out] at H
  rw [← HB.out] at rb
  rw [← HC.out] at rc
  rw [← HB.out, ← HC.out] at hcall ⊢
  obtain ⟨r, HR⟩ := named (signB 4 xb xc)
  rw [← HR.out] at H hcall ⊢
  obtain ⟨j, HJ⟩ := Int.eq_ofNat_of_zero_le ha0
  obtain ⟨j', HJ'⟩ := Int.eq_ofNat_of_zero_le hb0
  obtain ⟨j'', HJ''⟩ := Int.eq_ofNat_of_zero_le hc0
  subst HJ HJ' HJ''
  simp only [Int.toNat_natCast] at ra fa rb rc
  have H : Hid (Rn W b cv mv sv (W1.drew.setCell ⟨b, 3 + j, none⟩ (.int .i64 r)) (s.put (j : Int) r)) := H.out
  have x1 : W1.drew.cell? ⟨w.heap.size, 1, none⟩ = some (.int .i64 j) := by rw [HW.out]; exact (cell_of_row _ w.heap.size 1 _ 52 (0, 0) (heap_alloc_new w _)).trans rfl
  have x2 : W1.drew.cell? ⟨w.heap.size, 2, none⟩ = some (.int .i64 j') := by rw [HW.out]; exact (cell_of_row _ w.heap.size 2 _ 52 (0, 0) (heap_alloc_new w _)).trans rfl
  have x3 : W1.drew.cell? ⟨w.heap.size, 3, none⟩ = some (.int .i64 j'') := by rw [HW.out]; exact (cell_of_row _ w.heap.size 3 _ 52 (0, 0) (heap_alloc_new w _)).trans rfl
  obtain ⟨pb, HPB⟩ := named w.heap.size
  rw [← HPB.out] at x1 x2 x3
  have hs0 : W1.drew.cell? ⟨b, 3 + j', none⟩ = some (.int .i64 xb) ∧ W1.drew.cell? ⟨b, 3 + j'', none⟩ = some (.int .i64 xc) ∧ W1.drew.cell? ⟨pb, 1, none⟩ = some (.int .i64 j) ∧ W1.drew.cell? ⟨pb, 2, none⟩ = some (.int .i64 j') ∧ W1.drew.cell? ⟨pb, 3, none⟩ = some (.int .i64 j'') := ⟨rb, rc, x1, x2, x3⟩
  have hj : j < 16 := by omega
  have hj' : j' < 16 := by omega
  have hj'' : j'' < 16 := by omega
  clear h1 h rb rc x1 x2 x3
  go_enter Tryd.func38, Tryd.ntmps38
  go_wp2_with fail
  rw [← HW.out, ← HPB.out]
  refine wp_region_E 22 (fun w' => w'.cell? ⟨b, 3 + j', none⟩ = some (.int .i64 xb) ∧ w'.cell? ⟨b, 3 + j'', none⟩ = some (.int .i64 xc) ∧ w'.cell? ⟨pb, 1, none⟩ = some (.int .i64 j) ∧ w'.cell? ⟨pb, 2, none⟩ = some (.int .i64 j') ∧ w'.cell? ⟨pb, 3, none⟩ = some (.int .i64 j'')) (by kernel_rfl) ?_
  refine wpAnyE_take 0 [22] (oi := { dst := some 6, op := Go.Op.move (Go.Operand.tmp 0), type := 64, pos := "run.go:106", after := #[], guard := none }) (v := ?_) rfl (by kernel_rfl) (by kernel_rfl) (by kernel_rfl) (by kernel_rfl) (fun _ _ _ h => h) (Or.inl ⟨by rfl, ?hE22⟩) hs0 ?_
  case hE22 =>
    intro u hu
    obtain ⟨u0, u1, u2, u3, u4⟩ := hu
    go_simp
    try with_reducible rfl
  simp only [Act.put, List.setIfInBounds_toArray, List.set_cons_zero, List.set_cons_succ]
  refine wpAnyE_take 1 [22] (oi := { dst := some 7, op := Go.Op.fieldAddr 52 (Go.Operand.tmp 4) 1, type := 0, pos := "run.go:106", after := #[], guard := none }) (v := ?_) rfl (by kernel_rfl) (by kernel_rfl) (by kernel_rfl) (by kernel_rfl) (fun _ _ _ h => h) (Or.inl ⟨by rfl, ?hE23⟩) hs0 ?_
  case hE23 =>
    intro u hu
    obtain ⟨u0, u1, u2, u3, u4⟩ := hu
    go_simp
    try with_reducible rfl
  simp only [Act.put, List.setIfInBounds_toArray, List.set_cons_zero, List.set_cons_succ]
  refine wpAnyE_take 2 [22] (oi := { dst := some 8, op := Go.Op.load 3 (Go.Operand.tmp 7), type := 3, pos := "run.go:106", after := #[{ on := 1, ground := Go.Ground.data }], guard := none }) (v := ?_) rfl (by kernel_rfl) (by kernel_rfl) (by kernel_rfl) (by kernel_rfl) (fun _ _ _ h => h) (Or.inl ⟨by rfl, ?hE24⟩) hs0 ?_
  case hE24 =>
    intro u hu
    obtain ⟨u0, u1, u2, u3, u4⟩ := hu
    go_simp
    try with_reducible rfl
  simp only [Act.put, List.setIfInBounds_toArray, List.set_cons_zero, List.set_cons_succ]
  refine wpAnyE_take 3 [22] (oi := { dst := some 9, op := Go.Op.move (Go.Operand.tmp 2), type := 86, pos := "run.go:106", after := #[], guard := none }) (v := ?_) rfl (by kernel_rfl) (by kernel_rfl) (by kernel_rfl) (by kernel_rfl) (fun _ _ _ h => h) (Or.inl ⟨by rfl, ?hE25⟩) hs0 ?_
  case hE25 =>
    intro u hu
    obtain ⟨u0, u1, u2, u3, u4⟩ := hu
    go_simp
    try with_reducible rfl
  simp only [Act.put, List.setIfInBounds_toArray, List.set_cons_zero, List.set_cons_succ]
  refine wpAnyE_take 4 [22] (oi := { dst := some 10, op := Go.Op.move (Go.Operand.tmp 0), type := 64, pos := "run.go:106", after := #[], guard := none }) (v := ?_) rfl (by kernel_rfl) (by kernel_rfl) (by kernel_rfl) (by kernel_rfl) (fun _ _ _ h => h) (Or.inl ⟨by rfl, ?hE26⟩) hs0 ?_
  case hE26 =>
    intro u hu
    obtain ⟨u0, u1, u2, u3, u4⟩ := hu
    go_simp
    try with_reducible rfl
  simp only [Act.put, List.setIfInBounds_toArray, List.set_cons_zero, List.set_cons_succ]
  refine wpAnyE_take 5 [22] (oi := { dst := some 11, op := Go.Op.fieldAddr 52 (Go.Operand.tmp 4) 2, type := 0, pos := "run.go:106", after := #[], guard := none }) (v := ?_) rfl (by kernel_rfl) (by kernel_rfl) (by kernel_rfl) (by kernel_rfl) (fun _ _ _ h => h) (Or.inl ⟨by rfl, ?hE27⟩) hs0 ?_
  case hE27 =>
    intro u hu
    obtain ⟨u0, u1, u2, u3, u4⟩ := hu
    go_simp
    try with_reducible rfl
  simp only [Act.put, List.setIfInBounds_toArray, List.set_cons_zero, List.set_cons_succ]
  refine wpAnyE_take 6 [22] (oi := { dst := some 12, op := Go.Op.load 3 (Go.Operand.tmp 11), type := 3, pos := "run.go:106", after := #[{ on := 5, ground := Go.Ground.data }], guard := none }) (v := ?_) rfl (by kernel_rfl) (by kernel_rfl) (by kernel_rfl) (by kernel_rfl) (fun _ _ _ h => h) (Or.inl ⟨by rfl, ?hE28⟩) hs0 ?_
  case hE28 =>
    intro u hu
    obtain ⟨u0, u1, u2, u3, u4⟩ := hu
    go_simp
    try with_reducible rfl
  simp only [Act.put, List.setIfInBounds_toArray, List.set_cons_zero, List.set_cons_succ]
  refine wpAnyE_take 7 [22] (oi := { dst := some 13, op := Go.Op.nilCheck (Go.Operand.tmp 10), type := 0, pos := "run.go:106", after := #[{ on := 4, ground := Go.Ground.data }], guard := none }) (v := ?_) rfl (by kernel_rfl) (by kernel_rfl) (by kernel_rfl) (by kernel_rfl) (fun _ _ _ h => h) (Or.inl ⟨by rfl, ?hE29⟩) hs0 ?_
  case hE29 =>
    intro u hu
    obtain ⟨u0, u1, u2, u3, u4⟩ := hu
    go_simp
    try with_reducible rfl
  simp only [Act.put, List.setIfInBounds_toArray, List.set_cons_zero, List.set_cons_succ]
  refine wpAnyE_take 8 [22] (oi := { dst := some 14, op := Go.Op.fieldAddr 69 (Go.Operand.tmp 13) 3, type := 0, pos := "run.go:106", after := #[{ on := 7, ground := Go.Ground.data }], guard := none }) (v := ?_) rfl (by kernel_rfl) (by kernel_rfl) (by kernel_rfl) (by kernel_rfl) (fun _ _ _ h => h) (Or.inl ⟨by rfl, ?hE30⟩) hs0 ?_
  case hE30 =>
    intro u hu
    obtain ⟨u0, u1, u2, u3, u4⟩ := hu
    go_simp
    try with_reducible rfl
  simp only [Act.put, List.setIfInBounds_toArray, List.set_cons_zero, List.set_cons_succ]
  refine wpAnyE_take 9 [22] (oi := { dst := some 15, op := Go.Op.indexAddr 67 (Go.Operand.tmp 14) (Go.Operand.tmp 12), type := 0, pos := "run.go:106", after := #[{ on := 8, ground := Go.Ground.data }, { on := 6, ground := Go.Ground.data }], guard := none }) (v := ?_) rfl (by kernel_rfl) (by kernel_rfl) (by kernel_rfl) (by kernel_rfl) (fun _ _ _ h => h) (Or.inl ⟨by rfl, ?hE31⟩) hs0 ?_
  case hE31 =>
    intro u hu
    obtain ⟨u0, u1, u2, u3, u4⟩ := hu
    go_simp
    try with_reducible rfl
  simp only [Act.put, List.setIfInBounds_toArray, List.set_cons_zero, List.set_cons_succ]
  refine wpAnyE_take 10 [22] (oi := { dst := some 16, op := Go.Op.load 2 (Go.Operand.tmp 15), type := 2, pos := "run.go:106", after := #[{ on := 9, ground := Go.Ground.data }], guard := none }) (v := ?_) rfl (by kernel_rfl) (by kernel_rfl) (by kernel_rfl) (by kernel_rfl) (fun _ _ _ h => h) (Or.inl ⟨by rfl, ?hE32⟩) hs0 ?_
  case hE32 =>
    intro u hu
    obtain ⟨u0, u1, u2, u3, u4⟩ := hu
    go_simp
    try with_reducible rfl
  simp only [Act.put, List.setIfInBounds_toArray, List.set_cons_zero, List.set_cons_succ]
  refine wpAnyE_take 11 [22] (oi := { dst := some 17, op := Go.Op.move (Go.Operand.tmp 0), type := 64, pos := "run.go:106", after := #[], guard := none }) (v := ?_) rfl (by kernel_rfl) (by kernel_rfl) (by kernel_rfl) (by kernel_rfl) (fun _ _ _ h => h) (Or.inl ⟨by rfl, ?hE33⟩) hs0 ?_
  case hE33 =>
    intro u hu
    obtain ⟨u0, u1, u2, u3, u4⟩ := hu
    go_simp
    try with_reducible rfl
  simp only [Act.put, List.setIfInBounds_toArray, List.set_cons_zero, List.set_cons_succ]
  refine wpAnyE_take 12 [22] (oi := { dst := some 18, op := Go.Op.fieldAddr 52 (Go.Operand.tmp 4) 3, type := 0, pos := "run.go:106", after := #[], guard := none }) (v := ?_) rfl (by kernel_rfl) (by kernel_rfl) (by kernel_rfl) (by kernel_rfl) (fun _ _ _ h => h) (Or.inl ⟨by rfl, ?hE34⟩) hs0 ?_
  case hE34 =>
    intro u hu
    obtain ⟨u0, u1, u2, u3, u4⟩ := hu
    go_simp
    try with_reducible rfl
  simp only [Act.put, List.setIfInBounds_toArray, List.set_cons_zero, List.set_cons_succ]
  refine wpAnyE_take 13 [22] (oi := { dst := some 19, op := Go.Op.load 3 (Go.Operand.tmp 18), type := 3, pos := "run.go:106", after := #[{ on := 12, ground := Go.Ground.data }], guard := none }) (v := ?_) rfl (by kernel_rfl) (by kernel_rfl) (by kernel_rfl) (by kernel_rfl) (fun _ _ _ h => h) (Or.inl ⟨by rfl, ?hE35⟩) hs0 ?_
  case hE35 =>
    intro u hu
    obtain ⟨u0, u1, u2, u3, u4⟩ := hu
    go_simp
    try with_reducible rfl
  simp only [Act.put, List.setIfInBounds_toArray, List.set_cons_zero, List.set_cons_succ]
  refine wpAnyE_take 14 [22] (oi := { dst := some 20, op := Go.Op.nilCheck (Go.Operand.tmp 17), type := 0, pos := "run.go:106", after := #[{ on := 11, ground := Go.Ground.data }], guard := none }) (v := ?_) rfl (by kernel_rfl) (by kernel_rfl) (by kernel_rfl) (by kernel_rfl) (fun _ _ _ h => h) (Or.inl ⟨by rfl, ?hE36⟩) hs0 ?_
  case hE36 =>
    intro u hu
    obtain ⟨u0, u1, u2, u3, u4⟩ := hu
    go_simp
    try with_reducible rfl
  simp only [Act.put, List.setIfInBounds_toArray, List.set_cons_zero, List.set_cons_succ]
  refine wpAnyE_take 15 [22] (oi := { dst := some 21, op := Go.Op.fieldAddr 69 (Go.Operand.tmp 20) 3, type := 0, pos := "run.go:106", after := #[{ on := 14, ground := Go.Ground.data }], guard := none }) (v := ?_) rfl (by kernel_rfl) (by kernel_rfl) (by kernel_rfl) (by kernel_rfl) (fun _ _ _ h => h) (Or.inl ⟨by rfl, ?hE37⟩) hs0 ?_
  case hE37 =>
    intro u hu
    obtain ⟨u0, u1, u2, u3, u4⟩ := hu
    go_simp
    try with_reducible rfl
  simp only [Act.put, List.setIfInBounds_toArray, List.set_cons_zero, List.set_cons_succ]
  refine wpAnyE_take 16 [22] (oi := { dst := some 22, op := Go.Op.indexAddr 67 (Go.Operand.tmp 21) (Go.Operand.tmp 19), type := 0, pos := "run.go:106", after := #[{ on := 15, ground := Go.Ground.data }, { on := 13, ground := Go.Ground.data }], guard := none }) (v := ?_) rfl (by kernel_rfl) (by kernel_rfl) (by kernel_rfl) (by kernel_rfl) (fun _ _ _ h => h) (Or.inl ⟨by rfl, ?hE38⟩) hs0 ?_
  case hE38 =>
    intro u hu
    obtain ⟨u0, u1, u2, u3, u4⟩ := hu
    go_simp
    try with_reducible rfl
  simp only [Act.put, List.setIfInBounds_toArray, List.set_cons_zero, List.set_cons_succ]
  refine wpAnyE_take 17 [22] (oi := { dst := some 23, op := Go.Op.load 2 (Go.Operand.tmp 22), type := 2, pos := "run.go:106", after := #[{ on := 16, ground := Go.Ground.data }], guard := none }) (v := ?_) rfl (by kernel_rfl) (by kernel_rfl) (by kernel_rfl) (by kernel_rfl) (fun _ _ _ h => h) (Or.inl ⟨by rfl, ?hE39⟩) hs0 ?_
  case hE39 =>
    intro u hu
    obtain ⟨u0, u1, u2, u3, u4⟩ := hu
    go_simp
    try with_reducible rfl
  simp only [Act.put, List.setIfInBounds_toArray, List.set_cons_zero, List.set_cons_succ]
  refine wpAnyE_take 19 [20, 21, 22] (oi := { dst := some 25, op := Go.Op.nilCheck (Go.Operand.tmp 6), type := 0, pos := "run.go:106", after := #[{ on := 0, ground := Go.Ground.data }], guard := none }) (v := ?_) rfl (by kernel_rfl) (by kernel_rfl) (by kernel_rfl) (by kernel_rfl) (fun _ _ _ h => h) (Or.inl ⟨by rfl, ?hE40⟩) hs0 ?_
  case hE40 =>
    intro u hu
    obtain ⟨u0, u1, u2, u3, u4⟩ := hu
    go_simp
    try with_reducible rfl
  simp only [Act.put, List.setIfInBounds_toArray, List.set_cons_zero, List.set_cons_succ]
  refine wpAnyE_take 20 [21, 22] (oi := { dst := some 26, op := Go.Op.fieldAddr 69 (Go.Operand.tmp 25) 3, type := 0, pos := "run.go:106", after := #[{ on := 19, ground := Go.Ground.data }], guard := none }) (v := ?_) rfl (by kernel_rfl) (by kernel_rfl) (by kernel_rfl) (by kernel_rfl) (fun _ _ _ h => h) (Or.inl ⟨by rfl, ?hE41⟩) hs0 ?_
  case hE41 =>
    intro u hu
    obtain ⟨u0, u1, u2, u3, u4⟩ := hu
    go_simp
    try with_reducible rfl
  simp only [Act.put, List.setIfInBounds_toArray, List.set_cons_zero, List.set_cons_succ]
  refine wpAnyE_one (i := 18) (o := { dst := some 24, op := Go.Op.call { callee := Go.Callee.value (Go.Operand.tmp 9), args := #[Go.Operand.tmp 16, Go.Operand.tmp 23], argTypes := #[2, 2] }, type := 2, pos := "run.go:106", after := #[{ on := 3, ground := Go.Ground.data }, { on := 10, ground := Go.Ground.data }, { on := 17, ground := Go.Ground.data }], guard := none }) (by kernel_rfl) rfl (fun K hK => ?_)
  go_simp
  (with_reducible refine Calls.mono hcall ?_)
  rintro e w1 ⟨rfl, rfl⟩
  refine hK _ _ (fun _ => hs0) ?_
  clear hK K
  try simp only [Act.put, List.setIfInBounds_toArray, List.set_cons_zero, List.set_cons_succ]
  refine wpAnyE_take 21 [22] (oi := { dst := some 27, op := Go.Op.indexAddr 67 (Go.Operand.tmp 26) (Go.Operand.tmp 8), type := 0, pos := "run.go:106", after := #[{ on := 20, ground := Go.Ground.data }, { on := 2, ground := Go.Ground.data }, { on := 0, ground := Go.Ground.phase }, { on := 1, ground := Go.Ground.phase }, { on := 2, ground := Go.Ground.phase }, { on := 3, ground := Go.Ground.phase }, { on := 4, ground := Go.Ground.phase }, { on := 5, ground := Go.Ground.phase }, { on := 6, ground := Go.Ground.phase }, { on := 7, ground := Go.Ground.phase }, { on := 8, ground := Go.Ground.phase }, { on := 9, ground := Go.Ground.phase }, { on := 10, ground := Go.Ground.phase }, { on := 11, ground := Go.Ground.phase }, { on := 12, ground := Go.Ground.phase }, { on := 13, ground := Go.Ground.phase }, { on := 14, ground := Go.Ground.phase }, { on := 15, ground := Go.Ground.phase }, { on := 16, ground := Go.Ground.phase }, { on := 17, ground := Go.Ground.phase }, { on := 18, ground := Go.Ground.phase }], guard := none }) (v := ?_) rfl (by kernel_rfl) (by kernel_rfl) (by kernel_rfl) (by kernel_rfl) (fun _ _ _ h => h) (Or.inl ⟨by rfl, ?hE42⟩) hs0 ?_
  case hE42 =>
    intro u hu
    obtain ⟨u0, u1, u2, u3, u4⟩ := hu
    go_simp
    try with_reducible rfl
  simp only [Act.put, List.setIfInBounds_toArray, List.set_cons_zero, List.set_cons_succ]
  refine wpAnyE_one (i := 22) (o := { dst := none, op := Go.Op.store 2 (Go.Operand.tmp 27) (Go.Operand.tmp 24), type := 0, pos := "run.go:106", after := #[{ on := 21, ground := Go.Ground.data }, { on := 18, ground := Go.Ground.data }, { on := 18, ground := Go.Ground.chain }, { on := 0, ground := Go.Ground.phase }, { on := 1, ground := Go.Ground.phase }, { on := 2, ground := Go.Ground.phase }, { on := 3, ground := Go.Ground.phase }, { on := 4, ground := Go.Ground.phase }, { on := 5, ground := Go.Ground.phase }, { on := 6, ground := Go.Ground.phase }, { on := 7, ground := Go.Ground.phase }, { on := 8, ground := Go.Ground.phase }, { on := 9, ground := Go.Ground.phase }, { on := 10, ground := Go.Ground.phase }, { on := 11, ground := Go.Ground.phase }, { on := 12, ground := Go.Ground.phase }, { on := 13, ground := Go.Ground.phase }, { on := 14, ground := Go.Ground.phase }, { on := 15, ground := Go.Ground.phase }, { on := 16, ground := Go.Ground.phase }, { on := 17, ground := Go.Ground.phase }, { on := 18, ground := Go.Ground.phase }], guard := none }) (by kernel_rfl) rfl (fun K hK => ?_)
  go_simp
  refine hK _ _ (fun h => absurd rfl h) ?_
  clear hK K
  try simp only [Act.put, List.setIfInBounds_toArray, List.set_cons_zero, List.set_cons_succ]
  refine wpAnyE_done (by kernel_rfl) ?_
  go_wp2
  go_end0
  exact ⟨rfl, H.out⟩
set_option maxRecDepth 100000 in
theorem sign_any_5 {W : World} {b : Nat} {cv mv sv : Value} {w : World} {s : St} (h : Rn W b cv mv sv w s) (op : Nat) (a k c n : Int) (t : ByteArray)
    (ha0 : 0 ≤ a) (ha : a < 16) (hb0 : 0 ≤ k) (hb : k < 16) (hc0 : 0 ≤ c) (hc : c < 16) :
    Calls Tryd.prog 38 #[.pointer (some ⟨b, 0, none⟩), .agg #[.int .u8 (op : Int), .int .i64 a, .int .i64 k, .int .i64 c, .int .i64 n, .string t], .func (.func 41) #[] #[]] w fun e w' => e = .returned (.tuple #[]) ∧ Rn W b cv mv sv w' (s.put a (signB 5 (getR s k) (getR s c))) := by
  obtain ⟨W1, HW⟩ := named (w.alloc (.cells #[.int .u8 (op : Int), .int .i64 a, .int .i64 k, .int .i64 c, .int .i64 n, .string t] 52))
  have h1 : Rn W b cv mv sv W1.drew s := by rw [HW.out]; exact (h.alloc _).thenBelow (Below.refl _ _).drew
  have rb := h1.reg k hb0 hb
  have rc := h1.reg c hc0 hc
  have ra := h1.reg a ha0 ha
  have fa := h1.free (3 + a.toNat)
  have H := hide (h1.put a (signB 5 (getR s k) (getR s c)) ha0 ha)
  have hcall := sign5 (getR s k) (getR s c) W1.drew
  obtain ⟨xb, HB⟩ := named (getR s k)
  obtain ⟨xc, HC⟩ := named (getR s c)
  rw [← HB.out, ← HC.out] at H
  rw [← HB.out] at rb
  rw [← HC.out] at rc
  rw [← HB.out, ← HC.out] at hcall ⊢
  obtain ⟨r, HR⟩ := named (signB 5 xb xc)
  rw [← HR.out] at H hcall ⊢
  obtain ⟨j, HJ⟩ := Int.eq_ofNat_of_zero_le ha0
  obtain ⟨j', HJ'⟩ := Int.eq_ofNat_of_zero_le hb0
  obtain ⟨j'', HJ''⟩ := Int.eq_ofNat_of_zero_le hc0
  subst HJ HJ' HJ''
  simp only [Int.toNat_natCast] at ra fa rb rc
  have H : Hid (Rn W b cv mv sv (W1.drew.setCell ⟨b, 3 + j, none⟩ (.int .i64 r)) (s.put (j : Int) r)) := H.out
  have x1 : W1.drew.cell? ⟨w.heap.size, 1, none⟩ = some (.int .i64 j) := by rw [HW.out]; exact (cell_of_row _ w.heap.size 1 _ 52 (0, 0) (heap_alloc_new w _)).trans rfl
  have x2 : W1.drew.cell? ⟨w.heap.size, 2, none⟩ = some (.int .i64 j') := by rw [HW.out]; exact (cell_of_row _ w.heap.size 2 _ 52 (0, 0) (heap_alloc_new w _)).trans rfl
  have x3 : W1.drew.cell? ⟨w.heap.size, 3, none⟩ = some (.int .i64 j'') := by rw [HW.out]; exact (cell_of_row _ w.heap.size 3 _ 52 (0, 0) (heap_alloc_new w _)).trans rfl
  obtain ⟨pb, HPB⟩ := named w.heap.size
  rw [← HPB.out] at x1 x2 x3
  have hs0 : W1.drew.cell? ⟨b, 3 + j', none⟩ = some (.int .i64 xb) ∧ W1.drew.cell? ⟨b, 3 + j'', none⟩ = some (.int .i64 xc) ∧ W1.drew.cell? ⟨pb, 1, none⟩ = some (.int .i64 j) ∧ W1.drew.cell? ⟨pb, 2, none⟩ = some (.int .i64 j') ∧ W1.drew.cell? ⟨pb, 3, none⟩ = some (.int .i64 j'') := ⟨rb, rc, x1, x2, x3⟩
  have hj : j < 16 := by omega
  have hj' : j' < 16 := by omega
  have hj'' : j'' < 16 := by omega
  clear h1 h rb rc x1 x2 x3
  go_enter Tryd.func38, Tryd.ntmps38
  go_wp2_with fail
  rw [← HW.out, ← HPB.out]
  refine wp_region_E 22 (fun w' => w'.cell? ⟨b, 3 + j', none⟩ = some (.int .i64 xb) ∧ w'.cell? ⟨b, 3 + j'', none⟩ = some (.int .i64 xc) ∧ w'.cell? ⟨pb, 1, none⟩ = some (.int .i64 j) ∧ w'.cell? ⟨pb, 2, none⟩ = some (.int .i64 j') ∧ w'.cell? ⟨pb, 3, none⟩ = some (.int .i64 j'')) (by kernel_rfl) ?_
  refine wpAnyE_take 0 [22] (oi := { dst := some 6, op := Go.Op.move (Go.Operand.tmp 0), type := 64, pos := "run.go:106", after := #[], guard := none }) (v := ?_) rfl (by kernel_rfl) (by kernel_rfl) (by kernel_rfl) (by kernel_rfl) (fun _ _ _ h => h) (Or.inl ⟨by rfl, ?hE43⟩) hs0 ?_
  case hE43 =>
    intro u hu
    obtain ⟨u0, u1, u2, u3, u4⟩ := hu
    go_simp
    try with_reducible rfl
  simp only [Act.put, List.setIfInBounds_toArray, List.set_cons_zero, List.set_cons_succ]
  refine wpAnyE_take 1 [22] (oi := { dst := some 7, op := Go.Op.fieldAddr 52 (Go.Operand.tmp 4) 1, type := 0, pos := "run.go:106", after := #[], guard := none }) (v := ?_) rfl (by kernel_rfl) (by kernel_rfl) (by kernel_rfl) (by kernel_rfl) (fun _ _ _ h => h) (Or.inl ⟨by rfl, ?hE44⟩) hs0 ?_
  case hE44 =>
    intro u hu
    obtain ⟨u0, u1, u2, u3, u4⟩ := hu
    go_simp
    try with_reducible rfl
  simp only [Act.put, List.setIfInBounds_toArray, List.set_cons_zero, List.set_cons_succ]
  refine wpAnyE_take 2 [22] (oi := { dst := some 8, op := Go.Op.load 3 (Go.Operand.tmp 7), type := 3, pos := "run.go:106", after := #[{ on := 1, ground := Go.Ground.data }], guard := none }) (v := ?_) rfl (by kernel_rfl) (by kernel_rfl) (by kernel_rfl) (by kernel_rfl) (fun _ _ _ h => h) (Or.inl ⟨by rfl, ?hE45⟩) hs0 ?_
  case hE45 =>
    intro u hu
    obtain ⟨u0, u1, u2, u3, u4⟩ := hu
    go_simp
    try with_reducible rfl
  simp only [Act.put, List.setIfInBounds_toArray, List.set_cons_zero, List.set_cons_succ]
  refine wpAnyE_take 3 [22] (oi := { dst := some 9, op := Go.Op.move (Go.Operand.tmp 2), type := 86, pos := "run.go:106", after := #[], guard := none }) (v := ?_) rfl (by kernel_rfl) (by kernel_rfl) (by kernel_rfl) (by kernel_rfl) (fun _ _ _ h => h) (Or.inl ⟨by rfl, ?hE46⟩) hs0 ?_
  case hE46 =>
    intro u hu
    obtain ⟨u0, u1, u2, u3, u4⟩ := hu
    go_simp
    try with_reducible rfl
  simp only [Act.put, List.setIfInBounds_toArray, List.set_cons_zero, List.set_cons_succ]
  refine wpAnyE_take 4 [22] (oi := { dst := some 10, op := Go.Op.move (Go.Operand.tmp 0), type := 64, pos := "run.go:106", after := #[], guard := none }) (v := ?_) rfl (by kernel_rfl) (by kernel_rfl) (by kernel_rfl) (by kernel_rfl) (fun _ _ _ h => h) (Or.inl ⟨by rfl, ?hE47⟩) hs0 ?_
  case hE47 =>
    intro u hu
    obtain ⟨u0, u1, u2, u3, u4⟩ := hu
    go_simp
    try with_reducible rfl
  simp only [Act.put, List.setIfInBounds_toArray, List.set_cons_zero, List.set_cons_succ]
  refine wpAnyE_take 5 [22] (oi := { dst := some 11, op := Go.Op.fieldAddr 52 (Go.Operand.tmp 4) 2, type := 0, pos := "run.go:106", after := #[], guard := none }) (v := ?_) rfl (by kernel_rfl) (by kernel_rfl) (by kernel_rfl) (by kernel_rfl) (fun _ _ _ h => h) (Or.inl ⟨by rfl, ?hE48⟩) hs0 ?_
  case hE48 =>
    intro u hu
    obtain ⟨u0, u1, u2, u3, u4⟩ := hu
    go_simp
    try with_reducible rfl
  simp only [Act.put, List.setIfInBounds_toArray, List.set_cons_zero, List.set_cons_succ]
  refine wpAnyE_take 6 [22] (oi := { dst := some 12, op := Go.Op.load 3 (Go.Operand.tmp 11), type := 3, pos := "run.go:106", after := #[{ on := 5, ground := Go.Ground.data }], guard := none }) (v := ?_) rfl (by kernel_rfl) (by kernel_rfl) (by kernel_rfl) (by kernel_rfl) (fun _ _ _ h => h) (Or.inl ⟨by rfl, ?hE49⟩) hs0 ?_
  case hE49 =>
    intro u hu
    obtain ⟨u0, u1, u2, u3, u4⟩ := hu
    go_simp
    try with_reducible rfl
  simp only [Act.put, List.setIfInBounds_toArray, List.set_cons_zero, List.set_cons_succ]
  refine wpAnyE_take 7 [22] (oi := { dst := some 13, op := Go.Op.nilCheck (Go.Operand.tmp 10), type := 0, pos := "run.go:106", after := #[{ on := 4, ground := Go.Ground.data }], guard := none }) (v := ?_) rfl (by kernel_rfl) (by kernel_rfl) (by kernel_rfl) (by kernel_rfl) (fun _ _ _ h => h) (Or.inl ⟨by rfl, ?hE50⟩) hs0 ?_
  case hE50 =>
    intro u hu
    obtain ⟨u0, u1, u2, u3, u4⟩ := hu
    go_simp
    try with_reducible rfl
  simp only [Act.put, List.setIfInBounds_toArray, List.set_cons_zero, List.set_cons_succ]
  refine wpAnyE_take 8 [22] (oi := { dst := some 14, op := Go.Op.fieldAddr 69 (Go.Operand.tmp 13) 3, type := 0, pos := "run.go:106", after := #[{ on := 7, ground := Go.Ground.data }], guard := none }) (v := ?_) rfl (by kernel_rfl) (by kernel_rfl) (by kernel_rfl) (by kernel_rfl) (fun _ _ _ h => h) (Or.inl ⟨by rfl, ?hE51⟩) hs0 ?_
  case hE51 =>
    intro u hu
    obtain ⟨u0, u1, u2, u3, u4⟩ := hu
    go_simp
    try with_reducible rfl
  simp only [Act.put, List.setIfInBounds_toArray, List.set_cons_zero, List.set_cons_succ]
  refine wpAnyE_take 9 [22] (oi := { dst := some 15, op := Go.Op.indexAddr 67 (Go.Operand.tmp 14) (Go.Operand.tmp 12), type := 0, pos := "run.go:106", after := #[{ on := 8, ground := Go.Ground.data }, { on := 6, ground := Go.Ground.data }], guard := none }) (v := ?_) rfl (by kernel_rfl) (by kernel_rfl) (by kernel_rfl) (by kernel_rfl) (fun _ _ _ h => h) (Or.inl ⟨by rfl, ?hE52⟩) hs0 ?_
  case hE52 =>
    intro u hu
    obtain ⟨u0, u1, u2, u3, u4⟩ := hu
    go_simp
    try with_reducible rfl
  simp only [Act.put, List.setIfInBounds_toArray, List.set_cons_zero, List.set_cons_succ]
  refine wpAnyE_take 10 [22] (oi := { dst := some 16, op := Go.Op.load 2 (Go.Operand.tmp 15), type := 2, pos := "run.go:106", after := #[{ on := 9, ground := Go.Ground.data }], guard := none }) (v := ?_) rfl (by kernel_rfl) (by kernel_rfl) (by kernel_rfl) (by kernel_rfl) (fun _ _ _ h => h) (Or.inl ⟨by rfl, ?hE53⟩) hs0 ?_
  case hE53 =>
    intro u hu
    obtain ⟨u0, u1, u2, u3, u4⟩ := hu
    go_simp
    try with_reducible rfl
  simp only [Act.put, List.setIfInBounds_toArray, List.set_cons_zero, List.set_cons_succ]
  refine wpAnyE_take 11 [22] (oi := { dst := some 17, op := Go.Op.move (Go.Operand.tmp 0), type := 64, pos := "run.go:106", after := #[], guard := none }) (v := ?_) rfl (by kernel_rfl) (by kernel_rfl) (by kernel_rfl) (by kernel_rfl) (fun _ _ _ h => h) (Or.inl ⟨by rfl, ?hE54⟩) hs0 ?_
  case hE54 =>
    intro u hu
    obtain ⟨u0, u1, u2, u3, u4⟩ := hu
    go_simp
    try with_reducible rfl
  simp only [Act.put, List.setIfInBounds_toArray, List.set_cons_zero, List.set_cons_succ]
  refine wpAnyE_take 12 [22] (oi := { dst := some 18, op := Go.Op.fieldAddr 52 (Go.Operand.tmp 4) 3, type := 0, pos := "run.go:106", after := #[], guard := none }) (v := ?_) rfl (by kernel_rfl) (by kernel_rfl) (by kernel_rfl) (by kernel_rfl) (fun _ _ _ h => h) (Or.inl ⟨by rfl, ?hE55⟩) hs0 ?_
  case hE55 =>
    intro u hu
    obtain ⟨u0, u1, u2, u3, u4⟩ := hu
    go_simp
    try with_reducible rfl
  simp only [Act.put, List.setIfInBounds_toArray, List.set_cons_zero, List.set_cons_succ]
  refine wpAnyE_take 13 [22] (oi := { dst := some 19, op := Go.Op.load 3 (Go.Operand.tmp 18), type := 3, pos := "run.go:106", after := #[{ on := 12, ground := Go.Ground.data }], guard := none }) (v := ?_) rfl (by kernel_rfl) (by kernel_rfl) (by kernel_rfl) (by kernel_rfl) (fun _ _ _ h => h) (Or.inl ⟨by rfl, ?hE56⟩) hs0 ?_
  case hE56 =>
    intro u hu
    obtain ⟨u0, u1, u2, u3, u4⟩ := hu
    go_simp
    try with_reducible rfl
  simp only [Act.put, List.setIfInBounds_toArray, List.set_cons_zero, List.set_cons_succ]
  refine wpAnyE_take 14 [22] (oi := { dst := some 20, op := Go.Op.nilCheck (Go.Operand.tmp 17), type := 0, pos := "run.go:106", after := #[{ on := 11, ground := Go.Ground.data }], guard := none }) (v := ?_) rfl (by kernel_rfl) (by kernel_rfl) (by kernel_rfl) (by kernel_rfl) (fun _ _ _ h => h) (Or.inl ⟨by rfl, ?hE57⟩) hs0 ?_
  case hE57 =>
    intro u hu
    obtain ⟨u0, u1, u2, u3, u4⟩ := hu
    go_simp
    try with_reducible rfl
  simp only [Act.put, List.setIfInBounds_toArray, List.set_cons_zero, List.set_cons_succ]
  refine wpAnyE_take 15 [22] (oi := { dst := some 21, op := Go.Op.fieldAddr 69 (Go.Operand.tmp 20) 3, type := 0, pos := "run.go:106", after := #[{ on := 14, ground := Go.Ground.data }], guard := none }) (v := ?_) rfl (by kernel_rfl) (by kernel_rfl) (by kernel_rfl) (by kernel_rfl) (fun _ _ _ h => h) (Or.inl ⟨by rfl, ?hE58⟩) hs0 ?_
  case hE58 =>
    intro u hu
    obtain ⟨u0, u1, u2, u3, u4⟩ := hu
    go_simp
    try with_reducible rfl
  simp only [Act.put, List.setIfInBounds_toArray, List.set_cons_zero, List.set_cons_succ]
  refine wpAnyE_take 16 [22] (oi := { dst := some 22, op := Go.Op.indexAddr 67 (Go.Operand.tmp 21) (Go.Operand.tmp 19), type := 0, pos := "run.go:106", after := #[{ on := 15, ground := Go.Ground.data }, { on := 13, ground := Go.Ground.data }], guard := none }) (v := ?_) rfl (by kernel_rfl) (by kernel_rfl) (by kernel_rfl) (by kernel_rfl) (fun _ _ _ h => h) (Or.inl ⟨by rfl, ?hE59⟩) hs0 ?_
  case hE59 =>
    intro u hu
    obtain ⟨u0, u1, u2, u3, u4⟩ := hu
    go_simp
    try with_reducible rfl
  simp only [Act.put, List.setIfInBounds_toArray, List.set_cons_zero, List.set_cons_succ]
  refine wpAnyE_take 17 [22] (oi := { dst := some 23, op := Go.Op.load 2 (Go.Operand.tmp 22), type := 2, pos := "run.go:106", after := #[{ on := 16, ground := Go.Ground.data }], guard := none }) (v := ?_) rfl (by kernel_rfl) (by kernel_rfl) (by kernel_rfl) (by kernel_rfl) (fun _ _ _ h => h) (Or.inl ⟨by rfl, ?hE60⟩) hs0 ?_
  case hE60 =>
    intro u hu
    obtain ⟨u0, u1, u2, u3, u4⟩ := hu
    go_simp
    try with_reducible rfl
  simp only [Act.put, List.setIfInBounds_toArray, List.set_cons_zero, List.set_cons_succ]
  refine wpAnyE_take 19 [20, 21, 22] (oi := { dst := some 25, op := Go.Op.nilCheck (Go.Operand.tmp 6), type := 0, pos := "run.go:106", after := #[{ on := 0, ground := Go.Ground.data }], guard := none }) (v := ?_) rfl (by kernel_rfl) (by kernel_rfl) (by kernel_rfl) (by kernel_rfl) (fun _ _ _ h => h) (Or.inl ⟨by rfl, ?hE61⟩) hs0 ?_
  case hE61 =>
    intro u hu
    obtain ⟨u0, u1, u2, u3, u4⟩ := hu
    go_simp
    try with_reducible rfl
  simp only [Act.put, List.setIfInBounds_toArray, List.set_cons_zero, List.set_cons_succ]
  refine wpAnyE_take 20 [21, 22] (oi := { dst := some 26, op := Go.Op.fieldAddr 69 (Go.Operand.tmp 25) 3, type := 0, pos := "run.go:106", after := #[{ on := 19, ground := Go.Ground.data }], guard := none }) (v := ?_) rfl (by kernel_rfl) (by kernel_rfl) (by kernel_rfl) (by kernel_rfl) (fun _ _ _ h => h) (Or.inl ⟨by rfl, ?hE62⟩) hs0 ?_
  case hE62 =>
    intro u hu
    obtain ⟨u0, u1, u2, u3, u4⟩ := hu
    go_simp
    try with_reducible rfl
  simp only [Act.put, List.setIfInBounds_toArray, List.set_cons_zero, List.set_cons_succ]
  refine wpAnyE_one (i := 18) (o := { dst := some 24, op := Go.Op.call { callee := Go.Callee.value (Go.Operand.tmp 9), args := #[Go.Operand.tmp 16, Go.Operand.tmp 23], argTypes := #[2, 2] }, type := 2, pos := "run.go:106", after := #[{ on := 3, ground := Go.Ground.data }, { on := 10, ground := Go.Ground.data }, { on := 17, ground := Go.Ground.data }], guard := none }) (by kernel_rfl) rfl (fun K hK => ?_)
  go_simp
  (with_reducible refine Calls.mono hcall ?_)
  rintro e w1 ⟨rfl, rfl⟩
  refine hK _ _ (fun _ => hs0) ?_
  clear hK K
  try simp only [Act.put, List.setIfInBounds_toArray, List.set_cons_zero, List.set_cons_succ]
  refine wpAnyE_take 21 [22] (oi := { dst := some 27, op := Go.Op.indexAddr 67 (Go.Operand.tmp 26) (Go.Operand.tmp 8), type := 0, pos := "run.go:106", after := #[{ on := 20, ground := Go.Ground.data }, { on := 2, ground := Go.Ground.data }, { on := 0, ground := Go.Ground.phase }, { on := 1, ground := Go.Ground.phase }, { on := 2, ground := Go.Ground.phase }, { on := 3, ground := Go.Ground.phase }, { on := 4, ground := Go.Ground.phase }, { on := 5, ground := Go.Ground.phase }, { on := 6, ground := Go.Ground.phase }, { on := 7, ground := Go.Ground.phase }, { on := 8, ground := Go.Ground.phase }, { on := 9, ground := Go.Ground.phase }, { on := 10, ground := Go.Ground.phase }, { on := 11, ground := Go.Ground.phase }, { on := 12, ground := Go.Ground.phase }, { on := 13, ground := Go.Ground.phase }, { on := 14, ground := Go.Ground.phase }, { on := 15, ground := Go.Ground.phase }, { on := 16, ground := Go.Ground.phase }, { on := 17, ground := Go.Ground.phase }, { on := 18, ground := Go.Ground.phase }], guard := none }) (v := ?_) rfl (by kernel_rfl) (by kernel_rfl) (by kernel_rfl) (by kernel_rfl) (fun _ _ _ h => h) (Or.inl ⟨by rfl, ?hE63⟩) hs0 ?_
  case hE63 =>
    intro u hu
    obtain ⟨u0, u1, u2, u3, u4⟩ := hu
    go_simp
    try with_reducible rfl
  simp only [Act.put, List.setIfInBounds_toArray, List.set_cons_zero, List.set_cons_succ]
  refine wpAnyE_one (i := 22) (o := { dst := none, op := Go.Op.store 2 (Go.Operand.tmp 27) (Go.Operand.tmp 24), type := 0, pos := "run.go:106", after := #[{ on := 21, ground := Go.Ground.data }, { on := 18, ground := Go.Ground.data }, { on := 18, ground := Go.Ground.chain }, { on := 0, ground := Go.Ground.phase }, { on := 1, ground := Go.Ground.phase }, { on := 2, ground := Go.Ground.phase }, { on := 3, ground := Go.Ground.phase }, { on := 4, ground := Go.Ground.phase }, { on := 5, ground := Go.Ground.phase }, { on := 6, ground := Go.Ground.phase }, { on := 7, ground := Go.Ground.phase }, { on := 8, ground := Go.Ground.phase }, { on := 9, ground := Go.Ground.phase }, { on := 10, ground := Go.Ground.phase }, { on := 11, ground := Go.Ground.phase }, { on := 12, ground := Go.Ground.phase }, { on := 13, ground := Go.Ground.phase }, { on := 14, ground := Go.Ground.phase }, { on := 15, ground := Go.Ground.phase }, { on := 16, ground := Go.Ground.phase }, { on := 17, ground := Go.Ground.phase }, { on := 18, ground := Go.Ground.phase }], guard := none }) (by kernel_rfl) rfl (fun K hK => ?_)
  go_simp
  refine hK _ _ (fun h => absurd rfl h) ?_
  clear hK K
  try simp only [Act.put, List.setIfInBounds_toArray, List.set_cons_zero, List.set_cons_succ]
  refine wpAnyE_done (by kernel_rfl) ?_
  go_wp2
  go_end0
  exact ⟨rfl, H.out⟩
set_option maxRecDepth 100000 in
theorem sign_any_6 {W : World} {b : Nat} {cv mv sv : Value} {w : World} {s : St} (h : Rn W b cv mv sv w s) (op : Nat) (a k c n : Int) (t : ByteArray)
    (ha0 : 0 ≤ a) (ha : a < 16) (hb0 : 0 ≤ k) (hb : k < 16) (hc0 : 0 ≤ c) (hc : c < 16) :
    Calls Tryd.prog 38 #[.pointer (some ⟨b, 0, none⟩), .agg #[.int .u8 (op : Int), .int .i64 a, .int .i64 k, .int .i64 c, .int .i64 n, .string t], .func (.func 42) #[] #[]] w fun e w' => e = .returned (.tuple #[]) ∧ Rn W b cv mv sv w' (s.put a (signB 6 (getR s k) (getR s c))) := by
  obtain ⟨W1, HW⟩ := named (w.alloc (.cells #[.int .u8 (op : Int), .int .i64 a, .int .i64 k, .int .i64 c, .int .i64 n, .string t] 52))
  have h1 : Rn W b cv mv sv W1.drew s := by rw [HW.out]; exact (h.alloc _).thenBelow (Below.refl _ _).drew
  have rb := h1.reg k hb0 hb
  have rc := h1.reg c hc0 hc
  have ra := h1.reg a ha0 ha
  have fa := h1.free (3 + a.toNat)
  have H := hide (h1.put a (signB 6 (getR s k) (getR s c)) ha0 ha)
  have hcall := sign6 (getR s k) (getR s c) W1.drew
  obtain ⟨xb, HB⟩ := named (getR s k)
  obtain ⟨xc, HC⟩ := named (getR s c)
  rw [← HB.out, ← HC.out] at H
  rw [← HB.out] at rb
  rw [← HC.out] at rc
  rw [← HB.out, ← HC.out] at hcall ⊢
  obtain ⟨r, HR⟩ := named (signB 6 xb xc)
  rw [← HR.out] at H hcall ⊢
  obtain ⟨j, HJ⟩ := Int.eq_ofNat_of_zero_le ha0
  obtain ⟨j', HJ'⟩ := Int.eq_ofNat_of_zero_le hb0
  obtain ⟨j'', HJ''⟩ := Int.eq_ofNat_of_zero_le hc0
  subst HJ HJ' HJ''
  simp only [Int.toNat_natCast] at ra fa rb rc
  have H : Hid (Rn W b cv mv sv (W1.drew.setCell ⟨b, 3 + j, none⟩ (.int .i64 r)) (s.put (j : Int) r)) := H.out
  have x1 : W1.drew.cell? ⟨w.heap.size, 1, none⟩ = some (.int .i64 j) := by rw [HW.out]; exact (cell_of_row _ w.heap.size 1 _ 52 (0, 0) (heap_alloc_new w _)).trans rfl
  have x2 : W1.drew.cell? ⟨w.heap.size, 2, none⟩ = some (.int .i64 j') := by rw [HW.out]; exact (cell_of_row _ w.heap.size 2 _ 52 (0, 0) (heap_alloc_new w _)).trans rfl
  have x3 : W1.drew.cell? ⟨w.heap.size, 3, none⟩ = some (.int .i64 j'') := by rw [HW.out]; exact (cell_of_row _ w.heap.size 3 _ 52 (0, 0) (heap_alloc_new w _)).trans rfl
  obtain ⟨pb, HPB⟩ := named w.heap.size
  rw [← HPB.out] at x1 x2 x3
  have hs0 : W1.drew.cell? ⟨b, 3 + j', none⟩ = some (.int .i64 xb) ∧ W1.drew.cell? ⟨b, 3 + j'', none⟩ = some (.int .i64 xc) ∧ W1.drew.cell? ⟨pb, 1, none⟩ = some (.int .i64 j) ∧ W1.drew.cell? ⟨pb, 2, none⟩ = some (.int .i64 j') ∧ W1.drew.cell? ⟨pb, 3, none⟩ = some (.int .i64 j'') := ⟨rb, rc, x1, x2, x3⟩
  have hj : j < 16 := by omega
  have hj' : j' < 16 := by omega
  have hj'' : j'' < 16 := by omega
  clear h1 h rb rc x1 x2 x3
  go_enter Tryd.func38, Tryd.ntmps38
  go_wp2_with fail
  rw [← HW.out, ← HPB.out]
  refine wp_region_E 22 (fun w' => w'.cell? ⟨b, 3 + j', none⟩ = some (.int .i64 xb) ∧ w'.cell? ⟨b, 3 + j'', none⟩ = some (.int .i64 xc) ∧ w'.cell? ⟨pb, 1, none⟩ = some (.int .i64 j) ∧ w'.cell? ⟨pb, 2, none⟩ = some (.int .i64 j') ∧ w'.cell? ⟨pb, 3, none⟩ = some (.int .i64 j'')) (by kernel_rfl) ?_
  refine wpAnyE_take 0 [22] (oi := { dst := some 6, op := Go.Op.move (Go.Operand.tmp 0), type := 64, pos := "run.go:106", after := #[], guard := none }) (v := ?_) rfl (by kernel_rfl) (by kernel_rfl) (by kernel_rfl) (by kernel_rfl) (fun _ _ _ h => h) (Or.inl ⟨by rfl, ?hE64⟩) hs0 ?_
  case hE64 =>
    intro u hu
    obtain ⟨u0, u1, u2, u3, u4⟩ := hu
    go_simp
    try with_reducible rfl
  simp only [Act.put, List.setIfInBounds_toArray, List.set_cons_zero, List.set_cons_succ]
  refine wpAnyE_take 1 [22] (oi := { dst := some 7, op := Go.Op.fieldAddr 52 (Go.Operand.tmp 4) 1, type := 0, pos := "run.go:106", after := #[], guard := none }) (v := ?_) rfl (by kernel_rfl) (by kernel_rfl) (by kernel_rfl) (by kernel_rfl) (fun _ _ _ h => h) (Or.inl ⟨by rfl, ?hE65⟩) hs0 ?_
  case hE65 =>
    intro u hu
    obtain ⟨u0, u1, u2, u3, u4⟩ := hu
    go_simp
    try with_reducible rfl
  simp only [Act.put, List.setIfInBounds_toArray, List.set_cons_zero, List.set_cons_succ]
  refine wpAnyE_take 2 [22] (oi := { dst := some 8, op := Go.Op.load 3 (Go.Operand.tmp 7), type := 3, pos := "run.go:106", after := #[{ on := 1, ground := Go.Ground.data }], guard := none }) (v := ?_) rfl (by kernel_rfl) (by kernel_rfl) (by kernel_rfl) (by kernel_rfl) (fun _ _ _ h => h) (Or.inl ⟨by rfl, ?hE66⟩) hs0 ?_
  case hE66 =>
    intro u hu
    obtain ⟨u0, u1, u2, u3, u4⟩ := hu
    go_simp
    try with_reducible rfl
  simp only [Act.put, List.setIfInBounds_toArray, List.set_cons_zero, List.set_cons_succ]
  refine wpAnyE_take 3 [22] (oi := { dst := some 9, op := Go.Op.move (Go.Operand.tmp 2), type := 86, pos := "run.go:106", after := #[], guard := none }) (v := ?_) rfl (by kernel_rfl) (by kernel_rfl) (by kernel_rfl) (by kernel_rfl) (fun _ _ _ h => h) (Or.inl ⟨by rfl, ?hE67⟩) hs0 ?_
  case hE67 =>
    intro u hu
    obtain ⟨u0, u1, u2, u3, u4⟩ := hu
    go_simp
    try with_reducible rfl
  simp only [Act.put, List.setIfInBounds_toArray, List.set_cons_zero, List.set_cons_succ]
  refine wpAnyE_take 4 [22] (oi := { dst := some 10, op := Go.Op.move (Go.Operand.tmp 0), type := 64, pos := "run.go:106", after := #[], guard := none }) (v := ?_) rfl (by kernel_rfl) (by kernel_rfl) (by kernel_rfl) (by kernel_rfl) (fun _ _ _ h => h) (Or.inl ⟨by rfl, ?hE68⟩) hs0 ?_
  case hE68 =>
    intro u hu
    obtain ⟨u0, u1, u2, u3, u4⟩ := hu
    go_simp
    try with_reducible rfl
  simp only [Act.put, List.setIfInBounds_toArray, List.set_cons_zero, List.set_cons_succ]
  refine wpAnyE_take 5 [22] (oi := { dst := some 11, op := Go.Op.fieldAddr 52 (Go.Operand.tmp 4) 2, type := 0, pos := "run.go:106", after := #[], guard := none }) (v := ?_) rfl (by kernel_rfl) (by kernel_rfl) (by kernel_rfl) (by kernel_rfl) (fun _ _ _ h => h) (Or.inl ⟨by rfl, ?hE69⟩) hs0 ?_
  case hE69 =>
    intro u hu
    obtain ⟨u0, u1, u2, u3, u4⟩ := hu
    go_simp
    try with_reducible rfl
  simp only [Act.put, List.setIfInBounds_toArray, List.set_cons_zero, List.set_cons_succ]
  refine wpAnyE_take 6 [22] (oi := { dst := some 12, op := Go.Op.load 3 (Go.Operand.tmp 11), type := 3, pos := "run.go:106", after := #[{ on := 5, ground := Go.Ground.data }], guard := none }) (v := ?_) rfl (by kernel_rfl) (by kernel_rfl) (by kernel_rfl) (by kernel_rfl) (fun _ _ _ h => h) (Or.inl ⟨by rfl, ?hE70⟩) hs0 ?_
  case hE70 =>
    intro u hu
    obtain ⟨u0, u1, u2, u3, u4⟩ := hu
    go_simp
    try with_reducible rfl
  simp only [Act.put, List.setIfInBounds_toArray, List.set_cons_zero, List.set_cons_succ]
  refine wpAnyE_take 7 [22] (oi := { dst := some 13, op := Go.Op.nilCheck (Go.Operand.tmp 10), type := 0, pos := "run.go:106", after := #[{ on := 4, ground := Go.Ground.data }], guard := none }) (v := ?_) rfl (by kernel_rfl) (by kernel_rfl) (by kernel_rfl) (by kernel_rfl) (fun _ _ _ h => h) (Or.inl ⟨by rfl, ?hE71⟩) hs0 ?_
  case hE71 =>
    intro u hu
    obtain ⟨u0, u1, u2, u3, u4⟩ := hu
    go_simp
    try with_reducible rfl
  simp only [Act.put, List.setIfInBounds_toArray, List.set_cons_zero, List.set_cons_succ]
  refine wpAnyE_take 8 [22] (oi := { dst := some 14, op := Go.Op.fieldAddr 69 (Go.Operand.tmp 13) 3, type := 0, pos := "run.go:106", after := #[{ on := 7, ground := Go.Ground.data }], guard := none }) (v := ?_) rfl (by kernel_rfl) (by kernel_rfl) (by kernel_rfl) (by kernel_rfl) (fun _ _ _ h => h) (Or.inl ⟨by rfl, ?hE72⟩) hs0 ?_
  case hE72 =>
    intro u hu
    obtain ⟨u0, u1, u2, u3, u4⟩ := hu
    go_simp
    try with_reducible rfl
  simp only [Act.put, List.setIfInBounds_toArray, List.set_cons_zero, List.set_cons_succ]
  refine wpAnyE_take 9 [22] (oi := { dst := some 15, op := Go.Op.indexAddr 67 (Go.Operand.tmp 14) (Go.Operand.tmp 12), type := 0, pos := "run.go:106", after := #[{ on := 8, ground := Go.Ground.data }, { on := 6, ground := Go.Ground.data }], guard := none }) (v := ?_) rfl (by kernel_rfl) (by kernel_rfl) (by kernel_rfl) (by kernel_rfl) (fun _ _ _ h => h) (Or.inl ⟨by rfl, ?hE73⟩) hs0 ?_
  case hE73 =>
    intro u hu
    obtain ⟨u0, u1, u2, u3, u4⟩ := hu
    go_simp
    try with_reducible rfl
  simp only [Act.put, List.setIfInBounds_toArray, List.set_cons_zero, List.set_cons_succ]
  refine wpAnyE_take 10 [22] (oi := { dst := some 16, op := Go.Op.load 2 (Go.Operand.tmp 15), type := 2, pos := "run.go:106", after := #[{ on := 9, ground := Go.Ground.data }], guard := none }) (v := ?_) rfl (by kernel_rfl) (by kernel_rfl) (by kernel_rfl) (by kernel_rfl) (fun _ _ _ h => h) (Or.inl ⟨by rfl, ?hE74⟩) hs0 ?_
  case hE74 =>
    intro u hu
    obtain ⟨u0, u1, u2, u3, u4⟩ := hu
    go_simp
    try with_reducible rfl
  simp only [Act.put, List.setIfInBounds_toArray, List.set_cons_zero, List.set_cons_succ]
  refine wpAnyE_take 11 [22] (oi := { dst := some 17, op := Go.Op.move (Go.Operand.tmp 0), type := 64, pos := "run.go:106", after := #[], guard := none }) (v := ?_) rfl (by kernel_rfl) (by kernel_rfl) (by kernel_rfl) (by kernel_rfl) (fun _ _ _ h => h) (Or.inl ⟨by rfl, ?hE75⟩) hs0 ?_
  case hE75 =>
    intro u hu
    obtain ⟨u0, u1, u2, u3, u4⟩ := hu
    go_simp
    try with_reducible rfl
  simp only [Act.put, List.setIfInBounds_toArray, List.set_cons_zero, List.set_cons_succ]
  refine wpAnyE_take 12 [22] (oi := { dst := some 18, op := Go.Op.fieldAddr 52 (Go.Operand.tmp 4) 3, type := 0, pos := "run.go:106", after := #[], guard := none }) (v := ?_) rfl (by kernel_rfl) (by kernel_rfl) (by kernel_rfl) (by kernel_rfl) (fun _ _ _ h => h) (Or.inl ⟨by rfl, ?hE76⟩) hs0 ?_
  case hE76 =>
    intro u hu
    obtain ⟨u0, u1, u2, u3, u4⟩ := hu
    go_simp
    try with_reducible rfl
  simp only [Act.put, List.setIfInBounds_toArray, List.set_cons_zero, List.set_cons_succ]
  refine wpAnyE_take 13 [22] (oi := { dst := some 19, op := Go.Op.load 3 (Go.Operand.tmp 18), type := 3, pos := "run.go:106", after := #[{ on := 12, ground := Go.Ground.data }], guard := none }) (v := ?_) rfl (by kernel_rfl) (by kernel_rfl) (by kernel_rfl) (by kernel_rfl) (fun _ _ _ h => h) (Or.inl ⟨by rfl, ?hE77⟩) hs0 ?_
  case hE77 =>
    intro u hu
    obtain ⟨u0, u1, u2, u3, u4⟩ := hu
    go_simp
    try with_reducible rfl
  simp only [Act.put, List.setIfInBounds_toArray, List.set_cons_zero, List.set_cons_succ]
  refine wpAnyE_take 14 [22] (oi := { dst := some 20, op := Go.Op.nilCheck (Go.Operand.tmp 17), type := 0, pos := "run.go:106", after := #[{ on := 11, ground := Go.Ground.data }], guard := none }) (v := ?_) rfl (by kernel_rfl) (by kernel_rfl) (by kernel_rfl) (by kernel_rfl) (fun _ _ _ h => h) (Or.inl ⟨by rfl, ?hE78⟩) hs0 ?_
  case hE78 =>
    intro u hu
    obtain ⟨u0, u1, u2, u3, u4⟩ := hu
    go_simp
    try with_reducible rfl
  simp only [Act.put, List.setIfInBounds_toArray, List.set_cons_zero, List.set_cons_succ]
  refine wpAnyE_take 15 [22] (oi := { dst := some 21, op := Go.Op.fieldAddr 69 (Go.Operand.tmp 20) 3, type := 0, pos := "run.go:106", after := #[{ on := 14, ground := Go.Ground.data }], guard := none }) (v := ?_) rfl (by kernel_rfl) (by kernel_rfl) (by kernel_rfl) (by kernel_rfl) (fun _ _ _ h => h) (Or.inl ⟨by rfl, ?hE79⟩) hs0 ?_
  case hE79 =>
    intro u hu
    obtain ⟨u0, u1, u2, u3, u4⟩ := hu
    go_simp
    try with_reducible rfl
  simp only [Act.put, List.setIfInBounds_toArray, List.set_cons_zero, List.set_cons_succ]
  refine wpAnyE_take 16 [22] (oi := { dst := some 22, op := Go.Op.indexAddr 67 (Go.Operand.tmp 21) (Go.Operand.tmp 19), type := 0, pos := "run.go:106", after := #[{ on := 15, ground := Go.Ground.data }, { on := 13, ground := Go.Ground.data }], guard := none }) (v := ?_) rfl (by kernel_rfl) (by kernel_rfl) (by kernel_rfl) (by kernel_rfl) (fun _ _ _ h => h) (Or.inl ⟨by rfl, ?hE80⟩) hs0 ?_
  case hE80 =>
    intro u hu
    obtain ⟨u0, u1, u2, u3, u4⟩ := hu
    go_simp
    try with_reducible rfl
  simp only [Act.put, List.setIfInBounds_toArray, List.set_cons_zero, List.set_cons_succ]
  refine wpAnyE_take 17 [22] (oi := { dst := some 23, op := Go.Op.load 2 (Go.Operand.tmp 22), type := 2, pos := "run.go:106", after := #[{ on := 16, ground := Go.Ground.data }], guard := none }) (v := ?_) rfl (by kernel_rfl) (by kernel_rfl) (by kernel_rfl) (by kernel_rfl) (fun _ _ _ h => h) (Or.inl ⟨by rfl, ?hE81⟩) hs0 ?_
  case hE81 =>
    intro u hu
    obtain ⟨u0, u1, u2, u3, u4⟩ := hu
    go_simp
    try with_reducible rfl
  simp only [Act.put, List.setIfInBounds_toArray, List.set_cons_zero, List.set_cons_succ]
  refine wpAnyE_take 19 [20, 21, 22] (oi := { dst := some 25, op := Go.Op.nilCheck (Go.Operand.tmp 6), type := 0, pos := "run.go:106", after := #[{ on := 0, ground := Go.Ground.data }], guard := none }) (v := ?_) rfl (by kernel_rfl) (by kernel_rfl) (by kernel_rfl) (by kernel_rfl) (fun _ _ _ h => h) (Or.inl ⟨by rfl, ?hE82⟩) hs0 ?_
  case hE82 =>
    intro u hu
    obtain ⟨u0, u1, u2, u3, u4⟩ := hu
    go_simp
    try with_reducible rfl
  simp only [Act.put, List.setIfInBounds_toArray, List.set_cons_zero, List.set_cons_succ]
  refine wpAnyE_take 20 [21, 22] (oi := { dst := some 26, op := Go.Op.fieldAddr 69 (Go.Operand.tmp 25) 3, type := 0, pos := "run.go:106", after := #[{ on := 19, ground := Go.Ground.data }], guard := none }) (v := ?_) rfl (by kernel_rfl) (by kernel_rfl) (by kernel_rfl) (by kernel_rfl) (fun _ _ _ h => h) (Or.inl ⟨by rfl, ?hE83⟩) hs0 ?_
  case hE83 =>
    intro u hu
    obtain ⟨u0, u1, u2, u3, u4⟩ := hu
    go_simp
    try with_reducible rfl
  simp only [Act.put, List.setIfInBounds_toArray, List.set_cons_zero, List.set_cons_succ]
  refine wpAnyE_one (i := 18) (o := { dst := some 24, op := Go.Op.call { callee := Go.Callee.value (Go.Operand.tmp 9), args := #[Go.Operand.tmp 16, Go.Operand.tmp 23], argTypes := #[2, 2] }, type := 2, pos := "run.go:106", after := #[{ on := 3, ground := Go.Ground.data }, { on := 10, ground := Go.Ground.data }, { on := 17, ground := Go.Ground.data }], guard := none }) (by kernel_rfl) rfl (fun K hK => ?_)
  go_simp
  (with_reducible refine Calls.mono hcall ?_)
  rintro e w1 ⟨rfl, rfl⟩
  refine hK _ _ (fun _ => hs0) ?_
  clear hK K
  try simp only [Act.put, List.setIfInBounds_toArray, List.set_cons_zero, List.set_cons_succ]
  refine wpAnyE_take 21 [22] (oi := { dst := some 27, op := Go.Op.indexAddr 67 (Go.Operand.tmp 26) (Go.Operand.tmp 8), type := 0, pos := "run.go:106", after := #[{ on := 20, ground := Go.Ground.data }, { on := 2, ground := Go.Ground.data }, { on := 0, ground := Go.Ground.phase }, { on := 1, ground := Go.Ground.phase }, { on := 2, ground := Go.Ground.phase }, { on := 3, ground := Go.Ground.phase }, { on := 4, ground := Go.Ground.phase }, { on := 5, ground := Go.Ground.phase }, { on := 6, ground := Go.Ground.phase }, { on := 7, ground := Go.Ground.phase }, { on := 8, ground := Go.Ground.phase }, { on := 9, ground := Go.Ground.phase }, { on := 10, ground := Go.Ground.phase }, { on := 11, ground := Go.Ground.phase }, { on := 12, ground := Go.Ground.phase }, { on := 13, ground := Go.Ground.phase }, { on := 14, ground := Go.Ground.phase }, { on := 15, ground := Go.Ground.phase }, { on := 16, ground := Go.Ground.phase }, { on := 17, ground := Go.Ground.phase }, { on := 18, ground := Go.Ground.phase }], guard := none }) (v := ?_) rfl (by kernel_rfl) (by kernel_rfl) (by kernel_rfl) (by kernel_rfl) (fun _ _ _ h => h) (Or.inl ⟨by rfl, ?hE84⟩) hs0 ?_
  case hE84 =>
    intro u hu
    obtain ⟨u0, u1, u2, u3, u4⟩ := hu
    go_simp
    try with_reducible rfl
  simp only [Act.put, List.setIfInBounds_toArray, List.set_cons_zero, List.set_cons_succ]
  refine wpAnyE_one (i := 22) (o := { dst := none, op := Go.Op.store 2 (Go.Operand.tmp 27) (Go.Operand.tmp 24), type := 0, pos := "run.go:106", after := #[{ on := 21, ground := Go.Ground.data }, { on := 18, ground := Go.Ground.data }, { on := 18, ground := Go.Ground.chain }, { on := 0, ground := Go.Ground.phase }, { on := 1, ground := Go.Ground.phase }, { on := 2, ground := Go.Ground.phase }, { on := 3, ground := Go.Ground.phase }, { on := 4, ground := Go.Ground.phase }, { on := 5, ground := Go.Ground.phase }, { on := 6, ground := Go.Ground.phase }, { on := 7, ground := Go.Ground.phase }, { on := 8, ground := Go.Ground.phase }, { on := 9, ground := Go.Ground.phase }, { on := 10, ground := Go.Ground.phase }, { on := 11, ground := Go.Ground.phase }, { on := 12, ground := Go.Ground.phase }, { on := 13, ground := Go.Ground.phase }, { on := 14, ground := Go.Ground.phase }, { on := 15, ground := Go.Ground.phase }, { on := 16, ground := Go.Ground.phase }, { on := 17, ground := Go.Ground.phase }, { on := 18, ground := Go.Ground.phase }], guard := none }) (by kernel_rfl) rfl (fun K hK => ?_)
  go_simp
  refine hK _ _ (fun h => absurd rfl h) ?_
  clear hK K
  try simp only [Act.put, List.setIfInBounds_toArray, List.set_cons_zero, List.set_cons_succ]
  refine wpAnyE_done (by kernel_rfl) ?_
  go_wp2
  go_end0
  exact ⟨rfl, H.out⟩
set_option maxRecDepth 100000 in
theorem sign_any_7 {W : World} {b : Nat} {cv mv sv : Value} {w : World} {s : St} (h : Rn W b cv mv sv w s) (op : Nat) (a k c n : Int) (t : ByteArray)
    (ha0 : 0 ≤ a) (ha : a < 16) (hb0 : 0 ≤ k) (hb : k < 16) (hc0 : 0 ≤ c) (hc : c < 16) :
    Calls Tryd.prog 38 #[.pointer (some ⟨b, 0, none⟩), .agg #[.int .u8 (op : Int), .int .i64 a, .int .i64 k, .int .i64 c, .int .i64 n, .string t], .func (.func 44) #[] #[]] w fun e w' => e = .returned (.tuple #[]) ∧ Rn W b cv mv sv w' (s.put a (signB 7 (getR s k) (getR s c))) := by
  obtain ⟨W1, HW⟩ := named (w.alloc (.cells #[.int .u8 (op : Int), .int .i64 a, .int .i64 k, .int .i64 c, .int .i64 n, .string t] 52))
  have h1 : Rn W b cv mv sv W1.drew s := by rw [HW.out]; exact (h.alloc _).thenBelow (Below.refl _ _).drew
  have rb := h1.reg k hb0 hb
  have rc := h1.reg c hc0 hc
  have ra := h1.reg a ha0 ha
  have fa := h1.free (3 + a.toNat)
  have H := hide (h1.put a (signB 7 (getR s k) (getR s c)) ha0 ha)
  have hcall := sign7 (getR s k) (getR s c) W1.drew
  obtain ⟨xb, HB⟩ := named (getR s k)
  obtain ⟨xc, HC⟩ := named (getR s c)
  rw [← HB.out, ← HC.out] at H
  rw [← HB.out] at rb
  rw [← HC.out] at rc
  rw [← HB.out, ← HC.out] at hcall ⊢
  obtain ⟨r, HR⟩ := named (signB 7 xb xc)
  rw [← HR.out] at H hcall ⊢
  obtain ⟨j, HJ⟩ := Int.eq_ofNat_of_zero_le ha0
  obtain ⟨j', HJ'⟩ := Int.eq_ofNat_of_zero_le hb0
  obtain ⟨j'', HJ''⟩ := Int.eq_ofNat_of_zero_le hc0
  subst HJ HJ' HJ''
  simp only [Int.toNat_natCast] at ra fa rb rc
  have H : Hid (Rn W b cv mv sv (W1.drew.setCell ⟨b, 3 + j, none⟩ (.int .i64 r)) (s.put (j : Int) r)) := H.out
  have x1 : W1.drew.cell? ⟨w.heap.size, 1, none⟩ = some (.int .i64 j) := by rw [HW.out]; exact (cell_of_row _ w.heap.size 1 _ 52 (0, 0) (heap_alloc_new w _)).trans rfl
  have x2 : W1.drew.cell? ⟨w.heap.size, 2, none⟩ = some (.int .i64 j') := by rw [HW.out]; exact (cell_of_row _ w.heap.size 2 _ 52 (0, 0) (heap_alloc_new w _)).trans rfl
  have x3 : W1.drew.cell? ⟨w.heap.size, 3, none⟩ = some (.int .i64 j'') := by rw [HW.out]; exact (cell_of_row _ w.heap.size 3 _ 52 (0, 0) (heap_alloc_new w _)).trans rfl
  obtain ⟨pb, HPB⟩ := named w.heap.size
  rw [← HPB.out] at x1 x2 x3
  have hs0 : W1.drew.cell? ⟨b, 3 + j', none⟩ = some (.int .i64 xb) ∧ W1.drew.cell? ⟨b, 3 + j'', none⟩ = some (.int .i64 xc) ∧ W1.drew.cell? ⟨pb, 1, none⟩ = some (.int .i64 j) ∧ W1.drew.cell? ⟨pb, 2, none⟩ = some (.int .i64 j') ∧ W1.drew.cell? ⟨pb, 3, none⟩ = some (.int .i64 j'') := ⟨rb, rc, x1, x2, x3⟩
  have hj : j < 16 := by omega
  have hj' : j' < 16 := by omega
  have hj'' : j'' < 16 := by omega
  clear h1 h rb rc x1 x2 x3
  go_enter Tryd.func38, Tryd.ntmps38
  go_wp2_with fail
  rw [← HW.out, ← HPB.out]
  refine wp_region_E 22 (fun w' => w'.cell? ⟨b, 3 + j', none⟩ = some (.int .i64 xb) ∧ w'.cell? ⟨b, 3 + j'', none⟩ = some (.int .i64 xc) ∧ w'.cell? ⟨pb, 1, none⟩ = some (.int .i64 j) ∧ w'.cell? ⟨pb, 2, none⟩ = some (.int .i64 j') ∧ w'.cell? ⟨pb, 3, none⟩ = some (.int .i64 j'')) (by kernel_rfl) ?_
  refine wpAnyE_take 0 [22] (oi := { dst := some 6, op := Go.Op.move (Go.Operand.tmp 0), type := 64, pos := "run.go:106", after := #[], guard := none }) (v := ?_) rfl (by kernel_rfl) (by kernel_rfl) (by kernel_rfl) (by kernel_rfl) (fun _ _ _ h => h) (Or.inl ⟨by rfl, ?hE85⟩) hs0 ?_
  case hE85 =>
    intro u hu
    obtain ⟨u0, u1, u2, u3, u4⟩ := hu
    go_simp
    try with_reducible rfl
  simp only [Act.put, List.setIfInBounds_toArray, List.set_cons_zero, List.set_cons_succ]
  refine wpAnyE_take 1 [22] (oi := { dst := some 7, op := Go.Op.fieldAddr 52 (Go.Operand.tmp 4) 1, type := 0, pos := "run.go:106", after := #[], guard := none }) (v := ?_) rfl (by kernel_rfl) (by kernel_rfl) (by kernel_rfl) (by kernel_rfl) (fun _ _ _ h => h) (Or.inl ⟨by rfl, ?hE86⟩) hs0 ?_
  case hE86 =>
    intro u hu
    obtain ⟨u0, u1, u2, u3, u4⟩ := hu
    go_simp
    try with_reducible rfl
  simp only [Act.put, List.setIfInBounds_toArray, List.set_cons_zero, List.set_cons_succ]
  refine wpAnyE_take 2 [22] (oi := { dst := some 8, op := Go.Op.load 3 (Go.Operand.tmp 7), type := 3, pos := "run.go:106", after := #[{ on := 1, ground := Go.Ground.data }], guard := none }) (v := ?_) rfl (by kernel_rfl) (by kernel_rfl) (by kernel_rfl) (by kernel_rfl) (fun _ _ _ h => h) (Or.inl ⟨by rfl, ?hE87⟩) hs0 ?_
  case hE87 =>
    intro u hu
    obtain ⟨u0, u1, u2, u3, u4⟩ := hu
    go_simp
    try with_reducible rfl
  simp only [Act.put, List.setIfInBounds_toArray, List.set_cons_zero, List.set_cons_succ]
  refine wpAnyE_take 3 [22] (oi := { dst := some 9, op := Go.Op.move (Go.Operand.tmp 2), type := 86, pos := "run.go:106", after := #[], guard := none }) (v := ?_) rfl (by kernel_rfl) (by kernel_rfl) (by kernel_rfl) (by kernel_rfl) (fun _ _ _ h => h) (Or.inl ⟨by rfl, ?hE88⟩) hs0 ?_
  case hE88 =>
    intro u hu
    obtain ⟨u0, u1, u2, u3, u4⟩ := hu
    go_simp
    try with_reducible rfl
  simp only [Act.put, List.setIfInBounds_toArray, List.set_cons_zero, List.set_cons_succ]
  refine wpAnyE_take 4 [22] (oi := { dst := some 10, op := Go.Op.move (Go.Operand.tmp 0), type := 64, pos := "run.go:106", after := #[], guard := none }) (v := ?_) rfl (by kernel_rfl) (by kernel_rfl) (by kernel_rfl) (by kernel_rfl) (fun _ _ _ h => h) (Or.inl ⟨by rfl, ?hE89⟩) hs0 ?_
  case hE89 =>
    intro u hu
    obtain ⟨u0, u1, u2, u3, u4⟩ := hu
    go_simp
    try with_reducible rfl
  simp only [Act.put, List.setIfInBounds_toArray, List.set_cons_zero, List.set_cons_succ]
  refine wpAnyE_take 5 [22] (oi := { dst := some 11, op := Go.Op.fieldAddr 52 (Go.Operand.tmp 4) 2, type := 0, pos := "run.go:106", after := #[], guard := none }) (v := ?_) rfl (by kernel_rfl) (by kernel_rfl) (by kernel_rfl) (by kernel_rfl) (fun _ _ _ h => h) (Or.inl ⟨by rfl, ?hE90⟩) hs0 ?_
  case hE90 =>
    intro u hu
    obtain ⟨u0, u1, u2, u3, u4⟩ := hu
    go_simp
    try with_reducible rfl
  simp only [Act.put, List.setIfInBounds_toArray, List.set_cons_zero, List.set_cons_succ]
  refine wpAnyE_take 6 [22] (oi := { dst := some 12, op := Go.Op.load 3 (Go.Operand.tmp 11), type := 3, pos := "run.go:106", after := #[{ on := 5, ground := Go.Ground.data }], guard := none }) (v := ?_) rfl (by kernel_rfl) (by kernel_rfl) (by kernel_rfl) (by kernel_rfl) (fun _ _ _ h => h) (Or.inl ⟨by rfl, ?hE91⟩) hs0 ?_
  case hE91 =>
    intro u hu
    obtain ⟨u0, u1, u2, u3, u4⟩ := hu
    go_simp
    try with_reducible rfl
  simp only [Act.put, List.setIfInBounds_toArray, List.set_cons_zero, List.set_cons_succ]
  refine wpAnyE_take 7 [22] (oi := { dst := some 13, op := Go.Op.nilCheck (Go.Operand.tmp 10), type := 0, pos := "run.go:106", after := #[{ on := 4, ground := Go.Ground.data }], guard := none }) (v := ?_) rfl (by kernel_rfl) (by kernel_rfl) (by kernel_rfl) (by kernel_rfl) (fun _ _ _ h => h) (Or.inl ⟨by rfl, ?hE92⟩) hs0 ?_
  case hE92 =>
    intro u hu
    obtain ⟨u0, u1, u2, u3, u4⟩ := hu
    go_simp
    try with_reducible rfl
  simp only [Act.put, List.setIfInBounds_toArray, List.set_cons_zero, List.set_cons_succ]
  refine wpAnyE_take 8 [22] (oi := { dst := some 14, op := Go.Op.fieldAddr 69 (Go.Operand.tmp 13) 3, type := 0, pos := "run.go:106", after := #[{ on := 7, ground := Go.Ground.data }], guard := none }) (v := ?_) rfl (by kernel_rfl) (by kernel_rfl) (by kernel_rfl) (by kernel_rfl) (fun _ _ _ h => h) (Or.inl ⟨by rfl, ?hE93⟩) hs0 ?_
  case hE93 =>
    intro u hu
    obtain ⟨u0, u1, u2, u3, u4⟩ := hu
    go_simp
    try with_reducible rfl
  simp only [Act.put, List.setIfInBounds_toArray, List.set_cons_zero, List.set_cons_succ]
  refine wpAnyE_take 9 [22] (oi := { dst := some 15, op := Go.Op.indexAddr 67 (Go.Operand.tmp 14) (Go.Operand.tmp 12), type := 0, pos := "run.go:106", after := #[{ on := 8, ground := Go.Ground.data }, { on := 6, ground := Go.Ground.data }], guard := none }) (v := ?_) rfl (by kernel_rfl) (by kernel_rfl) (by kernel_rfl) (by kernel_rfl) (fun _ _ _ h => h) (Or.inl ⟨by rfl, ?hE94⟩) hs0 ?_
  case hE94 =>
    intro u hu
    obtain ⟨u0, u1, u2, u3, u4⟩ := hu
    go_simp
    try with_reducible rfl
  simp only [Act.put, List.setIfInBounds_toArray, List.set_cons_zero, List.set_cons_succ]
  refine wpAnyE_take 10 [22] (oi := { dst := some 16, op := Go.Op.load 2 (Go.Operand.tmp 15), type := 2, pos := "run.go:106", after := #[{ on := 9, ground := Go.Ground.data }], guard := none }) (v := ?_) rfl (by kernel_rfl) (by kernel_rfl) (by kernel_rfl) (by kernel_rfl) (fun _ _ _ h => h) (Or.inl ⟨by rfl, ?hE95⟩) hs0 ?_
  case hE95 =>
    intro u hu
    obtain ⟨u0, u1, u2, u3, u4⟩ := hu
    go_simp
    try with_reducible rfl
  simp only [Act.put, List.setIfInBounds_toArray, List.set_cons_zero, List.set_cons_succ]
  refine wpAnyE_take 11 [22] (oi := { dst := some 17, op := Go.Op.move (Go.Operand.tmp 0), type := 64, pos := "run.go:106", after := #[], guard := none }) (v := ?_) rfl (by kernel_rfl) (by kernel_rfl) (by kernel_rfl) (by kernel_rfl) (fun _ _ _ h => h) (Or.inl ⟨by rfl, ?hE96⟩) hs0 ?_
  case hE96 =>
    intro u hu
    obtain ⟨u0, u1, u2, u3, u4⟩ := hu
    go_simp
    try with_reducible rfl
  simp only [Act.put, List.setIfInBounds_toArray, List.set_cons_zero, List.set_cons_succ]
  refine wpAnyE_take 12 [22] (oi := { dst := some 18, op := Go.Op.fieldAddr 52 (Go.Operand.tmp 4) 3, type := 0, pos := "run.go:106", after := #[], guard := none }) (v := ?_) rfl (by kernel_rfl) (by kernel_rfl) (by kernel_rfl) (by kernel_rfl) (fun _ _ _ h => h) (Or.inl ⟨by rfl, ?hE97⟩) hs0 ?_
  case hE97 =>
    intro u hu
    obtain ⟨u0, u1, u2, u3, u4⟩ := hu
    go_simp
    try with_reducible rfl
  simp only [Act.put, List.setIfInBounds_toArray, List.set_cons_zero, List.set_cons_succ]
  refine wpAnyE_take 13 [22] (oi := { dst := some 19, op := Go.Op.load 3 (Go.Operand.tmp 18), type := 3, pos := "run.go:106", after := #[{ on := 12, ground := Go.Ground.data }], guard := none }) (v := ?_) rfl (by kernel_rfl) (by kernel_rfl) (by kernel_rfl) (by kernel_rfl) (fun _ _ _ h => h) (Or.inl ⟨by rfl, ?hE98⟩) hs0 ?_
  case hE98 =>
    intro u hu
    obtain ⟨u0, u1, u2, u3, u4⟩ := hu
    go_simp
    try with_reducible rfl
  simp only [Act.put, List.setIfInBounds_toArray, List.set_cons_zero, List.set_cons_succ]
  refine wpAnyE_take 14 [22] (oi := { dst := some 20, op := Go.Op.nilCheck (Go.Operand.tmp 17), type := 0, pos := "run.go:106", after := #[{ on := 11, ground := Go.Ground.data }], guard := none }) (v := ?_) rfl (by kernel_rfl) (by kernel_rfl) (by kernel_rfl) (by kernel_rfl) (fun _ _ _ h => h) (Or.inl ⟨by rfl, ?hE99⟩) hs0 ?_
  case hE99 =>
    intro u hu
    obtain ⟨u0, u1, u2, u3, u4⟩ := hu
    go_simp
    try with_reducible rfl
  simp only [Act.put, List.setIfInBounds_toArray, List.set_cons_zero, List.set_cons_succ]
  refine wpAnyE_take 15 [22] (oi := { dst := some 21, op := Go.Op.fieldAddr 69 (Go.Operand.tmp 20) 3, type := 0, pos := "run.go:106", after := #[{ on := 14, ground := Go.Ground.data }], guard := none }) (v := ?_) rfl (by kernel_rfl) (by kernel_rfl) (by kernel_rfl) (by kernel_rfl) (fun _ _ _ h => h) (Or.inl ⟨by rfl, ?hE100⟩) hs0 ?_
  case hE100 =>
    intro u hu
    obtain ⟨u0, u1, u2, u3, u4⟩ := hu
    go_simp
    try with_reducible rfl
  simp only [Act.put, List.setIfInBounds_toArray, List.set_cons_zero, List.set_cons_succ]
  refine wpAnyE_take 16 [22] (oi := { dst := some 22, op := Go.Op.indexAddr 67 (Go.Operand.tmp 21) (Go.Operand.tmp 19), type := 0, pos := "run.go:106", after := #[{ on := 15, ground := Go.Ground.data }, { on := 13, ground := Go.Ground.data }], guard := none }) (v := ?_) rfl (by kernel_rfl) (by kernel_rfl) (by kernel_rfl) (by kernel_rfl) (fun _ _ _ h => h) (Or.inl ⟨by rfl, ?hE101⟩) hs0 ?_
  case hE101 =>
    intro u hu
    obtain ⟨u0, u1, u2, u3, u4⟩ := hu
    go_simp
    try with_reducible rfl
  simp only [Act.put, List.setIfInBounds_toArray, List.set_cons_zero, List.set_cons_succ]
  refine wpAnyE_take 17 [22] (oi := { dst := some 23, op := Go.Op.load 2 (Go.Operand.tmp 22), type := 2, pos := "run.go:106", after := #[{ on := 16, ground := Go.Ground.data }], guard := none }) (v := ?_) rfl (by kernel_rfl) (by kernel_rfl) (by kernel_rfl) (by kernel_rfl) (fun _ _ _ h => h) (Or.inl ⟨by rfl, ?hE102⟩) hs0 ?_
  case hE102 =>
    intro u hu
    obtain ⟨u0, u1, u2, u3, u4⟩ := hu
    go_simp
    try with_reducible rfl
  simp only [Act.put, List.setIfInBounds_toArray, List.set_cons_zero, List.set_cons_succ]
  refine wpAnyE_take 19 [20, 21, 22] (oi := { dst := some 25, op := Go.Op.nilCheck (Go.Operand.tmp 6), type := 0, pos := "run.go:106", after := #[{ on := 0, ground := Go.Ground.data }], guard := none }) (v := ?_) rfl (by kernel_rfl) (by kernel_rfl) (by kernel_rfl) (by kernel_rfl) (fun _ _ _ h => h) (Or.inl ⟨by rfl, ?hE103⟩) hs0 ?_
  case hE103 =>
    intro u hu
    obtain ⟨u0, u1, u2, u3, u4⟩ := hu
    go_simp
    try with_reducible rfl
  simp only [Act.put, List.setIfInBounds_toArray, List.set_cons_zero, List.set_cons_succ]
  refine wpAnyE_take 20 [21, 22] (oi := { dst := some 26, op := Go.Op.fieldAddr 69 (Go.Operand.tmp 25) 3, type := 0, pos := "run.go:106", after := #[{ on := 19, ground := Go.Ground.data }], guard := none }) (v := ?_) rfl (by kernel_rfl) (by kernel_rfl) (by kernel_rfl) (by kernel_rfl) (fun _ _ _ h => h) (Or.inl ⟨by rfl, ?hE104⟩) hs0 ?_
  case hE104 =>
    intro u hu
    obtain ⟨u0, u1, u2, u3, u4⟩ := hu
    go_simp
    try with_reducible rfl
  simp only [Act.put, List.setIfInBounds_toArray, List.set_cons_zero, List.set_cons_succ]
  refine wpAnyE_one (i := 18) (o := { dst := some 24, op := Go.Op.call { callee := Go.Callee.value (Go.Operand.tmp 9), args := #[Go.Operand.tmp 16, Go.Operand.tmp 23], argTypes := #[2, 2] }, type := 2, pos := "run.go:106", after := #[{ on := 3, ground := Go.Ground.data }, { on := 10, ground := Go.Ground.data }, { on := 17, ground := Go.Ground.data }], guard := none }) (by kernel_rfl) rfl (fun K hK => ?_)
  go_simp
  (with_reducible refine Calls.mono hcall ?_)
  rintro e w1 ⟨rfl, rfl⟩
  refine hK _ _ (fun _ => hs0) ?_
  clear hK K
  try simp only [Act.put, List.setIfInBounds_toArray, List.set_cons_zero, List.set_cons_succ]
  refine wpAnyE_take 21 [22] (oi := { dst := some 27, op := Go.Op.indexAddr 67 (Go.Operand.tmp 26) (Go.Operand.tmp 8), type := 0, pos := "run.go:106", after := #[{ on := 20, ground := Go.Ground.data }, { on := 2, ground := Go.Ground.data }, { on := 0, ground := Go.Ground.phase }, { on := 1, ground := Go.Ground.phase }, { on := 2, ground := Go.Ground.phase }, { on := 3, ground := Go.Ground.phase }, { on := 4, ground := Go.Ground.phase }, { on := 5, ground := Go.Ground.phase }, { on := 6, ground := Go.Ground.phase }, { on := 7, ground := Go.Ground.phase }, { on := 8, ground := Go.Ground.phase }, { on := 9, ground := Go.Ground.phase }, { on := 10, ground := Go.Ground.phase }, { on := 11, ground := Go.Ground.phase }, { on := 12, ground := Go.Ground.phase }, { on := 13, ground := Go.Ground.phase }, { on := 14, ground := Go.Ground.phase }, { on := 15, ground := Go.Ground.phase }, { on := 16, ground := Go.Ground.phase }, { on := 17, ground := Go.Ground.phase }, { on := 18, ground := Go.Ground.phase }], guard := none }) (v := ?_) rfl (by kernel_rfl) (by kernel_rfl) (by kernel_rfl) (by kernel_rfl) (fun _ _ _ h => h) (Or.inl ⟨by rfl, ?hE105⟩) hs0 ?_
  case hE105 =>
    intro u hu
    obtain ⟨u0, u1, u2, u3, u4⟩ := hu
    go_simp
    try with_reducible rfl
  simp only [Act.put, List.setIfInBounds_toArray, List.set_cons_zero, List.set_cons_succ]
  refine wpAnyE_one (i := 22) (o := { dst := none, op := Go.Op.store 2 (Go.Operand.tmp 27) (Go.Operand.tmp 24), type := 0, pos := "run.go:106", after := #[{ on := 21, ground := Go.Ground.data }, { on := 18, ground := Go.Ground.data }, { on := 18, ground := Go.Ground.chain }, { on := 0, ground := Go.Ground.phase }, { on := 1, ground := Go.Ground.phase }, { on := 2, ground := Go.Ground.phase }, { on := 3, ground := Go.Ground.phase }, { on := 4, ground := Go.Ground.phase }, { on := 5, ground := Go.Ground.phase }, { on := 6, ground := Go.Ground.phase }, { on := 7, ground := Go.Ground.phase }, { on := 8, ground := Go.Ground.phase }, { on := 9, ground := Go.Ground.phase }, { on := 10, ground := Go.Ground.phase }, { on := 11, ground := Go.Ground.phase }, { on := 12, ground := Go.Ground.phase }, { on := 13, ground := Go.Ground.phase }, { on := 14, ground := Go.Ground.phase }, { on := 15, ground := Go.Ground.phase }, { on := 16, ground := Go.Ground.phase }, { on := 17, ground := Go.Ground.phase }, { on := 18, ground := Go.Ground.phase }], guard := none }) (by kernel_rfl) rfl (fun K hK => ?_)
  go_simp
  refine hK _ _ (fun h => absurd rfl h) ?_
  clear hK K
  try simp only [Act.put, List.setIfInBounds_toArray, List.set_cons_zero, List.set_cons_succ]
  refine wpAnyE_done (by kernel_rfl) ?_
  go_wp2
  go_end0
  exact ⟨rfl, H.out⟩
end Go.Proofs.YtlngeonfabahnaaDoor
