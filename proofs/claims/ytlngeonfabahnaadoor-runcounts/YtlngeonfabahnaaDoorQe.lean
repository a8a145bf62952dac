/-
  The contract of a run's wait. Own work.
-/
import Derived.Test.YtlngeonfabahnaaDoorQd
import Derived.Test.YtlngeonfabahnaaDoorKi
namespace Go.Proofs.YtlngeonfabahnaaDoor
open Go Go.RowKit
set_option linter.unusedSimpArgs false
set_option linter.unusedVariables false

def ocV (o : Oc) : Value := .agg #[.int .i64 o.1, .int .i64 o.2]
/-- the map tells the first outcome of each number that a command may have -/
def Knows (w : World) (mb : Nat) (kn : Int → Option Oc) : Prop := ∃ m l, KI.Mp w mb m l ∧ ∀ n, 1 ≤ n → n ≤ 200 → l n = (kn n).map ocV
theorem Knows.below {w w' : World} {mb B : Nat} {kn : Int → Option Oc} (h : Knows w mb kn) (hb : Below B w w') (hB : mb < B) : Knows w' mb kn := by
  obtain ⟨m, l, h1, h2⟩ := h
  exact ⟨m, l, h1.heap (hb.block mb hB), h2⟩
theorem Knows.look {w : World} {mb : Nat} {kn : Int → Option Oc} (h : Knows w mb kn) (n : Int) (h1 : 1 ≤ n) (h2 : n ≤ 200) :
    (Instr.lookup 65 (.map (some mb)) (.int .i64 n) true).run Tryd.prog w = .ok (.tuple #[((kn n).map ocV).getD (.agg #[.int .i64 0, .int .i64 0]), .bool (kn n).isSome]) w := by
  obtain ⟨m, l, k1, k2⟩ := h
  have := k1.look_ok KI.mt65 (s := n) ⟨by omega, by omega⟩
  rw [this, k2 n h1 h2]
  cases kn n <;> rfl

set_option maxRecDepth 100000 in
set_option maxHeartbeats 1600000 in
theorem wait_any {W : World} {b mb : Nat} {cv sv : Value} {w : World} {s : St} (h : Rn W b cv (.map (some mb)) sv w s) (kn : Int → Option Oc) (hK : Knows W mb kn) (hW : b = W.heap.size) (hmb : mb < b)
    (i : Ins) (ha0 : 0 ≤ i.a) (ha : i.a < 16) (hb0 : 0 ≤ i.b) (hb : i.b < 16) (hc0 : 0 ≤ i.c) (hc : i.c < 16) :
    Calls Tryd.prog 46 #[.pointer (some ⟨b, 0, none⟩), insV i] w fun e w' => e = .returned (.bool (waitI kn i s).2) ∧ Rn W b cv (.map (some mb)) sv w' (waitI kn i s).1 := by
  have HWb := hide hW
  clear hW
  obtain ⟨op, a, k, c, n, t⟩ := i
  simp only at ha0 ha hb0 hb hc0 hc
  obtain ⟨j, HJ⟩ := Int.eq_ofNat_of_zero_le ha0
  obtain ⟨j1, HJ1⟩ := Int.eq_ofNat_of_zero_le hb0
  obtain ⟨j2, HJ2⟩ := Int.eq_ofNat_of_zero_le hc0
  subst HJ HJ1 HJ2
  show Calls Tryd.prog 46 #[.pointer (some ⟨b, 0, none⟩), .agg #[.int .u8 (op : Int), .int .i64 j, .int .i64 j1, .int .i64 j2, .int .i64 n, .string t]] w _
  have hbl : b < w.heap.size := h.lt
  obtain ⟨pb, HPB⟩ := named w.heap.size
  obtain ⟨ob, HOB⟩ := named (w.heap.size + 1)
  have hpb : b < pb := by rw [HPB.out]; exact hbl
  have hob : pb < ob := by rw [HPB.out, HOB.out]; omega
  obtain ⟨W1, HW⟩ := named (w.alloc (.cells #[.int .u8 (op : Int), .int .i64 j, .int .i64 j1, .int .i64 j2, .int .i64 n, .string t] 52))
  have hz1 : W1.heap.size = ob := by rw [HW.out, HOB.out]; simp
  obtain ⟨W2, HW2⟩ := named (W1.alloc (.cells #[.int .i64 1, .int .i64 0] 32))
  have h1 : Rn W b cv (.map (some mb)) sv W1 s := by rw [HW.out]; exact h.alloc _
  have h2 : Rn W b cv (.map (some mb)) sv W2 s := by rw [HW2.out]; exact h1.alloc _
  have xb : RC 6 W1 pb (fun k => ([.int .u8 (op : Int), .int .i64 j, .int .i64 j1, .int .i64 j2, .int .i64 n, .string t] : List Value).getD k undef) := by
    rw [HW.out, HPB.out]
    refine RC.new w _ 52 _ (fun k hk => ?_)
    rcases (show k = 0 ∨ k = 1 ∨ k = 2 ∨ k = 3 ∨ k = 4 ∨ k = 5 by omega) with rfl | rfl | rfl | rfl | rfl | rfl <;> rfl
  have xb' : RC 6 W2 pb (fun k => ([.int .u8 (op : Int), .int .i64 j, .int .i64 j1, .int .i64 j2, .int .i64 n, .string t] : List Value).getD k undef) := by rw [HW2.out]; exact xb.alloc _
  have xo : RC 2 W2 ob (fun k => ([.int .i64 1, .int .i64 0] : List Value).getD k undef) := by
    rw [HW2.out, ← hz1]
    refine RC.new W1 _ 32 _ (fun k hk => ?_)
    rcases (show k = 0 ∨ k = 1 by omega) with rfl | rfl <;> rfl
  have yb2 : W1.drew.cell? ⟨pb, 2, none⟩ = some (.int .i64 j1) := xb.2.1 2 (by omega)
  obtain ⟨nn, HNN⟩ := named (getR s j1)
  have rb : W1.drew.cell? ⟨b, 3 + j1, none⟩ = some (.int .i64 nn) := by rw [HNN.out]; exact h1.reg j1 (by omega) (by omega)
  have hs1 : W1.drew.cell? ⟨pb, 2, none⟩ = some (.int .i64 j1) ∧ W1.drew.cell? ⟨b, 3 + j1, none⟩ = some (.int .i64 nn) := ⟨yb2, rb⟩
  obtain ⟨vc, hcc0, hown0⟩ := id h.own
  have hcc : RC 27 W2 b (rf cv (.map (some mb)) sv vc s) := by rw [HW2.out, HW.out]; exact (hcc0.alloc _).alloc _
  have hown : OwnM W2 (b + 1) vc s.cmds := by rw [HW2.out, HW.out]; exact (hown0.alloc _).alloc _
  have hOwnNe : ∀ a, vc.ownBlock = some a → a < pb := fun a ha => by rw [HPB.out]; exact (hown0.lt a ha).2
  obtain ⟨co, cc, hvc, hvl⟩ := RdM.shape (l := s.cmds) hown.rd
  have hfew := h2.few
  subst hvc
  have c24 : W2.drew.cell? ⟨b, 24, none⟩ = some (.slice co s.cmds.length cc) := hcc.2.1 24 (by omega)
  obtain ⟨L, HL⟩ := named s.cmds.length
  rw [← HL.out] at c24 hfew
  have hj : (j : Int) < 16 := by omega
  have hj1 : (j1 : Int) < 16 := by omega
  have hj2 : (j2 : Int) < 16 := by omega
  have xb1 : W2.cell? ⟨pb, 1, none⟩ = some (.int .i64 j) := xb'.2.1 1 (by omega)
  have xb3 : W2.cell? ⟨pb, 3, none⟩ = some (.int .i64 j2) := xb'.2.1 3 (by omega)
  have xo0 : W2.cell? ⟨ob, 0, none⟩ = some (.int .i64 1) := xo.2.1 0 (by omega)
  have xo1 : W2.cell? ⟨ob, 1, none⟩ = some (.int .i64 0) := xo.2.1 1 (by omega)
  have hRn : Rn W b cv (.map (some mb)) sv W2 s := h2
  by_cases hlo : 1 ≤ nn
  · by_cases hhi : nn ≤ (L : Int)
    · have hic : isCmd s (getR s j1) := ⟨by rw [← HNN.out]; exact hlo, by rw [← HNN.out, ← HL.out]; exact hhi⟩
      have hKw : Knows W2.drew mb kn := hK.below (w' := W2.drew) h2.below.drew hmb
      have hlook := hKw.look nn hlo (by omega)
      have c1 : W2.drew.cell? ⟨b, 1, none⟩ = some (.map (some mb)) := h2.cell.2.1
      have fo0 : W2.drew.frozen? ⟨ob, 0, none⟩ = false := xo.2.2 0
      have fo1 : W2.drew.frozen? ⟨ob, 1, none⟩ = false := xo.2.2 1
      have xo0' : W2.drew.cell? ⟨ob, 0, none⟩ = some (.int .i64 1) := xo0
      have xo1' : W2.drew.cell? ⟨ob, 1, none⟩ = some (.int .i64 0) := xo1
      cases hk : kn nn with
      | none =>
        rw [hk] at hlook
        have hlook : (Instr.lookup 65 (.map (some mb)) (.int .i64 nn) true).run Tryd.prog W2.drew = .ok (.tuple #[.agg #[.int .i64 0, .int .i64 0], .bool false]) W2.drew := hlook
        have e : waitI kn ⟨op, j, j1, j2, n, t⟩ s = ({ s with at_ := 2, on := nn }, false) := by
          unfold waitI
          rw [if_pos hic]
          show (match kn (getR s j1) with | none => _ | some o => _) = _
          rw [← HNN.out, hk]
        rw [e]
        obtain ⟨W3, HW3⟩ := named (W1.alloc (.cells #[.int .i64 0, .int .i64 0] 32))
        have h3 : Rn W b cv (.map (some mb)) sv W3 s := by rw [HW3.out]; exact h1.alloc _
        have h4 := h3.stand 2
        have d20 : W3.drew.cell? ⟨b, 20, none⟩ = some (.int .i64 s.at_) := h3.cell.2.2.2.2.1
        have f20 : W3.drew.frozen? ⟨b, 20, none⟩ = false := h3.free 20
        have d23 : (W3.setCell ⟨b, 20, none⟩ (.int .i64 2)).drew.cell? ⟨b, 23, none⟩ = some (.int .i64 s.on) := by
          obtain ⟨v, hv, -⟩ := h4.own
          exact hv.2.1 23 (by omega)
        have f23 : (W3.setCell ⟨b, 20, none⟩ (.int .i64 2)).drew.frozen? ⟨b, 23, none⟩ = false := h4.free 23
        have H := hide (show Rn W b cv (.map (some mb)) sv (((W3.setCell ⟨b, 20, none⟩ (.int .i64 2)).setCell ⟨b, 23, none⟩ (.int .i64 nn)).drew) { s with at_ := 2, on := nn } from (h4.waits nn).drew)
        rw [HW3.out] at d20 f20 d23 f23
        rw [HW2.out] at c24 c1
        rw [HW2.out] at fo0 fo1 xo0' xo1'
        rw [HW2.out] at hlook
        clear h h1 h2 h3 h4 hRn hcc hown hcc0 hown0 hOwnNe xb xb' xo hic hKw
        go_enter Tryd.func46, Tryd.ntmps46
        go_wp2_with fail
        rw [← HW.out, ← HPB.out]
        refine wp_region_E 7 (fun w' => w'.cell? ⟨pb, 2, none⟩ = some (.int .i64 j1) ∧ w'.cell? ⟨b, 3 + j1, none⟩ = some (.int .i64 nn)) (by kernel_rfl) ?_
        refine wpAnyE_take 0 [7] (oi := { dst := some 8, op := Go.Op.move (Go.Operand.tmp 0), type := 64, pos := "run.go:131", after := #[], guard := none }) (v := ?_) rfl (by kernel_rfl) (by kernel_rfl) (by kernel_rfl) (by kernel_rfl) (fun _ _ _ h => h) (Or.inl ⟨by rfl, ?hE70⟩) hs1 ?_
        case hE70 =>
          intro u hu
          obtain ⟨u0, u1⟩ := hu
          go_simp
          try with_reducible rfl
        simp only [Act.put, List.setIfInBounds_toArray, List.set_cons_zero, List.set_cons_succ]
        refine wpAnyE_take 1 [7] (oi := { dst := some 9, op := Go.Op.fieldAddr 52 (Go.Operand.tmp 3) 2, type := 0, pos := "run.go:131", after := #[], guard := none }) (v := ?_) rfl (by kernel_rfl) (by kernel_rfl) (by kernel_rfl) (by kernel_rfl) (fun _ _ _ h => h) (Or.inl ⟨by rfl, ?hE71⟩) hs1 ?_
        case hE71 =>
          intro u hu
          obtain ⟨u0, u1⟩ := hu
          go_simp
          try with_reducible rfl
        simp only [Act.put, List.setIfInBounds_toArray, List.set_cons_zero, List.set_cons_succ]
        refine wpAnyE_take 2 [7] (oi := { dst := some 10, op := Go.Op.load 3 (Go.Operand.tmp 9), type := 3, pos := "run.go:131", after := #[{ on := 1, ground := Go.Ground.data }], guard := none }) (v := ?_) rfl (by kernel_rfl) (by kernel_rfl) (by kernel_rfl) (by kernel_rfl) (fun _ _ _ h => h) (Or.inl ⟨by rfl, ?hE72⟩) hs1 ?_
        case hE72 =>
          intro u hu
          obtain ⟨u0, u1⟩ := hu
          go_simp
          try with_reducible rfl
        simp only [Act.put, List.setIfInBounds_toArray, List.set_cons_zero, List.set_cons_succ]
        refine wpAnyE_take 3 [7] (oi := { dst := some 11, op := Go.Op.nilCheck (Go.Operand.tmp 8), type := 0, pos := "run.go:131", after := #[{ on := 0, ground := Go.Ground.data }], guard := none }) (v := ?_) rfl (by kernel_rfl) (by kernel_rfl) (by kernel_rfl) (by kernel_rfl) (fun _ _ _ h => h) (Or.inl ⟨by rfl, ?hE73⟩) hs1 ?_
        case hE73 =>
          intro u hu
          obtain ⟨u0, u1⟩ := hu
          go_simp
          try with_reducible rfl
        simp only [Act.put, List.setIfInBounds_toArray, List.set_cons_zero, List.set_cons_succ]
        refine wpAnyE_take 4 [7] (oi := { dst := some 12, op := Go.Op.fieldAddr 69 (Go.Operand.tmp 11) 3, type := 0, pos := "run.go:131", after := #[{ on := 3, ground := Go.Ground.data }], guard := none }) (v := ?_) rfl (by kernel_rfl) (by kernel_rfl) (by kernel_rfl) (by kernel_rfl) (fun _ _ _ h => h) (Or.inl ⟨by rfl, ?hE74⟩) hs1 ?_
        case hE74 =>
          intro u hu
          obtain ⟨u0, u1⟩ := hu
          go_simp
          try with_reducible rfl
        simp only [Act.put, List.setIfInBounds_toArray, List.set_cons_zero, List.set_cons_succ]
        refine wpAnyE_take 5 [7] (oi := { dst := some 13, op := Go.Op.indexAddr 67 (Go.Operand.tmp 12) (Go.Operand.tmp 10), type := 0, pos := "run.go:131", after := #[{ on := 4, ground := Go.Ground.data }, { on := 2, ground := Go.Ground.data }], guard := none }) (v := ?_) rfl (by kernel_rfl) (by kernel_rfl) (by kernel_rfl) (by kernel_rfl) (fun _ _ _ h => h) (Or.inl ⟨by rfl, ?hE75⟩) hs1 ?_
        case hE75 =>
          intro u hu
          obtain ⟨u0, u1⟩ := hu
          go_simp
          try with_reducible rfl
        simp only [Act.put, List.setIfInBounds_toArray, List.set_cons_zero, List.set_cons_succ]
        refine wpAnyE_take 6 [7] (oi := { dst := some 14, op := Go.Op.load 2 (Go.Operand.tmp 13), type := 2, pos := "run.go:131", after := #[{ on := 5, ground := Go.Ground.data }], guard := none }) (v := ?_) rfl (by kernel_rfl) (by kernel_rfl) (by kernel_rfl) (by kernel_rfl) (fun _ _ _ h => h) (Or.inl ⟨by rfl, ?hE76⟩) hs1 ?_
        case hE76 =>
          intro u hu
          obtain ⟨u0, u1⟩ := hu
          go_simp
          try with_reducible rfl
        simp only [Act.put, List.setIfInBounds_toArray, List.set_cons_zero, List.set_cons_succ]
        refine wpAnyE_one (i := 7) (o := { dst := some 5, op := Go.Op.assign (Go.Operand.tmp 14), type := 2, pos := "run.go:131", after := #[{ on := 6, ground := Go.Ground.data }, { on := 0, ground := Go.Ground.phase }, { on := 1, ground := Go.Ground.phase }, { on := 2, ground := Go.Ground.phase }, { on := 3, ground := Go.Ground.phase }, { on := 4, ground := Go.Ground.phase }, { on := 5, ground := Go.Ground.phase }, { on := 6, ground := Go.Ground.phase }], guard := none }) (by kernel_rfl) rfl (fun K hK => ?_)
        go_simp
        refine hK _ _ (fun h => absurd rfl h) ?_
        clear hK K
        try simp only [Act.put, List.setIfInBounds_toArray, List.set_cons_zero, List.set_cons_succ]
        refine wpAnyE_done (by kernel_rfl) ?_
        go_wp2
        go_ret
        have H' := H.out
        rw [HW3.out] at H'
        exact ⟨rfl, H'⟩
      | some o =>
        rw [hk] at hlook
        have hlook : (Instr.lookup 65 (.map (some mb)) (.int .i64 nn) true).run Tryd.prog W2.drew = .ok (.tuple #[.agg #[.int .i64 o.1, .int .i64 o.2], .bool true]) W2.drew := hlook
        have e : waitI kn ⟨op, j, j1, j2, n, t⟩ s = ((s.put j o.2).put j2 o.1, true) := by
          unfold waitI
          rw [if_pos hic]
          show (match kn (getR s j1) with | none => _ | some o => _) = _
          rw [← HNN.out, hk]
        rw [e]
        obtain ⟨ost, ova⟩ := o
        simp only at hlook ⊢
        obtain ⟨W3, HW3⟩ := named (W1.alloc (.cells #[.int .i64 ost, .int .i64 ova] 32))
        have hRn : Rn W b cv (.map (some mb)) sv W3 s := by rw [HW3.out]; exact h1.alloc _
        have xo3 : RC 2 W3 ob (fun k => ([.int .i64 ost, .int .i64 ova] : List Value).getD k undef) := by
          rw [HW3.out, ← hz1]
          refine RC.new W1 _ 32 _ (fun k hk => ?_)
          rcases (show k = 0 ∨ k = 1 by omega) with rfl | rfl <;> rfl
        have xb3' : RC 6 W3 pb (fun k => ([.int .u8 (op : Int), .int .i64 j, .int .i64 j1, .int .i64 j2, .int .i64 n, .string t] : List Value).getD k undef) := by rw [HW3.out]; exact xb.alloc _
        have xb1 : W3.cell? ⟨pb, 1, none⟩ = some (.int .i64 j) := xb3'.2.1 1 (by omega)
        have xb3 : W3.cell? ⟨pb, 3, none⟩ = some (.int .i64 j2) := xb3'.2.1 3 (by omega)
        have xo0 : W3.cell? ⟨ob, 0, none⟩ = some (.int .i64 ost) := xo3.2.1 0 (by omega)
        have xo1 : W3.cell? ⟨ob, 1, none⟩ = some (.int .i64 ova) := xo3.2.1 1 (by omega)
        have hR2 : Rn W b cv (.map (some mb)) sv W3.drew.drew s := hRn.drew.drew
        have ra := hR2.reg j (by omega) (by omega)
        have fa := hR2.free (3 + (j : Int).toNat)
        have hR3 := hR2.put j ova (by omega) (by omega)
        have rc := hR3.reg j2 (by omega) (by omega)
        have fc := hR3.free (3 + (j2 : Int).toNat)
        have hR4 := hR3.put j2 ost (by omega) (by omega)
        simp only [Int.toNat_natCast] at ra fa rc fc hR3 hR4
        have rc : (W3.setCell ⟨b, 3 + j, none⟩ (.int .i64 ova)).drew.drew.drew.cell? ⟨b, 3 + j2, none⟩ = some (.int .i64 (getR (s.put j ova) j2)) := rc
        have fc : (W3.setCell ⟨b, 3 + j, none⟩ (.int .i64 ova)).drew.drew.drew.frozen? ⟨b, 3 + j2, none⟩ = false := fc
        obtain ⟨old, HOLD⟩ := named (getR (s.put j ova) j2)
        rw [← HOLD.out] at rc
        have H := hide (show Rn W b cv (.map (some mb)) sv (((W3.setCell ⟨b, 3 + j, none⟩ (.int .i64 ova)).setCell ⟨b, 3 + j2, none⟩ (.int .i64 ost)).drew.drew.drew) ((s.put j ova).put j2 ost) from hR4.drew)
        have t0 : W3.drew.drew.cell? ⟨pb, 1, none⟩ = some (.int .i64 j) := xb1
        have t1 : W3.drew.drew.cell? ⟨ob, 1, none⟩ = some (.int .i64 ova) := xo1
        have hs9 : W3.drew.drew.cell? ⟨pb, 1, none⟩ = some (.int .i64 j) ∧ W3.drew.drew.cell? ⟨ob, 1, none⟩ = some (.int .i64 ova) := ⟨t0, t1⟩
        have t2 : (W3.setCell ⟨b, 3 + j, none⟩ (.int .i64 ova)).drew.drew.drew.cell? ⟨pb, 3, none⟩ = some (.int .i64 j2) := (cell_other W3 pb 3 b (3 + j) (.int .i64 ova) (.inl (by omega))).trans xb3
        have t3 : (W3.setCell ⟨b, 3 + j, none⟩ (.int .i64 ova)).drew.drew.drew.cell? ⟨ob, 0, none⟩ = some (.int .i64 ost) := (cell_other W3 ob 0 b (3 + j) (.int .i64 ova) (.inl (by omega))).trans xo0
        have hs10 : (W3.setCell ⟨b, 3 + j, none⟩ (.int .i64 ova)).drew.drew.drew.cell? ⟨pb, 3, none⟩ = some (.int .i64 j2) ∧ (W3.setCell ⟨b, 3 + j, none⟩ (.int .i64 ova)).drew.drew.drew.cell? ⟨ob, 0, none⟩ = some (.int .i64 ost) := ⟨t2, t3⟩
        clear hR2 hR3 hR4 hRn t0 t1 t2 t3
        rw [HW2.out] at c24 c1
        rw [HW2.out] at fo0 fo1 xo0' xo1'
        rw [HW2.out] at hlook
        clear h h1 h2 hcc hown hcc0 hown0 hOwnNe xb xb' xo hic hKw xo3 xb3'
        go_enter Tryd.func46, Tryd.ntmps46
        go_wp2_with fail
        rw [← HW.out, ← HPB.out]
        refine wp_region_E 7 (fun w' => w'.cell? ⟨pb, 2, none⟩ = some (.int .i64 j1) ∧ w'.cell? ⟨b, 3 + j1, none⟩ = some (.int .i64 nn)) (by kernel_rfl) ?_
        refine wpAnyE_take 0 [7] (oi := { dst := some 8, op := Go.Op.move (Go.Operand.tmp 0), type := 64, pos := "run.go:131", after := #[], guard := none }) (v := ?_) rfl (by kernel_rfl) (by kernel_rfl) (by kernel_rfl) (by kernel_rfl) (fun _ _ _ h => h) (Or.inl ⟨by rfl, ?hE17⟩) hs1 ?_
        case hE17 =>
          intro u hu
          obtain ⟨u0, u1⟩ := hu
          go_simp
          try with_reducible rfl
        simp only [Act.put, List.setIfInBounds_toArray, List.set_cons_zero, List.set_cons_succ]
        refine wpAnyE_take 1 [7] (oi := { dst := some 9, op := Go.Op.fieldAddr 52 (Go.Operand.tmp 3) 2, type := 0, pos := "run.go:131", after := #[], guard := none }) (v := ?_) rfl (by kernel_rfl) (by kernel_rfl) (by kernel_rfl) (by kernel_rfl) (fun _ _ _ h => h) (Or.inl ⟨by rfl, ?hE18⟩) hs1 ?_
        case hE18 =>
          intro u hu
          obtain ⟨u0, u1⟩ := hu
          go_simp
          try with_reducible rfl
        simp only [Act.put, List.setIfInBounds_toArray, List.set_cons_zero, List.set_cons_succ]
        refine wpAnyE_take 2 [7] (oi := { dst := some 10, op := Go.Op.load 3 (Go.Operand.tmp 9), type := 3, pos := "run.go:131", after := #[{ on := 1, ground := Go.Ground.data }], guard := none }) (v := ?_) rfl (by kernel_rfl) (by kernel_rfl) (by kernel_rfl) (by kernel_rfl) (fun _ _ _ h => h) (Or.inl ⟨by rfl, ?hE19⟩) hs1 ?_
        case hE19 =>
          intro u hu
          obtain ⟨u0, u1⟩ := hu
          go_simp
          try with_reducible rfl
        simp only [Act.put, List.setIfInBounds_toArray, List.set_cons_zero, List.set_cons_succ]
        refine wpAnyE_take 3 [7] (oi := { dst := some 11, op := Go.Op.nilCheck (Go.Operand.tmp 8), type := 0, pos := "run.go:131", after := #[{ on := 0, ground := Go.Ground.data }], guard := none }) (v := ?_) rfl (by kernel_rfl) (by kernel_rfl) (by kernel_rfl) (by kernel_rfl) (fun _ _ _ h => h) (Or.inl ⟨by rfl, ?hE20⟩) hs1 ?_
        case hE20 =>
          intro u hu
          obtain ⟨u0, u1⟩ := hu
          go_simp
          try with_reducible rfl
        simp only [Act.put, List.setIfInBounds_toArray, List.set_cons_zero, List.set_cons_succ]
        refine wpAnyE_take 4 [7] (oi := { dst := some 12, op := Go.Op.fieldAddr 69 (Go.Operand.tmp 11) 3, type := 0, pos := "run.go:131", after := #[{ on := 3, ground := Go.Ground.data }], guard := none }) (v := ?_) rfl (by kernel_rfl) (by kernel_rfl) (by kernel_rfl) (by kernel_rfl) (fun _ _ _ h => h) (Or.inl ⟨by rfl, ?hE21⟩) hs1 ?_
        case hE21 =>
          intro u hu
          obtain ⟨u0, u1⟩ := hu
          go_simp
          try with_reducible rfl
        simp only [Act.put, List.setIfInBounds_toArray, List.set_cons_zero, List.set_cons_succ]
        refine wpAnyE_take 5 [7] (oi := { dst := some 13, op := Go.Op.indexAddr 67 (Go.Operand.tmp 12) (Go.Operand.tmp 10), type := 0, pos := "run.go:131", after := #[{ on := 4, ground := Go.Ground.data }, { on := 2, ground := Go.Ground.data }], guard := none }) (v := ?_) rfl (by kernel_rfl) (by kernel_rfl) (by kernel_rfl) (by kernel_rfl) (fun _ _ _ h => h) (Or.inl ⟨by rfl, ?hE22⟩) hs1 ?_
        case hE22 =>
          intro u hu
          obtain ⟨u0, u1⟩ := hu
          go_simp
          try with_reducible rfl
        simp only [Act.put, List.setIfInBounds_toArray, List.set_cons_zero, List.set_cons_succ]
        refine wpAnyE_take 6 [7] (oi := { dst := some 14, op := Go.Op.load 2 (Go.Operand.tmp 13), type := 2, pos := "run.go:131", after := #[{ on := 5, ground := Go.Ground.data }], guard := none }) (v := ?_) rfl (by kernel_rfl) (by kernel_rfl) (by kernel_rfl) (by kernel_rfl) (fun _ _ _ h => h) (Or.inl ⟨by rfl, ?hE23⟩) hs1 ?_
        case hE23 =>
          intro u hu
          obtain ⟨u0, u1⟩ := hu
          go_simp
          try with_reducible rfl
        simp only [Act.put, List.setIfInBounds_toArray, List.set_cons_zero, List.set_cons_succ]
        refine wpAnyE_one (i := 7) (o := { dst := some 5, op := Go.Op.assign (Go.Operand.tmp 14), type := 2, pos := "run.go:131", after := #[{ on := 6, ground := Go.Ground.data }, { on := 0, ground := Go.Ground.phase }, { on := 1, ground := Go.Ground.phase }, { on := 2, ground := Go.Ground.phase }, { on := 3, ground := Go.Ground.phase }, { on := 4, ground := Go.Ground.phase }, { on := 5, ground := Go.Ground.phase }, { on := 6, ground := Go.Ground.phase }], guard := none }) (by kernel_rfl) rfl (fun K hK => ?_)
        go_simp
        refine hK _ _ (fun h => absurd rfl h) ?_
        clear hK K
        try simp only [Act.put, List.setIfInBounds_toArray, List.set_cons_zero, List.set_cons_succ]
        refine wpAnyE_done (by kernel_rfl) ?_
        go_wp2_with fail
        rw [← HW3.out]
        refine wp_region_E 8 (fun w' => w'.cell? ⟨pb, 1, none⟩ = some (.int .i64 j) ∧ w'.cell? ⟨ob, 1, none⟩ = some (.int .i64 ova)) (by kernel_rfl) ?_
        refine wpAnyE_take 0 [8] (oi := { dst := some 48, op := Go.Op.move (Go.Operand.tmp 0), type := 64, pos := "run.go:141", after := #[], guard := none }) (v := ?_) rfl (by kernel_rfl) (by kernel_rfl) (by kernel_rfl) (by kernel_rfl) (fun _ _ _ h => h) (Or.inl ⟨by rfl, ?hE1⟩) hs9 ?_
        case hE1 =>
          intro u hu
          obtain ⟨u0, u1⟩ := hu
          go_simp
          try with_reducible rfl
        simp only [Act.put, List.setIfInBounds_toArray, List.set_cons_zero, List.set_cons_succ]
        refine wpAnyE_take 1 [8] (oi := { dst := some 49, op := Go.Op.fieldAddr 52 (Go.Operand.tmp 3) 1, type := 0, pos := "run.go:141", after := #[], guard := none }) (v := ?_) rfl (by kernel_rfl) (by kernel_rfl) (by kernel_rfl) (by kernel_rfl) (fun _ _ _ h => h) (Or.inl ⟨by rfl, ?hE2⟩) hs9 ?_
        case hE2 =>
          intro u hu
          obtain ⟨u0, u1⟩ := hu
          go_simp
          try with_reducible rfl
        simp only [Act.put, List.setIfInBounds_toArray, List.set_cons_zero, List.set_cons_succ]
        refine wpAnyE_take 2 [8] (oi := { dst := some 50, op := Go.Op.load 3 (Go.Operand.tmp 49), type := 3, pos := "run.go:141", after := #[{ on := 1, ground := Go.Ground.data }], guard := none }) (v := ?_) rfl (by kernel_rfl) (by kernel_rfl) (by kernel_rfl) (by kernel_rfl) (fun _ _ _ h => h) (Or.inl ⟨by rfl, ?hE3⟩) hs9 ?_
        case hE3 =>
          intro u hu
          obtain ⟨u0, u1⟩ := hu
          go_simp
          try with_reducible rfl
        simp only [Act.put, List.setIfInBounds_toArray, List.set_cons_zero, List.set_cons_succ]
        refine wpAnyE_take 3 [8] (oi := { dst := some 51, op := Go.Op.fieldAddr 32 (Go.Operand.tmp 6) 1, type := 0, pos := "run.go:141", after := #[], guard := none }) (v := ?_) rfl (by kernel_rfl) (by kernel_rfl) (by kernel_rfl) (by kernel_rfl) (fun _ _ _ h => h) (Or.inl ⟨by rfl, ?hE4⟩) hs9 ?_
        case hE4 =>
          intro u hu
          obtain ⟨u0, u1⟩ := hu
          go_simp
          try with_reducible rfl
        simp only [Act.put, List.setIfInBounds_toArray, List.set_cons_zero, List.set_cons_succ]
        refine wpAnyE_take 4 [8] (oi := { dst := some 52, op := Go.Op.load 2 (Go.Operand.tmp 51), type := 2, pos := "run.go:141", after := #[{ on := 3, ground := Go.Ground.data }], guard := none }) (v := ?_) rfl (by kernel_rfl) (by kernel_rfl) (by kernel_rfl) (by kernel_rfl) (fun _ _ _ h => h) (Or.inl ⟨by rfl, ?hE5⟩) hs9 ?_
        case hE5 =>
          intro u hu
          obtain ⟨u0, u1⟩ := hu
          go_simp
          try with_reducible rfl
        simp only [Act.put, List.setIfInBounds_toArray, List.set_cons_zero, List.set_cons_succ]
        refine wpAnyE_take 5 [6, 7, 8] (oi := { dst := some 53, op := Go.Op.nilCheck (Go.Operand.tmp 48), type := 0, pos := "run.go:141", after := #[{ on := 0, ground := Go.Ground.data }], guard := none }) (v := ?_) rfl (by kernel_rfl) (by kernel_rfl) (by kernel_rfl) (by kernel_rfl) (fun _ _ _ h => h) (Or.inl ⟨by rfl, ?hE6⟩) hs9 ?_
        case hE6 =>
          intro u hu
          obtain ⟨u0, u1⟩ := hu
          go_simp
          try with_reducible rfl
        simp only [Act.put, List.setIfInBounds_toArray, List.set_cons_zero, List.set_cons_succ]
        refine wpAnyE_take 6 [7, 8] (oi := { dst := some 54, op := Go.Op.fieldAddr 69 (Go.Operand.tmp 53) 3, type := 0, pos := "run.go:141", after := #[{ on := 5, ground := Go.Ground.data }], guard := none }) (v := ?_) rfl (by kernel_rfl) (by kernel_rfl) (by kernel_rfl) (by kernel_rfl) (fun _ _ _ h => h) (Or.inl ⟨by rfl, ?hE7⟩) hs9 ?_
        case hE7 =>
          intro u hu
          obtain ⟨u0, u1⟩ := hu
          go_simp
          try with_reducible rfl
        simp only [Act.put, List.setIfInBounds_toArray, List.set_cons_zero, List.set_cons_succ]
        refine wpAnyE_take 7 [8] (oi := { dst := some 55, op := Go.Op.indexAddr 67 (Go.Operand.tmp 54) (Go.Operand.tmp 50), type := 0, pos := "run.go:141", after := #[{ on := 6, ground := Go.Ground.data }, { on := 2, ground := Go.Ground.data }, { on := 0, ground := Go.Ground.phase }, { on := 1, ground := Go.Ground.phase }, { on := 2, ground := Go.Ground.phase }, { on := 3, ground := Go.Ground.phase }, { on := 4, ground := Go.Ground.phase }], guard := none }) (v := ?_) rfl (by kernel_rfl) (by kernel_rfl) (by kernel_rfl) (by kernel_rfl) (fun _ _ _ h => h) (Or.inl ⟨by rfl, ?hE8⟩) hs9 ?_
        case hE8 =>
          intro u hu
          obtain ⟨u0, u1⟩ := hu
          go_simp
          try with_reducible rfl
        simp only [Act.put, List.setIfInBounds_toArray, List.set_cons_zero, List.set_cons_succ]
        refine wpAnyE_one (i := 8) (o := { dst := none, op := Go.Op.store 2 (Go.Operand.tmp 55) (Go.Operand.tmp 52), type := 0, pos := "run.go:141", after := #[{ on := 7, ground := Go.Ground.data }, { on := 4, ground := Go.Ground.data }, { on := 0, ground := Go.Ground.phase }, { on := 1, ground := Go.Ground.phase }, { on := 2, ground := Go.Ground.phase }, { on := 3, ground := Go.Ground.phase }, { on := 4, ground := Go.Ground.phase }], guard := none }) (by kernel_rfl) rfl (fun K hK => ?_)
        go_simp
        refine hK _ _ (fun h => absurd rfl h) ?_
        clear hK K
        try simp only [Act.put, List.setIfInBounds_toArray, List.set_cons_zero, List.set_cons_succ]
        refine wpAnyE_done (by kernel_rfl) ?_
        go_wp2_with fail
        refine wp_region_E 8 (fun w' => w'.cell? ⟨pb, 3, none⟩ = some (.int .i64 j2) ∧ w'.cell? ⟨ob, 0, none⟩ = some (.int .i64 ost)) (by kernel_rfl) ?_
        refine wpAnyE_take 0 [8] (oi := { dst := some 56, op := Go.Op.move (Go.Operand.tmp 0), type := 64, pos := "run.go:142", after := #[], guard := none }) (v := ?_) rfl (by kernel_rfl) (by kernel_rfl) (by kernel_rfl) (by kernel_rfl) (fun _ _ _ h => h) (Or.inl ⟨by rfl, ?hE9⟩) hs10 ?_
        case hE9 =>
          intro u hu
          obtain ⟨u0, u1⟩ := hu
          go_simp
          try with_reducible rfl
        simp only [Act.put, List.setIfInBounds_toArray, List.set_cons_zero, List.set_cons_succ]
        refine wpAnyE_take 1 [8] (oi := { dst := some 57, op := Go.Op.fieldAddr 52 (Go.Operand.tmp 3) 3, type := 0, pos := "run.go:142", after := #[], guard := none }) (v := ?_) rfl (by kernel_rfl) (by kernel_rfl) (by kernel_rfl) (by kernel_rfl) (fun _ _ _ h => h) (Or.inl ⟨by rfl, ?hE10⟩) hs10 ?_
        case hE10 =>
          intro u hu
          obtain ⟨u0, u1⟩ := hu
          go_simp
          try with_reducible rfl
        simp only [Act.put, List.setIfInBounds_toArray, List.set_cons_zero, List.set_cons_succ]
        refine wpAnyE_take 2 [8] (oi := { dst := some 58, op := Go.Op.load 3 (Go.Operand.tmp 57), type := 3, pos := "run.go:142", after := #[{ on := 1, ground := Go.Ground.data }], guard := none }) (v := ?_) rfl (by kernel_rfl) (by kernel_rfl) (by kernel_rfl) (by kernel_rfl) (fun _ _ _ h => h) (Or.inl ⟨by rfl, ?hE11⟩) hs10 ?_
        case hE11 =>
          intro u hu
          obtain ⟨u0, u1⟩ := hu
          go_simp
          try with_reducible rfl
        simp only [Act.put, List.setIfInBounds_toArray, List.set_cons_zero, List.set_cons_succ]
        refine wpAnyE_take 3 [8] (oi := { dst := some 59, op := Go.Op.fieldAddr 32 (Go.Operand.tmp 6) 0, type := 0, pos := "run.go:142", after := #[], guard := none }) (v := ?_) rfl (by kernel_rfl) (by kernel_rfl) (by kernel_rfl) (by kernel_rfl) (fun _ _ _ h => h) (Or.inl ⟨by rfl, ?hE12⟩) hs10 ?_
        case hE12 =>
          intro u hu
          obtain ⟨u0, u1⟩ := hu
          go_simp
          try with_reducible rfl
        simp only [Act.put, List.setIfInBounds_toArray, List.set_cons_zero, List.set_cons_succ]
        refine wpAnyE_take 4 [8] (oi := { dst := some 60, op := Go.Op.load 3 (Go.Operand.tmp 59), type := 3, pos := "run.go:142", after := #[{ on := 3, ground := Go.Ground.data }], guard := none }) (v := ?_) rfl (by kernel_rfl) (by kernel_rfl) (by kernel_rfl) (by kernel_rfl) (fun _ _ _ h => h) (Or.inl ⟨by rfl, ?hE13⟩) hs10 ?_
        case hE13 =>
          intro u hu
          obtain ⟨u0, u1⟩ := hu
          go_simp
          try with_reducible rfl
        simp only [Act.put, List.setIfInBounds_toArray, List.set_cons_zero, List.set_cons_succ]
        refine wpAnyE_take 5 [6, 7, 8] (oi := { dst := some 61, op := Go.Op.nilCheck (Go.Operand.tmp 56), type := 0, pos := "run.go:142", after := #[{ on := 0, ground := Go.Ground.data }], guard := none }) (v := ?_) rfl (by kernel_rfl) (by kernel_rfl) (by kernel_rfl) (by kernel_rfl) (fun _ _ _ h => h) (Or.inl ⟨by rfl, ?hE14⟩) hs10 ?_
        case hE14 =>
          intro u hu
          obtain ⟨u0, u1⟩ := hu
          go_simp
          try with_reducible rfl
        simp only [Act.put, List.setIfInBounds_toArray, List.set_cons_zero, List.set_cons_succ]
        refine wpAnyE_take 6 [7, 8] (oi := { dst := some 62, op := Go.Op.fieldAddr 69 (Go.Operand.tmp 61) 3, type := 0, pos := "run.go:142", after := #[{ on := 5, ground := Go.Ground.data }], guard := none }) (v := ?_) rfl (by kernel_rfl) (by kernel_rfl) (by kernel_rfl) (by kernel_rfl) (fun _ _ _ h => h) (Or.inl ⟨by rfl, ?hE15⟩) hs10 ?_
        case hE15 =>
          intro u hu
          obtain ⟨u0, u1⟩ := hu
          go_simp
          try with_reducible rfl
        simp only [Act.put, List.setIfInBounds_toArray, List.set_cons_zero, List.set_cons_succ]
        refine wpAnyE_take 7 [8] (oi := { dst := some 63, op := Go.Op.indexAddr 67 (Go.Operand.tmp 62) (Go.Operand.tmp 58), type := 0, pos := "run.go:142", after := #[{ on := 6, ground := Go.Ground.data }, { on := 2, ground := Go.Ground.data }, { on := 0, ground := Go.Ground.phase }, { on := 1, ground := Go.Ground.phase }, { on := 2, ground := Go.Ground.phase }, { on := 3, ground := Go.Ground.phase }, { on := 4, ground := Go.Ground.phase }], guard := none }) (v := ?_) rfl (by kernel_rfl) (by kernel_rfl) (by kernel_rfl) (by kernel_rfl) (fun _ _ _ h => h) (Or.inl ⟨by rfl, ?hE16⟩) hs10 ?_
        case hE16 =>
          intro u hu
          obtain ⟨u0, u1⟩ := hu
          go_simp
          try with_reducible rfl
        simp only [Act.put, List.setIfInBounds_toArray, List.set_cons_zero, List.set_cons_succ]
        refine wpAnyE_one (i := 8) (o := { dst := none, op := Go.Op.store 2 (Go.Operand.tmp 63) (Go.Operand.tmp 60), type := 0, pos := "run.go:142", after := #[{ on := 7, ground := Go.Ground.data }, { on := 4, ground := Go.Ground.data }, { on := 0, ground := Go.Ground.phase }, { on := 1, ground := Go.Ground.phase }, { on := 2, ground := Go.Ground.phase }, { on := 3, ground := Go.Ground.phase }, { on := 4, ground := Go.Ground.phase }], guard := none }) (by kernel_rfl) rfl (fun K hK => ?_)
        go_simp
        refine hK _ _ (fun h => absurd rfl h) ?_
        clear hK K
        try simp only [Act.put, List.setIfInBounds_toArray, List.set_cons_zero, List.set_cons_succ]
        refine wpAnyE_done (by kernel_rfl) ?_
        go_wp2
        go_ret
        exact ⟨rfl, H.out⟩
    · have hdummy : True := trivial
      have e : waitI kn ⟨op, j, j1, j2, n, t⟩ s = ((s.put j 0).put j2 1, true) := by
        unfold waitI
        rw [if_neg (fun h => by have h1 := h.1; have h2 := h.2; rw [show getR s j1 = nn from HNN.out.symm] at h1 h2; rw [← HL.out] at h2; omega)]
      rw [e]
      have hR2 : Rn W b cv (.map (some mb)) sv W2.drew.drew s := hRn.drew.drew
      have ra := hR2.reg j (by omega) (by omega)
      have fa := hR2.free (3 + (j : Int).toNat)
      have hR3 := hR2.put j 0 (by omega) (by omega)
      have rc := hR3.reg j2 (by omega) (by omega)
      have fc := hR3.free (3 + (j2 : Int).toNat)
      have hR4 := hR3.put j2 1 (by omega) (by omega)
      simp only [Int.toNat_natCast] at ra fa rc fc hR3 hR4
      have rc : (W2.setCell ⟨b, 3 + j, none⟩ (.int .i64 0)).drew.drew.drew.cell? ⟨b, 3 + j2, none⟩ = some (.int .i64 (getR (s.put j 0) j2)) := rc
      have fc : (W2.setCell ⟨b, 3 + j, none⟩ (.int .i64 0)).drew.drew.drew.frozen? ⟨b, 3 + j2, none⟩ = false := fc
      obtain ⟨old, HOLD⟩ := named (getR (s.put j 0) j2)
      rw [← HOLD.out] at rc
      have H := hide (show Rn W b cv (.map (some mb)) sv (((W2.setCell ⟨b, 3 + j, none⟩ (.int .i64 0)).setCell ⟨b, 3 + j2, none⟩ (.int .i64 1)).drew.drew.drew) ((s.put j 0).put j2 1) from hR4.drew)
      have t0 : W2.drew.drew.cell? ⟨pb, 1, none⟩ = some (.int .i64 j) := xb1
      have t1 : W2.drew.drew.cell? ⟨ob, 1, none⟩ = some (.int .i64 0) := xo1
      have hs9 : W2.drew.drew.cell? ⟨pb, 1, none⟩ = some (.int .i64 j) ∧ W2.drew.drew.cell? ⟨ob, 1, none⟩ = some (.int .i64 0) := ⟨t0, t1⟩
      have t2 : (W2.setCell ⟨b, 3 + j, none⟩ (.int .i64 0)).drew.drew.drew.cell? ⟨pb, 3, none⟩ = some (.int .i64 j2) := (cell_other W2 pb 3 b (3 + j) (.int .i64 0) (.inl (by omega))).trans xb3
      have t3 : (W2.setCell ⟨b, 3 + j, none⟩ (.int .i64 0)).drew.drew.drew.cell? ⟨ob, 0, none⟩ = some (.int .i64 1) := (cell_other W2 ob 0 b (3 + j) (.int .i64 0) (.inl (by omega))).trans xo0
      have hs10 : (W2.setCell ⟨b, 3 + j, none⟩ (.int .i64 0)).drew.drew.drew.cell? ⟨pb, 3, none⟩ = some (.int .i64 j2) ∧ (W2.setCell ⟨b, 3 + j, none⟩ (.int .i64 0)).drew.drew.drew.cell? ⟨ob, 0, none⟩ = some (.int .i64 1) := ⟨t2, t3⟩
      clear hR2 hR3 hR4 hRn t0 t1 t2 t3
      rw [HW2.out] at c24
      clear h h1 h2 hcc hown hcc0 hown0 hOwnNe xb xb' xo
      go_enter Tryd.func46, Tryd.ntmps46
      go_wp2_with fail
      rw [← HW.out, ← HPB.out]
      refine wp_region_E 7 (fun w' => w'.cell? ⟨pb, 2, none⟩ = some (.int .i64 j1) ∧ w'.cell? ⟨b, 3 + j1, none⟩ = some (.int .i64 nn)) (by kernel_rfl) ?_
      refine wpAnyE_take 0 [7] (oi := { dst := some 8, op := Go.Op.move (Go.Operand.tmp 0), type := 64, pos := "run.go:131", after := #[], guard := none }) (v := ?_) rfl (by kernel_rfl) (by kernel_rfl) (by kernel_rfl) (by kernel_rfl) (fun _ _ _ h => h) (Or.inl ⟨by rfl, ?hE40⟩) hs1 ?_
      case hE40 =>
        intro u hu
        obtain ⟨u0, u1⟩ := hu
        go_simp
        try with_reducible rfl
      simp only [Act.put, List.setIfInBounds_toArray, List.set_cons_zero, List.set_cons_succ]
      refine wpAnyE_take 1 [7] (oi := { dst := some 9, op := Go.Op.fieldAddr 52 (Go.Operand.tmp 3) 2, type := 0, pos := "run.go:131", after := #[], guard := none }) (v := ?_) rfl (by kernel_rfl) (by kernel_rfl) (by kernel_rfl) (by kernel_rfl) (fun _ _ _ h => h) (Or.inl ⟨by rfl, ?hE41⟩) hs1 ?_
      case hE41 =>
        intro u hu
        obtain ⟨u0, u1⟩ := hu
        go_simp
        try with_reducible rfl
      simp only [Act.put, List.setIfInBounds_toArray, List.set_cons_zero, List.set_cons_succ]
      refine wpAnyE_take 2 [7] (oi := { dst := some 10, op := Go.Op.load 3 (Go.Operand.tmp 9), type := 3, pos := "run.go:131", after := #[{ on := 1, ground := Go.Ground.data }], guard := none }) (v := ?_) rfl (by kernel_rfl) (by kernel_rfl) (by kernel_rfl) (by kernel_rfl) (fun _ _ _ h => h) (Or.inl ⟨by rfl, ?hE42⟩) hs1 ?_
      case hE42 =>
        intro u hu
        obtain ⟨u0, u1⟩ := hu
        go_simp
        try with_reducible rfl
      simp only [Act.put, List.setIfInBounds_toArray, List.set_cons_zero, List.set_cons_succ]
      refine wpAnyE_take 3 [7] (oi := { dst := some 11, op := Go.Op.nilCheck (Go.Operand.tmp 8), type := 0, pos := "run.go:131", after := #[{ on := 0, ground := Go.Ground.data }], guard := none }) (v := ?_) rfl (by kernel_rfl) (by kernel_rfl) (by kernel_rfl) (by kernel_rfl) (fun _ _ _ h => h) (Or.inl ⟨by rfl, ?hE43⟩) hs1 ?_
      case hE43 =>
        intro u hu
        obtain ⟨u0, u1⟩ := hu
        go_simp
        try with_reducible rfl
      simp only [Act.put, List.setIfInBounds_toArray, List.set_cons_zero, List.set_cons_succ]
      refine wpAnyE_take 4 [7] (oi := { dst := some 12, op := Go.Op.fieldAddr 69 (Go.Operand.tmp 11) 3, type := 0, pos := "run.go:131", after := #[{ on := 3, ground := Go.Ground.data }], guard := none }) (v := ?_) rfl (by kernel_rfl) (by kernel_rfl) (by kernel_rfl) (by kernel_rfl) (fun _ _ _ h => h) (Or.inl ⟨by rfl, ?hE44⟩) hs1 ?_
      case hE44 =>
        intro u hu
        obtain ⟨u0, u1⟩ := hu
        go_simp
        try with_reducible rfl
      simp only [Act.put, List.setIfInBounds_toArray, List.set_cons_zero, List.set_cons_succ]
      refine wpAnyE_take 5 [7] (oi := { dst := some 13, op := Go.Op.indexAddr 67 (Go.Operand.tmp 12) (Go.Operand.tmp 10), type := 0, pos := "run.go:131", after := #[{ on := 4, ground := Go.Ground.data }, { on := 2, ground := Go.Ground.data }], guard := none }) (v := ?_) rfl (by kernel_rfl) (by kernel_rfl) (by kernel_rfl) (by kernel_rfl) (fun _ _ _ h => h) (Or.inl ⟨by rfl, ?hE45⟩) hs1 ?_
      case hE45 =>
        intro u hu
        obtain ⟨u0, u1⟩ := hu
        go_simp
        try with_reducible rfl
      simp only [Act.put, List.setIfInBounds_toArray, List.set_cons_zero, List.set_cons_succ]
      refine wpAnyE_take 6 [7] (oi := { dst := some 14, op := Go.Op.load 2 (Go.Operand.tmp 13), type := 2, pos := "run.go:131", after := #[{ on := 5, ground := Go.Ground.data }], guard := none }) (v := ?_) rfl (by kernel_rfl) (by kernel_rfl) (by kernel_rfl) (by kernel_rfl) (fun _ _ _ h => h) (Or.inl ⟨by rfl, ?hE46⟩) hs1 ?_
      case hE46 =>
        intro u hu
        obtain ⟨u0, u1⟩ := hu
        go_simp
        try with_reducible rfl
      simp only [Act.put, List.setIfInBounds_toArray, List.set_cons_zero, List.set_cons_succ]
      refine wpAnyE_one (i := 7) (o := { dst := some 5, op := Go.Op.assign (Go.Operand.tmp 14), type := 2, pos := "run.go:131", after := #[{ on := 6, ground := Go.Ground.data }, { on := 0, ground := Go.Ground.phase }, { on := 1, ground := Go.Ground.phase }, { on := 2, ground := Go.Ground.phase }, { on := 3, ground := Go.Ground.phase }, { on := 4, ground := Go.Ground.phase }, { on := 5, ground := Go.Ground.phase }, { on := 6, ground := Go.Ground.phase }], guard := none }) (by kernel_rfl) rfl (fun K hK => ?_)
      go_simp
      refine hK _ _ (fun h => absurd rfl h) ?_
      clear hK K
      try simp only [Act.put, List.setIfInBounds_toArray, List.set_cons_zero, List.set_cons_succ]
      refine wpAnyE_done (by kernel_rfl) ?_
      go_wp2_with fail
      rw [← HW2.out]
      refine wp_region_E 8 (fun w' => w'.cell? ⟨pb, 1, none⟩ = some (.int .i64 j) ∧ w'.cell? ⟨ob, 1, none⟩ = some (.int .i64 0)) (by kernel_rfl) ?_
      refine wpAnyE_take 0 [8] (oi := { dst := some 48, op := Go.Op.move (Go.Operand.tmp 0), type := 64, pos := "run.go:141", after := #[], guard := none }) (v := ?_) rfl (by kernel_rfl) (by kernel_rfl) (by kernel_rfl) (by kernel_rfl) (fun _ _ _ h => h) (Or.inl ⟨by rfl, ?hE24⟩) hs9 ?_
      case hE24 =>
        intro u hu
        obtain ⟨u0, u1⟩ := hu
        go_simp
        try with_reducible rfl
      simp only [Act.put, List.setIfInBounds_toArray, List.set_cons_zero, List.set_cons_succ]
      refine wpAnyE_take 1 [8] (oi := { dst := some 49, op := Go.Op.fieldAddr 52 (Go.Operand.tmp 3) 1, type := 0, pos := "run.go:141", after := #[], guard := none }) (v := ?_) rfl (by kernel_rfl) (by kernel_rfl) (by kernel_rfl) (by kernel_rfl) (fun _ _ _ h => h) (Or.inl ⟨by rfl, ?hE25⟩) hs9 ?_
      case hE25 =>
        intro u hu
        obtain ⟨u0, u1⟩ := hu
        go_simp
        try with_reducible rfl
      simp only [Act.put, List.setIfInBounds_toArray, List.set_cons_zero, List.set_cons_succ]
      refine wpAnyE_take 2 [8] (oi := { dst := some 50, op := Go.Op.load 3 (Go.Operand.tmp 49), type := 3, pos := "run.go:141", after := #[{ on := 1, ground := Go.Ground.data }], guard := none }) (v := ?_) rfl (by kernel_rfl) (by kernel_rfl) (by kernel_rfl) (by kernel_rfl) (fun _ _ _ h => h) (Or.inl ⟨by rfl, ?hE26⟩) hs9 ?_
      case hE26 =>
        intro u hu
        obtain ⟨u0, u1⟩ := hu
        go_simp
        try with_reducible rfl
      simp only [Act.put, List.setIfInBounds_toArray, List.set_cons_zero, List.set_cons_succ]
      refine wpAnyE_take 3 [8] (oi := { dst := some 51, op := Go.Op.fieldAddr 32 (Go.Operand.tmp 6) 1, type := 0, pos := "run.go:141", after := #[], guard := none }) (v := ?_) rfl (by kernel_rfl) (by kernel_rfl) (by kernel_rfl) (by kernel_rfl) (fun _ _ _ h => h) (Or.inl ⟨by rfl, ?hE27⟩) hs9 ?_
      case hE27 =>
        intro u hu
        obtain ⟨u0, u1⟩ := hu
        go_simp
        try with_reducible rfl
      simp only [Act.put, List.setIfInBounds_toArray, List.set_cons_zero, List.set_cons_succ]
      refine wpAnyE_take 4 [8] (oi := { dst := some 52, op := Go.Op.load 2 (Go.Operand.tmp 51), type := 2, pos := "run.go:141", after := #[{ on := 3, ground := Go.Ground.data }], guard := none }) (v := ?_) rfl (by kernel_rfl) (by kernel_rfl) (by kernel_rfl) (by kernel_rfl) (fun _ _ _ h => h) (Or.inl ⟨by rfl, ?hE28⟩) hs9 ?_
      case hE28 =>
        intro u hu
        obtain ⟨u0, u1⟩ := hu
        go_simp
        try with_reducible rfl
      simp only [Act.put, List.setIfInBounds_toArray, List.set_cons_zero, List.set_cons_succ]
      refine wpAnyE_take 5 [6, 7, 8] (oi := { dst := some 53, op := Go.Op.nilCheck (Go.Operand.tmp 48), type := 0, pos := "run.go:141", after := #[{ on := 0, ground := Go.Ground.data }], guard := none }) (v := ?_) rfl (by kernel_rfl) (by kernel_rfl) (by kernel_rfl) (by kernel_rfl) (fun _ _ _ h => h) (Or.inl ⟨by rfl, ?hE29⟩) hs9 ?_
      case hE29 =>
        intro u hu
        obtain ⟨u0, u1⟩ := hu
        go_simp
        try with_reducible rfl
      simp only [Act.put, List.setIfInBounds_toArray, List.set_cons_zero, List.set_cons_succ]
      refine wpAnyE_take 6 [7, 8] (oi := { dst := some 54, op := Go.Op.fieldAddr 69 (Go.Operand.tmp 53) 3, type := 0, pos := "run.go:141", after := #[{ on := 5, ground := Go.Ground.data }], guard := none }) (v := ?_) rfl (by kernel_rfl) (by kernel_rfl) (by kernel_rfl) (by kernel_rfl) (fun _ _ _ h => h) (Or.inl ⟨by rfl, ?hE30⟩) hs9 ?_
      case hE30 =>
        intro u hu
        obtain ⟨u0, u1⟩ := hu
        go_simp
        try with_reducible rfl
      simp only [Act.put, List.setIfInBounds_toArray, List.set_cons_zero, List.set_cons_succ]
      refine wpAnyE_take 7 [8] (oi := { dst := some 55, op := Go.Op.indexAddr 67 (Go.Operand.tmp 54) (Go.Operand.tmp 50), type := 0, pos := "run.go:141", after := #[{ on := 6, ground := Go.Ground.data }, { on := 2, ground := Go.Ground.data }, { on := 0, ground := Go.Ground.phase }, { on := 1, ground := Go.Ground.phase }, { on := 2, ground := Go.Ground.phase }, { on := 3, ground := Go.Ground.phase }, { on := 4, ground := Go.Ground.phase }], guard := none }) (v := ?_) rfl (by kernel_rfl) (by kernel_rfl) (by kernel_rfl) (by kernel_rfl) (fun _ _ _ h => h) (Or.inl ⟨by rfl, ?hE31⟩) hs9 ?_
      case hE31 =>
        intro u hu
        obtain ⟨u0, u1⟩ := hu
        go_simp
        try with_reducible rfl
      simp only [Act.put, List.setIfInBounds_toArray, List.set_cons_zero, List.set_cons_succ]
      refine wpAnyE_one (i := 8) (o := { dst := none, op := Go.Op.store 2 (Go.Operand.tmp 55) (Go.Operand.tmp 52), type := 0, pos := "run.go:141", after := #[{ on := 7, ground := Go.Ground.data }, { on := 4, ground := Go.Ground.data }, { on := 0, ground := Go.Ground.phase }, { on := 1, ground := Go.Ground.phase }, { on := 2, ground := Go.Ground.phase }, { on := 3, ground := Go.Ground.phase }, { on := 4, ground := Go.Ground.phase }], guard := none }) (by kernel_rfl) rfl (fun K hK => ?_)
      go_simp
      refine hK _ _ (fun h => absurd rfl h) ?_
      clear hK K
      try simp only [Act.put, List.setIfInBounds_toArray, List.set_cons_zero, List.set_cons_succ]
      refine wpAnyE_done (by kernel_rfl) ?_
      go_wp2_with fail
      refine wp_region_E 8 (fun w' => w'.cell? ⟨pb, 3, none⟩ = some (.int .i64 j2) ∧ w'.cell? ⟨ob, 0, none⟩ = some (.int .i64 1)) (by kernel_rfl) ?_
      refine wpAnyE_take 0 [8] (oi := { dst := some 56, op := Go.Op.move (Go.Operand.tmp 0), type := 64, pos := "run.go:142", after := #[], guard := none }) (v := ?_) rfl (by kernel_rfl) (by kernel_rfl) (by kernel_rfl) (by kernel_rfl) (fun _ _ _ h => h) (Or.inl ⟨by rfl, ?hE32⟩) hs10 ?_
      case hE32 =>
        intro u hu
        obtain ⟨u0, u1⟩ := hu
        go_simp
        try with_reducible rfl
      simp only [Act.put, List.setIfInBounds_toArray, List.set_cons_zero, List.set_cons_succ]
      refine wpAnyE_take 1 [8] (oi := { dst := some 57, op := Go.Op.fieldAddr 52 (Go.Operand.tmp 3) 3, type := 0, pos := "run.go:142", after := #[], guard := none }) (v := ?_) rfl (by kernel_rfl) (by kernel_rfl) (by kernel_rfl) (by kernel_rfl) (fun _ _ _ h => h) (Or.inl ⟨by rfl, ?hE33⟩) hs10 ?_
      case hE33 =>
        intro u hu
        obtain ⟨u0, u1⟩ := hu
        go_simp
        try with_reducible rfl
      simp only [Act.put, List.setIfInBounds_toArray, List.set_cons_zero, List.set_cons_succ]
      refine wpAnyE_take 2 [8] (oi := { dst := some 58, op := Go.Op.load 3 (Go.Operand.tmp 57), type := 3, pos := "run.go:142", after := #[{ on := 1, ground := Go.Ground.data }], guard := none }) (v := ?_) rfl (by kernel_rfl) (by kernel_rfl) (by kernel_rfl) (by kernel_rfl) (fun _ _ _ h => h) (Or.inl ⟨by rfl, ?hE34⟩) hs10 ?_
      case hE34 =>
        intro u hu
        obtain ⟨u0, u1⟩ := hu
        go_simp
        try with_reducible rfl
      simp only [Act.put, List.setIfInBounds_toArray, List.set_cons_zero, List.set_cons_succ]
      refine wpAnyE_take 3 [8] (oi := { dst := some 59, op := Go.Op.fieldAddr 32 (Go.Operand.tmp 6) 0, type := 0, pos := "run.go:142", after := #[], guard := none }) (v := ?_) rfl (by kernel_rfl) (by kernel_rfl) (by kernel_rfl) (by kernel_rfl) (fun _ _ _ h => h) (Or.inl ⟨by rfl, ?hE35⟩) hs10 ?_
      case hE35 =>
        intro u hu
        obtain ⟨u0, u1⟩ := hu
        go_simp
        try with_reducible rfl
      simp only [Act.put, List.setIfInBounds_toArray, List.set_cons_zero, List.set_cons_succ]
      refine wpAnyE_take 4 [8] (oi := { dst := some 60, op := Go.Op.load 3 (Go.Operand.tmp 59), type := 3, pos := "run.go:142", after := #[{ on := 3, ground := Go.Ground.data }], guard := none }) (v := ?_) rfl (by kernel_rfl) (by kernel_rfl) (by kernel_rfl) (by kernel_rfl) (fun _ _ _ h => h) (Or.inl ⟨by rfl, ?hE36⟩) hs10 ?_
      case hE36 =>
        intro u hu
        obtain ⟨u0, u1⟩ := hu
        go_simp
        try with_reducible rfl
      simp only [Act.put, List.setIfInBounds_toArray, List.set_cons_zero, List.set_cons_succ]
      refine wpAnyE_take 5 [6, 7, 8] (oi := { dst := some 61, op := Go.Op.nilCheck (Go.Operand.tmp 56), type := 0, pos := "run.go:142", after := #[{ on := 0, ground := Go.Ground.data }], guard := none }) (v := ?_) rfl (by kernel_rfl) (by kernel_rfl) (by kernel_rfl) (by kernel_rfl) (fun _ _ _ h => h) (Or.inl ⟨by rfl, ?hE37⟩) hs10 ?_
      case hE37 =>
        intro u hu
        obtain ⟨u0, u1⟩ := hu
        go_simp
        try with_reducible rfl
      simp only [Act.put, List.setIfInBounds_toArray, List.set_cons_zero, List.set_cons_succ]
      refine wpAnyE_take 6 [7, 8] (oi := { dst := some 62, op := Go.Op.fieldAddr 69 (Go.Operand.tmp 61) 3, type := 0, pos := "run.go:142", after := #[{ on := 5, ground := Go.Ground.data }], guard := none }) (v := ?_) rfl (by kernel_rfl) (by kernel_rfl) (by kernel_rfl) (by kernel_rfl) (fun _ _ _ h => h) (Or.inl ⟨by rfl, ?hE38⟩) hs10 ?_
      case hE38 =>
        intro u hu
        obtain ⟨u0, u1⟩ := hu
        go_simp
        try with_reducible rfl
      simp only [Act.put, List.setIfInBounds_toArray, List.set_cons_zero, List.set_cons_succ]
      refine wpAnyE_take 7 [8] (oi := { dst := some 63, op := Go.Op.indexAddr 67 (Go.Operand.tmp 62) (Go.Operand.tmp 58), type := 0, pos := "run.go:142", after := #[{ on := 6, ground := Go.Ground.data }, { on := 2, ground := Go.Ground.data }, { on := 0, ground := Go.Ground.phase }, { on := 1, ground := Go.Ground.phase }, { on := 2, ground := Go.Ground.phase }, { on := 3, ground := Go.Ground.phase }, { on := 4, ground := Go.Ground.phase }], guard := none }) (v := ?_) rfl (by kernel_rfl) (by kernel_rfl) (by kernel_rfl) (by kernel_rfl) (fun _ _ _ h => h) (Or.inl ⟨by rfl, ?hE39⟩) hs10 ?_
      case hE39 =>
        intro u hu
        obtain ⟨u0, u1⟩ := hu
        go_simp
        try with_reducible rfl
      simp only [Act.put, List.setIfInBounds_toArray, List.set_cons_zero, List.set_cons_succ]
      refine wpAnyE_one (i := 8) (o := { dst := none, op := Go.Op.store 2 (Go.Operand.tmp 63) (Go.Operand.tmp 60), type := 0, pos := "run.go:142", after := #[{ on := 7, ground := Go.Ground.data }, { on := 4, ground := Go.Ground.data }, { on := 0, ground := Go.Ground.phase }, { on := 1, ground := Go.Ground.phase }, { on := 2, ground := Go.Ground.phase }, { on := 3, ground := Go.Ground.phase }, { on := 4, ground := Go.Ground.phase }], guard := none }) (by kernel_rfl) rfl (fun K hK => ?_)
      go_simp
      refine hK _ _ (fun h => absurd rfl h) ?_
      clear hK K
      try simp only [Act.put, List.setIfInBounds_toArray, List.set_cons_zero, List.set_cons_succ]
      refine wpAnyE_done (by kernel_rfl) ?_
      go_wp2
      go_ret
      exact ⟨rfl, H.out⟩
  · have hdummy : True := trivial
    have e : waitI kn ⟨op, j, j1, j2, n, t⟩ s = ((s.put j 0).put j2 1, true) := by
      unfold waitI
      rw [if_neg (fun h => by have h1 := h.1; have h2 := h.2; rw [show getR s j1 = nn from HNN.out.symm] at h1 h2; rw [← HL.out] at h2; omega)]
    rw [e]
    have hR2 : Rn W b cv (.map (some mb)) sv W2.drew.drew s := hRn.drew.drew
    have ra := hR2.reg j (by omega) (by omega)
    have fa := hR2.free (3 + (j : Int).toNat)
    have hR3 := hR2.put j 0 (by omega) (by omega)
    have rc := hR3.reg j2 (by omega) (by omega)
    have fc := hR3.free (3 + (j2 : Int).toNat)
    have hR4 := hR3.put j2 1 (by omega) (by omega)
    simp only [Int.toNat_natCast] at ra fa rc fc hR3 hR4
    have rc : (W2.setCell ⟨b, 3 + j, none⟩ (.int .i64 0)).drew.drew.drew.cell? ⟨b, 3 + j2, none⟩ = some (.int .i64 (getR (s.put j 0) j2)) := rc
    have fc : (W2.setCell ⟨b, 3 + j, none⟩ (.int .i64 0)).drew.drew.drew.frozen? ⟨b, 3 + j2, none⟩ = false := fc
    obtain ⟨old, HOLD⟩ := named (getR (s.put j 0) j2)
    rw [← HOLD.out] at rc
    have H := hide (show Rn W b cv (.map (some mb)) sv (((W2.setCell ⟨b, 3 + j, none⟩ (.int .i64 0)).setCell ⟨b, 3 + j2, none⟩ (.int .i64 1)).drew.drew.drew) ((s.put j 0).put j2 1) from hR4.drew)
    have t0 : W2.drew.drew.cell? ⟨pb, 1, none⟩ = some (.int .i64 j) := xb1
    have t1 : W2.drew.drew.cell? ⟨ob, 1, none⟩ = some (.int .i64 0) := xo1
    have hs9 : W2.drew.drew.cell? ⟨pb, 1, none⟩ = some (.int .i64 j) ∧ W2.drew.drew.cell? ⟨ob, 1, none⟩ = some (.int .i64 0) := ⟨t0, t1⟩
    have t2 : (W2.setCell ⟨b, 3 + j, none⟩ (.int .i64 0)).drew.drew.drew.cell? ⟨pb, 3, none⟩ = some (.int .i64 j2) := (cell_other W2 pb 3 b (3 + j) (.int .i64 0) (.inl (by omega))).trans xb3
    have t3 : (W2.setCell ⟨b, 3 + j, none⟩ (.int .i64 0)).drew.drew.drew.cell? ⟨ob, 0, none⟩ = some (.int .i64 1) := (cell_other W2 ob 0 b (3 + j) (.int .i64 0) (.inl (by omega))).trans xo0
    have hs10 : (W2.setCell ⟨b, 3 + j, none⟩ (.int .i64 0)).drew.drew.drew.cell? ⟨pb, 3, none⟩ = some (.int .i64 j2) ∧ (W2.setCell ⟨b, 3 + j, none⟩ (.int .i64 0)).drew.drew.drew.cell? ⟨ob, 0, none⟩ = some (.int .i64 1) := ⟨t2, t3⟩
    clear hR2 hR3 hR4 hRn t0 t1 t2 t3
    rw [HW2.out] at c24
    clear h h1 h2 hcc hown hcc0 hown0 hOwnNe xb xb' xo
    go_enter Tryd.func46, Tryd.ntmps46
    go_wp2_with fail
    rw [← HW.out, ← HPB.out]
    refine wp_region_E 7 (fun w' => w'.cell? ⟨pb, 2, none⟩ = some (.int .i64 j1) ∧ w'.cell? ⟨b, 3 + j1, none⟩ = some (.int .i64 nn)) (by kernel_rfl) ?_
    refine wpAnyE_take 0 [7] (oi := { dst := some 8, op := Go.Op.move (Go.Operand.tmp 0), type := 64, pos := "run.go:131", after := #[], guard := none }) (v := ?_) rfl (by kernel_rfl) (by kernel_rfl) (by kernel_rfl) (by kernel_rfl) (fun _ _ _ h => h) (Or.inl ⟨by rfl, ?hE63⟩) hs1 ?_
    case hE63 =>
      intro u hu
      obtain ⟨u0, u1⟩ := hu
      go_simp
      try with_reducible rfl
    simp only [Act.put, List.setIfInBounds_toArray, List.set_cons_zero, List.set_cons_succ]
    refine wpAnyE_take 1 [7] (oi := { dst := some 9, op := Go.Op.fieldAddr 52 (Go.Operand.tmp 3) 2, type := 0, pos := "run.go:131", after := #[], guard := none }) (v := ?_) rfl (by kernel_rfl) (by kernel_rfl) (by kernel_rfl) (by kernel_rfl) (fun _ _ _ h => h) (Or.inl ⟨by rfl, ?hE64⟩) hs1 ?_
    case hE64 =>
      intro u hu
      obtain ⟨u0, u1⟩ := hu
      go_simp
      try with_reducible rfl
    simp only [Act.put, List.setIfInBounds_toArray, List.set_cons_zero, List.set_cons_succ]
    refine wpAnyE_take 2 [7] (oi := { dst := some 10, op := Go.Op.load 3 (Go.Operand.tmp 9), type := 3, pos := "run.go:131", after := #[{ on := 1, ground := Go.Ground.data }], guard := none }) (v := ?_) rfl (by kernel_rfl) (by kernel_rfl) (by kernel_rfl) (by kernel_rfl) (fun _ _ _ h => h) (Or.inl ⟨by rfl, ?hE65⟩) hs1 ?_
    case hE65 =>
      intro u hu
      obtain ⟨u0, u1⟩ := hu
      go_simp
      try with_reducible rfl
    simp only [Act.put, List.setIfInBounds_toArray, List.set_cons_zero, List.set_cons_succ]
    refine wpAnyE_take 3 [7] (oi := { dst := some 11, op := Go.Op.nilCheck (Go.Operand.tmp 8), type := 0, pos := "run.go:131", after := #[{ on := 0, ground := Go.Ground.data }], guard := none }) (v := ?_) rfl (by kernel_rfl) (by kernel_rfl) (by kernel_rfl) (by kernel_rfl) (fun _ _ _ h => h) (Or.inl ⟨by rfl, ?hE66⟩) hs1 ?_
    case hE66 =>
      intro u hu
      obtain ⟨u0, u1⟩ := hu
      go_simp
      try with_reducible rfl
    simp only [Act.put, List.setIfInBounds_toArray, List.set_cons_zero, List.set_cons_succ]
    refine wpAnyE_take 4 [7] (oi := { dst := some 12, op := Go.Op.fieldAddr 69 (Go.Operand.tmp 11) 3, type := 0, pos := "run.go:131", after := #[{ on := 3, ground := Go.Ground.data }], guard := none }) (v := ?_) rfl (by kernel_rfl) (by kernel_rfl) (by kernel_rfl) (by kernel_rfl) (fun _ _ _ h => h) (Or.inl ⟨by rfl, ?hE67⟩) hs1 ?_
    case hE67 =>
      intro u hu
      obtain ⟨u0, u1⟩ := hu
      go_simp
      try with_reducible rfl
    simp only [Act.put, List.setIfInBounds_toArray, List.set_cons_zero, List.set_cons_succ]
    refine wpAnyE_take 5 [7] (oi := { dst := some 13, op := Go.Op.indexAddr 67 (Go.Operand.tmp 12) (Go.Operand.tmp 10), type := 0, pos := "run.go:131", after := #[{ on := 4, ground := Go.Ground.data }, { on := 2, ground := Go.Ground.data }], guard := none }) (v := ?_) rfl (by kernel_rfl) (by kernel_rfl) (by kernel_rfl) (by kernel_rfl) (fun _ _ _ h => h) (Or.inl ⟨by rfl, ?hE68⟩) hs1 ?_
    case hE68 =>
      intro u hu
      obtain ⟨u0, u1⟩ := hu
      go_simp
      try with_reducible rfl
    simp only [Act.put, List.setIfInBounds_toArray, List.set_cons_zero, List.set_cons_succ]
    refine wpAnyE_take 6 [7] (oi := { dst := some 14, op := Go.Op.load 2 (Go.Operand.tmp 13), type := 2, pos := "run.go:131", after := #[{ on := 5, ground := Go.Ground.data }], guard := none }) (v := ?_) rfl (by kernel_rfl) (by kernel_rfl) (by kernel_rfl) (by kernel_rfl) (fun _ _ _ h => h) (Or.inl ⟨by rfl, ?hE69⟩) hs1 ?_
    case hE69 =>
      intro u hu
      obtain ⟨u0, u1⟩ := hu
      go_simp
      try with_reducible rfl
    simp only [Act.put, List.setIfInBounds_toArray, List.set_cons_zero, List.set_cons_succ]
    refine wpAnyE_one (i := 7) (o := { dst := some 5, op := Go.Op.assign (Go.Operand.tmp 14), type := 2, pos := "run.go:131", after := #[{ on := 6, ground := Go.Ground.data }, { on := 0, ground := Go.Ground.phase }, { on := 1, ground := Go.Ground.phase }, { on := 2, ground := Go.Ground.phase }, { on := 3, ground := Go.Ground.phase }, { on := 4, ground := Go.Ground.phase }, { on := 5, ground := Go.Ground.phase }, { on := 6, ground := Go.Ground.phase }], guard := none }) (by kernel_rfl) rfl (fun K hK => ?_)
    go_simp
    refine hK _ _ (fun h => absurd rfl h) ?_
    clear hK K
    try simp only [Act.put, List.setIfInBounds_toArray, List.set_cons_zero, List.set_cons_succ]
    refine wpAnyE_done (by kernel_rfl) ?_
    go_wp2_with fail
    rw [← HW2.out]
    refine wp_region_E 8 (fun w' => w'.cell? ⟨pb, 1, none⟩ = some (.int .i64 j) ∧ w'.cell? ⟨ob, 1, none⟩ = some (.int .i64 0)) (by kernel_rfl) ?_
    refine wpAnyE_take 0 [8] (oi := { dst := some 48, op := Go.Op.move (Go.Operand.tmp 0), type := 64, pos := "run.go:141", after := #[], guard := none }) (v := ?_) rfl (by kernel_rfl) (by kernel_rfl) (by kernel_rfl) (by kernel_rfl) (fun _ _ _ h => h) (Or.inl ⟨by rfl, ?hE47⟩) hs9 ?_
    case hE47 =>
      intro u hu
      obtain ⟨u0, u1⟩ := hu
      go_simp
      try with_reducible rfl
    simp only [Act.put, List.setIfInBounds_toArray, List.set_cons_zero, List.set_cons_succ]
    refine wpAnyE_take 1 [8] (oi := { dst := some 49, op := Go.Op.fieldAddr 52 (Go.Operand.tmp 3) 1, type := 0, pos := "run.go:141", after := #[], guard := none }) (v := ?_) rfl (by kernel_rfl) (by kernel_rfl) (by kernel_rfl) (by kernel_rfl) (fun _ _ _ h => h) (Or.inl ⟨by rfl, ?hE48⟩) hs9 ?_
    case hE48 =>
      intro u hu
      obtain ⟨u0, u1⟩ := hu
      go_simp
      try with_reducible rfl
    simp only [Act.put, List.setIfInBounds_toArray, List.set_cons_zero, List.set_cons_succ]
    refine wpAnyE_take 2 [8] (oi := { dst := some 50, op := Go.Op.load 3 (Go.Operand.tmp 49), type := 3, pos := "run.go:141", after := #[{ on := 1, ground := Go.Ground.data }], guard := none }) (v := ?_) rfl (by kernel_rfl) (by kernel_rfl) (by kernel_rfl) (by kernel_rfl) (fun _ _ _ h => h) (Or.inl ⟨by rfl, ?hE49⟩) hs9 ?_
    case hE49 =>
      intro u hu
      obtain ⟨u0, u1⟩ := hu
      go_simp
      try with_reducible rfl
    simp only [Act.put, List.setIfInBounds_toArray, List.set_cons_zero, List.set_cons_succ]
    refine wpAnyE_take 3 [8] (oi := { dst := some 51, op := Go.Op.fieldAddr 32 (Go.Operand.tmp 6) 1, type := 0, pos := "run.go:141", after := #[], guard := none }) (v := ?_) rfl (by kernel_rfl) (by kernel_rfl) (by kernel_rfl) (by kernel_rfl) (fun _ _ _ h => h) (Or.inl ⟨by rfl, ?hE50⟩) hs9 ?_
    case hE50 =>
      intro u hu
      obtain ⟨u0, u1⟩ := hu
      go_simp
      try with_reducible rfl
    simp only [Act.put, List.setIfInBounds_toArray, List.set_cons_zero, List.set_cons_succ]
    refine wpAnyE_take 4 [8] (oi := { dst := some 52, op := Go.Op.load 2 (Go.Operand.tmp 51), type := 2, pos := "run.go:141", after := #[{ on := 3, ground := Go.Ground.data }], guard := none }) (v := ?_) rfl (by kernel_rfl) (by kernel_rfl) (by kernel_rfl) (by kernel_rfl) (fun _ _ _ h => h) (Or.inl ⟨by rfl, ?hE51⟩) hs9 ?_
    case hE51 =>
      intro u hu
      obtain ⟨u0, u1⟩ := hu
      go_simp
      try with_reducible rfl
    simp only [Act.put, List.setIfInBounds_toArray, List.set_cons_zero, List.set_cons_succ]
    refine wpAnyE_take 5 [6, 7, 8] (oi := { dst := some 53, op := Go.Op.nilCheck (Go.Operand.tmp 48), type := 0, pos := "run.go:141", after := #[{ on := 0, ground := Go.Ground.data }], guard := none }) (v := ?_) rfl (by kernel_rfl) (by kernel_rfl) (by kernel_rfl) (by kernel_rfl) (fun _ _ _ h => h) (Or.inl ⟨by rfl, ?hE52⟩) hs9 ?_
    case hE52 =>
      intro u hu
      obtain ⟨u0, u1⟩ := hu
      go_simp
      try with_reducible rfl
    simp only [Act.put, List.setIfInBounds_toArray, List.set_cons_zero, List.set_cons_succ]
    refine wpAnyE_take 6 [7, 8] (oi := { dst := some 54, op := Go.Op.fieldAddr 69 (Go.Operand.tmp 53) 3, type := 0, pos := "run.go:141", after := #[{ on := 5, ground := Go.Ground.data }], guard := none }) (v := ?_) rfl (by kernel_rfl) (by kernel_rfl) (by kernel_rfl) (by kernel_rfl) (fun _ _ _ h => h) (Or.inl ⟨by rfl, ?hE53⟩) hs9 ?_
    case hE53 =>
      intro u hu
      obtain ⟨u0, u1⟩ := hu
      go_simp
      try with_reducible rfl
    simp only [Act.put, List.setIfInBounds_toArray, List.set_cons_zero, List.set_cons_succ]
    refine wpAnyE_take 7 [8] (oi := { dst := some 55, op := Go.Op.indexAddr 67 (Go.Operand.tmp 54) (Go.Operand.tmp 50), type := 0, pos := "run.go:141", after := #[{ on := 6, ground := Go.Ground.data }, { on := 2, ground := Go.Ground.data }, { on := 0, ground := Go.Ground.phase }, { on := 1, ground := Go.Ground.phase }, { on := 2, ground := Go.Ground.phase }, { on := 3, ground := Go.Ground.phase }, { on := 4, ground := Go.Ground.phase }], guard := none }) (v := ?_) rfl (by kernel_rfl) (by kernel_rfl) (by kernel_rfl) (by kernel_rfl) (fun _ _ _ h => h) (Or.inl ⟨by rfl, ?hE54⟩) hs9 ?_
    case hE54 =>
      intro u hu
      obtain ⟨u0, u1⟩ := hu
      go_simp
      try with_reducible rfl
    simp only [Act.put, List.setIfInBounds_toArray, List.set_cons_zero, List.set_cons_succ]
    refine wpAnyE_one (i := 8) (o := { dst := none, op := Go.Op.store 2 (Go.Operand.tmp 55) (Go.Operand.tmp 52), type := 0, pos := "run.go:141", after := #[{ on := 7, ground := Go.Ground.data }, { on := 4, ground := Go.Ground.data }, { on := 0, ground := Go.Ground.phase }, { on := 1, ground := Go.Ground.phase }, { on := 2, ground := Go.Ground.phase }, { on := 3, ground := Go.Ground.phase }, { on := 4, ground := Go.Ground.phase }], guard := none }) (by kernel_rfl) rfl (fun K hK => ?_)
    go_simp
    refine hK _ _ (fun h => absurd rfl h) ?_
    clear hK K
    try simp only [Act.put, List.setIfInBounds_toArray, List.set_cons_zero, List.set_cons_succ]
    refine wpAnyE_done (by kernel_rfl) ?_
    go_wp2_with fail
    refine wp_region_E 8 (fun w' => w'.cell? ⟨pb, 3, none⟩ = some (.int .i64 j2) ∧ w'.cell? ⟨ob, 0, none⟩ = some (.int .i64 1)) (by kernel_rfl) ?_
    refine wpAnyE_take 0 [8] (oi := { dst := some 56, op := Go.Op.move (Go.Operand.tmp 0), type := 64, pos := "run.go:142", after := #[], guard := none }) (v := ?_) rfl (by kernel_rfl) (by kernel_rfl) (by kernel_rfl) (by kernel_rfl) (fun _ _ _ h => h) (Or.inl ⟨by rfl, ?hE55⟩) hs10 ?_
    case hE55 =>
      intro u hu
      obtain ⟨u0, u1⟩ := hu
      go_simp
      try with_reducible rfl
    simp only [Act.put, List.setIfInBounds_toArray, List.set_cons_zero, List.set_cons_succ]
    refine wpAnyE_take 1 [8] (oi := { dst := some 57, op := Go.Op.fieldAddr 52 (Go.Operand.tmp 3) 3, type := 0, pos := "run.go:142", after := #[], guard := none }) (v := ?_) rfl (by kernel_rfl) (by kernel_rfl) (by kernel_rfl) (by kernel_rfl) (fun _ _ _ h => h) (Or.inl ⟨by rfl, ?hE56⟩) hs10 ?_
    case hE56 =>
      intro u hu
      obtain ⟨u0, u1⟩ := hu
      go_simp
      try with_reducible rfl
    simp only [Act.put, List.setIfInBounds_toArray, List.set_cons_zero, List.set_cons_succ]
    refine wpAnyE_take 2 [8] (oi := { dst := some 58, op := Go.Op.load 3 (Go.Operand.tmp 57), type := 3, pos := "run.go:142", after := #[{ on := 1, ground := Go.Ground.data }], guard := none }) (v := ?_) rfl (by kernel_rfl) (by kernel_rfl) (by kernel_rfl) (by kernel_rfl) (fun _ _ _ h => h) (Or.inl ⟨by rfl, ?hE57⟩) hs10 ?_
    case hE57 =>
      intro u hu
      obtain ⟨u0, u1⟩ := hu
      go_simp
      try with_reducible rfl
    simp only [Act.put, List.setIfInBounds_toArray, List.set_cons_zero, List.set_cons_succ]
    refine wpAnyE_take 3 [8] (oi := { dst := some 59, op := Go.Op.fieldAddr 32 (Go.Operand.tmp 6) 0, type := 0, pos := "run.go:142", after := #[], guard := none }) (v := ?_) rfl (by kernel_rfl) (by kernel_rfl) (by kernel_rfl) (by kernel_rfl) (fun _ _ _ h => h) (Or.inl ⟨by rfl, ?hE58⟩) hs10 ?_
    case hE58 =>
      intro u hu
      obtain ⟨u0, u1⟩ := hu
      go_simp
      try with_reducible rfl
    simp only [Act.put, List.setIfInBounds_toArray, List.set_cons_zero, List.set_cons_succ]
    refine wpAnyE_take 4 [8] (oi := { dst := some 60, op := Go.Op.load 3 (Go.Operand.tmp 59), type := 3, pos := "run.go:142", after := #[{ on := 3, ground := Go.Ground.data }], guard := none }) (v := ?_) rfl (by kernel_rfl) (by kernel_rfl) (by kernel_rfl) (by kernel_rfl) (fun _ _ _ h => h) (Or.inl ⟨by rfl, ?hE59⟩) hs10 ?_
    case hE59 =>
      intro u hu
      obtain ⟨u0, u1⟩ := hu
      go_simp
      try with_reducible rfl
    simp only [Act.put, List.setIfInBounds_toArray, List.set_cons_zero, List.set_cons_succ]
    refine wpAnyE_take 5 [6, 7, 8] (oi := { dst := some 61, op := Go.Op.nilCheck (Go.Operand.tmp 56), type := 0, pos := "run.go:142", after := #[{ on := 0, ground := Go.Ground.data }], guard := none }) (v := ?_) rfl (by kernel_rfl) (by kernel_rfl) (by kernel_rfl) (by kernel_rfl) (fun _ _ _ h => h) (Or.inl ⟨by rfl, ?hE60⟩) hs10 ?_
    case hE60 =>
      intro u hu
      obtain ⟨u0, u1⟩ := hu
      go_simp
      try with_reducible rfl
    simp only [Act.put, List.setIfInBounds_toArray, List.set_cons_zero, List.set_cons_succ]
    refine wpAnyE_take 6 [7, 8] (oi := { dst := some 62, op := Go.Op.fieldAddr 69 (Go.Operand.tmp 61) 3, type := 0, pos := "run.go:142", after := #[{ on := 5, ground := Go.Ground.data }], guard := none }) (v := ?_) rfl (by kernel_rfl) (by kernel_rfl) (by kernel_rfl) (by kernel_rfl) (fun _ _ _ h => h) (Or.inl ⟨by rfl, ?hE61⟩) hs10 ?_
    case hE61 =>
      intro u hu
      obtain ⟨u0, u1⟩ := hu
      go_simp
      try with_reducible rfl
    simp only [Act.put, List.setIfInBounds_toArray, List.set_cons_zero, List.set_cons_succ]
    refine wpAnyE_take 7 [8] (oi := { dst := some 63, op := Go.Op.indexAddr 67 (Go.Operand.tmp 62) (Go.Operand.tmp 58), type := 0, pos := "run.go:142", after := #[{ on := 6, ground := Go.Ground.data }, { on := 2, ground := Go.Ground.data }, { on := 0, ground := Go.Ground.phase }, { on := 1, ground := Go.Ground.phase }, { on := 2, ground := Go.Ground.phase }, { on := 3, ground := Go.Ground.phase }, { on := 4, ground := Go.Ground.phase }], guard := none }) (v := ?_) rfl (by kernel_rfl) (by kernel_rfl) (by kernel_rfl) (by kernel_rfl) (fun _ _ _ h => h) (Or.inl ⟨by rfl, ?hE62⟩) hs10 ?_
    case hE62 =>
      intro u hu
      obtain ⟨u0, u1⟩ := hu
      go_simp
      try with_reducible rfl
    simp only [Act.put, List.setIfInBounds_toArray, List.set_cons_zero, List.set_cons_succ]
    refine wpAnyE_one (i := 8) (o := { dst := none, op := Go.Op.store 2 (Go.Operand.tmp 63) (Go.Operand.tmp 60), type := 0, pos := "run.go:142", after := #[{ on := 7, ground := Go.Ground.data }, { on := 4, ground := Go.Ground.data }, { on := 0, ground := Go.Ground.phase }, { on := 1, ground := Go.Ground.phase }, { on := 2, ground := Go.Ground.phase }, { on := 3, ground := Go.Ground.phase }, { on := 4, ground := Go.Ground.phase }], guard := none }) (by kernel_rfl) rfl (fun K hK => ?_)
    go_simp
    refine hK _ _ (fun h => absurd rfl h) ?_
    clear hK K
    try simp only [Act.put, List.setIfInBounds_toArray, List.set_cons_zero, List.set_cons_succ]
    refine wpAnyE_done (by kernel_rfl) ?_
    go_wp2
    go_ret
    exact ⟨rfl, H.out⟩
end Go.Proofs.YtlngeonfabahnaaDoor
