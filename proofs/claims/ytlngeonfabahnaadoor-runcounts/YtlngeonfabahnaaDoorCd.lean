/-
  The contract of hasItsOwn. Own work.
-/
import Derived.Test.YtlngeonfabahnaaDoorCc
namespace Go.Proofs.YtlngeonfabahnaaDoor
open Go.RowKit

/-- an instruction as its cells, as a value -/
def insC (i : Ins) : List Value := [.int .u8 i.op, .int .i64 i.a, .int .i64 i.b, .int .i64 i.c, .int .i64 i.n, .string i.s]
def insV (i : Ins) : Value := .agg (insC i).toArray
theorem fields_len (o : Nat) : fields o = [] ∨ (fields o).length = 5 ∧ ∀ l ∈ fields o, l = 114 ∨ l = 106 ∨ l = 112 ∨ l = 110 ∨ l = 115 ∨ l = 46 := by
  unfold fields
  split <;> first | exact .inl rfl | (refine .inr ⟨rfl, ?_⟩; decide)
theorem fieldS_size (o : Nat) : (fieldS o).size = (fields o).length := by
  show ((fields o).map UInt8.ofNat).toArray.size = _
  simp
theorem letter_lt {l : Nat} (h : l = 114 ∨ l = 106 ∨ l = 112 ∨ l = 110 ∨ l = 115 ∨ l = 46) : LT l := by unfold LT; omega
/-- the first k fields fit -/
def fitTo (regs places pol : Int) (i : Ins) (k : Nat) : Bool := fits regs places pol ((fields i.op).take k) (vals i)
theorem fits_take (regs places pol : Int) (ls : List Nat) (xs : List Int) (k : Nat) (h : k < ls.length) (h2 : k < xs.length) : fits regs places pol (ls.take (k + 1)) xs = (fits regs places pol (ls.take k) xs && fit regs places pol ls[k] xs[k]) := by
  induction ls generalizing xs k with
  | nil => simp at h
  | cons l ls ih =>
    cases xs with
    | nil => simp at h2
    | cons x xs =>
      cases k with
      | zero => simp [fits]
      | succ k =>
        simp only [List.take_succ_cons, fits, List.getElem_cons_succ]
        rw [ih xs k (by simpa using h) (by simpa using h2), Bool.and_assoc]
theorem fits_false (regs places pol : Int) (ls : List Nat) (xs : List Int) (k : Nat) (h : k < ls.length) (h2 : k < xs.length) (hf : fit regs places pol ls[k] xs[k] = false) : fits regs places pol ls xs = false := by
  induction ls generalizing xs k with
  | nil => simp at h
  | cons l ls ih =>
    cases xs with
    | nil => simp at h2
    | cons x xs =>
      cases k with
      | zero => simp only [List.getElem_cons_zero] at hf; simp [fits, hf]
      | succ k =>
        simp only [List.getElem_cons_succ] at hf
        rw [fits, ih xs k (by simpa using h) (by simpa using h2) hf, Bool.and_false]
theorem run_sx (s : ByteArray) (k : Nat) (hk : k < s.size) (w : World) : (Instr.index 9 (.string s) (.int .i64 (k : Int))).run Tryd.prog w = .ok (.int .u8 (s[k].toNat : Int)) w := by
  have h0 : (0 : Int) ≤ (k : Int) := by omega
  simp [Instr.index, asIntOf, run_underlying Tryd.underlying9, getElem?_pos, hk]
theorem run_ix5 (x0 x1 x2 x3 x4 : Int) (k : Nat) (hk : k < 5) (w : World) : (Instr.index 59 (.agg #[.int .i64 x0, .int .i64 x1, .int .i64 x2, .int .i64 x3, .int .i64 x4]) (.int .i64 (k : Int))).run Tryd.prog w = .ok (.int .i64 ([x0, x1, x2, x3, x4][k])) w := by
  have : k = 0 ∨ k = 1 ∨ k = 2 ∨ k = 3 ∨ k = 4 := by omega
  rcases this with rfl | rfl | rfl | rfl | rfl
  · show _ = Result.ok (Value.int .i64 x0) w
    kernel_rfl
  · show _ = Result.ok (Value.int .i64 x1) w
    kernel_rfl
  · show _ = Result.ok (Value.int .i64 x2) w
    kernel_rfl
  · show _ = Result.ok (Value.int .i64 x3) w
    kernel_rfl
  · show _ = Result.ok (Value.int .i64 x4) w
    kernel_rfl
theorem fieldS_get (o k : Nat) (hk : k < (fields o).length) (h2 : k < (fieldS o).size) : (fieldS o)[k].toNat = (fields o)[k] := by
  have hl : LT (fields o)[k] := by
    rcases fields_len o with h | ⟨-, h⟩
    · rw [h] at hk; simp at hk
    · exact letter_lt (h _ (List.getElem_mem hk))
  have e : (fieldS o)[k] = UInt8.ofNat (fields o)[k] := by
    have e2 : ((fields o).map UInt8.ofNat).toArray[k]'(by simpa using hk) = UInt8.ofNat (fields o)[k] := by simp
    exact e2
  rw [e, UInt8.toNat_ofNat']
  unfold LT at hl
  omega
theorem run_word (x y : ByteArray) (w : World) : (Instr.field 83 (.agg #[.string x, .string y]) 0).run Tryd.prog w = .ok (.string x) w := by kernel_rfl
theorem run_fields (x y : ByteArray) (w : World) : (Instr.field 83 (.agg #[.string x, .string y]) 1).run Tryd.prog w = .ok (.string y) w := by kernel_rfl
theorem rules_at {w : World} {b r j p z : Nat} (h : Mp w b 6 (rulesM r j p z)) (l : Nat) (hl : LT l) : (Instr.lookup 74 (.map (some b)) (.int .u8 (l : Int)) false).run Tryd.prog w = .ok ((rulesM r j p z l).getD .nilFunc) w := h.look mt74 hl

set_option maxRecDepth 100000 in
set_option maxHeartbeats 1600000 in
theorem hasItsOwn_any (i : Ins) (hw : i.wf) (v : Value) (regs places pol : Int) (w : World) (hk : Kinds w) (hR : Rules w v regs places pol) :
    Calls Tryd.prog 30 #[insV i, v] w fun e w' => e = .returned (.bool (insB regs places pol i)) ∧ Below w.heap.size w w' := by
  obtain ⟨op, a, b, c, n, s⟩ := i
  obtain ⟨ho, -⟩ := hw
  obtain ⟨mb, rb, jb, pb, zb, rfl, hR1, hR2, hR3, hR4, hR5⟩ := hR
  simp only at ho
  obtain ⟨W, HW⟩ := named (w.alloc (.cells #[.int .u8 (op : Int), .int .i64 a, .int .i64 b, .int .i64 c, .int .i64 n, .string s] 52))
  have hbW : Below w.heap.size w W := by rw [HW.out]; exact (Below.refl _ _).alloc (Nat.le_refl _) _
  have hsW : W.heap.size = w.heap.size + 1 := by rw [HW.out]; simp
  have hcW : W.heap[w.heap.size]? = some (.cells #[.int .u8 (op : Int), .int .i64 a, .int .i64 b, .int .i64 c, .int .i64 n, .string s] 52 (0, 0)) := by rw [HW.out]; exact heap_alloc_new w _
  have hcc := fun o => cell_of_row W w.heap.size o _ 52 (0, 0) hcW
  have c0 : W.cell? ⟨w.heap.size, 0, none⟩ = some (.int .u8 (op : Int)) := hcc 0
  have kk := kindOf_any op ho W (hk.below hbW)
  show Calls Tryd.prog 30 #[.agg #[.int .u8 (op : Int), .int .i64 a, .int .i64 b, .int .i64 c, .int .i64 n, .string s], .map (some mb)] w _
  go_enter Tryd.func30, Tryd.ntmps30
  go_wp2_with fail
  rw [← HW.out]
  refine kk.mono ?_
  rintro e w1 ⟨rfl, hb1⟩
  have hsz1 := hb1.size
  have hlt1 : w.heap.size < W.heap.size := by omega
  have hb1' : Below w.heap.size w w1 := below_call hbW hb1
  have d1 := (hb1.cell (p := ⟨w.heap.size, 1, none⟩) hlt1).trans (hcc 1)
  have d2 := (hb1.cell (p := ⟨w.heap.size, 2, none⟩) hlt1).trans (hcc 2)
  have d3 := (hb1.cell (p := ⟨w.heap.size, 3, none⟩) hlt1).trans (hcc 3)
  have d4 := (hb1.cell (p := ⟨w.heap.size, 4, none⟩) hlt1).trans (hcc 4)
  have d5 := (hb1.cell (p := ⟨w.heap.size, 5, none⟩) hlt1).trans (hcc 5)
  have e1 : w1.cell? ⟨w.heap.size, 1, none⟩ = some (.int .i64 a) := d1
  have e2 : w1.cell? ⟨w.heap.size, 2, none⟩ = some (.int .i64 b) := d2
  have e3 : w1.cell? ⟨w.heap.size, 3, none⟩ = some (.int .i64 c) := d3
  have e4 : w1.cell? ⟨w.heap.size, 4, none⟩ = some (.int .i64 n) := d4
  have e5 : w1.cell? ⟨w.heap.size, 5, none⟩ = some (.string s) := d5
  have hfs := fieldS_size op
  have HB1 := hide hb1'
  have HR1 := hide (show Mp w1 mb 6 (rulesM rb jb pb zb) ∧ _ ∧ _ ∧ _ ∧ _ from ⟨hR1.heap (hb1'.block mb hR1.lt), (hb1'.cell (World.block_lt_of_cell? w _ hR2)).trans hR2, (hb1'.cell (World.block_lt_of_cell? w _ hR3)).trans hR3, (hb1'.cell (World.block_lt_of_cell? w _ hR4)).trans hR4, (hb1'.cell (World.block_lt_of_cell? w _ hR5)).trans hR5⟩)
  have HFL := hide (fields_len op)
  have hrf := run_fields
  obtain ⟨fs, HFS⟩ := named (fieldS op)
  rw [← HFS.out] at hfs ⊢
  clear d1 d2 d3 d4 d5 hb1 hcc hcW c0 kk hsW hbW hb1' hR1 hR2 hR3 hR4 hR5
  rcases HFL.out with h0 | ⟨h5, hl⟩
  · have hz : fs.size = 0 := by rw [hfs, h0]; rfl
    have hz' : ¬ ((fs.size : Int) = 5) := by omega
    go_wp2
    go_ret
    refine ⟨ret_bool ?_, HB1.out.alloc HB1.out.size _⟩
    unfold insB
    simp [h0]
  · have hz : fs.size = 5 := by rw [hfs, h5]
    have hz' : (fs.size : Int) = 5 := by omega
    have HZ := hide hz
    go_wp2
    go_loop [29] (fun iv => ∃ k : Nat, k ≤ 5 ∧ iv = .int .i64 k ∧ fitTo regs places pol ⟨op, a, b, c, n, s⟩ k = true) (fun iv => 5 - (intOf iv).toNat)
    case atStart => exact ⟨0, by omega, rfl, by simp [fitTo, fits]⟩
    case round =>
      obtain ⟨k, hk5, rfl, hfit⟩ := hrel
      have HFT := hide hfit
      clear hfit
      by_cases hlt : k < 5
      · have hkf : k < (fields op).length := by omega
        have hix := run_ix5 a b c n (s.size : Int) k hlt
        have hsx := fun w => run_sx fs k (by omega) w
        have hge : fs[k].toNat = (fields op)[k] := by
          have e := HFS.out
          subst e
          exact fieldS_get op k hkf _
        obtain ⟨l, HL⟩ := named ((fields op)[k])
        obtain ⟨x, HX⟩ := named ([a, b, c, n, (s.size : Int)][k])
        rw [← HX.out] at hix
        rw [hge, ← HL.out] at hsx
        have hlet := hl _ (List.getElem_mem hkf)
        rw [← HL.out] at hlet
        have HLE := hide hlet
        have hb3 : Below w1.heap.size w1 (w1.alloc (.cells #[.int .i64 a, .int .i64 b, .int .i64 c, .int .i64 n, .int .i64 (s.size : Int)] 59)) := (Below.refl _ _).alloc (Nat.le_refl _) _
        have hlk := rules_at (HR1.out.1.heap (hb3.block mb HR1.out.1.lt)) l (letter_lt hlet)
        have q1 := (hb3.cell (World.block_lt_of_cell? w1 _ HR1.out.2.1)).trans HR1.out.2.1
        have q2 := (hb3.cell (World.block_lt_of_cell? w1 _ HR1.out.2.2.1)).trans HR1.out.2.2.1
        have q3 := (hb3.cell (World.block_lt_of_cell? w1 _ HR1.out.2.2.2.1)).trans HR1.out.2.2.2.1
        have q4 := (hb3.cell (World.block_lt_of_cell? w1 _ HR1.out.2.2.2.2)).trans HR1.out.2.2.2.2
        have hnext : fitTo regs places pol ⟨op, a, b, c, n, s⟩ (k + 1) = fit regs places pol l x := by
          unfold fitTo
          rw [fits_take _ _ _ _ _ k hkf (by simpa [vals] using hlt)]
          have := HFT.out
          unfold fitTo at this
          rw [this, Bool.true_and, HL.out, HX.out]
          rfl
        have hno : fit regs places pol l x = false → insB regs places pol ⟨op, a, b, c, n, s⟩ = false := by
          intro hf
          unfold insB
          rw [fits_false _ _ _ _ _ k hkf (by simpa [vals] using hlt) (by rw [← HL.out]; rw [HX.out] at hf; exact hf), Bool.and_false]
        have HN := hide hnext
        have HNO := hide hno
        clear hnext hno hb3 hge hl hlet
        rcases HLE.out with rfl | rfl | rfl | rfl | rfl | rfl
        · have hlk' : (Instr.lookup 74 (.map (some mb)) (.int .u8 114) false).run Tryd.prog (w1.alloc (.cells #[.int .i64 a, .int .i64 b, .int .i64 c, .int .i64 n, .int .i64 (s.size : Int)] 59)) = .ok (.func (.func 35) #[] #[.pointer (some ⟨rb, 0, none⟩)]) (w1.alloc (.cells #[.int .i64 a, .int .i64 b, .int .i64 c, .int .i64 n, .int .i64 (s.size : Int)] 59)) := hlk
          clear hlk
          go_wp2_with fail
          refine (below_fn_any _ _ _ _ q1).mono ?_
          rintro e u ⟨rfl, rfl⟩
          cases hB : decide (0 ≤ x ∧ x < regs) with
          | false =>
            go_wp2
            go_ret
            exact ⟨ret_bool (HNO.out (by simp only [fit]; first | exact hB | simpa using hB)).symm, HB1.out.alloc HB1.out.size _⟩
          | true =>
            go_wp2
            go_round
            case rel => exact ⟨k + 1, by omega, by go_num, by rw [HN.out]; simp only [fit]; first | exact hB | simpa using hB⟩
            case measure => simp [intOf]; omega
        · have hlk' : (Instr.lookup 74 (.map (some mb)) (.int .u8 106) false).run Tryd.prog (w1.alloc (.cells #[.int .i64 a, .int .i64 b, .int .i64 c, .int .i64 n, .int .i64 (s.size : Int)] 59)) = .ok (.func (.func 35) #[] #[.pointer (some ⟨jb, 0, none⟩)]) (w1.alloc (.cells #[.int .i64 a, .int .i64 b, .int .i64 c, .int .i64 n, .int .i64 (s.size : Int)] 59)) := hlk
          clear hlk
          go_wp2_with fail
          refine (below_fn_any _ _ _ _ q2).mono ?_
          rintro e u ⟨rfl, rfl⟩
          cases hB : decide (0 ≤ x ∧ x < places) with
          | false =>
            go_wp2
            go_ret
            exact ⟨ret_bool (HNO.out (by simp only [fit]; first | exact hB | simpa using hB)).symm, HB1.out.alloc HB1.out.size _⟩
          | true =>
            go_wp2
            go_round
            case rel => exact ⟨k + 1, by omega, by go_num, by rw [HN.out]; simp only [fit]; first | exact hB | simpa using hB⟩
            case measure => simp [intOf]; omega
        · have hlk' : (Instr.lookup 74 (.map (some mb)) (.int .u8 112) false).run Tryd.prog (w1.alloc (.cells #[.int .i64 a, .int .i64 b, .int .i64 c, .int .i64 n, .int .i64 (s.size : Int)] 59)) = .ok (.func (.func 35) #[] #[.pointer (some ⟨pb, 0, none⟩)]) (w1.alloc (.cells #[.int .i64 a, .int .i64 b, .int .i64 c, .int .i64 n, .int .i64 (s.size : Int)] 59)) := hlk
          clear hlk
          go_wp2_with fail
          refine (below_fn_any _ _ _ _ q3).mono ?_
          rintro e u ⟨rfl, rfl⟩
          cases hB : decide (0 ≤ x ∧ x < pol) with
          | false =>
            go_wp2
            go_ret
            exact ⟨ret_bool (HNO.out (by simp only [fit]; first | exact hB | simpa using hB)).symm, HB1.out.alloc HB1.out.size _⟩
          | true =>
            go_wp2
            go_round
            case rel => exact ⟨k + 1, by omega, by go_num, by rw [HN.out]; simp only [fit]; first | exact hB | simpa using hB⟩
            case measure => simp [intOf]; omega
        · have hlk' : (Instr.lookup 74 (.map (some mb)) (.int .u8 110) false).run Tryd.prog (w1.alloc (.cells #[.int .i64 a, .int .i64 b, .int .i64 c, .int .i64 n, .int .i64 (s.size : Int)] 59)) = .ok (.func (.func 36) #[] #[]) (w1.alloc (.cells #[.int .i64 a, .int .i64 b, .int .i64 c, .int .i64 n, .int .i64 (s.size : Int)] 59)) := hlk
          clear hlk
          go_wp2_with fail
          refine (always_any _ _).mono ?_
          rintro e u ⟨rfl, rfl⟩
          have hB : true = true := rfl
          go_wp2
          go_round
          case rel => exact ⟨k + 1, by omega, by go_num, by rw [HN.out]; simp only [fit]; rfl⟩
          case measure => simp [intOf]; omega
        · have hlk' : (Instr.lookup 74 (.map (some mb)) (.int .u8 115) false).run Tryd.prog (w1.alloc (.cells #[.int .i64 a, .int .i64 b, .int .i64 c, .int .i64 n, .int .i64 (s.size : Int)] 59)) = .ok (.func (.func 33) #[] #[]) (w1.alloc (.cells #[.int .i64 a, .int .i64 b, .int .i64 c, .int .i64 n, .int .i64 (s.size : Int)] 59)) := hlk
          clear hlk
          go_wp2_with fail
          refine (lengthMayBe_any _ _).mono ?_
          rintro e u ⟨rfl, rfl⟩
          cases hB : decide (1 ≤ x ∧ x ≤ 40) with
          | false =>
            go_wp2
            go_ret
            exact ⟨ret_bool (HNO.out (by simp only [fit]; first | exact hB | simpa using hB)).symm, HB1.out.alloc HB1.out.size _⟩
          | true =>
            go_wp2
            go_round
            case rel => exact ⟨k + 1, by omega, by go_num, by rw [HN.out]; simp only [fit]; first | exact hB | simpa using hB⟩
            case measure => simp [intOf]; omega
        · have hlk' : (Instr.lookup 74 (.map (some mb)) (.int .u8 46) false).run Tryd.prog (w1.alloc (.cells #[.int .i64 a, .int .i64 b, .int .i64 c, .int .i64 n, .int .i64 (s.size : Int)] 59)) = .ok (.func (.func 35) #[] #[.pointer (some ⟨zb, 0, none⟩)]) (w1.alloc (.cells #[.int .i64 a, .int .i64 b, .int .i64 c, .int .i64 n, .int .i64 (s.size : Int)] 59)) := hlk
          clear hlk
          go_wp2_with fail
          refine (below_fn_any _ _ _ _ q4).mono ?_
          rintro e u ⟨rfl, rfl⟩
          cases hB : decide (0 ≤ x ∧ x < 1) with
          | false =>
            go_wp2
            go_ret
            exact ⟨ret_bool (HNO.out (by simp only [fit]; first | exact hB | simpa using hB)).symm, HB1.out.alloc HB1.out.size _⟩
          | true =>
            go_wp2
            go_round
            case rel => exact ⟨k + 1, by omega, by go_num, by rw [HN.out]; simp only [fit]; first | exact hB | simpa using hB⟩
            case measure => simp [intOf]; omega
      · have hk : k = 5 := by omega
        subst hk
        go_wp2
        go_ret
        refine ⟨ret_bool ?_, HB1.out.alloc HB1.out.size _⟩
        have := HFT.out
        unfold fitTo at this
        rw [List.take_of_length_le (l := fields op) (i := 5) (by omega)] at this
        unfold insB
        rw [this]
        simp [h5]
end Go.Proofs.YtlngeonfabahnaaDoor
