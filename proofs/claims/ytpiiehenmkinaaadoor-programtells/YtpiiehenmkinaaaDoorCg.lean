/-
  What the program lays; the contracts of Word and Show. Own work.
-/
import Derived.Test.YtpiiehenmkinaaaDoorCf
import Derived.Test.YtpiiehenmkinaaaDoorSh
import Derived.Test.YtpiiehenmkinaaaDoorFl
import Derived.Lib.LaidTab
import Derived.Lib.SmallJoins
import Derived.Lib.ItoaLen
import Derived.Lib.AppendIntMem
import Derived.Lib.ItoaMem
import Derived.JoinedOf
import Derived.JoinedAt
import Derived.Deep.RegionHeld
namespace Go.Proofs.YtpiiehenmkinaaaDoor
open Go.RowKit Go.Sort

/-- what the program lays ahead of all calls stands in this world -/
structure Laid (w : World) : Prop where
  tab : Lib.TabIs Tryd.prog w "internal/strconv.uint64pow10" .u64 Lib.pow10Tab
  kinds : Kinds w
theorem gtab : ∃ g, Tryd.prog.globalNamed "internal/strconv.uint64pow10" = some g := ⟨1, by kernel_rfl⟩
theorem Laid.below {w w' : World} (h : Laid w) (hb : Below w.heap.size w w') : Laid w' := by
  obtain ⟨g1, e1⟩ := gtab
  exact ⟨Go.Joins.tab_stays e1 h.tab hb (Nat.le_refl _), h.kinds.below hb⟩
theorem Laid.drew {w : World} (h : Laid w) : Laid w.drew := h.below (Below.refl _ _).drew
theorem Laid.alloc {w : World} (h : Laid w) (o : Obj) : Laid (w.alloc o) := h.below ((Below.refl _ _).alloc (Nat.le_refl _) _)
theorem below_grown {w w' : World} (h : ∃ k os, w' = grow (w.drewN k) os) : Below w.heap.size w w' := by
  obtain ⟨k, os, rfl⟩ := h
  exact Lib.below_grow _ _ (Nat.le_refl _) k os
theorem SH_keep {w w' : World} {B0 : Nat} {a b c n : Int} {s : ByteArray} (h : Laid w ∧ B0 < w.heap.size ∧ w.cell? ⟨B0, 1, none⟩ = some (.int .i64 a) ∧ w.cell? ⟨B0, 2, none⟩ = some (.int .i64 b) ∧ w.cell? ⟨B0, 3, none⟩ = some (.int .i64 c) ∧ w.cell? ⟨B0, 4, none⟩ = some (.int .i64 n) ∧ w.cell? ⟨B0, 5, none⟩ = some (.string s)) (hb : Below w.heap.size w w') :
    Laid w' ∧ B0 < w'.heap.size ∧ w'.cell? ⟨B0, 1, none⟩ = some (.int .i64 a) ∧ w'.cell? ⟨B0, 2, none⟩ = some (.int .i64 b) ∧ w'.cell? ⟨B0, 3, none⟩ = some (.int .i64 c) ∧ w'.cell? ⟨B0, 4, none⟩ = some (.int .i64 n) ∧ w'.cell? ⟨B0, 5, none⟩ = some (.string s) := by
  obtain ⟨h0, h1, h2, h3, h4, h5, h6⟩ := h
  exact ⟨h0.below hb, Nat.lt_of_lt_of_le h1 hb.size, (hb.cell (p := ⟨B0, 1, none⟩) h1).trans h2, (hb.cell (p := ⟨B0, 2, none⟩) h1).trans h3, (hb.cell (p := ⟨B0, 3, none⟩) h1).trans h4, (hb.cell (p := ⟨B0, 4, none⟩) h1).trans h5, (hb.cell (p := ⟨B0, 5, none⟩) h1).trans h6⟩

set_option maxRecDepth 100000 in
theorem word_any (o : Nat) (ho : o < 256) (w : World) (hk : Kinds w) : Calls Tryd.prog 20 #[.int .u8 o] w fun e w' => e = .returned (.string (wordS o)) ∧ Below w.heap.size w w' := by
  have hrf := run_word
  go_enter Tryd.func20, Tryd.ntmps20
  go_wp2_with fail
  refine (kindOf_any o ho w hk).mono ?_
  rintro e w1 ⟨rfl, hb1⟩
  go_wp2
  go_ret
  exact ⟨rfl, hb1⟩

theorem wordS_emp (o : Nat) : (wordS o).toList.isEmpty = (wordL o).isEmpty := by
  rw [ByteArray.toList_eq]
  show ((wordL o).map UInt8.ofNat).toArray.toList.isEmpty = _
  cases wordL o <;> rfl
theorem cat_op (l : List UInt8) : (⟨#[111, 112]⟩ : ByteArray) ++ ⟨l.toArray⟩ = ⟨(111 :: 112 :: l).toArray⟩ := by
  apply ByteArray.ext
  simp [ByteArray.data_append]
/-- an Op's word as Show tells it -/
def wordT (o : Nat) : ByteArray := if wordL o = [] then ⟨(111 :: 112 :: Lib.itoa (o : Int)).toArray⟩ else wordS o
def txts (i : Ins) : List ByteArray := [wordT i.op, ⟨(Lib.itoa i.a).toArray⟩, ⟨(Lib.itoa i.b).toArray⟩, ⟨(Lib.itoa i.c).toArray⟩, ⟨(Lib.itoa i.n).toArray⟩] ++ (if i.s = ⟨#[]⟩ then [] else [i.s])
def showB (i : Ins) : ByteArray := ⟨(Lib.join ((txts i).map (·.data.toList)) [32]).toArray⟩

theorem own_new {w : World} (e : TypeId) (vs : List Value) (n : Nat) (hn : n = vs.length) (hm : n ≤ maxLen) : OwnV (w.alloc (.cells vs.toArray e)) w.heap.size e (.slice (some ⟨w.heap.size, 0, none⟩) n n) vs := by
  subst hn
  exact ⟨by simp, .inr ⟨w.heap.size, vs.length, vs.toArray, rfl, Nat.le_refl _, heap_alloc_new w _, Nat.le_refl _, hm, by simp, by simp⟩⟩
theorem lens_le (xs : List (List UInt8)) (m : Nat) (h : ∀ x ∈ xs, x.length ≤ m) : Lib.lens xs ≤ xs.length * m := by
  induction xs with
  | nil => simp [Lib.lens]
  | cons x xs ih =>
    have h1 := h x (by simp)
    have h2 := ih (fun y hy => h y (by simp [hy]))
    have e : Lib.lens (x :: xs) = x.length + Lib.lens xs := by simp [Lib.lens]
    rw [e, List.length_cons, Nat.add_mul]
    omega
theorem join_le (xs : List (List UInt8)) (h : ∀ x ∈ xs, x.length ≤ 3000) (hl : xs.length ≤ 6) : (Lib.join xs [32]).length ≤ 140737488355328 := by
  cases xs with
  | nil => simp [Lib.join_nil]
  | cons x r =>
    rw [Lib.join_length]
    have h1 := lens_le (x :: r) 3000 h
    have h2 := Nat.mul_le_mul_right 3000 hl
    simp only [List.length_cons, List.length_nil] at h1 h2 hl ⊢
    omega
theorem itoa_len (n : Int) (h : -9223372036854775808 ≤ n ∧ n ≤ 9223372036854775807) : (Lib.itoa n).length ≤ 3000 := by
  have := Lib.itoa_length_le n h.1 h.2
  omega
theorem wordT_len (o : Nat) (ho : o < 256) : (wordT o).data.toList.length ≤ 3000 := by
  unfold wordT
  split
  · have := Lib.itoa_length_le (o : Int) (by omega) (by omega)
    show (111 :: 112 :: Lib.itoa (o : Int)).toArray.toList.length ≤ 3000
    simp
    omega
  · show ((wordL o).map UInt8.ofNat).toArray.toList.length ≤ 3000
    simp
    unfold wordL
    split <;> decide
theorem txts_le (i : Ins) (hw : i.wf) (hs : i.s.size ≤ 3000) : ∀ x ∈ (txts i).map (·.data.toList), x.length ≤ 3000 := by
  intro x hx
  obtain ⟨t, ht, rfl⟩ := List.mem_map.1 hx
  have k4 : i.s.data.toList.length ≤ 3000 := by
    have : i.s.data.toList.length = i.s.size := by rw [Array.length_toList]; rfl
    omega
  unfold txts at ht
  rcases List.mem_append.1 ht with ht | ht
  · simp only [List.mem_cons, List.not_mem_nil, or_false] at ht
    rcases ht with rfl | rfl | rfl | rfl | rfl
    · exact wordT_len _ hw.op
    · exact itoa_len _ hw.a
    · exact itoa_len _ hw.b
    · exact itoa_len _ hw.c
    · exact itoa_len _ hw.n
  · split at ht
    · cases ht
    · simp at ht
      subst ht
      exact k4
theorem txts_count (i : Ins) : (txts i).length ≤ 6 := by
  unfold txts
  split <;> simp
theorem Tryd.info9 : (Tryd.prog.info? 9).map (fun i => (i.zero, i.size, i.bytes)) = some (some (.string ⟨#[]⟩), 1, 16) := by kernel_rfl

set_option maxRecDepth 100000 in
set_option maxHeartbeats 3200000 in
theorem show_any (i : Ins) (hw : i.wf) (w : World) (hl : Laid w) (hs : i.s.size ≤ 3000) : Calls Tryd.prog 18 #[insV i] w fun e w' => e = .returned (.string (showB i)) ∧ Below w.heap.size w w' := by
  obtain ⟨op, a, b, c, n, s⟩ := i
  have HRa := hide (show -9223372036854775808 ≤ a ∧ a ≤ 9223372036854775807 from hw.a)
  have HRb := hide (show -9223372036854775808 ≤ b ∧ b ≤ 9223372036854775807 from hw.b)
  have HRc := hide (show -9223372036854775808 ≤ c ∧ c ≤ 9223372036854775807 from hw.c)
  have HRn := hide (show -9223372036854775808 ≤ n ∧ n ≤ 9223372036854775807 from hw.n)
  have HO := hide hw.op
  have HTL := hide (txts_le _ hw hs)
  have HTC := hide (txts_count ⟨op, a, b, c, n, s⟩)
  simp only at HRa HRb HRc HRn HO hs
  show Calls Tryd.prog 18 #[.agg #[.int .u8 (op : Int), .int .i64 a, .int .i64 b, .int .i64 c, .int .i64 n, .string s]] w _
  obtain ⟨i9, hi9, hz9, hs9', hb9⟩ := info_parts Tryd.info9
  obtain ⟨W, HW⟩ := named (w.alloc (.cells #[.int .u8 (op : Int), .int .i64 a, .int .i64 b, .int .i64 c, .int .i64 n, .string s] 28))
  have hbW : Below w.heap.size w W := by rw [HW.out]; exact (Below.refl _ _).alloc (Nat.le_refl _) _
  have hsW : W.heap.size = w.heap.size + 1 := by rw [HW.out]; simp
  have hcW : W.heap[w.heap.size]? = some (.cells #[.int .u8 (op : Int), .int .i64 a, .int .i64 b, .int .i64 c, .int .i64 n, .string s] 28 (0, 0)) := by rw [HW.out]; exact heap_alloc_new w _
  have hcc := fun o => cell_of_row W w.heap.size o _ 28 (0, 0) hcW
  obtain ⟨B0, HB0⟩ := named w.heap.size
  have hS : Laid W ∧ B0 < W.heap.size ∧ W.cell? ⟨B0, 1, none⟩ = some (.int .i64 a) ∧ W.cell? ⟨B0, 2, none⟩ = some (.int .i64 b) ∧ W.cell? ⟨B0, 3, none⟩ = some (.int .i64 c) ∧ W.cell? ⟨B0, 4, none⟩ = some (.int .i64 n) ∧ W.cell? ⟨B0, 5, none⟩ = some (.string s) := by
    rw [HB0.out]
    exact ⟨hl.below hbW, by omega, hcc 1, hcc 2, hcc 3, hcc 4, hcc 5⟩
  have HSW := hide hS
  have HBW := hide hbW
  have kk := word_any op HO.out W hS.1.kinds
  have C0 := hide (show W.cell? ⟨w.heap.size, 0, none⟩ = some (.int .u8 (op : Int)) from hcc 0)
  clear hsW hcW hcc hS hbW
  go_enter Tryd.func18, Tryd.ntmps18
  go_wp2_with fail
  rw [← HW.out]
  refine kk.mono ?_
  rintro e w1 ⟨rfl, hb1⟩
  rw [← HB0.out]
  have hs1 := SH_keep HSW.out hb1
  have HB1 := hide (below_call HBW.out hb1)
  have hwl : wordL op = [] ∨ wordL op ≠ [] := Decidable.em _
  have hwe := wordS_emp op
  have c0 : w1.cell? ⟨B0, 0, none⟩ = some (.int .u8 (op : Int)) := by
    have := hb1.cell (p := ⟨B0, 0, none⟩) HSW.out.2.1
    rw [this, HB0.out]
    exact C0.out
  clear kk hb1
  rcases hwl with h0 | h0
  · have hT : wordT op = (⟨#[111, 112]⟩ : ByteArray) ++ ⟨(Lib.itoa (op : Int)).toArray⟩ := by rw [cat_op]; unfold wordT; rw [if_pos h0]
    rw [h0] at hwe
    have hwe2 : (wordS op).toList.isEmpty = true := hwe
    have HT := hide hT
    clear hT hwe
    go_wp2_with fail
    rw [show wrap64 (op : Int) = (op : Int) by unfold wrap64; have := HO.out; omega]
    refine (Tryd.strconv_Itoa (op : Int) (by omega) (by have := HO.out; omega) _ hs1.1.tab).mono ?_
    rintro e w2 ⟨rfl, hx⟩
    have hb2 := below_grown hx
    have hs0 := SH_keep (SH_keep hs1 hb2) (Below.refl _ _).drew
    have HB2 := hide (below_call HB1.out hb2)
    have hcat : ¬ (9223372036854775807 < 2 + (Lib.itoa (op : Int)).length) := by
      have := Lib.itoa_length_le (op : Int) (by omega) (by have := HO.out; omega)
      omega
    clear hx hb2
    go_wp2_with fail
    refine wp_region_held_drew (S := (fun u => Laid u ∧ B0 < u.heap.size ∧ u.cell? ⟨B0, 1, none⟩ = some (.int .i64 a) ∧ u.cell? ⟨B0, 2, none⟩ = some (.int .i64 b) ∧ u.cell? ⟨B0, 3, none⟩ = some (.int .i64 c) ∧ u.cell? ⟨B0, 4, none⟩ = some (.int .i64 n) ∧ u.cell? ⟨B0, 5, none⟩ = some (.string s))) (by kernel_rfl) hs0 (fun _ => ?_)
    refine wpAnyH_take (i := 0) (oi := { dst := some 15, op := Go.Op.move (Go.Operand.tmp 3), type := 9, pos := "program.go:69", after := #[], guard := none }) (v := ?_) rfl (by kernel_rfl) (by kernel_rfl) (by kernel_rfl) (fun _ _ _ h => h) (Or.inl ⟨by rfl, ?hy1⟩) hs0 ?_
    case hy1 =>
      intro u hu
      obtain ⟨u0, u1, u2, u3, u4, u5, u6⟩ := hu
      go_simp
      try with_reducible rfl
    simp only [Act.put, List.setIfInBounds_toArray, List.set_cons_zero, List.set_cons_succ]
    refine wpAnyH_take (i := 1) (oi := { dst := some 16, op := Go.Op.fieldAddr 28 (Go.Operand.tmp 1) 1, type := 0, pos := "program.go:69", after := #[], guard := none }) (v := ?_) rfl (by kernel_rfl) (by kernel_rfl) (by kernel_rfl) (fun _ _ _ h => h) (Or.inl ⟨by rfl, ?hy2⟩) hs0 ?_
    case hy2 =>
      intro u hu
      obtain ⟨u0, u1, u2, u3, u4, u5, u6⟩ := hu
      go_simp
      try with_reducible rfl
    simp only [Act.put, List.setIfInBounds_toArray, List.set_cons_zero, List.set_cons_succ]
    refine wpAnyH_take (i := 2) (oi := { dst := some 17, op := Go.Op.load 3 (Go.Operand.tmp 16), type := 3, pos := "program.go:69", after := #[{ on := 1, ground := Go.Ground.data }], guard := none }) (v := ?_) rfl (by kernel_rfl) (by kernel_rfl) (by kernel_rfl) (fun _ _ _ h => h) (Or.inl ⟨by rfl, ?hy3⟩) hs0 ?_
    case hy3 =>
      intro u hu
      obtain ⟨u0, u1, u2, u3, u4, u5, u6⟩ := hu
      go_simp
      try with_reducible rfl
    simp only [Act.put, List.setIfInBounds_toArray, List.set_cons_zero, List.set_cons_succ]
    refine wpAnyH_take (i := 4) (oi := { dst := some 19, op := Go.Op.fieldAddr 28 (Go.Operand.tmp 1) 2, type := 0, pos := "program.go:69", after := #[], guard := none }) (v := ?_) rfl (by kernel_rfl) (by kernel_rfl) (by kernel_rfl) (fun _ _ _ h => h) (Or.inl ⟨by rfl, ?hy4⟩) hs0 ?_
    case hy4 =>
      intro u hu
      obtain ⟨u0, u1, u2, u3, u4, u5, u6⟩ := hu
      go_simp
      try with_reducible rfl
    simp only [Act.put, List.setIfInBounds_toArray, List.set_cons_zero, List.set_cons_succ]
    refine wpAnyH_take (i := 5) (oi := { dst := some 20, op := Go.Op.load 3 (Go.Operand.tmp 19), type := 3, pos := "program.go:69", after := #[{ on := 4, ground := Go.Ground.data }], guard := none }) (v := ?_) rfl (by kernel_rfl) (by kernel_rfl) (by kernel_rfl) (fun _ _ _ h => h) (Or.inl ⟨by rfl, ?hy5⟩) hs0 ?_
    case hy5 =>
      intro u hu
      obtain ⟨u0, u1, u2, u3, u4, u5, u6⟩ := hu
      go_simp
      try with_reducible rfl
    simp only [Act.put, List.setIfInBounds_toArray, List.set_cons_zero, List.set_cons_succ]
    refine wpAnyH_take (i := 7) (oi := { dst := some 22, op := Go.Op.fieldAddr 28 (Go.Operand.tmp 1) 3, type := 0, pos := "program.go:69", after := #[], guard := none }) (v := ?_) rfl (by kernel_rfl) (by kernel_rfl) (by kernel_rfl) (fun _ _ _ h => h) (Or.inl ⟨by rfl, ?hy6⟩) hs0 ?_
    case hy6 =>
      intro u hu
      obtain ⟨u0, u1, u2, u3, u4, u5, u6⟩ := hu
      go_simp
      try with_reducible rfl
    simp only [Act.put, List.setIfInBounds_toArray, List.set_cons_zero, List.set_cons_succ]
    refine wpAnyH_take (i := 8) (oi := { dst := some 23, op := Go.Op.load 3 (Go.Operand.tmp 22), type := 3, pos := "program.go:69", after := #[{ on := 7, ground := Go.Ground.data }], guard := none }) (v := ?_) rfl (by kernel_rfl) (by kernel_rfl) (by kernel_rfl) (fun _ _ _ h => h) (Or.inl ⟨by rfl, ?hy7⟩) hs0 ?_
    case hy7 =>
      intro u hu
      obtain ⟨u0, u1, u2, u3, u4, u5, u6⟩ := hu
      go_simp
      try with_reducible rfl
    simp only [Act.put, List.setIfInBounds_toArray, List.set_cons_zero, List.set_cons_succ]
    refine wpAnyH_take (i := 10) (oi := { dst := some 25, op := Go.Op.fieldAddr 28 (Go.Operand.tmp 1) 4, type := 0, pos := "program.go:69", after := #[], guard := none }) (v := ?_) rfl (by kernel_rfl) (by kernel_rfl) (by kernel_rfl) (fun _ _ _ h => h) (Or.inl ⟨by rfl, ?hy8⟩) hs0 ?_
    case hy8 =>
      intro u hu
      obtain ⟨u0, u1, u2, u3, u4, u5, u6⟩ := hu
      go_simp
      try with_reducible rfl
    simp only [Act.put, List.setIfInBounds_toArray, List.set_cons_zero, List.set_cons_succ]
    refine wpAnyH_take (i := 11) (oi := { dst := some 26, op := Go.Op.load 2 (Go.Operand.tmp 25), type := 2, pos := "program.go:69", after := #[{ on := 10, ground := Go.Ground.data }], guard := none }) (v := ?_) rfl (by kernel_rfl) (by kernel_rfl) (by kernel_rfl) (fun _ _ _ h => h) (Or.inl ⟨by rfl, ?hy9⟩) hs0 ?_
    case hy9 =>
      intro u hu
      obtain ⟨u0, u1, u2, u3, u4, u5, u6⟩ := hu
      go_simp
      try with_reducible rfl
    simp only [Act.put, List.setIfInBounds_toArray, List.set_cons_zero, List.set_cons_succ]
    refine wpAnyH_ready (rs := [3]) (by kernel_rfl) (by simp) ?_
    refine AllReadyH.cons (o := { dst := some 18, op := Go.Op.call { callee := Go.Callee.value (Go.Operand.func 42), args := #[Go.Operand.tmp 17], argTypes := #[3] }, type := 9, pos := "program.go:69", after := #[{ on := 2, ground := Go.Ground.data }], guard := none }) rfl (fun K hK => ?_) AllReadyH.nil
    go_simp
    obtain ⟨q0, q1, q2, q3, q4, q5, q6⟩ := hs0
    (with_reducible refine Calls.mono (Tryd.strconv_Itoa a HRa.out.1 HRa.out.2 _ ?_) ?_)
    · exact (show Laid _ from q0).tab
    rintro e v3 ⟨rfl, x3⟩
    have y3 := below_grown x3
    have hs3 := SH_keep (show _ ∧ _ ∧ _ ∧ _ ∧ _ ∧ _ ∧ _ from ⟨q0, q1, q2, q3, q4, q5, q6⟩) y3
    clear q0 q1 q2 q3 q4 q5 q6 x3
    refine hK.out _ _ hs3 (fun _ => ?_)
    clear hK K
    try simp only [Act.put, List.setIfInBounds_toArray, List.set_cons_zero, List.set_cons_succ]
    refine wpAnyH_ready (rs := [6]) (by kernel_rfl) (by simp) ?_
    refine AllReadyH.cons (o := { dst := some 21, op := Go.Op.call { callee := Go.Callee.value (Go.Operand.func 42), args := #[Go.Operand.tmp 20], argTypes := #[3] }, type := 9, pos := "program.go:69", after := #[{ on := 5, ground := Go.Ground.data }, { on := 3, ground := Go.Ground.chain }], guard := none }) rfl (fun K hK => ?_) AllReadyH.nil
    go_simp
    obtain ⟨q0, q1, q2, q3, q4, q5, q6⟩ := hs3
    (with_reducible refine Calls.mono (Tryd.strconv_Itoa b HRb.out.1 HRb.out.2 _ ?_) ?_)
    · exact (show Laid _ from q0).tab
    rintro e v6 ⟨rfl, x6⟩
    have y6 := below_grown x6
    have hs6 := SH_keep (show _ ∧ _ ∧ _ ∧ _ ∧ _ ∧ _ ∧ _ from ⟨q0, q1, q2, q3, q4, q5, q6⟩) y6
    clear q0 q1 q2 q3 q4 q5 q6 x6
    refine hK.out _ _ hs6 (fun _ => ?_)
    clear hK K
    try simp only [Act.put, List.setIfInBounds_toArray, List.set_cons_zero, List.set_cons_succ]
    refine wpAnyH_ready (rs := [9]) (by kernel_rfl) (by simp) ?_
    refine AllReadyH.cons (o := { dst := some 24, op := Go.Op.call { callee := Go.Callee.value (Go.Operand.func 42), args := #[Go.Operand.tmp 23], argTypes := #[3] }, type := 9, pos := "program.go:69", after := #[{ on := 8, ground := Go.Ground.data }, { on := 6, ground := Go.Ground.chain }], guard := none }) rfl (fun K hK => ?_) AllReadyH.nil
    go_simp
    obtain ⟨q0, q1, q2, q3, q4, q5, q6⟩ := hs6
    (with_reducible refine Calls.mono (Tryd.strconv_Itoa c HRc.out.1 HRc.out.2 _ ?_) ?_)
    · exact (show Laid _ from q0).tab
    rintro e v9 ⟨rfl, x9⟩
    have y9 := below_grown x9
    have hs9 := SH_keep (show _ ∧ _ ∧ _ ∧ _ ∧ _ ∧ _ ∧ _ from ⟨q0, q1, q2, q3, q4, q5, q6⟩) y9
    clear q0 q1 q2 q3 q4 q5 q6 x9
    refine hK.out _ _ hs9 (fun _ => ?_)
    clear hK K
    try simp only [Act.put, List.setIfInBounds_toArray, List.set_cons_zero, List.set_cons_succ]
    refine wpAnyH_ready (rs := [12]) (by kernel_rfl) (by simp) ?_
    refine AllReadyH.cons (o := { dst := some 27, op := Go.Op.call { callee := Go.Callee.value (Go.Operand.func 43), args := #[Go.Operand.tmp 26, Go.Operand.const (Go.Value.int Go.IntKind.i64 10)], argTypes := #[2, 3] }, type := 9, pos := "program.go:69", after := #[{ on := 11, ground := Go.Ground.data }, { on := 9, ground := Go.Ground.chain }], guard := none }) rfl (fun K hK => ?_) AllReadyH.nil
    go_simp
    obtain ⟨q0, q1, q2, q3, q4, q5, q6⟩ := hs9
    (with_reducible refine Calls.mono (Tryd.strconv_FormatInt_10 n HRn.out.1 HRn.out.2 _ ?_) ?_)
    · exact (show Laid _ from q0).tab
    rintro e v12 ⟨rfl, x12⟩
    have y12 := below_grown x12
    have hs12 := SH_keep (show _ ∧ _ ∧ _ ∧ _ ∧ _ ∧ _ ∧ _ from ⟨q0, q1, q2, q3, q4, q5, q6⟩) y12
    clear q0 q1 q2 q3 q4 q5 q6 x12
    refine hK.out _ _ hs12 (fun _ => ?_)
    clear hK K
    try simp only [Act.put, List.setIfInBounds_toArray, List.set_cons_zero, List.set_cons_succ]
    refine wpAnyH_ready (rs := [13]) (by kernel_rfl) (by simp) ?_
    refine AllReadyH.cons (o := { dst := some 28, op := Go.Op.buildSlice 81 5 #[(0, Go.Operand.tmp 15), (1, Go.Operand.tmp 18), (2, Go.Operand.tmp 21), (3, Go.Operand.tmp 24), (4, Go.Operand.tmp 27)], type := 81, pos := "program.go:69", after := #[{ on := 0, ground := Go.Ground.data }, { on := 3, ground := Go.Ground.data }, { on := 6, ground := Go.Ground.data }, { on := 9, ground := Go.Ground.data }, { on := 12, ground := Go.Ground.data }], guard := none }) rfl (fun K hK => ?_) AllReadyH.nil
    go_simp
    have hs13 := SH_keep hs12 ((Below.refl _ _).alloc (Nat.le_refl v12.heap.size) (.cells #[.string ((⟨#[111, 112]⟩ : ByteArray) ++ ⟨(Lib.itoa (op : Int)).toArray⟩), .string ⟨(Lib.itoa a).toArray⟩, .string ⟨(Lib.itoa b).toArray⟩, .string ⟨(Lib.itoa c).toArray⟩, .string ⟨(Lib.itoa n).toArray⟩] 9))
    refine hK.out _ _ hs13 (fun _ => ?_)
    clear hK K
    try simp only [Act.put, List.setIfInBounds_toArray, List.set_cons_zero, List.set_cons_succ]
    refine wpAnyH_ready (rs := [14]) (by kernel_rfl) (by simp) ?_
    refine AllReadyH.cons (o := { dst := some 4, op := Go.Op.assign (Go.Operand.tmp 28), type := 81, pos := "program.go:69", after := #[{ on := 13, ground := Go.Ground.data }, { on := 12, ground := Go.Ground.chain }, { on := 0, ground := Go.Ground.phase }, { on := 1, ground := Go.Ground.phase }, { on := 2, ground := Go.Ground.phase }, { on := 3, ground := Go.Ground.phase }, { on := 4, ground := Go.Ground.phase }, { on := 5, ground := Go.Ground.phase }, { on := 6, ground := Go.Ground.phase }, { on := 7, ground := Go.Ground.phase }, { on := 8, ground := Go.Ground.phase }, { on := 9, ground := Go.Ground.phase }, { on := 10, ground := Go.Ground.phase }, { on := 11, ground := Go.Ground.phase }, { on := 12, ground := Go.Ground.phase }, { on := 13, ground := Go.Ground.phase }], guard := none }) rfl (fun K hK => ?_) AllReadyH.nil
    go_simp
    refine hK.out _ _ hs13 (fun _ => ?_)
    clear hK K
    try simp only [Act.put, List.setIfInBounds_toArray, List.set_cons_zero, List.set_cons_succ]
    refine wpAnyH_done (by kernel_rfl) ?_ _
    have HX := hide hs13.2.2.2.2.2.2
    have hb5 : Below w.heap.size w (v12.alloc (.cells #[.string ((⟨#[111, 112]⟩ : ByteArray) ++ ⟨(Lib.itoa (op : Int)).toArray⟩), .string ⟨(Lib.itoa a).toArray⟩, .string ⟨(Lib.itoa b).toArray⟩, .string ⟨(Lib.itoa c).toArray⟩, .string ⟨(Lib.itoa n).toArray⟩] 9)) := (below_call (below_call (below_call (below_call HB2.out.drew y3) y6) y9) y12).alloc (by
      have := (below_call (below_call (below_call (below_call HB2.out.drew y3) y6) y9) y12).size
      omega) _
    have ho5 : OwnV (v12.alloc (.cells #[.string ((⟨#[111, 112]⟩ : ByteArray) ++ ⟨(Lib.itoa (op : Int)).toArray⟩), .string ⟨(Lib.itoa a).toArray⟩, .string ⟨(Lib.itoa b).toArray⟩, .string ⟨(Lib.itoa c).toArray⟩, .string ⟨(Lib.itoa n).toArray⟩] 9)) v12.heap.size 9 (.slice (some ⟨v12.heap.size, 0, none⟩) 5 5) ([wordT op, ⟨(Lib.itoa a).toArray⟩, ⟨(Lib.itoa b).toArray⟩, ⟨(Lib.itoa c).toArray⟩, ⟨(Lib.itoa n).toArray⟩].map Value.string) := by
      rw [HT.out]
      exact own_new 9 [.string ((⟨#[111, 112]⟩ : ByteArray) ++ ⟨(Lib.itoa (op : Int)).toArray⟩), .string ⟨(Lib.itoa a).toArray⟩, .string ⟨(Lib.itoa b).toArray⟩, .string ⟨(Lib.itoa c).toArray⟩, .string ⟨(Lib.itoa n).toArray⟩] 5 rfl (by decide)
    have hz12 : w.heap.size ≤ v12.heap.size := (below_call (below_call (below_call (below_call HB2.out.drew y3) y6) y9) y12).size
    have x5 : (v12.alloc (.cells #[.string ((⟨#[111, 112]⟩ : ByteArray) ++ ⟨(Lib.itoa (op : Int)).toArray⟩), .string ⟨(Lib.itoa a).toArray⟩, .string ⟨(Lib.itoa b).toArray⟩, .string ⟨(Lib.itoa c).toArray⟩, .string ⟨(Lib.itoa n).toArray⟩] 9)).cell? ⟨B0, 5, none⟩ = some (.string s) := HX.out
    have HB5 := hide hb5
    have HO5 := hide ho5
    clear hs13 y3 y6 y9 y12 hb5 ho5
    obtain ⟨W5, HW5⟩ := named (v12.alloc (.cells #[.string ((⟨#[111, 112]⟩ : ByteArray) ++ ⟨(Lib.itoa (op : Int)).toArray⟩), .string ⟨(Lib.itoa a).toArray⟩, .string ⟨(Lib.itoa b).toArray⟩, .string ⟨(Lib.itoa c).toArray⟩, .string ⟨(Lib.itoa n).toArray⟩] 9))
    have hz5 : v12.heap.size < W5.heap.size := by rw [HW5.out]; simp
    rw [← HW5.out] at HB5 HO5 x5 ⊢
    by_cases hse : s = ⟨#[]⟩
    · have hsi : s.toList.isEmpty = true := by rw [hse, ByteArray.toList_eq]; rfl
      have HTX := hide (show txts ⟨op, a, b, c, n, s⟩ = [wordT op, ⟨(Lib.itoa a).toArray⟩, ⟨(Lib.itoa b).toArray⟩, ⟨(Lib.itoa c).toArray⟩, ⟨(Lib.itoa n).toArray⟩] by unfold txts; rw [if_pos hse]; rfl)
      go_wp2_with fail
      refine (Tryd.strings_Join v12.heap.size 0 5 [wordT op, ⟨(Lib.itoa a).toArray⟩, ⟨(Lib.itoa b).toArray⟩, ⟨(Lib.itoa c).toArray⟩, ⟨(Lib.itoa n).toArray⟩] ⟨#[32]⟩ W5 (fun j x hx => ?_) hz5 (by simp) (by simp) ?_).mono ?_
      · have h1 := HO5.out.rd
        obtain ⟨ao, cap, hv, -, -, -, h4⟩ := h1
        cases hv
        have hj : j < ([wordT op, ⟨(Lib.itoa a).toArray⟩, ⟨(Lib.itoa b).toArray⟩, ⟨(Lib.itoa c).toArray⟩, ⟨(Lib.itoa n).toArray⟩].map Value.string).length := by
          have := (List.getElem?_eq_some_iff.1 hx).1
          simpa using this
        have h5 := h4 _ rfl j hj
        rw [addr_add, Nat.zero_add] at h5
        rw [Nat.zero_add, h5]
        obtain ⟨hj2, rfl⟩ := List.getElem?_eq_some_iff.1 hx
        rw [List.getElem_map]
      · have h1 := join_le _ HTL.out (by rw [List.length_map]; exact HTC.out)
        rw [HTX.out] at h1
        exact h1
      rintro e w7 ⟨rfl, hb7⟩
      go_wp2
      go_ret
      refine ⟨?_, below_call HB5.out hb7⟩
      unfold showB
      rw [HTX.out]
      rfl
    · have hsi : s.toList.isEmpty = false := by
        rw [ByteArray.toList_eq]
        cases h : s.data.toList with
        | nil => exact absurd (ByteArray.ext (Array.toList_inj.1 (by rw [h]))) hse
        | cons x t => rfl
      have HTX := hide (show txts ⟨op, a, b, c, n, s⟩ = [wordT op, ⟨(Lib.itoa a).toArray⟩, ⟨(Lib.itoa b).toArray⟩, ⟨(Lib.itoa c).toArray⟩, ⟨(Lib.itoa n).toArray⟩] ++ [s] by unfold txts; rw [if_neg hse])
      obtain ⟨v', w', hr, ho6, hg6⟩ := run_append_v (P := Tryd.prog) (W5.alloc (.cells #[.string s] 9)) 81 81 9 _ (.string ⟨#[]⟩) 16 Tryd.underlying81 hi9 hz9 hs9' hb9 rfl (by decide) v12.heap.size _ (.string s) ⟨W5.heap.size, 0, none⟩ 1 _ rfl (by simp) (HO5.out.alloc _) (by simp) (by simp; omega)
      have hb6 : Below w.heap.size w w' := by
        have h1 : Below w.heap.size w (W5.alloc (.cells #[.string s] 9)) := HB5.out.alloc HB5.out.size _
        refine h1.grown hg6 h1.size (fun k hk => ?_)
        cases hk
        exact hz12
      have HB6 := hide hb6
      have HO6 := hide ho6
      have hlen6 : (([wordT op, ⟨(Lib.itoa a).toArray⟩, ⟨(Lib.itoa b).toArray⟩, ⟨(Lib.itoa c).toArray⟩, ⟨(Lib.itoa n).toArray⟩].map Value.string) ++ [Value.string s]).length = 6 := rfl
      obtain ⟨bb, off, cap, hv6, h61, h62, h63, h64⟩ := ho6.rd.cells (by rw [hlen6]; omega)
      rw [hlen6] at hv6 h61
      subst hv6
      have HC6 := hide h64
      clear hb6 ho6 hg6 h64
      go_wp2_with (at_builtin; go_must (refine Lib.wpList_append_run _ rfl _ _ _ _ rfl _ _ rfl rfl _ _ hr ?_))
      refine (Tryd.strings_Join bb off cap ([wordT op, ⟨(Lib.itoa a).toArray⟩, ⟨(Lib.itoa b).toArray⟩, ⟨(Lib.itoa c).toArray⟩, ⟨(Lib.itoa n).toArray⟩] ++ [s]) ⟨#[32]⟩ w' (fun j x hx => ?_) h63 (by simp) (by simpa using h61) ?_).mono ?_
      · have hj : j < (([wordT op, ⟨(Lib.itoa a).toArray⟩, ⟨(Lib.itoa b).toArray⟩, ⟨(Lib.itoa c).toArray⟩, ⟨(Lib.itoa n).toArray⟩].map Value.string) ++ [Value.string s]).length := by
          have := (List.getElem?_eq_some_iff.1 hx).1
          simpa using this
        rw [HC6.out j hj]
        obtain ⟨hj2, rfl⟩ := List.getElem?_eq_some_iff.1 hx
        congr 1
        have e : (([wordT op, ⟨(Lib.itoa a).toArray⟩, ⟨(Lib.itoa b).toArray⟩, ⟨(Lib.itoa c).toArray⟩, ⟨(Lib.itoa n).toArray⟩].map Value.string) ++ [Value.string s]) = ([wordT op, ⟨(Lib.itoa a).toArray⟩, ⟨(Lib.itoa b).toArray⟩, ⟨(Lib.itoa c).toArray⟩, ⟨(Lib.itoa n).toArray⟩] ++ [s]).map Value.string := by simp
        rw [List.getElem_of_eq e]
        rw [List.getElem_map]
      · have h1 := join_le _ HTL.out (by rw [List.length_map]; exact HTC.out)
        rw [HTX.out] at h1
        exact h1
      rintro e w7 ⟨rfl, hb7⟩
      go_wp2
      go_ret
      refine ⟨?_, below_call HB6.out hb7⟩
      unfold showB
      rw [HTX.out]
      rfl

  · have hT : wordT op = wordS op := by unfold wordT; rw [if_neg h0]
    have hwe2 : (wordS op).toList.isEmpty = false := by rw [hwe]; cases h : wordL op with
      | nil => exact absurd h h0
      | cons x t => rfl
    have HT := hide hT
    have HB2 := hide HB1.out
    clear hT hwe
    have hs0 := SH_keep hs1 (Below.refl _ _).drew
    go_wp2_with fail
    refine wp_region_held_drew (S := (fun u => Laid u ∧ B0 < u.heap.size ∧ u.cell? ⟨B0, 1, none⟩ = some (.int .i64 a) ∧ u.cell? ⟨B0, 2, none⟩ = some (.int .i64 b) ∧ u.cell? ⟨B0, 3, none⟩ = some (.int .i64 c) ∧ u.cell? ⟨B0, 4, none⟩ = some (.int .i64 n) ∧ u.cell? ⟨B0, 5, none⟩ = some (.string s))) (by kernel_rfl) hs0 (fun _ => ?_)
    refine wpAnyH_take (i := 0) (oi := { dst := some 15, op := Go.Op.move (Go.Operand.tmp 3), type := 9, pos := "program.go:69", after := #[], guard := none }) (v := ?_) rfl (by kernel_rfl) (by kernel_rfl) (by kernel_rfl) (fun _ _ _ h => h) (Or.inl ⟨by rfl, ?hy16⟩) hs0 ?_
    case hy16 =>
      intro u hu
      obtain ⟨u0, u1, u2, u3, u4, u5, u6⟩ := hu
      go_simp
      try with_reducible rfl
    simp only [Act.put, List.setIfInBounds_toArray, List.set_cons_zero, List.set_cons_succ]
    refine wpAnyH_take (i := 1) (oi := { dst := some 16, op := Go.Op.fieldAddr 28 (Go.Operand.tmp 1) 1, type := 0, pos := "program.go:69", after := #[], guard := none }) (v := ?_) rfl (by kernel_rfl) (by kernel_rfl) (by kernel_rfl) (fun _ _ _ h => h) (Or.inl ⟨by rfl, ?hy17⟩) hs0 ?_
    case hy17 =>
      intro u hu
      obtain ⟨u0, u1, u2, u3, u4, u5, u6⟩ := hu
      go_simp
      try with_reducible rfl
    simp only [Act.put, List.setIfInBounds_toArray, List.set_cons_zero, List.set_cons_succ]
    refine wpAnyH_take (i := 2) (oi := { dst := some 17, op := Go.Op.load 3 (Go.Operand.tmp 16), type := 3, pos := "program.go:69", after := #[{ on := 1, ground := Go.Ground.data }], guard := none }) (v := ?_) rfl (by kernel_rfl) (by kernel_rfl) (by kernel_rfl) (fun _ _ _ h => h) (Or.inl ⟨by rfl, ?hy18⟩) hs0 ?_
    case hy18 =>
      intro u hu
      obtain ⟨u0, u1, u2, u3, u4, u5, u6⟩ := hu
      go_simp
      try with_reducible rfl
    simp only [Act.put, List.setIfInBounds_toArray, List.set_cons_zero, List.set_cons_succ]
    refine wpAnyH_take (i := 4) (oi := { dst := some 19, op := Go.Op.fieldAddr 28 (Go.Operand.tmp 1) 2, type := 0, pos := "program.go:69", after := #[], guard := none }) (v := ?_) rfl (by kernel_rfl) (by kernel_rfl) (by kernel_rfl) (fun _ _ _ h => h) (Or.inl ⟨by rfl, ?hy19⟩) hs0 ?_
    case hy19 =>
      intro u hu
      obtain ⟨u0, u1, u2, u3, u4, u5, u6⟩ := hu
      go_simp
      try with_reducible rfl
    simp only [Act.put, List.setIfInBounds_toArray, List.set_cons_zero, List.set_cons_succ]
    refine wpAnyH_take (i := 5) (oi := { dst := some 20, op := Go.Op.load 3 (Go.Operand.tmp 19), type := 3, pos := "program.go:69", after := #[{ on := 4, ground := Go.Ground.data }], guard := none }) (v := ?_) rfl (by kernel_rfl) (by kernel_rfl) (by kernel_rfl) (fun _ _ _ h => h) (Or.inl ⟨by rfl, ?hy20⟩) hs0 ?_
    case hy20 =>
      intro u hu
      obtain ⟨u0, u1, u2, u3, u4, u5, u6⟩ := hu
      go_simp
      try with_reducible rfl
    simp only [Act.put, List.setIfInBounds_toArray, List.set_cons_zero, List.set_cons_succ]
    refine wpAnyH_take (i := 7) (oi := { dst := some 22, op := Go.Op.fieldAddr 28 (Go.Operand.tmp 1) 3, type := 0, pos := "program.go:69", after := #[], guard := none }) (v := ?_) rfl (by kernel_rfl) (by kernel_rfl) (by kernel_rfl) (fun _ _ _ h => h) (Or.inl ⟨by rfl, ?hy21⟩) hs0 ?_
    case hy21 =>
      intro u hu
      obtain ⟨u0, u1, u2, u3, u4, u5, u6⟩ := hu
      go_simp
      try with_reducible rfl
    simp only [Act.put, List.setIfInBounds_toArray, List.set_cons_zero, List.set_cons_succ]
    refine wpAnyH_take (i := 8) (oi := { dst := some 23, op := Go.Op.load 3 (Go.Operand.tmp 22), type := 3, pos := "program.go:69", after := #[{ on := 7, ground := Go.Ground.data }], guard := none }) (v := ?_) rfl (by kernel_rfl) (by kernel_rfl) (by kernel_rfl) (fun _ _ _ h => h) (Or.inl ⟨by rfl, ?hy22⟩) hs0 ?_
    case hy22 =>
      intro u hu
      obtain ⟨u0, u1, u2, u3, u4, u5, u6⟩ := hu
      go_simp
      try with_reducible rfl
    simp only [Act.put, List.setIfInBounds_toArray, List.set_cons_zero, List.set_cons_succ]
    refine wpAnyH_take (i := 10) (oi := { dst := some 25, op := Go.Op.fieldAddr 28 (Go.Operand.tmp 1) 4, type := 0, pos := "program.go:69", after := #[], guard := none }) (v := ?_) rfl (by kernel_rfl) (by kernel_rfl) (by kernel_rfl) (fun _ _ _ h => h) (Or.inl ⟨by rfl, ?hy23⟩) hs0 ?_
    case hy23 =>
      intro u hu
      obtain ⟨u0, u1, u2, u3, u4, u5, u6⟩ := hu
      go_simp
      try with_reducible rfl
    simp only [Act.put, List.setIfInBounds_toArray, List.set_cons_zero, List.set_cons_succ]
    refine wpAnyH_take (i := 11) (oi := { dst := some 26, op := Go.Op.load 2 (Go.Operand.tmp 25), type := 2, pos := "program.go:69", after := #[{ on := 10, ground := Go.Ground.data }], guard := none }) (v := ?_) rfl (by kernel_rfl) (by kernel_rfl) (by kernel_rfl) (fun _ _ _ h => h) (Or.inl ⟨by rfl, ?hy24⟩) hs0 ?_
    case hy24 =>
      intro u hu
      obtain ⟨u0, u1, u2, u3, u4, u5, u6⟩ := hu
      go_simp
      try with_reducible rfl
    simp only [Act.put, List.setIfInBounds_toArray, List.set_cons_zero, List.set_cons_succ]
    refine wpAnyH_ready (rs := [3]) (by kernel_rfl) (by simp) ?_
    refine AllReadyH.cons (o := { dst := some 18, op := Go.Op.call { callee := Go.Callee.value (Go.Operand.func 42), args := #[Go.Operand.tmp 17], argTypes := #[3] }, type := 9, pos := "program.go:69", after := #[{ on := 2, ground := Go.Ground.data }], guard := none }) rfl (fun K hK => ?_) AllReadyH.nil
    go_simp
    obtain ⟨q0, q1, q2, q3, q4, q5, q6⟩ := hs0
    (with_reducible refine Calls.mono (Tryd.strconv_Itoa a HRa.out.1 HRa.out.2 _ ?_) ?_)
    · exact (show Laid _ from q0).tab
    rintro e v3 ⟨rfl, x3⟩
    have y3 := below_grown x3
    have hs3 := SH_keep (show _ ∧ _ ∧ _ ∧ _ ∧ _ ∧ _ ∧ _ from ⟨q0, q1, q2, q3, q4, q5, q6⟩) y3
    clear q0 q1 q2 q3 q4 q5 q6 x3
    refine hK.out _ _ hs3 (fun _ => ?_)
    clear hK K
    try simp only [Act.put, List.setIfInBounds_toArray, List.set_cons_zero, List.set_cons_succ]
    refine wpAnyH_ready (rs := [6]) (by kernel_rfl) (by simp) ?_
    refine AllReadyH.cons (o := { dst := some 21, op := Go.Op.call { callee := Go.Callee.value (Go.Operand.func 42), args := #[Go.Operand.tmp 20], argTypes := #[3] }, type := 9, pos := "program.go:69", after := #[{ on := 5, ground := Go.Ground.data }, { on := 3, ground := Go.Ground.chain }], guard := none }) rfl (fun K hK => ?_) AllReadyH.nil
    go_simp
    obtain ⟨q0, q1, q2, q3, q4, q5, q6⟩ := hs3
    (with_reducible refine Calls.mono (Tryd.strconv_Itoa b HRb.out.1 HRb.out.2 _ ?_) ?_)
    · exact (show Laid _ from q0).tab
    rintro e v6 ⟨rfl, x6⟩
    have y6 := below_grown x6
    have hs6 := SH_keep (show _ ∧ _ ∧ _ ∧ _ ∧ _ ∧ _ ∧ _ from ⟨q0, q1, q2, q3, q4, q5, q6⟩) y6
    clear q0 q1 q2 q3 q4 q5 q6 x6
    refine hK.out _ _ hs6 (fun _ => ?_)
    clear hK K
    try simp only [Act.put, List.setIfInBounds_toArray, List.set_cons_zero, List.set_cons_succ]
    refine wpAnyH_ready (rs := [9]) (by kernel_rfl) (by simp) ?_
    refine AllReadyH.cons (o := { dst := some 24, op := Go.Op.call { callee := Go.Callee.value (Go.Operand.func 42), args := #[Go.Operand.tmp 23], argTypes := #[3] }, type := 9, pos := "program.go:69", after := #[{ on := 8, ground := Go.Ground.data }, { on := 6, ground := Go.Ground.chain }], guard := none }) rfl (fun K hK => ?_) AllReadyH.nil
    go_simp
    obtain ⟨q0, q1, q2, q3, q4, q5, q6⟩ := hs6
    (with_reducible refine Calls.mono (Tryd.strconv_Itoa c HRc.out.1 HRc.out.2 _ ?_) ?_)
    · exact (show Laid _ from q0).tab
    rintro e v9 ⟨rfl, x9⟩
    have y9 := below_grown x9
    have hs9 := SH_keep (show _ ∧ _ ∧ _ ∧ _ ∧ _ ∧ _ ∧ _ from ⟨q0, q1, q2, q3, q4, q5, q6⟩) y9
    clear q0 q1 q2 q3 q4 q5 q6 x9
    refine hK.out _ _ hs9 (fun _ => ?_)
    clear hK K
    try simp only [Act.put, List.setIfInBounds_toArray, List.set_cons_zero, List.set_cons_succ]
    refine wpAnyH_ready (rs := [12]) (by kernel_rfl) (by simp) ?_
    refine AllReadyH.cons (o := { dst := some 27, op := Go.Op.call { callee := Go.Callee.value (Go.Operand.func 43), args := #[Go.Operand.tmp 26, Go.Operand.const (Go.Value.int Go.IntKind.i64 10)], argTypes := #[2, 3] }, type := 9, pos := "program.go:69", after := #[{ on := 11, ground := Go.Ground.data }, { on := 9, ground := Go.Ground.chain }], guard := none }) rfl (fun K hK => ?_) AllReadyH.nil
    go_simp
    obtain ⟨q0, q1, q2, q3, q4, q5, q6⟩ := hs9
    (with_reducible refine Calls.mono (Tryd.strconv_FormatInt_10 n HRn.out.1 HRn.out.2 _ ?_) ?_)
    · exact (show Laid _ from q0).tab
    rintro e v12 ⟨rfl, x12⟩
    have y12 := below_grown x12
    have hs12 := SH_keep (show _ ∧ _ ∧ _ ∧ _ ∧ _ ∧ _ ∧ _ from ⟨q0, q1, q2, q3, q4, q5, q6⟩) y12
    clear q0 q1 q2 q3 q4 q5 q6 x12
    refine hK.out _ _ hs12 (fun _ => ?_)
    clear hK K
    try simp only [Act.put, List.setIfInBounds_toArray, List.set_cons_zero, List.set_cons_succ]
    refine wpAnyH_ready (rs := [13]) (by kernel_rfl) (by simp) ?_
    refine AllReadyH.cons (o := { dst := some 28, op := Go.Op.buildSlice 81 5 #[(0, Go.Operand.tmp 15), (1, Go.Operand.tmp 18), (2, Go.Operand.tmp 21), (3, Go.Operand.tmp 24), (4, Go.Operand.tmp 27)], type := 81, pos := "program.go:69", after := #[{ on := 0, ground := Go.Ground.data }, { on := 3, ground := Go.Ground.data }, { on := 6, ground := Go.Ground.data }, { on := 9, ground := Go.Ground.data }, { on := 12, ground := Go.Ground.data }], guard := none }) rfl (fun K hK => ?_) AllReadyH.nil
    go_simp
    have hs13 := SH_keep hs12 ((Below.refl _ _).alloc (Nat.le_refl v12.heap.size) (.cells #[.string (wordS op), .string ⟨(Lib.itoa a).toArray⟩, .string ⟨(Lib.itoa b).toArray⟩, .string ⟨(Lib.itoa c).toArray⟩, .string ⟨(Lib.itoa n).toArray⟩] 9))
    refine hK.out _ _ hs13 (fun _ => ?_)
    clear hK K
    try simp only [Act.put, List.setIfInBounds_toArray, List.set_cons_zero, List.set_cons_succ]
    refine wpAnyH_ready (rs := [14]) (by kernel_rfl) (by simp) ?_
    refine AllReadyH.cons (o := { dst := some 4, op := Go.Op.assign (Go.Operand.tmp 28), type := 81, pos := "program.go:69", after := #[{ on := 13, ground := Go.Ground.data }, { on := 12, ground := Go.Ground.chain }, { on := 0, ground := Go.Ground.phase }, { on := 1, ground := Go.Ground.phase }, { on := 2, ground := Go.Ground.phase }, { on := 3, ground := Go.Ground.phase }, { on := 4, ground := Go.Ground.phase }, { on := 5, ground := Go.Ground.phase }, { on := 6, ground := Go.Ground.phase }, { on := 7, ground := Go.Ground.phase }, { on := 8, ground := Go.Ground.phase }, { on := 9, ground := Go.Ground.phase }, { on := 10, ground := Go.Ground.phase }, { on := 11, ground := Go.Ground.phase }, { on := 12, ground := Go.Ground.phase }, { on := 13, ground := Go.Ground.phase }], guard := none }) rfl (fun K hK => ?_) AllReadyH.nil
    go_simp
    refine hK.out _ _ hs13 (fun _ => ?_)
    clear hK K
    try simp only [Act.put, List.setIfInBounds_toArray, List.set_cons_zero, List.set_cons_succ]
    refine wpAnyH_done (by kernel_rfl) ?_ _
    have HX := hide hs13.2.2.2.2.2.2
    have hb5 : Below w.heap.size w (v12.alloc (.cells #[.string (wordS op), .string ⟨(Lib.itoa a).toArray⟩, .string ⟨(Lib.itoa b).toArray⟩, .string ⟨(Lib.itoa c).toArray⟩, .string ⟨(Lib.itoa n).toArray⟩] 9)) := (below_call (below_call (below_call (below_call HB2.out.drew y3) y6) y9) y12).alloc (by
      have := (below_call (below_call (below_call (below_call HB2.out.drew y3) y6) y9) y12).size
      omega) _
    have ho5 : OwnV (v12.alloc (.cells #[.string (wordS op), .string ⟨(Lib.itoa a).toArray⟩, .string ⟨(Lib.itoa b).toArray⟩, .string ⟨(Lib.itoa c).toArray⟩, .string ⟨(Lib.itoa n).toArray⟩] 9)) v12.heap.size 9 (.slice (some ⟨v12.heap.size, 0, none⟩) 5 5) ([wordT op, ⟨(Lib.itoa a).toArray⟩, ⟨(Lib.itoa b).toArray⟩, ⟨(Lib.itoa c).toArray⟩, ⟨(Lib.itoa n).toArray⟩].map Value.string) := by
      rw [HT.out]
      exact own_new 9 [.string (wordS op), .string ⟨(Lib.itoa a).toArray⟩, .string ⟨(Lib.itoa b).toArray⟩, .string ⟨(Lib.itoa c).toArray⟩, .string ⟨(Lib.itoa n).toArray⟩] 5 rfl (by decide)
    have hz12 : w.heap.size ≤ v12.heap.size := (below_call (below_call (below_call (below_call HB2.out.drew y3) y6) y9) y12).size
    have x5 : (v12.alloc (.cells #[.string (wordS op), .string ⟨(Lib.itoa a).toArray⟩, .string ⟨(Lib.itoa b).toArray⟩, .string ⟨(Lib.itoa c).toArray⟩, .string ⟨(Lib.itoa n).toArray⟩] 9)).cell? ⟨B0, 5, none⟩ = some (.string s) := HX.out
    have HB5 := hide hb5
    have HO5 := hide ho5
    clear hs13 y3 y6 y9 y12 hb5 ho5
    obtain ⟨W5, HW5⟩ := named (v12.alloc (.cells #[.string (wordS op), .string ⟨(Lib.itoa a).toArray⟩, .string ⟨(Lib.itoa b).toArray⟩, .string ⟨(Lib.itoa c).toArray⟩, .string ⟨(Lib.itoa n).toArray⟩] 9))
    have hz5 : v12.heap.size < W5.heap.size := by rw [HW5.out]; simp
    rw [← HW5.out] at HB5 HO5 x5 ⊢
    by_cases hse : s = ⟨#[]⟩
    · have hsi : s.toList.isEmpty = true := by rw [hse, ByteArray.toList_eq]; rfl
      have HTX := hide (show txts ⟨op, a, b, c, n, s⟩ = [wordT op, ⟨(Lib.itoa a).toArray⟩, ⟨(Lib.itoa b).toArray⟩, ⟨(Lib.itoa c).toArray⟩, ⟨(Lib.itoa n).toArray⟩] by unfold txts; rw [if_pos hse]; rfl)
      go_wp2_with fail
      refine (Tryd.strings_Join v12.heap.size 0 5 [wordT op, ⟨(Lib.itoa a).toArray⟩, ⟨(Lib.itoa b).toArray⟩, ⟨(Lib.itoa c).toArray⟩, ⟨(Lib.itoa n).toArray⟩] ⟨#[32]⟩ W5 (fun j x hx => ?_) hz5 (by simp) (by simp) ?_).mono ?_
      · have h1 := HO5.out.rd
        obtain ⟨ao, cap, hv, -, -, -, h4⟩ := h1
        cases hv
        have hj : j < ([wordT op, ⟨(Lib.itoa a).toArray⟩, ⟨(Lib.itoa b).toArray⟩, ⟨(Lib.itoa c).toArray⟩, ⟨(Lib.itoa n).toArray⟩].map Value.string).length := by
          have := (List.getElem?_eq_some_iff.1 hx).1
          simpa using this
        have h5 := h4 _ rfl j hj
        rw [addr_add, Nat.zero_add] at h5
        rw [Nat.zero_add, h5]
        obtain ⟨hj2, rfl⟩ := List.getElem?_eq_some_iff.1 hx
        rw [List.getElem_map]
      · have h1 := join_le _ HTL.out (by rw [List.length_map]; exact HTC.out)
        rw [HTX.out] at h1
        exact h1
      rintro e w7 ⟨rfl, hb7⟩
      go_wp2
      go_ret
      refine ⟨?_, below_call HB5.out hb7⟩
      unfold showB
      rw [HTX.out]
      rfl
    · have hsi : s.toList.isEmpty = false := by
        rw [ByteArray.toList_eq]
        cases h : s.data.toList with
        | nil => exact absurd (ByteArray.ext (Array.toList_inj.1 (by rw [h]))) hse
        | cons x t => rfl
      have HTX := hide (show txts ⟨op, a, b, c, n, s⟩ = [wordT op, ⟨(Lib.itoa a).toArray⟩, ⟨(Lib.itoa b).toArray⟩, ⟨(Lib.itoa c).toArray⟩, ⟨(Lib.itoa n).toArray⟩] ++ [s] by unfold txts; rw [if_neg hse])
      obtain ⟨v', w', hr, ho6, hg6⟩ := run_append_v (P := Tryd.prog) (W5.alloc (.cells #[.string s] 9)) 81 81 9 _ (.string ⟨#[]⟩) 16 Tryd.underlying81 hi9 hz9 hs9' hb9 rfl (by decide) v12.heap.size _ (.string s) ⟨W5.heap.size, 0, none⟩ 1 _ rfl (by simp) (HO5.out.alloc _) (by simp) (by simp; omega)
      have hb6 : Below w.heap.size w w' := by
        have h1 : Below w.heap.size w (W5.alloc (.cells #[.string s] 9)) := HB5.out.alloc HB5.out.size _
        refine h1.grown hg6 h1.size (fun k hk => ?_)
        cases hk
        exact hz12
      have HB6 := hide hb6
      have HO6 := hide ho6
      have hlen6 : (([wordT op, ⟨(Lib.itoa a).toArray⟩, ⟨(Lib.itoa b).toArray⟩, ⟨(Lib.itoa c).toArray⟩, ⟨(Lib.itoa n).toArray⟩].map Value.string) ++ [Value.string s]).length = 6 := rfl
      obtain ⟨bb, off, cap, hv6, h61, h62, h63, h64⟩ := ho6.rd.cells (by rw [hlen6]; omega)
      rw [hlen6] at hv6 h61
      subst hv6
      have HC6 := hide h64
      clear hb6 ho6 hg6 h64
      go_wp2_with (at_builtin; go_must (refine Lib.wpList_append_run _ rfl _ _ _ _ rfl _ _ rfl rfl _ _ hr ?_))
      refine (Tryd.strings_Join bb off cap ([wordT op, ⟨(Lib.itoa a).toArray⟩, ⟨(Lib.itoa b).toArray⟩, ⟨(Lib.itoa c).toArray⟩, ⟨(Lib.itoa n).toArray⟩] ++ [s]) ⟨#[32]⟩ w' (fun j x hx => ?_) h63 (by simp) (by simpa using h61) ?_).mono ?_
      · have hj : j < (([wordT op, ⟨(Lib.itoa a).toArray⟩, ⟨(Lib.itoa b).toArray⟩, ⟨(Lib.itoa c).toArray⟩, ⟨(Lib.itoa n).toArray⟩].map Value.string) ++ [Value.string s]).length := by
          have := (List.getElem?_eq_some_iff.1 hx).1
          simpa using this
        rw [HC6.out j hj]
        obtain ⟨hj2, rfl⟩ := List.getElem?_eq_some_iff.1 hx
        congr 1
        have e : (([wordT op, ⟨(Lib.itoa a).toArray⟩, ⟨(Lib.itoa b).toArray⟩, ⟨(Lib.itoa c).toArray⟩, ⟨(Lib.itoa n).toArray⟩].map Value.string) ++ [Value.string s]) = ([wordT op, ⟨(Lib.itoa a).toArray⟩, ⟨(Lib.itoa b).toArray⟩, ⟨(Lib.itoa c).toArray⟩, ⟨(Lib.itoa n).toArray⟩] ++ [s]).map Value.string := by simp
        rw [List.getElem_of_eq e]
        rw [List.getElem_map]
      · have h1 := join_le _ HTL.out (by rw [List.length_map]; exact HTC.out)
        rw [HTX.out] at h1
        exact h1
      rintro e w7 ⟨rfl, hb7⟩
      go_wp2
      go_ret
      refine ⟨?_, below_call HB6.out hb7⟩
      unfold showB
      rw [HTX.out]
      rfl

end Go.Proofs.YtpiiehenmkinaaaDoor
