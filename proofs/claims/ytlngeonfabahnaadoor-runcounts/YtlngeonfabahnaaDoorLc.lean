/-
  awake: the chapter's examples come out as written. Own work.
-/
import Derived.Test.YtlngeonfabahnaaDoorLb
namespace Go.Proofs.YtlngeonfabahnaaDoor
open Go Go.RowKit
set_option linter.unusedSimpArgs false
set_option linter.unusedVariables false

theorem wf_small (i : Ins) (h : i.op < 256) (a : 0 ≤ i.a ∧ i.a < 1000) (b : 0 ≤ i.b ∧ i.b < 1000) (c : 0 ≤ i.c ∧ i.c < 1000) (n : IR i.n) (s : i.s.size ≤ 1000) : i.wf :=
  ⟨h, ⟨by omega, by omega⟩, ⟨by omega, by omega⟩, ⟨by omega, by omega⟩, n, by unfold maxLen; omega⟩
theorem ir0 : IR 0 := ⟨by omega, by omega⟩
theorem pay_wf : ∀ i ∈ payC, i.wf := fun i hi => by
  simp only [payC, List.mem_cons, List.not_mem_nil, or_false] at hi
  rcases hi with rfl | rfl | rfl <;> exact wf_small _ (by decide) (by decide) (by decide) (by decide) ir0 (by decide)
def jumpC : List Ins := [⟨8, 0, 0, 0, 0, ⟨#[]⟩⟩]
def jumpP : Prg := ⟨⟨#[112]⟩, 1, jumpC⟩
theorem jump_wf : ∀ i ∈ jumpC, i.wf := fun i hi => by
  simp only [jumpC, List.mem_cons, List.not_mem_nil, or_false] at hi
  rcases hi with rfl
  exact wf_small _ (by decide) (by decide) (by decide) (by decide) ir0 (by decide)
def payM : List Cm := [⟨1, 1, ⟨#[112, 97, 121]⟩, 5, 0⟩]
theorem RdN.nil (w : World) : RdN w (.slice none 0 0) [] := RdX.nil w 1
theorem RdK.nil (w : World) : RdK w (.slice none 0 0) [] := RdX.nil w 3
theorem run1_any (cv : Value) (w : World) (hk : Kinds w) (hc : RdC w cv payC) :
    Calls Tryd.prog 17 #[.agg #[.string ⟨#[112]⟩, .int .i64 3, cv], .int .i64 5, .slice none 0 0, .slice none 0 0, .int .i64 100] w fun e w' => ∃ ao cap, e = .returned (.tuple #[.agg #[.int .i64 2, .int .i64 0, .int .i64 0, .int .i64 1, .slice ao 1 cap, .int .i64 0, .int .i64 1], .int .i64 0]) ∧ RdM w' (.slice ao 1 cap) payM ∧ Below w.heap.size w w' := by
  refine (run_any payP cv 5 (.slice none 0 0) [] (.slice none 0 0) [] 100 w hk hc pay_wf (RdK.nil w) (by simp) (RdN.nil w) (by simp)).mono ?_
  rintro e w' ⟨vc, rfl, hm0, hb⟩
  have hm : RdM w' vc payM := hm0.rd
  obtain ⟨ao, cap, rfl, -⟩ := hm.shape
  exact ⟨ao, cap, rfl, hm, hb⟩
theorem run2_any (cv kv : Value) (w : World) (hk : Kinds w) (hc : RdC w cv payC) (hkv : RdK w kv [(1, (0, 7))]) :
    Calls Tryd.prog 17 #[.agg #[.string ⟨#[112]⟩, .int .i64 3, cv], .int .i64 5, kv, .slice none 0 0, .int .i64 100] w fun e w' => ∃ ao cap, e = .returned (.tuple #[.agg #[.int .i64 1, .int .i64 0, .int .i64 7, .int .i64 0, .slice ao 1 cap, .int .i64 0, .int .i64 3], .int .i64 0]) ∧ Below w.heap.size w w' := by
  refine (run_any payP cv 5 kv [(1, (0, 7))] (.slice none 0 0) [] 100 w hk hc pay_wf hkv (by simp) (RdN.nil w) (by simp)).mono ?_
  rintro e w' ⟨vc, rfl, hm0, hb⟩
  have hm : RdM w' vc payM := hm0.rd
  obtain ⟨ao, cap, rfl, -⟩ := hm.shape
  exact ⟨ao, cap, rfl, hb⟩
theorem run3_any (cv : Value) (w : World) (hk : Kinds w) (hc : RdC w cv jumpC) :
    Calls Tryd.prog 17 #[.agg #[.string ⟨#[112]⟩, .int .i64 1, cv], .int .i64 0, .slice none 0 0, .slice none 0 0, .int .i64 9] w fun e w' => ∃ ao cap, e = .returned (.tuple #[.agg #[.int .i64 4, .int .i64 0, .int .i64 0, .int .i64 0, .slice ao 0 cap, .int .i64 0, .int .i64 9], .int .i64 0]) ∧ Below w.heap.size w w' := by
  refine (run_any jumpP cv 0 (.slice none 0 0) [] (.slice none 0 0) [] 9 w hk hc jump_wf (RdK.nil w) (by simp) (RdN.nil w) (by simp)).mono ?_
  rintro e w' ⟨vc, rfl, hm0, hb⟩
  have hm : RdM w' vc [] := hm0.rd
  obtain ⟨ao, cap, rfl, -⟩ := hm.shape
  exact ⟨ao, cap, rfl, hb⟩
theorem RdM.alloc {w : World} {v : Value} {l : List Cm} (h : RdM w v l) (o : Obj) : RdM (w.alloc o) v l := RdX.alloc h o

set_option maxRecDepth 100000 in
set_option maxHeartbeats 3200000 in
theorem awake_true (w : World) (hk : Kinds w) : Calls Tryd.prog 11 #[] w fun e w' => e = .returned (.bool true) ∧ Below w.heap.size w w' := by
  have HK := hide hk
  clear hk
  have hp1 := pay_any w
  go_enter Tryd.func11, Tryd.ntmps11
  go_wp2_with fail
  (with_reducible refine Calls.mono hp1 ?_)
  rintro e w1 ⟨cv, rfl, hc1, hb1⟩
  obtain ⟨ao, cap, rfl, -⟩ := hc1.shape
  rw [show prgV payP (.slice ao payC.length cap) = .agg #[.string ⟨#[112]⟩, .int .i64 3, .slice ao 3 cap] from rfl]
  have hr1 := run1_any (.slice ao 3 cap) w1 (HK.out.below hb1) hc1
  have HB1 := hide hb1
  clear hp1 hc1 hb1
  go_wp2_with fail
  (with_reducible refine Calls.mono hr1 ?_)
  rintro e w2 ⟨mo, mc, rfl, hm2, hb2⟩
  have HM2 := hide hm2
  have HB2 := hide (below_call HB1.out hb2)
  obtain ⟨W2, HW2⟩ := named (w2.alloc (.cells #[.int .i64 2, .int .i64 0, .int .i64 0, .int .i64 1, .slice mo 1 mc, .int .i64 0, .int .i64 1] 35))
  have x2 : RC 7 W2 w2.heap.size (fun k => ([.int .i64 2, .int .i64 0, .int .i64 0, .int .i64 1, .slice mo 1 mc, .int .i64 0, .int .i64 1] : List Value).getD k undef) := by
    rw [HW2.out]
    refine RC.new w2 _ 35 _ (fun k hk => ?_)
    rcases (show k = 0 ∨ k = 1 ∨ k = 2 ∨ k = 3 ∨ k = 4 ∨ k = 5 ∨ k = 6 by omega) with rfl | rfl | rfl | rfl | rfl | rfl | rfl <;> rfl
  have HX2 := hide x2
  have HBW2 : Hid (Below w.heap.size w W2) := by
    show Below _ _ _
    rw [HW2.out]
    exact HB2.out.alloc HB2.out.size _
  have HMW2 : Hid (RdM W2 (.slice mo 1 mc) payM) := by
    show RdM _ _ _
    rw [HW2.out]
    exact hm2.alloc _
  have hp2 := pay_any W2
  clear hr1 hm2 hb2 x2
  go_wp2_with fail
  rw [← HW2.out]
  (with_reducible refine Calls.mono hp2 ?_)
  rintro e w3 ⟨cv, rfl, hc3, hb3⟩
  obtain ⟨ao, cap, rfl, -⟩ := hc3.shape
  rw [show prgV payP (.slice ao payC.length cap) = .agg #[.string ⟨#[112]⟩, .int .i64 3, .slice ao 3 cap] from rfl]
  obtain ⟨W3, HW3⟩ := named (w3.alloc (.cells #[.int .i64 1, .int .i64 0, .int .i64 7] 47))
  have hk3 : RdK W3 (.slice (some ⟨w3.heap.size, 0, none⟩) 1 1) [(1, (0, 7))] := by
    rw [HW3.out]
    exact RdX.lit w3 _ 3 1 _ 47 rfl rfl (full_kn _) (by unfold maxLen; omega)
  have hb23 : Below W2.heap.size W2 W3 := by rw [HW3.out]; exact hb3.alloc hb3.size _
  have hc3' : RdC W3 (.slice ao 3 cap) payC := by rw [HW3.out]; exact hc3.below ((Below.refl _ _).alloc (Nat.le_refl _) _)
  have HB3 := hide (below_call HBW2.out hb23)
  have hr2 := run2_any (.slice ao 3 cap) _ W3 (HK.out.below HB3.out) hc3' hk3
  have HX3 := hide (HX2.out.below hb23)
  have HM3 := hide (HMW2.out.below hb23)
  have hs2 : Hid (w2.heap.size < W2.heap.size) := by show _ < _; rw [HW2.out]; simp
  clear hp2 hc3 hb3 hk3 hc3' hb23
  go_wp2_with fail
  rw [← HW3.out]
  (with_reducible refine Calls.mono hr2 ?_)
  rintro e w4 ⟨no, nc, rfl, hb4⟩
  obtain ⟨W4, HW4⟩ := named (w4.alloc (.cells #[.int .i64 1, .int .i64 0, .int .i64 7, .int .i64 0, .slice no 1 nc, .int .i64 0, .int .i64 3] 35))
  have x4 : RC 7 W4 w4.heap.size (fun k => ([.int .i64 1, .int .i64 0, .int .i64 7, .int .i64 0, .slice no 1 nc, .int .i64 0, .int .i64 3] : List Value).getD k undef) := by
    rw [HW4.out]
    refine RC.new w4 _ 35 _ (fun k hk => ?_)
    rcases (show k = 0 ∨ k = 1 ∨ k = 2 ∨ k = 3 ∨ k = 4 ∨ k = 5 ∨ k = 6 by omega) with rfl | rfl | rfl | rfl | rfl | rfl | rfl <;> rfl
  have hb34 : Below W3.heap.size W3 W4 := by rw [HW4.out]; exact hb4.alloc hb4.size _
  have HB4 := hide (below_call HB3.out hb34)
  have HX4 := hide (HX3.out.below hb34)
  have HM4 := hide (HM3.out.below hb34)
  have HY4 := hide x4
  obtain ⟨W5, HW5⟩ := named (W4.alloc (.cells #[.int .u8 8, .int .i64 0, .int .i64 0, .int .i64 0, .int .i64 0, .string ⟨#[]⟩] 52))
  have hc5 : RdC W5 (.slice (some ⟨W4.heap.size, 0, none⟩) 1 1) jumpC := by
    rw [HW5.out]
    exact RdC.of (RdX.lit W4 _ 6 1 (jumpC.map insC) 52 rfl rfl (full_in _) (by unfold maxLen; omega))
  have hb45 : Below W4.heap.size W4 W5 := by rw [HW5.out]; exact (Below.refl _ _).alloc (Nat.le_refl _) _
  have HB5 := hide (below_call HB4.out hb45)
  have HX5 := hide (HX4.out.below hb45)
  have HM5 := hide (HM4.out.below hb45)
  have HY5 := hide (HY4.out.below hb45)
  have hr3 := run3_any (.slice (some ⟨W4.heap.size, 0, none⟩) 1 1) W5 (HK.out.below HB5.out) hc5
  have hz4 : W4.heap.size = w4.heap.size + 1 := by rw [HW4.out]; simp
  rw [hz4] at hr3
  clear hr2 hb4 x4 hb34 hc5 hb45 hz4
  go_wp2_with fail
  rw [← HW4.out, ← HW5.out]
  (with_reducible refine Calls.mono hr3 ?_)
  rintro e w6 ⟨ro, rc, rfl, hb6⟩
  have HB6 := hide (below_call HB5.out hb6)
  have x6 := HX5.out.below hb6
  have y6 := HY5.out.below hb6
  have m6 := HM5.out.below hb6
  obtain ⟨q, off, hq, hql, k0, k1, k2, k3, k4⟩ := RdM.at m6 0 (by decide)
  subst hq
  have n2 := x6.1
  have n4 := y6.1
  have a0 := x6.2.1 0 (by omega)
  have a2 := x6.2.1 2 (by omega)
  have a3 := x6.2.1 3 (by omega)
  have a4 := x6.2.1 4 (by omega)
  have a6 := x6.2.1 6 (by omega)
  have b0 := y6.2.1 0 (by omega)
  have b1 := y6.2.1 1 (by omega)
  have b2 := y6.2.1 2 (by omega)
  have b6 := y6.2.1 6 (by omega)
  simp only [Nat.zero_mul, Nat.add_zero] at k0 k1 k2 k3 k4
  replace k0 : w6.cell? ⟨q, off, none⟩ = some (.int .i64 1) := k0
  replace k1 : w6.cell? ⟨q, off + 1, none⟩ = some (.int .u8 1) := k1
  replace k2 : w6.cell? ⟨q, off + 2, none⟩ = some (.string ⟨#[112, 97, 121]⟩) := k2
  replace k3 : w6.cell? ⟨q, off + 3, none⟩ = some (.int .i64 5) := k3
  replace k4 : w6.cell? ⟨q, off + 4, none⟩ = some (.int .i64 0) := k4
  clear hr3 hb6 m6 x6 y6
  go_wp2
  go_ret
  exact ⟨rfl, HB6.out.alloc HB6.out.size _⟩
end Go.Proofs.YtlngeonfabahnaaDoor
