/-
  The walk of RunSigns. Own work.
-/
import Derived.Test.YtlngeonfabahnaaDoorLc
import Derived.Deep.QuietTactic
import Derived.BigQuiet
namespace Go.Proofs.YtlngeonfabahnaaDoor
open Go Go.RowKit
set_option linter.unusedSimpArgs false
set_option linter.unusedVariables false

theorem it_go (kn : Int → Option Oc) (sg : List Int) (code : List Ins) (k : Nat) (s : St) (h : s.at_ = 0) : it kn sg code (k + 1) s = it kn sg code k (step kn sg code s) := by rw [it, if_pos h]
/-- a program that makes one sign of two numbers -/
def sgnC (o : Nat) (b : Int) : List Ins := [⟨1, 1, 0, 0, b, ⟨#[]⟩⟩, ⟨o, 2, 0, 1, 0, ⟨#[]⟩⟩, ⟨15, 2, 0, 0, 0, ⟨#[]⟩⟩]
def sgnP (o : Nat) (b : Int) : Prg := ⟨⟨#[112]⟩, 3, sgnC o b⟩
theorem wf_c (op : Nat) (a b c n : Int) (s : ByteArray) (h : op < 256) (ha : 0 ≤ a ∧ a < 1000) (hb : 0 ≤ b ∧ b < 1000) (hc : 0 ≤ c ∧ c < 1000) (hn : IR n) (hs : s.size ≤ 1000) : (⟨op, a, b, c, n, s⟩ : Ins).wf :=
  wf_small _ h ha hb hc hn hs
theorem sgn_wf (o : Nat) (b : Int) (ho : o < 256) (hb : IR b) : ∀ i ∈ sgnC o b, i.wf := fun i hi => by
  simp only [sgnC, List.mem_cons, List.not_mem_nil, or_false] at hi
  rcases hi with rfl | rfl | rfl
  · exact wf_c 1 1 0 0 b ⟨#[]⟩ (by decide) (by decide) (by decide) (by decide) hb (by decide)
  · exact wf_c o 2 0 1 0 ⟨#[]⟩ ho (by decide) (by decide) (by decide) ir0 (by decide)
  · exact wf_c 15 2 0 0 0 ⟨#[]⟩ (by decide) (by decide) (by decide) (by decide) ir0 (by decide)
theorem sgn_run3 (a b : Int) : ∃ s, runR (sgnP 3 b) a [] [] 10 = (s, 0) ∧ s.at_ = 1 ∧ s.ost = 0 ∧ s.ova = signB 3 a b ∧ s.on = 0 ∧ s.cmds = [] ∧ s.sig = 0 ∧ s.steps = 3 := by
  have hok : okP (sgnP 3 b) 20 = true := by
    unfold okP sgnP sgnC
    simp [endsB, insB, fields, vals, fits, fit]
    decide
  obtain ⟨s1, H1⟩ : ∃ s1 : St, s1 = ⟨setR (setR (fun _ => 0) 0 a) 1 b, 1, 0, 0, 0, 0, [], 0, 1⟩ := ⟨_, rfl⟩
  obtain ⟨s2, H2⟩ : ∃ s2 : St, s2 = ⟨setR (setR (setR (fun _ => 0) 0 a) 1 b) 2 (signB 3 a b), 2, 0, 0, 0, 0, [], 0, 2⟩ := ⟨_, rfl⟩
  obtain ⟨s3, H3⟩ : ∃ s3 : St, s3 = ⟨setR (setR (setR (fun _ => 0) 0 a) 1 b) 2 (signB 3 a b), 3, 1, 0, signB 3 a b, 0, [], 0, 3⟩ := ⟨_, rfl⟩
  have e1 : step (knOf []) [] (sgnC 3 b) (st0 a) = s1 := by rw [H1]; rfl
  have e2 : step (knOf []) [] (sgnC 3 b) s1 = s2 := by rw [H1, H2]; rfl
  have e3 : step (knOf []) [] (sgnC 3 b) s2 = s3 := by rw [H2, H3]; rfl
  have e : runP (knOf []) [] (sgnC 3 b) a 10 = s3 := by
    unfold runP
    rw [it_go _ _ _ 9 (st0 a) rfl, e1, it_go _ _ _ 8 s1 (by rw [H1]), e2, it_go _ _ _ 7 s2 (by rw [H2]), e3, it_stood _ _ _ _ _ (by rw [H3]; exact Nat.one_ne_zero)]
    unfold fin
    rw [if_neg (by rw [H3]; exact Nat.one_ne_zero)]
  refine ⟨s3, ?_, by rw [H3], by rw [H3], by rw [H3], by rw [H3], by rw [H3], by rw [H3], by rw [H3]⟩
  unfold runR
  rw [if_pos hok, if_neg (by decide), ← e]
  rfl
theorem sgn_run4 (a b : Int) : ∃ s, runR (sgnP 4 b) a [] [] 10 = (s, 0) ∧ s.at_ = 1 ∧ s.ost = 0 ∧ s.ova = signB 4 a b ∧ s.on = 0 ∧ s.cmds = [] ∧ s.sig = 0 ∧ s.steps = 3 := by
  have hok : okP (sgnP 4 b) 20 = true := by
    unfold okP sgnP sgnC
    simp [endsB, insB, fields, vals, fits, fit]
    decide
  obtain ⟨s1, H1⟩ : ∃ s1 : St, s1 = ⟨setR (setR (fun _ => 0) 0 a) 1 b, 1, 0, 0, 0, 0, [], 0, 1⟩ := ⟨_, rfl⟩
  obtain ⟨s2, H2⟩ : ∃ s2 : St, s2 = ⟨setR (setR (setR (fun _ => 0) 0 a) 1 b) 2 (signB 4 a b), 2, 0, 0, 0, 0, [], 0, 2⟩ := ⟨_, rfl⟩
  obtain ⟨s3, H3⟩ : ∃ s3 : St, s3 = ⟨setR (setR (setR (fun _ => 0) 0 a) 1 b) 2 (signB 4 a b), 3, 1, 0, signB 4 a b, 0, [], 0, 3⟩ := ⟨_, rfl⟩
  have e1 : step (knOf []) [] (sgnC 4 b) (st0 a) = s1 := by rw [H1]; rfl
  have e2 : step (knOf []) [] (sgnC 4 b) s1 = s2 := by rw [H1, H2]; rfl
  have e3 : step (knOf []) [] (sgnC 4 b) s2 = s3 := by rw [H2, H3]; rfl
  have e : runP (knOf []) [] (sgnC 4 b) a 10 = s3 := by
    unfold runP
    rw [it_go _ _ _ 9 (st0 a) rfl, e1, it_go _ _ _ 8 s1 (by rw [H1]), e2, it_go _ _ _ 7 s2 (by rw [H2]), e3, it_stood _ _ _ _ _ (by rw [H3]; exact Nat.one_ne_zero)]
    unfold fin
    rw [if_neg (by rw [H3]; exact Nat.one_ne_zero)]
  refine ⟨s3, ?_, by rw [H3], by rw [H3], by rw [H3], by rw [H3], by rw [H3], by rw [H3], by rw [H3]⟩
  unfold runR
  rw [if_pos hok, if_neg (by decide), ← e]
  rfl
theorem sgn_run5 (a b : Int) : ∃ s, runR (sgnP 5 b) a [] [] 10 = (s, 0) ∧ s.at_ = 1 ∧ s.ost = 0 ∧ s.ova = signB 5 a b ∧ s.on = 0 ∧ s.cmds = [] ∧ s.sig = 0 ∧ s.steps = 3 := by
  have hok : okP (sgnP 5 b) 20 = true := by
    unfold okP sgnP sgnC
    simp [endsB, insB, fields, vals, fits, fit]
    decide
  obtain ⟨s1, H1⟩ : ∃ s1 : St, s1 = ⟨setR (setR (fun _ => 0) 0 a) 1 b, 1, 0, 0, 0, 0, [], 0, 1⟩ := ⟨_, rfl⟩
  obtain ⟨s2, H2⟩ : ∃ s2 : St, s2 = ⟨setR (setR (setR (fun _ => 0) 0 a) 1 b) 2 (signB 5 a b), 2, 0, 0, 0, 0, [], 0, 2⟩ := ⟨_, rfl⟩
  obtain ⟨s3, H3⟩ : ∃ s3 : St, s3 = ⟨setR (setR (setR (fun _ => 0) 0 a) 1 b) 2 (signB 5 a b), 3, 1, 0, signB 5 a b, 0, [], 0, 3⟩ := ⟨_, rfl⟩
  have e1 : step (knOf []) [] (sgnC 5 b) (st0 a) = s1 := by rw [H1]; rfl
  have e2 : step (knOf []) [] (sgnC 5 b) s1 = s2 := by rw [H1, H2]; rfl
  have e3 : step (knOf []) [] (sgnC 5 b) s2 = s3 := by rw [H2, H3]; rfl
  have e : runP (knOf []) [] (sgnC 5 b) a 10 = s3 := by
    unfold runP
    rw [it_go _ _ _ 9 (st0 a) rfl, e1, it_go _ _ _ 8 s1 (by rw [H1]), e2, it_go _ _ _ 7 s2 (by rw [H2]), e3, it_stood _ _ _ _ _ (by rw [H3]; exact Nat.one_ne_zero)]
    unfold fin
    rw [if_neg (by rw [H3]; exact Nat.one_ne_zero)]
  refine ⟨s3, ?_, by rw [H3], by rw [H3], by rw [H3], by rw [H3], by rw [H3], by rw [H3], by rw [H3]⟩
  unfold runR
  rw [if_pos hok, if_neg (by decide), ← e]
  rfl
theorem sgn_run6 (a b : Int) : ∃ s, runR (sgnP 6 b) a [] [] 10 = (s, 0) ∧ s.at_ = 1 ∧ s.ost = 0 ∧ s.ova = signB 6 a b ∧ s.on = 0 ∧ s.cmds = [] ∧ s.sig = 0 ∧ s.steps = 3 := by
  have hok : okP (sgnP 6 b) 20 = true := by
    unfold okP sgnP sgnC
    simp [endsB, insB, fields, vals, fits, fit]
    decide
  obtain ⟨s1, H1⟩ : ∃ s1 : St, s1 = ⟨setR (setR (fun _ => 0) 0 a) 1 b, 1, 0, 0, 0, 0, [], 0, 1⟩ := ⟨_, rfl⟩
  obtain ⟨s2, H2⟩ : ∃ s2 : St, s2 = ⟨setR (setR (setR (fun _ => 0) 0 a) 1 b) 2 (signB 6 a b), 2, 0, 0, 0, 0, [], 0, 2⟩ := ⟨_, rfl⟩
  obtain ⟨s3, H3⟩ : ∃ s3 : St, s3 = ⟨setR (setR (setR (fun _ => 0) 0 a) 1 b) 2 (signB 6 a b), 3, 1, 0, signB 6 a b, 0, [], 0, 3⟩ := ⟨_, rfl⟩
  have e1 : step (knOf []) [] (sgnC 6 b) (st0 a) = s1 := by rw [H1]; rfl
  have e2 : step (knOf []) [] (sgnC 6 b) s1 = s2 := by rw [H1, H2]; rfl
  have e3 : step (knOf []) [] (sgnC 6 b) s2 = s3 := by rw [H2, H3]; rfl
  have e : runP (knOf []) [] (sgnC 6 b) a 10 = s3 := by
    unfold runP
    rw [it_go _ _ _ 9 (st0 a) rfl, e1, it_go _ _ _ 8 s1 (by rw [H1]), e2, it_go _ _ _ 7 s2 (by rw [H2]), e3, it_stood _ _ _ _ _ (by rw [H3]; exact Nat.one_ne_zero)]
    unfold fin
    rw [if_neg (by rw [H3]; exact Nat.one_ne_zero)]
  refine ⟨s3, ?_, by rw [H3], by rw [H3], by rw [H3], by rw [H3], by rw [H3], by rw [H3], by rw [H3]⟩
  unfold runR
  rw [if_pos hok, if_neg (by decide), ← e]
  rfl
theorem sgn_run7 (a b : Int) : ∃ s, runR (sgnP 7 b) a [] [] 10 = (s, 0) ∧ s.at_ = 1 ∧ s.ost = 0 ∧ s.ova = signB 7 a b ∧ s.on = 0 ∧ s.cmds = [] ∧ s.sig = 0 ∧ s.steps = 3 := by
  have hok : okP (sgnP 7 b) 20 = true := by
    unfold okP sgnP sgnC
    simp [endsB, insB, fields, vals, fits, fit]
    decide
  obtain ⟨s1, H1⟩ : ∃ s1 : St, s1 = ⟨setR (setR (fun _ => 0) 0 a) 1 b, 1, 0, 0, 0, 0, [], 0, 1⟩ := ⟨_, rfl⟩
  obtain ⟨s2, H2⟩ : ∃ s2 : St, s2 = ⟨setR (setR (setR (fun _ => 0) 0 a) 1 b) 2 (signB 7 a b), 2, 0, 0, 0, 0, [], 0, 2⟩ := ⟨_, rfl⟩
  obtain ⟨s3, H3⟩ : ∃ s3 : St, s3 = ⟨setR (setR (setR (fun _ => 0) 0 a) 1 b) 2 (signB 7 a b), 3, 1, 0, signB 7 a b, 0, [], 0, 3⟩ := ⟨_, rfl⟩
  have e1 : step (knOf []) [] (sgnC 7 b) (st0 a) = s1 := by rw [H1]; rfl
  have e2 : step (knOf []) [] (sgnC 7 b) s1 = s2 := by rw [H1, H2]; rfl
  have e3 : step (knOf []) [] (sgnC 7 b) s2 = s3 := by rw [H2, H3]; rfl
  have e : runP (knOf []) [] (sgnC 7 b) a 10 = s3 := by
    unfold runP
    rw [it_go _ _ _ 9 (st0 a) rfl, e1, it_go _ _ _ 8 s1 (by rw [H1]), e2, it_go _ _ _ 7 s2 (by rw [H2]), e3, it_stood _ _ _ _ _ (by rw [H3]; exact Nat.one_ne_zero)]
    unfold fin
    rw [if_neg (by rw [H3]; exact Nat.one_ne_zero)]
  refine ⟨s3, ?_, by rw [H3], by rw [H3], by rw [H3], by rw [H3], by rw [H3], by rw [H3], by rw [H3]⟩
  unfold runR
  rw [if_pos hok, if_neg (by decide), ← e]
  rfl
theorem sgnRun_any (o : Nat) (ho : o < 256) (a b : Int) (hb : IR b) (cv : Value) (w : World) (hk : Kinds w) (hc : RdC w cv (sgnC o b))
    (hr : ∃ s, runR (sgnP o b) a [] [] 10 = (s, 0) ∧ s.at_ = 1 ∧ s.ost = 0 ∧ s.ova = signB o a b ∧ s.on = 0 ∧ s.cmds = [] ∧ s.sig = 0 ∧ s.steps = 3) :
    Calls Tryd.prog 17 #[.agg #[.string ⟨#[112]⟩, .int .i64 3, cv], .int .i64 a, .slice none 0 0, .slice none 0 0, .int .i64 10] w fun e w' => ∃ ao cap, e = .returned (.tuple #[.agg #[.int .i64 1, .int .i64 0, .int .i64 (signB o a b), .int .i64 0, .slice ao 0 cap, .int .i64 0, .int .i64 3], .int .i64 0]) ∧ Below w.heap.size w w' := by
  refine (run_any (sgnP o b) cv a (.slice none 0 0) [] (.slice none 0 0) [] 10 w hk hc (sgn_wf o b ho hb) (RdK.nil w) (by simp) (RdN.nil w) (by simp)).mono ?_
  rintro e w' ⟨vc, rfl, hm0, hbl⟩
  obtain ⟨s, e, h0, h1, h2, h3, h4, h5, h6⟩ := hr
  rw [e] at hm0 ⊢
  obtain ⟨ao, cap, hv, -⟩ := RdM.shape (l := s.cmds) hm0.rd
  rw [h4] at hv
  refine ⟨ao, cap, ?_, hbl⟩
  subst hv
  unfold stV
  simp only
  rw [h0, h1, h2, h3, h5, h6]
  rfl
theorem ops_0 (w : World) : (Instr.index 60 (.agg #[.int .u8 3, .int .u8 4, .int .u8 5, .int .u8 6, .int .u8 7]) (.int .i64 ((0 : Nat) : Int))).run Tryd.prog w = .ok (.int .u8 3) w := by kernel_rfl
theorem ops_1 (w : World) : (Instr.index 60 (.agg #[.int .u8 3, .int .u8 4, .int .u8 5, .int .u8 6, .int .u8 7]) (.int .i64 ((1 : Nat) : Int))).run Tryd.prog w = .ok (.int .u8 4) w := by kernel_rfl
theorem ops_2 (w : World) : (Instr.index 60 (.agg #[.int .u8 3, .int .u8 4, .int .u8 5, .int .u8 6, .int .u8 7]) (.int .i64 ((2 : Nat) : Int))).run Tryd.prog w = .ok (.int .u8 5) w := by kernel_rfl
theorem ops_3 (w : World) : (Instr.index 60 (.agg #[.int .u8 3, .int .u8 4, .int .u8 5, .int .u8 6, .int .u8 7]) (.int .i64 ((3 : Nat) : Int))).run Tryd.prog w = .ok (.int .u8 6) w := by kernel_rfl
theorem ops_4 (w : World) : (Instr.index 60 (.agg #[.int .u8 3, .int .u8 4, .int .u8 5, .int .u8 6, .int .u8 7]) (.int .i64 ((4 : Nat) : Int))).run Tryd.prog w = .ok (.int .u8 7) w := by kernel_rfl
theorem truth_any (z : Bool) (w : World) : Calls Tryd.prog 19 #[.bool z] w fun e w' => e = .returned (.int .i64 (one z)) ∧ w' = w := by
  cases z with
  | true =>
    go_enter Tryd.func19, Tryd.ntmps19
    go_wp2
    go_ret
    exact ⟨rfl, rfl⟩
  | false =>
    go_enter Tryd.func19, Tryd.ntmps19
    go_wp2
    go_ret
    exact ⟨rfl, rfl⟩

set_option maxRecDepth 100000 in
set_option maxHeartbeats 6400000 in
theorem signs_walk (w : World) (hk : Kinds w) (a b : Int) (ha : IR a) (hb : IR b) : Calls Tryd.prog 9 #[.int .i64 a, .int .i64 b] w fun e w' => e = .returned (.bool true) ∧ Below w.heap.size w w' := by
  have HK := hide hk
  have e3 : IntKind.i64.wrap (a + b) = signB 3 a b := rfl
  have e4 : IntKind.i64.wrap (a - b) = signB 4 a b := rfl
  have e5 : IntKind.i64.wrap (a * b) = signB 5 a b := rfl
  have e6 : Hid (one (decide (a < b)) = signB 6 a b) := rfl
  have e7 : Hid (one (a == b) = signB 7 a b) := rfl
  have hrn : ∀ o, 3 ≤ o → o < 8 → ∀ (cv : Value) (w : World), Kinds w → RdC w cv (sgnC o b) → Calls Tryd.prog 17 #[.agg #[.string ⟨#[112]⟩, .int .i64 3, cv], .int .i64 a, .slice none 0 0, .slice none 0 0, .int .i64 10] w fun e w' => ∃ ao cap, e = .returned (.tuple #[.agg #[.int .i64 1, .int .i64 0, .int .i64 (signB o a b), .int .i64 0, .slice ao 0 cap, .int .i64 0, .int .i64 3], .int .i64 0]) ∧ Below w.heap.size w w' := fun o h0 h1 cv w hk hc => by
    rcases (show o = 3 ∨ o = 4 ∨ o = 5 ∨ o = 6 ∨ o = 7 by omega) with rfl | rfl | rfl | rfl | rfl
    · exact sgnRun_any 3 (by omega) a b hb cv w hk hc (sgn_run3 a b)
    · exact sgnRun_any 4 (by omega) a b hb cv w hk hc (sgn_run4 a b)
    · exact sgnRun_any 5 (by omega) a b hb cv w hk hc (sgn_run5 a b)
    · exact sgnRun_any 6 (by omega) a b hb cv w hk hc (sgn_run6 a b)
    · exact sgnRun_any 7 (by omega) a b hb cv w hk hc (sgn_run7 a b)
  obtain ⟨y3, H3⟩ := named (signB 3 a b)
  obtain ⟨y4, H4⟩ := named (signB 4 a b)
  obtain ⟨y5, H5⟩ := named (signB 5 a b)
  obtain ⟨y6, H6⟩ := named (signB 6 a b)
  obtain ⟨y7, H7⟩ := named (signB 7 a b)
  have hsb : ∀ o, 3 ≤ o → o < 8 → signB o a b = [y3, y4, y5, y6, y7].getD (o - 3) 0 := fun o h0 h1 => by
    rcases (show o = 3 ∨ o = 4 ∨ o = 5 ∨ o = 6 ∨ o = 7 by omega) with rfl | rfl | rfl | rfl | rfl
    · exact H3.out.symm
    · exact H4.out.symm
    · exact H5.out.symm
    · exact H6.out.symm
    · exact H7.out.symm
  have HSB := hide hsb
  have HRN := hide hrn
  rw [← H3.out] at e3
  rw [← H4.out] at e4
  rw [← H5.out] at e5
  have E6 : Hid (one (decide (a < b)) = y6) := by show _ = _; rw [H6.out]; exact e6.out
  have E7 : Hid (one (a == b) = y7) := by show _ = _; rw [H7.out]; exact e7.out
  have t6 := fun w => truth_any (decide (a < b)) w
  have t7 := fun w => truth_any (a == b) w
  obtain ⟨pb, HPB⟩ := named w.heap.size
  obtain ⟨W1, HW1⟩ := named (w.alloc (.cells #[.int .i64 y3, .int .i64 y4, .int .i64 y5, .int .i64 y6, .int .i64 y7] 59))
  have xw : RC 5 W1 pb (fun k => ([.int .i64 y3, .int .i64 y4, .int .i64 y5, .int .i64 y6, .int .i64 y7] : List Value).getD k undef) := by
    rw [HW1.out, HPB.out]
    refine RC.new w _ 59 _ (fun k hk => ?_)
    rcases (show k = 0 ∨ k = 1 ∨ k = 2 ∨ k = 3 ∨ k = 4 by omega) with rfl | rfl | rfl | rfl | rfl <;> rfl
  have HX := hide xw
  have HB1 : Hid (Below w.heap.size w W1) := by show Below _ _ _; rw [HW1.out]; exact (Below.refl _ _).alloc (Nat.le_refl _) _
  have hlt1 : Hid (pb < W1.heap.size) := by show _ < _; rw [HW1.out, HPB.out]; simp
  clear hk e6 e7 hsb hrn xw
  go_enter Tryd.func9, Tryd.ntmps9
  go_wp2_with fail
  (with_reducible refine Calls.mono (t6 _) ?_)
  rintro e w1 ⟨rfl, hw1⟩
  have hw1 := hw1.symm
  subst hw1
  rw [E6.out]
  go_wp2_with fail
  (with_reducible refine Calls.mono (t7 _) ?_)
  rintro e w1 ⟨rfl, hw1⟩
  have hw1 := hw1.symm
  subst hw1
  rw [E7.out]
  go_wp2_with fail
  rw [← HW1.out, ← HPB.out]
  go_loopw [33] (fun i wr => ∃ k : Nat, k ≤ 5 ∧ i = .int .i64 k ∧ Hid (RC 5 wr pb (fun k => ([.int .i64 y3, .int .i64 y4, .int .i64 y5, .int .i64 y6, .int .i64 y7] : List Value).getD k undef)) ∧ Hid (Below w.heap.size w wr)) (fun i _ => 5 - (intOf i).toNat)
  case atStart => exact ⟨0, by omega, rfl, HX.out, HB1.out⟩
  case round =>
    obtain ⟨k, hk, rfl, HXr, HB⟩ := hrel
    by_cases hlt : k < 5
    · rcases (show k = 0 ∨ k = 1 ∨ k = 2 ∨ k = 3 ∨ k = 4 by omega) with hk0 | hk0 | hk0 | hk0 | hk0
      · have HRk := HSB.out 3 (by omega) (by omega)
        have hix : (Instr.index 60 (.agg #[.int .u8 3, .int .u8 4, .int .u8 5, .int .u8 6, .int .u8 7]) (.int .i64 (k : Int))).run Tryd.prog wr = .ok (.int .u8 3) wr := by rw [hk0]; exact ops_0 wr
        have HK0 := hide hk0
        have hltI : (k : Int) < 5 := by omega
        clear hk0
        obtain ⟨W2, HW2⟩ := named ((wr.alloc (.cells #[.int .u8 1, .int .i64 1, .int .i64 0, .int .i64 0, .int .i64 b, .string ⟨#[]⟩, .int .u8 3, .int .i64 2, .int .i64 0, .int .i64 1, .int .i64 0, .string ⟨#[]⟩, .int .u8 15, .int .i64 2, .int .i64 0, .int .i64 0, .int .i64 0, .string ⟨#[]⟩] 52)).alloc (.cells #[.string ⟨#[112]⟩, .int .i64 3, .slice (some ⟨wr.heap.size, 0, none⟩) 3 3] 24))
        have hc2 : RdC W2 (.slice (some ⟨wr.heap.size, 0, none⟩) 3 3) (sgnC 3 b) := by
          rw [HW2.out]
          exact (RdC.of (RdX.lit wr #[.int .u8 1, .int .i64 1, .int .i64 0, .int .i64 0, .int .i64 b, .string ⟨#[]⟩, .int .u8 3, .int .i64 2, .int .i64 0, .int .i64 1, .int .i64 0, .string ⟨#[]⟩, .int .u8 15, .int .i64 2, .int .i64 0, .int .i64 0, .int .i64 0, .string ⟨#[]⟩] 6 3 ((sgnC 3 b).map insC) 52 rfl rfl (full_in _) (by unfold maxLen; omega))).alloc _
        have hb2 : Below wr.heap.size wr W2 := by rw [HW2.out]; exact ((Below.refl _ _).alloc (Nat.le_refl _) _).alloc (by simp) _
        have HB2 := hide (below_call HB.out hb2)
        have hrun := HRN.out 3 (by omega) (by omega) _ W2 (HK.out.below HB2.out) hc2
        rw [HRk] at hrun
        have HRUN : Hid (Calls Tryd.prog 17 #[.agg #[.string ⟨#[112]⟩, .int .i64 3, .slice (some ⟨wr.heap.size, 0, none⟩) 3 3], .int .i64 a, .slice none 0 0, .slice none 0 0, .int .i64 10] W2 fun e w' => ∃ ao cap, e = .returned (.tuple #[.agg #[.int .i64 1, .int .i64 0, .int .i64 y3, .int .i64 0, .slice ao 0 cap, .int .i64 0, .int .i64 3], .int .i64 0]) ∧ Below W2.heap.size W2 w') := hrun
        have HXk := hide (HXr.out.below hb2)
        clear hrun hb2 hc2 HRk
        go_wp2_with fail
        rw [← HW2.out]
        (with_reducible refine Calls.mono HRUN.out ?_)
        rintro e w3 ⟨ao, cap, rfl, hb3⟩
        have HB3 := hide (below_call HB2.out hb3)
        have hx3 := HXk.out.below hb3
        obtain ⟨W4, HW4⟩ := named (w3.alloc (.cells #[.int .i64 1, .int .i64 0, .int .i64 y3, .int .i64 0, .slice ao 0 cap, .int .i64 0, .int .i64 3] 35))
        obtain ⟨rb, HRB⟩ := named w3.heap.size
        have xr4 : RC 7 W4 rb (fun k => ([.int .i64 1, .int .i64 0, .int .i64 y3, .int .i64 0, .slice ao 0 cap, .int .i64 0, .int .i64 3] : List Value).getD k undef) := by
          rw [HW4.out, HRB.out]
          refine RC.new w3 _ 35 _ (fun k hk => ?_)
          rcases (show k = 0 ∨ k = 1 ∨ k = 2 ∨ k = 3 ∨ k = 4 ∨ k = 5 ∨ k = 6 by omega) with rfl | rfl | rfl | rfl | rfl | rfl | rfl <;> rfl
        have hx4 : RC 5 W4 pb (fun k => ([.int .i64 y3, .int .i64 y4, .int .i64 y5, .int .i64 y6, .int .i64 y7] : List Value).getD k undef) := by rw [HW4.out]; exact hx3.alloc _
        have HX4 := hide hx4
        have HB4 : Hid (Below w.heap.size w W4) := by show Below _ _ _; rw [HW4.out]; exact HB3.out.alloc HB3.out.size _
        have v0 : W4.drew.cell? ⟨rb, 0, none⟩ = some (.int .i64 1) := xr4.2.1 0 (by omega)
        have v1 : W4.drew.cell? ⟨rb, 1, none⟩ = some (.int .i64 0) := xr4.2.1 1 (by omega)
        have v2 : W4.drew.cell? ⟨rb, 2, none⟩ = some (.int .i64 y3) := xr4.2.1 2 (by omega)
        have v6 : W4.drew.cell? ⟨rb, 6, none⟩ = some (.int .i64 3) := xr4.2.1 6 (by omega)
        have vw : W4.drew.cell? ⟨pb, k, none⟩ = some (.int .i64 y3) := by have := hx4.2.1 k (by omega); rw [HK0.out] at this ⊢; exact this
        have hs0 : W4.drew.cell? ⟨rb, 0, none⟩ = some (.int .i64 1) ∧ W4.drew.cell? ⟨rb, 1, none⟩ = some (.int .i64 0) ∧ W4.drew.cell? ⟨rb, 2, none⟩ = some (.int .i64 y3) ∧ W4.drew.cell? ⟨rb, 6, none⟩ = some (.int .i64 3) ∧ W4.drew.cell? ⟨pb, k, none⟩ = some (.int .i64 y3) := ⟨v0, v1, v2, v6, vw⟩
        clear hb3 hx3 xr4 hx4 v0 v1 v2 v6 vw
        go_wp2_with fail
        rw [← HW4.out, ← HRB.out]
        refine wp_region_held_drew (S := (fun w' => w'.cell? ⟨rb, 0, none⟩ = some (.int .i64 1) ∧ w'.cell? ⟨rb, 1, none⟩ = some (.int .i64 0) ∧ w'.cell? ⟨rb, 2, none⟩ = some (.int .i64 y3) ∧ w'.cell? ⟨rb, 6, none⟩ = some (.int .i64 3) ∧ w'.cell? ⟨pb, k, none⟩ = some (.int .i64 y3))) (by kernel_rfl) hs0 (fun _ => ?_)
        refine wpAnyH_take (i := 0) (oi := { dst := some 50, op := Go.Op.move (Go.Operand.tmp 11), type := 36, pos := "more.go:52", after := #[], guard := none }) (v := ?_) rfl (by kernel_rfl) (by kernel_rfl) (by kernel_rfl) (fun _ _ _ h => h) (Or.inl ⟨by rfl, ?hy1⟩) hs0 ?_
        case hy1 =>
          intro u hu
          obtain ⟨u0, u1, u2, u3, u4⟩ := hu
          go_simp
          try with_reducible rfl
        simp only [Act.put, List.setIfInBounds_toArray, List.set_cons_zero, List.set_cons_succ]
        refine wpAnyH_take (i := 1) (oi := { dst := some 51, op := Go.Op.binOp Go.BinOp.neq 36 (Go.Operand.tmp 50) (Go.Operand.const (Go.Value.int Go.IntKind.i64 0)) 36, type := 4, pos := "more.go:52", after := #[{ on := 0, ground := Go.Ground.data }], guard := none }) (v := ?_) rfl (by kernel_rfl) (by kernel_rfl) (by kernel_rfl) (fun _ _ _ h => h) (Or.inl ⟨by rfl, ?hy2⟩) hs0 ?_
        case hy2 =>
          intro u hu
          obtain ⟨u0, u1, u2, u3, u4⟩ := hu
          go_simp
          try with_reducible rfl
        simp only [Act.put, List.setIfInBounds_toArray, List.set_cons_zero, List.set_cons_succ]
        refine wpAnyH_take (i := 2) (oi := { dst := some 52, op := Go.Op.move (Go.Operand.tmp 51), type := 4, pos := "more.go:52", after := #[{ on := 1, ground := Go.Ground.data }], guard := none }) (v := ?_) rfl (by kernel_rfl) (by kernel_rfl) (by kernel_rfl) (fun _ _ _ h => h) (Or.inl ⟨by rfl, ?hy3⟩) hs0 ?_
        case hy3 =>
          intro u hu
          obtain ⟨u0, u1, u2, u3, u4⟩ := hu
          go_simp
          try with_reducible rfl
        simp only [Act.put, List.setIfInBounds_toArray, List.set_cons_zero, List.set_cons_succ]
        refine wpAnyH_take (i := 3) (oi := { dst := some 53, op := Go.Op.fieldAddr 35 (Go.Operand.tmp 10) 0, type := 0, pos := "more.go:52", after := #[{ on := 2, ground := Go.Ground.guard }], guard := some (2, false) }) (v := ?_) rfl (by kernel_rfl) (by kernel_rfl) (by kernel_rfl) (fun _ _ _ h => h) (Or.inl ⟨by rfl, ?hy4⟩) hs0 ?_
        case hy4 =>
          intro u hu
          obtain ⟨u0, u1, u2, u3, u4⟩ := hu
          go_simp
          try with_reducible rfl
        simp only [Act.put, List.setIfInBounds_toArray, List.set_cons_zero, List.set_cons_succ]
        refine wpAnyH_take (i := 4) (oi := { dst := some 54, op := Go.Op.load 3 (Go.Operand.tmp 53), type := 3, pos := "more.go:52", after := #[{ on := 3, ground := Go.Ground.data }, { on := 2, ground := Go.Ground.guard }], guard := some (2, false) }) (v := ?_) rfl (by kernel_rfl) (by kernel_rfl) (by kernel_rfl) (fun _ _ _ h => h) (Or.inl ⟨by rfl, ?hy5⟩) hs0 ?_
        case hy5 =>
          intro u hu
          obtain ⟨u0, u1, u2, u3, u4⟩ := hu
          go_simp
          try with_reducible rfl
        simp only [Act.put, List.setIfInBounds_toArray, List.set_cons_zero, List.set_cons_succ]
        refine wpAnyH_take (i := 5) (oi := { dst := some 55, op := Go.Op.binOp Go.BinOp.neq 3 (Go.Operand.tmp 54) (Go.Operand.const (Go.Value.int Go.IntKind.i64 1)) 3, type := 4, pos := "more.go:52", after := #[{ on := 4, ground := Go.Ground.data }, { on := 2, ground := Go.Ground.guard }], guard := some (2, false) }) (v := ?_) rfl (by kernel_rfl) (by kernel_rfl) (by kernel_rfl) (fun _ _ _ h => h) (Or.inl ⟨by rfl, ?hy6⟩) hs0 ?_
        case hy6 =>
          intro u hu
          obtain ⟨u0, u1, u2, u3, u4⟩ := hu
          go_simp
          try with_reducible rfl
        simp only [Act.put, List.setIfInBounds_toArray, List.set_cons_zero, List.set_cons_succ]
        refine wpAnyH_take (i := 6) (oi := { dst := some 56, op := Go.Op.pick (Go.Operand.tmp 52) (Go.Operand.const (Go.Value.bool true)) (Go.Operand.tmp 55), type := 4, pos := "more.go:52", after := #[{ on := 2, ground := Go.Ground.data }, { on := 5, ground := Go.Ground.data }], guard := none }) (v := ?_) rfl (by kernel_rfl) (by kernel_rfl) (by kernel_rfl) (fun _ _ _ h => h) (Or.inl ⟨by rfl, ?hy7⟩) hs0 ?_
        case hy7 =>
          intro u hu
          obtain ⟨u0, u1, u2, u3, u4⟩ := hu
          go_simp
          try with_reducible rfl
        simp only [Act.put, List.setIfInBounds_toArray, List.set_cons_zero, List.set_cons_succ]
        refine wpAnyH_take (i := 7) (oi := { dst := some 57, op := Go.Op.move (Go.Operand.tmp 56), type := 4, pos := "more.go:52", after := #[{ on := 6, ground := Go.Ground.data }, { on := 2, ground := Go.Ground.chain }], guard := none }) (v := ?_) rfl (by kernel_rfl) (by kernel_rfl) (by kernel_rfl) (fun _ _ _ h => h) (Or.inl ⟨by rfl, ?hy8⟩) hs0 ?_
        case hy8 =>
          intro u hu
          obtain ⟨u0, u1, u2, u3, u4⟩ := hu
          go_simp
          try with_reducible rfl
        simp only [Act.put, List.setIfInBounds_toArray, List.set_cons_zero, List.set_cons_succ]
        refine wpAnyH_take (i := 8) (oi := { dst := some 58, op := Go.Op.fieldAddr 35 (Go.Operand.tmp 10) 1, type := 0, pos := "more.go:52", after := #[{ on := 7, ground := Go.Ground.guard }], guard := some (7, false) }) (v := ?_) rfl (by kernel_rfl) (by kernel_rfl) (by kernel_rfl) (fun _ _ _ h => h) (Or.inl ⟨by rfl, ?hy9⟩) hs0 ?_
        case hy9 =>
          intro u hu
          obtain ⟨u0, u1, u2, u3, u4⟩ := hu
          go_simp
          try with_reducible rfl
        simp only [Act.put, List.setIfInBounds_toArray, List.set_cons_zero, List.set_cons_succ]
        refine wpAnyH_take (i := 9) (oi := { dst := some 59, op := Go.Op.load 32 (Go.Operand.tmp 58), type := 32, pos := "more.go:52", after := #[{ on := 8, ground := Go.Ground.data }, { on := 7, ground := Go.Ground.guard }], guard := some (7, false) }) (v := ?_) rfl (by kernel_rfl) (by kernel_rfl) (by kernel_rfl) (fun _ _ _ h => h) (Or.inl ⟨by rfl, ?hy10⟩) hs0 ?_
        case hy10 =>
          intro u hu
          obtain ⟨u0, u1, u2, u3, u4⟩ := hu
          go_simp
          try with_reducible rfl
        simp only [Act.put, List.setIfInBounds_toArray, List.set_cons_zero, List.set_cons_succ]
        refine wpAnyH_take (i := 10) (oi := { dst := some 60, op := Go.Op.move (Go.Operand.tmp 7), type := 3, pos := "more.go:52", after := #[{ on := 7, ground := Go.Ground.guard }], guard := some (7, false) }) (v := ?_) rfl (by kernel_rfl) (by kernel_rfl) (by kernel_rfl) (fun _ _ _ h => h) (Or.inl ⟨by rfl, ?hy11⟩) hs0 ?_
        case hy11 =>
          intro u hu
          obtain ⟨u0, u1, u2, u3, u4⟩ := hu
          go_simp
          try with_reducible rfl
        simp only [Act.put, List.setIfInBounds_toArray, List.set_cons_zero, List.set_cons_succ]
        refine wpAnyH_take (i := 11) (oi := { dst := some 61, op := Go.Op.indexAddr 59 (Go.Operand.tmp 6) (Go.Operand.tmp 60), type := 0, pos := "more.go:52", after := #[{ on := 10, ground := Go.Ground.data }, { on := 7, ground := Go.Ground.guard }], guard := some (7, false) }) (v := ?_) rfl (by kernel_rfl) (by kernel_rfl) (by kernel_rfl) (fun _ _ _ h => h) (Or.inl ⟨by rfl, ?hy12⟩) hs0 ?_
        case hy12 =>
          intro u hu
          obtain ⟨u0, u1, u2, u3, u4⟩ := hu
          go_simp
          try with_reducible rfl
        simp only [Act.put, List.setIfInBounds_toArray, List.set_cons_zero, List.set_cons_succ]
        refine wpAnyH_take (i := 12) (oi := { dst := some 62, op := Go.Op.load 2 (Go.Operand.tmp 61), type := 2, pos := "more.go:52", after := #[{ on := 11, ground := Go.Ground.data }, { on := 7, ground := Go.Ground.guard }], guard := some (7, false) }) (v := ?_) rfl (by kernel_rfl) (by kernel_rfl) (by kernel_rfl) (fun _ _ _ h => h) (Or.inl ⟨by rfl, ?hy13⟩) hs0 ?_
        case hy13 =>
          intro u hu
          obtain ⟨u0, u1, u2, u3, u4⟩ := hu
          go_simp
          try with_reducible rfl
        simp only [Act.put, List.setIfInBounds_toArray, List.set_cons_zero, List.set_cons_succ]
        refine wpAnyH_take (i := 13) (oi := { dst := some 63, op := Go.Op.build 32 #[(1, Go.Operand.tmp 62)], type := 32, pos := "more.go:52", after := #[{ on := 12, ground := Go.Ground.data }, { on := 7, ground := Go.Ground.guard }], guard := some (7, false) }) (v := ?_) rfl (by kernel_rfl) (by kernel_rfl) (by kernel_rfl) (fun _ _ _ h => h) (Or.inl ⟨by rfl, ?hy14⟩) hs0 ?_
        case hy14 =>
          intro u hu
          obtain ⟨u0, u1, u2, u3, u4⟩ := hu
          go_simp
          try with_reducible rfl
        simp only [Act.put, List.setIfInBounds_toArray, List.set_cons_zero, List.set_cons_succ]
        refine wpAnyH_take (i := 14) (oi := { dst := some 64, op := Go.Op.binOp Go.BinOp.neq 32 (Go.Operand.tmp 59) (Go.Operand.tmp 63) 32, type := 4, pos := "more.go:52", after := #[{ on := 9, ground := Go.Ground.data }, { on := 13, ground := Go.Ground.data }, { on := 7, ground := Go.Ground.guard }], guard := some (7, false) }) (v := ?_) rfl (by kernel_rfl) (by kernel_rfl) (by kernel_rfl) (fun _ _ _ h => h) (Or.inl ⟨by rfl, ?hy15⟩) hs0 ?_
        case hy15 =>
          intro u hu
          obtain ⟨u0, u1, u2, u3, u4⟩ := hu
          go_simp
          try with_reducible rfl
        simp only [Act.put, List.setIfInBounds_toArray, List.set_cons_zero, List.set_cons_succ]
        refine wpAnyH_take (i := 15) (oi := { dst := some 65, op := Go.Op.pick (Go.Operand.tmp 57) (Go.Operand.const (Go.Value.bool true)) (Go.Operand.tmp 64), type := 4, pos := "more.go:52", after := #[{ on := 7, ground := Go.Ground.data }, { on := 14, ground := Go.Ground.data }], guard := none }) (v := ?_) rfl (by kernel_rfl) (by kernel_rfl) (by kernel_rfl) (fun _ _ _ h => h) (Or.inl ⟨by rfl, ?hy16⟩) hs0 ?_
        case hy16 =>
          intro u hu
          obtain ⟨u0, u1, u2, u3, u4⟩ := hu
          go_simp
          try with_reducible rfl
        simp only [Act.put, List.setIfInBounds_toArray, List.set_cons_zero, List.set_cons_succ]
        refine wpAnyH_take (i := 16) (oi := { dst := some 66, op := Go.Op.move (Go.Operand.tmp 65), type := 4, pos := "more.go:52", after := #[{ on := 15, ground := Go.Ground.data }, { on := 7, ground := Go.Ground.chain }], guard := none }) (v := ?_) rfl (by kernel_rfl) (by kernel_rfl) (by kernel_rfl) (fun _ _ _ h => h) (Or.inl ⟨by rfl, ?hy17⟩) hs0 ?_
        case hy17 =>
          intro u hu
          obtain ⟨u0, u1, u2, u3, u4⟩ := hu
          go_simp
          try with_reducible rfl
        simp only [Act.put, List.setIfInBounds_toArray, List.set_cons_zero, List.set_cons_succ]
        refine wpAnyH_take (i := 17) (oi := { dst := some 67, op := Go.Op.fieldAddr 35 (Go.Operand.tmp 10) 5, type := 0, pos := "more.go:52", after := #[{ on := 16, ground := Go.Ground.guard }], guard := some (16, false) }) (v := ?_) rfl (by kernel_rfl) (by kernel_rfl) (by kernel_rfl) (fun _ _ _ h => h) (Or.inl ⟨by rfl, ?hy18⟩) hs0 ?_
        case hy18 =>
          intro u hu
          obtain ⟨u0, u1, u2, u3, u4⟩ := hu
          go_simp
          try with_reducible rfl
        simp only [Act.put, List.setIfInBounds_toArray, List.set_cons_zero, List.set_cons_succ]
        refine wpAnyH_take (i := 18) (oi := { dst := some 68, op := Go.Op.load 3 (Go.Operand.tmp 67), type := 3, pos := "more.go:52", after := #[{ on := 17, ground := Go.Ground.data }, { on := 16, ground := Go.Ground.guard }], guard := some (16, false) }) (v := ?_) rfl (by kernel_rfl) (by kernel_rfl) (by kernel_rfl) (fun _ _ _ h => h) (Or.inl ⟨by rfl, ?hy19⟩) hs0 ?_
        case hy19 =>
          intro u hu
          obtain ⟨u0, u1, u2, u3, u4⟩ := hu
          go_simp
          try with_reducible rfl
        simp only [Act.put, List.setIfInBounds_toArray, List.set_cons_zero, List.set_cons_succ]
        refine wpAnyH_take (i := 19) (oi := { dst := some 69, op := Go.Op.binOp Go.BinOp.neq 3 (Go.Operand.tmp 68) (Go.Operand.const (Go.Value.int Go.IntKind.i64 3)) 3, type := 4, pos := "more.go:52", after := #[{ on := 18, ground := Go.Ground.data }, { on := 16, ground := Go.Ground.guard }], guard := some (16, false) }) (v := ?_) rfl (by kernel_rfl) (by kernel_rfl) (by kernel_rfl) (fun _ _ _ h => h) (Or.inl ⟨by rfl, ?hy20⟩) hs0 ?_
        case hy20 =>
          intro u hu
          obtain ⟨u0, u1, u2, u3, u4⟩ := hu
          go_simp
          try with_reducible rfl
        simp only [Act.put, List.setIfInBounds_toArray, List.set_cons_zero, List.set_cons_succ]
        refine wpAnyH_take (i := 20) (oi := { dst := some 70, op := Go.Op.pick (Go.Operand.tmp 66) (Go.Operand.const (Go.Value.bool true)) (Go.Operand.tmp 69), type := 4, pos := "more.go:52", after := #[{ on := 16, ground := Go.Ground.data }, { on := 19, ground := Go.Ground.data }], guard := none }) (v := ?_) rfl (by kernel_rfl) (by kernel_rfl) (by kernel_rfl) (fun _ _ _ h => h) (Or.inl ⟨by rfl, ?hy21⟩) hs0 ?_
        case hy21 =>
          intro u hu
          obtain ⟨u0, u1, u2, u3, u4⟩ := hu
          go_simp
          try with_reducible rfl
        simp only [Act.put, List.setIfInBounds_toArray, List.set_cons_zero, List.set_cons_succ]
        refine wpAnyH_done (by kernel_rfl) ?_ _
        go_wp2_with fail
        go_roundw
        case rel => exact ⟨k + 1, hlt, by go_num, HX4.out, HB4.out.drew⟩
        case measure => simp [intOf]; omega
      · have HRk := HSB.out 4 (by omega) (by omega)
        have hix : (Instr.index 60 (.agg #[.int .u8 3, .int .u8 4, .int .u8 5, .int .u8 6, .int .u8 7]) (.int .i64 (k : Int))).run Tryd.prog wr = .ok (.int .u8 4) wr := by rw [hk0]; exact ops_1 wr
        have HK0 := hide hk0
        have hltI : (k : Int) < 5 := by omega
        clear hk0
        obtain ⟨W2, HW2⟩ := named ((wr.alloc (.cells #[.int .u8 1, .int .i64 1, .int .i64 0, .int .i64 0, .int .i64 b, .string ⟨#[]⟩, .int .u8 4, .int .i64 2, .int .i64 0, .int .i64 1, .int .i64 0, .string ⟨#[]⟩, .int .u8 15, .int .i64 2, .int .i64 0, .int .i64 0, .int .i64 0, .string ⟨#[]⟩] 52)).alloc (.cells #[.string ⟨#[112]⟩, .int .i64 3, .slice (some ⟨wr.heap.size, 0, none⟩) 3 3] 24))
        have hc2 : RdC W2 (.slice (some ⟨wr.heap.size, 0, none⟩) 3 3) (sgnC 4 b) := by
          rw [HW2.out]
          exact (RdC.of (RdX.lit wr #[.int .u8 1, .int .i64 1, .int .i64 0, .int .i64 0, .int .i64 b, .string ⟨#[]⟩, .int .u8 4, .int .i64 2, .int .i64 0, .int .i64 1, .int .i64 0, .string ⟨#[]⟩, .int .u8 15, .int .i64 2, .int .i64 0, .int .i64 0, .int .i64 0, .string ⟨#[]⟩] 6 3 ((sgnC 4 b).map insC) 52 rfl rfl (full_in _) (by unfold maxLen; omega))).alloc _
        have hb2 : Below wr.heap.size wr W2 := by rw [HW2.out]; exact ((Below.refl _ _).alloc (Nat.le_refl _) _).alloc (by simp) _
        have HB2 := hide (below_call HB.out hb2)
        have hrun := HRN.out 4 (by omega) (by omega) _ W2 (HK.out.below HB2.out) hc2
        rw [HRk] at hrun
        have HRUN : Hid (Calls Tryd.prog 17 #[.agg #[.string ⟨#[112]⟩, .int .i64 3, .slice (some ⟨wr.heap.size, 0, none⟩) 3 3], .int .i64 a, .slice none 0 0, .slice none 0 0, .int .i64 10] W2 fun e w' => ∃ ao cap, e = .returned (.tuple #[.agg #[.int .i64 1, .int .i64 0, .int .i64 y4, .int .i64 0, .slice ao 0 cap, .int .i64 0, .int .i64 3], .int .i64 0]) ∧ Below W2.heap.size W2 w') := hrun
        have HXk := hide (HXr.out.below hb2)
        clear hrun hb2 hc2 HRk
        go_wp2_with fail
        rw [← HW2.out]
        (with_reducible refine Calls.mono HRUN.out ?_)
        rintro e w3 ⟨ao, cap, rfl, hb3⟩
        have HB3 := hide (below_call HB2.out hb3)
        have hx3 := HXk.out.below hb3
        obtain ⟨W4, HW4⟩ := named (w3.alloc (.cells #[.int .i64 1, .int .i64 0, .int .i64 y4, .int .i64 0, .slice ao 0 cap, .int .i64 0, .int .i64 3] 35))
        obtain ⟨rb, HRB⟩ := named w3.heap.size
        have xr4 : RC 7 W4 rb (fun k => ([.int .i64 1, .int .i64 0, .int .i64 y4, .int .i64 0, .slice ao 0 cap, .int .i64 0, .int .i64 3] : List Value).getD k undef) := by
          rw [HW4.out, HRB.out]
          refine RC.new w3 _ 35 _ (fun k hk => ?_)
          rcases (show k = 0 ∨ k = 1 ∨ k = 2 ∨ k = 3 ∨ k = 4 ∨ k = 5 ∨ k = 6 by omega) with rfl | rfl | rfl | rfl | rfl | rfl | rfl <;> rfl
        have hx4 : RC 5 W4 pb (fun k => ([.int .i64 y3, .int .i64 y4, .int .i64 y5, .int .i64 y6, .int .i64 y7] : List Value).getD k undef) := by rw [HW4.out]; exact hx3.alloc _
        have HX4 := hide hx4
        have HB4 : Hid (Below w.heap.size w W4) := by show Below _ _ _; rw [HW4.out]; exact HB3.out.alloc HB3.out.size _
        have v0 : W4.drew.cell? ⟨rb, 0, none⟩ = some (.int .i64 1) := xr4.2.1 0 (by omega)
        have v1 : W4.drew.cell? ⟨rb, 1, none⟩ = some (.int .i64 0) := xr4.2.1 1 (by omega)
        have v2 : W4.drew.cell? ⟨rb, 2, none⟩ = some (.int .i64 y4) := xr4.2.1 2 (by omega)
        have v6 : W4.drew.cell? ⟨rb, 6, none⟩ = some (.int .i64 3) := xr4.2.1 6 (by omega)
        have vw : W4.drew.cell? ⟨pb, k, none⟩ = some (.int .i64 y4) := by have := hx4.2.1 k (by omega); rw [HK0.out] at this ⊢; exact this
        have hs0 : W4.drew.cell? ⟨rb, 0, none⟩ = some (.int .i64 1) ∧ W4.drew.cell? ⟨rb, 1, none⟩ = some (.int .i64 0) ∧ W4.drew.cell? ⟨rb, 2, none⟩ = some (.int .i64 y4) ∧ W4.drew.cell? ⟨rb, 6, none⟩ = some (.int .i64 3) ∧ W4.drew.cell? ⟨pb, k, none⟩ = some (.int .i64 y4) := ⟨v0, v1, v2, v6, vw⟩
        clear hb3 hx3 xr4 hx4 v0 v1 v2 v6 vw
        go_wp2_with fail
        rw [← HW4.out, ← HRB.out]
        refine wp_region_held_drew (S := (fun w' => w'.cell? ⟨rb, 0, none⟩ = some (.int .i64 1) ∧ w'.cell? ⟨rb, 1, none⟩ = some (.int .i64 0) ∧ w'.cell? ⟨rb, 2, none⟩ = some (.int .i64 y4) ∧ w'.cell? ⟨rb, 6, none⟩ = some (.int .i64 3) ∧ w'.cell? ⟨pb, k, none⟩ = some (.int .i64 y4))) (by kernel_rfl) hs0 (fun _ => ?_)
        refine wpAnyH_take (i := 0) (oi := { dst := some 50, op := Go.Op.move (Go.Operand.tmp 11), type := 36, pos := "more.go:52", after := #[], guard := none }) (v := ?_) rfl (by kernel_rfl) (by kernel_rfl) (by kernel_rfl) (fun _ _ _ h => h) (Or.inl ⟨by rfl, ?hy22⟩) hs0 ?_
        case hy22 =>
          intro u hu
          obtain ⟨u0, u1, u2, u3, u4⟩ := hu
          go_simp
          try with_reducible rfl
        simp only [Act.put, List.setIfInBounds_toArray, List.set_cons_zero, List.set_cons_succ]
        refine wpAnyH_take (i := 1) (oi := { dst := some 51, op := Go.Op.binOp Go.BinOp.neq 36 (Go.Operand.tmp 50) (Go.Operand.const (Go.Value.int Go.IntKind.i64 0)) 36, type := 4, pos := "more.go:52", after := #[{ on := 0, ground := Go.Ground.data }], guard := none }) (v := ?_) rfl (by kernel_rfl) (by kernel_rfl) (by kernel_rfl) (fun _ _ _ h => h) (Or.inl ⟨by rfl, ?hy23⟩) hs0 ?_
        case hy23 =>
          intro u hu
          obtain ⟨u0, u1, u2, u3, u4⟩ := hu
          go_simp
          try with_reducible rfl
        simp only [Act.put, List.setIfInBounds_toArray, List.set_cons_zero, List.set_cons_succ]
        refine wpAnyH_take (i := 2) (oi := { dst := some 52, op := Go.Op.move (Go.Operand.tmp 51), type := 4, pos := "more.go:52", after := #[{ on := 1, ground := Go.Ground.data }], guard := none }) (v := ?_) rfl (by kernel_rfl) (by kernel_rfl) (by kernel_rfl) (fun _ _ _ h => h) (Or.inl ⟨by rfl, ?hy24⟩) hs0 ?_
        case hy24 =>
          intro u hu
          obtain ⟨u0, u1, u2, u3, u4⟩ := hu
          go_simp
          try with_reducible rfl
        simp only [Act.put, List.setIfInBounds_toArray, List.set_cons_zero, List.set_cons_succ]
        refine wpAnyH_take (i := 3) (oi := { dst := some 53, op := Go.Op.fieldAddr 35 (Go.Operand.tmp 10) 0, type := 0, pos := "more.go:52", after := #[{ on := 2, ground := Go.Ground.guard }], guard := some (2, false) }) (v := ?_) rfl (by kernel_rfl) (by kernel_rfl) (by kernel_rfl) (fun _ _ _ h => h) (Or.inl ⟨by rfl, ?hy25⟩) hs0 ?_
        case hy25 =>
          intro u hu
          obtain ⟨u0, u1, u2, u3, u4⟩ := hu
          go_simp
          try with_reducible rfl
        simp only [Act.put, List.setIfInBounds_toArray, List.set_cons_zero, List.set_cons_succ]
        refine wpAnyH_take (i := 4) (oi := { dst := some 54, op := Go.Op.load 3 (Go.Operand.tmp 53), type := 3, pos := "more.go:52", after := #[{ on := 3, ground := Go.Ground.data }, { on := 2, ground := Go.Ground.guard }], guard := some (2, false) }) (v := ?_) rfl (by kernel_rfl) (by kernel_rfl) (by kernel_rfl) (fun _ _ _ h => h) (Or.inl ⟨by rfl, ?hy26⟩) hs0 ?_
        case hy26 =>
          intro u hu
          obtain ⟨u0, u1, u2, u3, u4⟩ := hu
          go_simp
          try with_reducible rfl
        simp only [Act.put, List.setIfInBounds_toArray, List.set_cons_zero, List.set_cons_succ]
        refine wpAnyH_take (i := 5) (oi := { dst := some 55, op := Go.Op.binOp Go.BinOp.neq 3 (Go.Operand.tmp 54) (Go.Operand.const (Go.Value.int Go.IntKind.i64 1)) 3, type := 4, pos := "more.go:52", after := #[{ on := 4, ground := Go.Ground.data }, { on := 2, ground := Go.Ground.guard }], guard := some (2, false) }) (v := ?_) rfl (by kernel_rfl) (by kernel_rfl) (by kernel_rfl) (fun _ _ _ h => h) (Or.inl ⟨by rfl, ?hy27⟩) hs0 ?_
        case hy27 =>
          intro u hu
          obtain ⟨u0, u1, u2, u3, u4⟩ := hu
          go_simp
          try with_reducible rfl
        simp only [Act.put, List.setIfInBounds_toArray, List.set_cons_zero, List.set_cons_succ]
        refine wpAnyH_take (i := 6) (oi := { dst := some 56, op := Go.Op.pick (Go.Operand.tmp 52) (Go.Operand.const (Go.Value.bool true)) (Go.Operand.tmp 55), type := 4, pos := "more.go:52", after := #[{ on := 2, ground := Go.Ground.data }, { on := 5, ground := Go.Ground.data }], guard := none }) (v := ?_) rfl (by kernel_rfl) (by kernel_rfl) (by kernel_rfl) (fun _ _ _ h => h) (Or.inl ⟨by rfl, ?hy28⟩) hs0 ?_
        case hy28 =>
          intro u hu
          obtain ⟨u0, u1, u2, u3, u4⟩ := hu
          go_simp
          try with_reducible rfl
        simp only [Act.put, List.setIfInBounds_toArray, List.set_cons_zero, List.set_cons_succ]
        refine wpAnyH_take (i := 7) (oi := { dst := some 57, op := Go.Op.move (Go.Operand.tmp 56), type := 4, pos := "more.go:52", after := #[{ on := 6, ground := Go.Ground.data }, { on := 2, ground := Go.Ground.chain }], guard := none }) (v := ?_) rfl (by kernel_rfl) (by kernel_rfl) (by kernel_rfl) (fun _ _ _ h => h) (Or.inl ⟨by rfl, ?hy29⟩) hs0 ?_
        case hy29 =>
          intro u hu
          obtain ⟨u0, u1, u2, u3, u4⟩ := hu
          go_simp
          try with_reducible rfl
        simp only [Act.put, List.setIfInBounds_toArray, List.set_cons_zero, List.set_cons_succ]
        refine wpAnyH_take (i := 8) (oi := { dst := some 58, op := Go.Op.fieldAddr 35 (Go.Operand.tmp 10) 1, type := 0, pos := "more.go:52", after := #[{ on := 7, ground := Go.Ground.guard }], guard := some (7, false) }) (v := ?_) rfl (by kernel_rfl) (by kernel_rfl) (by kernel_rfl) (fun _ _ _ h => h) (Or.inl ⟨by rfl, ?hy30⟩) hs0 ?_
        case hy30 =>
          intro u hu
          obtain ⟨u0, u1, u2, u3, u4⟩ := hu
          go_simp
          try with_reducible rfl
        simp only [Act.put, List.setIfInBounds_toArray, List.set_cons_zero, List.set_cons_succ]
        refine wpAnyH_take (i := 9) (oi := { dst := some 59, op := Go.Op.load 32 (Go.Operand.tmp 58), type := 32, pos := "more.go:52", after := #[{ on := 8, ground := Go.Ground.data }, { on := 7, ground := Go.Ground.guard }], guard := some (7, false) }) (v := ?_) rfl (by kernel_rfl) (by kernel_rfl) (by kernel_rfl) (fun _ _ _ h => h) (Or.inl ⟨by rfl, ?hy31⟩) hs0 ?_
        case hy31 =>
          intro u hu
          obtain ⟨u0, u1, u2, u3, u4⟩ := hu
          go_simp
          try with_reducible rfl
        simp only [Act.put, List.setIfInBounds_toArray, List.set_cons_zero, List.set_cons_succ]
        refine wpAnyH_take (i := 10) (oi := { dst := some 60, op := Go.Op.move (Go.Operand.tmp 7), type := 3, pos := "more.go:52", after := #[{ on := 7, ground := Go.Ground.guard }], guard := some (7, false) }) (v := ?_) rfl (by kernel_rfl) (by kernel_rfl) (by kernel_rfl) (fun _ _ _ h => h) (Or.inl ⟨by rfl, ?hy32⟩) hs0 ?_
        case hy32 =>
          intro u hu
          obtain ⟨u0, u1, u2, u3, u4⟩ := hu
          go_simp
          try with_reducible rfl
        simp only [Act.put, List.setIfInBounds_toArray, List.set_cons_zero, List.set_cons_succ]
        refine wpAnyH_take (i := 11) (oi := { dst := some 61, op := Go.Op.indexAddr 59 (Go.Operand.tmp 6) (Go.Operand.tmp 60), type := 0, pos := "more.go:52", after := #[{ on := 10, ground := Go.Ground.data }, { on := 7, ground := Go.Ground.guard }], guard := some (7, false) }) (v := ?_) rfl (by kernel_rfl) (by kernel_rfl) (by kernel_rfl) (fun _ _ _ h => h) (Or.inl ⟨by rfl, ?hy33⟩) hs0 ?_
        case hy33 =>
          intro u hu
          obtain ⟨u0, u1, u2, u3, u4⟩ := hu
          go_simp
          try with_reducible rfl
        simp only [Act.put, List.setIfInBounds_toArray, List.set_cons_zero, List.set_cons_succ]
        refine wpAnyH_take (i := 12) (oi := { dst := some 62, op := Go.Op.load 2 (Go.Operand.tmp 61), type := 2, pos := "more.go:52", after := #[{ on := 11, ground := Go.Ground.data }, { on := 7, ground := Go.Ground.guard }], guard := some (7, false) }) (v := ?_) rfl (by kernel_rfl) (by kernel_rfl) (by kernel_rfl) (fun _ _ _ h => h) (Or.inl ⟨by rfl, ?hy34⟩) hs0 ?_
        case hy34 =>
          intro u hu
          obtain ⟨u0, u1, u2, u3, u4⟩ := hu
          go_simp
          try with_reducible rfl
        simp only [Act.put, List.setIfInBounds_toArray, List.set_cons_zero, List.set_cons_succ]
        refine wpAnyH_take (i := 13) (oi := { dst := some 63, op := Go.Op.build 32 #[(1, Go.Operand.tmp 62)], type := 32, pos := "more.go:52", after := #[{ on := 12, ground := Go.Ground.data }, { on := 7, ground := Go.Ground.guard }], guard := some (7, false) }) (v := ?_) rfl (by kernel_rfl) (by kernel_rfl) (by kernel_rfl) (fun _ _ _ h => h) (Or.inl ⟨by rfl, ?hy35⟩) hs0 ?_
        case hy35 =>
          intro u hu
          obtain ⟨u0, u1, u2, u3, u4⟩ := hu
          go_simp
          try with_reducible rfl
        simp only [Act.put, List.setIfInBounds_toArray, List.set_cons_zero, List.set_cons_succ]
        refine wpAnyH_take (i := 14) (oi := { dst := some 64, op := Go.Op.binOp Go.BinOp.neq 32 (Go.Operand.tmp 59) (Go.Operand.tmp 63) 32, type := 4, pos := "more.go:52", after := #[{ on := 9, ground := Go.Ground.data }, { on := 13, ground := Go.Ground.data }, { on := 7, ground := Go.Ground.guard }], guard := some (7, false) }) (v := ?_) rfl (by kernel_rfl) (by kernel_rfl) (by kernel_rfl) (fun _ _ _ h => h) (Or.inl ⟨by rfl, ?hy36⟩) hs0 ?_
        case hy36 =>
          intro u hu
          obtain ⟨u0, u1, u2, u3, u4⟩ := hu
          go_simp
          try with_reducible rfl
        simp only [Act.put, List.setIfInBounds_toArray, List.set_cons_zero, List.set_cons_succ]
        refine wpAnyH_take (i := 15) (oi := { dst := some 65, op := Go.Op.pick (Go.Operand.tmp 57) (Go.Operand.const (Go.Value.bool true)) (Go.Operand.tmp 64), type := 4, pos := "more.go:52", after := #[{ on := 7, ground := Go.Ground.data }, { on := 14, ground := Go.Ground.data }], guard := none }) (v := ?_) rfl (by kernel_rfl) (by kernel_rfl) (by kernel_rfl) (fun _ _ _ h => h) (Or.inl ⟨by rfl, ?hy37⟩) hs0 ?_
        case hy37 =>
          intro u hu
          obtain ⟨u0, u1, u2, u3, u4⟩ := hu
          go_simp
          try with_reducible rfl
        simp only [Act.put, List.setIfInBounds_toArray, List.set_cons_zero, List.set_cons_succ]
        refine wpAnyH_take (i := 16) (oi := { dst := some 66, op := Go.Op.move (Go.Operand.tmp 65), type := 4, pos := "more.go:52", after := #[{ on := 15, ground := Go.Ground.data }, { on := 7, ground := Go.Ground.chain }], guard := none }) (v := ?_) rfl (by kernel_rfl) (by kernel_rfl) (by kernel_rfl) (fun _ _ _ h => h) (Or.inl ⟨by rfl, ?hy38⟩) hs0 ?_
        case hy38 =>
          intro u hu
          obtain ⟨u0, u1, u2, u3, u4⟩ := hu
          go_simp
          try with_reducible rfl
        simp only [Act.put, List.setIfInBounds_toArray, List.set_cons_zero, List.set_cons_succ]
        refine wpAnyH_take (i := 17) (oi := { dst := some 67, op := Go.Op.fieldAddr 35 (Go.Operand.tmp 10) 5, type := 0, pos := "more.go:52", after := #[{ on := 16, ground := Go.Ground.guard }], guard := some (16, false) }) (v := ?_) rfl (by kernel_rfl) (by kernel_rfl) (by kernel_rfl) (fun _ _ _ h => h) (Or.inl ⟨by rfl, ?hy39⟩) hs0 ?_
        case hy39 =>
          intro u hu
          obtain ⟨u0, u1, u2, u3, u4⟩ := hu
          go_simp
          try with_reducible rfl
        simp only [Act.put, List.setIfInBounds_toArray, List.set_cons_zero, List.set_cons_succ]
        refine wpAnyH_take (i := 18) (oi := { dst := some 68, op := Go.Op.load 3 (Go.Operand.tmp 67), type := 3, pos := "more.go:52", after := #[{ on := 17, ground := Go.Ground.data }, { on := 16, ground := Go.Ground.guard }], guard := some (16, false) }) (v := ?_) rfl (by kernel_rfl) (by kernel_rfl) (by kernel_rfl) (fun _ _ _ h => h) (Or.inl ⟨by rfl, ?hy40⟩) hs0 ?_
        case hy40 =>
          intro u hu
          obtain ⟨u0, u1, u2, u3, u4⟩ := hu
          go_simp
          try with_reducible rfl
        simp only [Act.put, List.setIfInBounds_toArray, List.set_cons_zero, List.set_cons_succ]
        refine wpAnyH_take (i := 19) (oi := { dst := some 69, op := Go.Op.binOp Go.BinOp.neq 3 (Go.Operand.tmp 68) (Go.Operand.const (Go.Value.int Go.IntKind.i64 3)) 3, type := 4, pos := "more.go:52", after := #[{ on := 18, ground := Go.Ground.data }, { on := 16, ground := Go.Ground.guard }], guard := some (16, false) }) (v := ?_) rfl (by kernel_rfl) (by kernel_rfl) (by kernel_rfl) (fun _ _ _ h => h) (Or.inl ⟨by rfl, ?hy41⟩) hs0 ?_
        case hy41 =>
          intro u hu
          obtain ⟨u0, u1, u2, u3, u4⟩ := hu
          go_simp
          try with_reducible rfl
        simp only [Act.put, List.setIfInBounds_toArray, List.set_cons_zero, List.set_cons_succ]
        refine wpAnyH_take (i := 20) (oi := { dst := some 70, op := Go.Op.pick (Go.Operand.tmp 66) (Go.Operand.const (Go.Value.bool true)) (Go.Operand.tmp 69), type := 4, pos := "more.go:52", after := #[{ on := 16, ground := Go.Ground.data }, { on := 19, ground := Go.Ground.data }], guard := none }) (v := ?_) rfl (by kernel_rfl) (by kernel_rfl) (by kernel_rfl) (fun _ _ _ h => h) (Or.inl ⟨by rfl, ?hy42⟩) hs0 ?_
        case hy42 =>
          intro u hu
          obtain ⟨u0, u1, u2, u3, u4⟩ := hu
          go_simp
          try with_reducible rfl
        simp only [Act.put, List.setIfInBounds_toArray, List.set_cons_zero, List.set_cons_succ]
        refine wpAnyH_done (by kernel_rfl) ?_ _
        go_wp2_with fail
        go_roundw
        case rel => exact ⟨k + 1, hlt, by go_num, HX4.out, HB4.out.drew⟩
        case measure => simp [intOf]; omega
      · have HRk := HSB.out 5 (by omega) (by omega)
        have hix : (Instr.index 60 (.agg #[.int .u8 3, .int .u8 4, .int .u8 5, .int .u8 6, .int .u8 7]) (.int .i64 (k : Int))).run Tryd.prog wr = .ok (.int .u8 5) wr := by rw [hk0]; exact ops_2 wr
        have HK0 := hide hk0
        have hltI : (k : Int) < 5 := by omega
        clear hk0
        obtain ⟨W2, HW2⟩ := named ((wr.alloc (.cells #[.int .u8 1, .int .i64 1, .int .i64 0, .int .i64 0, .int .i64 b, .string ⟨#[]⟩, .int .u8 5, .int .i64 2, .int .i64 0, .int .i64 1, .int .i64 0, .string ⟨#[]⟩, .int .u8 15, .int .i64 2, .int .i64 0, .int .i64 0, .int .i64 0, .string ⟨#[]⟩] 52)).alloc (.cells #[.string ⟨#[112]⟩, .int .i64 3, .slice (some ⟨wr.heap.size, 0, none⟩) 3 3] 24))
        have hc2 : RdC W2 (.slice (some ⟨wr.heap.size, 0, none⟩) 3 3) (sgnC 5 b) := by
          rw [HW2.out]
          exact (RdC.of (RdX.lit wr #[.int .u8 1, .int .i64 1, .int .i64 0, .int .i64 0, .int .i64 b, .string ⟨#[]⟩, .int .u8 5, .int .i64 2, .int .i64 0, .int .i64 1, .int .i64 0, .string ⟨#[]⟩, .int .u8 15, .int .i64 2, .int .i64 0, .int .i64 0, .int .i64 0, .string ⟨#[]⟩] 6 3 ((sgnC 5 b).map insC) 52 rfl rfl (full_in _) (by unfold maxLen; omega))).alloc _
        have hb2 : Below wr.heap.size wr W2 := by rw [HW2.out]; exact ((Below.refl _ _).alloc (Nat.le_refl _) _).alloc (by simp) _
        have HB2 := hide (below_call HB.out hb2)
        have hrun := HRN.out 5 (by omega) (by omega) _ W2 (HK.out.below HB2.out) hc2
        rw [HRk] at hrun
        have HRUN : Hid (Calls Tryd.prog 17 #[.agg #[.string ⟨#[112]⟩, .int .i64 3, .slice (some ⟨wr.heap.size, 0, none⟩) 3 3], .int .i64 a, .slice none 0 0, .slice none 0 0, .int .i64 10] W2 fun e w' => ∃ ao cap, e = .returned (.tuple #[.agg #[.int .i64 1, .int .i64 0, .int .i64 y5, .int .i64 0, .slice ao 0 cap, .int .i64 0, .int .i64 3], .int .i64 0]) ∧ Below W2.heap.size W2 w') := hrun
        have HXk := hide (HXr.out.below hb2)
        clear hrun hb2 hc2 HRk
        go_wp2_with fail
        rw [← HW2.out]
        (with_reducible refine Calls.mono HRUN.out ?_)
        rintro e w3 ⟨ao, cap, rfl, hb3⟩
        have HB3 := hide (below_call HB2.out hb3)
        have hx3 := HXk.out.below hb3
        obtain ⟨W4, HW4⟩ := named (w3.alloc (.cells #[.int .i64 1, .int .i64 0, .int .i64 y5, .int .i64 0, .slice ao 0 cap, .int .i64 0, .int .i64 3] 35))
        obtain ⟨rb, HRB⟩ := named w3.heap.size
        have xr4 : RC 7 W4 rb (fun k => ([.int .i64 1, .int .i64 0, .int .i64 y5, .int .i64 0, .slice ao 0 cap, .int .i64 0, .int .i64 3] : List Value).getD k undef) := by
          rw [HW4.out, HRB.out]
          refine RC.new w3 _ 35 _ (fun k hk => ?_)
          rcases (show k = 0 ∨ k = 1 ∨ k = 2 ∨ k = 3 ∨ k = 4 ∨ k = 5 ∨ k = 6 by omega) with rfl | rfl | rfl | rfl | rfl | rfl | rfl <;> rfl
        have hx4 : RC 5 W4 pb (fun k => ([.int .i64 y3, .int .i64 y4, .int .i64 y5, .int .i64 y6, .int .i64 y7] : List Value).getD k undef) := by rw [HW4.out]; exact hx3.alloc _
        have HX4 := hide hx4
        have HB4 : Hid (Below w.heap.size w W4) := by show Below _ _ _; rw [HW4.out]; exact HB3.out.alloc HB3.out.size _
        have v0 : W4.drew.cell? ⟨rb, 0, none⟩ = some (.int .i64 1) := xr4.2.1 0 (by omega)
        have v1 : W4.drew.cell? ⟨rb, 1, none⟩ = some (.int .i64 0) := xr4.2.1 1 (by omega)
        have v2 : W4.drew.cell? ⟨rb, 2, none⟩ = some (.int .i64 y5) := xr4.2.1 2 (by omega)
        have v6 : W4.drew.cell? ⟨rb, 6, none⟩ = some (.int .i64 3) := xr4.2.1 6 (by omega)
        have vw : W4.drew.cell? ⟨pb, k, none⟩ = some (.int .i64 y5) := by have := hx4.2.1 k (by omega); rw [HK0.out] at this ⊢; exact this
        have hs0 : W4.drew.cell? ⟨rb, 0, none⟩ = some (.int .i64 1) ∧ W4.drew.cell? ⟨rb, 1, none⟩ = some (.int .i64 0) ∧ W4.drew.cell? ⟨rb, 2, none⟩ = some (.int .i64 y5) ∧ W4.drew.cell? ⟨rb, 6, none⟩ = some (.int .i64 3) ∧ W4.drew.cell? ⟨pb, k, none⟩ = some (.int .i64 y5) := ⟨v0, v1, v2, v6, vw⟩
        clear hb3 hx3 xr4 hx4 v0 v1 v2 v6 vw
        go_wp2_with fail
        rw [← HW4.out, ← HRB.out]
        refine wp_region_held_drew (S := (fun w' => w'.cell? ⟨rb, 0, none⟩ = some (.int .i64 1) ∧ w'.cell? ⟨rb, 1, none⟩ = some (.int .i64 0) ∧ w'.cell? ⟨rb, 2, none⟩ = some (.int .i64 y5) ∧ w'.cell? ⟨rb, 6, none⟩ = some (.int .i64 3) ∧ w'.cell? ⟨pb, k, none⟩ = some (.int .i64 y5))) (by kernel_rfl) hs0 (fun _ => ?_)
        refine wpAnyH_take (i := 0) (oi := { dst := some 50, op := Go.Op.move (Go.Operand.tmp 11), type := 36, pos := "more.go:52", after := #[], guard := none }) (v := ?_) rfl (by kernel_rfl) (by kernel_rfl) (by kernel_rfl) (fun _ _ _ h => h) (Or.inl ⟨by rfl, ?hy43⟩) hs0 ?_
        case hy43 =>
          intro u hu
          obtain ⟨u0, u1, u2, u3, u4⟩ := hu
          go_simp
          try with_reducible rfl
        simp only [Act.put, List.setIfInBounds_toArray, List.set_cons_zero, List.set_cons_succ]
        refine wpAnyH_take (i := 1) (oi := { dst := some 51, op := Go.Op.binOp Go.BinOp.neq 36 (Go.Operand.tmp 50) (Go.Operand.const (Go.Value.int Go.IntKind.i64 0)) 36, type := 4, pos := "more.go:52", after := #[{ on := 0, ground := Go.Ground.data }], guard := none }) (v := ?_) rfl (by kernel_rfl) (by kernel_rfl) (by kernel_rfl) (fun _ _ _ h => h) (Or.inl ⟨by rfl, ?hy44⟩) hs0 ?_
        case hy44 =>
          intro u hu
          obtain ⟨u0, u1, u2, u3, u4⟩ := hu
          go_simp
          try with_reducible rfl
        simp only [Act.put, List.setIfInBounds_toArray, List.set_cons_zero, List.set_cons_succ]
        refine wpAnyH_take (i := 2) (oi := { dst := some 52, op := Go.Op.move (Go.Operand.tmp 51), type := 4, pos := "more.go:52", after := #[{ on := 1, ground := Go.Ground.data }], guard := none }) (v := ?_) rfl (by kernel_rfl) (by kernel_rfl) (by kernel_rfl) (fun _ _ _ h => h) (Or.inl ⟨by rfl, ?hy45⟩) hs0 ?_
        case hy45 =>
          intro u hu
          obtain ⟨u0, u1, u2, u3, u4⟩ := hu
          go_simp
          try with_reducible rfl
        simp only [Act.put, List.setIfInBounds_toArray, List.set_cons_zero, List.set_cons_succ]
        refine wpAnyH_take (i := 3) (oi := { dst := some 53, op := Go.Op.fieldAddr 35 (Go.Operand.tmp 10) 0, type := 0, pos := "more.go:52", after := #[{ on := 2, ground := Go.Ground.guard }], guard := some (2, false) }) (v := ?_) rfl (by kernel_rfl) (by kernel_rfl) (by kernel_rfl) (fun _ _ _ h => h) (Or.inl ⟨by rfl, ?hy46⟩) hs0 ?_
        case hy46 =>
          intro u hu
          obtain ⟨u0, u1, u2, u3, u4⟩ := hu
          go_simp
          try with_reducible rfl
        simp only [Act.put, List.setIfInBounds_toArray, List.set_cons_zero, List.set_cons_succ]
        refine wpAnyH_take (i := 4) (oi := { dst := some 54, op := Go.Op.load 3 (Go.Operand.tmp 53), type := 3, pos := "more.go:52", after := #[{ on := 3, ground := Go.Ground.data }, { on := 2, ground := Go.Ground.guard }], guard := some (2, false) }) (v := ?_) rfl (by kernel_rfl) (by kernel_rfl) (by kernel_rfl) (fun _ _ _ h => h) (Or.inl ⟨by rfl, ?hy47⟩) hs0 ?_
        case hy47 =>
          intro u hu
          obtain ⟨u0, u1, u2, u3, u4⟩ := hu
          go_simp
          try with_reducible rfl
        simp only [Act.put, List.setIfInBounds_toArray, List.set_cons_zero, List.set_cons_succ]
        refine wpAnyH_take (i := 5) (oi := { dst := some 55, op := Go.Op.binOp Go.BinOp.neq 3 (Go.Operand.tmp 54) (Go.Operand.const (Go.Value.int Go.IntKind.i64 1)) 3, type := 4, pos := "more.go:52", after := #[{ on := 4, ground := Go.Ground.data }, { on := 2, ground := Go.Ground.guard }], guard := some (2, false) }) (v := ?_) rfl (by kernel_rfl) (by kernel_rfl) (by kernel_rfl) (fun _ _ _ h => h) (Or.inl ⟨by rfl, ?hy48⟩) hs0 ?_
        case hy48 =>
          intro u hu
          obtain ⟨u0, u1, u2, u3, u4⟩ := hu
          go_simp
          try with_reducible rfl
        simp only [Act.put, List.setIfInBounds_toArray, List.set_cons_zero, List.set_cons_succ]
        refine wpAnyH_take (i := 6) (oi := { dst := some 56, op := Go.Op.pick (Go.Operand.tmp 52) (Go.Operand.const (Go.Value.bool true)) (Go.Operand.tmp 55), type := 4, pos := "more.go:52", after := #[{ on := 2, ground := Go.Ground.data }, { on := 5, ground := Go.Ground.data }], guard := none }) (v := ?_) rfl (by kernel_rfl) (by kernel_rfl) (by kernel_rfl) (fun _ _ _ h => h) (Or.inl ⟨by rfl, ?hy49⟩) hs0 ?_
        case hy49 =>
          intro u hu
          obtain ⟨u0, u1, u2, u3, u4⟩ := hu
          go_simp
          try with_reducible rfl
        simp only [Act.put, List.setIfInBounds_toArray, List.set_cons_zero, List.set_cons_succ]
        refine wpAnyH_take (i := 7) (oi := { dst := some 57, op := Go.Op.move (Go.Operand.tmp 56), type := 4, pos := "more.go:52", after := #[{ on := 6, ground := Go.Ground.data }, { on := 2, ground := Go.Ground.chain }], guard := none }) (v := ?_) rfl (by kernel_rfl) (by kernel_rfl) (by kernel_rfl) (fun _ _ _ h => h) (Or.inl ⟨by rfl, ?hy50⟩) hs0 ?_
        case hy50 =>
          intro u hu
          obtain ⟨u0, u1, u2, u3, u4⟩ := hu
          go_simp
          try with_reducible rfl
        simp only [Act.put, List.setIfInBounds_toArray, List.set_cons_zero, List.set_cons_succ]
        refine wpAnyH_take (i := 8) (oi := { dst := some 58, op := Go.Op.fieldAddr 35 (Go.Operand.tmp 10) 1, type := 0, pos := "more.go:52", after := #[{ on := 7, ground := Go.Ground.guard }], guard := some (7, false) }) (v := ?_) rfl (by kernel_rfl) (by kernel_rfl) (by kernel_rfl) (fun _ _ _ h => h) (Or.inl ⟨by rfl, ?hy51⟩) hs0 ?_
        case hy51 =>
          intro u hu
          obtain ⟨u0, u1, u2, u3, u4⟩ := hu
          go_simp
          try with_reducible rfl
        simp only [Act.put, List.setIfInBounds_toArray, List.set_cons_zero, List.set_cons_succ]
        refine wpAnyH_take (i := 9) (oi := { dst := some 59, op := Go.Op.load 32 (Go.Operand.tmp 58), type := 32, pos := "more.go:52", after := #[{ on := 8, ground := Go.Ground.data }, { on := 7, ground := Go.Ground.guard }], guard := some (7, false) }) (v := ?_) rfl (by kernel_rfl) (by kernel_rfl) (by kernel_rfl) (fun _ _ _ h => h) (Or.inl ⟨by rfl, ?hy52⟩) hs0 ?_
        case hy52 =>
          intro u hu
          obtain ⟨u0, u1, u2, u3, u4⟩ := hu
          go_simp
          try with_reducible rfl
        simp only [Act.put, List.setIfInBounds_toArray, List.set_cons_zero, List.set_cons_succ]
        refine wpAnyH_take (i := 10) (oi := { dst := some 60, op := Go.Op.move (Go.Operand.tmp 7), type := 3, pos := "more.go:52", after := #[{ on := 7, ground := Go.Ground.guard }], guard := some (7, false) }) (v := ?_) rfl (by kernel_rfl) (by kernel_rfl) (by kernel_rfl) (fun _ _ _ h => h) (Or.inl ⟨by rfl, ?hy53⟩) hs0 ?_
        case hy53 =>
          intro u hu
          obtain ⟨u0, u1, u2, u3, u4⟩ := hu
          go_simp
          try with_reducible rfl
        simp only [Act.put, List.setIfInBounds_toArray, List.set_cons_zero, List.set_cons_succ]
        refine wpAnyH_take (i := 11) (oi := { dst := some 61, op := Go.Op.indexAddr 59 (Go.Operand.tmp 6) (Go.Operand.tmp 60), type := 0, pos := "more.go:52", after := #[{ on := 10, ground := Go.Ground.data }, { on := 7, ground := Go.Ground.guard }], guard := some (7, false) }) (v := ?_) rfl (by kernel_rfl) (by kernel_rfl) (by kernel_rfl) (fun _ _ _ h => h) (Or.inl ⟨by rfl, ?hy54⟩) hs0 ?_
        case hy54 =>
          intro u hu
          obtain ⟨u0, u1, u2, u3, u4⟩ := hu
          go_simp
          try with_reducible rfl
        simp only [Act.put, List.setIfInBounds_toArray, List.set_cons_zero, List.set_cons_succ]
        refine wpAnyH_take (i := 12) (oi := { dst := some 62, op := Go.Op.load 2 (Go.Operand.tmp 61), type := 2, pos := "more.go:52", after := #[{ on := 11, ground := Go.Ground.data }, { on := 7, ground := Go.Ground.guard }], guard := some (7, false) }) (v := ?_) rfl (by kernel_rfl) (by kernel_rfl) (by kernel_rfl) (fun _ _ _ h => h) (Or.inl ⟨by rfl, ?hy55⟩) hs0 ?_
        case hy55 =>
          intro u hu
          obtain ⟨u0, u1, u2, u3, u4⟩ := hu
          go_simp
          try with_reducible rfl
        simp only [Act.put, List.setIfInBounds_toArray, List.set_cons_zero, List.set_cons_succ]
        refine wpAnyH_take (i := 13) (oi := { dst := some 63, op := Go.Op.build 32 #[(1, Go.Operand.tmp 62)], type := 32, pos := "more.go:52", after := #[{ on := 12, ground := Go.Ground.data }, { on := 7, ground := Go.Ground.guard }], guard := some (7, false) }) (v := ?_) rfl (by kernel_rfl) (by kernel_rfl) (by kernel_rfl) (fun _ _ _ h => h) (Or.inl ⟨by rfl, ?hy56⟩) hs0 ?_
        case hy56 =>
          intro u hu
          obtain ⟨u0, u1, u2, u3, u4⟩ := hu
          go_simp
          try with_reducible rfl
        simp only [Act.put, List.setIfInBounds_toArray, List.set_cons_zero, List.set_cons_succ]
        refine wpAnyH_take (i := 14) (oi := { dst := some 64, op := Go.Op.binOp Go.BinOp.neq 32 (Go.Operand.tmp 59) (Go.Operand.tmp 63) 32, type := 4, pos := "more.go:52", after := #[{ on := 9, ground := Go.Ground.data }, { on := 13, ground := Go.Ground.data }, { on := 7, ground := Go.Ground.guard }], guard := some (7, false) }) (v := ?_) rfl (by kernel_rfl) (by kernel_rfl) (by kernel_rfl) (fun _ _ _ h => h) (Or.inl ⟨by rfl, ?hy57⟩) hs0 ?_
        case hy57 =>
          intro u hu
          obtain ⟨u0, u1, u2, u3, u4⟩ := hu
          go_simp
          try with_reducible rfl
        simp only [Act.put, List.setIfInBounds_toArray, List.set_cons_zero, List.set_cons_succ]
        refine wpAnyH_take (i := 15) (oi := { dst := some 65, op := Go.Op.pick (Go.Operand.tmp 57) (Go.Operand.const (Go.Value.bool true)) (Go.Operand.tmp 64), type := 4, pos := "more.go:52", after := #[{ on := 7, ground := Go.Ground.data }, { on := 14, ground := Go.Ground.data }], guard := none }) (v := ?_) rfl (by kernel_rfl) (by kernel_rfl) (by kernel_rfl) (fun _ _ _ h => h) (Or.inl ⟨by rfl, ?hy58⟩) hs0 ?_
        case hy58 =>
          intro u hu
          obtain ⟨u0, u1, u2, u3, u4⟩ := hu
          go_simp
          try with_reducible rfl
        simp only [Act.put, List.setIfInBounds_toArray, List.set_cons_zero, List.set_cons_succ]
        refine wpAnyH_take (i := 16) (oi := { dst := some 66, op := Go.Op.move (Go.Operand.tmp 65), type := 4, pos := "more.go:52", after := #[{ on := 15, ground := Go.Ground.data }, { on := 7, ground := Go.Ground.chain }], guard := none }) (v := ?_) rfl (by kernel_rfl) (by kernel_rfl) (by kernel_rfl) (fun _ _ _ h => h) (Or.inl ⟨by rfl, ?hy59⟩) hs0 ?_
        case hy59 =>
          intro u hu
          obtain ⟨u0, u1, u2, u3, u4⟩ := hu
          go_simp
          try with_reducible rfl
        simp only [Act.put, List.setIfInBounds_toArray, List.set_cons_zero, List.set_cons_succ]
        refine wpAnyH_take (i := 17) (oi := { dst := some 67, op := Go.Op.fieldAddr 35 (Go.Operand.tmp 10) 5, type := 0, pos := "more.go:52", after := #[{ on := 16, ground := Go.Ground.guard }], guard := some (16, false) }) (v := ?_) rfl (by kernel_rfl) (by kernel_rfl) (by kernel_rfl) (fun _ _ _ h => h) (Or.inl ⟨by rfl, ?hy60⟩) hs0 ?_
        case hy60 =>
          intro u hu
          obtain ⟨u0, u1, u2, u3, u4⟩ := hu
          go_simp
          try with_reducible rfl
        simp only [Act.put, List.setIfInBounds_toArray, List.set_cons_zero, List.set_cons_succ]
        refine wpAnyH_take (i := 18) (oi := { dst := some 68, op := Go.Op.load 3 (Go.Operand.tmp 67), type := 3, pos := "more.go:52", after := #[{ on := 17, ground := Go.Ground.data }, { on := 16, ground := Go.Ground.guard }], guard := some (16, false) }) (v := ?_) rfl (by kernel_rfl) (by kernel_rfl) (by kernel_rfl) (fun _ _ _ h => h) (Or.inl ⟨by rfl, ?hy61⟩) hs0 ?_
        case hy61 =>
          intro u hu
          obtain ⟨u0, u1, u2, u3, u4⟩ := hu
          go_simp
          try with_reducible rfl
        simp only [Act.put, List.setIfInBounds_toArray, List.set_cons_zero, List.set_cons_succ]
        refine wpAnyH_take (i := 19) (oi := { dst := some 69, op := Go.Op.binOp Go.BinOp.neq 3 (Go.Operand.tmp 68) (Go.Operand.const (Go.Value.int Go.IntKind.i64 3)) 3, type := 4, pos := "more.go:52", after := #[{ on := 18, ground := Go.Ground.data }, { on := 16, ground := Go.Ground.guard }], guard := some (16, false) }) (v := ?_) rfl (by kernel_rfl) (by kernel_rfl) (by kernel_rfl) (fun _ _ _ h => h) (Or.inl ⟨by rfl, ?hy62⟩) hs0 ?_
        case hy62 =>
          intro u hu
          obtain ⟨u0, u1, u2, u3, u4⟩ := hu
          go_simp
          try with_reducible rfl
        simp only [Act.put, List.setIfInBounds_toArray, List.set_cons_zero, List.set_cons_succ]
        refine wpAnyH_take (i := 20) (oi := { dst := some 70, op := Go.Op.pick (Go.Operand.tmp 66) (Go.Operand.const (Go.Value.bool true)) (Go.Operand.tmp 69), type := 4, pos := "more.go:52", after := #[{ on := 16, ground := Go.Ground.data }, { on := 19, ground := Go.Ground.data }], guard := none }) (v := ?_) rfl (by kernel_rfl) (by kernel_rfl) (by kernel_rfl) (fun _ _ _ h => h) (Or.inl ⟨by rfl, ?hy63⟩) hs0 ?_
        case hy63 =>
          intro u hu
          obtain ⟨u0, u1, u2, u3, u4⟩ := hu
          go_simp
          try with_reducible rfl
        simp only [Act.put, List.setIfInBounds_toArray, List.set_cons_zero, List.set_cons_succ]
        refine wpAnyH_done (by kernel_rfl) ?_ _
        go_wp2_with fail
        go_roundw
        case rel => exact ⟨k + 1, hlt, by go_num, HX4.out, HB4.out.drew⟩
        case measure => simp [intOf]; omega
      · have HRk := HSB.out 6 (by omega) (by omega)
        have hix : (Instr.index 60 (.agg #[.int .u8 3, .int .u8 4, .int .u8 5, .int .u8 6, .int .u8 7]) (.int .i64 (k : Int))).run Tryd.prog wr = .ok (.int .u8 6) wr := by rw [hk0]; exact ops_3 wr
        have HK0 := hide hk0
        have hltI : (k : Int) < 5 := by omega
        clear hk0
        obtain ⟨W2, HW2⟩ := named ((wr.alloc (.cells #[.int .u8 1, .int .i64 1, .int .i64 0, .int .i64 0, .int .i64 b, .string ⟨#[]⟩, .int .u8 6, .int .i64 2, .int .i64 0, .int .i64 1, .int .i64 0, .string ⟨#[]⟩, .int .u8 15, .int .i64 2, .int .i64 0, .int .i64 0, .int .i64 0, .string ⟨#[]⟩] 52)).alloc (.cells #[.string ⟨#[112]⟩, .int .i64 3, .slice (some ⟨wr.heap.size, 0, none⟩) 3 3] 24))
        have hc2 : RdC W2 (.slice (some ⟨wr.heap.size, 0, none⟩) 3 3) (sgnC 6 b) := by
          rw [HW2.out]
          exact (RdC.of (RdX.lit wr #[.int .u8 1, .int .i64 1, .int .i64 0, .int .i64 0, .int .i64 b, .string ⟨#[]⟩, .int .u8 6, .int .i64 2, .int .i64 0, .int .i64 1, .int .i64 0, .string ⟨#[]⟩, .int .u8 15, .int .i64 2, .int .i64 0, .int .i64 0, .int .i64 0, .string ⟨#[]⟩] 6 3 ((sgnC 6 b).map insC) 52 rfl rfl (full_in _) (by unfold maxLen; omega))).alloc _
        have hb2 : Below wr.heap.size wr W2 := by rw [HW2.out]; exact ((Below.refl _ _).alloc (Nat.le_refl _) _).alloc (by simp) _
        have HB2 := hide (below_call HB.out hb2)
        have hrun := HRN.out 6 (by omega) (by omega) _ W2 (HK.out.below HB2.out) hc2
        rw [HRk] at hrun
        have HRUN : Hid (Calls Tryd.prog 17 #[.agg #[.string ⟨#[112]⟩, .int .i64 3, .slice (some ⟨wr.heap.size, 0, none⟩) 3 3], .int .i64 a, .slice none 0 0, .slice none 0 0, .int .i64 10] W2 fun e w' => ∃ ao cap, e = .returned (.tuple #[.agg #[.int .i64 1, .int .i64 0, .int .i64 y6, .int .i64 0, .slice ao 0 cap, .int .i64 0, .int .i64 3], .int .i64 0]) ∧ Below W2.heap.size W2 w') := hrun
        have HXk := hide (HXr.out.below hb2)
        clear hrun hb2 hc2 HRk
        go_wp2_with fail
        rw [← HW2.out]
        (with_reducible refine Calls.mono HRUN.out ?_)
        rintro e w3 ⟨ao, cap, rfl, hb3⟩
        have HB3 := hide (below_call HB2.out hb3)
        have hx3 := HXk.out.below hb3
        obtain ⟨W4, HW4⟩ := named (w3.alloc (.cells #[.int .i64 1, .int .i64 0, .int .i64 y6, .int .i64 0, .slice ao 0 cap, .int .i64 0, .int .i64 3] 35))
        obtain ⟨rb, HRB⟩ := named w3.heap.size
        have xr4 : RC 7 W4 rb (fun k => ([.int .i64 1, .int .i64 0, .int .i64 y6, .int .i64 0, .slice ao 0 cap, .int .i64 0, .int .i64 3] : List Value).getD k undef) := by
          rw [HW4.out, HRB.out]
          refine RC.new w3 _ 35 _ (fun k hk => ?_)
          rcases (show k = 0 ∨ k = 1 ∨ k = 2 ∨ k = 3 ∨ k = 4 ∨ k = 5 ∨ k = 6 by omega) with rfl | rfl | rfl | rfl | rfl | rfl | rfl <;> rfl
        have hx4 : RC 5 W4 pb (fun k => ([.int .i64 y3, .int .i64 y4, .int .i64 y5, .int .i64 y6, .int .i64 y7] : List Value).getD k undef) := by rw [HW4.out]; exact hx3.alloc _
        have HX4 := hide hx4
        have HB4 : Hid (Below w.heap.size w W4) := by show Below _ _ _; rw [HW4.out]; exact HB3.out.alloc HB3.out.size _
        have v0 : W4.drew.cell? ⟨rb, 0, none⟩ = some (.int .i64 1) := xr4.2.1 0 (by omega)
        have v1 : W4.drew.cell? ⟨rb, 1, none⟩ = some (.int .i64 0) := xr4.2.1 1 (by omega)
        have v2 : W4.drew.cell? ⟨rb, 2, none⟩ = some (.int .i64 y6) := xr4.2.1 2 (by omega)
        have v6 : W4.drew.cell? ⟨rb, 6, none⟩ = some (.int .i64 3) := xr4.2.1 6 (by omega)
        have vw : W4.drew.cell? ⟨pb, k, none⟩ = some (.int .i64 y6) := by have := hx4.2.1 k (by omega); rw [HK0.out] at this ⊢; exact this
        have hs0 : W4.drew.cell? ⟨rb, 0, none⟩ = some (.int .i64 1) ∧ W4.drew.cell? ⟨rb, 1, none⟩ = some (.int .i64 0) ∧ W4.drew.cell? ⟨rb, 2, none⟩ = some (.int .i64 y6) ∧ W4.drew.cell? ⟨rb, 6, none⟩ = some (.int .i64 3) ∧ W4.drew.cell? ⟨pb, k, none⟩ = some (.int .i64 y6) := ⟨v0, v1, v2, v6, vw⟩
        clear hb3 hx3 xr4 hx4 v0 v1 v2 v6 vw
        go_wp2_with fail
        rw [← HW4.out, ← HRB.out]
        refine wp_region_held_drew (S := (fun w' => w'.cell? ⟨rb, 0, none⟩ = some (.int .i64 1) ∧ w'.cell? ⟨rb, 1, none⟩ = some (.int .i64 0) ∧ w'.cell? ⟨rb, 2, none⟩ = some (.int .i64 y6) ∧ w'.cell? ⟨rb, 6, none⟩ = some (.int .i64 3) ∧ w'.cell? ⟨pb, k, none⟩ = some (.int .i64 y6))) (by kernel_rfl) hs0 (fun _ => ?_)
        refine wpAnyH_take (i := 0) (oi := { dst := some 50, op := Go.Op.move (Go.Operand.tmp 11), type := 36, pos := "more.go:52", after := #[], guard := none }) (v := ?_) rfl (by kernel_rfl) (by kernel_rfl) (by kernel_rfl) (fun _ _ _ h => h) (Or.inl ⟨by rfl, ?hy64⟩) hs0 ?_
        case hy64 =>
          intro u hu
          obtain ⟨u0, u1, u2, u3, u4⟩ := hu
          go_simp
          try with_reducible rfl
        simp only [Act.put, List.setIfInBounds_toArray, List.set_cons_zero, List.set_cons_succ]
        refine wpAnyH_take (i := 1) (oi := { dst := some 51, op := Go.Op.binOp Go.BinOp.neq 36 (Go.Operand.tmp 50) (Go.Operand.const (Go.Value.int Go.IntKind.i64 0)) 36, type := 4, pos := "more.go:52", after := #[{ on := 0, ground := Go.Ground.data }], guard := none }) (v := ?_) rfl (by kernel_rfl) (by kernel_rfl) (by kernel_rfl) (fun _ _ _ h => h) (Or.inl ⟨by rfl, ?hy65⟩) hs0 ?_
        case hy65 =>
          intro u hu
          obtain ⟨u0, u1, u2, u3, u4⟩ := hu
          go_simp
          try with_reducible rfl
        simp only [Act.put, List.setIfInBounds_toArray, List.set_cons_zero, List.set_cons_succ]
        refine wpAnyH_take (i := 2) (oi := { dst := some 52, op := Go.Op.move (Go.Operand.tmp 51), type := 4, pos := "more.go:52", after := #[{ on := 1, ground := Go.Ground.data }], guard := none }) (v := ?_) rfl (by kernel_rfl) (by kernel_rfl) (by kernel_rfl) (fun _ _ _ h => h) (Or.inl ⟨by rfl, ?hy66⟩) hs0 ?_
        case hy66 =>
          intro u hu
          obtain ⟨u0, u1, u2, u3, u4⟩ := hu
          go_simp
          try with_reducible rfl
        simp only [Act.put, List.setIfInBounds_toArray, List.set_cons_zero, List.set_cons_succ]
        refine wpAnyH_take (i := 3) (oi := { dst := some 53, op := Go.Op.fieldAddr 35 (Go.Operand.tmp 10) 0, type := 0, pos := "more.go:52", after := #[{ on := 2, ground := Go.Ground.guard }], guard := some (2, false) }) (v := ?_) rfl (by kernel_rfl) (by kernel_rfl) (by kernel_rfl) (fun _ _ _ h => h) (Or.inl ⟨by rfl, ?hy67⟩) hs0 ?_
        case hy67 =>
          intro u hu
          obtain ⟨u0, u1, u2, u3, u4⟩ := hu
          go_simp
          try with_reducible rfl
        simp only [Act.put, List.setIfInBounds_toArray, List.set_cons_zero, List.set_cons_succ]
        refine wpAnyH_take (i := 4) (oi := { dst := some 54, op := Go.Op.load 3 (Go.Operand.tmp 53), type := 3, pos := "more.go:52", after := #[{ on := 3, ground := Go.Ground.data }, { on := 2, ground := Go.Ground.guard }], guard := some (2, false) }) (v := ?_) rfl (by kernel_rfl) (by kernel_rfl) (by kernel_rfl) (fun _ _ _ h => h) (Or.inl ⟨by rfl, ?hy68⟩) hs0 ?_
        case hy68 =>
          intro u hu
          obtain ⟨u0, u1, u2, u3, u4⟩ := hu
          go_simp
          try with_reducible rfl
        simp only [Act.put, List.setIfInBounds_toArray, List.set_cons_zero, List.set_cons_succ]
        refine wpAnyH_take (i := 5) (oi := { dst := some 55, op := Go.Op.binOp Go.BinOp.neq 3 (Go.Operand.tmp 54) (Go.Operand.const (Go.Value.int Go.IntKind.i64 1)) 3, type := 4, pos := "more.go:52", after := #[{ on := 4, ground := Go.Ground.data }, { on := 2, ground := Go.Ground.guard }], guard := some (2, false) }) (v := ?_) rfl (by kernel_rfl) (by kernel_rfl) (by kernel_rfl) (fun _ _ _ h => h) (Or.inl ⟨by rfl, ?hy69⟩) hs0 ?_
        case hy69 =>
          intro u hu
          obtain ⟨u0, u1, u2, u3, u4⟩ := hu
          go_simp
          try with_reducible rfl
        simp only [Act.put, List.setIfInBounds_toArray, List.set_cons_zero, List.set_cons_succ]
        refine wpAnyH_take (i := 6) (oi := { dst := some 56, op := Go.Op.pick (Go.Operand.tmp 52) (Go.Operand.const (Go.Value.bool true)) (Go.Operand.tmp 55), type := 4, pos := "more.go:52", after := #[{ on := 2, ground := Go.Ground.data }, { on := 5, ground := Go.Ground.data }], guard := none }) (v := ?_) rfl (by kernel_rfl) (by kernel_rfl) (by kernel_rfl) (fun _ _ _ h => h) (Or.inl ⟨by rfl, ?hy70⟩) hs0 ?_
        case hy70 =>
          intro u hu
          obtain ⟨u0, u1, u2, u3, u4⟩ := hu
          go_simp
          try with_reducible rfl
        simp only [Act.put, List.setIfInBounds_toArray, List.set_cons_zero, List.set_cons_succ]
        refine wpAnyH_take (i := 7) (oi := { dst := some 57, op := Go.Op.move (Go.Operand.tmp 56), type := 4, pos := "more.go:52", after := #[{ on := 6, ground := Go.Ground.data }, { on := 2, ground := Go.Ground.chain }], guard := none }) (v := ?_) rfl (by kernel_rfl) (by kernel_rfl) (by kernel_rfl) (fun _ _ _ h => h) (Or.inl ⟨by rfl, ?hy71⟩) hs0 ?_
        case hy71 =>
          intro u hu
          obtain ⟨u0, u1, u2, u3, u4⟩ := hu
          go_simp
          try with_reducible rfl
        simp only [Act.put, List.setIfInBounds_toArray, List.set_cons_zero, List.set_cons_succ]
        refine wpAnyH_take (i := 8) (oi := { dst := some 58, op := Go.Op.fieldAddr 35 (Go.Operand.tmp 10) 1, type := 0, pos := "more.go:52", after := #[{ on := 7, ground := Go.Ground.guard }], guard := some (7, false) }) (v := ?_) rfl (by kernel_rfl) (by kernel_rfl) (by kernel_rfl) (fun _ _ _ h => h) (Or.inl ⟨by rfl, ?hy72⟩) hs0 ?_
        case hy72 =>
          intro u hu
          obtain ⟨u0, u1, u2, u3, u4⟩ := hu
          go_simp
          try with_reducible rfl
        simp only [Act.put, List.setIfInBounds_toArray, List.set_cons_zero, List.set_cons_succ]
        refine wpAnyH_take (i := 9) (oi := { dst := some 59, op := Go.Op.load 32 (Go.Operand.tmp 58), type := 32, pos := "more.go:52", after := #[{ on := 8, ground := Go.Ground.data }, { on := 7, ground := Go.Ground.guard }], guard := some (7, false) }) (v := ?_) rfl (by kernel_rfl) (by kernel_rfl) (by kernel_rfl) (fun _ _ _ h => h) (Or.inl ⟨by rfl, ?hy73⟩) hs0 ?_
        case hy73 =>
          intro u hu
          obtain ⟨u0, u1, u2, u3, u4⟩ := hu
          go_simp
          try with_reducible rfl
        simp only [Act.put, List.setIfInBounds_toArray, List.set_cons_zero, List.set_cons_succ]
        refine wpAnyH_take (i := 10) (oi := { dst := some 60, op := Go.Op.move (Go.Operand.tmp 7), type := 3, pos := "more.go:52", after := #[{ on := 7, ground := Go.Ground.guard }], guard := some (7, false) }) (v := ?_) rfl (by kernel_rfl) (by kernel_rfl) (by kernel_rfl) (fun _ _ _ h => h) (Or.inl ⟨by rfl, ?hy74⟩) hs0 ?_
        case hy74 =>
          intro u hu
          obtain ⟨u0, u1, u2, u3, u4⟩ := hu
          go_simp
          try with_reducible rfl
        simp only [Act.put, List.setIfInBounds_toArray, List.set_cons_zero, List.set_cons_succ]
        refine wpAnyH_take (i := 11) (oi := { dst := some 61, op := Go.Op.indexAddr 59 (Go.Operand.tmp 6) (Go.Operand.tmp 60), type := 0, pos := "more.go:52", after := #[{ on := 10, ground := Go.Ground.data }, { on := 7, ground := Go.Ground.guard }], guard := some (7, false) }) (v := ?_) rfl (by kernel_rfl) (by kernel_rfl) (by kernel_rfl) (fun _ _ _ h => h) (Or.inl ⟨by rfl, ?hy75⟩) hs0 ?_
        case hy75 =>
          intro u hu
          obtain ⟨u0, u1, u2, u3, u4⟩ := hu
          go_simp
          try with_reducible rfl
        simp only [Act.put, List.setIfInBounds_toArray, List.set_cons_zero, List.set_cons_succ]
        refine wpAnyH_take (i := 12) (oi := { dst := some 62, op := Go.Op.load 2 (Go.Operand.tmp 61), type := 2, pos := "more.go:52", after := #[{ on := 11, ground := Go.Ground.data }, { on := 7, ground := Go.Ground.guard }], guard := some (7, false) }) (v := ?_) rfl (by kernel_rfl) (by kernel_rfl) (by kernel_rfl) (fun _ _ _ h => h) (Or.inl ⟨by rfl, ?hy76⟩) hs0 ?_
        case hy76 =>
          intro u hu
          obtain ⟨u0, u1, u2, u3, u4⟩ := hu
          go_simp
          try with_reducible rfl
        simp only [Act.put, List.setIfInBounds_toArray, List.set_cons_zero, List.set_cons_succ]
        refine wpAnyH_take (i := 13) (oi := { dst := some 63, op := Go.Op.build 32 #[(1, Go.Operand.tmp 62)], type := 32, pos := "more.go:52", after := #[{ on := 12, ground := Go.Ground.data }, { on := 7, ground := Go.Ground.guard }], guard := some (7, false) }) (v := ?_) rfl (by kernel_rfl) (by kernel_rfl) (by kernel_rfl) (fun _ _ _ h => h) (Or.inl ⟨by rfl, ?hy77⟩) hs0 ?_
        case hy77 =>
          intro u hu
          obtain ⟨u0, u1, u2, u3, u4⟩ := hu
          go_simp
          try with_reducible rfl
        simp only [Act.put, List.setIfInBounds_toArray, List.set_cons_zero, List.set_cons_succ]
        refine wpAnyH_take (i := 14) (oi := { dst := some 64, op := Go.Op.binOp Go.BinOp.neq 32 (Go.Operand.tmp 59) (Go.Operand.tmp 63) 32, type := 4, pos := "more.go:52", after := #[{ on := 9, ground := Go.Ground.data }, { on := 13, ground := Go.Ground.data }, { on := 7, ground := Go.Ground.guard }], guard := some (7, false) }) (v := ?_) rfl (by kernel_rfl) (by kernel_rfl) (by kernel_rfl) (fun _ _ _ h => h) (Or.inl ⟨by rfl, ?hy78⟩) hs0 ?_
        case hy78 =>
          intro u hu
          obtain ⟨u0, u1, u2, u3, u4⟩ := hu
          go_simp
          try with_reducible rfl
        simp only [Act.put, List.setIfInBounds_toArray, List.set_cons_zero, List.set_cons_succ]
        refine wpAnyH_take (i := 15) (oi := { dst := some 65, op := Go.Op.pick (Go.Operand.tmp 57) (Go.Operand.const (Go.Value.bool true)) (Go.Operand.tmp 64), type := 4, pos := "more.go:52", after := #[{ on := 7, ground := Go.Ground.data }, { on := 14, ground := Go.Ground.data }], guard := none }) (v := ?_) rfl (by kernel_rfl) (by kernel_rfl) (by kernel_rfl) (fun _ _ _ h => h) (Or.inl ⟨by rfl, ?hy79⟩) hs0 ?_
        case hy79 =>
          intro u hu
          obtain ⟨u0, u1, u2, u3, u4⟩ := hu
          go_simp
          try with_reducible rfl
        simp only [Act.put, List.setIfInBounds_toArray, List.set_cons_zero, List.set_cons_succ]
        refine wpAnyH_take (i := 16) (oi := { dst := some 66, op := Go.Op.move (Go.Operand.tmp 65), type := 4, pos := "more.go:52", after := #[{ on := 15, ground := Go.Ground.data }, { on := 7, ground := Go.Ground.chain }], guard := none }) (v := ?_) rfl (by kernel_rfl) (by kernel_rfl) (by kernel_rfl) (fun _ _ _ h => h) (Or.inl ⟨by rfl, ?hy80⟩) hs0 ?_
        case hy80 =>
          intro u hu
          obtain ⟨u0, u1, u2, u3, u4⟩ := hu
          go_simp
          try with_reducible rfl
        simp only [Act.put, List.setIfInBounds_toArray, List.set_cons_zero, List.set_cons_succ]
        refine wpAnyH_take (i := 17) (oi := { dst := some 67, op := Go.Op.fieldAddr 35 (Go.Operand.tmp 10) 5, type := 0, pos := "more.go:52", after := #[{ on := 16, ground := Go.Ground.guard }], guard := some (16, false) }) (v := ?_) rfl (by kernel_rfl) (by kernel_rfl) (by kernel_rfl) (fun _ _ _ h => h) (Or.inl ⟨by rfl, ?hy81⟩) hs0 ?_
        case hy81 =>
          intro u hu
          obtain ⟨u0, u1, u2, u3, u4⟩ := hu
          go_simp
          try with_reducible rfl
        simp only [Act.put, List.setIfInBounds_toArray, List.set_cons_zero, List.set_cons_succ]
        refine wpAnyH_take (i := 18) (oi := { dst := some 68, op := Go.Op.load 3 (Go.Operand.tmp 67), type := 3, pos := "more.go:52", after := #[{ on := 17, ground := Go.Ground.data }, { on := 16, ground := Go.Ground.guard }], guard := some (16, false) }) (v := ?_) rfl (by kernel_rfl) (by kernel_rfl) (by kernel_rfl) (fun _ _ _ h => h) (Or.inl ⟨by rfl, ?hy82⟩) hs0 ?_
        case hy82 =>
          intro u hu
          obtain ⟨u0, u1, u2, u3, u4⟩ := hu
          go_simp
          try with_reducible rfl
        simp only [Act.put, List.setIfInBounds_toArray, List.set_cons_zero, List.set_cons_succ]
        refine wpAnyH_take (i := 19) (oi := { dst := some 69, op := Go.Op.binOp Go.BinOp.neq 3 (Go.Operand.tmp 68) (Go.Operand.const (Go.Value.int Go.IntKind.i64 3)) 3, type := 4, pos := "more.go:52", after := #[{ on := 18, ground := Go.Ground.data }, { on := 16, ground := Go.Ground.guard }], guard := some (16, false) }) (v := ?_) rfl (by kernel_rfl) (by kernel_rfl) (by kernel_rfl) (fun _ _ _ h => h) (Or.inl ⟨by rfl, ?hy83⟩) hs0 ?_
        case hy83 =>
          intro u hu
          obtain ⟨u0, u1, u2, u3, u4⟩ := hu
          go_simp
          try with_reducible rfl
        simp only [Act.put, List.setIfInBounds_toArray, List.set_cons_zero, List.set_cons_succ]
        refine wpAnyH_take (i := 20) (oi := { dst := some 70, op := Go.Op.pick (Go.Operand.tmp 66) (Go.Operand.const (Go.Value.bool true)) (Go.Operand.tmp 69), type := 4, pos := "more.go:52", after := #[{ on := 16, ground := Go.Ground.data }, { on := 19, ground := Go.Ground.data }], guard := none }) (v := ?_) rfl (by kernel_rfl) (by kernel_rfl) (by kernel_rfl) (fun _ _ _ h => h) (Or.inl ⟨by rfl, ?hy84⟩) hs0 ?_
        case hy84 =>
          intro u hu
          obtain ⟨u0, u1, u2, u3, u4⟩ := hu
          go_simp
          try with_reducible rfl
        simp only [Act.put, List.setIfInBounds_toArray, List.set_cons_zero, List.set_cons_succ]
        refine wpAnyH_done (by kernel_rfl) ?_ _
        go_wp2_with fail
        go_roundw
        case rel => exact ⟨k + 1, hlt, by go_num, HX4.out, HB4.out.drew⟩
        case measure => simp [intOf]; omega
      · have HRk := HSB.out 7 (by omega) (by omega)
        have hix : (Instr.index 60 (.agg #[.int .u8 3, .int .u8 4, .int .u8 5, .int .u8 6, .int .u8 7]) (.int .i64 (k : Int))).run Tryd.prog wr = .ok (.int .u8 7) wr := by rw [hk0]; exact ops_4 wr
        have HK0 := hide hk0
        have hltI : (k : Int) < 5 := by omega
        clear hk0
        obtain ⟨W2, HW2⟩ := named ((wr.alloc (.cells #[.int .u8 1, .int .i64 1, .int .i64 0, .int .i64 0, .int .i64 b, .string ⟨#[]⟩, .int .u8 7, .int .i64 2, .int .i64 0, .int .i64 1, .int .i64 0, .string ⟨#[]⟩, .int .u8 15, .int .i64 2, .int .i64 0, .int .i64 0, .int .i64 0, .string ⟨#[]⟩] 52)).alloc (.cells #[.string ⟨#[112]⟩, .int .i64 3, .slice (some ⟨wr.heap.size, 0, none⟩) 3 3] 24))
        have hc2 : RdC W2 (.slice (some ⟨wr.heap.size, 0, none⟩) 3 3) (sgnC 7 b) := by
          rw [HW2.out]
          exact (RdC.of (RdX.lit wr #[.int .u8 1, .int .i64 1, .int .i64 0, .int .i64 0, .int .i64 b, .string ⟨#[]⟩, .int .u8 7, .int .i64 2, .int .i64 0, .int .i64 1, .int .i64 0, .string ⟨#[]⟩, .int .u8 15, .int .i64 2, .int .i64 0, .int .i64 0, .int .i64 0, .string ⟨#[]⟩] 6 3 ((sgnC 7 b).map insC) 52 rfl rfl (full_in _) (by unfold maxLen; omega))).alloc _
        have hb2 : Below wr.heap.size wr W2 := by rw [HW2.out]; exact ((Below.refl _ _).alloc (Nat.le_refl _) _).alloc (by simp) _
        have HB2 := hide (below_call HB.out hb2)
        have hrun := HRN.out 7 (by omega) (by omega) _ W2 (HK.out.below HB2.out) hc2
        rw [HRk] at hrun
        have HRUN : Hid (Calls Tryd.prog 17 #[.agg #[.string ⟨#[112]⟩, .int .i64 3, .slice (some ⟨wr.heap.size, 0, none⟩) 3 3], .int .i64 a, .slice none 0 0, .slice none 0 0, .int .i64 10] W2 fun e w' => ∃ ao cap, e = .returned (.tuple #[.agg #[.int .i64 1, .int .i64 0, .int .i64 y7, .int .i64 0, .slice ao 0 cap, .int .i64 0, .int .i64 3], .int .i64 0]) ∧ Below W2.heap.size W2 w') := hrun
        have HXk := hide (HXr.out.below hb2)
        clear hrun hb2 hc2 HRk
        go_wp2_with fail
        rw [← HW2.out]
        (with_reducible refine Calls.mono HRUN.out ?_)
        rintro e w3 ⟨ao, cap, rfl, hb3⟩
        have HB3 := hide (below_call HB2.out hb3)
        have hx3 := HXk.out.below hb3
        obtain ⟨W4, HW4⟩ := named (w3.alloc (.cells #[.int .i64 1, .int .i64 0, .int .i64 y7, .int .i64 0, .slice ao 0 cap, .int .i64 0, .int .i64 3] 35))
        obtain ⟨rb, HRB⟩ := named w3.heap.size
        have xr4 : RC 7 W4 rb (fun k => ([.int .i64 1, .int .i64 0, .int .i64 y7, .int .i64 0, .slice ao 0 cap, .int .i64 0, .int .i64 3] : List Value).getD k undef) := by
          rw [HW4.out, HRB.out]
          refine RC.new w3 _ 35 _ (fun k hk => ?_)
          rcases (show k = 0 ∨ k = 1 ∨ k = 2 ∨ k = 3 ∨ k = 4 ∨ k = 5 ∨ k = 6 by omega) with rfl | rfl | rfl | rfl | rfl | rfl | rfl <;> rfl
        have hx4 : RC 5 W4 pb (fun k => ([.int .i64 y3, .int .i64 y4, .int .i64 y5, .int .i64 y6, .int .i64 y7] : List Value).getD k undef) := by rw [HW4.out]; exact hx3.alloc _
        have HX4 := hide hx4
        have HB4 : Hid (Below w.heap.size w W4) := by show Below _ _ _; rw [HW4.out]; exact HB3.out.alloc HB3.out.size _
        have v0 : W4.drew.cell? ⟨rb, 0, none⟩ = some (.int .i64 1) := xr4.2.1 0 (by omega)
        have v1 : W4.drew.cell? ⟨rb, 1, none⟩ = some (.int .i64 0) := xr4.2.1 1 (by omega)
        have v2 : W4.drew.cell? ⟨rb, 2, none⟩ = some (.int .i64 y7) := xr4.2.1 2 (by omega)
        have v6 : W4.drew.cell? ⟨rb, 6, none⟩ = some (.int .i64 3) := xr4.2.1 6 (by omega)
        have vw : W4.drew.cell? ⟨pb, k, none⟩ = some (.int .i64 y7) := by have := hx4.2.1 k (by omega); rw [HK0.out] at this ⊢; exact this
        have hs0 : W4.drew.cell? ⟨rb, 0, none⟩ = some (.int .i64 1) ∧ W4.drew.cell? ⟨rb, 1, none⟩ = some (.int .i64 0) ∧ W4.drew.cell? ⟨rb, 2, none⟩ = some (.int .i64 y7) ∧ W4.drew.cell? ⟨rb, 6, none⟩ = some (.int .i64 3) ∧ W4.drew.cell? ⟨pb, k, none⟩ = some (.int .i64 y7) := ⟨v0, v1, v2, v6, vw⟩
        clear hb3 hx3 xr4 hx4 v0 v1 v2 v6 vw
        go_wp2_with fail
        rw [← HW4.out, ← HRB.out]
        refine wp_region_held_drew (S := (fun w' => w'.cell? ⟨rb, 0, none⟩ = some (.int .i64 1) ∧ w'.cell? ⟨rb, 1, none⟩ = some (.int .i64 0) ∧ w'.cell? ⟨rb, 2, none⟩ = some (.int .i64 y7) ∧ w'.cell? ⟨rb, 6, none⟩ = some (.int .i64 3) ∧ w'.cell? ⟨pb, k, none⟩ = some (.int .i64 y7))) (by kernel_rfl) hs0 (fun _ => ?_)
        refine wpAnyH_take (i := 0) (oi := { dst := some 50, op := Go.Op.move (Go.Operand.tmp 11), type := 36, pos := "more.go:52", after := #[], guard := none }) (v := ?_) rfl (by kernel_rfl) (by kernel_rfl) (by kernel_rfl) (fun _ _ _ h => h) (Or.inl ⟨by rfl, ?hy85⟩) hs0 ?_
        case hy85 =>
          intro u hu
          obtain ⟨u0, u1, u2, u3, u4⟩ := hu
          go_simp
          try with_reducible rfl
        simp only [Act.put, List.setIfInBounds_toArray, List.set_cons_zero, List.set_cons_succ]
        refine wpAnyH_take (i := 1) (oi := { dst := some 51, op := Go.Op.binOp Go.BinOp.neq 36 (Go.Operand.tmp 50) (Go.Operand.const (Go.Value.int Go.IntKind.i64 0)) 36, type := 4, pos := "more.go:52", after := #[{ on := 0, ground := Go.Ground.data }], guard := none }) (v := ?_) rfl (by kernel_rfl) (by kernel_rfl) (by kernel_rfl) (fun _ _ _ h => h) (Or.inl ⟨by rfl, ?hy86⟩) hs0 ?_
        case hy86 =>
          intro u hu
          obtain ⟨u0, u1, u2, u3, u4⟩ := hu
          go_simp
          try with_reducible rfl
        simp only [Act.put, List.setIfInBounds_toArray, List.set_cons_zero, List.set_cons_succ]
        refine wpAnyH_take (i := 2) (oi := { dst := some 52, op := Go.Op.move (Go.Operand.tmp 51), type := 4, pos := "more.go:52", after := #[{ on := 1, ground := Go.Ground.data }], guard := none }) (v := ?_) rfl (by kernel_rfl) (by kernel_rfl) (by kernel_rfl) (fun _ _ _ h => h) (Or.inl ⟨by rfl, ?hy87⟩) hs0 ?_
        case hy87 =>
          intro u hu
          obtain ⟨u0, u1, u2, u3, u4⟩ := hu
          go_simp
          try with_reducible rfl
        simp only [Act.put, List.setIfInBounds_toArray, List.set_cons_zero, List.set_cons_succ]
        refine wpAnyH_take (i := 3) (oi := { dst := some 53, op := Go.Op.fieldAddr 35 (Go.Operand.tmp 10) 0, type := 0, pos := "more.go:52", after := #[{ on := 2, ground := Go.Ground.guard }], guard := some (2, false) }) (v := ?_) rfl (by kernel_rfl) (by kernel_rfl) (by kernel_rfl) (fun _ _ _ h => h) (Or.inl ⟨by rfl, ?hy88⟩) hs0 ?_
        case hy88 =>
          intro u hu
          obtain ⟨u0, u1, u2, u3, u4⟩ := hu
          go_simp
          try with_reducible rfl
        simp only [Act.put, List.setIfInBounds_toArray, List.set_cons_zero, List.set_cons_succ]
        refine wpAnyH_take (i := 4) (oi := { dst := some 54, op := Go.Op.load 3 (Go.Operand.tmp 53), type := 3, pos := "more.go:52", after := #[{ on := 3, ground := Go.Ground.data }, { on := 2, ground := Go.Ground.guard }], guard := some (2, false) }) (v := ?_) rfl (by kernel_rfl) (by kernel_rfl) (by kernel_rfl) (fun _ _ _ h => h) (Or.inl ⟨by rfl, ?hy89⟩) hs0 ?_
        case hy89 =>
          intro u hu
          obtain ⟨u0, u1, u2, u3, u4⟩ := hu
          go_simp
          try with_reducible rfl
        simp only [Act.put, List.setIfInBounds_toArray, List.set_cons_zero, List.set_cons_succ]
        refine wpAnyH_take (i := 5) (oi := { dst := some 55, op := Go.Op.binOp Go.BinOp.neq 3 (Go.Operand.tmp 54) (Go.Operand.const (Go.Value.int Go.IntKind.i64 1)) 3, type := 4, pos := "more.go:52", after := #[{ on := 4, ground := Go.Ground.data }, { on := 2, ground := Go.Ground.guard }], guard := some (2, false) }) (v := ?_) rfl (by kernel_rfl) (by kernel_rfl) (by kernel_rfl) (fun _ _ _ h => h) (Or.inl ⟨by rfl, ?hy90⟩) hs0 ?_
        case hy90 =>
          intro u hu
          obtain ⟨u0, u1, u2, u3, u4⟩ := hu
          go_simp
          try with_reducible rfl
        simp only [Act.put, List.setIfInBounds_toArray, List.set_cons_zero, List.set_cons_succ]
        refine wpAnyH_take (i := 6) (oi := { dst := some 56, op := Go.Op.pick (Go.Operand.tmp 52) (Go.Operand.const (Go.Value.bool true)) (Go.Operand.tmp 55), type := 4, pos := "more.go:52", after := #[{ on := 2, ground := Go.Ground.data }, { on := 5, ground := Go.Ground.data }], guard := none }) (v := ?_) rfl (by kernel_rfl) (by kernel_rfl) (by kernel_rfl) (fun _ _ _ h => h) (Or.inl ⟨by rfl, ?hy91⟩) hs0 ?_
        case hy91 =>
          intro u hu
          obtain ⟨u0, u1, u2, u3, u4⟩ := hu
          go_simp
          try with_reducible rfl
        simp only [Act.put, List.setIfInBounds_toArray, List.set_cons_zero, List.set_cons_succ]
        refine wpAnyH_take (i := 7) (oi := { dst := some 57, op := Go.Op.move (Go.Operand.tmp 56), type := 4, pos := "more.go:52", after := #[{ on := 6, ground := Go.Ground.data }, { on := 2, ground := Go.Ground.chain }], guard := none }) (v := ?_) rfl (by kernel_rfl) (by kernel_rfl) (by kernel_rfl) (fun _ _ _ h => h) (Or.inl ⟨by rfl, ?hy92⟩) hs0 ?_
        case hy92 =>
          intro u hu
          obtain ⟨u0, u1, u2, u3, u4⟩ := hu
          go_simp
          try with_reducible rfl
        simp only [Act.put, List.setIfInBounds_toArray, List.set_cons_zero, List.set_cons_succ]
        refine wpAnyH_take (i := 8) (oi := { dst := some 58, op := Go.Op.fieldAddr 35 (Go.Operand.tmp 10) 1, type := 0, pos := "more.go:52", after := #[{ on := 7, ground := Go.Ground.guard }], guard := some (7, false) }) (v := ?_) rfl (by kernel_rfl) (by kernel_rfl) (by kernel_rfl) (fun _ _ _ h => h) (Or.inl ⟨by rfl, ?hy93⟩) hs0 ?_
        case hy93 =>
          intro u hu
          obtain ⟨u0, u1, u2, u3, u4⟩ := hu
          go_simp
          try with_reducible rfl
        simp only [Act.put, List.setIfInBounds_toArray, List.set_cons_zero, List.set_cons_succ]
        refine wpAnyH_take (i := 9) (oi := { dst := some 59, op := Go.Op.load 32 (Go.Operand.tmp 58), type := 32, pos := "more.go:52", after := #[{ on := 8, ground := Go.Ground.data }, { on := 7, ground := Go.Ground.guard }], guard := some (7, false) }) (v := ?_) rfl (by kernel_rfl) (by kernel_rfl) (by kernel_rfl) (fun _ _ _ h => h) (Or.inl ⟨by rfl, ?hy94⟩) hs0 ?_
        case hy94 =>
          intro u hu
          obtain ⟨u0, u1, u2, u3, u4⟩ := hu
          go_simp
          try with_reducible rfl
        simp only [Act.put, List.setIfInBounds_toArray, List.set_cons_zero, List.set_cons_succ]
        refine wpAnyH_take (i := 10) (oi := { dst := some 60, op := Go.Op.move (Go.Operand.tmp 7), type := 3, pos := "more.go:52", after := #[{ on := 7, ground := Go.Ground.guard }], guard := some (7, false) }) (v := ?_) rfl (by kernel_rfl) (by kernel_rfl) (by kernel_rfl) (fun _ _ _ h => h) (Or.inl ⟨by rfl, ?hy95⟩) hs0 ?_
        case hy95 =>
          intro u hu
          obtain ⟨u0, u1, u2, u3, u4⟩ := hu
          go_simp
          try with_reducible rfl
        simp only [Act.put, List.setIfInBounds_toArray, List.set_cons_zero, List.set_cons_succ]
        refine wpAnyH_take (i := 11) (oi := { dst := some 61, op := Go.Op.indexAddr 59 (Go.Operand.tmp 6) (Go.Operand.tmp 60), type := 0, pos := "more.go:52", after := #[{ on := 10, ground := Go.Ground.data }, { on := 7, ground := Go.Ground.guard }], guard := some (7, false) }) (v := ?_) rfl (by kernel_rfl) (by kernel_rfl) (by kernel_rfl) (fun _ _ _ h => h) (Or.inl ⟨by rfl, ?hy96⟩) hs0 ?_
        case hy96 =>
          intro u hu
          obtain ⟨u0, u1, u2, u3, u4⟩ := hu
          go_simp
          try with_reducible rfl
        simp only [Act.put, List.setIfInBounds_toArray, List.set_cons_zero, List.set_cons_succ]
        refine wpAnyH_take (i := 12) (oi := { dst := some 62, op := Go.Op.load 2 (Go.Operand.tmp 61), type := 2, pos := "more.go:52", after := #[{ on := 11, ground := Go.Ground.data }, { on := 7, ground := Go.Ground.guard }], guard := some (7, false) }) (v := ?_) rfl (by kernel_rfl) (by kernel_rfl) (by kernel_rfl) (fun _ _ _ h => h) (Or.inl ⟨by rfl, ?hy97⟩) hs0 ?_
        case hy97 =>
          intro u hu
          obtain ⟨u0, u1, u2, u3, u4⟩ := hu
          go_simp
          try with_reducible rfl
        simp only [Act.put, List.setIfInBounds_toArray, List.set_cons_zero, List.set_cons_succ]
        refine wpAnyH_take (i := 13) (oi := { dst := some 63, op := Go.Op.build 32 #[(1, Go.Operand.tmp 62)], type := 32, pos := "more.go:52", after := #[{ on := 12, ground := Go.Ground.data }, { on := 7, ground := Go.Ground.guard }], guard := some (7, false) }) (v := ?_) rfl (by kernel_rfl) (by kernel_rfl) (by kernel_rfl) (fun _ _ _ h => h) (Or.inl ⟨by rfl, ?hy98⟩) hs0 ?_
        case hy98 =>
          intro u hu
          obtain ⟨u0, u1, u2, u3, u4⟩ := hu
          go_simp
          try with_reducible rfl
        simp only [Act.put, List.setIfInBounds_toArray, List.set_cons_zero, List.set_cons_succ]
        refine wpAnyH_take (i := 14) (oi := { dst := some 64, op := Go.Op.binOp Go.BinOp.neq 32 (Go.Operand.tmp 59) (Go.Operand.tmp 63) 32, type := 4, pos := "more.go:52", after := #[{ on := 9, ground := Go.Ground.data }, { on := 13, ground := Go.Ground.data }, { on := 7, ground := Go.Ground.guard }], guard := some (7, false) }) (v := ?_) rfl (by kernel_rfl) (by kernel_rfl) (by kernel_rfl) (fun _ _ _ h => h) (Or.inl ⟨by rfl, ?hy99⟩) hs0 ?_
        case hy99 =>
          intro u hu
          obtain ⟨u0, u1, u2, u3, u4⟩ := hu
          go_simp
          try with_reducible rfl
        simp only [Act.put, List.setIfInBounds_toArray, List.set_cons_zero, List.set_cons_succ]
        refine wpAnyH_take (i := 15) (oi := { dst := some 65, op := Go.Op.pick (Go.Operand.tmp 57) (Go.Operand.const (Go.Value.bool true)) (Go.Operand.tmp 64), type := 4, pos := "more.go:52", after := #[{ on := 7, ground := Go.Ground.data }, { on := 14, ground := Go.Ground.data }], guard := none }) (v := ?_) rfl (by kernel_rfl) (by kernel_rfl) (by kernel_rfl) (fun _ _ _ h => h) (Or.inl ⟨by rfl, ?hy100⟩) hs0 ?_
        case hy100 =>
          intro u hu
          obtain ⟨u0, u1, u2, u3, u4⟩ := hu
          go_simp
          try with_reducible rfl
        simp only [Act.put, List.setIfInBounds_toArray, List.set_cons_zero, List.set_cons_succ]
        refine wpAnyH_take (i := 16) (oi := { dst := some 66, op := Go.Op.move (Go.Operand.tmp 65), type := 4, pos := "more.go:52", after := #[{ on := 15, ground := Go.Ground.data }, { on := 7, ground := Go.Ground.chain }], guard := none }) (v := ?_) rfl (by kernel_rfl) (by kernel_rfl) (by kernel_rfl) (fun _ _ _ h => h) (Or.inl ⟨by rfl, ?hy101⟩) hs0 ?_
        case hy101 =>
          intro u hu
          obtain ⟨u0, u1, u2, u3, u4⟩ := hu
          go_simp
          try with_reducible rfl
        simp only [Act.put, List.setIfInBounds_toArray, List.set_cons_zero, List.set_cons_succ]
        refine wpAnyH_take (i := 17) (oi := { dst := some 67, op := Go.Op.fieldAddr 35 (Go.Operand.tmp 10) 5, type := 0, pos := "more.go:52", after := #[{ on := 16, ground := Go.Ground.guard }], guard := some (16, false) }) (v := ?_) rfl (by kernel_rfl) (by kernel_rfl) (by kernel_rfl) (fun _ _ _ h => h) (Or.inl ⟨by rfl, ?hy102⟩) hs0 ?_
        case hy102 =>
          intro u hu
          obtain ⟨u0, u1, u2, u3, u4⟩ := hu
          go_simp
          try with_reducible rfl
        simp only [Act.put, List.setIfInBounds_toArray, List.set_cons_zero, List.set_cons_succ]
        refine wpAnyH_take (i := 18) (oi := { dst := some 68, op := Go.Op.load 3 (Go.Operand.tmp 67), type := 3, pos := "more.go:52", after := #[{ on := 17, ground := Go.Ground.data }, { on := 16, ground := Go.Ground.guard }], guard := some (16, false) }) (v := ?_) rfl (by kernel_rfl) (by kernel_rfl) (by kernel_rfl) (fun _ _ _ h => h) (Or.inl ⟨by rfl, ?hy103⟩) hs0 ?_
        case hy103 =>
          intro u hu
          obtain ⟨u0, u1, u2, u3, u4⟩ := hu
          go_simp
          try with_reducible rfl
        simp only [Act.put, List.setIfInBounds_toArray, List.set_cons_zero, List.set_cons_succ]
        refine wpAnyH_take (i := 19) (oi := { dst := some 69, op := Go.Op.binOp Go.BinOp.neq 3 (Go.Operand.tmp 68) (Go.Operand.const (Go.Value.int Go.IntKind.i64 3)) 3, type := 4, pos := "more.go:52", after := #[{ on := 18, ground := Go.Ground.data }, { on := 16, ground := Go.Ground.guard }], guard := some (16, false) }) (v := ?_) rfl (by kernel_rfl) (by kernel_rfl) (by kernel_rfl) (fun _ _ _ h => h) (Or.inl ⟨by rfl, ?hy104⟩) hs0 ?_
        case hy104 =>
          intro u hu
          obtain ⟨u0, u1, u2, u3, u4⟩ := hu
          go_simp
          try with_reducible rfl
        simp only [Act.put, List.setIfInBounds_toArray, List.set_cons_zero, List.set_cons_succ]
        refine wpAnyH_take (i := 20) (oi := { dst := some 70, op := Go.Op.pick (Go.Operand.tmp 66) (Go.Operand.const (Go.Value.bool true)) (Go.Operand.tmp 69), type := 4, pos := "more.go:52", after := #[{ on := 16, ground := Go.Ground.data }, { on := 19, ground := Go.Ground.data }], guard := none }) (v := ?_) rfl (by kernel_rfl) (by kernel_rfl) (by kernel_rfl) (fun _ _ _ h => h) (Or.inl ⟨by rfl, ?hy105⟩) hs0 ?_
        case hy105 =>
          intro u hu
          obtain ⟨u0, u1, u2, u3, u4⟩ := hu
          go_simp
          try with_reducible rfl
        simp only [Act.put, List.setIfInBounds_toArray, List.set_cons_zero, List.set_cons_succ]
        refine wpAnyH_done (by kernel_rfl) ?_ _
        go_wp2_with fail
        go_roundw
        case rel => exact ⟨k + 1, hlt, by go_num, HX4.out, HB4.out.drew⟩
        case measure => simp [intOf]; omega
    · have hkn : k = 5 := by omega
      subst hkn
      have haw := awake_true wr (HK.out.below HB.out)
      go_wp2_with fail
      (with_reducible refine Calls.mono haw ?_)
      rintro e w9 ⟨rfl, hb9⟩
      have HB9 := hide (below_call HB.out hb9)
      clear hb9 haw
      go_wp2
      go_ret
      exact ⟨rfl, HB9.out⟩
end Go.Proofs.YtlngeonfabahnaaDoor
