/-
  The contracts of Same, Pay. Own work.
-/
import Derived.Test.YtlngeonfabahnaaDoorLa
namespace Go.Proofs.YtlngeonfabahnaaDoor
open Go Go.RowKit
set_option linter.unusedSimpArgs false
set_option linter.unusedVariables false

/-- do two stand the same? -/
def Alike (s u : St) : Prop := s.at_ = u.at_ ∧ s.ost = u.ost ∧ s.ova = u.ova ∧ s.on = u.on ∧ s.sig = u.sig ∧ s.steps = u.steps ∧ s.cmds = u.cmds
instance (s u : St) : Decidable (Alike s u) := inferInstanceAs (Decidable (_ ∧ _))
theorem Alike.refl (s : St) : Alike s s := ⟨rfl, rfl, rfl, rfl, rfl, rfl, rfl⟩
theorem natI {a b : Nat} (h : ¬ a = b) : ¬ (a : Int) = (b : Int) := by omega
theorem natB {a b : Nat} (h : ¬ a = b) : ((a : Int) == (b : Int)) = false := beq_eq_false_iff_ne.2 (natI h)
theorem intB {a b : Int} (h : ¬ a = b) : (a == b) = false := beq_eq_false_iff_ne.2 h

set_option maxRecDepth 100000 in
set_option maxHeartbeats 1600000 in
theorem same_any {w : World} {s u : St} {v v' : Value} (hu : RdM w v s.cmds) (hv : RdM w v' u.cmds) :
    Calls Tryd.prog 14 #[stV s v, stV u v'] w fun e w' => e = .returned (.bool (decide (Alike s u))) ∧ Below w.heap.size w w' := by
  obtain ⟨x7, x8, a0, a1, a2, a3, l, a5, a6⟩ := s
  obtain ⟨y7, y8, b0, b1, b2, b3, m, b5, b6⟩ := u
  simp only at hu hv
  obtain ⟨ao, cap, rfl, hl⟩ := hu.shape
  obtain ⟨bo, dap, rfl, hm⟩ := hv.shape
  show Calls Tryd.prog 14 #[.agg #[.int .i64 (a0 : Int), .int .i64 a1, .int .i64 a2, .int .i64 a3, .slice ao l.length cap, .int .i64 (a5 : Int), .int .i64 (a6 : Int)], .agg #[.int .i64 (b0 : Int), .int .i64 b1, .int .i64 b2, .int .i64 b3, .slice bo m.length dap, .int .i64 (b5 : Int), .int .i64 (b6 : Int)]] w _
  obtain ⟨W, HW⟩ := named ((w.alloc (.cells #[.int .i64 (a0 : Int), .int .i64 a1, .int .i64 a2, .int .i64 a3, .slice ao l.length cap, .int .i64 (a5 : Int), .int .i64 (a6 : Int)] 35)).alloc (.cells #[.int .i64 (b0 : Int), .int .i64 b1, .int .i64 b2, .int .i64 b3, .slice bo m.length dap, .int .i64 (b5 : Int), .int .i64 (b6 : Int)] 35))
  have HBX : Hid (Below w.heap.size w ((w.alloc (.cells #[.int .i64 (a0 : Int), .int .i64 a1, .int .i64 a2, .int .i64 a3, .slice ao l.length cap, .int .i64 (a5 : Int), .int .i64 (a6 : Int)] 35)).alloc (.cells #[.int .i64 (b0 : Int), .int .i64 b1, .int .i64 b2, .int .i64 b3, .slice bo m.length dap, .int .i64 (b5 : Int), .int .i64 (b6 : Int)] 35))) := ((Below.refl _ _).alloc (Nat.le_refl _) _).alloc (by simp) _
  have HBW : Hid (Below w.heap.size w W) := by
    show Below _ _ _
    rw [HW.out]
    exact HBX.out
  by_cases h0 : a0 = b0
  · subst h0
    by_cases h1 : a1 = b1
    · subst h1
      by_cases h2 : a2 = b2
      · subst h2
        by_cases h3 : a3 = b3
        · subst h3
          by_cases h4 : a5 = b5
          · subst h4
            by_cases h5 : a6 = b6
            · subst h5
              have hca := sameCmds_any (w := W) (hu.below HBW.out) (hv.below HBW.out)
              obtain ⟨R, HR⟩ := named (decide (l = m))
              rw [← HR.out] at hca
              have hfin : decide (Alike ⟨x7, x8, a0, a1, a2, a3, l, a5, a6⟩ ⟨y7, y8, a0, a1, a2, a3, m, a5, a6⟩) = R := by
                rw [HR.out]
                by_cases e : l = m
                · rw [decide_eq_true e]; exact decide_eq_true ⟨rfl, rfl, rfl, rfl, rfl, rfl, e⟩
                · rw [decide_eq_false e]; exact decide_eq_false (fun k => e k.2.2.2.2.2.2)
              rw [hfin]
              clear hfin hu hv
              go_enter Tryd.func14, Tryd.ntmps14
              go_wp2_with fail
              rw [← HW.out]
              (with_reducible refine Calls.mono hca ?_)
              rintro e w2 ⟨rfl, hb2⟩
              have HB2 := hide (below_call HBW.out hb2)
              clear hb2 hca
              go_wp2
              go_ret
              exact ⟨rfl, HB2.out⟩
            · have hfin : decide (Alike ⟨x7, x8, a0, a1, a2, a3, l, a5, a6⟩ ⟨y7, y8, a0, a1, a2, a3, m, a5, b6⟩) = false := decide_eq_false (fun k => h5 k.2.2.2.2.2.1)
              rw [hfin]
              have hI := natI h5
              have hB := natB h5
              clear hfin hu hv h5
              go_enter Tryd.func14, Tryd.ntmps14
              go_wp2
              go_ret
              exact ⟨rfl, HBX.out⟩
          · have hfin : decide (Alike ⟨x7, x8, a0, a1, a2, a3, l, a5, a6⟩ ⟨y7, y8, a0, a1, a2, a3, m, b5, b6⟩) = false := decide_eq_false (fun k => h4 k.2.2.2.2.1)
            rw [hfin]
            have hI := natI h4
            have hB := natB h4
            clear hfin hu hv h4
            go_enter Tryd.func14, Tryd.ntmps14
            go_wp2
            go_ret
            exact ⟨rfl, HBX.out⟩
        · have hfin : decide (Alike ⟨x7, x8, a0, a1, a2, a3, l, a5, a6⟩ ⟨y7, y8, a0, a1, a2, b3, m, b5, b6⟩) = false := decide_eq_false (fun k => h3 k.2.2.2.1)
          rw [hfin]
          have hI := h3
          have hB := intB h3
          clear hfin hu hv h3
          go_enter Tryd.func14, Tryd.ntmps14
          go_wp2
          go_ret
          exact ⟨rfl, HBX.out⟩
      · have hfin : decide (Alike ⟨x7, x8, a0, a1, a2, a3, l, a5, a6⟩ ⟨y7, y8, a0, a1, b2, b3, m, b5, b6⟩) = false := decide_eq_false (fun k => h2 k.2.2.1)
        rw [hfin]
        have hI := h2
        have hB := intB h2
        clear hfin hu hv h2
        go_enter Tryd.func14, Tryd.ntmps14
        go_wp2
        go_ret
        exact ⟨rfl, HBX.out⟩
    · have hfin : decide (Alike ⟨x7, x8, a0, a1, a2, a3, l, a5, a6⟩ ⟨y7, y8, a0, b1, b2, b3, m, b5, b6⟩) = false := decide_eq_false (fun k => h1 k.2.1)
      rw [hfin]
      have hI := h1
      have hB := intB h1
      clear hfin hu hv h1
      go_enter Tryd.func14, Tryd.ntmps14
      go_wp2
      go_ret
      exact ⟨rfl, HBX.out⟩
  · have hfin : decide (Alike ⟨x7, x8, a0, a1, a2, a3, l, a5, a6⟩ ⟨y7, y8, b0, b1, b2, b3, m, b5, b6⟩) = false := decide_eq_false (fun k => h0 k.1)
    rw [hfin]
    have hI := natI h0
    have hB := natB h0
    clear hfin hu hv h0
    go_enter Tryd.func14, Tryd.ntmps14
    go_wp2
    go_ret
    exact ⟨rfl, HBX.out⟩

def payC : List Ins := [⟨10, 1, 0, 0, 0, ⟨#[112, 97, 121]⟩⟩, ⟨13, 0, 1, 2, 0, ⟨#[]⟩⟩, ⟨15, 0, 0, 0, 0, ⟨#[]⟩⟩]
def payP : Prg := ⟨⟨#[112]⟩, 3, payC⟩
/-- a literal row of instructions -/
theorem RdC.of {w : World} {v : Value} {l : List Ins} (h : RdX w v 6 (l.map insC)) : RdC w v l := by
  obtain ⟨ao, cap, hv, h1, h2, h3, h4⟩ := h
  rw [List.length_map] at hv h1
  refine ⟨ao, cap, hv, h1, h2, h3, fun k hk => ?_⟩
  obtain ⟨b, off, e, hc⟩ := h4 k (by simpa using hk)
  refine ⟨b, off, e, fun j u hu => hc j u ?_⟩
  rw [List.getElem_map]
  exact hu
set_option maxRecDepth 100000 in
theorem pay_any (w : World) : Calls Tryd.prog 20 #[] w fun e w' => ∃ cv, e = .returned (prgV payP cv) ∧ RdC w' cv payC ∧ Below w.heap.size w w' := by
  go_enter Tryd.func20, Tryd.ntmps20
  go_wp2
  obtain ⟨W1, HW1⟩ := named (w.alloc (.cells #[.string ⟨#[112]⟩, .int .i64 3, .slice (some ⟨w.heap.size + 1, 0, none⟩) 3 3] 24))
  have hz : W1.heap.size = w.heap.size + 1 := by rw [HW1.out]; simp
  have xc : RC 3 (W1.alloc (.cells #[.int .u8 10, .int .i64 1, .int .i64 0, .int .i64 0, .int .i64 0, .string ⟨#[112, 97, 121]⟩, .int .u8 13, .int .i64 0, .int .i64 1, .int .i64 2, .int .i64 0, .string ⟨#[]⟩, .int .u8 15, .int .i64 0, .int .i64 0, .int .i64 0, .int .i64 0, .string ⟨#[]⟩] 52)) w.heap.size (fun k => ([.string ⟨#[112]⟩, .int .i64 3, .slice (some ⟨w.heap.size + 1, 0, none⟩) 3 3] : List Value).getD k undef) := by
    rw [HW1.out]
    refine (RC.new w _ 24 _ (fun k hk => ?_)).alloc _
    rcases (show k = 0 ∨ k = 1 ∨ k = 2 by omega) with rfl | rfl | rfl <;> rfl
  have hb : Below w.heap.size w (W1.alloc (.cells #[.int .u8 10, .int .i64 1, .int .i64 0, .int .i64 0, .int .i64 0, .string ⟨#[112, 97, 121]⟩, .int .u8 13, .int .i64 0, .int .i64 1, .int .i64 2, .int .i64 0, .string ⟨#[]⟩, .int .u8 15, .int .i64 0, .int .i64 0, .int .i64 0, .int .i64 0, .string ⟨#[]⟩] 52)) := by
    rw [HW1.out]
    exact ((Below.refl _ _).alloc (Nat.le_refl _) _).alloc (by simp) _
  have hr := RdX.lit W1 #[.int .u8 10, .int .i64 1, .int .i64 0, .int .i64 0, .int .i64 0, .string ⟨#[112, 97, 121]⟩, .int .u8 13, .int .i64 0, .int .i64 1, .int .i64 2, .int .i64 0, .string ⟨#[]⟩, .int .u8 15, .int .i64 0, .int .i64 0, .int .i64 0, .int .i64 0, .string ⟨#[]⟩] 6 3 (payC.map insC) 52 rfl rfl (full_in _) (by unfold maxLen; omega)
  rw [hz] at hr
  rw [← HW1.out]
  have c0 := xc.2.1 0 (by omega)
  have c1 := xc.2.1 1 (by omega)
  have c2 := xc.2.1 2 (by omega)
  refine bodyPost_ret (v := .agg #[.string ⟨#[112]⟩, .int .i64 3, .slice (some ⟨w.heap.size + 1, 0, none⟩) 3 3]) (by simp [results, Tryd.results20, go_sem, c0, c1, c2]) rfl ?_
  exact ⟨_, rfl, RdC.of hr, hb⟩
end Go.Proofs.YtlngeonfabahnaaDoor
