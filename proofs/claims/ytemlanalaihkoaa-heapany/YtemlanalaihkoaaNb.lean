/-
  ahead, as the law has it; deletes from the map. Own work.
-/
import Derived.Test.YtemlanalaihkoaaNa
namespace Go.Proofs.Ytemlanalaihkoaa
open Go.RowKit Go.Sort

set_option maxRecDepth 100000 in
set_option maxHeartbeats 1600000 in
theorem aheadLaw_any (a b : Tm) (w : World) : Calls Try.prog 31 #[.agg #[.int .i64 a.1, .int .i64 a.2], .agg #[.int .i64 b.1, .int .i64 b.2]] w fun e w' => e = .returned (.bool (decide (Ah a b))) ∧ Below w.heap.size w w' := by
  obtain ⟨W, HW⟩ := named ((w.alloc (.cells #[.int .i64 a.1, .int .i64 a.2] 30)).alloc (.cells #[.int .i64 b.1, .int .i64 b.2] 30))
  have hB : Below w.heap.size w W := by rw [HW.out]; exact ((Below.refl _ _).alloc (Nat.le_refl _) _).alloc (by simp) _
  have hA : C2 W w.heap.size (.int .i64 a.1) (.int .i64 a.2) := by rw [HW.out]; exact (C2.new w _ _ 30).below ((Below.refl _ _).alloc (Nat.le_refl _) _)
  have hC : C2 W (w.heap.size + 1) (.int .i64 b.1) (.int .i64 b.2) := by rw [HW.out]; have := C2.new (w.alloc (.cells #[.int .i64 a.1, .int .i64 a.2] 30)) (.int .i64 b.1) (.int .i64 b.2) 30; simpa using this
  obtain ⟨-, a0, a1, -, -⟩ := hA
  obtain ⟨-, c0, c1, -, -⟩ := hC
  have HB := hide hB
  clear hB
  obtain ⟨x0, x1⟩ := a
  obtain ⟨y0, y1⟩ := b
  by_cases h1 : x0 < y0
  · rw [decide_eq_true (show Ah (x0, x1) (y0, y1) from .inl h1)]
    go_enter Try.func31, Try.ntmps31
    go_wp2_with (rw [← HW.out])
    go_ret
    exact ⟨rfl, HB.out⟩
  · by_cases h2 : x0 = y0
    · subst h2
      by_cases h3 : x1 < y1
      · rw [decide_eq_true (show Ah (x0, x1) (x0, y1) from .inr ⟨rfl, h3⟩)]
        go_enter Try.func31, Try.ntmps31
        go_wp2_with (rw [← HW.out])
        go_ret
        exact ⟨rfl, HB.out⟩
      · rw [decide_eq_false (show ¬ Ah (x0, x1) (x0, y1) from fun h => h.elim h1 fun h => h3 h.2)]
        go_enter Try.func31, Try.ntmps31
        go_wp2_with (rw [← HW.out])
        go_ret
        exact ⟨rfl, HB.out⟩
    · rw [decide_eq_false (show ¬ Ah (x0, x1) (y0, y1) from fun h => h.elim h1 fun h => h2 h.1)]
      have h4 : (x0 == y0) = false := by simpa using h2
      go_enter Try.func31, Try.ntmps31
      go_wp2_with (rw [← HW.out])
      go_ret
      exact ⟨rfl, HB.out⟩
/-- one is struck out of the heap: then out of the map -/
theorem HM.drop {B : Nat} {w0 w w1 : World} {h : Value} {most : Nat} {L : List Tm} {F : Nat → Prop} {mb : Nat} (q : HM B w0 w h most L F mb) (id : Int) (hi : I64 id) (k1 : Hp w1 h most (delL id L) F) (k2 : Step F w w1 F) :
    ∃ w2, (Builtin.delete_ #[65, 3] 0 #[.map (some mb), .int .i64 id]).run Try.prog w1 = .ok (.tuple #[]) w2 ∧ HM B w0 w2 h most (delL id L) F mb ∧ w1.grownBy w2 (some mb) := by
  obtain ⟨m1, -⟩ := q.mp.step k2 q.nb
  obtain ⟨w2, hr, hm, hg, -⟩ := m1.drop mt65 hi 0
  rw [LM_some q.hq.hp.srt, LM_del q.hq.hp.srt] at hm
  have hlen : (if hasL id L = true then L.length - 1 else L.length) = (delL id L).length := by
    cases hh : hasL id L with
    | true =>
      obtain ⟨x, hx, rfl⟩ := hasL_iff.1 hh
      have := len_del q.hq.hp.srt hx
      rw [if_pos rfl]; omega
    | false => rw [if_neg (by simp), del_none hh]
  rw [hlen] at hm
  exact ⟨w2, hr, ⟨(q.hq.step k1 k2).grown hg q.nb q.lo, hm, q.nb, q.lo⟩, hg⟩
theorem HM.step {B : Nat} {w0 w w1 : World} {h : Value} {most : Nat} {L : List Tm} {F : Nat → Prop} {mb : Nat} (q : HM B w0 w h most L F mb) (k1 : Hp w1 h most L F) (k2 : Step F w w1 F) : HM B w0 w1 h most L F mb :=
  ⟨q.hq.step k1 k2, (q.mp.step k2 q.nb).1, q.nb, q.lo⟩
end Go.Proofs.Ytemlanalaihkoaa
