/-
  The law HeapAny answers true at every input, and changes nothing that was there: in which order timers are put says nothing, nor do timers that are put and struck out again between. No condition.
-/
import Derived.Test.YtemlanalaihkoaaRows
import Derived.Test.YtemlanalaihkoaaLAny
import Derived.Test.YtemlanalaihkoaaHin
import Derived.Test.YtemlanalaihkoaaHi
import Derived.Below
import Derived.WalkKit
import Derived.ProofKit
import Derived.OpenShut
import Derived.ShutString
import Derived.ChangeOld
namespace Go.Proofs.Ytemlanalaihkoaa.heapAny
open Go.ChangeShapes Go.WideShapes Go.ChangeAt Go.RowKit
open Go.ChangeMaps (open_string shut_string)
set_option linter.unusedVariables false

theorem own : ownKnob Try.prog.godebug = none := by kernel_rfl
theorem laidOut : laidOutB Try.prog = true := by kernel_rfl

set_option maxRecDepth 100000 in
theorem lifted (os : Os) (started : os.Started) (H : Type) (enc : TypeId × Value → H) :
    ReturnsInHanded {} Try.checked os 8 .any (Rows.heapAnySpec.pre6 enc Try.prog Try.f8 Rows.heapAnyRow.domain false) (Rows.heapAnySpec.post enc Try.prog Try.f8 false true false false) := by
  refine returnsInHanded_of_change (C := Try.checked) own started (by kernel_rfl) Try.func8
    (ChangeSpec.witness6 (enc := enc) (C := Try.checked) false ⟨#[], #[.slice none 0 0, .slice none 0 0, .agg #[.int .i64 0, .int .i64 0]], []⟩ 8 (by kernel_rfl) (by kernel_rfl) (by kernel_rfl) (by kernel_rfl)) ?_
  intro W base args ds gs before hval0 hW hcnd _
  have hval : ∀ (j : Nat) t v, Try.f8.params[j]? = some t → args[j]? = some v → Value.okWide Try.prog W .any base t v := hval0
  have hW' := hW
  obtain ⟨p, q, hA0, hV, rfl, hfz, hnd⟩ := hW
  have hA : DataW.TrodAll enc Try.prog W 0 (fun _ => true) true Try.f8.params.toList args.toList ds p := hA0
  rw [Try.params8] at hA hval
  obtain ⟨v0, vs0, d0, ds0, p0, q0, hargs0, rfl, rfl, h0, r0⟩ := trodAll_cons hA
  obtain ⟨v1, vs1, d1, ds1, p1, q1, hargs1, rfl, rfl, h1, r1⟩ := trodAll_cons r0
  obtain ⟨v2, vs2, d2, ds2, p2, q2, hargs2, rfl, rfl, h2, r2⟩ := trodAll_cons r1
  obtain ⟨rfl, rfl, rfl⟩ := trodAll_nil r2
  obtain rfl : args = #[v0, v1, v2] := by cases args; simp_all
  obtain ⟨rfl, rfl⟩ := trodVars_none hV
  obtain ⟨a0, len0, cap0, e0⟩ := okWide_slice Try.underlying38 (hval 0 38 v0 rfl rfl)
  have k0 := h0
  have lt0 : ∀ x ∈ p0, x.block < W.heap.size := by obtain ⟨m, hm⟩ := k0; exact DataW.trod_lt m _ _ _ hm
  obtain ⟨x0, r0', b0⟩ : ∃ l, RdT W v0 l ∧ ∀ x ∈ l, I64 x.1 ∧ I64 x.2 := by
    obtain ⟨fuel, hf⟩ := h0
    subst e0
    exact timers_of hf
  obtain ⟨a1, len1, cap1, e1⟩ := okWide_slice Try.underlying72 (hval 1 72 v1 rfl rfl)
  have k1 := h1
  have lt1 : ∀ x ∈ p1, x.block < W.heap.size := by obtain ⟨m, hm⟩ := k1; exact DataW.trod_lt m _ _ _ hm
  obtain ⟨x1, r1'⟩ : ∃ l, RdU W v1 l := by
    obtain ⟨fuel, hf⟩ := h1
    subst e1
    exact bytes_of hf
  obtain ⟨xs2, e2⟩ := agg_of30 (hval 2 30 v2 rfl rfl)
  have k2 := h2
  have lt2 : ∀ x ∈ p2, x.block < W.heap.size := by obtain ⟨m, hm⟩ := k2; exact DataW.trod_lt m _ _ _ hm
  obtain ⟨t2, c2, ta2, tb2⟩ : ∃ t : Tm, xs2 = #[.int .i64 t.1, .int .i64 t.2] ∧ I64 t.1 ∧ I64 t.2 := by
    obtain ⟨fuel, hf⟩ := h2
    subst e2
    have hf' : DataW.trod enc Try.prog W 0 (fun _ => true) true fuel 30 xs2.toList = some (d2, p2) := hf
    obtain ⟨t, hd, g1, g2⟩ := timer_of hf'
    exact ⟨t, by rw [← Array.toArray_toList (xs := xs2), hd], g1, g2⟩
  subst c2
  subst e2
  clear hA0 hval0
  refine (any_walk W v0 x0 r0' b0 v1 x1 r1' t2 ⟨ta2, tb2⟩).mono fun e W' ⟨he, bel⟩ => ?_
  subst he
  exact ⟨_, rfl, _, _, _, [], _, [], hW', trodAll_mk1 (shut_bool Try.underlying4 _), (trodAll_cons_mk (Below.trod laidOut (by kernel_rfl) (of_decide_eq_true (by kernel_rfl)) k0 bel lt0) (trodAll_cons_mk (Below.trod laidOut (by kernel_rfl) (of_decide_eq_true (by kernel_rfl)) k1 bel lt1) (trodAll_cons_mk (Below.trod laidOut (by kernel_rfl) (of_decide_eq_true (by kernel_rfl)) k2 bel lt2) trodAll_mk0))), rfl, bel.frame _, fun h => by cases h⟩

theorem over : Rows.heapAnyRow.holds Try.pinned (OpenSpec.ofChange Rows.heapAnySpec) :=
  OpenClaim.holds_of_wide 8 Try.f8 rfl rfl rfl rfl rfl rfl rfl ⟨rfl, rfl, rfl, rfl, rfl⟩ rfl rfl rfl rfl rfl (by kernel_rfl) Try.func8 (by kernel_rfl)
    (of_decide_eq_true (by kernel_rfl)) (by unfold Func.isWrapper; first | (rw [if_pos (by decide +kernel)]; kernel_rfl) | (rw [if_neg (by decide +kernel)]; exact ⟨rfl, rfl⟩))
    (fun os started H enc _ => lifted os started H enc)

theorem proved : Rows.HeapAnySaid := over
end Go.Proofs.Ytemlanalaihkoaa.heapAny
namespace Go.Proofs.Ytemlanalaihkoaa
theorem heapAny_holds : Rows.HeapAnySaid := heapAny.proved
end Go.Proofs.Ytemlanalaihkoaa
