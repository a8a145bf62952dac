/-
  The law DiskLeaves answers true at every input, and changes nothing that was there: whatever a crash keeps and tears, safe bytes are there as they were, and no byte stands where another one stood, but noughts. No condition.
-/
import Derived.Test.YtloigepmmhcibaaRows
import Derived.Test.YtloigepmmhcibaaLLeaves
import Derived.Test.YtloigepmmhcibaaDins
import Derived.Test.YtloigepmmhcibaaRin
import Derived.Below
import Derived.WalkKit
import Derived.ProofKit
import Derived.OpenShut
import Derived.ShutString
import Derived.ChangeOld
namespace Go.Proofs.Ytloigepmmhcibaa.diskLeaves
open Go.ChangeShapes Go.WideShapes Go.ChangeAt Go.RowKit
open Go.ChangeMaps (open_string shut_string)
set_option linter.unusedVariables false

theorem own : ownKnob Try.prog.godebug = none := by kernel_rfl
theorem laidOut : laidOutB Try.prog = true := by kernel_rfl

theorem ints_of {H : Type} {enc : TypeId × Value → H} {W : World} {fuel : Nat} {v : Value} {x : DataW H × List MemPlace} (hf : DataW.trod enc Try.prog W 0 (fun _ => true) true fuel 22 [v] = some x) : ∃ l, RdI W v l ∧ ∀ x ∈ l, x ≤ 9223372036854775807 := by
  rcases open_ints Try.underlying22 Try.underlying3 (by kernel_rfl) hf with ⟨hcs, _⟩ | ⟨x, l, c', zs, hcs, _, hle, hm, hz, _, hcell, hwz⟩
  · simp at hcs
    subst hcs
    exact ⟨[], RdI.nil W, fun x hx => absurd hx List.not_mem_nil⟩
  · simp at hcs
    subst hcs
    exact rdI_of_row W (some x) l c' zs (.inr ⟨x, rfl, hle, hm, by simpa using hz, hcell, hwz⟩)

theorem walk (w : World) (v0 : Value) (xs0 : List Dd) (r0 : RdD w v0 xs0) (v1 : Value) (l1 : List Int) (r1 : RdI w v1 l1) (m1 : ∀ x ∈ l1, x ≤ 9223372036854775807) (B1 : ∀ a, v1.ownBlock = some a → a < w.heap.size) (v2 : Value) (l2 : List Int) (r2 : RdI w v2 l2) (m2 : ∀ x ∈ l2, x ≤ 9223372036854775807) (B2 : ∀ a, v2.ownBlock = some a → a < w.heap.size) :
    Calls Try.prog 6 #[v0, v1, v2] w fun e w' => e = .returned (.bool true) ∧ Below w.heap.size w w' := by
  exact leaves_walk w v0 xs0 r0 v1 v2 l1 l2 r1 r2 B1 B2 m1 m2

set_option maxRecDepth 100000 in
theorem lifted (os : Os) (started : os.Started) (H : Type) (enc : TypeId × Value → H) :
    ReturnsInHanded {} Try.checked os 6 .any (Rows.diskLeavesSpec.pre6 enc Try.prog Try.f6 Rows.diskLeavesRow.domain false) (Rows.diskLeavesSpec.post enc Try.prog Try.f6 false true false false) := by
  refine returnsInHanded_of_change (C := Try.checked) own started (by kernel_rfl) Try.func6
    (ChangeSpec.witness6 (enc := enc) (C := Try.checked) false ⟨#[], #[.slice none 0 0, .slice none 0 0, .slice none 0 0], []⟩ 8 (by kernel_rfl) (by kernel_rfl) (by kernel_rfl) (by kernel_rfl)) ?_
  intro W base args ds gs before hval0 hW hcnd _
  have hval : ∀ (j : Nat) t v, Try.f6.params[j]? = some t → args[j]? = some v → Value.okWide Try.prog W .any base t v := hval0
  have hW' := hW
  obtain ⟨p, q, hA0, hV, rfl, hfz, hnd⟩ := hW
  have hA : DataW.TrodAll enc Try.prog W 0 (fun _ => true) true Try.f6.params.toList args.toList ds p := hA0
  rw [Try.params6] at hA hval
  obtain ⟨v0, vs0, d0, ds0, p0, q0, hargs, rfl, rfl, h0, r0⟩ := trodAll_cons hA
  obtain ⟨v1, vs1, d1, ds1, p1, q1, rfl, rfl, rfl, h1, r1⟩ := trodAll_cons r0
  obtain ⟨v2, vs2, d2, ds2, p2, q2, rfl, rfl, rfl, h2, r2⟩ := trodAll_cons r1
  obtain ⟨rfl, rfl, rfl⟩ := trodAll_nil r2
  obtain rfl : args = #[v0, v1, v2] := by cases args; simp_all
  obtain ⟨rfl, rfl⟩ := trodVars_none hV
  obtain ⟨a0, len0, cap0, e0⟩ := okWide_slice Try.underlying41 (hval 0 41 v0 rfl rfl)
  have k0 := h0
  have lt0 : ∀ x ∈ p0, x.block < W.heap.size := by obtain ⟨m, hm⟩ := k0; exact DataW.trod_lt m _ _ _ hm
  obtain ⟨xs0, x0⟩ : ∃ xs, RdD W v0 xs := by
    obtain ⟨fuel, hf⟩ := h0
    subst e0
    exact deeds_of hf
  obtain ⟨a1, len1, cap1, e1⟩ := okWide_slice Try.underlying22 (hval 1 22 v1 rfl rfl)
  have k1 := h1
  have lt1 : ∀ x ∈ p1, x.block < W.heap.size := by obtain ⟨m, hm⟩ := k1; exact DataW.trod_lt m _ _ _ hm
  have B1 : ∀ b, v1.ownBlock = some b → b < W.heap.size := by
    have hv := hval 1 22 v1 rfl rfl
    rw [e1] at hv ⊢
    exact block_in Try.underlying22 hv
  obtain ⟨l1, x1, m1⟩ : ∃ l, RdI W v1 l ∧ ∀ x ∈ l, x ≤ 9223372036854775807 := by
    obtain ⟨fuel, hf⟩ := h1
    subst e1
    exact ints_of hf
  obtain ⟨a2, len2, cap2, e2⟩ := okWide_slice Try.underlying22 (hval 2 22 v2 rfl rfl)
  have k2 := h2
  have lt2 : ∀ x ∈ p2, x.block < W.heap.size := by obtain ⟨m, hm⟩ := k2; exact DataW.trod_lt m _ _ _ hm
  have B2 : ∀ b, v2.ownBlock = some b → b < W.heap.size := by
    have hv := hval 2 22 v2 rfl rfl
    rw [e2] at hv ⊢
    exact block_in Try.underlying22 hv
  obtain ⟨l2, x2, m2⟩ : ∃ l, RdI W v2 l ∧ ∀ x ∈ l, x ≤ 9223372036854775807 := by
    obtain ⟨fuel, hf⟩ := h2
    subst e2
    exact ints_of hf
  clear hA0 hval0
  refine (walk W v0 xs0 x0 v1 l1 x1 m1 B1 v2 l2 x2 m2 B2).mono fun e W' ⟨he, bel⟩ => ?_
  subst he
  exact ⟨_, rfl, _, _, _, [], _, [], hW', trodAll_mk1 (shut_bool Try.underlying4 _), (trodAll_cons_mk (Below.trod laidOut (by kernel_rfl) (of_decide_eq_true (by kernel_rfl)) k0 bel lt0) (trodAll_cons_mk (Below.trod laidOut (by kernel_rfl) (of_decide_eq_true (by kernel_rfl)) k1 bel lt1) (trodAll_cons_mk (Below.trod laidOut (by kernel_rfl) (of_decide_eq_true (by kernel_rfl)) k2 bel lt2) trodAll_mk0))), rfl, bel.frame _, fun h => by cases h⟩

theorem over : Rows.diskLeavesRow.holds Try.pinned (OpenSpec.ofChange Rows.diskLeavesSpec) :=
  OpenClaim.holds_of_wide 6 Try.f6 rfl rfl rfl rfl rfl rfl rfl ⟨rfl, rfl, rfl, rfl, rfl⟩ rfl rfl rfl rfl rfl (by kernel_rfl) Try.func6 (by kernel_rfl)
    (of_decide_eq_true (by kernel_rfl)) (by unfold Func.isWrapper; first | (rw [if_pos (by decide +kernel)]; kernel_rfl) | (rw [if_neg (by decide +kernel)]; exact ⟨rfl, rfl⟩))
    (fun os started H enc _ => lifted os started H enc)

theorem proved : Rows.DiskLeavesSaid := over
end Go.Proofs.Ytloigepmmhcibaa.diskLeaves
namespace Go.Proofs.Ytloigepmmhcibaa
theorem diskLeaves_holds : Rows.DiskLeavesSaid := diskLeaves.proved
end Go.Proofs.Ytloigepmmhcibaa
