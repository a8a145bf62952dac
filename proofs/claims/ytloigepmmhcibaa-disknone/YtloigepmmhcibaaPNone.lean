/-
  The law DiskNone answers true at every input, and changes nothing that was there. No condition.
-/
import Derived.Test.YtloigepmmhcibaaRows
import Derived.Test.YtloigepmmhcibaaLNone
import Derived.Test.YtloigepmmhcibaaDin
import Derived.Below
import Derived.WalkKit
import Derived.ProofKit
import Derived.OpenShut
import Derived.ShutString
import Derived.ChangeOld
namespace Go.Proofs.Ytloigepmmhcibaa.diskNone
open Go.ChangeShapes Go.WideShapes Go.ChangeAt Go.RowKit
open Go.ChangeMaps (open_string shut_string)
set_option linter.unusedVariables false

theorem own : ownKnob Try.prog.godebug = none := by kernel_rfl
theorem laidOut : laidOutB Try.prog = true := by kernel_rfl

set_option maxRecDepth 100000 in
theorem agg_of {W : World} {base : Nat} {v : Value} (h : Value.okWide Try.prog W .any base 49 v) : ∃ xs : Array Value, v = .agg xs := by
  simp only [Value.okWide, Try.underlying49] at h
  obtain ⟨cs, h1, -⟩ := h
  exact ⟨cs, h1⟩

theorem walk (d : Dd) (w : World) (g : d.good w) : Calls Try.prog 5 #[.agg d.cells.toArray] w fun e w' => e = .returned (.bool true) ∧ Below w.heap.size w w' := by
  obtain ⟨bo, bc, hb, -⟩ := g.b
  obtain ⟨ko, kc, hk, -⟩ := g.ks
  obtain ⟨tro, tc, ht, -⟩ := g.ts
  have e : d.cells.toArray = #[.int .u8 (d.dn : Int), .string d.A, .string d.To, .slice bo d.b.length bc, .int .i64 d.n, .slice ko d.ks.length kc, .slice tro d.ts.length tc] := by
    unfold Dd.cells
    rw [hb, hk, ht]
  rw [e]
  exact none_walk w d.dn d.A d.To bo _ bc d.n ko _ kc tro _ tc g.dn

set_option maxRecDepth 100000 in
theorem lifted (os : Os) (started : os.Started) (H : Type) (enc : TypeId × Value → H) :
    ReturnsInHanded {} Try.checked os 5 .any (Rows.diskNoneSpec.pre6 enc Try.prog Try.f5 Rows.diskNoneRow.domain false) (Rows.diskNoneSpec.post enc Try.prog Try.f5 false true false false) := by
  refine returnsInHanded_of_change (C := Try.checked) own started (by kernel_rfl) Try.func5
    (ChangeSpec.witness6 (enc := enc) (C := Try.checked) false ⟨#[], #[.agg #[.int .u8 0, .string ⟨#[]⟩, .string ⟨#[]⟩, .slice none 0 0, .int .i64 0, .slice none 0 0, .slice none 0 0]], []⟩ 8 (by kernel_rfl) (by kernel_rfl) (by kernel_rfl) (by kernel_rfl)) ?_
  intro W base args ds gs before hval0 hW hcnd _
  have hval : ∀ (j : Nat) t v, Try.f5.params[j]? = some t → args[j]? = some v → Value.okWide Try.prog W .any base t v := hval0
  have hW' := hW
  obtain ⟨p, q, hA0, hV, rfl, hfz, hnd⟩ := hW
  have hA : DataW.TrodAll enc Try.prog W 0 (fun _ => true) true Try.f5.params.toList args.toList ds p := hA0
  rw [Try.params5] at hA hval
  obtain ⟨v0, vs0, d0, ds0, p0, q0, hargs, rfl, rfl, h0, r0⟩ := trodAll_cons hA
  obtain ⟨rfl, rfl, rfl⟩ := trodAll_nil r0
  obtain rfl : args = #[v0] := by cases args; simp_all
  obtain ⟨rfl, rfl⟩ := trodVars_none hV
  obtain ⟨xs0, rfl⟩ := agg_of (hval 0 49 v0 rfl rfl)
  have k0 := h0
  have lt0 : ∀ x ∈ p0, x.block < W.heap.size := by obtain ⟨m, hm⟩ := k0; exact DataW.trod_lt m _ _ _ hm
  obtain ⟨d, hd, g⟩ : ∃ d : Dd, xs0 = d.cells.toArray ∧ d.good W := by
    obtain ⟨fuel, hf⟩ := h0
    have hf' : DataW.trod enc Try.prog W 0 (fun _ => true) true fuel 49 xs0.toList = some (d0, p0) := hf
    obtain ⟨d, hd, g⟩ := deed_of hf'
    exact ⟨d, by rw [← hd], g⟩
  subst hd
  clear hA0 hval0
  refine (walk d W g).mono fun e W' ⟨he, bel⟩ => ?_
  subst he
  exact ⟨_, rfl, _, _, _, [], _, [], hW', trodAll_mk1 (shut_bool Try.underlying4 _), (trodAll_cons_mk (Below.trod laidOut (by kernel_rfl) (of_decide_eq_true (by kernel_rfl)) k0 bel lt0) trodAll_mk0), rfl, bel.frame _, fun h => by cases h⟩

theorem over : Rows.diskNoneRow.holds Try.pinned (OpenSpec.ofChange Rows.diskNoneSpec) :=
  OpenClaim.holds_of_wide 5 Try.f5 rfl rfl rfl rfl rfl rfl rfl ⟨rfl, rfl, rfl, rfl, rfl⟩ rfl rfl rfl rfl rfl (by kernel_rfl) Try.func5 (by kernel_rfl)
    (of_decide_eq_true (by kernel_rfl)) (by unfold Func.isWrapper; first | (rw [if_pos (by decide +kernel)]; kernel_rfl) | (rw [if_neg (by decide +kernel)]; exact ⟨rfl, rfl⟩))
    (fun os started H enc _ => lifted os started H enc)

theorem proved : Rows.DiskNoneSaid := over
end Go.Proofs.Ytloigepmmhcibaa.diskNone
namespace Go.Proofs.Ytloigepmmhcibaa
theorem diskNone_holds : Rows.DiskNoneSaid := diskNone.proved
end Go.Proofs.Ytloigepmmhcibaa
