/-
  The law RunWaits answers true at every input, and changes nothing that was there: a program that waits for a number goes on by the outcome of that one alone. No condition beside the row's own listed variables, which the card ties to the program's text.
-/
import Derived.Test.YtlngeonfabahnaaDoorRows
import Derived.Test.YtlngeonfabahnaaDoorCards
import Derived.Test.YtlngeonfabahnaaDoorTie
import Derived.Test.YtlngeonfabahnaaDoorLW
import Derived.Test.YtlngeonfabahnaaDoorPin
import Derived.Test.YtlngeonfabahnaaDoorHin
import Derived.Below
import Derived.WalkKit
import Derived.ProofKit
import Derived.OpenShut
import Derived.ShutString
import Derived.ChangeOld
import Derived.SevenTiedAt
namespace Go.Proofs.YtlngeonfabahnaaDoor.runWaits
open Go.ChangeShapes Go.WideShapes Go.ChangeAt Go.RowKit
open Go.ChangeMaps (open_string shut_string)
set_option linter.unusedVariables false

theorem own : ownKnob Tryd.prog.godebug = none := by kernel_rfl
theorem laidOut : laidOutB Tryd.prog = true := by kernel_rfl

set_option maxRecDepth 100000 in
theorem lifted (os : Os) (started : os.Started) (H : Type) (enc : TypeId × Value → H) :
    ReturnsInHanded {} Tryd.checked os 8 .any (fun w args => (Rows.runWaitsSpec.pre enc Tryd.prog Tryd.f8 Rows.runWaitsRow.domain false w args ∧ laidMet Tryd.prog Rows.runWaitsRow.laid w) ∧ sizedMet enc Tryd.prog Tryd.f8 (OpenSpec.ofChange Rows.runWaitsSpec) false w args)
      (Rows.runWaitsSpec.post enc Tryd.prog Tryd.f8 false true false false) := by
  refine returnsInHanded_of_change_and (C := Tryd.checked) (X := fun w _ => laidMet Tryd.prog Rows.runWaitsRow.laid w) (fun _ _ _ hh h => h.of_heap hh) own started (by kernel_rfl) Tryd.func8
    (ChangeSpec.witness_at (enc := enc) (C := Tryd.checked) (os := os) (X := fun w _ => laidMet Tryd.prog Rows.runWaitsRow.laid w) false (laidWorld Tryd.prog os) #[.agg #[.string ⟨#[]⟩, .int .i64 0, .slice none 0 0], .agg #[.int .i64 0, .slice none 0 0, .slice none 0 0, .int .i64 0]] 8 rfl (by kernel_rfl) (by kernel_rfl) (by kernel_rfl) (by kernel_rfl) (by kernel_rfl) (laidWorld_met os _)) ?_
  intro W base args ds gs before hval0 hW hcnd _ hL _
  have hval : ∀ (j : Nat) t v, Tryd.f8.params[j]? = some t → args[j]? = some v → Value.okWide Tryd.prog W .any base t v := hval0
  have hW' := hW
  obtain ⟨p, q, hA0, hV, rfl, hfz, hnd⟩ := hW
  have hA : DataW.TrodAll enc Tryd.prog W 0 (fun _ => true) true Tryd.f8.params.toList args.toList ds p := hA0
  rw [Tryd.params8] at hA hval
  obtain ⟨v0, vs0, d0, ds0, p0, q0, hargs0, rfl, rfl, h0, r0⟩ := trodAll_cons hA
  obtain ⟨v1, vs1, d1, ds1, p1, q1, hargs1, rfl, rfl, h1, r1⟩ := trodAll_cons r0
  obtain ⟨rfl, rfl, rfl⟩ := trodAll_nil r1
  obtain rfl : args = #[v0, v1] := by cases args; simp_all
  obtain ⟨rfl, rfl⟩ := trodVars_none hV
  obtain ⟨xs0, e0⟩ := agg_of24 (hval 0 24 v0 rfl rfl)
  have k0 := h0
  have lt0 : ∀ x ∈ p0, x.block < W.heap.size := by obtain ⟨m, hm⟩ := k0; exact DataW.trod_lt m _ _ _ hm
  obtain ⟨g0, cv0, c0, rc0, wf0, rg0, nz0⟩ : ∃ (g : Prg) (cv : Value), xs0 = #[.string g.name, .int .i64 g.regs, cv] ∧ RdC W cv g.code ∧ (∀ i ∈ g.code, i.wf) ∧ IR g.regs ∧ g.name.size ≤ maxLen := by
    obtain ⟨fuel, hf⟩ := h0
    subst e0
    have hf' : DataW.trod enc Tryd.prog W 0 (fun _ => true) true fuel 24 xs0.toList = some (d0, p0) := hf
    obtain ⟨g, cv, hd, g1, g2, g3, g4⟩ := prg_of hf'
    exact ⟨g, cv, by rw [← Array.toArray_toList (xs := xs0), hd], g1, g2, g3, g4⟩
  subst c0
  subst e0
  obtain ⟨xs1, e1⟩ := agg_of28 (hval 1 28 v1 rfl rfl)
  have k1 := h1
  have lt1 : ∀ x ∈ p1, x.block < W.heap.size := by obtain ⟨m, hm⟩ := k1; exact DataW.trod_lt m _ _ _ hm
  obtain ⟨arg1, kv1, sv1, fu1, l1, sg1, c1, ra1, rf1, rk1, wk1, rs1, ws1⟩ : ∃ (arg : Int) (kv sv : Value) (fu : Int) (l : List (Int × Oc)) (sg : List Int), xs1 = #[.int .i64 arg, kv, sv, .int .i64 fu] ∧ IR arg ∧ IR fu ∧ RdK W kv l ∧ (∀ k ∈ l, IR k.1 ∧ IR k.2.1 ∧ IR k.2.2) ∧ RdN W sv sg ∧ (∀ k ∈ sg, IR k) := by
    obtain ⟨fuel, hf⟩ := h1
    subst e1
    have hf' : DataW.trod enc Tryd.prog W 0 (fun _ => true) true fuel 28 xs1.toList = some (d1, p1) := hf
    obtain ⟨arg, kv, sv, fu, l, sg, hd, g1, g2, g3, g4, g5, g6⟩ := giv_of hf'
    exact ⟨arg, kv, sv, fu, l, sg, by rw [← Array.toArray_toList (xs := xs1), hd], g1, g2, g3, g4, g5, g6⟩
  subst c1
  subst e1
  clear hA0 hval0
  have hl := laid_of hL
  refine (waits_walk W hl g0 cv0 rc0 wf0 arg1 kv1 sv1 fu1 l1 sg1 rk1 rs1 (fun k hk => (wk1 k hk).1)).mono fun e W' ⟨he, bel⟩ => ?_
  subst he
  exact ⟨_, rfl, _, _, _, [], _, [], hW', trodAll_mk1 (shut_bool Tryd.underlying4 _), (trodAll_cons_mk (Below.trod laidOut (by kernel_rfl) (of_decide_eq_true (by kernel_rfl)) k0 bel lt0) (trodAll_cons_mk (Below.trod laidOut (by kernel_rfl) (of_decide_eq_true (by kernel_rfl)) k1 bel lt1) trodAll_mk0)), rfl, bel.frame _, fun h => by cases h⟩

theorem over : Rows.runWaitsRow.holds Tryd.pinned (OpenSpec.ofChange Rows.runWaitsSpec) :=
  OpenClaim.holds_of_wide 8 Tryd.f8 rfl rfl rfl rfl rfl rfl rfl ⟨rfl, rfl, rfl, rfl, rfl⟩ rfl rfl rfl rfl rfl (by kernel_rfl) Tryd.func8 (by kernel_rfl)
    (of_decide_eq_true (by kernel_rfl)) (by unfold Func.isWrapper; first | (rw [if_pos (by decide +kernel)]; kernel_rfl) | (rw [if_neg (by decide +kernel)]; exact ⟨rfl, rfl⟩))
    (fun os started H enc _ => lifted os started H enc)

theorem proved : Rows.RunWaitsSaid := over
end Go.Proofs.YtlngeonfabahnaaDoor.runWaits
namespace Go.Proofs.YtlngeonfabahnaaDoor
theorem runWaits_holds : Rows.RunWaitsCardSaid :=
  Claim7.holds_tied_plain_at .later [] [.data] true (true, "2885ce99d3426d21620647108dada92a790032a6be25be699df49971f70db62c") false
    runWaits.proved (fun _ h => by cases h) (by kernel_rfl) (fun _ h => by cases h) runWaits_row_tie rfl ⟨rfl, rfl⟩ (by kernel_rfl) rfl
    (fun f fn hf hfn => by
      obtain rfl : f = 8 := Option.some.inj ((show Tryd.prog.funcNamed Rows.runWaitsRow.func = some 8 by kernel_rfl).symm.trans hf) |>.symm
      obtain rfl : fn = Tryd.f8 := (Option.some.inj (Tryd.func8.symm.trans hfn)).symm
      exact ⟨by kernel_rfl, fun j t ht => by
        rw [Tryd.params8] at ht
        rcases j with _ | _ | j
        · obtain rfl : t = 24 := by simpa using ht.symm
          exact (show Tryd.prog.wantsStandIn 24 = false by kernel_rfl)
        · obtain rfl : t = 28 := by simpa using ht.symm
          exact (show Tryd.prog.wantsStandIn 28 = false by kernel_rfl)
        · simp at ht⟩)
    (by kernel_rfl)
end Go.Proofs.YtlngeonfabahnaaDoor
