/-
  The law LogEnded answers true at every input, and changes nothing that was there. No condition beside the row's own listed variables, which the card ties to the program's text.
-/
import Derived.Test.YtomhkjacngmnhaaGreatDoorRows
import Derived.Test.YtomhkjacngmnhaaGreatDoorCards
import Derived.Test.YtomhkjacngmnhaaGreatDoorTie
import Derived.Test.YtomhkjacngmnhaaGreatDoorLEnded
import Derived.Test.YtomhkjacngmnhaaGreatDoorPin
import Derived.Test.YtomhkjacngmnhaaGreatDoorInn
import Derived.Below
import Derived.WalkKit
import Derived.ProofKit
import Derived.OpenShut
import Derived.ShutString
import Derived.ChangeOld
import Derived.SevenTiedAt
namespace Go.Proofs.YtomhkjacngmnhaaGreatDoor.logEnded
open Go.ChangeShapes Go.WideShapes Go.ChangeAt Go.RowKit
open Go.ChangeMaps (open_string shut_string)
set_option linter.unusedVariables false

theorem own : ownKnob Tryz.prog.godebug = none := by kernel_rfl
theorem laidOut : laidOutB Tryz.prog = true := by kernel_rfl

set_option maxRecDepth 100000 in
theorem lifted (os : Os) (started : os.Started) (H : Type) (enc : TypeId × Value → H) :
    ReturnsInHanded {} Tryz.checked os 10 .any (fun w args => (Rows.logEndedSpec.pre enc Tryz.prog Tryz.f10 Rows.logEndedRow.domain false w args ∧ laidMet Tryz.prog Rows.logEndedRow.laid w) ∧ sizedMet enc Tryz.prog Tryz.f10 (OpenSpec.ofChange Rows.logEndedSpec) false w args)
      (Rows.logEndedSpec.post enc Tryz.prog Tryz.f10 false true false false) := by
  refine returnsInHanded_of_change_and (C := Tryz.checked) (X := fun w _ => laidMet Tryz.prog Rows.logEndedRow.laid w) (fun _ _ _ hh h => h.of_heap hh) own started (by kernel_rfl) Tryz.func10
    (ChangeSpec.witness_at (enc := enc) (C := Tryz.checked) (os := os) (X := fun w _ => laidMet Tryz.prog Rows.logEndedRow.laid w) false (laidWorld Tryz.prog os) #[.slice none 0 0, .int .u16 0, .int .u16 0, .slice none 0 0] 8 rfl (by kernel_rfl) (by kernel_rfl) (by kernel_rfl) (by kernel_rfl) (by kernel_rfl) (laidWorld_met os _)) ?_
  intro W base args ds gs before hval0 hW hcnd _ hL _
  have hval : ∀ (j : Nat) t v, Tryz.f10.params[j]? = some t → args[j]? = some v → Value.okWide Tryz.prog W .any base t v := hval0
  have hW' := hW
  obtain ⟨p, q, hA0, hV, rfl, hfz, hnd⟩ := hW
  have hA : DataW.TrodAll enc Tryz.prog W 0 (fun _ => true) true Tryz.f10.params.toList args.toList ds p := hA0
  rw [Tryz.params10] at hA hval
  obtain ⟨v0, vs0, d0, ds0, p0, q0, hargs0, rfl, rfl, h0, r0⟩ := trodAll_cons hA
  obtain ⟨v1, vs1, d1, ds1, p1, q1, hargs1, rfl, rfl, h1, r1⟩ := trodAll_cons r0
  obtain ⟨v2, vs2, d2, ds2, p2, q2, hargs2, rfl, rfl, h2, r2⟩ := trodAll_cons r1
  obtain ⟨v3, vs3, d3, ds3, p3, q3, hargs3, rfl, rfl, h3, r3⟩ := trodAll_cons r2
  obtain ⟨rfl, rfl, rfl⟩ := trodAll_nil r3
  obtain rfl : args = #[v0, v1, v2, v3] := by cases args; simp_all
  obtain ⟨rfl, rfl⟩ := trodVars_none hV
  obtain ⟨a0, len0, cap0, e0⟩ := okWide_slice Tryz.underlying96 (hval 0 96 v0 rfl rfl)
  have k0 := h0
  have lt0 : ∀ x ∈ p0, x.block < W.heap.size := by obtain ⟨m, hm⟩ := k0; exact DataW.trod_lt m _ _ _ hm
  obtain ⟨x0, r0'⟩ : ∃ l, RdLL W v0 l := by
    obtain ⟨fuel, hf⟩ := h0
    subst e0
    exact batches_of hf
  obtain ⟨n1, rfl, rfl, rfl, w1⟩ := open_int Tryz.underlying98 (hval 1 98 v1 rfl rfl) h1
  obtain ⟨n2, rfl, rfl, rfl, w2⟩ := open_int Tryz.underlying98 (hval 2 98 v2 rfl rfl) h2
  obtain ⟨a3, len3, cap3, e3⟩ := okWide_slice Tryz.underlying41 (hval 3 41 v3 rfl rfl)
  have k3 := h3
  have lt3 : ∀ x ∈ p3, x.block < W.heap.size := by obtain ⟨m, hm⟩ := k3; exact DataW.trod_lt m _ _ _ hm
  obtain ⟨x3, r3'⟩ : ∃ l, RdL W v3 l := by
    obtain ⟨fuel, hf⟩ := h3
    subst e3
    exact lists_of hf
  clear hA0 hval0
  obtain ⟨hl, h6⟩ := laid_of hL
  have b1 := bounds_u16 w1
  have b2 := bounds_u16 w2
  obtain ⟨m1, rfl⟩ := Int.eq_ofNat_of_zero_le b1.1
  obtain ⟨m2, rfl⟩ := Int.eq_ofNat_of_zero_le b2.1
  refine (ended_walk W hl h6 v0 v3 x0 x3 r0' r3' m1 m2 (by omega) (by omega)).mono fun e W' ⟨he, bel⟩ => ?_
  subst he
  exact ⟨_, rfl, _, _, _, [], _, [], hW', trodAll_mk1 (shut_bool Tryz.underlying4 _), (trodAll_cons_mk (Below.trod laidOut (by kernel_rfl) (of_decide_eq_true (by kernel_rfl)) k0 bel lt0) (trodAll_cons_mk (shut_int Tryz.underlying98 w1) (trodAll_cons_mk (shut_int Tryz.underlying98 w2) (trodAll_cons_mk (Below.trod laidOut (by kernel_rfl) (of_decide_eq_true (by kernel_rfl)) k3 bel lt3) trodAll_mk0)))), rfl, bel.frame _, fun h => by cases h⟩

theorem over : Rows.logEndedRow.holds Tryz.pinned (OpenSpec.ofChange Rows.logEndedSpec) :=
  OpenClaim.holds_of_wide 10 Tryz.f10 rfl rfl rfl rfl rfl rfl rfl ⟨rfl, rfl, rfl, rfl, rfl⟩ rfl rfl rfl rfl rfl (by kernel_rfl) Tryz.func10 (by kernel_rfl)
    (of_decide_eq_true (by kernel_rfl)) (by unfold Func.isWrapper; first | (rw [if_pos (by decide +kernel)]; kernel_rfl) | (rw [if_neg (by decide +kernel)]; exact ⟨rfl, rfl⟩))
    (fun os started H enc _ => lifted os started H enc)

theorem proved : Rows.LogEndedSaid := over
end Go.Proofs.YtomhkjacngmnhaaGreatDoor.logEnded
namespace Go.Proofs.YtomhkjacngmnhaaGreatDoor
theorem logEnded_holds : Rows.LogEndedCardSaid :=
  Claim7.holds_tied_plain_at .later [] [.data, .data, .data, .sentinel, .sentinel] true (true, "0fa5237581d873d5e826319e0e0dc9209c67f253085ddfedf217f6c1719ad8a6") true
    logEnded.proved (fun _ h => by cases h) (by kernel_rfl) (fun _ h => by cases h) logEnded_row_tie rfl ⟨rfl, rfl⟩ (by kernel_rfl) rfl
    (fun f fn hf hfn => by
      obtain rfl : f = 10 := Option.some.inj ((show Tryz.prog.funcNamed Rows.logEndedRow.func = some 10 by kernel_rfl).symm.trans hf) |>.symm
      obtain rfl : fn = Tryz.f10 := (Option.some.inj (Tryz.func10.symm.trans hfn)).symm
      exact ⟨by kernel_rfl, fun j t ht => by
        rw [Tryz.params10] at ht
        rcases j with _ | _ | _ | _ | j
        · obtain rfl : t = 96 := by simpa using ht.symm
          exact (show Tryz.prog.wantsStandIn 96 = false by kernel_rfl)
        · obtain rfl : t = 98 := by simpa using ht.symm
          exact (show Tryz.prog.wantsStandIn 98 = false by kernel_rfl)
        · obtain rfl : t = 98 := by simpa using ht.symm
          exact (show Tryz.prog.wantsStandIn 98 = false by kernel_rfl)
        · obtain rfl : t = 41 := by simpa using ht.symm
          exact (show Tryz.prog.wantsStandIn 41 = false by kernel_rfl)
        · simp at ht⟩)
    (by kernel_rfl)
end Go.Proofs.YtomhkjacngmnhaaGreatDoor
