/-
  The law ProgramTells answers true at every input, and changes nothing that was there: which programs may be, their bytes, what is read of any bytes and how instructions are shown are what the document defines. No condition beside the row's own listed variables, which the card ties to the program's text.
-/
import Derived.Test.YtpiiehenmkinaaaDoorRows
import Derived.Test.YtpiiehenmkinaaaDoorCards
import Derived.Test.YtpiiehenmkinaaaDoorTie
import Derived.Test.YtpiiehenmkinaaaDoorV7
import Derived.Test.YtpiiehenmkinaaaDoorU10
import Derived.Below
import Derived.WalkKit
import Derived.ProofKit
import Derived.OpenShut
import Derived.ShutString
import Derived.ChangeOld
import Derived.SevenTiedAt
/-
  The law ProgramTells answers true at every input, and changes nothing that was there: which programs may be, their bytes, what is read of any bytes and how instructions are shown are what the document defines. No condition beside the row's own listed variables, which the card ties to the program's text.
-/
namespace Go.Proofs.YtpiiehenmkinaaaDoor.programTells
open Go.ChangeShapes Go.WideShapes Go.ChangeAt Go.RowKit
open Go.ChangeMaps (open_string shut_string)
set_option linter.unusedVariables false

theorem own : ownKnob Tryd.prog.godebug = none := by kernel_rfl
theorem laidOut : laidOutB Tryd.prog = true := by kernel_rfl

set_option maxRecDepth 100000 in
theorem lifted (os : Os) (started : os.Started) (H : Type) (enc : TypeId × Value → H) :
    ReturnsInHanded {} Tryd.checked os 3 .any (fun w args => (Rows.programTellsSpec.pre enc Tryd.prog Tryd.f3 Rows.programTellsRow.domain false w args ∧ laidMet Tryd.prog Rows.programTellsRow.laid w) ∧ sizedMet enc Tryd.prog Tryd.f3 (OpenSpec.ofChange Rows.programTellsSpec) false w args)
      (Rows.programTellsSpec.post enc Tryd.prog Tryd.f3 false true false false) := by
  refine returnsInHanded_of_change_and (C := Tryd.checked) (X := fun w _ => laidMet Tryd.prog Rows.programTellsRow.laid w) (fun _ _ _ hh h => h.of_heap hh) own started (by kernel_rfl) Tryd.func3
    (ChangeSpec.witness_at (enc := enc) (C := Tryd.checked) (os := os) (X := fun w _ => laidMet Tryd.prog Rows.programTellsRow.laid w) false (laidWorld Tryd.prog os) #[.agg #[.string ⟨#[]⟩, .int .i64 0, .slice none 0 0], .slice none 0 0, .agg #[.int .i64 0, .int .u8 0, .int .i64 0, .int .i64 0, .int .i64 0, .int .i64 0, .string ⟨#[]⟩]] 8 rfl (by kernel_rfl) (by kernel_rfl) (by kernel_rfl) (by kernel_rfl) (by kernel_rfl) (laidWorld_met os _)) ?_
  intro W base args ds gs before hval0 hW hcnd _ hL _
  have hval : ∀ (j : Nat) t v, Tryd.f3.params[j]? = some t → args[j]? = some v → Value.okWide Tryd.prog W .any base t v := hval0
  have hW' := hW
  obtain ⟨p, q, hA0, hV, rfl, hfz, hnd⟩ := hW
  have hA : DataW.TrodAll enc Tryd.prog W 0 (fun _ => true) true Tryd.f3.params.toList args.toList ds p := hA0
  rw [Tryd.params3] at hA hval
  obtain ⟨v0, vs0, d0, ds0, p0, q0, hargs0, rfl, rfl, h0, r0⟩ := trodAll_cons hA
  obtain ⟨v1, vs1, d1, ds1, p1, q1, hargs1, rfl, rfl, h1, r1⟩ := trodAll_cons r0
  obtain ⟨v2, vs2, d2, ds2, p2, q2, hargs2, rfl, rfl, h2, r2⟩ := trodAll_cons r1
  obtain ⟨rfl, rfl, rfl⟩ := trodAll_nil r2
  obtain rfl : args = #[v0, v1, v2] := by cases args; simp_all
  obtain ⟨rfl, rfl⟩ := trodVars_none hV
  obtain ⟨xs0, e0⟩ := agg_of24 (hval 0 24 v0 rfl rfl)
  have k0 := h0
  have lt0 : ∀ x ∈ p0, x.block < W.heap.size := by obtain ⟨m, hm⟩ := k0; exact DataW.trod_lt m _ _ _ hm
  obtain ⟨g0, cv0, c0, rc0, wf0, rg0, nz0⟩ : ∃ (g : Prg) (cv : Value), xs0 = #[.string g.name, .int .i64 g.regs, cv] ∧ RdC W cv g.code ∧ (∀ i ∈ g.code, i.wf) ∧ IR g.regs ∧ g.name.size ≤ maxLen := by
    obtain ⟨fuel, hf⟩ := h0
    subst e0
    have hf' : DataW.trod enc Tryd.prog W 0 (fun _ => true) true fuel 24 xs0.toList = some (d0, p0) := hf
    obtain ⟨g, cv, hd, g1, g2, g3, g4⟩ := prg_of hf'
    exact ⟨g, cv, by rw [← Array.toArray_toList (xs := xs0), hd], g1, g2, g3, g4⟩
  subst c0
  subst e0
  obtain ⟨a1, len1, cap1, e1⟩ := okWide_slice Tryd.underlying25 (hval 1 25 v1 rfl rfl)
  have k1 := h1
  have lt1 : ∀ x ∈ p1, x.block < W.heap.size := by obtain ⟨m, hm⟩ := k1; exact DataW.trod_lt m _ _ _ hm
  obtain ⟨x1, r1'⟩ : ∃ l, Rd W v1 l := by
    obtain ⟨fuel, hf⟩ := h1
    subst e1
    exact row_of hf
  obtain ⟨xs2, e2⟩ := agg_of30 (hval 2 30 v2 rfl rfl)
  have k2 := h2
  have lt2 : ∀ x ∈ p2, x.block < W.heap.size := by obtain ⟨m, hm⟩ := k2; exact DataW.trod_lt m _ _ _ hm
  obtain ⟨pol2, ins2, c2, rp2, wi2⟩ : ∃ (z : Int) (i : Ins), xs2 = #[.int .i64 z, .int .u8 (i.op : Int), .int .i64 i.a, .int .i64 i.b, .int .i64 i.c, .int .i64 i.n, .string i.s] ∧ IR z ∧ i.wf := by
    obtain ⟨fuel, hf⟩ := h2
    subst e2
    have hf' : DataW.trod enc Tryd.prog W 0 (fun _ => true) true fuel 30 xs2.toList = some (d2, p2) := hf
    obtain ⟨z, i, hd, g1, g2⟩ := extra_of hf'
    exact ⟨z, i, by rw [← Array.toArray_toList (xs := xs2), hd]; rfl, g1, g2⟩
  subst c2
  subst e2
  clear hA0 hval0
  have hl := laid_of hL
  refine (tells_walk W hl g0 cv0 rc0 wf0 rg0 nz0 v1 x1 r1' pol2 ins2 rp2 wi2).mono fun e W' ⟨he, bel⟩ => ?_
  subst he
  exact ⟨_, rfl, _, _, _, [], _, [], hW', trodAll_mk1 (shut_bool Tryd.underlying4 _), (trodAll_cons_mk (Below.trod laidOut (by kernel_rfl) (of_decide_eq_true (by kernel_rfl)) k0 bel lt0) (trodAll_cons_mk (Below.trod laidOut (by kernel_rfl) (of_decide_eq_true (by kernel_rfl)) k1 bel lt1) (trodAll_cons_mk (Below.trod laidOut (by kernel_rfl) (of_decide_eq_true (by kernel_rfl)) k2 bel lt2) trodAll_mk0))), rfl, bel.frame _, fun h => by cases h⟩

theorem over : Rows.programTellsRow.holds Tryd.pinned (OpenSpec.ofChange Rows.programTellsSpec) :=
  OpenClaim.holds_of_wide 3 Tryd.f3 rfl rfl rfl rfl rfl rfl rfl ⟨rfl, rfl, rfl, rfl, rfl⟩ rfl rfl rfl rfl rfl (by kernel_rfl) Tryd.func3 (by kernel_rfl)
    (of_decide_eq_true (by kernel_rfl)) (by unfold Func.isWrapper; first | (rw [if_pos (by decide +kernel)]; kernel_rfl) | (rw [if_neg (by decide +kernel)]; exact ⟨rfl, rfl⟩))
    (fun os started H enc _ => lifted os started H enc)

theorem proved : Rows.ProgramTellsSaid := over
end Go.Proofs.YtpiiehenmkinaaaDoor.programTells
namespace Go.Proofs.YtpiiehenmkinaaaDoor
theorem programTells_holds : Rows.ProgramTellsCardSaid :=
  Claim7.holds_tied_plain_at .later [] [.data, .data, .data, .data] true (true, "08aba2390acb04a486329319a30afe0c25e26124c87cdb1b3fcf496586a75c3b") false
    programTells.proved (fun _ h => by cases h) (by kernel_rfl) (fun _ h => by cases h) programTells_row_tie rfl ⟨rfl, rfl⟩ (by kernel_rfl) rfl
    (fun f fn hf hfn => by
      obtain rfl : f = 3 := Option.some.inj ((show Tryd.prog.funcNamed Rows.programTellsRow.func = some 3 by kernel_rfl).symm.trans hf) |>.symm
      obtain rfl : fn = Tryd.f3 := (Option.some.inj (Tryd.func3.symm.trans hfn)).symm
      exact ⟨by kernel_rfl, fun j t ht => by
        rw [Tryd.params3] at ht
        rcases j with _ | _ | _ | j
        · obtain rfl : t = 24 := by simpa using ht.symm
          exact (show Tryd.prog.wantsStandIn 24 = false by kernel_rfl)
        · obtain rfl : t = 25 := by simpa using ht.symm
          exact (show Tryd.prog.wantsStandIn 25 = false by kernel_rfl)
        · obtain rfl : t = 30 := by simpa using ht.symm
          exact (show Tryd.prog.wantsStandIn 30 = false by kernel_rfl)
        · simp at ht⟩)
    (by kernel_rfl)
end Go.Proofs.YtpiiehenmkinaaaDoor
