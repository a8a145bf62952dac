/-
  The contract of does upon a disk that New made. Own work.
-/
import Derived.Test.YtloigepmmhcibaaLb
import Derived.Test.YtloigepmmhcibaaDin
import Derived.Test.YtloigepmmhcibaaXb
namespace Go.Proofs.Ytloigepmmhcibaa
open Go.RowKit

/-- a deed, upon a disk -/
def doD (D : AD) (x : Dd) : AD × Nat :=
  if x.dn ≤ 2 then appendD D x.A x.b
  else if x.dn = 3 then syncD D x.A
  else if x.dn = 4 then renameD D x.A x.To
  else if x.dn = 5 then removeD D x.A
  else if x.dn = 6 then cutD D x.A x.n
  else if x.dn = 7 then (armD D x.n, 0)
  else if x.dn = 8 then (crashD D x.ks x.ts, 0)
  else (D, 0)
/-- a deed's slices lie outside -/
def Dd.off (F : Nat → Prop) (x : Dd) : Prop := (∀ a, x.bv.ownBlock = some a → x.b ≠ [] → ¬ F a) ∧ (∀ a, x.kv.ownBlock = some a → x.ks ≠ [] → ¬ F a) ∧ (∀ a, x.tv.ownBlock = some a → x.ts ≠ [] → ¬ F a)
theorem RdI.belowX {w w' : World} {v : Value} {l : List Int} (h : RdI w v l) (hb : Below w.heap.size w w') : RdI w' v l := h.chg (Chg.ofBelow hb (fun _ => False)) (fun _ _ _ h => h)
theorem Dd.good.below {w w' : World} {x : Dd} (g : x.good w) (hb : Below w.heap.size w w') : x.good w' := ⟨g.dn, g.b.below hb, g.n0, g.n1, g.ks.belowX hb, g.kr, g.ts.belowX hb, g.tr⟩
theorem Dd.good.chg {w w' : World} {F : Nat → Prop} {x : Dd} (g : x.good w) (ho : x.off F) (hc : Chg F w w') : x.good w' := ⟨g.dn, g.b.chg hc ho.1, g.n0, g.n1, g.ks.chg hc ho.2.1, g.kr, g.ts.chg hc ho.2.2, g.tr⟩
/-- behind the memory that the call's own copy takes -/
theorem deed_in {e : Ending} {w w1 w' : World} {F : Nat → Prop} {d : Value} {r : AD × Nat} (hb : Below w.heap.size w w1) (h : Deed e w1 w' F d r) : Deed e w w' F d r := by
  obtain ⟨he, hd, hc⟩ := h
  have h1 := hb.size
  have h2 := hc.size
  refine ⟨he, hd.mono fun b _ hF => ?_, (Chg.ofBelow hb F).trans hc (fun _ _ h => h)⟩
  rcases hF with hF | hF
  · exact .inl hF
  · exact .inr ⟨by omega, hF.2⟩

set_option maxRecDepth 100000 in
set_option maxHeartbeats 1600000 in
theorem does_any {w : World} {F : Nat → Prop} {d : Value} {D : AD} (h : Dk w F d D) (x : Dd) (g : x.good w) (ho : x.off F) (hA : x.A.size ≤ 140737488355328) (hT : x.To.size ≤ 140737488355328) :
    Calls Try.prog 30 #[d, .agg x.cells.toArray] w fun e w' => Deed e w w' F d (doD D x) := by
  obtain ⟨dn, A, To, bv, b, n, kv, ks, tv, ts⟩ := x
  obtain ⟨g1, g2, g3, g4, g5, g6, g7, g8⟩ := g
  obtain ⟨o1, o2, o3⟩ := ho
  simp only at g1 g2 g3 g4 g5 g6 g7 g8 o1 o2 o3 hA hT
  obtain ⟨bo, bc, hb, -⟩ := id g2
  subst hb
  obtain ⟨ko, kc, hk, -⟩ := id g5
  subst hk
  obtain ⟨tro, tc, ht, -⟩ := id g7
  subst ht
  obtain ⟨a, hd⟩ : ∃ a, d = .pointer a := by
    obtain ⟨bd, bs, bcc, fv, ps, rfl, -⟩ := h
    exact ⟨_, rfl⟩
  subst hd
  have hcells : (Dd.mk dn A To (.slice bo b.length bc) b n (.slice ko ks.length kc) ks (.slice tro ts.length tc) ts).cells.toArray = #[.int .u8 (dn : Int), .string A, .string To, .slice bo b.length bc, .int .i64 n, .slice ko ks.length kc, .slice tro ts.length tc] := rfl
  rw [hcells]
  clear hcells
  have hb1 : Below w.heap.size w (w.alloc (.cells #[.int .u8 (dn : Int), .string A, .string To, .slice bo b.length bc, .int .i64 n, .slice ko ks.length kc, .slice tro ts.length tc] 49)) := (Below.refl _ _).alloc (Nat.le_refl _) _
  have hdk := h.below hb1
  have r2 := g2.below hb1
  have r5 := g5.belowX hb1
  have r7 := g7.belowX hb1
  clear h g2 g5 g7
  by_cases h2 : dn ≤ 2
  · have e : doD D ⟨dn, A, To, .slice bo b.length bc, b, n, .slice ko ks.length kc, ks, .slice tro ts.length tc, ts⟩ = appendD D A b := by unfold doD; rw [if_pos h2]
    rw [e]
    obtain rfl | rfl | rfl : dn = 0 ∨ dn = 1 ∨ dn = 2 := by omega
    all_goals
      clear h2 e r5 r7
      go_enter Try.func30, Try.ntmps30
      go_wp2_with fail
      refine (append_any hdk A hA _ b r2 o1).mono ?_
      rintro e w1 hdd
      obtain ⟨rfl, hd⟩ : e = .returned (.int .i64 (appendD D A b).2) ∧ Deed e _ w1 F _ _ := ⟨hdd.1, hdd⟩
      go_wp2
      go_ret
      exact deed_in hb1 hd
  · by_cases h3 : dn = 3
    · have e : doD D ⟨dn, A, To, .slice bo b.length bc, b, n, .slice ko ks.length kc, ks, .slice tro ts.length tc, ts⟩ = syncD D A := by unfold doD; rw [if_neg (by simp only; omega), if_pos h3]
      rw [e]
      subst h3
      clear h2 e r2 r5 r7
      go_enter Try.func30, Try.ntmps30
      go_wp2_with fail
      refine (sync_any hdk A).mono ?_
      rintro e w1 hdd
      obtain ⟨rfl, hd⟩ : e = .returned (.int .i64 (syncD D A).2) ∧ Deed e _ w1 F _ _ := ⟨hdd.1, hdd⟩
      go_wp2
      go_ret
      exact deed_in hb1 hd
    by_cases h4 : dn = 4
    · have e : doD D ⟨dn, A, To, .slice bo b.length bc, b, n, .slice ko ks.length kc, ks, .slice tro ts.length tc, ts⟩ = renameD D A To := by unfold doD; rw [if_neg (by simp only; omega), if_neg (by simp only; omega), if_pos h4]
      rw [e]
      subst h4
      clear h2 e r2 r5 r7
      go_enter Try.func30, Try.ntmps30
      go_wp2_with fail
      refine (rename_any hdk A To hT).mono ?_
      rintro e w1 hdd
      obtain ⟨rfl, hd⟩ : e = .returned (.int .i64 (renameD D A To).2) ∧ Deed e _ w1 F _ _ := ⟨hdd.1, hdd⟩
      go_wp2
      go_ret
      exact deed_in hb1 hd
    by_cases h5 : dn = 5
    · have e : doD D ⟨dn, A, To, .slice bo b.length bc, b, n, .slice ko ks.length kc, ks, .slice tro ts.length tc, ts⟩ = removeD D A := by unfold doD; rw [if_neg (by simp only; omega), if_neg (by simp only; omega), if_neg (by simp only; omega), if_pos h5]
      rw [e]
      subst h5
      clear h2 e r2 r5 r7
      go_enter Try.func30, Try.ntmps30
      go_wp2_with fail
      refine (remove_any hdk A).mono ?_
      rintro e w1 hdd
      obtain ⟨rfl, hd⟩ : e = .returned (.int .i64 (removeD D A).2) ∧ Deed e _ w1 F _ _ := ⟨hdd.1, hdd⟩
      go_wp2
      go_ret
      exact deed_in hb1 hd
    by_cases h6 : dn = 6
    · have e : doD D ⟨dn, A, To, .slice bo b.length bc, b, n, .slice ko ks.length kc, ks, .slice tro ts.length tc, ts⟩ = cutD D A n := by unfold doD; rw [if_neg (by simp only; omega), if_neg (by simp only; omega), if_neg (by simp only; omega), if_neg (by simp only; omega), if_pos h6]
      rw [e]
      subst h6
      clear h2 e r2 r5 r7
      go_enter Try.func30, Try.ntmps30
      go_wp2_with fail
      refine (cut_any hdk A n).mono ?_
      rintro e w1 hdd
      obtain ⟨rfl, hd⟩ : e = .returned (.int .i64 (cutD D A n).2) ∧ Deed e _ w1 F _ _ := ⟨hdd.1, hdd⟩
      go_wp2
      go_ret
      exact deed_in hb1 hd
    by_cases h7 : dn = 7
    · have e : doD D ⟨dn, A, To, .slice bo b.length bc, b, n, .slice ko ks.length kc, ks, .slice tro ts.length tc, ts⟩ = (armD D n, 0) := by unfold doD; rw [if_neg (by simp only; omega), if_neg (by simp only; omega), if_neg (by simp only; omega), if_neg (by simp only; omega), if_neg (by simp only; omega), if_pos h7]
      rw [e]
      subst h7
      clear h2 e r2 r5 r7
      go_enter Try.func30, Try.ntmps30
      go_wp2_with fail
      refine (arm_any hdk n g4).mono ?_
      rintro e w1 ⟨rfl, hd, hc⟩
      go_wp2
      go_ret
      exact deed_in hb1 ⟨rfl, hd.mono (fun _ _ h => .inl h), hc⟩
    by_cases h8 : dn = 8
    · have e : doD D ⟨dn, A, To, .slice bo b.length bc, b, n, .slice ko ks.length kc, ks, .slice tro ts.length tc, ts⟩ = (crashD D ks ts, 0) := by unfold doD; rw [if_neg (by simp only; omega), if_neg (by simp only; omega), if_neg (by simp only; omega), if_neg (by simp only; omega), if_neg (by simp only; omega), if_neg (by simp only; omega), if_pos h8]
      rw [e]
      subst h8
      clear h2 e r2
      go_enter Try.func30, Try.ntmps30
      go_wp2_with fail
      refine (crash_any hdk _ _ ks ts r5 r7 o2 o3 g6 g8).mono ?_
      rintro e w1 ⟨rfl, hd, hc⟩
      go_wp2
      go_ret
      exact deed_in hb1 ⟨rfl, hd, hc⟩
    have e : doD D ⟨dn, A, To, .slice bo b.length bc, b, n, .slice ko ks.length kc, ks, .slice tro ts.length tc, ts⟩ = (D, 0) := by unfold doD; rw [if_neg (by simp only; omega), if_neg (by simp only; omega), if_neg (by simp only; omega), if_neg (by simp only; omega), if_neg (by simp only; omega), if_neg (by simp only; omega), if_neg (by simp only; omega)]
    rw [e]
    have m0 : ((dn : Int) == 0) = false := by simp only [beq_eq_false_iff_ne]; omega
    have m1 : ((dn : Int) == 1) = false := by simp only [beq_eq_false_iff_ne]; omega
    have m2 : ((dn : Int) == 2) = false := by simp only [beq_eq_false_iff_ne]; omega
    have m3 : ((dn : Int) == 3) = false := by simp only [beq_eq_false_iff_ne]; omega
    have m4 : ((dn : Int) == 4) = false := by simp only [beq_eq_false_iff_ne]; omega
    have m5 : ((dn : Int) == 5) = false := by simp only [beq_eq_false_iff_ne]; omega
    have m6 : ((dn : Int) == 6) = false := by simp only [beq_eq_false_iff_ne]; omega
    have m7 : ((dn : Int) == 7) = false := by simp only [beq_eq_false_iff_ne]; omega
    have m8 : ((dn : Int) == 8) = false := by simp only [beq_eq_false_iff_ne]; omega
    clear e h2 h3 h4 h5 h6 h7 h8 r2 r5 r7
    go_enter Try.func30, Try.ntmps30
    go_wp2
    go_ret
    exact deed_in hb1 ⟨rfl, hdk.mono (fun _ _ h => .inl h), Chg.refl _ _⟩
end Go.Proofs.Ytloigepmmhcibaa
