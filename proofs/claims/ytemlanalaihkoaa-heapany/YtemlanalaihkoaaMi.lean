/-
  The contract of settle. Own work.
-/
import Derived.Test.YtemlanalaihkoaaMh
namespace Go.Proofs.Ytemlanalaihkoaa
open Go.RowKit Go.Sort

/-- what stands while settle goes on -/
structure In (w0 w : World) (sb mb cs : Nat) (tv : Value) (most n : Nat) (f0 f : Nat → Tm) (l : Int → Option Nat) : Prop where
  sm : Sm w sb mb tv most n f
  mp : Mp w mb n 3 (LI l)
  pl : PL l f n
  mem : ∀ x, (∃ i, i < n ∧ f i = x) ↔ ∃ i, i < n ∧ f0 i = x
  chg : Chg (Blk sb mb tv) w0 w
  cc : w.heap[cs]? = some (.cells #[.pointer (some ⟨sb, 0, none⟩)] 60 (0, 0))
theorem In.below {w0 w w' : World} {sb mb cs most n : Nat} {tv : Value} {f0 f : Nat → Tm} {l : Int → Option Nat} (h : In w0 w sb mb cs tv most n f0 f l) (hb : Below w.heap.size w w') : In w0 w' sb mb cs tv most n f0 f l :=
  ⟨h.sm.below hb, h.mp.heap (hb.block _ h.mp.lt), h.pl, h.mem, h.chg.trans (Chg.ofBelow hb (fun _ => False)) (fun _ _ h => h.elim), (hb.block _ (lt_of h.cc)).trans h.cc⟩
theorem In.cell {w0 w : World} {sb mb cs most n : Nat} {tv : Value} {f0 f : Nat → Tm} {l : Int → Option Nat} (h : In w0 w sb mb cs tv most n f0 f l) : w.cell? ⟨cs, 0, none⟩ = some (.pointer (some ⟨sb, 0, none⟩)) := by rw [cell_of h.cc]; rfl
theorem In.change {w0 w : World} {sb mb cs most n : Nat} {tv : Value} {f0 f : Nat → Tm} {l : Int → Option Nat} (h : In w0 w sb mb cs tv most n f0 f l) (a b : Nat) (ha : a < n) (hb : b < n) (hab : a ≠ b) :
    Calls Try.prog 41 #[.int .i64 a, .int .i64 b, .pointer (some ⟨cs, 0, none⟩)] w fun e w' => e = .returned (.tuple #[]) ∧ In w0 w' sb mb cs tv most n f0 (swp f a b) (setL (setL l (f b).2 a) (f a).2 b) := by
  refine (change_any h.sm h.mp h.pl h.cc a b ha hb hab).mono ?_
  rintro e w' ⟨rfl, h1, h2, h3⟩
  refine ⟨rfl, h1, h2, h.pl.swp ha hb, fun x => (swp_mem f n a b ha hb x).trans (h.mem x), h.chg.trans h3 (fun _ _ h => h), ?_⟩
  rw [h3.block _ (lt_of h.cc) ?_]
  · exact h.cc
  · rintro (e | e | e)
    · exact ne_of_elem h.cc h.sm.cs (by decide) e
    · obtain ⟨es, c, hm⟩ := h.mp.isMap
      have hc := h.cc
      rw [e, hm] at hc; cases hc
    · obtain ⟨cur, hc⟩ := h.sm.tr.elem _ e
      exact ne_of_elem h.cc hc (by decide) rfl

theorem half_cast (p : Nat) : ((p : Int) - 1).tdiv 2 = (((p - 1) / 2 : Nat) : Int) := by
  rcases Nat.eq_zero_or_pos p with rfl | h
  · rfl
  · rw [Int.tdiv_eq_ediv_of_nonneg (by omega)]
    omega

/-- what settle comes to -/
def Settled (w0 : World) (sb mb : Nat) (tv : Value) (most n : Nat) (f0 : Nat → Tm) (w : World) : Prop :=
  ∃ f l, Sm w sb mb tv most n f ∧ Mp w mb n 3 (LI l) ∧ PL l f n ∧ HO f n ∧ (∀ x, (∃ i, i < n ∧ f i = x) ↔ ∃ i, i < n ∧ f0 i = x) ∧ Chg (Blk sb mb tv) w0 w

set_option maxRecDepth 100000 in
set_option maxHeartbeats 3200000 in
theorem settle_any {w : World} {sb mb most n : Nat} {tv : Value} {f : Nat → Tm} {l : Int → Option Nat} (h : Sm w sb mb tv most n f) (hm : Mp w mb n 3 (LI l)) (hl : PL l f n) (p : Nat) (hw : Wr f n p) (hp : p < n) :
    Calls Try.prog 34 #[.pointer (some ⟨sb, 0, none⟩), .int .i64 p] w fun e w' => e = .returned (.tuple #[]) ∧ Settled w sb mb tv most n f w' := by
  have hn : n ≤ 65536 := Nat.le_trans h.le h.mx
  obtain ⟨W, HW⟩ := named (w.alloc (.cells #[.pointer (some ⟨sb, 0, none⟩)] 60))
  obtain ⟨cs, HCS⟩ := named w.heap.size
  have HI : Hid (In w W sb mb cs tv most n f f l) := by
    show In _ _ _ _ _ _ _ _ _ _ _
    rw [HW.out, HCS.out]
    have hb : Below w.heap.size w (w.alloc (.cells #[.pointer (some ⟨sb, 0, none⟩)] 60)) := (Below.refl _ _).alloc (Nat.le_refl _) _
    exact ⟨h.below hb, hm.heap (hb.block _ hm.lt), hl, fun _ => Iff.rfl, Chg.ofBelow hb _, heap_new _ _⟩
  have HWR : Hid (Wr f n p) := hw
  clear h hm hl hw
  obtain ⟨p1, HP1⟩ := named ((p - 1) / 2)
  have hpd := half_cast p
  rw [← HP1.out] at hpd
  have hp1 : (p1 : Int) ≤ 65536 := by rw [HP1.out]; omega
  go_enter Try.func34, Try.ntmps34
  all_goals
    go_wp2_with (rw [← HW.out])
    (try rw [← HCS.out])
    go_loopw [1, 5] (fun at_ up wr => ∃ (q : Nat) (f1 : Nat → Tm) (l1 : Int → Option Nat), q < n ∧ at_ = .int .i64 q ∧ up = .int .i64 (((q - 1) / 2 : Nat) : Int) ∧ Hid (In w wr sb mb cs tv most n f f1 l1) ∧ Hid (Wr f1 n q)) (fun at_ _ _ => (intOf at_).toNat)
    case atStart => exact ⟨_, f, l, hp, rfl, by rw [HP1.out], HI, HWR⟩
    case round =>
      obtain ⟨q, f1, l1, hq, rfl, rfl, HI1, HW1⟩ := hrel
      clear HI HWR
      have hu : (q - 1) / 2 < n := by omega
      have hune : 0 < q → q ≠ (q - 1) / 2 := by omega
      have hult : 0 < q → (q - 1) / 2 < q := by omega
      have ka : Hid (∀ u, u < n → Calls Try.prog 42 #[.pointer (some ⟨sb, 0, none⟩), .int .i64 q, .int .i64 u] wr fun e w' => e = .returned (.bool (decide (Ah (f1 q) (f1 u)))) ∧ Below wr.heap.size wr w') := fun u hu => ahead_any HI1.out.sm q u hq hu
      have cc := HI1.out.cell
      by_cases hc : 0 < q ∧ Ah (f1 q) (f1 ((q - 1) / 2))
      · obtain ⟨q0, hAh⟩ := hc
        have hune := hune q0
        have hult := hult q0
        have HWU : Hid (Wr (swp f1 q ((q - 1) / 2)) n ((q - 1) / 2)) := HW1.out.up q0 hq hAh
        obtain ⟨u, HU⟩ := named ((q - 1) / 2)
        rw [← HU.out] at hu hune hult hAh HWU ⊢
        have ka1 := ka.out u hu
        rw [decide_eq_true hAh] at ka1
        have kc : Hid (∀ w', Below wr.heap.size wr w' → Calls Try.prog 41 #[.int .i64 q, .int .i64 u, .pointer (some ⟨cs, 0, none⟩)] w' fun e w'' => e = .returned (.tuple #[]) ∧ In w w'' sb mb cs tv most n f (swp f1 q u) (setL (setL l1 (f1 u).2 q) (f1 q).2 u)) := fun w' hb => (HI1.out.below hb).change q u hq hu hune
        have hqI : 0 < (q : Int) := by omega
        have hud := half_cast u
        obtain ⟨u1, HU1⟩ := named ((u - 1) / 2)
        rw [← HU1.out] at hud
        have hu1 : (u1 : Int) ≤ 65536 := by rw [HU1.out]; omega
        clear ka
        all_goals
          go_wp2_with (first | ((with_reducible refine Calls.mono ka1 ?_); clear ka1; rintro e w1 ⟨rfl, hb1⟩; have cc1 := ((HI1.out.below hb1).cell)) | ((with_reducible refine Calls.mono (kc.out _ (by assumption)) ?_); clear kc; rintro e w2 ⟨rfl, hi2⟩; have HI2 : Hid (In _ _ _ _ _ _ _ _ _ _ _) := hi2; clear hi2))
          go_roundw
          case rel => exact ⟨_, _, _, hu, rfl, by rw [HU1.out], HI2, HWU⟩
          case measure => simp [intOf]; omega
      · have HUP : Hid (0 < q → ¬ Ah (f1 q) (f1 ((q - 1) / 2))) := fun h0 h1 => hc ⟨h0, h1⟩
        have kb : Hid (∀ w', Below wr.heap.size wr w' → Calls Try.prog 43 #[.pointer (some ⟨sb, 0, none⟩), .int .i64 q] w' fun e w'' => e = .returned (.int .i64 (belowF f1 n q : Nat)) ∧ Below w'.heap.size w' w'') := fun w' hb => below_any (HI1.out.sm.below hb) q hq
        have kd : Hid (∀ w' w'', Below wr.heap.size wr w' → Below w'.heap.size w' w'' → In w w'' sb mb cs tv most n f f1 l1) := fun w' w'' hb hb' => (HI1.out.below hb).below hb'
        have kcc : Hid (∀ w', Below wr.heap.size wr w' → w'.cell? ⟨cs, 0, none⟩ = some (.pointer (some ⟨sb, 0, none⟩))) := fun w' hb => (HI1.out.below hb).cell
        have ka1 : Hid (0 < q → Calls Try.prog 42 #[.pointer (some ⟨sb, 0, none⟩), .int .i64 q, .int .i64 (((q - 1) / 2 : Nat) : Int)] wr fun e w' => e = .returned (.bool false) ∧ Below wr.heap.size wr w') := fun h0 => by
          have := ka.out _ hu
          rw [decide_eq_false (HUP.out h0)] at this
          exact this
        obtain ⟨u, HU⟩ := named ((q - 1) / 2)
        rw [← HU.out] at ka1 ⊢
        clear ka hc
        rcases (show ¬ 0 < (q : Int) ∨ (0 < q ∧ 0 < (q : Int)) by omega) with q0 | ⟨q0, q1⟩
        all_goals
          have hbw := Below.refl wr.heap.size wr
          go_wp2_with (first | ((with_reducible refine Calls.mono (ka1.out (by assumption)) ?_); clear ka1 hbw; rintro e w1 ⟨rfl, hb1⟩; have cc1 := kcc.out _ hb1) | ((with_reducible refine Calls.mono (kb.out _ (by assumption)) ?_); rintro e w2 ⟨rfl, hb2⟩; have HI2 : Hid (In _ _ _ _ _ _ _ _ _ _ _) := kd.out _ _ (by assumption) hb2; clear hb2))
          go_loopw [1, 6] (fun at_ down wr => ∃ (q : Nat) (f1 : Nat → Tm) (l1 : Int → Option Nat), q < n ∧ at_ = .int .i64 q ∧ down = .int .i64 (belowF f1 n q : Nat) ∧ Hid (In w wr sb mb cs tv most n f f1 l1) ∧ Hid (Wr f1 n q) ∧ Hid (0 < q → ¬ Ah (f1 q) (f1 ((q - 1) / 2)))) (fun at_ _ _ => n - (intOf at_).toNat)
          case atStart => exact ⟨_, f1, l1, hq, rfl, rfl, HI2, HW1, HUP⟩
          case round =>
            clear HI2 HW1 HUP
            obtain ⟨q, f1, l1, hq, rfl, rfl, HI3, HW3, HUP3⟩ := hrel
            have hd := below_lt f1 n q hq
            have HMN : Hid _ := below_min f1 n q
            have HCH : Hid _ := below_child f1 n q
            obtain ⟨d, HD⟩ := named (belowF f1 n q)
            rw [← HD.out] at hd HMN HCH ⊢
            have ka2 := ahead_any HI3.out.sm d q hd hq
            have cc2 := HI3.out.cell
            by_cases hAh : Ah (f1 d) (f1 q)
            · rw [decide_eq_true hAh] at ka2
              obtain ⟨d0, hdq, hqd⟩ := HCH.out hAh
              have HWD : Hid _ := HW3.out.down hd d0 hdq HMN.out hAh
              have kc2 : Hid (∀ w', Below wr.heap.size wr w' → Calls Try.prog 41 #[.int .i64 q, .int .i64 d, .pointer (some ⟨cs, 0, none⟩)] w' fun e w'' => e = .returned (.tuple #[]) ∧ In w w'' sb mb cs tv most n f (swp f1 q d) (setL (setL l1 (f1 d).2 q) (f1 q).2 d)) := fun w' hb => (HI3.out.below hb).change q d hq hd (by omega)
              go_wp2_with fail
              (with_reducible refine Calls.mono ka2 ?_)
              clear ka2
              rintro e w3 ⟨rfl, hb3⟩
              have cc3 := (HI3.out.below hb3).cell
              go_wp2_with fail
              (with_reducible refine Calls.mono (kc2.out _ hb3) ?_)
              clear kc2
              rintro e w4 ⟨rfl, hi4⟩
              have HI4 : Hid _ := hi4
              have cc4 := hi4.cell
              have kb4 := below_any hi4.sm d hd
              clear hi4
              obtain ⟨d2, HD2⟩ := named (belowF (swp f1 q d) n d)
              rw [← HD2.out] at kb4
              go_wp2_with fail
              (with_reducible refine Calls.mono kb4 ?_)
              clear kb4
              rintro e w5 ⟨rfl, hb5⟩
              have HI5 : Hid _ := HI4.out.below hb5
              go_wp2_with fail
              go_roundw
              case rel => exact ⟨d, _, _, hd, rfl, by rw [HD2.out], HI5, HWD.out.1, HWD.out.2⟩
              case measure => simp [intOf]; omega
            · rw [decide_eq_false hAh] at ka2
              have HO1 : Hid (HO f1 n) := HW3.out.done HUP3.out fun c hc c0 hcp => Ah.ntrans hAh (HMN.out c hc c0 hcp)
              go_wp2_with fail
              (with_reducible refine Calls.mono ka2 ?_)
              clear ka2
              rintro e w3 ⟨rfl, hb3⟩
              have HI4 : Hid _ := HI3.out.below hb3
              go_wp2_with fail
              go_end0
              exact ⟨rfl, f1, l1, HI4.out.sm, HI4.out.mp, HI4.out.pl, HO1.out, HI4.out.mem, HI4.out.chg⟩
end Go.Proofs.Ytemlanalaihkoaa
