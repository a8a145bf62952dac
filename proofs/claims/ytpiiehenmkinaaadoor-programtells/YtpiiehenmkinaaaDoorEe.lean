/-
  A reader in memory; the contracts of number, signed, text. Own work.
-/
import Derived.Test.YtpiiehenmkinaaaDoorCk
import Derived.Deep.RegionHeld3
namespace Go.Proofs.YtpiiehenmkinaaaDoor
open Go.RowKit

/-- what has been changed is block b, or is new -/
structure ChgB (b : Nat) (w w' : World) : Prop where
  os : w'.os = w.os
  tape : w'.tape = w.tape
  output : w'.output = w.output
  size : w.heap.size ≤ w'.heap.size
  block : ∀ k, k < w.heap.size → k ≠ b → w'.heap[k]? = w.heap[k]?
theorem ChgB.refl (b : Nat) (w : World) : ChgB b w w := ⟨rfl, rfl, rfl, Nat.le_refl _, fun _ _ _ => rfl⟩
theorem ChgB.trans {b : Nat} {u v w : World} (h : ChgB b u v) (k : ChgB b v w) : ChgB b u w :=
  ⟨k.os.trans h.os, k.tape.trans h.tape, k.output.trans h.output, Nat.le_trans h.size k.size, fun i hi hb => (k.block i (Nat.lt_of_lt_of_le hi h.size) hb).trans (h.block i hi hb)⟩
theorem ChgB.ofBelow {b : Nat} {w w' : World} (h : Below w.heap.size w w') : ChgB b w w' := ⟨h.os, h.tape, h.output, h.size, fun k hk _ => h.block k hk⟩
theorem ChgB.below {b B : Nat} {w w' : World} (h : ChgB b w w') (hB : B ≤ b) (hw : B ≤ w.heap.size) : Below B w w' := ⟨h.os, h.tape, h.output, h.size, fun k hk => h.block k (by omega) (by omega)⟩
theorem ChgB.setCell {b o : Nat} {u w : World} (h : ChgB b u w) (x : Value) : ChgB b u (w.setCell ⟨b, o, none⟩ x) :=
  ⟨h.os, h.tape, h.output, by have := h.size; simp [World.setCell]; omega, fun k hk hF => by
    rw [Below.heap_setCell _ _ _ _ (by exact hF)]
    exact h.block k hk hF⟩
theorem ChgB.drew {b : Nat} {u w : World} (h : ChgB b u w) : ChgB b u w.drew := ⟨h.os, h.tape, h.output, h.size, h.block⟩
theorem ChgB.cell {b g : Nat} {w w' : World} (h : ChgB b w w') (hl : g < w.heap.size) (hb : g ≠ b) (o : Nat) : w'.cell? ⟨g, o, none⟩ = w.cell? ⟨g, o, none⟩ := World.cell?_of_block (w := w) (a := ⟨g, o, none⟩) (h.block g hl hb)

/-- a reader of l in block rb -/
structure Rdr (w0 w : World) (rb : Nat) (bv : Value) (l : List UInt8) (st : RS) : Prop where
  c : C3 w rb bv (.int .i64 (st.1 : Int)) (.bool st.2)
  lt : w0.heap.size ≤ rb
  rd : Rd w0 bv l
  bel : Below w0.heap.size w0 w
theorem Rdr.small {w0 w : World} {rb : Nat} {bv : Value} {l : List UInt8} {st : RS} (h : Rdr w0 w rb bv l st) : Rd w bv l := h.rd.below h.bel
theorem Rdr.go {w0 w w' : World} {rb : Nat} {bv : Value} {l : List UInt8} {st st' : RS} (h : Rdr w0 w rb bv l st) (hc : ChgB rb w w') (h3 : C3 w' rb bv (.int .i64 (st'.1 : Int)) (.bool st'.2)) : Rdr w0 w' rb bv l st' :=
  ⟨h3, h.lt, h.rd, h.bel.trans (hc.below h.lt h.bel.size)⟩
theorem Rdr.below {w0 w w' : World} {rb : Nat} {bv : Value} {l : List UInt8} {st : RS} (h : Rdr w0 w rb bv l st) (hb : Below w.heap.size w w') : Rdr w0 w' rb bv l st :=
  h.go (ChgB.ofBelow hb) (h.c.below hb)
theorem C3.second {w : World} {g : Nat} {a b c : Value} (x : Value) (h : C3 w g a b c) : C3 (w.setCell ⟨g, 1, none⟩ x) g a x c := by
  obtain ⟨h0, h1, h2, h3, h4, h5, h6⟩ := h
  exact ⟨by simpa [World.setCell] using h0, (cell_other _ _ _ _ _ _ (.inr (by omega))).trans h1, World.cell?_setCell_same _ _ _ h2, (cell_other _ _ _ _ _ _ (.inr (by omega))).trans h3, by simpa using h4, by simpa using h5, by simpa using h6⟩

set_option maxRecDepth 100000 in
set_option maxHeartbeats 1600000 in
theorem number_any {w0 w : World} {rb : Nat} {bv : Value} {l : List UInt8} {st : RS} (h : Rdr w0 w rb bv l st) (hl : l.length ≤ 1000000) (most : Nat) (hm : most ≤ 1000) :
    Calls Tryd.prog 54 #[.pointer (some ⟨rb, 0, none⟩), .int .u64 (most : Int)] w fun e w' => e = .returned (.int .i64 ((numR l most st).1 : Int)) ∧ Rdr w0 w' rb bv l (numR l most st).2 ∧ ChgB rb w w' := by
  obtain ⟨p, wrong⟩ := st
  obtain ⟨ao, cap, hv, -⟩ := id h.rd
  subst hv
  have H := hide h
  have hc := h.c
  obtain ⟨-, c0, c1, c2, f0, f1, f2⟩ := id hc
  obtain ⟨n, HN⟩ := named l.length
  rw [← HN.out] at H hc c0 ⊢
  cases wrong with
  | true =>
    have e : numR l most (p, true) = (0, (p, true)) := rfl
    rw [e]
    go_enter Tryd.func54, Tryd.ntmps54
    go_wp2
    go_ret
    exact ⟨rfl, H.out, ChgB.refl _ _⟩
  | false =>
    have hrd := h.small
    rw [← HN.out] at hrd
    have e : numR l most (p, false) = if (getU l p).2.2 ≠ 0 ∨ most < (getU l p).1 then (0, (p, true)) else ((getU l p).1, ((getU l p).2.1, false)) := by
      unfold numR
      rw [if_neg (by simp)]
    have hgl := getU_lt l p
    have kc := getUint_any (.slice ao n cap) l p w.drew hrd (by omega)
    obtain ⟨g1, G1⟩ := named (getU l p).1
    obtain ⟨g2, G2⟩ := named (getU l p).2.1
    obtain ⟨g3, G3⟩ := named (getU l p).2.2
    rw [← G1.out, ← G2.out, ← G3.out] at e kc
    rw [← G1.out] at hgl
    obtain ⟨R, HR⟩ := named (numR l most (p, false))
    rw [← HR.out] at e ⊢
    have HE := hide e
    have hs0 : w.drew.cell? ⟨rb, 0, none⟩ = some (.slice ao n cap) ∧ w.drew.cell? ⟨rb, 1, none⟩ = some (.int .i64 p) := ⟨c0, c1⟩
    clear e h hrd hc
    go_enter Tryd.func54, Tryd.ntmps54
    go_wp2_with fail
    go_region_held3 (fun w' => w'.cell? ⟨rb, 0, none⟩ = some (.slice ao n cap) ∧ w'.cell? ⟨rb, 1, none⟩ = some (.int .i64 p)) (first | exact hs0) (first | (go_at_call 71; refine Calls.mono kc ?_; rintro e w1 ⟨rfl, rfl⟩))
    have HCD := hide (show C3 w.drew rb (.slice ao n cap) (.int .i64 (p : Int)) (.bool false) from H.out.c)
    have d0 : w.drew.cell? ⟨rb, 1, none⟩ = some (.int .i64 p) := c1
    have d2 : w.drew.cell? ⟨rb, 2, none⟩ = some (.bool false) := c2
    have e1 : w.drew.frozen? ⟨rb, 1, none⟩ = false := f1
    have e2 : w.drew.frozen? ⟨rb, 2, none⟩ = false := f2
    have hlast : R = (0, (p, true)) → Rdr w0 (w.drew.setCell ⟨rb, 2, none⟩ (.bool true)) rb (.slice ao n cap) l R.2 ∧ ChgB rb w (w.drew.setCell ⟨rb, 2, none⟩ (.bool true)) := fun hr => by
      rw [hr]
      have hch : ChgB rb w (w.drew.setCell ⟨rb, 2, none⟩ (.bool true)) := (ChgB.refl rb w).drew.setCell _
      exact ⟨H.out.go hch (HCD.out.third _), hch⟩
    have HLA := hide hlast
    clear hs0 c0 c1 c2 f0 f1 f2 hlast
    by_cases h3 : g3 = 0
    · subst h3
      by_cases h1 : g1 ≤ most
      · have h1' : ¬ (most : Int) < (g1 : Int) := by omega
        have hR : R = (g1, (g2, false)) := by rw [HE.out, if_neg (by omega)]
        have hw : wrap64 (g1 : Int) = (g1 : Int) := by unfold wrap64; omega
        go_wp2
        go_ret
        have hch : ChgB rb w (w.drew.setCell ⟨rb, 1, none⟩ (.int .i64 (g2 : Int))) := (ChgB.refl rb w).drew.setCell _
        exact ⟨rfl, H.out.go (st' := (g2, false)) hch (HCD.out.second _), hch⟩
      · have h1' : (most : Int) < (g1 : Int) := by omega
        have hR : R = (0, (p, true)) := by rw [HE.out, if_pos (.inr (by omega))]
        go_wp2
        go_ret
        obtain ⟨k1, k2⟩ := HLA.out hR
        exact ⟨by rw [hR]; rfl, k1, k2⟩
    · have h3' : ¬ (g3 : Int) = 0 := by omega
      have hR : R = (0, (p, true)) := by rw [HE.out, if_pos (.inl h3)]
      go_wp2
      go_ret
      obtain ⟨k1, k2⟩ := HLA.out hR
      exact ⟨by rw [hR]; rfl, k1, k2⟩
set_option maxRecDepth 100000 in
set_option maxHeartbeats 1600000 in
theorem signed_any {w0 w : World} {rb : Nat} {bv : Value} {l : List UInt8} {st : RS} (h : Rdr w0 w rb bv l st) (hl : l.length ≤ 1000000) :
    Calls Tryd.prog 72 #[.pointer (some ⟨rb, 0, none⟩)] w fun e w' => e = .returned (.int .i64 (sigR l st).1) ∧ Rdr w0 w' rb bv l (sigR l st).2 ∧ ChgB rb w w' := by
  obtain ⟨p, wrong⟩ := st
  obtain ⟨ao, cap, hv, -⟩ := id h.rd
  subst hv
  have H := hide h
  have hc := h.c
  obtain ⟨-, c0, c1, c2, f0, f1, f2⟩ := id hc
  obtain ⟨n, HN⟩ := named l.length
  rw [← HN.out] at H hc c0 ⊢
  cases wrong with
  | true =>
    have e : sigR l (p, true) = (0, (p, true)) := rfl
    rw [e]
    go_enter Tryd.func72, Tryd.ntmps72
    go_wp2
    go_ret
    exact ⟨rfl, H.out, ChgB.refl _ _⟩
  | false =>
    have hrd := h.small
    rw [← HN.out] at hrd
    have e : sigR l (p, false) = (unfoldI (getU l p).1, ((getU l p).2.1, decide ((getU l p).2.2 ≠ 0))) := by
      unfold sigR
      rw [if_neg (by simp)]
    have kc := getInt_any (.slice ao n cap) l p w.drew hrd (by omega)
    obtain ⟨z1, G1⟩ := named (unfoldI (getU l p).1)
    obtain ⟨g2, G2⟩ := named (getU l p).2.1
    obtain ⟨g3, G3⟩ := named (getU l p).2.2
    rw [← G1.out, ← G2.out, ← G3.out] at e kc
    rw [e]
    have hs0 : w.drew.cell? ⟨rb, 0, none⟩ = some (.slice ao n cap) ∧ w.drew.cell? ⟨rb, 1, none⟩ = some (.int .i64 p) := ⟨c0, c1⟩
    clear e h hrd hc
    go_enter Tryd.func72, Tryd.ntmps72
    go_wp2_with fail
    go_region_held3 (fun w' => w'.cell? ⟨rb, 0, none⟩ = some (.slice ao n cap) ∧ w'.cell? ⟨rb, 1, none⟩ = some (.int .i64 p)) (first | exact hs0) (first | (go_at_call 81; refine Calls.mono kc ?_; rintro e w1 ⟨rfl, rfl⟩))
    have HCD := hide (show C3 w.drew rb (.slice ao n cap) (.int .i64 (p : Int)) (.bool false) from H.out.c)
    have d0 : w.drew.cell? ⟨rb, 1, none⟩ = some (.int .i64 p) := c1
    have d2 : w.drew.cell? ⟨rb, 2, none⟩ = some (.bool false) := c2
    have e1 : w.drew.frozen? ⟨rb, 1, none⟩ = false := f1
    have e2 : w.drew.frozen? ⟨rb, 2, none⟩ = false := f2
    have hlast : ∀ b : Bool, Rdr w0 ((w.drew.setCell ⟨rb, 1, none⟩ (.int .i64 (g2 : Int))).setCell ⟨rb, 2, none⟩ (.bool b)) rb (.slice ao n cap) l (g2, b) ∧ ChgB rb w ((w.drew.setCell ⟨rb, 1, none⟩ (.int .i64 (g2 : Int))).setCell ⟨rb, 2, none⟩ (.bool b)) := fun b => by
      have hch : ChgB rb w ((w.drew.setCell ⟨rb, 1, none⟩ (.int .i64 (g2 : Int))).setCell ⟨rb, 2, none⟩ (.bool b)) := ((ChgB.refl rb w).drew.setCell _).setCell _
      exact ⟨H.out.go (st' := (g2, b)) hch ((HCD.out.second _).third _), hch⟩
    have hx3 : (w.setCell ⟨rb, 1, none⟩ (.int .i64 (g2 : Int))).cell? ⟨rb, 2, none⟩ = some (.bool false) := (cell_other _ _ _ _ _ _ (.inr (by omega))).trans c2
    have hx4 : (w.setCell ⟨rb, 1, none⟩ (.int .i64 (g2 : Int))).frozen? ⟨rb, 2, none⟩ = false := by simpa using f2
    have hx2 : (w.drew.setCell ⟨rb, 1, none⟩ (.int .i64 (g2 : Int))).cell? ⟨rb, 2, none⟩ = some (.bool false) := (cell_other _ _ _ _ _ _ (.inr (by omega))).trans c2
    have HLA := hide hlast
    clear hs0 c0 c1 c2 f0 f1 f2 hlast
    by_cases h3 : g3 = 0
    · subst h3
      go_wp2
      go_ret
      exact ⟨rfl, (HLA.out false).1, (HLA.out false).2⟩
    · have h3' : ¬ (g3 : Int) = 0 := by omega
      have hd : decide (g3 ≠ 0) = true := decide_eq_true h3
      have hd2 : ((g3 : Int) != 0) = true := by rw [bne_iff_ne]; exact h3'
      go_wp2
      go_ret
      first | exact ⟨rfl, (HLA.out true).1, (HLA.out true).2⟩ | (rw [hd]; exact ⟨rfl, (HLA.out true).1, (HLA.out true).2⟩)
end Go.Proofs.YtpiiehenmkinaaaDoor
