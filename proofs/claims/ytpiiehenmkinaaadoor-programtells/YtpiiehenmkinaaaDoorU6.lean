/-
  Several of my texts in one: Ee Ef Eg Eh Ei. Own work.
-/
import Derived.Test.YtpiiehenmkinaaaDoorU3
import Derived.Deep.RegionHeld3
import Derived.Deep.RegionHeld
/-
  A reader in memory; the contracts of number, signed, text. Own work.
-/
namespace Go.Proofs.YtpiiehenmkinaaaDoor
open Go.RowKit

/-- what has been changed is block b, or is new -/
structure ChgB (b : Nat) (w w' : World) : Prop where
  os : w'.os = w.os
  tape : w'.tape = w.tape
  output : w'.output = w.output
  size : w.heap.size ≤ w'.heap.size
  block : ∀ k, k < w.heap.size → k ≠ b → w'.heap[k]? = w.heap[k]?
theorem ChgB.refl (b : Nat) (w : World) : ChgB b w w := ⟨rfl, rfl, rfl, Nat.le_refl _, fun _ _ _ => rfl⟩
theorem ChgB.trans {b : Nat} {u v w : World} (h : ChgB b u v) (k : ChgB b v w) : ChgB b u w :=
  ⟨k.os.trans h.os, k.tape.trans h.tape, k.output.trans h.output, Nat.le_trans h.size k.size, fun i hi hb => (k.block i (Nat.lt_of_lt_of_le hi h.size) hb).trans (h.block i hi hb)⟩
theorem ChgB.ofBelow {b : Nat} {w w' : World} (h : Below w.heap.size w w') : ChgB b w w' := ⟨h.os, h.tape, h.output, h.size, fun k hk _ => h.block k hk⟩
theorem ChgB.below {b B : Nat} {w w' : World} (h : ChgB b w w') (hB : B ≤ b) (hw : B ≤ w.heap.size) : Below B w w' := ⟨h.os, h.tape, h.output, h.size, fun k hk => h.block k (by omega) (by omega)⟩
theorem ChgB.setCell {b o : Nat} {u w : World} (h : ChgB b u w) (x : Value) : ChgB b u (w.setCell ⟨b, o, none⟩ x) :=
  ⟨h.os, h.tape, h.output, by have := h.size; simp [World.setCell]; omega, fun k hk hF => by
    rw [Below.heap_setCell _ _ _ _ (by exact hF)]
    exact h.block k hk hF⟩
theorem ChgB.drew {b : Nat} {u w : World} (h : ChgB b u w) : ChgB b u w.drew := ⟨h.os, h.tape, h.output, h.size, h.block⟩
theorem ChgB.cell {b g : Nat} {w w' : World} (h : ChgB b w w') (hl : g < w.heap.size) (hb : g ≠ b) (o : Nat) : w'.cell? ⟨g, o, none⟩ = w.cell? ⟨g, o, none⟩ := World.cell?_of_block (w := w) (a := ⟨g, o, none⟩) (h.block g hl hb)

/-- a reader of l in block rb -/
structure Rdr (w0 w : World) (rb : Nat) (bv : Value) (l : List UInt8) (st : RS) : Prop where
  c : C3 w rb bv (.int .i64 (st.1 : Int)) (.bool st.2)
  lt : w0.heap.size ≤ rb
  rd : Rd w0 bv l
  bel : Below w0.heap.size w0 w
theorem Rdr.small {w0 w : World} {rb : Nat} {bv : Value} {l : List UInt8} {st : RS} (h : Rdr w0 w rb bv l st) : Rd w bv l := h.rd.below h.bel
theorem Rdr.go {w0 w w' : World} {rb : Nat} {bv : Value} {l : List UInt8} {st st' : RS} (h : Rdr w0 w rb bv l st) (hc : ChgB rb w w') (h3 : C3 w' rb bv (.int .i64 (st'.1 : Int)) (.bool st'.2)) : Rdr w0 w' rb bv l st' :=
  ⟨h3, h.lt, h.rd, h.bel.trans (hc.below h.lt h.bel.size)⟩
theorem Rdr.below {w0 w w' : World} {rb : Nat} {bv : Value} {l : List UInt8} {st : RS} (h : Rdr w0 w rb bv l st) (hb : Below w.heap.size w w') : Rdr w0 w' rb bv l st :=
  h.go (ChgB.ofBelow hb) (h.c.below hb)
theorem C3.second {w : World} {g : Nat} {a b c : Value} (x : Value) (h : C3 w g a b c) : C3 (w.setCell ⟨g, 1, none⟩ x) g a x c := by
  obtain ⟨h0, h1, h2, h3, h4, h5, h6⟩ := h
  exact ⟨by simpa [World.setCell] using h0, (cell_other _ _ _ _ _ _ (.inr (by omega))).trans h1, World.cell?_setCell_same _ _ _ h2, (cell_other _ _ _ _ _ _ (.inr (by omega))).trans h3, by simpa using h4, by simpa using h5, by simpa using h6⟩

set_option maxRecDepth 100000 in
set_option maxHeartbeats 1600000 in
theorem number_any {w0 w : World} {rb : Nat} {bv : Value} {l : List UInt8} {st : RS} (h : Rdr w0 w rb bv l st) (hl : l.length ≤ 1000000) (most : Nat) (hm : most ≤ 1000) :
    Calls Tryd.prog 54 #[.pointer (some ⟨rb, 0, none⟩), .int .u64 (most : Int)] w fun e w' => e = .returned (.int .i64 ((numR l most st).1 : Int)) ∧ Rdr w0 w' rb bv l (numR l most st).2 ∧ ChgB rb w w' := by
  obtain ⟨p, wrong⟩ := st
  obtain ⟨ao, cap, hv, -⟩ := id h.rd
  subst hv
  have H := hide h
  have hc := h.c
  obtain ⟨-, c0, c1, c2, f0, f1, f2⟩ := id hc
  obtain ⟨n, HN⟩ := named l.length
  rw [← HN.out] at H hc c0 ⊢
  cases wrong with
  | true =>
    have e : numR l most (p, true) = (0, (p, true)) := rfl
    rw [e]
    go_enter Tryd.func54, Tryd.ntmps54
    go_wp2
    go_ret
    exact ⟨rfl, H.out, ChgB.refl _ _⟩
  | false =>
    have hrd := h.small
    rw [← HN.out] at hrd
    have e : numR l most (p, false) = if (getU l p).2.2 ≠ 0 ∨ most < (getU l p).1 then (0, (p, true)) else ((getU l p).1, ((getU l p).2.1, false)) := by
      unfold numR
      rw [if_neg (by simp)]
    have hgl := getU_lt l p
    have kc := getUint_any (.slice ao n cap) l p w.drew hrd (by omega)
    obtain ⟨g1, G1⟩ := named (getU l p).1
    obtain ⟨g2, G2⟩ := named (getU l p).2.1
    obtain ⟨g3, G3⟩ := named (getU l p).2.2
    rw [← G1.out, ← G2.out, ← G3.out] at e kc
    rw [← G1.out] at hgl
    obtain ⟨R, HR⟩ := named (numR l most (p, false))
    rw [← HR.out] at e ⊢
    have HE := hide e
    have hs0 : w.drew.cell? ⟨rb, 0, none⟩ = some (.slice ao n cap) ∧ w.drew.cell? ⟨rb, 1, none⟩ = some (.int .i64 p) := ⟨c0, c1⟩
    clear e h hrd hc
    go_enter Tryd.func54, Tryd.ntmps54
    go_wp2_with fail
    go_region_held3 (fun w' => w'.cell? ⟨rb, 0, none⟩ = some (.slice ao n cap) ∧ w'.cell? ⟨rb, 1, none⟩ = some (.int .i64 p)) (first | exact hs0) (first | (go_at_call 71; refine Calls.mono kc ?_; rintro e w1 ⟨rfl, rfl⟩))
    have HCD := hide (show C3 w.drew rb (.slice ao n cap) (.int .i64 (p : Int)) (.bool false) from H.out.c)
    have d0 : w.drew.cell? ⟨rb, 1, none⟩ = some (.int .i64 p) := c1
    have d2 : w.drew.cell? ⟨rb, 2, none⟩ = some (.bool false) := c2
    have e1 : w.drew.frozen? ⟨rb, 1, none⟩ = false := f1
    have e2 : w.drew.frozen? ⟨rb, 2, none⟩ = false := f2
    have hlast : R = (0, (p, true)) → Rdr w0 (w.drew.setCell ⟨rb, 2, none⟩ (.bool true)) rb (.slice ao n cap) l R.2 ∧ ChgB rb w (w.drew.setCell ⟨rb, 2, none⟩ (.bool true)) := fun hr => by
      rw [hr]
      have hch : ChgB rb w (w.drew.setCell ⟨rb, 2, none⟩ (.bool true)) := (ChgB.refl rb w).drew.setCell _
      exact ⟨H.out.go hch (HCD.out.third _), hch⟩
    have HLA := hide hlast
    clear hs0 c0 c1 c2 f0 f1 f2 hlast
    by_cases h3 : g3 = 0
    · subst h3
      by_cases h1 : g1 ≤ most
      · have h1' : ¬ (most : Int) < (g1 : Int) := by omega
        have hR : R = (g1, (g2, false)) := by rw [HE.out, if_neg (by omega)]
        have hw : wrap64 (g1 : Int) = (g1 : Int) := by unfold wrap64; omega
        go_wp2
        go_ret
        have hch : ChgB rb w (w.drew.setCell ⟨rb, 1, none⟩ (.int .i64 (g2 : Int))) := (ChgB.refl rb w).drew.setCell _
        exact ⟨rfl, H.out.go (st' := (g2, false)) hch (HCD.out.second _), hch⟩
      · have h1' : (most : Int) < (g1 : Int) := by omega
        have hR : R = (0, (p, true)) := by rw [HE.out, if_pos (.inr (by omega))]
        go_wp2
        go_ret
        obtain ⟨k1, k2⟩ := HLA.out hR
        exact ⟨by rw [hR]; rfl, k1, k2⟩
    · have h3' : ¬ (g3 : Int) = 0 := by omega
      have hR : R = (0, (p, true)) := by rw [HE.out, if_pos (.inl h3)]
      go_wp2
      go_ret
      obtain ⟨k1, k2⟩ := HLA.out hR
      exact ⟨by rw [hR]; rfl, k1, k2⟩
set_option maxRecDepth 100000 in
set_option maxHeartbeats 1600000 in
theorem signed_any {w0 w : World} {rb : Nat} {bv : Value} {l : List UInt8} {st : RS} (h : Rdr w0 w rb bv l st) (hl : l.length ≤ 1000000) :
    Calls Tryd.prog 72 #[.pointer (some ⟨rb, 0, none⟩)] w fun e w' => e = .returned (.int .i64 (sigR l st).1) ∧ Rdr w0 w' rb bv l (sigR l st).2 ∧ ChgB rb w w' := by
  obtain ⟨p, wrong⟩ := st
  obtain ⟨ao, cap, hv, -⟩ := id h.rd
  subst hv
  have H := hide h
  have hc := h.c
  obtain ⟨-, c0, c1, c2, f0, f1, f2⟩ := id hc
  obtain ⟨n, HN⟩ := named l.length
  rw [← HN.out] at H hc c0 ⊢
  cases wrong with
  | true =>
    have e : sigR l (p, true) = (0, (p, true)) := rfl
    rw [e]
    go_enter Tryd.func72, Tryd.ntmps72
    go_wp2
    go_ret
    exact ⟨rfl, H.out, ChgB.refl _ _⟩
  | false =>
    have hrd := h.small
    rw [← HN.out] at hrd
    have e : sigR l (p, false) = (unfoldI (getU l p).1, ((getU l p).2.1, decide ((getU l p).2.2 ≠ 0))) := by
      unfold sigR
      rw [if_neg (by simp)]
    have kc := getInt_any (.slice ao n cap) l p w.drew hrd (by omega)
    obtain ⟨z1, G1⟩ := named (unfoldI (getU l p).1)
    obtain ⟨g2, G2⟩ := named (getU l p).2.1
    obtain ⟨g3, G3⟩ := named (getU l p).2.2
    rw [← G1.out, ← G2.out, ← G3.out] at e kc
    rw [e]
    have hs0 : w.drew.cell? ⟨rb, 0, none⟩ = some (.slice ao n cap) ∧ w.drew.cell? ⟨rb, 1, none⟩ = some (.int .i64 p) := ⟨c0, c1⟩
    clear e h hrd hc
    go_enter Tryd.func72, Tryd.ntmps72
    go_wp2_with fail
    go_region_held3 (fun w' => w'.cell? ⟨rb, 0, none⟩ = some (.slice ao n cap) ∧ w'.cell? ⟨rb, 1, none⟩ = some (.int .i64 p)) (first | exact hs0) (first | (go_at_call 81; refine Calls.mono kc ?_; rintro e w1 ⟨rfl, rfl⟩))
    have HCD := hide (show C3 w.drew rb (.slice ao n cap) (.int .i64 (p : Int)) (.bool false) from H.out.c)
    have d0 : w.drew.cell? ⟨rb, 1, none⟩ = some (.int .i64 p) := c1
    have d2 : w.drew.cell? ⟨rb, 2, none⟩ = some (.bool false) := c2
    have e1 : w.drew.frozen? ⟨rb, 1, none⟩ = false := f1
    have e2 : w.drew.frozen? ⟨rb, 2, none⟩ = false := f2
    have hlast : ∀ b : Bool, Rdr w0 ((w.drew.setCell ⟨rb, 1, none⟩ (.int .i64 (g2 : Int))).setCell ⟨rb, 2, none⟩ (.bool b)) rb (.slice ao n cap) l (g2, b) ∧ ChgB rb w ((w.drew.setCell ⟨rb, 1, none⟩ (.int .i64 (g2 : Int))).setCell ⟨rb, 2, none⟩ (.bool b)) := fun b => by
      have hch : ChgB rb w ((w.drew.setCell ⟨rb, 1, none⟩ (.int .i64 (g2 : Int))).setCell ⟨rb, 2, none⟩ (.bool b)) := ((ChgB.refl rb w).drew.setCell _).setCell _
      exact ⟨H.out.go (st' := (g2, b)) hch ((HCD.out.second _).third _), hch⟩
    have hx3 : (w.setCell ⟨rb, 1, none⟩ (.int .i64 (g2 : Int))).cell? ⟨rb, 2, none⟩ = some (.bool false) := (cell_other _ _ _ _ _ _ (.inr (by omega))).trans c2
    have hx4 : (w.setCell ⟨rb, 1, none⟩ (.int .i64 (g2 : Int))).frozen? ⟨rb, 2, none⟩ = false := by simpa using f2
    have hx2 : (w.drew.setCell ⟨rb, 1, none⟩ (.int .i64 (g2 : Int))).cell? ⟨rb, 2, none⟩ = some (.bool false) := (cell_other _ _ _ _ _ _ (.inr (by omega))).trans c2
    have HLA := hide hlast
    clear hs0 c0 c1 c2 f0 f1 f2 hlast
    by_cases h3 : g3 = 0
    · subst h3
      go_wp2
      go_ret
      exact ⟨rfl, (HLA.out false).1, (HLA.out false).2⟩
    · have h3' : ¬ (g3 : Int) = 0 := by omega
      have hd : decide (g3 ≠ 0) = true := decide_eq_true h3
      have hd2 : ((g3 : Int) != 0) = true := by rw [bne_iff_ne]; exact h3'
      go_wp2
      go_ret
      first | exact ⟨rfl, (HLA.out true).1, (HLA.out true).2⟩ | (rw [hd]; exact ⟨rfl, (HLA.out true).1, (HLA.out true).2⟩)
end Go.Proofs.YtpiiehenmkinaaaDoor

/-
  The contract of text. Own work.
-/
namespace Go.Proofs.YtpiiehenmkinaaaDoor
open Go.RowKit

theorem Own.farCell {w : World} {base b o : Nat} {v : Value} {l : List UInt8} (h : Own w base v l) (hb : b < base) (u : Value) : Own (w.setCell ⟨b, o, none⟩ u) base v l := by
  refine ⟨h.1, ?_⟩
  rcases h.2 with h2 | ⟨g, cap, cur, hv, hb2, hg, r⟩
  · exact .inl h2
  · refine .inr ⟨g, cap, cur, hv, hb2, ?_, r⟩
    rw [Below.heap_setCell _ _ _ _ (by show g ≠ b; omega)]
    exact hg
set_option maxRecDepth 100000 in
set_option maxHeartbeats 1600000 in
theorem text_any {w0 w : World} {rb : Nat} {bv : Value} {l : List UInt8} {st : RS} (h : Rdr w0 w rb bv l st) (hl : l.length ≤ 1000000) :
    Calls Tryd.prog 53 #[.pointer (some ⟨rb, 0, none⟩)] w fun e w' => e = .returned (.string ⟨(txtR l st).1.toArray⟩) ∧ Rdr w0 w' rb bv l (txtR l st).2 ∧ ChgB rb w w' := by
  obtain ⟨p, wrong⟩ := st
  obtain ⟨ao, cap, hv, -⟩ := id h.rd
  subst hv
  have H := hide h
  have hc := h.c
  obtain ⟨-, c0, c1, c2, f0, f1, f2⟩ := id hc
  obtain ⟨n, HN⟩ := named l.length
  rw [← HN.out] at H hc c0 ⊢
  cases wrong with
  | true =>
    have e : txtR l (p, true) = ([], (p, true)) := rfl
    rw [e]
    go_enter Tryd.func53, Tryd.ntmps53
    go_wp2
    go_ret
    exact ⟨rfl, H.out, ChgB.refl _ _⟩
  | false =>
    have hrd := h.small
    rw [← HN.out] at hrd
    have e : txtR l (p, false) = ((getB l p 40).1, ((getB l p 40).2.1, decide ((getB l p 40).2.2 ≠ 0))) := by
      unfold txtR
      rw [if_neg (by simp)]
    have kc := getBlob_any (.slice ao n cap) l p 40 w.drew hrd (by omega) (by omega)
    obtain ⟨z1, G1⟩ := named (getB l p 40).1
    obtain ⟨g2, G2⟩ := named (getB l p 40).2.1
    obtain ⟨g3, G3⟩ := named (getB l p 40).2.2
    rw [← G1.out, ← G2.out, ← G3.out] at e kc
    rw [e]
    have hs0 : w.drew.cell? ⟨rb, 0, none⟩ = some (.slice ao n cap) ∧ w.drew.cell? ⟨rb, 1, none⟩ = some (.int .i64 p) := ⟨c0, c1⟩
    have hlt : rb < w.heap.size := hc.1
    have hts := run_toStr
    clear e h hrd hc
    go_enter Tryd.func53, Tryd.ntmps53
    go_wp2_with fail
    go_region_held3 (fun w' => w'.cell? ⟨rb, 0, none⟩ = some (.slice ao n cap) ∧ w'.cell? ⟨rb, 1, none⟩ = some (.int .i64 p)) (first | exact hs1 | exact hs0) (first | (go_at_call 70; refine Calls.mono kc ?_; rintro e w1 ⟨v1, rfl, ho1, hb1⟩; have hb1 : Below w.heap.size w w1 := ⟨hb1.os, hb1.tape, hb1.output, hb1.size, hb1.block⟩; have hs1 : w1.cell? ⟨rb, 0, none⟩ = some (.slice ao n cap) ∧ w1.cell? ⟨rb, 1, none⟩ = some (.int .i64 p) := ⟨(hb1.cell (p := ⟨rb, 0, none⟩) hlt).trans c0, (hb1.cell (p := ⟨rb, 1, none⟩) hlt).trans c1⟩))
    have ho : Own w1 w.heap.size v1 z1 := ho1
    have HCD := hide (H.out.c.below hb1)
    obtain ⟨-, d0, d1, d2, e0, e1, e2⟩ := id HCD.out
    have hx3 : (w1.setCell ⟨rb, 1, none⟩ (.int .i64 (g2 : Int))).cell? ⟨rb, 2, none⟩ = some (.bool false) := (cell_other _ _ _ _ _ _ (.inr (by omega))).trans d2
    have hx4 : (w1.setCell ⟨rb, 1, none⟩ (.int .i64 (g2 : Int))).frozen? ⟨rb, 2, none⟩ = false := by simpa using e2
    have hlast : ∀ b : Bool, (toStr v1).run Tryd.prog ((w1.setCell ⟨rb, 1, none⟩ (.int .i64 (g2 : Int))).setCell ⟨rb, 2, none⟩ (.bool b)) = .ok (.string ⟨z1.toArray⟩) ((w1.setCell ⟨rb, 1, none⟩ (.int .i64 (g2 : Int))).setCell ⟨rb, 2, none⟩ (.bool b)) ∧ Rdr w0 ((w1.setCell ⟨rb, 1, none⟩ (.int .i64 (g2 : Int))).setCell ⟨rb, 2, none⟩ (.bool b)) rb (.slice ao n cap) l (g2, b) ∧ ChgB rb w ((w1.setCell ⟨rb, 1, none⟩ (.int .i64 (g2 : Int))).setCell ⟨rb, 2, none⟩ (.bool b)) := fun b => by
      have hch : ChgB rb w ((w1.setCell ⟨rb, 1, none⟩ (.int .i64 (g2 : Int))).setCell ⟨rb, 2, none⟩ (.bool b)) := ((ChgB.ofBelow hb1).setCell _).setCell _
      exact ⟨run_str _ _ _ ((ho.farCell hlt _).farCell hlt _).rd, H.out.go (st' := (g2, b)) hch ((HCD.out.second _).third _), hch⟩
    have HLA := hide hlast
    clear hs0 hs1 c0 c1 c2 f0 f1 f2 hlast ho ho1 hb1
    by_cases h3 : g3 = 0
    · subst h3
      have hrs := (HLA.out false).1
      go_wp2
      go_ret
      exact ⟨rfl, (HLA.out false).2.1, (HLA.out false).2.2⟩
    · have h3' : ¬ (g3 : Int) = 0 := by omega
      have hd : decide (g3 ≠ 0) = true := decide_eq_true h3
      have hd2 : ((g3 : Int) != 0) = true := by rw [bne_iff_ne]; exact h3'
      have hrs := (HLA.out true).1
      go_wp2
      go_ret
      first | exact ⟨rfl, (HLA.out true).2.1, (HLA.out true).2.2⟩ | (rw [hd]; exact ⟨rfl, (HLA.out true).2.1, (HLA.out true).2.2⟩)
end Go.Proofs.YtpiiehenmkinaaaDoor

/-
  The contract of instr. Own work.
-/
namespace Go.Proofs.YtpiiehenmkinaaaDoor
open Go.RowKit

theorem numR_le (l : List UInt8) (most : Nat) (st : RS) : (numR l most st).1 ≤ most := by
  unfold numR
  split
  · exact Nat.zero_le _
  · split
    · exact Nat.zero_le _
    · show (getU l st.1).1 ≤ most
      omega
def C6 (w : World) (g : Nat) (c0 c1 c2 c3 c4 c5 : Value) : Prop := g < w.heap.size ∧ (w.cell? ⟨g, 0, none⟩ = some c0 ∧ w.cell? ⟨g, 1, none⟩ = some c1 ∧ w.cell? ⟨g, 2, none⟩ = some c2 ∧ w.cell? ⟨g, 3, none⟩ = some c3 ∧ w.cell? ⟨g, 4, none⟩ = some c4 ∧ w.cell? ⟨g, 5, none⟩ = some c5) ∧
  (w.frozen? ⟨g, 0, none⟩ = false ∧ w.frozen? ⟨g, 1, none⟩ = false ∧ w.frozen? ⟨g, 2, none⟩ = false ∧ w.frozen? ⟨g, 3, none⟩ = false ∧ w.frozen? ⟨g, 4, none⟩ = false ∧ w.frozen? ⟨g, 5, none⟩ = false)
theorem C6.of {w : World} {g : Nat} {c0 c1 c2 c3 c4 c5 : Value} {t : TypeId} (h : w.heap[g]? = some (.cells #[c0, c1, c2, c3, c4, c5] t (0, 0))) : C6 w g c0 c1 c2 c3 c4 c5 :=
  ⟨(Array.getElem?_eq_some_iff.1 h).1, ⟨by simp [World.cell?, h], by simp [World.cell?, h], by simp [World.cell?, h], by simp [World.cell?, h], by simp [World.cell?, h], by simp [World.cell?, h]⟩, ⟨by simp [World.frozen?, h], by simp [World.frozen?, h], by simp [World.frozen?, h], by simp [World.frozen?, h], by simp [World.frozen?, h], by simp [World.frozen?, h]⟩⟩
theorem C6.new (w : World) (c0 c1 c2 c3 c4 c5 : Value) (t : TypeId) : C6 (w.alloc (.cells #[c0, c1, c2, c3, c4, c5] t)) w.heap.size c0 c1 c2 c3 c4 c5 := C6.of (heap_alloc_new w _)
theorem ChgB.frozen {b g : Nat} {w w' : World} (h : ChgB b w w') (hl : g < w.heap.size) (hb : g ≠ b) (o : Nat) : w'.frozen? ⟨g, o, none⟩ = w.frozen? ⟨g, o, none⟩ := World.frozen?_of_block (w := w) (a := ⟨g, o, none⟩) (h.block g hl hb)
theorem C6.chg {w w' : World} {g b : Nat} {c0 c1 c2 c3 c4 c5 : Value} (h : C6 w g c0 c1 c2 c3 c4 c5) (hc : ChgB b w w') (hb : g ≠ b) : C6 w' g c0 c1 c2 c3 c4 c5 := by
  obtain ⟨h0, ⟨a0, a1, a2, a3, a4, a5⟩, ⟨f0, f1, f2, f3, f4, f5⟩⟩ := h
  exact ⟨Nat.lt_of_lt_of_le h0 hc.size, ⟨(hc.cell h0 hb 0).trans a0, (hc.cell h0 hb 1).trans a1, (hc.cell h0 hb 2).trans a2, (hc.cell h0 hb 3).trans a3, (hc.cell h0 hb 4).trans a4, (hc.cell h0 hb 5).trans a5⟩,
    ⟨(hc.frozen h0 hb 0).trans f0, (hc.frozen h0 hb 1).trans f1, (hc.frozen h0 hb 2).trans f2, (hc.frozen h0 hb 3).trans f3, (hc.frozen h0 hb 4).trans f4, (hc.frozen h0 hb 5).trans f5⟩⟩
def set6 (w : World) (g : Nat) (c0 c1 c2 c3 c4 c5 : Value) : World := (((((w.setCell ⟨g, 0, none⟩ c0).setCell ⟨g, 1, none⟩ c1).setCell ⟨g, 2, none⟩ c2).setCell ⟨g, 3, none⟩ c3).setCell ⟨g, 4, none⟩ c4).setCell ⟨g, 5, none⟩ c5
theorem below_set6 {B g : Nat} {w w' : World} (h : Below B w w') (c0 c1 c2 c3 c4 c5 : Value) (hg : B ≤ g) : Below B w (set6 w' g c0 c1 c2 c3 c4 c5) :=
  (((((h.setCell hg _).setCell hg _).setCell hg _).setCell hg _).setCell hg _).setCell hg _
theorem chg_new {b g : Nat} {w w' : World} (h : ChgB b w w') (hg : w.heap.size ≤ g) (o : Nat) (x : Value) : ChgB b w (w'.setCell ⟨g, o, none⟩ x) :=
  ⟨h.os, h.tape, h.output, by have := h.size; simp [World.setCell]; omega, fun k hk hF => by
    rw [Below.heap_setCell _ _ _ _ (by show k ≠ g; omega)]
    exact h.block k hk hF⟩
theorem chg_set6 {b g : Nat} {w w' : World} (h : ChgB b w w') (hg : w.heap.size ≤ g) (c0 c1 c2 c3 c4 c5 : Value) : ChgB b w (set6 w' g c0 c1 c2 c3 c4 c5) :=
  chg_new (chg_new (chg_new (chg_new (chg_new (chg_new h hg _ _) hg _ _) hg _ _) hg _ _) hg _ _) hg _ _
theorem C3.set6 {w : World} {g g' : Nat} {a b c : Value} (x0 x1 x2 x3 x4 x5 : Value) (h : C3 w g a b c) (hg : g ≠ g') : C3 (set6 w g' x0 x1 x2 x3 x4 x5) g a b c :=
  (((((h.one x0 hg).one x1 hg).one x2 hg).one x3 hg).one x4 hg).one x5 hg

set_option maxRecDepth 100000 in
set_option maxHeartbeats 1600000 in
theorem instr_any {w0 w : World} {rb : Nat} {bv : Value} {l : List UInt8} {st : RS} (h : Rdr w0 w rb bv l st) (hl : l.length ≤ 1000000) :
    Calls Tryd.prog 55 #[.pointer (some ⟨rb, 0, none⟩)] w fun e w' => e = .returned (insV (insR l st).1) ∧ Rdr w0 w' rb bv l (insR l st).2 ∧ ChgB rb w w' := by
  have hlt : rb < w.heap.size := h.c.1
  obtain ⟨W, HW⟩ := named (w.alloc (.cells #[.int .u8 0, .int .i64 0, .int .i64 0, .int .i64 0, .int .i64 0, .string ⟨#[]⟩] 28))
  have hbW : Below w.heap.size w W := by rw [HW.out]; exact (Below.refl _ _).alloc (Nat.le_refl _) _
  obtain ⟨tb, HTB⟩ := named w.heap.size
  have HC0 := hide (show C6 W tb (.int .u8 0) (.int .i64 0) (.int .i64 0) (.int .i64 0) (.int .i64 0) (.string ⟨#[]⟩) by rw [HW.out, HTB.out]; exact C6.new _ _ _ _ _ _ _ _)
  have H0 := hide (h.below hbW)
  have HG0 := hide (ChgB.ofBelow (b := rb) hbW)
  have hne : tb ≠ rb := by rw [HTB.out]; omega
  obtain ⟨R, HR⟩ := named (insR l st)
  have HE := hide HR.out
  unfold insR at HE
  rw [← HR.out]
  have hle := numR_le l 255 st
  obtain ⟨o0, O0⟩ := named (numR l 255 st)
  rw [← O0.out] at HE hle
  obtain ⟨o1, O1⟩ := named (numR l 16 o0.2)
  rw [← O1.out] at HE
  obtain ⟨o2, O2⟩ := named (numR l 16 o1.2)
  rw [← O2.out] at HE
  obtain ⟨o3, O3⟩ := named (numR l 20 o2.2)
  rw [← O3.out] at HE
  obtain ⟨o4, O4⟩ := named (sigR l o3.2)
  rw [← O4.out] at HE
  obtain ⟨o5, O5⟩ := named (txtR l o4.2)
  rw [← O5.out] at HE
  clear h hbW
  go_enter Tryd.func55, Tryd.ntmps55
  go_wp2_with fail
  rw [← HW.out, ← HTB.out]
  refine (number_any H0.out hl 255 (by omega)).mono ?_
  rintro e w1 ⟨rfl, hr1, hg1⟩
  rw [← O0.out] at hr1 ⊢
  have H1 := hide hr1
  have HG1 := hide (HG0.out.trans hg1)
  have HC1 := hide (HC0.out.chg hg1 hne)
  clear hr1 hg1
  have hwu : IntKind.u8.wrap (o0.1 : Int) = (o0.1 : Int) := by simp [IntKind.wrap, IntKind.bits, IntKind.signed]; omega
  go_wp2_with fail
  refine (number_any H1.out hl 16 (by omega)).mono ?_
  rintro e w2 ⟨rfl, hr2, hg2⟩
  rw [← O1.out] at hr2 ⊢
  have H2 := hide hr2
  have HG2 := hide (HG1.out.trans hg2)
  have HC2 := hide (HC1.out.chg hg2 hne)
  clear hr2 hg2
  go_wp2_with fail
  refine (number_any H2.out hl 16 (by omega)).mono ?_
  rintro e w3 ⟨rfl, hr3, hg3⟩
  rw [← O2.out] at hr3 ⊢
  have H3 := hide hr3
  have HG3 := hide (HG2.out.trans hg3)
  have HC3 := hide (HC2.out.chg hg3 hne)
  clear hr3 hg3
  go_wp2_with fail
  refine (number_any H3.out hl 20 (by omega)).mono ?_
  rintro e w4 ⟨rfl, hr4, hg4⟩
  rw [← O3.out] at hr4 ⊢
  have H4 := hide hr4
  have HG4 := hide (HG3.out.trans hg4)
  have HC4 := hide (HC3.out.chg hg4 hne)
  clear hr4 hg4
  go_wp2_with fail
  refine (signed_any H4.out hl).mono ?_
  rintro e w5 ⟨rfl, hr5, hg5⟩
  rw [← O4.out] at hr5 ⊢
  have H5 := hide hr5
  have HG5 := hide (HG4.out.trans hg5)
  have HC5 := hide (HC4.out.chg hg5 hne)
  clear hr5 hg5
  go_wp2_with fail
  refine (text_any H5.out hl).mono ?_
  rintro e w6 ⟨rfl, hr6, hg6⟩
  rw [← O5.out] at hr6 ⊢
  have H6 := hide hr6
  have HG6 := hide (HG5.out.trans hg6)
  have HC6 := hide (HC5.out.chg hg6 hne)
  clear hr6 hg6
  obtain ⟨-, ⟨a0, a1, a2, a3, a4, a5⟩, ⟨f0, f1, f2, f3, f4, f5⟩⟩ := id HC6.out
  go_wp2
  refine bodyPost_ret (v := insV R.1) ?_ rfl ?_
  · rw [HE.out]
    simp [results, Tryd.results55, go_sem, insV, insC, a0, a1, a2, a3, a4, a5]
  · have hR2 : R.2 = o5.2 := by rw [HE.out]
    have hch : ChgB rb w (set6 w6 tb (.int .u8 (o0.1 : Int)) (.int .i64 (o1.1 : Int)) (.int .i64 (o2.1 : Int)) (.int .i64 (o3.1 : Int)) (.int .i64 o4.1) (.string ⟨o5.1.toArray⟩)) := chg_set6 HG6.out (by rw [HTB.out]; exact Nat.le_refl _) _ _ _ _ _ _
    rw [hR2]
    refine ⟨rfl, ?_, hch⟩
    have h6 := H6.out
    exact ⟨h6.c.set6 _ _ _ _ _ _ (fun e => hne e.symm), h6.lt, h6.rd, below_set6 h6.bel _ _ _ _ _ _ (by have := h6.lt; rw [HTB.out]; omega)⟩
end Go.Proofs.YtpiiehenmkinaaaDoor

/-
  The contract of the reader's program. Own work.
-/
namespace Go.Proofs.YtpiiehenmkinaaaDoor
open Go.RowKit

theorem step_append_runC {P : Program} {ops : Array Oper} {o : Oper} {a : Act} {w : World} {K : Act → World → Prop} {Q : Exit → Act → World → Prop} {E : Prop}
    (hg : o.guard = none) (d x : Operand) (dT sT : TypeId) (hop : o.op = Op.call { callee := Callee.builtin Builtin.append, args := #[d, x], argTypes := #[dT, sT] })
    (v u : Value) (hd : a.eval d = v) (hx : a.eval x = u) {v' : Value} {w' : World} (hr : (Builtin.append_ #[dT, sT] o.type #[v, u]).run P w = .ok v' w') (hK : K (a.put o.dst v') w') :
    if Region.wanted o (yielded ops a.tmps) = true then Oper.wp P o a w K Q else E := by
  have hw : Region.wanted o (yielded ops a.tmps) = true := by simp [Region.wanted, hg]
  rw [if_pos hw]
  unfold Oper.wp
  simp [execOp, hop, resolve, invoke, builtin, hd, hx, hr, Result.andThen]
  exact hK
theorem C3.chg {w w' : World} {g b : Nat} {x y z : Value} (h : C3 w g x y z) (hc : ChgB b w w') (hb : g ≠ b) : C3 w' g x y z := by
  obtain ⟨h0, h1, h2, h3, h4, h5, h6⟩ := h
  exact ⟨Nat.lt_of_lt_of_le h0 hc.size, (hc.cell h0 hb 0).trans h1, (hc.cell h0 hb 1).trans h2, (hc.cell h0 hb 2).trans h3, (hc.frozen h0 hb 0).trans h4, (hc.frozen h0 hb 1).trans h5, (hc.frozen h0 hb 2).trans h6⟩
theorem C3.belowB {w w' : World} {g B : Nat} {x y z : Value} (h : C3 w g x y z) (hb : Below B w w') (hg : g < B) : C3 w' g x y z := by
  obtain ⟨h0, h1, h2, h3, h4, h5, h6⟩ := h
  exact ⟨Nat.lt_of_lt_of_le h0 hb.size, (hb.cell (p := ⟨g, 0, none⟩) hg).trans h1, (hb.cell (p := ⟨g, 1, none⟩) hg).trans h2, (hb.cell (p := ⟨g, 2, none⟩) hg).trans h3, (hb.frozen (p := ⟨g, 0, none⟩) hg).trans h4, (hb.frozen (p := ⟨g, 1, none⟩) hg).trans h5, (hb.frozen (p := ⟨g, 2, none⟩) hg).trans h6⟩
theorem Rdr.belowB {w0 w w' : World} {rb B : Nat} {bv : Value} {l : List UInt8} {st : RS} (h : Rdr w0 w rb bv l st) (hb : Below B w w') (hB : rb < B) : Rdr w0 w' rb bv l st :=
  ⟨h.c.belowB hb hB, h.lt, h.rd, h.bel.trans (hb.mono (by have := h.lt; omega))⟩
theorem ChgB.thenBelow {b B : Nat} {u w w' : World} (h : ChgB b u w) (k : Below B w w') (hB : u.heap.size ≤ B) : ChgB b u w' :=
  ⟨k.os.trans h.os, k.tape.trans h.tape, k.output.trans h.output, Nat.le_trans h.size k.size, fun i hi hb => (k.block i (by omega)).trans (h.block i hi hb)⟩
theorem codeR_step (l : List UInt8) (m : Nat) (st : RS) (acc : List Ins) (h : st.2 = false) : codeR l (m + 1) st acc = codeR l m (insR l st).2 (acc ++ [(insR l st).1]) := by
  rw [codeR, if_neg (by rw [h]; simp)]
theorem codeR_stop (l : List UInt8) (m : Nat) (st : RS) (acc : List Ins) (h : st.2 = true) : codeR l m st acc = (acc, st) := by
  cases m with
  | zero => rfl
  | succ m => rw [codeR, if_pos h]
set_option maxRecDepth 100000 in
set_option maxHeartbeats 3200000 in
theorem program_any {w0 w : World} {rb : Nat} {bv : Value} {l : List UInt8} (h : Rdr w0 w rb bv l (0, false)) (hl : l.length ≤ 1000000) :
    Calls Tryd.prog 31 #[.pointer (some ⟨rb, 0, none⟩)] w fun e w' => ∃ cv, e = .returned (prgV (prgR l).1 cv) ∧ Rdr w0 w' rb bv l (prgR l).2 ∧ ChgB rb w w' ∧ OwnC w' w.heap.size cv (prgR l).1.code := by
  have hlt : rb < w.heap.size := h.c.1
  have hw0 := h.lt
  obtain ⟨W1, HW1⟩ := named (w.alloc (.cells #[.string ⟨#[]⟩, .int .i64 0, .slice none 0 0] 24))
  have hbW : Below w.heap.size w W1 := by rw [HW1.out]; exact (Below.refl _ _).alloc (Nat.le_refl _) _
  have hzW : W1.heap.size = w.heap.size + 1 := by rw [HW1.out]; simp
  obtain ⟨sb, HSB⟩ := named w.heap.size
  have HS1 := hide (show C3 W1 sb (.string ⟨#[]⟩) (.int .i64 0) (.slice none 0 0) by rw [HW1.out, HSB.out]; exact C3.new _ _ _ _ _)
  have H1 := hide (h.below hbW)
  have HG1 := hide (ChgB.ofBelow (b := rb) hbW)
  have hsr : sb ≠ rb := by rw [HSB.out]; omega
  obtain ⟨T, HT⟩ := named (txtR l (0, false))
  obtain ⟨M, HM⟩ := named (numR l 16 T.2)
  obtain ⟨C, HC⟩ := named (numR l 500 M.2)
  have hcl : C.1 ≤ 500 := by rw [HC.out]; exact numR_le _ _ _
  have HPR := hide (show prgR l = (⟨⟨T.1.toArray⟩, (M.1 : Nat), (codeR l C.1 C.2 []).1⟩, (codeR l C.1 C.2 []).2) by rw [HC.out, HM.out, HT.out]; rfl)
  obtain ⟨PR, HP0⟩ := named (prgR l)
  rw [← HP0.out] at HPR ⊢
  clear h hbW
  go_enter Tryd.func31, Tryd.ntmps31
  go_wp2_with fail
  rw [← HW1.out, ← HSB.out]
  refine (text_any H1.out hl).mono ?_
  rintro e w2 ⟨rfl, hr2, hg2⟩
  rw [← HT.out] at hr2 ⊢
  have H2 := hide hr2
  have HG2 := hide (HG1.out.trans hg2)
  have HS2 := hide (HS1.out.chg hg2 hsr)
  clear hr2 hg2
  go_wp2_with fail
  refine (number_any H2.out hl 16 (by omega)).mono ?_
  rintro e w3 ⟨rfl, hr3, hg3⟩
  rw [← HM.out] at hr3 ⊢
  obtain ⟨W4, HW4⟩ := named (w3.alloc (.cells #[.string ⟨T.1.toArray⟩, .int .i64 (M.1 : Int), .slice none 0 0] 24))
  have hb4 : Below w3.heap.size w3 W4 := by rw [HW4.out]; exact (Below.refl _ _).alloc (Nat.le_refl _) _
  have HBZ4 := hide (show W4.heap.size = w3.heap.size + 1 by rw [HW4.out]; simp)
  obtain ⟨pb, HPB⟩ := named w3.heap.size
  have HP4 := hide (show C3 W4 pb (.string ⟨T.1.toArray⟩) (.int .i64 (M.1 : Int)) (.slice none 0 0) by rw [HW4.out, HPB.out]; exact C3.new _ _ _ _ _)
  have HG3 := hide (HG2.out.trans hg3)
  have H4 := hide (hr3.below hb4)
  have HG4 := hide (HG3.out.thenBelow hb4 HG3.out.size)
  have HS4 := hide ((HS2.out.chg hg3 hsr).below hb4)
  have hz3 := HG3.out.size
  have hwp : w.heap.size ≤ pb := by rw [HPB.out]; exact hz3
  have hpr : pb ≠ rb := by omega
  have hsp : sb ≠ pb := by
    rw [HSB.out, HPB.out]
    have := HS2.out.1
    have := hg3.size
    have := HSB.out
    omega
  clear hr3 hg3 hb4
  go_wp2_with fail
  rw [← HW4.out, ← HPB.out]
  refine (number_any H4.out hl 500 (by omega)).mono ?_
  rintro e w5 ⟨rfl, hr5, hg5⟩
  rw [← HC.out] at hr5 ⊢
  obtain ⟨B, HB⟩ := named W4.heap.size
  have hpB : pb < B := by rw [HB.out, HBZ4.out, HPB.out]; omega
  have hsB : sb < B := by
    have := HS4.out.1
    rw [HB.out]
    exact this
  have hrB : rb < B := by
    have := H4.out.c.1
    rw [HB.out]
    exact this
  have hwB : w.heap.size ≤ B := by omega
  have H5 := hide hr5
  have HG5 := hide (HG4.out.trans hg5)
  have HS5' := hide (HS4.out.chg hg5 hsr)
  have HP5' := hide (HP4.out.chg hg5 hpr)
  have HBZ5 := hide (show B ≤ w5.heap.size by rw [HB.out]; exact hg5.size)
  clear hr5 hg5 hz3
  obtain ⟨n, HN⟩ := named C.1
  rw [← HN.out] at hcl HPR ⊢
  go_wp2
  go_loopw [11] (fun iv wr => ∃ (k : Nat) (st : RS) (acc : List Ins) (cvv : Value), k ≤ n ∧ iv = .int .i64 k ∧ acc.length = k ∧ Hid (Rdr w0 wr rb bv l st) ∧ Hid (OwnC wr B cvv acc) ∧ Hid (C3 wr pb (.string ⟨T.1.toArray⟩) (.int .i64 (M.1 : Int)) cvv) ∧ Hid (C3 wr sb (.string ⟨#[]⟩) (.int .i64 0) (.slice none 0 0)) ∧ Hid (ChgB rb w wr) ∧ Hid (codeR l n C.2 [] = codeR l (n - k) st acc) ∧ Hid (B ≤ wr.heap.size)) (fun iv _ => n - (intOf iv).toNat)
  case atStart => exact ⟨0, C.2, [], _, by omega, rfl, rfl, H5.out, OwnC.nil _ _, HP5'.out, HS5'.out, HG5.out, by rfl, HBZ5.out⟩
  case round =>
    obtain ⟨k, st, acc, cvv, hkn, rfl, hal, HR, HO, HP, HS, HG, HCR, HBZ⟩ := hrel
    obtain ⟨co, cc, hcv⟩ := HO.out.shape
    rw [hal] at hcv
    subst hcv
    have hfin : codeR l n C.2 [] = (acc, st) → prgV PR.1 (.slice co k cc) = .agg #[.string ⟨T.1.toArray⟩, .int .i64 (M.1 : Int), .slice co k cc] ∧ PR.2 = st ∧ PR.1.code = acc := fun hh => by
      rw [HPR.out, hh]
      exact ⟨rfl, rfl, rfl⟩
    have HFI := hide hfin
    obtain ⟨-, c0, c1, c2, f0, f1, f2⟩ := id HP.out
    obtain ⟨-, s0, s1, s2, t0, t1, t2⟩ := id HS.out
    obtain ⟨-, q0, q1, q2, -⟩ := id HR.out.c
    have hend : ∀ V : World, V = set3 wr sb (.string ⟨T.1.toArray⟩) (.int .i64 (M.1 : Int)) (.slice co k cc) → Rdr w0 V rb bv l st ∧ ChgB rb w V ∧ OwnC V w.heap.size (.slice co k cc) acc := fun V hV => by
      subst hV
      have hws : w.heap.size ≤ sb := by rw [HSB.out]; exact Nat.le_refl _
      refine ⟨⟨HR.out.c.other _ _ _ (fun e => hsr e.symm), HR.out.lt, HR.out.rd, below_set3 HR.out.bel _ _ _ (by have := HR.out.lt; omega)⟩, chg_new (chg_new (chg_new HG.out hws _ _) hws _ _) hws _ _, ?_⟩
      refine (OwnC.heap (w' := set3 wr sb (.string ⟨T.1.toArray⟩) (.int .i64 (M.1 : Int)) (.slice co k cc)) HO.out (fun a ha => ?_)).mono hwB
      have := (HO.out.lt a ha).1
      unfold set3
      rw [Below.heap_setCell _ _ _ _ (by show a ≠ sb; omega), Below.heap_setCell _ _ _ _ (by show a ≠ sb; omega), Below.heap_setCell _ _ _ _ (by show a ≠ sb; omega)]
    have HEN := hide hend
    clear hfin hend
    by_cases hlt2 : k < n
    · cases hst : st.2 with
      | true =>
        rw [hst] at q2
        have hcr := HFI.out (by rw [HCR.out]; exact codeR_stop _ _ _ _ hst)
        go_wp2
        refine bodyPost_ret (v := .agg #[.string ⟨T.1.toArray⟩, .int .i64 (M.1 : Int), .slice co k cc]) (by simp [results, Tryd.results31, go_sem, s0, s1, s2]) rfl ?_
        obtain ⟨k1, k2, k3⟩ := HEN.out _ rfl
        refine ⟨.slice co k cc, by rw [hcr.1], by rw [hcr.2.1]; exact k1, k2, by rw [hcr.2.2]; exact k3⟩
      | false =>
        rw [hst] at q2
        have kc := instr_any (HR.out.below (w' := wr.drew) (Below.refl _ _).drew) hl
        have hcr : codeR l n C.2 [] = codeR l (n - (k + 1)) (insR l st).2 (acc ++ [(insR l st).1]) := by
          rw [HCR.out, show n - k = (n - (k + 1)) + 1 by omega]
          exact codeR_step _ _ _ _ hst
        obtain ⟨X, HX⟩ := named (insR l st)
        rw [← HX.out] at hcr kc
        have HCR1 := hide hcr
        have hk1 : k + 1 ≤ n := by omega
        clear hcr q0 q1 t0 t1 t2 s0 s1 s2 f0 f1 f2 c0 c1 HFI HEN
        go_wp2_with fail
        refine wp_region_held_drew (S := (fun _ => True)) (by kernel_rfl) trivial (fun _ => ?_)
        refine wpAnyH_take (i := 0) (oi := { dst := some 17, op := Go.Op.fieldAddr 24 (Go.Operand.tmp 3) 2, type := 0, pos := "bytes.go:65", after := #[], guard := none }) (v := ?_) rfl (by kernel_rfl) (by kernel_rfl) (by kernel_rfl) (fun _ _ _ h => h) (Or.inl ⟨by rfl, ?hy1⟩) trivial ?_
        case hy1 =>
          intro u hu
          obtain u0 := hu
          go_simp
          try with_reducible rfl
        simp only [Act.put, List.setIfInBounds_toArray, List.set_cons_zero, List.set_cons_succ]
        refine wpAnyH_take (i := 2) (oi := { dst := some 19, op := Go.Op.move (Go.Operand.tmp 0), type := 61, pos := "bytes.go:65", after := #[], guard := none }) (v := ?_) rfl (by kernel_rfl) (by kernel_rfl) (by kernel_rfl) (fun _ _ _ h => h) (Or.inl ⟨by rfl, ?hy2⟩) trivial ?_
        case hy2 =>
          intro u hu
          obtain u0 := hu
          go_simp
          try with_reducible rfl
        simp only [Act.put, List.setIfInBounds_toArray, List.set_cons_zero, List.set_cons_succ]
        refine wpAnyH_ready (rs := [1, 3]) (by kernel_rfl) (by simp) ?_
        refine AllReadyH.cons (o := { dst := some 18, op := Go.Op.load 22 (Go.Operand.tmp 17), type := 22, pos := "bytes.go:65", after := #[{ on := 0, ground := Go.Ground.data }], guard := none }) rfl (fun K hK => ?b3_1) (AllReadyH.cons (o := { dst := some 20, op := Go.Op.call { callee := Go.Callee.value (Go.Operand.func 55), args := #[Go.Operand.tmp 19], argTypes := #[61] }, type := 28, pos := "bytes.go:65", after := #[{ on := 2, ground := Go.Ground.data }], guard := none }) rfl (fun K hK => ?b3_3) AllReadyH.nil)
        case' b3_1 =>
          go_simp
          refine hK.out _ _ trivial (fun _ => ?_)
          clear hK K
          try simp only [Act.put, List.setIfInBounds_toArray, List.set_cons_zero, List.set_cons_succ]
          refine wpAnyH_ready (rs := [3]) (by kernel_rfl) (by simp) ?_
          refine AllReadyH.cons (o := { dst := some 20, op := Go.Op.call { callee := Go.Callee.value (Go.Operand.func 55), args := #[Go.Operand.tmp 19], argTypes := #[61] }, type := 28, pos := "bytes.go:65", after := #[{ on := 2, ground := Go.Ground.data }], guard := none }) rfl (fun K hK => ?_) AllReadyH.nil
          go_simp
          refine kc.mono ?_
          rintro e u3 ⟨rfl, hr3, hg3⟩
          rw [show insV X.1 = .agg #[.int .u8 (X.1.op : Int), .int .i64 X.1.a, .int .i64 X.1.b, .int .i64 X.1.c, .int .i64 X.1.n, .string X.1.s] from rfl]
          have hg3 : ChgB rb wr u3 := ⟨hg3.os, hg3.tape, hg3.output, hg3.size, hg3.block⟩
          have HR3 := hide hr3
          have HZU := hide (show wr.heap.size ≤ u3.heap.size from hg3.size)
          have HG3 := hide (HG.out.trans hg3)
          have HP3 := hide (HP.out.chg hg3 hpr)
          have HS3 := hide (HS.out.chg hg3 hsr)
          obtain ⟨v5, w5, hr5, ho5, hb5⟩ := (HO.out.heap (fun a ha => hg3.block a (HO.out.lt a ha).2 (by have := (HO.out.lt a ha).1; omega))).append1 X.1 (by rw [hal]; omega) (by have := HBZ.out; have := hg3.size; omega) 22
          obtain ⟨vo5, vc5, hvo5⟩ := ho5.shape
          rw [show (acc ++ [X.1]).length = acc.length + 1 by simp, hal] at hvo5
          subst hvo5
          have HP4 := hide (HP3.out.below ((Below.refl u3.heap.size u3).alloc (Nat.le_refl _) (.cells #[.int .u8 (X.1.op : Int), .int .i64 X.1.a, .int .i64 X.1.b, .int .i64 X.1.c, .int .i64 X.1.n, .string X.1.s] 28)))
          have HP5 := hide (HP3.out.belowB hb5 hpB)
          have HS5 := hide (HS3.out.belowB hb5 hsB)
          have d3 : u3.cell? ⟨pb, 2, none⟩ = some (.slice co k cc) := HP3.out.2.2.2.1
          have d4 : (u3.alloc (.cells #[.int .u8 (X.1.op : Int), .int .i64 X.1.a, .int .i64 X.1.b, .int .i64 X.1.c, .int .i64 X.1.n, .string X.1.s] 28)).cell? ⟨pb, 2, none⟩ = some (.slice co k cc) := HP4.out.2.2.2.1
          have d5 : w5.cell? ⟨pb, 2, none⟩ = some (.slice co k cc) := HP5.out.2.2.2.1
          have f5 : w5.frozen? ⟨pb, 2, none⟩ = false := HP5.out.2.2.2.2.2.2
          have HO5 := hide ho5
          have HB5 := hide hb5
          clear hr3 hg3 ho5 hb5
          refine hK.out _ _ trivial (fun _ => ?_)
          clear hK K
          try simp only [Act.put, List.setIfInBounds_toArray, List.set_cons_zero, List.set_cons_succ]
          refine wpAnyH_ready (rs := [4]) (by kernel_rfl) (by simp) ?_
          refine AllReadyH.cons (o := { dst := some 21, op := Go.Op.buildSlice 22 1 #[(0, Go.Operand.tmp 20)], type := 22, pos := "bytes.go:65", after := #[{ on := 3, ground := Go.Ground.data }], guard := none }) rfl (fun K hK => ?_) AllReadyH.nil
          go_simp
          refine hK.out _ _ trivial (fun _ => ?_)
          clear hK K
          try simp only [Act.put, List.setIfInBounds_toArray, List.set_cons_zero, List.set_cons_succ]
          refine wpAnyH_ready (rs := [5]) (by kernel_rfl) (by simp) ?_
          refine AllReadyH.cons (o := { dst := some 22, op := Go.Op.call { callee := Go.Callee.builtin Go.Builtin.append, args := #[Go.Operand.tmp 18, Go.Operand.tmp 21], argTypes := #[22, 22] }, type := 22, pos := "bytes.go:65", after := #[{ on := 1, ground := Go.Ground.data }, { on := 4, ground := Go.Ground.data }, { on := 3, ground := Go.Ground.chain }], guard := none }) rfl (fun K hK => ?_) AllReadyH.nil
          refine step_append_runC rfl (.tmp 18) (.tmp 21) 22 22 rfl (.slice co k cc) (.slice (some ⟨u3.heap.size, 0, none⟩) 1 1) (by simp [Act.eval]) (by simp [Act.eval]) hr5 ?_
          refine hK.out _ _ trivial (fun _ => ?_)
          clear hK K
          try simp only [Act.put, List.setIfInBounds_toArray, List.set_cons_zero, List.set_cons_succ]
          refine wpAnyH_take (i := 6) (oi := { dst := some 23, op := Go.Op.fieldAddr 24 (Go.Operand.tmp 3) 2, type := 0, pos := "bytes.go:65", after := #[{ on := 0, ground := Go.Ground.phase }, { on := 1, ground := Go.Ground.phase }, { on := 2, ground := Go.Ground.phase }, { on := 3, ground := Go.Ground.phase }, { on := 4, ground := Go.Ground.phase }, { on := 5, ground := Go.Ground.phase }], guard := none }) (v := ?_) rfl (by kernel_rfl) (by kernel_rfl) (by kernel_rfl) (fun _ _ _ h => h) (Or.inl ⟨by rfl, ?hy7⟩) trivial ?_
          case hy7 =>
            intro u hu
            obtain u0 := hu
            go_simp
            try with_reducible rfl
          simp only [Act.put, List.setIfInBounds_toArray, List.set_cons_zero, List.set_cons_succ]
          refine wpAnyH_ready (rs := [7]) (by kernel_rfl) (by simp) ?_
          refine AllReadyH.cons (o := { dst := none, op := Go.Op.store 22 (Go.Operand.tmp 23) (Go.Operand.tmp 22), type := 0, pos := "bytes.go:65", after := #[{ on := 6, ground := Go.Ground.data }, { on := 5, ground := Go.Ground.data }, { on := 5, ground := Go.Ground.chain }, { on := 0, ground := Go.Ground.phase }, { on := 1, ground := Go.Ground.phase }, { on := 2, ground := Go.Ground.phase }, { on := 3, ground := Go.Ground.phase }, { on := 4, ground := Go.Ground.phase }, { on := 5, ground := Go.Ground.phase }], guard := none }) rfl (fun K hK => ?_) AllReadyH.nil
          go_simp
          refine hK.out _ _ trivial (fun _ => ?_)
          clear hK K
          try simp only [Act.put, List.setIfInBounds_toArray, List.set_cons_zero, List.set_cons_succ]
          refine wpAnyH_done (by kernel_rfl) ?_ _
          go_wp2
          go_roundw
          case rel =>
            refine ⟨k + 1, X.2, acc ++ [X.1], .slice vo5 (k + 1) vc5, hk1, by go_num, by simp [hal], ?_, ?_, ?_, ?_, ?_, ?_, ?_⟩
            · show Rdr _ _ _ _ _ _
              have h5 : Rdr w0 w5 rb bv l X.2 := HR3.out.belowB HB5.out (by omega)
              exact ⟨h5.c.one _ (fun e => hpr e.symm), h5.lt, h5.rd, h5.bel.setCell (p := ⟨pb, 2, none⟩) (by have := h5.lt; show w0.heap.size ≤ pb; omega) _⟩
            · show OwnC _ _ _ _
              exact HO5.out.heap (fun a ha => Below.heap_setCell _ _ _ _ (by have := (HO5.out.lt a ha).1; show a ≠ pb; omega))
            · show C3 _ _ _ _ _
              exact HP5.out.third _
            · show C3 _ _ _ _ _
              exact HS5.out.one _ hsp
            · show ChgB _ _ _
              exact chg_new (HG3.out.thenBelow HB5.out hwB) hwp _ _
            · show _ = _
              rw [HCR1.out]
            · show B ≤ _
              have := HBZ.out
              have := HB5.out.size
              have := HZU.out
              simp [World.setCell]
              omega
          case measure => simp [intOf]; omega
        case' b3_3 =>
          go_simp
          refine kc.mono ?_
          rintro e u3 ⟨rfl, hr3, hg3⟩
          rw [show insV X.1 = .agg #[.int .u8 (X.1.op : Int), .int .i64 X.1.a, .int .i64 X.1.b, .int .i64 X.1.c, .int .i64 X.1.n, .string X.1.s] from rfl]
          have hg3 : ChgB rb wr u3 := ⟨hg3.os, hg3.tape, hg3.output, hg3.size, hg3.block⟩
          have HR3 := hide hr3
          have HZU := hide (show wr.heap.size ≤ u3.heap.size from hg3.size)
          have HG3 := hide (HG.out.trans hg3)
          have HP3 := hide (HP.out.chg hg3 hpr)
          have HS3 := hide (HS.out.chg hg3 hsr)
          obtain ⟨v5, w5, hr5, ho5, hb5⟩ := (HO.out.heap (fun a ha => hg3.block a (HO.out.lt a ha).2 (by have := (HO.out.lt a ha).1; omega))).append1 X.1 (by rw [hal]; omega) (by have := HBZ.out; have := hg3.size; omega) 22
          obtain ⟨vo5, vc5, hvo5⟩ := ho5.shape
          rw [show (acc ++ [X.1]).length = acc.length + 1 by simp, hal] at hvo5
          subst hvo5
          have HP4 := hide (HP3.out.below ((Below.refl u3.heap.size u3).alloc (Nat.le_refl _) (.cells #[.int .u8 (X.1.op : Int), .int .i64 X.1.a, .int .i64 X.1.b, .int .i64 X.1.c, .int .i64 X.1.n, .string X.1.s] 28)))
          have HP5 := hide (HP3.out.belowB hb5 hpB)
          have HS5 := hide (HS3.out.belowB hb5 hsB)
          have d3 : u3.cell? ⟨pb, 2, none⟩ = some (.slice co k cc) := HP3.out.2.2.2.1
          have d4 : (u3.alloc (.cells #[.int .u8 (X.1.op : Int), .int .i64 X.1.a, .int .i64 X.1.b, .int .i64 X.1.c, .int .i64 X.1.n, .string X.1.s] 28)).cell? ⟨pb, 2, none⟩ = some (.slice co k cc) := HP4.out.2.2.2.1
          have d5 : w5.cell? ⟨pb, 2, none⟩ = some (.slice co k cc) := HP5.out.2.2.2.1
          have f5 : w5.frozen? ⟨pb, 2, none⟩ = false := HP5.out.2.2.2.2.2.2
          have HO5 := hide ho5
          have HB5 := hide hb5
          clear hr3 hg3 ho5 hb5
          refine hK.out _ _ trivial (fun _ => ?_)
          clear hK K
          try simp only [Act.put, List.setIfInBounds_toArray, List.set_cons_zero, List.set_cons_succ]
          refine wpAnyH_ready (rs := [1, 4]) (by kernel_rfl) (by simp) ?_
          refine AllReadyH.cons (o := { dst := some 18, op := Go.Op.load 22 (Go.Operand.tmp 17), type := 22, pos := "bytes.go:65", after := #[{ on := 0, ground := Go.Ground.data }], guard := none }) rfl (fun K hK => ?b9_1) (AllReadyH.cons (o := { dst := some 21, op := Go.Op.buildSlice 22 1 #[(0, Go.Operand.tmp 20)], type := 22, pos := "bytes.go:65", after := #[{ on := 3, ground := Go.Ground.data }], guard := none }) rfl (fun K hK => ?b9_4) AllReadyH.nil)
          case' b9_1 =>
            go_simp
            refine hK.out _ _ trivial (fun _ => ?_)
            clear hK K
            try simp only [Act.put, List.setIfInBounds_toArray, List.set_cons_zero, List.set_cons_succ]
            refine wpAnyH_ready (rs := [4]) (by kernel_rfl) (by simp) ?_
            refine AllReadyH.cons (o := { dst := some 21, op := Go.Op.buildSlice 22 1 #[(0, Go.Operand.tmp 20)], type := 22, pos := "bytes.go:65", after := #[{ on := 3, ground := Go.Ground.data }], guard := none }) rfl (fun K hK => ?_) AllReadyH.nil
            go_simp
            refine hK.out _ _ trivial (fun _ => ?_)
            clear hK K
            try simp only [Act.put, List.setIfInBounds_toArray, List.set_cons_zero, List.set_cons_succ]
            refine wpAnyH_ready (rs := [5]) (by kernel_rfl) (by simp) ?_
            refine AllReadyH.cons (o := { dst := some 22, op := Go.Op.call { callee := Go.Callee.builtin Go.Builtin.append, args := #[Go.Operand.tmp 18, Go.Operand.tmp 21], argTypes := #[22, 22] }, type := 22, pos := "bytes.go:65", after := #[{ on := 1, ground := Go.Ground.data }, { on := 4, ground := Go.Ground.data }, { on := 3, ground := Go.Ground.chain }], guard := none }) rfl (fun K hK => ?_) AllReadyH.nil
            refine step_append_runC rfl (.tmp 18) (.tmp 21) 22 22 rfl (.slice co k cc) (.slice (some ⟨u3.heap.size, 0, none⟩) 1 1) (by simp [Act.eval]) (by simp [Act.eval]) hr5 ?_
            refine hK.out _ _ trivial (fun _ => ?_)
            clear hK K
            try simp only [Act.put, List.setIfInBounds_toArray, List.set_cons_zero, List.set_cons_succ]
            refine wpAnyH_take (i := 6) (oi := { dst := some 23, op := Go.Op.fieldAddr 24 (Go.Operand.tmp 3) 2, type := 0, pos := "bytes.go:65", after := #[{ on := 0, ground := Go.Ground.phase }, { on := 1, ground := Go.Ground.phase }, { on := 2, ground := Go.Ground.phase }, { on := 3, ground := Go.Ground.phase }, { on := 4, ground := Go.Ground.phase }, { on := 5, ground := Go.Ground.phase }], guard := none }) (v := ?_) rfl (by kernel_rfl) (by kernel_rfl) (by kernel_rfl) (fun _ _ _ h => h) (Or.inl ⟨by rfl, ?hy12⟩) trivial ?_
            case hy12 =>
              intro u hu
              obtain u0 := hu
              go_simp
              try with_reducible rfl
            simp only [Act.put, List.setIfInBounds_toArray, List.set_cons_zero, List.set_cons_succ]
            refine wpAnyH_ready (rs := [7]) (by kernel_rfl) (by simp) ?_
            refine AllReadyH.cons (o := { dst := none, op := Go.Op.store 22 (Go.Operand.tmp 23) (Go.Operand.tmp 22), type := 0, pos := "bytes.go:65", after := #[{ on := 6, ground := Go.Ground.data }, { on := 5, ground := Go.Ground.data }, { on := 5, ground := Go.Ground.chain }, { on := 0, ground := Go.Ground.phase }, { on := 1, ground := Go.Ground.phase }, { on := 2, ground := Go.Ground.phase }, { on := 3, ground := Go.Ground.phase }, { on := 4, ground := Go.Ground.phase }, { on := 5, ground := Go.Ground.phase }], guard := none }) rfl (fun K hK => ?_) AllReadyH.nil
            go_simp
            refine hK.out _ _ trivial (fun _ => ?_)
            clear hK K
            try simp only [Act.put, List.setIfInBounds_toArray, List.set_cons_zero, List.set_cons_succ]
            refine wpAnyH_done (by kernel_rfl) ?_ _
            go_wp2
            go_roundw
            case rel =>
              refine ⟨k + 1, X.2, acc ++ [X.1], .slice vo5 (k + 1) vc5, hk1, by go_num, by simp [hal], ?_, ?_, ?_, ?_, ?_, ?_, ?_⟩
              · show Rdr _ _ _ _ _ _
                have h5 : Rdr w0 w5 rb bv l X.2 := HR3.out.belowB HB5.out (by omega)
                exact ⟨h5.c.one _ (fun e => hpr e.symm), h5.lt, h5.rd, h5.bel.setCell (p := ⟨pb, 2, none⟩) (by have := h5.lt; show w0.heap.size ≤ pb; omega) _⟩
              · show OwnC _ _ _ _
                exact HO5.out.heap (fun a ha => Below.heap_setCell _ _ _ _ (by have := (HO5.out.lt a ha).1; show a ≠ pb; omega))
              · show C3 _ _ _ _ _
                exact HP5.out.third _
              · show C3 _ _ _ _ _
                exact HS5.out.one _ hsp
              · show ChgB _ _ _
                exact chg_new (HG3.out.thenBelow HB5.out hwB) hwp _ _
              · show _ = _
                rw [HCR1.out]
              · show B ≤ _
                have := HBZ.out
                have := HB5.out.size
                have := HZU.out
                simp [World.setCell]
                omega
            case measure => simp [intOf]; omega
          case' b9_4 =>
            go_simp
            refine hK.out _ _ trivial (fun _ => ?_)
            clear hK K
            try simp only [Act.put, List.setIfInBounds_toArray, List.set_cons_zero, List.set_cons_succ]
            refine wpAnyH_ready (rs := [1]) (by kernel_rfl) (by simp) ?_
            refine AllReadyH.cons (o := { dst := some 18, op := Go.Op.load 22 (Go.Operand.tmp 17), type := 22, pos := "bytes.go:65", after := #[{ on := 0, ground := Go.Ground.data }], guard := none }) rfl (fun K hK => ?_) AllReadyH.nil
            go_simp
            refine hK.out _ _ trivial (fun _ => ?_)
            clear hK K
            try simp only [Act.put, List.setIfInBounds_toArray, List.set_cons_zero, List.set_cons_succ]
            refine wpAnyH_ready (rs := [5]) (by kernel_rfl) (by simp) ?_
            refine AllReadyH.cons (o := { dst := some 22, op := Go.Op.call { callee := Go.Callee.builtin Go.Builtin.append, args := #[Go.Operand.tmp 18, Go.Operand.tmp 21], argTypes := #[22, 22] }, type := 22, pos := "bytes.go:65", after := #[{ on := 1, ground := Go.Ground.data }, { on := 4, ground := Go.Ground.data }, { on := 3, ground := Go.Ground.chain }], guard := none }) rfl (fun K hK => ?_) AllReadyH.nil
            refine step_append_runC rfl (.tmp 18) (.tmp 21) 22 22 rfl (.slice co k cc) (.slice (some ⟨u3.heap.size, 0, none⟩) 1 1) (by simp [Act.eval]) (by simp [Act.eval]) hr5 ?_
            refine hK.out _ _ trivial (fun _ => ?_)
            clear hK K
            try simp only [Act.put, List.setIfInBounds_toArray, List.set_cons_zero, List.set_cons_succ]
            refine wpAnyH_take (i := 6) (oi := { dst := some 23, op := Go.Op.fieldAddr 24 (Go.Operand.tmp 3) 2, type := 0, pos := "bytes.go:65", after := #[{ on := 0, ground := Go.Ground.phase }, { on := 1, ground := Go.Ground.phase }, { on := 2, ground := Go.Ground.phase }, { on := 3, ground := Go.Ground.phase }, { on := 4, ground := Go.Ground.phase }, { on := 5, ground := Go.Ground.phase }], guard := none }) (v := ?_) rfl (by kernel_rfl) (by kernel_rfl) (by kernel_rfl) (fun _ _ _ h => h) (Or.inl ⟨by rfl, ?hy16⟩) trivial ?_
            case hy16 =>
              intro u hu
              obtain u0 := hu
              go_simp
              try with_reducible rfl
            simp only [Act.put, List.setIfInBounds_toArray, List.set_cons_zero, List.set_cons_succ]
            refine wpAnyH_ready (rs := [7]) (by kernel_rfl) (by simp) ?_
            refine AllReadyH.cons (o := { dst := none, op := Go.Op.store 22 (Go.Operand.tmp 23) (Go.Operand.tmp 22), type := 0, pos := "bytes.go:65", after := #[{ on := 6, ground := Go.Ground.data }, { on := 5, ground := Go.Ground.data }, { on := 5, ground := Go.Ground.chain }, { on := 0, ground := Go.Ground.phase }, { on := 1, ground := Go.Ground.phase }, { on := 2, ground := Go.Ground.phase }, { on := 3, ground := Go.Ground.phase }, { on := 4, ground := Go.Ground.phase }, { on := 5, ground := Go.Ground.phase }], guard := none }) rfl (fun K hK => ?_) AllReadyH.nil
            go_simp
            refine hK.out _ _ trivial (fun _ => ?_)
            clear hK K
            try simp only [Act.put, List.setIfInBounds_toArray, List.set_cons_zero, List.set_cons_succ]
            refine wpAnyH_done (by kernel_rfl) ?_ _
            go_wp2
            go_roundw
            case rel =>
              refine ⟨k + 1, X.2, acc ++ [X.1], .slice vo5 (k + 1) vc5, hk1, by go_num, by simp [hal], ?_, ?_, ?_, ?_, ?_, ?_, ?_⟩
              · show Rdr _ _ _ _ _ _
                have h5 : Rdr w0 w5 rb bv l X.2 := HR3.out.belowB HB5.out (by omega)
                exact ⟨h5.c.one _ (fun e => hpr e.symm), h5.lt, h5.rd, h5.bel.setCell (p := ⟨pb, 2, none⟩) (by have := h5.lt; show w0.heap.size ≤ pb; omega) _⟩
              · show OwnC _ _ _ _
                exact HO5.out.heap (fun a ha => Below.heap_setCell _ _ _ _ (by have := (HO5.out.lt a ha).1; show a ≠ pb; omega))
              · show C3 _ _ _ _ _
                exact HP5.out.third _
              · show C3 _ _ _ _ _
                exact HS5.out.one _ hsp
              · show ChgB _ _ _
                exact chg_new (HG3.out.thenBelow HB5.out hwB) hwp _ _
              · show _ = _
                rw [HCR1.out]
              · show B ≤ _
                have := HBZ.out
                have := HB5.out.size
                have := HZU.out
                simp [World.setCell]
                omega
            case measure => simp [intOf]; omega

    · have hk : n = k := by omega
      subst hk
      have hcr := HFI.out (by rw [HCR.out, Nat.sub_self]; rfl)
      go_wp2
      refine bodyPost_ret (v := .agg #[.string ⟨T.1.toArray⟩, .int .i64 (M.1 : Int), .slice co n cc]) (by simp [results, Tryd.results31, go_sem, s0, s1, s2]) rfl ?_
      obtain ⟨k1, k2, k3⟩ := HEN.out _ rfl
      refine ⟨.slice co n cc, by rw [hcr.1], by rw [hcr.2.1]; exact k1, k2, by rw [hcr.2.2]; exact k3⟩
end Go.Proofs.YtpiiehenmkinaaaDoor

/-
  The contract of Read. Own work.
-/
namespace Go.Proofs.YtpiiehenmkinaaaDoor
open Go.RowKit

theorem prgR_wf {l : List UInt8} : (prgR l).2.2 = false → ∀ i ∈ (prgR l).1.code, i.wf := fun h => (prgR_inv h).2.1
set_option maxRecDepth 100000 in
set_option maxHeartbeats 3200000 in
theorem read_any (v : Value) (l : List UInt8) (w : World) (hk : Kinds w) (hrd : Rd w v l) (hl : l.length ≤ 1000000) :
    Calls Tryd.prog 12 #[v] w fun e w' => ∃ cv, e = .returned (.tuple #[prgV (readR l).1 cv, .int .i64 ((readR l).2 : Int)]) ∧ RdC w' cv (readR l).1.code ∧ Below w.heap.size w w' := by
  obtain ⟨ao, cap, hv, -⟩ := id hrd
  subst hv
  obtain ⟨n, HN⟩ := named l.length
  rw [← HN.out] at hrd hl ⊢
  obtain ⟨W1, HW1⟩ := named (w.alloc (.cells #[.string ⟨#[]⟩, .int .i64 0, .slice none 0 0] 24))
  have hb1 : Below w.heap.size w W1 := by rw [HW1.out]; exact (Below.refl _ _).alloc (Nat.le_refl _) _
  have hz1 : W1.heap.size = w.heap.size + 1 := by rw [HW1.out]; simp
  obtain ⟨sb, HSB⟩ := named w.heap.size
  have hs1 : C3 W1 sb (.string ⟨#[]⟩) (.int .i64 0) (.slice none 0 0) := by rw [HW1.out, HSB.out]; exact C3.new _ _ _ _ _
  obtain ⟨W2, HW2⟩ := named (W1.alloc (.cells #[.slice ao n cap, .int .i64 0, .bool false] 63))
  have hb2 : Below W1.heap.size W1 W2 := by rw [HW2.out]; exact (Below.refl _ _).alloc (Nat.le_refl _) _
  obtain ⟨rb, HRB⟩ := named (w.heap.size + 1)
  have hr2 : C3 W2 rb (.slice ao n cap) (.int .i64 0) (.bool false) := by
    rw [HW2.out, HRB.out, ← hz1]
    exact C3.new _ _ _ _ _
  have HR2 := hide (show Rdr w W2 rb (.slice ao n cap) l (0, false) from ⟨hr2, by rw [HRB.out]; omega, hrd, below_call hb1 hb2⟩)
  have HS2 := hide (hs1.below hb2)
  have hsr : sb ≠ rb := by rw [HSB.out, HRB.out]; omega
  have HB2 := hide (below_call hb1 hb2)
  have HK := hide hk
  obtain ⟨PR, HPR⟩ := named (prgR l)
  have hgd : goodR l = (!PR.2.2 && decide (PR.2.1 = n) && okP PR.1 20) := by rw [HPR.out, HN.out]; rfl
  have hwf : PR.2.2 = false → ∀ i ∈ PR.1.code, i.wf := by rw [HPR.out]; exact prgR_wf
  have hbad : goodR l = false → readR l = (noP, 100) := fun h => by unfold readR; rw [if_neg (by rw [h]; simp)]
  have hyes : goodR l = true → readR l = (PR.1, 0) := fun h => by unfold readR; rw [if_pos h, HPR.out]
  obtain ⟨Q, HQ⟩ := named (readR l)
  rw [← HQ.out] at hbad hyes ⊢
  have HGD := hide hgd
  have HWF := hide hwf
  have HBAD := hide hbad
  have HYES := hide hyes
  have hcl := program_any HR2.out (by rw [← HN.out]; exact hl)
  rw [← HPR.out] at hcl
  clear hrd hb1 hs1 hb2 hr2 hk hgd hwf hbad hyes
  go_enter Tryd.func12, Tryd.ntmps12
  go_wp2_with fail
  rw [← HW1.out, ← HW2.out, ← HRB.out, ← HSB.out]
  refine hcl.mono ?_
  rintro e w3 ⟨cv, rfl, hr3, hg3, hc3⟩
  clear hcl
  obtain ⟨co, cc, hcv⟩ := hc3.shape
  subst hcv
  rw [show prgV PR.1 (.slice co PR.1.code.length cc) = .agg #[.string PR.1.name, .int .i64 PR.1.regs, .slice co PR.1.code.length cc] from rfl]
  obtain ⟨W4, HW4⟩ := named (w3.alloc (.cells #[.string PR.1.name, .int .i64 PR.1.regs, .slice co PR.1.code.length cc] 24))
  have hb4 : Below w3.heap.size w3 W4 := by rw [HW4.out]; exact (Below.refl _ _).alloc (Nat.le_refl _) _
  obtain ⟨pb, HPB⟩ := named w3.heap.size
  have HP4 := hide (show C3 W4 pb (.string PR.1.name) (.int .i64 PR.1.regs) (.slice co PR.1.code.length cc) by rw [HW4.out, HPB.out]; exact C3.new _ _ _ _ _)
  have HR4 := hide (hr3.below hb4)
  have HO4 := hide (hc3.below hb4)
  have HC4 := hide (hc3.below hb4).rd
  have HSZ := hide (show sb < W2.heap.size from HS2.out.1)
  have HS3 := hide (HS2.out.chg hg3 hsr)
  have HS4 := hide (HS3.out.below hb4)
  have HB3 := hide (show Below w.heap.size w w3 from HB2.out.trans (hg3.below (by rw [HRB.out]; omega) HB2.out.size))
  have HB4 := hide (below_call HB3.out hb4)
  have hsp : sb ≠ pb := by
    have := HS3.out.1
    rw [HPB.out]
    omega
  obtain ⟨-, s0, s1, s2, t0, t1, t2⟩ := id HS4.out
  obtain ⟨-, q0, q1, q2, -⟩ := id HR4.out.c
  obtain ⟨-, c0, c1, c2, -⟩ := id HP4.out
  rw [HW4.out, HPB.out] at c0 c1 c2
  rw [HW4.out] at q0 q1 q2
  clear hr3 hg3 hc3 hb4
  have hend : ∀ (w5 : World) (x y z : Value), Below W4.heap.size W4 w5 → Below w.heap.size w (set3 w5 sb x y z) := fun w5 x y z h5 =>
    below_set3 (below_call HB4.out h5) _ _ _ (by rw [HSB.out]; exact Nat.le_refl _)
  have HEN := hide hend
  clear hend
  obtain ⟨m, HM⟩ := named PR.1.code.length
  rw [← HM.out] at HP4 HC4 c0 c1 c2 q0 q1 q2 HW4 ⊢
  cases hw2 : PR.2.2 with
  | true =>
    rw [hw2] at q2
    have hq := HBAD.out (by rw [HGD.out, hw2]; rfl)
    subst hq
    rw [HW4.out] at s0 s1 s2 t0 t1 t2
    go_wp2
    refine bodyPost_ret (v := .tuple #[.agg #[.string ⟨#[]⟩, .int .i64 0, .slice none 0 0], .int .i64 100]) (by simp [results, Tryd.results12, go_sem, s0, s1, s2]) rfl ?_
    have hb := HEN.out W4 (.string ⟨#[]⟩) (.int .i64 0) (.slice none 0 0) (Below.refl _ _)
    rw [HW4.out] at hb
    exact ⟨.slice none 0 0, rfl, RdC.nil _, hb⟩
  | false =>
    rw [hw2] at q2
    by_cases hat : PR.2.1 = n
    · have hatI : (PR.2.1 : Int) = (n : Int) := by rw [hat]
      rw [hat] at q1
      go_wp2_with fail
      rw [← HW4.out]
      refine (check_any PR.1 (.slice co m cc) 20 W4 (HK.out.below HB4.out) HC4.out (HWF.out hw2)).mono ?_
      rintro e w5 ⟨rfl, hb5⟩
      obtain ⟨-, u0, u1, u2, v0, v1, v2⟩ := id (HS4.out.below hb5)
      obtain ⟨-, d0, d1, d2, -⟩ := id (HP4.out.below hb5)
      have HB5 := hide hb5
      rw [HPB.out] at d0 d1 d2
      clear s0 s1 s2 t0 t1 t2 q0 q1 q2 c0 c1 c2 hb5
      cases hok : okP PR.1 20 with
      | false =>
        rw [show errP PR.1 20 = 100 by unfold errP; rw [hok]; rfl]
        have hq := HBAD.out (by rw [HGD.out, hok, Bool.and_false])
        subst hq
        go_wp2
        refine bodyPost_ret (v := .tuple #[.agg #[.string ⟨#[]⟩, .int .i64 0, .slice none 0 0], .int .i64 100]) (by simp [results, Tryd.results12, go_sem, u0, u1, u2]) rfl ?_
        exact ⟨.slice none 0 0, rfl, RdC.nil _, HEN.out w5 (.string ⟨#[]⟩) (.int .i64 0) (.slice none 0 0) HB5.out⟩
      | true =>
        rw [show errP PR.1 20 = 0 by unfold errP; rw [hok]; rfl]
        have hq := HYES.out (by rw [HGD.out, hok, hw2, decide_eq_true hat]; rfl)
        subst hq
        go_wp2
        refine bodyPost_ret (v := .tuple #[.agg #[.string PR.1.name, .int .i64 PR.1.regs, .slice co m cc], .int .i64 0]) (by simp [results, Tryd.results12, go_sem, u0, u1, u2]) rfl ?_
        refine ⟨.slice co m cc, rfl, ?_, HEN.out w5 (.string PR.1.name) (.int .i64 PR.1.regs) (.slice co m cc) HB5.out⟩
        have h6 := HO4.out.below HB5.out
        rw [← HM.out] at h6
        show RdC (set3 w5 sb (.string PR.1.name) (.int .i64 PR.1.regs) (.slice co m cc)) (.slice co m cc) PR.1.code
        refine (OwnC.heap (w' := set3 w5 sb (.string PR.1.name) (.int .i64 PR.1.regs) (.slice co m cc)) h6 (fun a ha => ?_)).rd
        have := (h6.lt a ha).1
        have := HSZ.out
        unfold set3
        rw [Below.heap_setCell _ _ _ _ (by show a ≠ sb; omega), Below.heap_setCell _ _ _ _ (by show a ≠ sb; omega), Below.heap_setCell _ _ _ _ (by show a ≠ sb; omega)]
    · have hatI : ¬ (PR.2.1 : Int) = (n : Int) := by omega
      have hq := HBAD.out (by rw [HGD.out, decide_eq_false hat, Bool.and_false, Bool.false_and])
      subst hq
      rw [HW4.out] at s0 s1 s2 t0 t1 t2
      go_wp2
      refine bodyPost_ret (v := .tuple #[.agg #[.string ⟨#[]⟩, .int .i64 0, .slice none 0 0], .int .i64 100]) (by simp [results, Tryd.results12, go_sem, s0, s1, s2]) rfl ?_
      have hb := HEN.out W4 (.string ⟨#[]⟩) (.int .i64 0) (.slice none 0 0) (Below.refl _ _)
      rw [HW4.out] at hb
      exact ⟨.slice none 0 0, rfl, RdC.nil _, hb⟩
end Go.Proofs.YtpiiehenmkinaaaDoor
