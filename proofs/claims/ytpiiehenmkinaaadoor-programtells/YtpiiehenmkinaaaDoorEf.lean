/-
  The contract of text. Own work.
-/
import Derived.Test.YtpiiehenmkinaaaDoorEe
namespace Go.Proofs.YtpiiehenmkinaaaDoor
open Go.RowKit

theorem Own.farCell {w : World} {base b o : Nat} {v : Value} {l : List UInt8} (h : Own w base v l) (hb : b < base) (u : Value) : Own (w.setCell ⟨b, o, none⟩ u) base v l := by
  refine ⟨h.1, ?_⟩
  rcases h.2 with h2 | ⟨g, cap, cur, hv, hb2, hg, r⟩
  · exact .inl h2
  · refine .inr ⟨g, cap, cur, hv, hb2, ?_, r⟩
    rw [Below.heap_setCell _ _ _ _ (by show g ≠ b; omega)]
    exact hg
set_option maxRecDepth 100000 in
set_option maxHeartbeats 1600000 in
theorem text_any {w0 w : World} {rb : Nat} {bv : Value} {l : List UInt8} {st : RS} (h : Rdr w0 w rb bv l st) (hl : l.length ≤ 1000000) :
    Calls Tryd.prog 53 #[.pointer (some ⟨rb, 0, none⟩)] w fun e w' => e = .returned (.string ⟨(txtR l st).1.toArray⟩) ∧ Rdr w0 w' rb bv l (txtR l st).2 ∧ ChgB rb w w' := by
  obtain ⟨p, wrong⟩ := st
  obtain ⟨ao, cap, hv, -⟩ := id h.rd
  subst hv
  have H := hide h
  have hc := h.c
  obtain ⟨-, c0, c1, c2, f0, f1, f2⟩ := id hc
  obtain ⟨n, HN⟩ := named l.length
  rw [← HN.out] at H hc c0 ⊢
  cases wrong with
  | true =>
    have e : txtR l (p, true) = ([], (p, true)) := rfl
    rw [e]
    go_enter Tryd.func53, Tryd.ntmps53
    go_wp2
    go_ret
    exact ⟨rfl, H.out, ChgB.refl _ _⟩
  | false =>
    have hrd := h.small
    rw [← HN.out] at hrd
    have e : txtR l (p, false) = ((getB l p 40).1, ((getB l p 40).2.1, decide ((getB l p 40).2.2 ≠ 0))) := by
      unfold txtR
      rw [if_neg (by simp)]
    have kc := getBlob_any (.slice ao n cap) l p 40 w.drew hrd (by omega) (by omega)
    obtain ⟨z1, G1⟩ := named (getB l p 40).1
    obtain ⟨g2, G2⟩ := named (getB l p 40).2.1
    obtain ⟨g3, G3⟩ := named (getB l p 40).2.2
    rw [← G1.out, ← G2.out, ← G3.out] at e kc
    rw [e]
    have hs0 : w.drew.cell? ⟨rb, 0, none⟩ = some (.slice ao n cap) ∧ w.drew.cell? ⟨rb, 1, none⟩ = some (.int .i64 p) := ⟨c0, c1⟩
    have hlt : rb < w.heap.size := hc.1
    have hts := run_toStr
    clear e h hrd hc
    go_enter Tryd.func53, Tryd.ntmps53
    go_wp2_with fail
    go_region_held3 (fun w' => w'.cell? ⟨rb, 0, none⟩ = some (.slice ao n cap) ∧ w'.cell? ⟨rb, 1, none⟩ = some (.int .i64 p)) (first | exact hs1 | exact hs0) (first | (go_at_call 70; refine Calls.mono kc ?_; rintro e w1 ⟨v1, rfl, ho1, hb1⟩; have hb1 : Below w.heap.size w w1 := ⟨hb1.os, hb1.tape, hb1.output, hb1.size, hb1.block⟩; have hs1 : w1.cell? ⟨rb, 0, none⟩ = some (.slice ao n cap) ∧ w1.cell? ⟨rb, 1, none⟩ = some (.int .i64 p) := ⟨(hb1.cell (p := ⟨rb, 0, none⟩) hlt).trans c0, (hb1.cell (p := ⟨rb, 1, none⟩) hlt).trans c1⟩))
    have ho : Own w1 w.heap.size v1 z1 := ho1
    have HCD := hide (H.out.c.below hb1)
    obtain ⟨-, d0, d1, d2, e0, e1, e2⟩ := id HCD.out
    have hx3 : (w1.setCell ⟨rb, 1, none⟩ (.int .i64 (g2 : Int))).cell? ⟨rb, 2, none⟩ = some (.bool false) := (cell_other _ _ _ _ _ _ (.inr (by omega))).trans d2
    have hx4 : (w1.setCell ⟨rb, 1, none⟩ (.int .i64 (g2 : Int))).frozen? ⟨rb, 2, none⟩ = false := by simpa using e2
    have hlast : ∀ b : Bool, (toStr v1).run Tryd.prog ((w1.setCell ⟨rb, 1, none⟩ (.int .i64 (g2 : Int))).setCell ⟨rb, 2, none⟩ (.bool b)) = .ok (.string ⟨z1.toArray⟩) ((w1.setCell ⟨rb, 1, none⟩ (.int .i64 (g2 : Int))).setCell ⟨rb, 2, none⟩ (.bool b)) ∧ Rdr w0 ((w1.setCell ⟨rb, 1, none⟩ (.int .i64 (g2 : Int))).setCell ⟨rb, 2, none⟩ (.bool b)) rb (.slice ao n cap) l (g2, b) ∧ ChgB rb w ((w1.setCell ⟨rb, 1, none⟩ (.int .i64 (g2 : Int))).setCell ⟨rb, 2, none⟩ (.bool b)) := fun b => by
      have hch : ChgB rb w ((w1.setCell ⟨rb, 1, none⟩ (.int .i64 (g2 : Int))).setCell ⟨rb, 2, none⟩ (.bool b)) := ((ChgB.ofBelow hb1).setCell _).setCell _
      exact ⟨run_str _ _ _ ((ho.farCell hlt _).farCell hlt _).rd, H.out.go (st' := (g2, b)) hch ((HCD.out.second _).third _), hch⟩
    have HLA := hide hlast
    clear hs0 hs1 c0 c1 c2 f0 f1 f2 hlast ho ho1 hb1
    by_cases h3 : g3 = 0
    · subst h3
      have hrs := (HLA.out false).1
      go_wp2
      go_ret
      exact ⟨rfl, (HLA.out false).2.1, (HLA.out false).2.2⟩
    · have h3' : ¬ (g3 : Int) = 0 := by omega
      have hd : decide (g3 ≠ 0) = true := decide_eq_true h3
      have hd2 : ((g3 : Int) != 0) = true := by rw [bne_iff_ne]; exact h3'
      have hrs := (HLA.out true).1
      go_wp2
      go_ret
      first | exact ⟨rfl, (HLA.out true).2.1, (HLA.out true).2.2⟩ | (rw [hd]; exact ⟨rfl, (HLA.out true).2.1, (HLA.out true).2.2⟩)
end Go.Proofs.YtpiiehenmkinaaaDoor
