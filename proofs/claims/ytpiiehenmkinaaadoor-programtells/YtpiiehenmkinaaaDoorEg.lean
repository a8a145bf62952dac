/-
  The contract of instr. Own work.
-/
import Derived.Test.YtpiiehenmkinaaaDoorEf
namespace Go.Proofs.YtpiiehenmkinaaaDoor
open Go.RowKit

theorem numR_le (l : List UInt8) (most : Nat) (st : RS) : (numR l most st).1 ≤ most := by
  unfold numR
  split
  · exact Nat.zero_le _
  · split
    · exact Nat.zero_le _
    · show (getU l st.1).1 ≤ most
      omega
def C6 (w : World) (g : Nat) (c0 c1 c2 c3 c4 c5 : Value) : Prop := g < w.heap.size ∧ (w.cell? ⟨g, 0, none⟩ = some c0 ∧ w.cell? ⟨g, 1, none⟩ = some c1 ∧ w.cell? ⟨g, 2, none⟩ = some c2 ∧ w.cell? ⟨g, 3, none⟩ = some c3 ∧ w.cell? ⟨g, 4, none⟩ = some c4 ∧ w.cell? ⟨g, 5, none⟩ = some c5) ∧
  (w.frozen? ⟨g, 0, none⟩ = false ∧ w.frozen? ⟨g, 1, none⟩ = false ∧ w.frozen? ⟨g, 2, none⟩ = false ∧ w.frozen? ⟨g, 3, none⟩ = false ∧ w.frozen? ⟨g, 4, none⟩ = false ∧ w.frozen? ⟨g, 5, none⟩ = false)
theorem C6.of {w : World} {g : Nat} {c0 c1 c2 c3 c4 c5 : Value} {t : TypeId} (h : w.heap[g]? = some (.cells #[c0, c1, c2, c3, c4, c5] t (0, 0))) : C6 w g c0 c1 c2 c3 c4 c5 :=
  ⟨(Array.getElem?_eq_some_iff.1 h).1, ⟨by simp [World.cell?, h], by simp [World.cell?, h], by simp [World.cell?, h], by simp [World.cell?, h], by simp [World.cell?, h], by simp [World.cell?, h]⟩, ⟨by simp [World.frozen?, h], by simp [World.frozen?, h], by simp [World.frozen?, h], by simp [World.frozen?, h], by simp [World.frozen?, h], by simp [World.frozen?, h]⟩⟩
theorem C6.new (w : World) (c0 c1 c2 c3 c4 c5 : Value) (t : TypeId) : C6 (w.alloc (.cells #[c0, c1, c2, c3, c4, c5] t)) w.heap.size c0 c1 c2 c3 c4 c5 := C6.of (heap_alloc_new w _)
theorem ChgB.frozen {b g : Nat} {w w' : World} (h : ChgB b w w') (hl : g < w.heap.size) (hb : g ≠ b) (o : Nat) : w'.frozen? ⟨g, o, none⟩ = w.frozen? ⟨g, o, none⟩ := World.frozen?_of_block (w := w) (a := ⟨g, o, none⟩) (h.block g hl hb)
theorem C6.chg {w w' : World} {g b : Nat} {c0 c1 c2 c3 c4 c5 : Value} (h : C6 w g c0 c1 c2 c3 c4 c5) (hc : ChgB b w w') (hb : g ≠ b) : C6 w' g c0 c1 c2 c3 c4 c5 := by
  obtain ⟨h0, ⟨a0, a1, a2, a3, a4, a5⟩, ⟨f0, f1, f2, f3, f4, f5⟩⟩ := h
  exact ⟨Nat.lt_of_lt_of_le h0 hc.size, ⟨(hc.cell h0 hb 0).trans a0, (hc.cell h0 hb 1).trans a1, (hc.cell h0 hb 2).trans a2, (hc.cell h0 hb 3).trans a3, (hc.cell h0 hb 4).trans a4, (hc.cell h0 hb 5).trans a5⟩,
    ⟨(hc.frozen h0 hb 0).trans f0, (hc.frozen h0 hb 1).trans f1, (hc.frozen h0 hb 2).trans f2, (hc.frozen h0 hb 3).trans f3, (hc.frozen h0 hb 4).trans f4, (hc.frozen h0 hb 5).trans f5⟩⟩
def set6 (w : World) (g : Nat) (c0 c1 c2 c3 c4 c5 : Value) : World := (((((w.setCell ⟨g, 0, none⟩ c0).setCell ⟨g, 1, none⟩ c1).setCell ⟨g, 2, none⟩ c2).setCell ⟨g, 3, none⟩ c3).setCell ⟨g, 4, none⟩ c4).setCell ⟨g, 5, none⟩ c5
theorem below_set6 {B g : Nat} {w w' : World} (h : Below B w w') (c0 c1 c2 c3 c4 c5 : Value) (hg : B ≤ g) : Below B w (set6 w' g c0 c1 c2 c3 c4 c5) :=
  (((((h.setCell hg _).setCell hg _).setCell hg _).setCell hg _).setCell hg _).setCell hg _
theorem chg_new {b g : Nat} {w w' : World} (h : ChgB b w w') (hg : w.heap.size ≤ g) (o : Nat) (x : Value) : ChgB b w (w'.setCell ⟨g, o, none⟩ x) :=
  ⟨h.os, h.tape, h.output, by have := h.size; simp [World.setCell]; omega, fun k hk hF => by
    rw [Below.heap_setCell _ _ _ _ (by show k ≠ g; omega)]
    exact h.block k hk hF⟩
theorem chg_set6 {b g : Nat} {w w' : World} (h : ChgB b w w') (hg : w.heap.size ≤ g) (c0 c1 c2 c3 c4 c5 : Value) : ChgB b w (set6 w' g c0 c1 c2 c3 c4 c5) :=
  chg_new (chg_new (chg_new (chg_new (chg_new (chg_new h hg _ _) hg _ _) hg _ _) hg _ _) hg _ _) hg _ _
theorem C3.set6 {w : World} {g g' : Nat} {a b c : Value} (x0 x1 x2 x3 x4 x5 : Value) (h : C3 w g a b c) (hg : g ≠ g') : C3 (set6 w g' x0 x1 x2 x3 x4 x5) g a b c :=
  (((((h.one x0 hg).one x1 hg).one x2 hg).one x3 hg).one x4 hg).one x5 hg

set_option maxRecDepth 100000 in
set_option maxHeartbeats 1600000 in
theorem instr_any {w0 w : World} {rb : Nat} {bv : Value} {l : List UInt8} {st : RS} (h : Rdr w0 w rb bv l st) (hl : l.length ≤ 1000000) :
    Calls Tryd.prog 55 #[.pointer (some ⟨rb, 0, none⟩)] w fun e w' => e = .returned (insV (insR l st).1) ∧ Rdr w0 w' rb bv l (insR l st).2 ∧ ChgB rb w w' := by
  have hlt : rb < w.heap.size := h.c.1
  obtain ⟨W, HW⟩ := named (w.alloc (.cells #[.int .u8 0, .int .i64 0, .int .i64 0, .int .i64 0, .int .i64 0, .string ⟨#[]⟩] 28))
  have hbW : Below w.heap.size w W := by rw [HW.out]; exact (Below.refl _ _).alloc (Nat.le_refl _) _
  obtain ⟨tb, HTB⟩ := named w.heap.size
  have HC0 := hide (show C6 W tb (.int .u8 0) (.int .i64 0) (.int .i64 0) (.int .i64 0) (.int .i64 0) (.string ⟨#[]⟩) by rw [HW.out, HTB.out]; exact C6.new _ _ _ _ _ _ _ _)
  have H0 := hide (h.below hbW)
  have HG0 := hide (ChgB.ofBelow (b := rb) hbW)
  have hne : tb ≠ rb := by rw [HTB.out]; omega
  obtain ⟨R, HR⟩ := named (insR l st)
  have HE := hide HR.out
  unfold insR at HE
  rw [← HR.out]
  have hle := numR_le l 255 st
  obtain ⟨o0, O0⟩ := named (numR l 255 st)
  rw [← O0.out] at HE hle
  obtain ⟨o1, O1⟩ := named (numR l 16 o0.2)
  rw [← O1.out] at HE
  obtain ⟨o2, O2⟩ := named (numR l 16 o1.2)
  rw [← O2.out] at HE
  obtain ⟨o3, O3⟩ := named (numR l 20 o2.2)
  rw [← O3.out] at HE
  obtain ⟨o4, O4⟩ := named (sigR l o3.2)
  rw [← O4.out] at HE
  obtain ⟨o5, O5⟩ := named (txtR l o4.2)
  rw [← O5.out] at HE
  clear h hbW
  go_enter Tryd.func55, Tryd.ntmps55
  go_wp2_with fail
  rw [← HW.out, ← HTB.out]
  refine (number_any H0.out hl 255 (by omega)).mono ?_
  rintro e w1 ⟨rfl, hr1, hg1⟩
  rw [← O0.out] at hr1 ⊢
  have H1 := hide hr1
  have HG1 := hide (HG0.out.trans hg1)
  have HC1 := hide (HC0.out.chg hg1 hne)
  clear hr1 hg1
  have hwu : IntKind.u8.wrap (o0.1 : Int) = (o0.1 : Int) := by simp [IntKind.wrap, IntKind.bits, IntKind.signed]; omega
  go_wp2_with fail
  refine (number_any H1.out hl 16 (by omega)).mono ?_
  rintro e w2 ⟨rfl, hr2, hg2⟩
  rw [← O1.out] at hr2 ⊢
  have H2 := hide hr2
  have HG2 := hide (HG1.out.trans hg2)
  have HC2 := hide (HC1.out.chg hg2 hne)
  clear hr2 hg2
  go_wp2_with fail
  refine (number_any H2.out hl 16 (by omega)).mono ?_
  rintro e w3 ⟨rfl, hr3, hg3⟩
  rw [← O2.out] at hr3 ⊢
  have H3 := hide hr3
  have HG3 := hide (HG2.out.trans hg3)
  have HC3 := hide (HC2.out.chg hg3 hne)
  clear hr3 hg3
  go_wp2_with fail
  refine (number_any H3.out hl 20 (by omega)).mono ?_
  rintro e w4 ⟨rfl, hr4, hg4⟩
  rw [← O3.out] at hr4 ⊢
  have H4 := hide hr4
  have HG4 := hide (HG3.out.trans hg4)
  have HC4 := hide (HC3.out.chg hg4 hne)
  clear hr4 hg4
  go_wp2_with fail
  refine (signed_any H4.out hl).mono ?_
  rintro e w5 ⟨rfl, hr5, hg5⟩
  rw [← O4.out] at hr5 ⊢
  have H5 := hide hr5
  have HG5 := hide (HG4.out.trans hg5)
  have HC5 := hide (HC4.out.chg hg5 hne)
  clear hr5 hg5
  go_wp2_with fail
  refine (text_any H5.out hl).mono ?_
  rintro e w6 ⟨rfl, hr6, hg6⟩
  rw [← O5.out] at hr6 ⊢
  have H6 := hide hr6
  have HG6 := hide (HG5.out.trans hg6)
  have HC6 := hide (HC5.out.chg hg6 hne)
  clear hr6 hg6
  obtain ⟨-, ⟨a0, a1, a2, a3, a4, a5⟩, ⟨f0, f1, f2, f3, f4, f5⟩⟩ := id HC6.out
  go_wp2
  refine bodyPost_ret (v := insV R.1) ?_ rfl ?_
  · rw [HE.out]
    simp [results, Tryd.results55, go_sem, insV, insC, a0, a1, a2, a3, a4, a5]
  · have hR2 : R.2 = o5.2 := by rw [HE.out]
    have hch : ChgB rb w (set6 w6 tb (.int .u8 (o0.1 : Int)) (.int .i64 (o1.1 : Int)) (.int .i64 (o2.1 : Int)) (.int .i64 (o3.1 : Int)) (.int .i64 o4.1) (.string ⟨o5.1.toArray⟩)) := chg_set6 HG6.out (by rw [HTB.out]; exact Nat.le_refl _) _ _ _ _ _ _
    rw [hR2]
    refine ⟨rfl, ?_, hch⟩
    have h6 := H6.out
    exact ⟨h6.c.set6 _ _ _ _ _ _ (fun e => hne e.symm), h6.lt, h6.rd, below_set6 h6.bel _ _ _ _ _ _ (by have := h6.lt; rw [HTB.out]; omega)⟩
end Go.Proofs.YtpiiehenmkinaaaDoor
