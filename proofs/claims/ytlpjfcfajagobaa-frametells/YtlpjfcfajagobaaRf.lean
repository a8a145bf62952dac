/-
  The contracts of the document's own Frame, Put. Own work.
-/
import Derived.Test.YtlpjfcfajagobaaFe
import Derived.Test.YtlpjfcfajagobaaRj
import Derived.Test.YtlpjfcfajagobaaRb
import Derived.Test.YtlpjfcfajagobaaRg
namespace Go.Proofs.Ytlpjfcfajagobaa
open Go.RowKit

set_option maxRecDepth 100000 in
set_option maxHeartbeats 800000 in
theorem refFrame_any (v : Value) (l : List UInt8) (w : World) (hrd : Rd w v l) (hl : l.length ≤ 1000000) :
    Calls Try.prog 28 #[v] w fun e w' => ∃ v, e = .returned v ∧ Own w' w.heap.size v (frameL l) ∧ Below w.heap.size w w' := by
  obtain ⟨i0, hi, hz0, hz1, hz2⟩ := info_parts Try.info5
  have hul := U_len l.length
  have HF : Hid (frameL l = U l.length ++ ((l ++ be4 (crc l)) ++ [165])) := rfl
  have hbe := be4_cells (crc l)
  have hbl : (be4 (crc l)).length = 4 := rfl
  obtain ⟨F, HFN⟩ := named (frameL l)
  rw [← HFN.out] at HF ⊢
  have hvar := fun w => varint_any l.length w (by omega)
  obtain ⟨u, HU⟩ := named (U (l.length : Int))
  rw [← HU.out] at hul HF hvar
  have hcrc := fun w h => refCrc_any v l w h hl
  obtain ⟨R, HR⟩ := named (crc l)
  rw [← HR.out] at HF hbe hbl hcrc
  have HB : Hid (u.length ≤ 10 ∧ l.length ≤ 1000000) := ⟨hul, hl⟩
  have HBE : Hid _ := hbe
  have HBL : Hid _ := hbl
  have hRlt := R.isLt
  obtain ⟨ao, cap, hv, -⟩ := id hrd
  subst hv
  clear hul hbe hbl
  go_enter Try.func28, Try.ntmps28
  go_wp2_with fail
  refine (hvar _).mono ?_
  rintro e w1 ⟨v1, rfl, hown1, hb1⟩
  clear hvar
  have hrd1 := hrd.below hb1
  have hsz1 := hb1.size
  have hln : u.length + l.length ≤ 140737488355328 := by have := HB.out; omega
  have HLN : Hid _ := hln
  clear hln
  go_wp2_with (at_builtin; go_must (refine wpList_append_rd _ rfl (.tmp 9) (.tmp 10) 22 rfl i0 Try.underlying22 hi hz0 hz1 hz2 w.heap.size _ _ rfl rfl u l hown1 hrd1 HLN.out hsz1 ?_))
  intro v2 w2 hown2 hg2
  have hb2 : Below w.heap.size w w2 := hb1.grown hg2 hsz1 (fun k hk => (World.ownsRow.lt hown1 k hk).1)
  have hrd2 := hrd.below hb2
  clear hg2 hrd1 hrd
  obtain ⟨ul, HUL⟩ := named (u ++ l)
  rw [← HUL.out] at hown2
  go_wp2_with fail
  refine (hcrc _ hrd2).mono ?_
  rintro e w3 ⟨rfl, hb3⟩
  have hown3 := hown2.below hb3
  have hB3 := below_call hb2 hb3
  have hsz3 := hB3.size
  have hrdF : Rd (w3.alloc (.cells #[.int .u8 ((R.toNat : Int) / 16777216), .int .u8 ((R.toNat : Int) / 65536 % 256), .int .u8 ((R.toNat : Int) / 256 % 256), .int .u8 ((R.toNat : Int) % 256), .int .u8 165] 5)) (.slice (some ⟨w3.heap.size, 0, none⟩) 5 5) (be4 R ++ [165]) := by
    refine Rd.lit w3 _ (be4 R ++ [165]) 5 5 (0, 0) ?_ rfl (by simp [maxLen])
    rw [BV_append, ← Array.toList_inj]
    have := HBE.out
    rw [← Array.toList_inj] at this
    simp only at this ⊢
    rw [← this]
    rfl
  have hln : ul.length + (be4 R ++ [165]).length ≤ 140737488355328 := by
    have := HB.out
    rw [HUL.out, List.length_append, List.length_append, HBL.out, List.length_singleton]
    omega
  obtain ⟨tl, HTL⟩ := named (be4 R ++ [165])
  rw [← HTL.out] at hrdF hln
  have HLN2 : Hid _ := hln
  have hown4 := hown3.alloc (.cells #[.int .u8 ((R.toNat : Int) / 16777216), .int .u8 ((R.toNat : Int) / 65536 % 256), .int .u8 ((R.toNat : Int) / 256 % 256), .int .u8 ((R.toNat : Int) % 256), .int .u8 165] 5)
  have hfin : ul ++ tl = F := by
    rw [HUL.out, HTL.out, HF.out]
    simp
  have HFIN : Hid _ := hfin
  clear hln hfin hown2 hown3 hb2 hb3
  go_wp2_with (at_builtin; go_must (refine wpList_append_rd _ rfl (.tmp 14) (.tmp 26) 22 rfl i0 Try.underlying22 hi hz0 hz1 hz2 w.heap.size _ _ rfl rfl ul tl hown4 hrdF HLN2.out (by simp; omega) ?_))
  intro v5 w5 hown5 hg5
  have hB5 : Below w.heap.size w w5 := (hB3.alloc hsz3 _).grown hg5 (by simp; omega) (fun k hk => (World.ownsRow.lt hown4 k hk).1)
  clear hg5
  go_wp2
  go_ret
  exact ⟨_, rfl, by rw [← HFIN.out]; exact hown5, hB5⟩

set_option maxRecDepth 100000 in
set_option maxHeartbeats 800000 in
theorem refPut_any (o b : Value) (lo lb : List UInt8) (w : World) (hro : Rd w o lo) (hrb : Rd w b lb) (hlo : lo.length ≤ 1000000) (hlb : lb.length ≤ 1000000) :
    Calls Try.prog 15 #[o, b] w fun e w' => ∃ v, e = .returned (.tuple #[v, .int .i64 (putL lo lb).2]) ∧ Own w' w.heap.size v (putL lo lb).1 ∧ Below w.heap.size w w' := by
  obtain ⟨i0, hi, hz0, hz1, hz2⟩ := info_parts Try.info5
  obtain ⟨ao, capo, hv, -⟩ := id hro
  subst hv
  obtain ⟨ab, capb, hv, h1, h2, -⟩ := id hrb
  subst hv
  by_cases h0 : lb.length = 0
  · have e : putL lo lb = ([], 2) := by unfold putL; rw [if_pos h0]
    rw [e]
    have h0' : ((lb.length : Int) == 0) = true := by simp only [beq_iff_eq]; omega
    clear h0 e
    go_enter Try.func15, Try.ntmps15
    go_wp2
    go_ret2
    exact ⟨_, rfl, Own.nil _ _, Below.refl _ _⟩
  · have h0' : ((lb.length : Int) == 0) = false := by simp only [beq_eq_false_iff_ne]; omega
    have e : putL lo lb = (lo ++ frameL lb, 0) := by unfold putL; rw [if_neg h0, if_neg (by omega)]
    rw [e]
    have h3' : ¬ (1048576 : Int) < lb.length := by omega
    have hfl := frameL_length lb
    have hul := U_len lb.length
    have hfr := fun w h => refFrame_any (.slice ab lb.length capb) lb w h (by omega)
    obtain ⟨F, HF⟩ := named (frameL lb)
    rw [← HF.out] at hfl hfr ⊢
    have hl1 : 0 + lo.length ≤ 140737488355328 := by omega
    have hl2 : lo.length + F.length ≤ 140737488355328 := by omega
    have HL1 : Hid _ := hl1
    have HL2 : Hid _ := hl2
    clear e h0 hfl hul hl1 hl2
    go_enter Try.func15, Try.ntmps15
    go_wp2_with (at_builtin; go_must (refine wpList_append_rd _ rfl (.tmp 13) (.tmp 14) 22 rfl i0 Try.underlying22 hi hz0 hz1 hz2 w.heap.size _ _ rfl rfl [] lo (Own.nil _ _) hro HL1.out (Nat.le_refl _) ?_))
    intro v2 w2 hown2 hg2
    have hb2 : Below w.heap.size w w2 := (Below.refl _ _).grown hg2 (Nat.le_refl _) (fun k hk => by cases hk)
    have hrb2 := hrb.below hb2
    have hsz2 := hb2.size
    clear hg2 hro hrb
    go_wp2_with fail
    refine (hfr _ hrb2).mono ?_
    rintro e w3 ⟨v3, rfl, hown3, hb3⟩
    have hown2' : Own w3 w.heap.size v2 lo := Own.below hown2 hb3
    have hB3 := below_call hb2 hb3
    have hsz3 := hB3.size
    have hr3 := hown3.rd
    clear hown2 hown3 hb3 hb2
    go_wp2_with (at_builtin; go_must (refine wpList_append_rd _ rfl (.tmp 16) (.tmp 18) 22 rfl i0 Try.underlying22 hi hz0 hz1 hz2 w.heap.size _ _ rfl rfl lo F hown2' hr3 HL2.out hsz3 ?_))
    intro v5 w5 hown5 hg5
    have hB5 : Below w.heap.size w w5 := hB3.grown hg5 hsz3 (fun k hk => (World.ownsRow.lt hown2' k hk).1)
    clear hg5
    go_wp2
    go_ret2
    exact ⟨_, rfl, hown5, hB5⟩
end Go.Proofs.Ytlpjfcfajagobaa
