/-
  The contract of headBytes. Own work.
-/
import Derived.Test.YtpiiehenmkinaaaDoorEa
namespace Go.Proofs.YtpiiehenmkinaaaDoor
open Go.RowKit

set_option maxRecDepth 100000 in
set_option maxHeartbeats 1600000 in
theorem headBytes_any (p : Prg) (cv : Value) (w : World) (hc : RdC w cv p.code) (hn : p.name.size ≤ 40) (hr : 0 ≤ p.regs ∧ p.regs ≤ 16) (hl : p.code.length ≤ 500) :
    Calls Tryd.prog 25 #[prgV p cv] w fun e w' => ∃ v, e = .returned v ∧ Own w' w.heap.size v (headL p) ∧ Below w.heap.size w w' := by
  obtain ⟨name, regs, code⟩ := p
  obtain ⟨ao, cap, rfl, -⟩ := hc.shape
  simp only at hc hn hr hl
  have HLE := hide (show headL ⟨name, regs, code⟩ = (([] ++ (U (nm name).length ++ nm name)) ++ U regs) ++ U (code.length : Int) by simp [headL, blobL])
  obtain ⟨L, HLL⟩ := named (headL ⟨name, regs, code⟩)
  rw [← HLL.out] at HLE ⊢
  show Calls Tryd.prog 25 #[.agg #[.string name, .int .i64 regs, .slice ao code.length cap]] w _
  obtain ⟨n, HN⟩ := named code.length
  rw [← HN.out] at HLE hl ⊢
  obtain ⟨W, HW⟩ := named (w.alloc (.cells #[.string name, .int .i64 regs, .slice ao n cap] 24))
  have hbW : Below w.heap.size w W := by rw [HW.out]; exact (Below.refl _ _).alloc (Nat.le_refl _) _
  obtain ⟨pb, HPB⟩ := named w.heap.size
  have HP := hide (show C3 W pb (.string name) (.int .i64 regs) (.slice ao n cap) by rw [HW.out, HPB.out]; exact C3.new _ _ _ _ _)
  have HBW := hide hbW
  have q1 := u64_of regs hr.1 (by omega)
  have q2 := u64_of (n : Int) (by omega) (by omega)
  have hU := fun n => U_len n
  have hcv := conv_run name
  have hrs := conv_rd name W (by omega)
  have hb6 := below_bytesWorld W name
  have hnl := nm_len name
  have hsW : W.heap.size = w.heap.size + 1 := by rw [HW.out]; simp
  rw [hsW] at hrs
  obtain ⟨-, x0, x1, x2, -⟩ := id HP.out
  rw [HW.out, HPB.out] at x0 x1 x2
  clear hsW
  clear hbW hc
  go_enter Tryd.func25, Tryd.ntmps25
  go_wp2_with fail
  rw [← HW.out, ← HPB.out]
  rw [← HPB.out] at hrs
  refine (blob_any _ _ [] (nm name) (Lib.bytesWorld W 5 name) (Rd.nil _) hrs (by rw [hnl]; simp; omega)).mono ?_
  rintro e w1 ⟨v1, rfl, ho1, hb1⟩
  have HB1 := hide (below_call hb6 hb1)
  clear x0 x1 x2 hb1
  obtain ⟨-, x0, x1, x2, -⟩ := id (HP.out.below HB1.out)
  obtain ⟨l1, HL1⟩ := named ([] ++ (U (nm name).length ++ nm name))
  have hl1 : l1.length ≤ 50 := by rw [HL1.out]; simp only [List.length_append, List.nil_append]; have := hU ((nm name).length : Int); omega
  rw [← HL1.out] at ho1
  obtain ⟨ao1, cp1, hv1, -⟩ := id ho1.rd
  subst hv1
  go_wp2_with fail
  try rw [q1]
  refine (uint_any _ l1 regs w1 (by omega) (by omega) ho1.rd (by omega)).mono ?_
  rintro e w2 ⟨v2, rfl, ho2, hb2⟩
  have HB2 := hide (below_call HB1.out hb2)
  clear x0 x1 x2 hb2 ho1
  obtain ⟨-, x0, x1, x2, -⟩ := id (HP.out.below HB2.out)
  obtain ⟨l2, HL2⟩ := named (l1 ++ U regs)
  have hl2 : l2.length ≤ 60 := by rw [HL2.out, List.length_append]; have := hU regs; omega
  rw [← HL2.out] at ho2
  obtain ⟨ao2, cp2, hv2, -⟩ := id ho2.rd
  subst hv2
  go_wp2_with fail
  try rw [q2]
  refine (uint_any _ l2 (n : Int) w2 (by omega) (by omega) ho2.rd (by omega)).mono ?_
  rintro e w3 ⟨v3, rfl, ho3, hb3⟩
  have hbf := below_call HBW.out (below_call HB2.out hb3)
  have hsz := (below_call HBW.out HB2.out).size
  go_wp2
  go_ret
  refine ⟨_, rfl, ?_, hbf⟩
  have e : L = l2 ++ U (n : Int) := by rw [HLE.out, HL2.out, HL1.out]
  rw [e]
  exact ho3.mono hsz
end Go.Proofs.YtpiiehenmkinaaaDoor
