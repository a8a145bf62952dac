/-
  The contracts of headBytes, instrBytes. Own work.
-/
import Derived.Test.YtpiiehenmkinaaaDoorCk
import Derived.Lib.ConvBytes
namespace Go.Proofs.YtpiiehenmkinaaaDoor
open Go.RowKit

theorem below_bytesWorld (w : World) (s : ByteArray) : Below w.heap.size w (Lib.bytesWorld w 5 s) := by
  refine ⟨rfl, rfl, rfl, ?_, fun k hk => Lib.bytesWorld_at_old w 5 s k hk⟩
  rw [Lib.bytesWorld_size]
  omega
theorem conv_run (s : ByteArray) (w : World) : (convert 9 25 (.string s)).run Tryd.prog w = .ok (.slice (some ⟨w.heap.size, 0, none⟩) s.size (grownCap w s.size 0 5)) (Lib.bytesWorld w 5 s) :=
  Lib.run_convert_string_bytes w 9 25 5 s Tryd.underlying9 Tryd.underlying25 Tryd.underlying5
theorem conv_rd (s : ByteArray) (w : World) (hs : s.size ≤ 1000) : Rd (Lib.bytesWorld w 5 s) (.slice (some ⟨w.heap.size, 0, none⟩) s.size (grownCap w s.size 0 5)) (nm s) := by
  refine ⟨_, _, by rw [nm_len], by rw [nm_len]; have := grownCap_ge w s.size 0 5; omega, grownCap_le_maxLen w s.size 0 5 (by unfold maxLen; omega), by simp, fun a ha i hi => ?_⟩
  obtain rfl := Option.some.inj ha
  rw [nm_len] at hi
  have e : (⟨w.heap.size, 0, none⟩ : Addr).add i = ⟨w.heap.size, i, none⟩ := by unfold Addr.add; split <;> simp_all
  rw [e, Lib.bytesWorld_cell w 5 s i hi]
  have : s.data.toList.getD i 0 = (nm s)[i]'(by rw [nm_len]; exact hi) := by
    have h2 : i < s.data.toList.length := by rw [Array.length_toList]; exact hi
    simp only [List.getD, List.getElem?_eq_getElem h2, Option.getD_some]
    rfl
  rw [this]
theorem u64_of (n : Int) (h0 : 0 ≤ n) (h1 : n ≤ 1000) : IntKind.u64.wrap n = n := by rw [wrap_u64]; omega

set_option maxRecDepth 100000 in
set_option maxHeartbeats 1600000 in
theorem instrBytes_any (i : Ins) (w : World) (ho : i.op < 256) (ha : 0 ≤ i.a ∧ i.a ≤ 16) (hb : 0 ≤ i.b ∧ i.b ≤ 16) (hc : 0 ≤ i.c ∧ i.c ≤ 20) (hn : IR i.n) (hs : i.s.size ≤ 40) :
    Calls Tryd.prog 26 #[insV i] w fun e w' => ∃ v, e = .returned v ∧ Own w' w.heap.size v (insL i) ∧ Below w.heap.size w w' := by
  obtain ⟨op, a, b, c, n, s⟩ := i
  simp only at ho ha hb hc hn hs
  have HLE := hide (show insL ⟨op, a, b, c, n, s⟩ = (((([] ++ U (op : Int)) ++ U a) ++ U b) ++ U c) ++ U (foldI n) ++ (U (nm s).length ++ nm s) by simp [insL, blobL])
  show Calls Tryd.prog 26 #[.agg #[.int .u8 (op : Int), .int .i64 a, .int .i64 b, .int .i64 c, .int .i64 n, .string s]] w _
  obtain ⟨L, HLL⟩ := named (insL ⟨op, a, b, c, n, s⟩)
  rw [← HLL.out] at HLE ⊢
  have HN := hide (show -9223372036854775808 ≤ n ∧ n ≤ 9223372036854775807 from hn)
  have HS := hide hs
  obtain ⟨W, HW⟩ := named (w.alloc (.cells #[.int .u8 (op : Int), .int .i64 a, .int .i64 b, .int .i64 c, .int .i64 n, .string s] 28))
  have hbW : Below w.heap.size w W := by rw [HW.out]; exact (Below.refl _ _).alloc (Nat.le_refl _) _
  have hsW : W.heap.size = w.heap.size + 1 := by rw [HW.out]; simp
  have hcW : W.heap[w.heap.size]? = some (.cells #[.int .u8 (op : Int), .int .i64 a, .int .i64 b, .int .i64 c, .int .i64 n, .string s] 28 (0, 0)) := by rw [HW.out]; exact heap_alloc_new w _
  have hcc := fun o => cell_of_row W w.heap.size o _ 28 (0, 0) hcW
  obtain ⟨B0, HB0⟩ := named w.heap.size
  have HC := hide (show ∀ w', Below W.heap.size W w' → w'.cell? ⟨B0, 1, none⟩ = some (.int .i64 a) ∧ w'.cell? ⟨B0, 2, none⟩ = some (.int .i64 b) ∧ w'.cell? ⟨B0, 3, none⟩ = some (.int .i64 c) ∧ w'.cell? ⟨B0, 4, none⟩ = some (.int .i64 n) ∧ w'.cell? ⟨B0, 5, none⟩ = some (.string s) from fun w' hb => by
    have hlt : B0 < W.heap.size := by rw [HB0.out]; omega
    rw [HB0.out] at hlt ⊢
    exact ⟨(hb.cell (p := ⟨w.heap.size, 1, none⟩) hlt).trans (hcc 1), (hb.cell (p := ⟨w.heap.size, 2, none⟩) hlt).trans (hcc 2), (hb.cell (p := ⟨w.heap.size, 3, none⟩) hlt).trans (hcc 3), (hb.cell (p := ⟨w.heap.size, 4, none⟩) hlt).trans (hcc 4), (hb.cell (p := ⟨w.heap.size, 5, none⟩) hlt).trans (hcc 5)⟩)
  have HBW := hide hbW
  have q0 := u64_of (op : Int) (by omega) (by omega)
  have q1 := u64_of a ha.1 (by omega)
  have q2 := u64_of b hb.1 (by omega)
  have q3 := u64_of c hc.1 (by omega)
  have hU := fun n => U_len n
  have hcv := conv_run s
  clear hsW hcW hcc hbW
  go_enter Tryd.func26, Tryd.ntmps26
  go_wp2_with fail
  rw [← HW.out, ← HB0.out]
  try rw [q0]
  refine (uint_any (.slice none 0 0) [] (op : Int) W (by omega) (by omega) (Rd.nil _) (by simp)).mono ?_
  rintro e w1 ⟨v1, rfl, ho1, hb1⟩
  have HB1 := hide hb1
  obtain ⟨x1, x2, x3, x4, x5⟩ := HC.out w1 HB1.out
  obtain ⟨l1, HL1⟩ := named ([] ++ U (op : Int))
  have hl1 : l1.length ≤ 10 := by rw [HL1.out, List.length_append]; have := hU (op : Int); simp; omega
  rw [← HL1.out] at ho1
  obtain ⟨ao1, cp1, hv1, -⟩ := id ho1.rd
  subst hv1
  go_wp2_with fail
  try rw [q1]
  refine (uint_any _ l1 a w1 (by omega) (by omega) ho1.rd (by omega)).mono ?_
  rintro e w2 ⟨v2, rfl, ho2, hb2'⟩
  have hb2 := below_call HB1.out hb2'
  clear x1 x2 x3 x4 x5 ho1 hb2' hb1
  have HB2 := hide hb2
  obtain ⟨x1, x2, x3, x4, x5⟩ := HC.out w2 HB2.out
  obtain ⟨l2, HL2⟩ := named (l1 ++ U a)
  have hl2 : l2.length ≤ 20 := by rw [HL2.out, List.length_append]; have := hU a; omega
  rw [← HL2.out] at ho2
  obtain ⟨ao2, cp2, hv2, -⟩ := id ho2.rd
  subst hv2
  go_wp2_with fail
  try rw [q2]
  refine (uint_any _ l2 b w2 (by omega) (by omega) ho2.rd (by omega)).mono ?_
  rintro e w3 ⟨v3, rfl, ho3, hb3'⟩
  have hb3 := below_call HB2.out hb3'
  clear x1 x2 x3 x4 x5 ho2 hb3' hb2
  have HB3 := hide hb3
  obtain ⟨x1, x2, x3, x4, x5⟩ := HC.out w3 HB3.out
  obtain ⟨l3, HL3⟩ := named (l2 ++ U b)
  have hl3 : l3.length ≤ 30 := by rw [HL3.out, List.length_append]; have := hU b; omega
  rw [← HL3.out] at ho3
  obtain ⟨ao3, cp3, hv3, -⟩ := id ho3.rd
  subst hv3
  go_wp2_with fail
  try rw [q3]
  refine (uint_any _ l3 c w3 (by omega) (by omega) ho3.rd (by omega)).mono ?_
  rintro e w4 ⟨v4, rfl, ho4, hb4'⟩
  have hb4 := below_call HB3.out hb4'
  clear x1 x2 x3 x4 x5 ho3 hb4' hb3
  have HB4 := hide hb4
  obtain ⟨x1, x2, x3, x4, x5⟩ := HC.out w4 HB4.out
  obtain ⟨l4, HL4⟩ := named (l3 ++ U c)
  have hl4 : l4.length ≤ 40 := by rw [HL4.out, List.length_append]; have := hU c; omega
  rw [← HL4.out] at ho4
  obtain ⟨ao4, cp4, hv4, -⟩ := id ho4.rd
  subst hv4
  go_wp2_with fail
  refine (int_any _ l4 n w4 HN.out.1 HN.out.2 ho4.rd (by omega)).mono ?_
  rintro e w5 ⟨v5, rfl, ho5, hb5'⟩
  have hb5 := below_call HB4.out hb5'
  clear x1 x2 x3 x4 x5 ho4 hb5' hb4
  have HB5 := hide hb5
  obtain ⟨x1, x2, x3, x4, x5⟩ := HC.out w5 HB5.out
  obtain ⟨l5, HL5⟩ := named (l4 ++ U (foldI n))
  have hl5 : l5.length ≤ 50 := by rw [HL5.out, List.length_append]; have := hU (foldI n); omega
  rw [← HL5.out] at ho5
  obtain ⟨ao5, cp5, hv5, -⟩ := id ho5.rd
  subst hv5
  have hrs := conv_rd s w5 (by have := HS.out; omega)
  have hb6 := below_bytesWorld w5 s
  have hnl := nm_len s
  go_wp2_with fail
  refine (blob_any _ _ l5 (nm s) (Lib.bytesWorld w5 5 s) (ho5.rd.below hb6) hrs (by rw [hnl]; have := HS.out; omega)).mono ?_
  rintro e w6 ⟨v6, rfl, ho6, hb7⟩
  have hbf := below_call HBW.out (below_call (below_call HB5.out hb6) hb7)
  have hsz := (below_call HBW.out (below_call HB5.out hb6)).size
  go_wp2
  go_ret
  refine ⟨_, rfl, ?_, hbf⟩
  have e : L = l5 ++ (U (nm s).length ++ nm s) := by
    rw [HLE.out, HL5.out, HL4.out, HL3.out, HL2.out, HL1.out]
  rw [e]
  exact ho6.mono hsz

end Go.Proofs.YtpiiehenmkinaaaDoor
