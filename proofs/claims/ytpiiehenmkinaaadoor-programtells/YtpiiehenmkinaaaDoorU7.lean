/-
  Several of my texts in one: Ea Eb Ec Da Ed. Own work.
-/
import Derived.Test.YtpiiehenmkinaaaDoorU3
import Derived.Lib.ConvBytes
import Derived.Laws.MakeOwn
/-
  The contracts of headBytes, instrBytes. Own work.
-/
namespace Go.Proofs.YtpiiehenmkinaaaDoor
open Go.RowKit

theorem below_bytesWorld (w : World) (s : ByteArray) : Below w.heap.size w (Lib.bytesWorld w 5 s) := by
  refine ⟨rfl, rfl, rfl, ?_, fun k hk => Lib.bytesWorld_at_old w 5 s k hk⟩
  rw [Lib.bytesWorld_size]
  omega
theorem conv_run (s : ByteArray) (w : World) : (convert 9 25 (.string s)).run Tryd.prog w = .ok (.slice (some ⟨w.heap.size, 0, none⟩) s.size (grownCap w s.size 0 5)) (Lib.bytesWorld w 5 s) :=
  Lib.run_convert_string_bytes w 9 25 5 s Tryd.underlying9 Tryd.underlying25 Tryd.underlying5
theorem conv_rd (s : ByteArray) (w : World) (hs : s.size ≤ 1000) : Rd (Lib.bytesWorld w 5 s) (.slice (some ⟨w.heap.size, 0, none⟩) s.size (grownCap w s.size 0 5)) (nm s) := by
  refine ⟨_, _, by rw [nm_len], by rw [nm_len]; have := grownCap_ge w s.size 0 5; omega, grownCap_le_maxLen w s.size 0 5 (by unfold maxLen; omega), by simp, fun a ha i hi => ?_⟩
  obtain rfl := Option.some.inj ha
  rw [nm_len] at hi
  have e : (⟨w.heap.size, 0, none⟩ : Addr).add i = ⟨w.heap.size, i, none⟩ := by unfold Addr.add; split <;> simp_all
  rw [e, Lib.bytesWorld_cell w 5 s i hi]
  have : s.data.toList.getD i 0 = (nm s)[i]'(by rw [nm_len]; exact hi) := by
    have h2 : i < s.data.toList.length := by rw [Array.length_toList]; exact hi
    simp only [List.getD, List.getElem?_eq_getElem h2, Option.getD_some]
    rfl
  rw [this]
theorem u64_of (n : Int) (h0 : 0 ≤ n) (h1 : n ≤ 1000) : IntKind.u64.wrap n = n := by rw [wrap_u64]; omega

set_option maxRecDepth 100000 in
set_option maxHeartbeats 1600000 in
theorem instrBytes_any (i : Ins) (w : World) (ho : i.op < 256) (ha : 0 ≤ i.a ∧ i.a ≤ 16) (hb : 0 ≤ i.b ∧ i.b ≤ 16) (hc : 0 ≤ i.c ∧ i.c ≤ 20) (hn : IR i.n) (hs : i.s.size ≤ 40) :
    Calls Tryd.prog 26 #[insV i] w fun e w' => ∃ v, e = .returned v ∧ Own w' w.heap.size v (insL i) ∧ Below w.heap.size w w' := by
  obtain ⟨op, a, b, c, n, s⟩ := i
  simp only at ho ha hb hc hn hs
  have HLE := hide (show insL ⟨op, a, b, c, n, s⟩ = (((([] ++ U (op : Int)) ++ U a) ++ U b) ++ U c) ++ U (foldI n) ++ (U (nm s).length ++ nm s) by simp [insL, blobL])
  show Calls Tryd.prog 26 #[.agg #[.int .u8 (op : Int), .int .i64 a, .int .i64 b, .int .i64 c, .int .i64 n, .string s]] w _
  obtain ⟨L, HLL⟩ := named (insL ⟨op, a, b, c, n, s⟩)
  rw [← HLL.out] at HLE ⊢
  have HN := hide (show -9223372036854775808 ≤ n ∧ n ≤ 9223372036854775807 from hn)
  have HS := hide hs
  obtain ⟨W, HW⟩ := named (w.alloc (.cells #[.int .u8 (op : Int), .int .i64 a, .int .i64 b, .int .i64 c, .int .i64 n, .string s] 28))
  have hbW : Below w.heap.size w W := by rw [HW.out]; exact (Below.refl _ _).alloc (Nat.le_refl _) _
  have hsW : W.heap.size = w.heap.size + 1 := by rw [HW.out]; simp
  have hcW : W.heap[w.heap.size]? = some (.cells #[.int .u8 (op : Int), .int .i64 a, .int .i64 b, .int .i64 c, .int .i64 n, .string s] 28 (0, 0)) := by rw [HW.out]; exact heap_alloc_new w _
  have hcc := fun o => cell_of_row W w.heap.size o _ 28 (0, 0) hcW
  obtain ⟨B0, HB0⟩ := named w.heap.size
  have HC := hide (show ∀ w', Below W.heap.size W w' → w'.cell? ⟨B0, 1, none⟩ = some (.int .i64 a) ∧ w'.cell? ⟨B0, 2, none⟩ = some (.int .i64 b) ∧ w'.cell? ⟨B0, 3, none⟩ = some (.int .i64 c) ∧ w'.cell? ⟨B0, 4, none⟩ = some (.int .i64 n) ∧ w'.cell? ⟨B0, 5, none⟩ = some (.string s) from fun w' hb => by
    have hlt : B0 < W.heap.size := by rw [HB0.out]; omega
    rw [HB0.out] at hlt ⊢
    exact ⟨(hb.cell (p := ⟨w.heap.size, 1, none⟩) hlt).trans (hcc 1), (hb.cell (p := ⟨w.heap.size, 2, none⟩) hlt).trans (hcc 2), (hb.cell (p := ⟨w.heap.size, 3, none⟩) hlt).trans (hcc 3), (hb.cell (p := ⟨w.heap.size, 4, none⟩) hlt).trans (hcc 4), (hb.cell (p := ⟨w.heap.size, 5, none⟩) hlt).trans (hcc 5)⟩)
  have HBW := hide hbW
  have q0 := u64_of (op : Int) (by omega) (by omega)
  have q1 := u64_of a ha.1 (by omega)
  have q2 := u64_of b hb.1 (by omega)
  have q3 := u64_of c hc.1 (by omega)
  have hU := fun n => U_len n
  have hcv := conv_run s
  clear hsW hcW hcc hbW
  go_enter Tryd.func26, Tryd.ntmps26
  go_wp2_with fail
  rw [← HW.out, ← HB0.out]
  try rw [q0]
  refine (uint_any (.slice none 0 0) [] (op : Int) W (by omega) (by omega) (Rd.nil _) (by simp)).mono ?_
  rintro e w1 ⟨v1, rfl, ho1, hb1⟩
  have HB1 := hide hb1
  obtain ⟨x1, x2, x3, x4, x5⟩ := HC.out w1 HB1.out
  obtain ⟨l1, HL1⟩ := named ([] ++ U (op : Int))
  have hl1 : l1.length ≤ 10 := by rw [HL1.out, List.length_append]; have := hU (op : Int); simp; omega
  rw [← HL1.out] at ho1
  obtain ⟨ao1, cp1, hv1, -⟩ := id ho1.rd
  subst hv1
  go_wp2_with fail
  try rw [q1]
  refine (uint_any _ l1 a w1 (by omega) (by omega) ho1.rd (by omega)).mono ?_
  rintro e w2 ⟨v2, rfl, ho2, hb2'⟩
  have hb2 := below_call HB1.out hb2'
  clear x1 x2 x3 x4 x5 ho1 hb2' hb1
  have HB2 := hide hb2
  obtain ⟨x1, x2, x3, x4, x5⟩ := HC.out w2 HB2.out
  obtain ⟨l2, HL2⟩ := named (l1 ++ U a)
  have hl2 : l2.length ≤ 20 := by rw [HL2.out, List.length_append]; have := hU a; omega
  rw [← HL2.out] at ho2
  obtain ⟨ao2, cp2, hv2, -⟩ := id ho2.rd
  subst hv2
  go_wp2_with fail
  try rw [q2]
  refine (uint_any _ l2 b w2 (by omega) (by omega) ho2.rd (by omega)).mono ?_
  rintro e w3 ⟨v3, rfl, ho3, hb3'⟩
  have hb3 := below_call HB2.out hb3'
  clear x1 x2 x3 x4 x5 ho2 hb3' hb2
  have HB3 := hide hb3
  obtain ⟨x1, x2, x3, x4, x5⟩ := HC.out w3 HB3.out
  obtain ⟨l3, HL3⟩ := named (l2 ++ U b)
  have hl3 : l3.length ≤ 30 := by rw [HL3.out, List.length_append]; have := hU b; omega
  rw [← HL3.out] at ho3
  obtain ⟨ao3, cp3, hv3, -⟩ := id ho3.rd
  subst hv3
  go_wp2_with fail
  try rw [q3]
  refine (uint_any _ l3 c w3 (by omega) (by omega) ho3.rd (by omega)).mono ?_
  rintro e w4 ⟨v4, rfl, ho4, hb4'⟩
  have hb4 := below_call HB3.out hb4'
  clear x1 x2 x3 x4 x5 ho3 hb4' hb3
  have HB4 := hide hb4
  obtain ⟨x1, x2, x3, x4, x5⟩ := HC.out w4 HB4.out
  obtain ⟨l4, HL4⟩ := named (l3 ++ U c)
  have hl4 : l4.length ≤ 40 := by rw [HL4.out, List.length_append]; have := hU c; omega
  rw [← HL4.out] at ho4
  obtain ⟨ao4, cp4, hv4, -⟩ := id ho4.rd
  subst hv4
  go_wp2_with fail
  refine (int_any _ l4 n w4 HN.out.1 HN.out.2 ho4.rd (by omega)).mono ?_
  rintro e w5 ⟨v5, rfl, ho5, hb5'⟩
  have hb5 := below_call HB4.out hb5'
  clear x1 x2 x3 x4 x5 ho4 hb5' hb4
  have HB5 := hide hb5
  obtain ⟨x1, x2, x3, x4, x5⟩ := HC.out w5 HB5.out
  obtain ⟨l5, HL5⟩ := named (l4 ++ U (foldI n))
  have hl5 : l5.length ≤ 50 := by rw [HL5.out, List.length_append]; have := hU (foldI n); omega
  rw [← HL5.out] at ho5
  obtain ⟨ao5, cp5, hv5, -⟩ := id ho5.rd
  subst hv5
  have hrs := conv_rd s w5 (by have := HS.out; omega)
  have hb6 := below_bytesWorld w5 s
  have hnl := nm_len s
  go_wp2_with fail
  refine (blob_any _ _ l5 (nm s) (Lib.bytesWorld w5 5 s) (ho5.rd.below hb6) hrs (by rw [hnl]; have := HS.out; omega)).mono ?_
  rintro e w6 ⟨v6, rfl, ho6, hb7⟩
  have hbf := below_call HBW.out (below_call (below_call HB5.out hb6) hb7)
  have hsz := (below_call HBW.out (below_call HB5.out hb6)).size
  go_wp2
  go_ret
  refine ⟨_, rfl, ?_, hbf⟩
  have e : L = l5 ++ (U (nm s).length ++ nm s) := by
    rw [HLE.out, HL5.out, HL4.out, HL3.out, HL2.out, HL1.out]
  rw [e]
  exact ho6.mono hsz

end Go.Proofs.YtpiiehenmkinaaaDoor

/-
  The contract of headBytes. Own work.
-/
namespace Go.Proofs.YtpiiehenmkinaaaDoor
open Go.RowKit

set_option maxRecDepth 100000 in
set_option maxHeartbeats 1600000 in
theorem headBytes_any (p : Prg) (cv : Value) (w : World) (hc : RdC w cv p.code) (hn : p.name.size ≤ 40) (hr : 0 ≤ p.regs ∧ p.regs ≤ 16) (hl : p.code.length ≤ 500) :
    Calls Tryd.prog 25 #[prgV p cv] w fun e w' => ∃ v, e = .returned v ∧ Own w' w.heap.size v (headL p) ∧ Below w.heap.size w w' := by
  obtain ⟨name, regs, code⟩ := p
  obtain ⟨ao, cap, rfl, -⟩ := hc.shape
  simp only at hc hn hr hl
  have HLE := hide (show headL ⟨name, regs, code⟩ = (([] ++ (U (nm name).length ++ nm name)) ++ U regs) ++ U (code.length : Int) by simp [headL, blobL])
  obtain ⟨L, HLL⟩ := named (headL ⟨name, regs, code⟩)
  rw [← HLL.out] at HLE ⊢
  show Calls Tryd.prog 25 #[.agg #[.string name, .int .i64 regs, .slice ao code.length cap]] w _
  obtain ⟨n, HN⟩ := named code.length
  rw [← HN.out] at HLE hl ⊢
  obtain ⟨W, HW⟩ := named (w.alloc (.cells #[.string name, .int .i64 regs, .slice ao n cap] 24))
  have hbW : Below w.heap.size w W := by rw [HW.out]; exact (Below.refl _ _).alloc (Nat.le_refl _) _
  obtain ⟨pb, HPB⟩ := named w.heap.size
  have HP := hide (show C3 W pb (.string name) (.int .i64 regs) (.slice ao n cap) by rw [HW.out, HPB.out]; exact C3.new _ _ _ _ _)
  have HBW := hide hbW
  have q1 := u64_of regs hr.1 (by omega)
  have q2 := u64_of (n : Int) (by omega) (by omega)
  have hU := fun n => U_len n
  have hcv := conv_run name
  have hrs := conv_rd name W (by omega)
  have hb6 := below_bytesWorld W name
  have hnl := nm_len name
  have hsW : W.heap.size = w.heap.size + 1 := by rw [HW.out]; simp
  rw [hsW] at hrs
  obtain ⟨-, x0, x1, x2, -⟩ := id HP.out
  rw [HW.out, HPB.out] at x0 x1 x2
  clear hsW
  clear hbW hc
  go_enter Tryd.func25, Tryd.ntmps25
  go_wp2_with fail
  rw [← HW.out, ← HPB.out]
  rw [← HPB.out] at hrs
  refine (blob_any _ _ [] (nm name) (Lib.bytesWorld W 5 name) (Rd.nil _) hrs (by rw [hnl]; simp; omega)).mono ?_
  rintro e w1 ⟨v1, rfl, ho1, hb1⟩
  have HB1 := hide (below_call hb6 hb1)
  clear x0 x1 x2 hb1
  obtain ⟨-, x0, x1, x2, -⟩ := id (HP.out.below HB1.out)
  obtain ⟨l1, HL1⟩ := named ([] ++ (U (nm name).length ++ nm name))
  have hl1 : l1.length ≤ 50 := by rw [HL1.out]; simp only [List.length_append, List.nil_append]; have := hU ((nm name).length : Int); omega
  rw [← HL1.out] at ho1
  obtain ⟨ao1, cp1, hv1, -⟩ := id ho1.rd
  subst hv1
  go_wp2_with fail
  try rw [q1]
  refine (uint_any _ l1 regs w1 (by omega) (by omega) ho1.rd (by omega)).mono ?_
  rintro e w2 ⟨v2, rfl, ho2, hb2⟩
  have HB2 := hide (below_call HB1.out hb2)
  clear x0 x1 x2 hb2 ho1
  obtain ⟨-, x0, x1, x2, -⟩ := id (HP.out.below HB2.out)
  obtain ⟨l2, HL2⟩ := named (l1 ++ U regs)
  have hl2 : l2.length ≤ 60 := by rw [HL2.out, List.length_append]; have := hU regs; omega
  rw [← HL2.out] at ho2
  obtain ⟨ao2, cp2, hv2, -⟩ := id ho2.rd
  subst hv2
  go_wp2_with fail
  try rw [q2]
  refine (uint_any _ l2 (n : Int) w2 (by omega) (by omega) ho2.rd (by omega)).mono ?_
  rintro e w3 ⟨v3, rfl, ho3, hb3⟩
  have hbf := below_call HBW.out (below_call HB2.out hb3)
  have hsz := (below_call HBW.out HB2.out).size
  go_wp2
  go_ret
  refine ⟨_, rfl, ?_, hbf⟩
  have e : L = l2 ++ U (n : Int) := by rw [HLE.out, HL2.out, HL1.out]
  rw [e]
  exact ho3.mono hsz
end Go.Proofs.YtpiiehenmkinaaaDoor

/-
  The contract of Concat of any row. Own work.
-/
namespace Go.Proofs.YtpiiehenmkinaaaDoor
open Go.RowKit

set_option maxRecDepth 100000 in
set_option maxHeartbeats 800000 in
theorem concat_wide (ps : List (Value × List UInt8)) (b cap : Nat) (w : World) (hcap : ps.length ≤ cap) (hmax : cap ≤ 9223372036854775807)
    (hcell : ∀ i (h : i < ps.length), w.cell? ⟨b, i, none⟩ = some ps[i].1) (hrd : ∀ i (h : i < ps.length), Rd w ps[i].1 ps[i].2) (hb0 : b < w.heap.size) (htot : (joined ps ps.length).length ≤ 140737488355328) :
    Calls Tryd.prog 27 #[.slice (some ⟨b, 0, none⟩) ps.length cap] w fun e w' => ∃ v, e = .returned v ∧ Own w' w.heap.size v (joined ps ps.length) ∧ Below w.heap.size w w' := by
  obtain ⟨i0, hi, hz0, hz1, hz2⟩ := info_parts Tryd.info5
  obtain ⟨n, hn⟩ : ∃ n, n = ps.length := ⟨_, rfl⟩
  rw [← hn] at hcap htot ⊢
  have HN : Hid (n = ps.length) := hn
  have HC : Hid (∀ i (h : i < ps.length), w.cell? ⟨b, i, none⟩ = some ps[i].1) := hcell
  have HR : Hid (∀ i (h : i < ps.length), Rd w ps[i].1 ps[i].2) := hrd
  clear hn hcell hrd
  go_enter Tryd.func27, Tryd.ntmps27
  go_wp2
  go_loop [3, 11] (fun sv iv => ∃ k : Nat, k ≤ n ∧ iv = .int .i64 k ∧ sv = .int .i64 (joined ps k).length) (fun _ iv => n - (intOf iv).toNat)
  case atStart => exact ⟨0, by omega, rfl, rfl⟩
  case round =>
    obtain ⟨k, hk, rfl, rfl⟩ := hrel
    have hle : (joined ps k).length ≤ (joined ps n).length := by rw [HN.out]; exact joined_le ps k
    obtain ⟨sz, HZ⟩ := named ((joined ps k).length)
    rw [← HZ.out] at hle ⊢
    by_cases hlt : k < n
    · have hkp : k < ps.length := by rw [← HN.out]; exact hlt
      have hj := joined_succ ps k hkp
      have hle2 : (joined ps (k + 1)).length ≤ (joined ps n).length := by rw [HN.out]; exact joined_le ps (k + 1)
      rw [hj, List.length_append, ← HZ.out] at hle2
      have HJ : Hid (joined ps (k + 1) = joined ps k ++ ps[k].2) := hj
      clear hj
      have hc0 := HC.out k hkp
      obtain ⟨ao, c0, hv, h1, h2, h3, h4⟩ := HR.out k hkp
      rw [hv] at hc0
      clear h4 h3 hv
      obtain ⟨m, HM⟩ := named (ps[k].2.length)
      rw [← HM.out] at hle2 hc0 h1
      have hms : (m : Int) + sz ≤ 140737488355328 := by omega
      have hng : ¬ ((sz : Int) + m < 0) := by omega
      go_wp2
      go_round
      case rel => exact ⟨k + 1, by omega, by go_num, by rw [HJ.out, List.length_append, ← HM.out, ← HZ.out]; go_num⟩
      case measure => simp [intOf]; omega
    · have hkn : k = n := by omega
      have HK : Hid (k = n) := hkn
      have hsz : sz ≤ 140737488355328 := by omega
      clear hkn
      go_wp2_with fail
      refine (grow_nil sz hsz _).mono ?_
      rintro e w1 ⟨v1, rfl, hown1, hb1⟩
      go_wp2
      go_loopw [6, 27] (fun nv iv wr => ∃ k : Nat, k ≤ n ∧ iv = .int .i64 k ∧ Own wr w.heap.size nv (joined ps k) ∧ Below w.heap.size w wr) (fun _ iv _ => n - (intOf iv).toNat)
      case atStart => exact ⟨0, by omega, rfl, hown1, hb1⟩
      case round =>
        obtain ⟨j, hj, rfl, hown, hb⟩ := hrel
        have hsz2 := hb.size
        by_cases hlt2 : j < n
        · have hkp : j < ps.length := by rw [← HN.out]; exact hlt2
          have hjo := joined_succ ps j hkp
          have hle2 : (joined ps (j + 1)).length ≤ (joined ps n).length := by rw [HN.out]; exact joined_le ps (j + 1)
          rw [hjo, List.length_append] at hle2
          have HJ : Hid (joined ps (j + 1) = joined ps j ++ ps[j].2) := hjo
          clear hjo
          have hc0 := (hb.cell (p := ⟨b, j, none⟩) hb0).trans (HC.out j hkp)
          have hrd0 := HR.out j hkp
          obtain ⟨ao, c0, hv, h1, h2, h3, h4⟩ := HR.out j hkp
          rw [hv] at hc0 hrd0
          clear h4 h3 hv
          have hrd1 := hrd0.below hb
          clear hrd0
          obtain ⟨q, HQ⟩ := named (ps[j].2)
          obtain ⟨q0, HQ0⟩ := named (joined ps j)
          rw [← HQ.out] at hrd1 hc0 h1 hle2
          rw [← HQ0.out] at hown hle2
          go_wp2_with (at_builtin; go_must (refine wpList_append_rd _ rfl (.tmp 31) (.tmp 32) 25 rfl i0 Tryd.underlying25 hi hz0 hz1 hz2 w.heap.size _ _ rfl rfl q0 q hown hrd1 ?_ ?_ ?_))
          · omega
          · omega
          · intro v' w' hown' hg
            have hb' : Below w.heap.size w w' := hb.grown hg hsz2 (fun k hk => (World.ownsRow.lt hown k hk).1)
            clear hg
            go_wp2
            go_roundw
            case rel => exact ⟨j + 1, by omega, by go_num, by rw [HJ.out, ← HQ.out, ← HQ0.out]; exact hown', hb'⟩
            case measure => simp [intOf]; omega
        · have hjn : j = n := by omega
          subst hjn
          go_wp2
          go_ret
          exact ⟨_, rfl, hown, hb⟩
end Go.Proofs.YtpiiehenmkinaaaDoor

/-
  A field written over: in memory, and what Check says of it. Own work.
-/
namespace Go.Proofs.YtpiiehenmkinaaaDoor
open Go.RowKit

theorem RdC.put {w : World} {g n cap : Nat} {l : List Ins} (h : RdC w (.slice (some ⟨g, 0, none⟩) n cap) l) (k j : Nat) (hk : k < l.length) (i' : Ins) (x : Value) (hx : insC i' = (insC l[k]).set j x) (hj : j < 6) :
    RdC (w.setCell ⟨g, k * 6 + j, none⟩ x) (.slice (some ⟨g, 0, none⟩) n cap) (l.set k i') := by
  obtain ⟨ao, c, hv, h1, h2, h3, h4⟩ := h
  cases hv
  refine ⟨_, _, by rw [List.length_set], by rw [List.length_set]; exact h1, h2, h3, fun k' hk' => ?_⟩
  rw [List.length_set] at hk'
  obtain ⟨b, off, e, hc⟩ := h4 k' hk'
  cases e
  refine ⟨_, _, rfl, fun j' u hu => ?_⟩
  rw [Nat.zero_add]
  by_cases hkk : k = k'
  · subst hkk
    rw [List.getElem_set_self, hx] at hu
    have hj' : j' < 6 := by
      have := (List.getElem?_eq_some_iff.1 hu).1
      rw [List.length_set] at this
      exact this
    by_cases hjj : j' = j
    · subst hjj
      rw [List.getElem?_set_self (by exact hj)] at hu
      cases hu
      have h0 := hc j' ((insC l[k])[j']'hj) (List.getElem?_eq_getElem _)
      rw [Nat.zero_add] at h0
      exact World.cell?_setCell_same _ _ _ h0
    · rw [List.getElem?_set_ne (by omega)] at hu
      have h0 := hc j' u hu
      rw [Nat.zero_add] at h0
      exact (cell_other _ _ _ _ _ _ (.inr (by omega))).trans h0
  · rw [List.getElem_set_ne (by omega)] at hu
    have h0 := hc j' u hu
    rw [Nat.zero_add] at h0
    have hj' : j' < 6 := (List.getElem?_eq_some_iff.1 hu).1
    exact (cell_other _ _ _ _ _ _ (.inr (by omega))).trans h0
/-- what the call itself has made may be written over -/
theorem OwnC.open {w : World} {base : Nat} {v : Value} {l : List Ins} (h : OwnC w base v l) (hl : 0 < l.length) : ∃ g cap, v = .slice (some ⟨g, 0, none⟩) l.length cap ∧ base ≤ g ∧ g < w.heap.size ∧ ∀ o, w.frozen? ⟨g, o, none⟩ = false := by
  rcases h.2 with ⟨rfl, h0⟩ | ⟨g, cap, cur, hv, hb, hg, hn, hm, hs, ht⟩
  · omega
  · exact ⟨g, cap, hv, hb, (Array.getElem?_eq_some_iff.1 hg).1, fun o => by simp [World.frozen?, hg]⟩

theorem fit_no {regs places : Int} {l : Nat} {n : Int} (hr : regs ≤ 16) (hp : places ≤ 500) (hn : n = 1073741824 ∨ n = -1) (hl : l = 114 ∨ l = 106 ∨ l = 112 ∨ l = 46) : fit regs places 20 l n = false := by
  rcases hl with rfl | rfl | rfl | rfl <;> simp [fit] <;> omega
theorem bad_field {regs places : Int} {i i' : Ins} (j : Nat) (ho : i'.op = i.op) (h : insB regs places 20 i = true) (hj : j < 5) (hf : ∀ l, (fields i.op)[j]? = some l → fit regs places 20 l ((vals i')[j]'hj) = false) : insB regs places 20 i' = false := by
  unfold insB at h ⊢
  rw [Bool.and_eq_true, decide_eq_true_eq] at h
  rw [ho]
  have hl : j < (fields i.op).length := by omega
  rw [fits_false regs places 20 (fields i.op) (vals i') j hl hj (hf _ (List.getElem?_eq_getElem hl)), Bool.and_false]
theorem letters (o : Nat) (h : 1 ≤ o ∧ o ≤ 16) : (∀ l, (fields o)[0]? = some l → l = 114 ∨ l = 106 ∨ l = 112 ∨ l = 46) ∧ (∀ l, (fields o)[1]? = some l → l = 114 ∨ l = 106 ∨ l = 112 ∨ l = 46) ∧ (∀ l, (fields o)[2]? = some l → l = 114 ∨ l = 106 ∨ l = 112 ∨ l = 46) ∧ (o ≠ 1 → ∀ l, (fields o)[3]? = some l → l = 114 ∨ l = 106 ∨ l = 112 ∨ l = 46) ∧ (∀ l, (fields o)[4]? = some l → l = 115 ∨ l = 46) := by
  have : o = 1 ∨ o = 2 ∨ o = 3 ∨ o = 4 ∨ o = 5 ∨ o = 6 ∨ o = 7 ∨ o = 8 ∨ o = 9 ∨ o = 10 ∨ o = 11 ∨ o = 12 ∨ o = 13 ∨ o = 14 ∨ o = 15 ∨ o = 16 := by omega
  rcases this with rfl | rfl | rfl | rfl | rfl | rfl | rfl | rfl | rfl | rfl | rfl | rfl | rfl | rfl | rfl | rfl <;>
    refine ⟨?_, ?_, ?_, ?_, ?_⟩ <;> simp [fields]
/-- a program with one instruction changed to one that may not be -/
theorem okP_set {p : Prg} (k : Nat) (hk : k < p.code.length) (i' : Ins) (h : insB p.regs p.code.length 20 i' = false) : okP ⟨p.name, p.regs, p.code.set k i'⟩ 20 = false := by
  refine okP_no5 (p := ⟨p.name, p.regs, p.code.set k i'⟩) k (by simpa using hk) ?_
  show insB p.regs ((p.code.set k i').length : Int) 20 ((p.code.set k i')[k]'_) = false
  rw [List.getElem_set_self]
  rw [List.length_set]
  exact h
theorem okP_in {p : Prg} {pol : Int} (h : okP p pol = true) : (1 ≤ p.name.size ∧ p.name.size ≤ 40) ∧ (1 ≤ p.regs ∧ p.regs ≤ 16) ∧ p.code.length ≤ 500 ∧ 0 < p.code.length ∧ ∀ i ∈ p.code, insB p.regs p.code.length pol i = true := by
  unfold okP at h
  simp only [Bool.and_eq_true, decide_eq_true_eq, List.all_eq_true] at h
  obtain ⟨⟨⟨⟨hn, hr⟩, hl⟩, he⟩, hi⟩ := h
  refine ⟨hn, hr, hl, ?_, hi⟩
  cases hc : p.code with
  | nil => rw [hc] at he; cases he
  | cons x t => simp
def z41 : List UInt8 := List.replicate 41 0
def zeros41 : ByteArray := ⟨z41.toArray⟩
theorem run_make41 (w : World) : (Instr.makeSlice 25 (.int .i64 41) (.int .i64 41)).run Tryd.prog w = .ok (.slice (some ⟨w.heap.size, 0, none⟩) 41 41) (w.alloc (.cells (BV z41).toArray 5)) := by kernel_rfl
def wA (i : Ins) (n : Int) : Ins := ⟨i.op, n, i.b, i.c, i.n, i.s⟩
def wB (i : Ins) (n : Int) : Ins := ⟨i.op, i.a, n, i.c, i.n, i.s⟩
def wC (i : Ins) (n : Int) : Ins := ⟨i.op, i.a, i.b, n, i.n, i.s⟩
def wN (i : Ins) (n : Int) : Ins := ⟨i.op, i.a, i.b, i.c, n, i.s⟩
def wS (i : Ins) (s : ByteArray) : Ins := ⟨i.op, i.a, i.b, i.c, i.n, s⟩
/-- each way a field is written over -/
theorem bad_a {p : Prg} {k : Nat} (hk : k < p.code.length) (h : okP p 20 = true) (n : Int) (hn : n = 1073741824 ∨ n = -1) : insB p.regs p.code.length 20 (wA p.code[k] n) = false := by
  obtain ⟨-, hr, hl, -, hi⟩ := okP_in h
  have hb := hi _ (List.getElem_mem hk)
  have ho := (insB_range hb hr.2).2.2.2.2
  exact bad_field (i := p.code[k]) (i' := (wA p.code[k] n)) 0 rfl hb (by omega) (fun l hl' => fit_no hr.2 (by omega) hn ((letters _ ho).1 l hl'))
theorem bad_b {p : Prg} {k : Nat} (hk : k < p.code.length) (h : okP p 20 = true) (n : Int) (hn : n = 1073741824 ∨ n = -1) : insB p.regs p.code.length 20 (wB p.code[k] n) = false := by
  obtain ⟨-, hr, hl, -, hi⟩ := okP_in h
  have hb := hi _ (List.getElem_mem hk)
  have ho := (insB_range hb hr.2).2.2.2.2
  exact bad_field (i := p.code[k]) (i' := (wB p.code[k] n)) 1 rfl hb (by omega) (fun l hl' => fit_no hr.2 (by omega) hn ((letters _ ho).2.1 l hl'))
theorem bad_c {p : Prg} {k : Nat} (hk : k < p.code.length) (h : okP p 20 = true) (n : Int) (hn : n = 1073741824 ∨ n = -1) : insB p.regs p.code.length 20 (wC p.code[k] n) = false := by
  obtain ⟨-, hr, hl, -, hi⟩ := okP_in h
  have hb := hi _ (List.getElem_mem hk)
  have ho := (insB_range hb hr.2).2.2.2.2
  exact bad_field (i := p.code[k]) (i' := (wC p.code[k] n)) 2 rfl hb (by omega) (fun l hl' => fit_no hr.2 (by omega) hn ((letters _ ho).2.2.1 l hl'))
theorem bad_n {p : Prg} {k : Nat} (hk : k < p.code.length) (h : okP p 20 = true) (h1 : p.code[k].op ≠ 1) (n : Int) (hn : n = 1073741824 ∨ n = -1) : insB p.regs p.code.length 20 (wN p.code[k] n) = false := by
  obtain ⟨-, hr, hl, -, hi⟩ := okP_in h
  have hb := hi _ (List.getElem_mem hk)
  have ho := (insB_range hb hr.2).2.2.2.2
  exact bad_field (i := p.code[k]) (i' := (wN p.code[k] n)) 3 rfl hb (by omega) (fun l hl' => fit_no hr.2 (by omega) hn ((letters _ ho).2.2.2.1 h1 l hl'))
theorem bad_s {p : Prg} {k : Nat} (hk : k < p.code.length) (h : okP p 20 = true) : insB p.regs p.code.length 20 (wS p.code[k] zeros41) = false := by
  obtain ⟨-, hr, hl, -, hi⟩ := okP_in h
  have hb := hi _ (List.getElem_mem hk)
  have ho := (insB_range hb hr.2).2.2.2.2
  refine bad_field (i := p.code[k]) (i' := (wS p.code[k] zeros41)) 4 rfl hb (by omega) (fun l hl' => ?_)
  show fit p.regs p.code.length 20 l ((zeros41.size : Nat) : Int) = false
  have : zeros41.size = 41 := by decide +kernel
  rw [this]
  rcases (letters _ ho).2.2.2.2 l hl' with rfl | rfl <;> simp [fit]
end Go.Proofs.YtpiiehenmkinaaaDoor

/-
  The contract of Bytes. Own work.
-/
namespace Go.Proofs.YtpiiehenmkinaaaDoor
open Go.RowKit

theorem elem_ne {w : World} {a : Nat} {c d : Array Value} {e f : TypeId} (ha : w.heap[a]? = some (.cells c e (0, 0))) (hb : w.heap[a]? = some (.cells d f (0, 0))) (hne : e ≠ f) : False := by
  rw [ha] at hb
  cases hb
  exact hne rfl
theorem row_block {w : World} {base e k n : Nat} {v : Value} {xs : List Value} (h : w.ownsRow base e k v n xs) {a : Nat} (ha : v.ownBlock = some a) : ∃ cur, w.heap[a]? = some (.cells cur e (0, 0)) := by
  rcases h.2 with ⟨rfl, _⟩ | ⟨g, cap, cur, rfl, _, hg, _⟩
  · cases ha
  · cases ha; exact ⟨cur, hg⟩
theorem Own.beside {w w' : World} {base base' : Nat} {x v : Value} {l : List UInt8} {vs : List Value} (h : Own w base x l) (hv : OwnV w base' 25 v vs) (hg : w.grownBy w' v.ownBlock) : Own w' base x l := by
  refine World.ownsRow.kept h hg ?_
  cases hx : x.ownBlock with
  | none => exact .inl rfl
  | some k =>
    right
    intro e
    obtain ⟨c1, h1⟩ := row_block h hx
    obtain ⟨c2, h2⟩ := row_block hv e.symm
    exact elem_ne h1 h2 (by decide)
theorem Own.one {w : World} {base : Nat} {x : Value} {l : List UInt8} (h : Own w base x l) : x.oneCell' = true := by
  rcases h.2 with ⟨rfl, _⟩ | ⟨g, cap, cur, rfl, _⟩ <;> rfl
/-- rows of bytes of the call's own -/
def Rws (B : Nat) (w : World) (sv : Value) (ls : List (List UInt8)) : Prop :=
  ∃ ps : List (Value × List UInt8), ps.map Prod.snd = ls ∧ OwnV w B 25 sv (ps.map Prod.fst) ∧ ∀ x ∈ ps, Own w B x.1 x.2
theorem Rws.below {B : Nat} {w w' : World} {sv : Value} {ls : List (List UInt8)} (h : Rws B w sv ls) (hb : Below w.heap.size w w') : Rws B w' sv ls := by
  obtain ⟨ps, h1, h2, h3⟩ := h
  exact ⟨ps, h1, h2.below hb, fun x hx => (h3 x hx).below hb⟩
theorem Rws.shape {B : Nat} {w : World} {sv : Value} {ls : List (List UInt8)} (h : Rws B w sv ls) : ∃ ao cap, sv = .slice ao ls.length cap := by
  obtain ⟨ps, h1, h2, h3⟩ := h
  have e : ls.length = (ps.map Prod.fst).length := by rw [← h1]; simp
  rw [e]
  rcases h2.2 with ⟨hv, e2⟩ | ⟨g, cap, cur, hv, _⟩
  · exact ⟨none, 0, by rw [hv, e2]⟩
  · exact ⟨_, _, hv⟩
theorem Rws.append {B : Nat} {w : World} {sv : Value} {ls : List (List UInt8)} (h : Rws B w sv ls) (x : Value) (l : List UInt8) (hx : Own w B x l) (hl : ls.length ≤ 1000) (hB : B ≤ w.heap.size) (ty : TypeId) :
    ∃ v' w', (Builtin.append_ #[53, 53] ty #[sv, .slice (some ⟨w.heap.size, 0, none⟩) 1 1]).run Tryd.prog (w.alloc (.cells #[x] 25)) = .ok v' w' ∧ Rws B w' v' (ls ++ [l]) ∧ Below B w w' := by
  obtain ⟨ps, h1, h2, h3⟩ := h
  obtain ⟨i0, hi, hz0, hz1, hz2⟩ := info_parts Tryd.info25
  have hlen : (ps.map Prod.fst).length ≤ 1000 := by
    have : ls.length = (ps.map Prod.fst).length := by rw [← h1]; simp
    omega
  obtain ⟨v', w', hr, ho, hg⟩ := run_append_v (P := Tryd.prog) (w.alloc (.cells #[x] 25)) 53 ty 25 i0 (.slice none 0 0) 24 Tryd.underlying53 hi hz0 hz1 hz2 rfl (by decide) B sv x ⟨w.heap.size, 0, none⟩ 1 (ps.map Prod.fst) hx.one (by simp) (h2.alloc _) (by omega) (by simp; omega)
  refine ⟨v', w', hr, ⟨ps ++ [(x, l)], by simp [h1], by simpa using ho, fun y hy => ?_⟩, ?_⟩
  · rcases List.mem_append.1 hy with hy | hy
    · exact ((h3 y hy).alloc _).beside (h2.alloc _) hg
    · rw [List.mem_singleton.1 hy]
      exact (hx.alloc _).beside (h2.alloc _) hg
  · exact ((Below.refl B w).alloc hB _).grown hg (by simp; omega) (fun k hk => (World.ownsRow.lt h2 k hk).1)
theorem Rws.concat {B : Nat} {w : World} {sv : Value} {ls : List (List UInt8)} (h : Rws B w sv ls) (hl : 0 < ls.length) (ht : ls.flatten.length ≤ 140737488355328) :
    Calls Tryd.prog 27 #[sv] w fun e w' => ∃ v, e = .returned v ∧ Own w' w.heap.size v ls.flatten ∧ Below w.heap.size w w' := by
  obtain ⟨ps, h1, h2, h3⟩ := h
  have hp : ls.length = ps.length := by rw [← h1]; simp
  have hj : joined ps ps.length = ls.flatten := by rw [joined, List.take_length, h1]
  rcases h2.2 with ⟨hv, e⟩ | ⟨g, cap, cur, hv, hb, hg, hn, hm, hs, htk⟩
  · simp at e
    rw [e] at hp
    simp at hp
    rw [hp] at hl
    simp at hl
  · have hcells := fun i (hi : i < ps.length) => h2.cells (g := g) (by rw [hv]; rfl) i ps[i].1 (by simp [hi])
    rw [List.length_map] at hv hn
    rw [hv, ← hj]
    have hm' : cap ≤ 9223372036854775807 := hm
    exact concat_wide ps g cap w hn hm' (fun i hi => by have := hcells i hi; rw [addr_add, Nat.zero_add] at this; exact this) (fun i hi => (h3 _ (List.getElem_mem hi)).rd) (Array.getElem?_eq_some_iff.1 hg).1 (by rw [hj]; exact ht)
theorem insL_len (i : Ins) (hs : i.s.size ≤ 40) : (insL i).length ≤ 100 := by
  unfold insL blobL
  simp only [List.length_append, nm_len]
  have h1 := U_len (i.op : Int)
  have h2 := U_len i.a
  have h3 := U_len i.b
  have h4 := U_len i.c
  have h5 := U_len (foldI i.n)
  have h6 := U_len (i.s.size : Int)
  omega
theorem codeL_len (l : List Ins) (h : ∀ i ∈ l, i.s.size ≤ 40) : (codeL l).length ≤ l.length * 100 := by
  induction l with
  | nil => simp [codeL]
  | cons i l ih =>
    have e : codeL (i :: l) = insL i ++ codeL l := by simp [codeL]
    rw [e, List.length_append, List.length_cons]
    have h1 := insL_len i (h i (by simp))
    have h2 := ih (fun j hj => h j (by simp [hj]))
    omega
theorem bytesP_len (p : Prg) (h : okP p 20 = true) : (bytesP p).length ≤ 60000 := by
  obtain ⟨hn, hr, hl, -, hi⟩ := okP_in h
  have h1 := codeL_len p.code (fun i hm => (insB_range (hi i hm) hr.2).2.2.2.1)
  unfold bytesP headL blobL
  simp only [List.length_append, nm_len]
  have h2 := U_len (p.name.size : Int)
  have h3 := U_len p.regs
  have h4 := U_len (p.code.length : Int)
  omega
def bytesR (p : Prg) : List UInt8 := if okP p 20 = true then bytesP p else []

set_option maxRecDepth 100000 in
set_option maxHeartbeats 1600000 in
theorem bytes_any (p : Prg) (cv : Value) (w : World) (hk : Kinds w) (hc : RdC w cv p.code) (hw : ∀ i ∈ p.code, i.wf) :
    Calls Tryd.prog 10 #[prgV p cv] w fun e w' => ∃ v, e = .returned (.tuple #[v, .int .i64 (errP p 20)]) ∧ Own w' w.heap.size v (bytesR p) ∧ Below w.heap.size w w' := by
  obtain ⟨name, regs, code⟩ := p
  obtain ⟨ao, cap, rfl, -⟩ := hc.shape
  simp only at hc hw
  show Calls Tryd.prog 10 #[.agg #[.string name, .int .i64 regs, .slice ao code.length cap]] w _
  have HC := hide hc
  have HK := hide hk
  have HWF := hide hw
  obtain ⟨n, HN⟩ := named code.length
  rw [← HN.out] at HC ⊢
  obtain ⟨W, HW⟩ := named (w.alloc (.cells #[.string name, .int .i64 regs, .slice ao n cap] 24))
  have hbW : Below w.heap.size w W := by rw [HW.out]; exact (Below.refl _ _).alloc (Nat.le_refl _) _
  obtain ⟨pb, HPB⟩ := named w.heap.size
  have HP := hide (show C3 W pb (.string name) (.int .i64 regs) (.slice ao n cap) by rw [HW.out, HPB.out]; exact C3.new _ _ _ _ _)
  have HBW := hide hbW
  obtain ⟨R, HR⟩ := named (bytesR ⟨name, regs, code⟩)
  rw [← HR.out]
  obtain ⟨E, HE⟩ := named (errP ⟨name, regs, code⟩ 20)
  rw [← HE.out]
  clear hbW hc hk hw
  go_enter Tryd.func10, Tryd.ntmps10
  go_wp2_with fail
  rw [← HW.out, ← HPB.out]
  refine (check_any ⟨name, regs, code⟩ (.slice ao n cap) 20 W (HK.out.below HBW.out) (HC.out.below HBW.out) HWF.out).mono ?_
  rintro e w1 ⟨rfl, hb1⟩
  have HB1 := hide (below_call HBW.out hb1)
  have HP1 := hide (HP.out.below hb1)
  clear hb1
  cases hok : okP ⟨name, regs, code⟩ 20 with
  | false =>
    rw [show errP ⟨name, regs, code⟩ 20 = 100 by unfold errP; rw [hok]; rfl]
    have hbr : R = [] := by rw [HR.out]; unfold bytesR; rw [hok]; rfl
    subst hbr
    go_wp2
    refine bodyPost_ret (v := .tuple #[.slice none 0 0, .int .i64 100]) (by simp [results, Tryd.results10, go_sem]) rfl ?_
    exact ⟨_, by rw [HE.out, errP, hok]; rfl, Own.nil _ _, HB1.out⟩
  | true =>
    rw [show errP ⟨name, regs, code⟩ 20 = 0 by unfold errP; rw [hok]; rfl]
    have HBR := hide (show R = bytesP ⟨name, regs, code⟩ by rw [HR.out]; unfold bytesR; rw [hok]; rfl)
    have HLEN := hide (bytesP_len _ hok)
    have hin := okP_in hok
    have HIN := hide hin
    have HOK := hide hok
    have hn5 : n ≤ 500 := by rw [HN.out]; exact hin.2.2.1
    obtain ⟨i0, hi, hz0, hz1, hz2⟩ := info_parts Tryd.info25
    obtain ⟨w2, hmk, hom, hgm⟩ := run_make_own (P := Tryd.prog) w1 w1.heap.size 53 25 i0 (.slice none 0 0) 1 Tryd.underlying53 hi hz0 hz1 .i64 .i64 (n + 1) (by rw [hz2]; omega) (by unfold maxLen; omega) (Nat.le_refl _)
    have hmk' : (Instr.makeSlice 53 (.int .i64 0) (.int .i64 (1 + (n : Int)))).run Tryd.prog w1 = .ok (.slice (some ⟨w1.heap.size, 0, none⟩) 0 (n + 1)) w2 := by
      rw [show (1 + (n : Int)) = ((n + 1 : Nat) : Int) by omega]
      exact hmk
    have hb2 : Below w1.heap.size w1 w2 := (Below.refl _ _).grown hgm (Nat.le_refl _) (fun k hk => by cases hk)
    have HQ2 := hide hb2
    have HR2 := hide (show Rws w1.heap.size w2 (.slice (some ⟨w1.heap.size, 0, none⟩) 0 (n + 1)) [] from ⟨[], rfl, hom, fun x hx => by cases hx⟩)
    obtain ⟨-, x0, x1, x2, -⟩ := id HP1.out
    obtain ⟨-, y0, y1, y2, -⟩ := id (HP1.out.below HQ2.out)
    clear hmk hom hgm hb2 hin
    go_wp2_with fail
    refine (headBytes_any ⟨name, regs, code⟩ (.slice ao n cap) w2 (HC.out.below (below_call HB1.out HQ2.out)) HIN.out.1.2 ⟨Int.le_trans (by decide) HIN.out.2.1.1, HIN.out.2.1.2⟩ HIN.out.2.2.1).mono ?_
    rintro e w3 ⟨v3, rfl, ho3, hb3⟩
    have HQ3 := hide (below_call HQ2.out hb3)
    obtain ⟨ao3, cp3, hv3, -⟩ := id ho3.rd
    obtain ⟨hL, HHL⟩ := named (headL ⟨name, regs, code⟩)
    rw [← HHL.out] at ho3 hv3
    subst hv3
    obtain ⟨v4, w4, hr4, hrw4, hb4⟩ := (HR2.out.below hb3).append _ hL (ho3.mono HQ2.out.size) (by simp) HQ3.out.size 53
    have HRW4 := hide hrw4
    have HQ4 := hide (HQ3.out.trans hb4)
    obtain ⟨a4, cp4, hv4⟩ := hrw4.shape
    clear x0 x1 x2 y0 y1 y2 hmk' hb3 ho3 hrw4 hb4
    obtain ⟨-, x0, x1, x2, -⟩ := id (HP1.out.below HQ4.out)
    subst hv4
    go_wp2_with (at_builtin; go_must (refine Lib.wpList_append_run _ rfl _ _ _ _ rfl _ _ rfl rfl _ _ hr4 ?_))
    clear hr4
    go_loopw [4, 23] (fun sv iv wr => ∃ k : Nat, k ≤ n ∧ iv = .int .i64 k ∧ Hid (Rws w1.heap.size wr sv (hL :: (code.take k).map insL)) ∧ Hid (Below w1.heap.size w1 wr)) (fun _ iv _ => n - (intOf iv).toNat)
    case atStart => exact ⟨0, by omega, rfl, HRW4.out, HQ4.out⟩
    case round =>
      obtain ⟨k, hkn, rfl, HRW, HQR⟩ := hrel
      obtain ⟨a5, cp5, hv5⟩ := HRW.out.shape
      have hcnt : (hL :: (code.take k).map insL).length = k + 1 := by
        rw [List.length_cons, List.length_map, List.length_take, ← HN.out]
        omega
      rw [hcnt] at hv5
      subst hv5
      by_cases hlt : k < n
      · have hk5 : k < code.length := by rw [← HN.out]; exact hlt
        obtain ⟨b0, off0, hbe, hblt, c0, c1, c2, c3, c4, c5⟩ := (HC.out.below (below_call HB1.out HQR.out)).at k hk5
        subst hbe
        have hwi := HWF.out _ (List.getElem_mem hk5)
        have hrg := insB_range (HIN.out.2.2.2.2 _ (List.getElem_mem hk5)) HIN.out.2.1.2
        have htk : (code.take (k + 1)).map insL = (code.take k).map insL ++ [insL (code[k]'hk5)] := by
          rw [List.take_succ_eq_append_getElem hk5, List.map_append]
          rfl
        obtain ⟨i, HI⟩ := named (code[k]'hk5)
        rw [← HI.out] at c0 c1 c2 c3 c4 c5 hwi hrg htk
        have HTK := hide htk
        have HRG := hide hrg
        have HWI := hide hwi
        clear htk hrg hwi
        obtain ⟨X, HX⟩ := named (wr.alloc (.cells #[.int .u8 (i.op : Int), .int .i64 i.a, .int .i64 i.b, .int .i64 i.c, .int .i64 i.n, .string i.s] 28))
        have HBX := hide (show Below wr.heap.size wr X by rw [HX.out]; exact (Below.refl _ _).alloc (Nat.le_refl _) _)
        go_wp2_with fail
        rw [← HX.out]
        refine (instrBytes_any i X HWI.out.op HRG.out.1 HRG.out.2.1 HRG.out.2.2.1 HWI.out.n HRG.out.2.2.2.1).mono ?_
        rintro e w6 ⟨v6, rfl, ho6, hb6⟩
        have hbr6 := below_call HBX.out hb6
        obtain ⟨ao6, cp6, hv6, -⟩ := id ho6.rd
        obtain ⟨iL, HIL⟩ := named (insL i)
        rw [← HIL.out] at ho6 hv6
        subst hv6
        have HQ6 := hide (below_call HQR.out hbr6)
        have hB0 : w1.heap.size ≤ X.heap.size := (below_call HQR.out HBX.out).size
        obtain ⟨v7, w7, hr7, hrw7, hb7⟩ := (HRW.out.below hbr6).append _ iL (ho6.mono hB0) (by rw [hcnt]; omega) HQ6.out.size 53
        have HRW7 := hide hrw7
        have HQ7 := hide (HQ6.out.trans hb7)
        clear hbr6 hb6 ho6 hrw7 hb7 hcnt
        go_wp2_with (at_builtin; go_must (refine Lib.wpList_append_run _ rfl _ _ _ _ rfl _ _ rfl rfl _ _ hr7 ?_))
        go_roundw
        case rel =>
          refine ⟨k + 1, by omega, by go_num, ?_, HQ7.out⟩
          show Rws _ _ _ _
          rw [HTK.out, ← HIL.out]
          exact HRW7.out
        case measure => simp [intOf]; omega
      · have hkn2 : n = k := by omega
        subst hkn2
        have hfull : code.take n = code := List.take_of_length_le (by rw [HN.out]; exact Nat.le_refl _)
        rw [hfull] at HRW
        have hfl : (hL :: code.map insL).flatten = R := by
          rw [HBR.out]
          rw [HHL.out]; simp [bytesP, codeL]
        have hcc := HRW.out.concat (by simp) (by rw [hfl, HBR.out]; have := HLEN.out; omega)
        rw [hfl] at hcc
        go_wp2_with fail
        refine hcc.mono ?_
        rintro e w8 ⟨v8, rfl, ho8, hb8⟩
        have hbf := below_call (below_call HB1.out HQR.out) hb8
        have hof := ho8.mono (below_call HB1.out HQR.out).size
        go_wp2
        refine bodyPost_ret (v := .tuple #[v8, .int .i64 0]) (by simp [results, Tryd.results10, go_sem]) rfl ?_
        exact ⟨_, by rw [HE.out, errP, HOK.out]; rfl, hof, hbf⟩
end Go.Proofs.YtpiiehenmkinaaaDoor
