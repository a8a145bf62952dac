/-
  The law HeapNone. Own work.
-/
import Derived.Test.YtemlanalaihkoaaMt
namespace Go.Proofs.Ytemlanalaihkoaa
open Go.RowKit Go.Sort

set_option maxRecDepth 100000 in
set_option maxHeartbeats 6400000 in
theorem none_walk (w : World) (a b : Int) : Calls Try.prog 5 #[.agg #[.int .i64 a, .int .i64 b]] w fun e w' => e = .returned (.bool true) ∧ Below w.heap.size w w' := by
  obtain ⟨W1, HW1⟩ := named (w.alloc (.cells #[.int .i64 a, .int .i64 b] 30))
  obtain ⟨W2, HW2⟩ := named (W1.alloc (.cells #[.pointer none] 62))
  obtain ⟨W3, HW3⟩ := named (W2.alloc (.cells #[.pointer none, .pointer (some ⟨W1.heap.size, 0, none⟩)] 23))
  obtain ⟨gt, HGT⟩ := named w.heap.size
  obtain ⟨gh, HGH⟩ := named W1.heap.size
  obtain ⟨gs, HGS⟩ := named W2.heap.size
  have b1 : Below w.heap.size w W1 := by rw [HW1.out]; exact (Below.refl _ _).alloc (Nat.le_refl _) _
  have b2 : Below W1.heap.size W1 W2 := by rw [HW2.out]; exact (Below.refl _ _).alloc (Nat.le_refl _) _
  have b3 : Below W2.heap.size W2 W3 := by rw [HW3.out]; exact (Below.refl _ _).alloc (Nat.le_refl _) _
  have z1 : W1.heap.size = w.heap.size + 1 := by rw [HW1.out]; simp
  have z2 : W2.heap.size = w.heap.size + 1 + 1 := by rw [HW2.out]; simp [z1]
  have c1 : W1.heap[gt]? = some (.cells #[.int .i64 a, .int .i64 b] 30 (0, 0)) := by rw [HW1.out, HGT.out]; exact heap_new _ _
  have c2 : W2.heap[gh]? = some (.cells #[.pointer none] 62 (0, 0)) := by rw [HW2.out, HGH.out]; exact heap_new _ _
  have c3 : W3.heap[gs]? = some (.cells #[.pointer none, .pointer (some ⟨W1.heap.size, 0, none⟩)] 23 (0, 0)) := by rw [HW3.out, HGS.out]; exact heap_new _ _
  rw [← HGH.out] at c3
  have HB3 := hide (below_call (below_call b1 b2) b3)
  have C1 := hide ((b3.block _ (Nat.lt_of_lt_of_le (lt_of c1) b2.size)).trans ((b2.block _ (lt_of c1)).trans c1))
  have C2' := hide ((b3.block _ (lt_of c2)).trans c2)
  have C3 := hide c3
  have KA := hide (fun u => awake_true u)
  rw [z1] at HW3 HGH
  rw [z2] at HGS
  clear b1 b2 b3 c1 c2 c3 z1 z2
  go_enter Try.func5, Try.ntmps5
  go_wp2_with fail
  rw [← HW1.out, ← HW2.out, ← HW3.out]
  (try rw [← HGS.out])
  (try rw [← HGH.out])
  (try rw [← HGT.out])
  go_loopw [19] (fun i wr => ∃ k : Nat, k ≤ 2 ∧ i = .int .i64 k ∧ Hid (Below W3.heap.size W3 wr)) (fun i _ => 2 - (intOf i).toNat)
  case atStart => exact ⟨0, by omega, rfl, Below.refl _ _⟩
  case round =>
    obtain ⟨k, hk, rfl, HB⟩ := hrel
    have cs := (HB.out.block _ (lt_of C3.out)).trans C3.out
    have ct := (HB.out.block _ (lt_of C1.out)).trans C1.out
    have ch := (HB.out.block _ (lt_of C2'.out)).trans C2'.out
    by_cases hlt : k < 2
    · obtain ⟨v, hv, hn⟩ : ∃ v, wr.cell? ⟨gs, k, none⟩ = some v ∧ NoneH wr v := by
        rcases (show k = 0 ∨ k = 1 by omega) with rfl | rfl
        · exact ⟨.pointer none, by rw [cell_of cs]; rfl, .inl rfl⟩
        · exact ⟨.pointer (some ⟨gh, 0, none⟩), by rw [cell_of cs]; rfl, .inr ⟨gh, rfl, by rw [cell_of ch]; rfl⟩⟩
      have HN := hide hn
      obtain ⟨p, rfl⟩ := hn.shape
      have t0 : wr.cell? ⟨gt, 0, none⟩ = some (.int .i64 a) := by rw [cell_of ct]; rfl
      have t1 : wr.cell? ⟨gt, 1, none⟩ = some (.int .i64 b) := by rw [cell_of ct]; rfl
      have CT := hide ct
      have kd := drop_none hn b
      have hkI : (k : Int) < 2 := by omega
      clear cs ch ct hn
      go_wp2_with fail
      (with_reducible refine Calls.mono kd ?_)
      clear kd
      rintro e w1 ⟨rfl, hb1⟩
      have u1 : (w1.alloc (.cells #[.int .i64 0, .int .i64 0] 30)).cell? ⟨gt, 1, none⟩ = some (.int .i64 b) := by
        rw [(below_call hb1 ((Below.refl _ _).alloc (Nat.le_refl _) _)).cell (p := ⟨gt, 1, none⟩) (lt_of CT.out)]; exact t1
      go_wp2_with fail
      clear u1
      obtain ⟨A1, HA1⟩ := named (w1.alloc (.cells #[.int .i64 0, .int .i64 0] 30))
      have ba : Below w1.heap.size w1 A1 := by rw [HA1.out]; exact (Below.refl _ _).alloc (Nat.le_refl _) _
      have X1 := hide (show A1.heap[w1.heap.size]? = some (.cells #[.int .i64 0, .int .i64 0] 30 (0, 0)) by rw [HA1.out]; exact heap_new _ _)
      obtain ⟨g1, HG1⟩ := named w1.heap.size
      rw [← HG1.out] at X1
      have BA1 := hide (below_call hb1 ba)
      have kg := get_none (HN.out.below BA1.out) b
      clear hb1 ba
      rw [← HA1.out, ← HG1.out]
      (with_reducible refine Calls.mono kg ?_)
      clear kg
      rintro e w2 ⟨rfl, hb2⟩
      go_wp2_with fail
      obtain ⟨A2, HA2⟩ := named (w2.alloc (.cells #[.int .i64 0, .int .i64 0] 30))
      have ba : Below w2.heap.size w2 A2 := by rw [HA2.out]; exact (Below.refl _ _).alloc (Nat.le_refl _) _
      have X2 := hide (show A2.heap[w2.heap.size]? = some (.cells #[.int .i64 0, .int .i64 0] 30 (0, 0)) by rw [HA2.out]; exact heap_new _ _)
      obtain ⟨g2, HG2⟩ := named w2.heap.size
      rw [← HG2.out] at X2
      have BB := below_call hb2 ba
      have BA2 := hide (below_call BA1.out BB)
      have Y1 := hide ((BB.block _ (lt_of X1.out)).trans X1.out)
      have kn := next_none (HN.out.below BA2.out)
      clear hb2 ba BB X1
      rw [← HA2.out, ← HG2.out]
      (with_reducible refine Calls.mono kn ?_)
      clear kn
      rintro e w3 ⟨rfl, hb3⟩
      go_wp2_with fail
      obtain ⟨A3, HA3⟩ := named (w3.alloc (.cells #[.int .i64 0, .int .i64 0] 30))
      have ba : Below w3.heap.size w3 A3 := by rw [HA3.out]; exact (Below.refl _ _).alloc (Nat.le_refl _) _
      have X3 := hide (show A3.heap[w3.heap.size]? = some (.cells #[.int .i64 0, .int .i64 0] 30 (0, 0)) by rw [HA3.out]; exact heap_new _ _)
      obtain ⟨g3, HG3⟩ := named w3.heap.size
      rw [← HG3.out] at X3
      have BB := below_call hb3 ba
      have BA3 := hide (below_call BA2.out BB)
      have Z1 := hide ((BB.block _ (lt_of Y1.out)).trans Y1.out)
      have Z2 := hide ((BB.block _ (lt_of X2.out)).trans X2.out)
      have kp := pop_none (HN.out.below BA3.out)
      clear hb3 ba BB X2 Y1
      rw [← HA3.out, ← HG3.out]
      (with_reducible refine Calls.mono kp ?_)
      clear kp
      rintro e w4 ⟨rfl, hb4⟩
      have v0 : (w4.alloc (.cells #[.int .i64 0, .int .i64 0] 30)).cell? ⟨gt, 0, none⟩ = some (.int .i64 a) := by
        rw [(below_call BA3.out (below_call hb4 ((Below.refl _ _).alloc (Nat.le_refl _) _))).cell (p := ⟨gt, 0, none⟩) (lt_of CT.out)]; exact t0
      have v1 : (w4.alloc (.cells #[.int .i64 0, .int .i64 0] 30)).cell? ⟨gt, 1, none⟩ = some (.int .i64 b) := by
        rw [(below_call BA3.out (below_call hb4 ((Below.refl _ _).alloc (Nat.le_refl _) _))).cell (p := ⟨gt, 1, none⟩) (lt_of CT.out)]; exact t1
      go_wp2_with fail
      clear v0 v1
      obtain ⟨A4, HA4⟩ := named (w4.alloc (.cells #[.int .i64 0, .int .i64 0] 30))
      have ba : Below w4.heap.size w4 A4 := by rw [HA4.out]; exact (Below.refl _ _).alloc (Nat.le_refl _) _
      have X4 := hide (show A4.heap[w4.heap.size]? = some (.cells #[.int .i64 0, .int .i64 0] 30 (0, 0)) by rw [HA4.out]; exact heap_new _ _)
      obtain ⟨g4, HG4⟩ := named w4.heap.size
      rw [← HG4.out] at X4
      have BB := below_call hb4 ba
      have BA4 := hide (below_call BA3.out BB)
      have U1 := hide ((BB.block _ (lt_of Z1.out)).trans Z1.out)
      have U2 := hide ((BB.block _ (lt_of Z2.out)).trans Z2.out)
      have U3 := hide ((BB.block _ (lt_of X3.out)).trans X3.out)
      have ct4 := (BA4.out.block _ (lt_of CT.out)).trans CT.out
      have CT4 := hide ct4
      have kq := put_none (HN.out.below BA4.out) a b
      clear hb4 ba BB Z1 Z2 X3 ct4
      rw [← HA4.out, ← HG4.out]
      (with_reducible refine Calls.mono kq ?_)
      clear kq
      rintro e w5 ⟨rfl, hb5⟩
      have BA5 := hide (below_call BA4.out hb5)
      obtain ⟨-, p0, p1, -, -⟩ := C2.of ((hb5.block _ (lt_of U1.out)).trans U1.out)
      obtain ⟨-, q0, q1, -, -⟩ := C2.of ((hb5.block _ (lt_of U2.out)).trans U2.out)
      obtain ⟨-, r0, r1, -, -⟩ := C2.of ((hb5.block _ (lt_of U3.out)).trans U3.out)
      obtain ⟨-, s0, s1, -, -⟩ := C2.of ((hb5.block _ (lt_of X4.out)).trans X4.out)
      obtain ⟨-, m0, m1, -, -⟩ := C2.of ((hb5.block _ (lt_of CT4.out)).trans CT4.out)
      have hn5 := HN.out.below BA5.out
      have kdue := due_none hn5 a
      have kall := all_none hn5
      have klen := len_none hn5
      have HBE := hide (HB.out.trans (BA5.out.mono HB.out.size))
      clear hb5 hn5 U1 U2 U3 X4
      go_wp2_with fail
      (with_reducible refine Calls.mono kdue ?_)
      clear kdue
      rintro e w6 ⟨rfl, rfl⟩
      go_wp2_with fail
      (with_reducible refine Calls.mono kall ?_)
      clear kall
      rintro e w6 ⟨rfl, rfl⟩
      go_wp2_with fail
      (with_reducible refine Calls.mono klen ?_)
      clear klen
      rintro e w6 ⟨rfl, rfl⟩
      go_wp2_with fail
      go_roundw
      case rel => exact ⟨k + 1, by omega, by go_num, HBE⟩
      case measure => simp [intOf]; omega
    · have hk2 : k = 2 := by omega
      subst hk2
      have HEND := hide (below_call HB3.out HB.out)
      have ka := KA.out wr
      clear cs ct ch
      go_wp2_with fail
      (with_reducible refine Calls.mono ka ?_)
      clear ka
      rintro e w6 ⟨rfl, hb6⟩
      have HE := hide (below_call HEND.out hb6)
      clear hb6
      go_wp2_with fail
      go_ret
      exact ⟨rfl, HE.out⟩
end Go.Proofs.Ytemlanalaihkoaa
