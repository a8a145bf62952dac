/-
  The law DiskSwap's walk, at each fuse. Own work.
-/
import Derived.Test.YtloigepmmhcibaaLc
import Derived.Test.YtloigepmmhcibaaMa
namespace Go.Proofs.Ytloigepmmhcibaa
open Go.RowKit

/-- a deed's answer, and what the disk has then, by a name -/
theorem came {f : Nat} {args : Array Value} {B : Nat} {w0 w : World} {d : Value} {r : AD × Nat} {D : AD} {k : Nat} (h : Calls Try.prog f args w fun e w' => e = .returned (.int .i64 (r.2 : Nat)) ∧ Up B w0 w' d r.1) (hr : r = (D, k)) : Calls Try.prog f args w fun e w' => e = .returned (.int .i64 (k : Nat)) ∧ Up B w0 w' d D := by
  subst hr
  exact h
theorem Up.read {B : Nat} {w0 w : World} {d : Value} {D : AD} (h : Up B w0 w d D) (n : ByteArray) {l : List UInt8} {k : Nat} (hr : readD D n = (l, k)) :
    Calls Try.prog 33 #[d, .string n] w fun e w' => ∃ v, e = .returned (.tuple #[v, .int .i64 k]) ∧ Rd w' v l ∧ Up B w0 w' d D := by
  refine (read_any h.dk n).mono ?_
  rintro e w' ⟨v, rfl, ho, hb⟩
  rw [hr] at ho ⊢
  exact ⟨v, rfl, Own.rd ho, h.below hb⟩

set_option maxRecDepth 100000 in
set_option maxHeartbeats 4000000 in
theorem swap0 (w : World) (v0 v1 v3 v4 : Value) (E N : List UInt8) (n : Nat) (ks ts : List Int) (r0 : Rd w v0 E) (r1 : Rd w v1 N) (r3 : RdI w v3 ks) (r4 : RdI w v4 ts)
    (b0 : ∀ a, v0.ownBlock = some a → a < w.heap.size) (b1 : ∀ a, v1.ownBlock = some a → a < w.heap.size) (b3 : ∀ a, v3.ownBlock = some a → a < w.heap.size) (b4 : ∀ a, v4.ownBlock = some a → a < w.heap.size)
    (hk : ∀ x ∈ ks, x ≤ 9223372036854775807) (ht : ∀ x ∈ ts, x ≤ 9223372036854775807)
    (hE : E.length ≤ 200) (hN : N.length ≤ 200) (hks : ks.length ≤ 9) (hts : ts.length ≤ 9) (h0 : n % 6 = 0) :
    Calls Try.prog 10 #[v0, v1, .int .u8 n, v3, v4] w fun e w' => e = .returned (.bool true) ∧ Below w.heap.size w w' := by
  have hT := run_toStr
  obtain ⟨o0, c0, hv0, -⟩ := id r0
  obtain ⟨o1, c1, hv1, -⟩ := id r1
  obtain ⟨o3, c3, hv3, -⟩ := id r3
  obtain ⟨o4, c4, hv4, -⟩ := id r4
  have hE' : ¬ ((200 : Int) < E.length) := by omega
  have hN' : ¬ ((200 : Int) < N.length) := by omega
  have hks' : ¬ ((9 : Int) < ks.length) := by omega
  have hts' : ¬ ((9 : Int) < ts.length) := by omega
  have hm : (n : Int) % 6 = (0 : Nat) := by omega
  have hm2 : (n : Int).tmod 6 = (0 : Nat) := by rw [Int.tmod_eq_emod_of_nonneg (by omega)]; omega
  have HE : Hid (E.length ≤ 200) := hE
  have HN : Hid (N.length ≤ 200) := hN
  have R0 : Hid (Rd w v0 E) := r0
  have R1 : Hid (Rd w v1 N) := r1
  have R3 : Hid (RdI w v3 ks) := r3
  have R4 : Hid (RdI w v4 ts) := r4
  have B0 : Hid (∀ a, v0.ownBlock = some a → a < w.heap.size) := b0
  have B1 : Hid (∀ a, v1.ownBlock = some a → a < w.heap.size) := b1
  have B3 : Hid (∀ a, v3.ownBlock = some a → a < w.heap.size) := b3
  have B4 : Hid (∀ a, v4.ownBlock = some a → a < w.heap.size) := b4
  have HK : Hid _ := hk
  have HT : Hid _ := ht
  subst hv0 hv1 hv3 hv4
  clear hE hN hks hts h0 r0 r1 r3 r4 b0 b1 b3 b4 hk ht
  go_enter Try.func10, Try.ntmps10
  go_wp2_with fail
  refine (new_up w 4096 (by omega)).mono ?_
  rintro e w0 ⟨d, rfl, -, hu0⟩
  go_wp2_with fail
  refine (came (hu0.append (Below.refl _ _) nRoot (by decide) _ E (R0.out.below hu0.bel) (fun a ha => .inl (B0.out a ha))) (sw1 E HE.out)).mono ?_
  rintro e w1 ⟨rfl, hu1⟩
  clear hu0
  go_wp2_with fail
  refine (came (hu1.sync nRoot) (sw2 E)).mono ?_
  rintro e w2 ⟨rfl, hu2⟩
  clear hu1
  go_wp2_with fail
  refine (hu2.arm _ (by omega)).mono ?_
  rintro e w3 ⟨rfl, hx⟩
  have hu3 : Up w.heap.size w w3 d ⟨[⟨nRoot, E, E.length⟩], 4096, (0 : Nat), false⟩ := by rw [← sw3 E (0)]; exact hx
  clear hx hu2
  go_wp2_with fail
  refine (came (hu3.append (Below.refl _ _) nNext (by decide) _ N (R1.out.below hu3.bel) (fun a ha => .inl (B1.out a ha))) (sw40 E N HE.out HN.out)).mono ?_
  rintro e w4 ⟨rfl, hu4⟩
  clear hu3
  go_wp2_with fail
  refine (came (hu4.sync nNext) (sw5d E)).mono ?_
  rintro e w5 ⟨rfl, hu5⟩
  clear hu4
  go_wp2_with fail
  refine (came (hu5.rename nNext nRoot (by decide)) (sw6d _)).mono ?_
  rintro e w6 ⟨rfl, hu6⟩
  clear hu5
  go_wp2_with fail
  refine (hu6.crash (Below.refl _ _) _ _ ks ts (R3.out.below hu6.bel) (R4.out.below hu6.bel) (fun a ha => .inl (B3.out a ha)) (fun a ha => .inl (B4.out a ha)) HK.out HT.out).mono ?_
  rintro e w7 ⟨rfl, hu7⟩
  rw [sw7 E] at hu7
  clear hu6
  go_wp2_with fail
  refine (hu7.read nRoot (sw8 E _ _).1).mono ?_
  rintro e w8 ⟨x, rfl, hox, hu8⟩
  clear hu7
  have HX : Hid (Rd w8 x E) := hox
  have hs0 := run_str w8 x E hox
  have hs1 := run_str w8 _ _ (R0.out.below hu8.bel)
  clear hox
  go_wp2_with fail
  refine (hu8.read nNext (sw8 E _ _).2).mono ?_
  rintro e w9 ⟨y, rfl, hoy, hu9⟩
  clear hu8 hs0 hs1
  go_wp2_with fail
  refine (list_any hu9.dk).mono ?_
  rintro e w10 ⟨vl, rfl, hos, hbl⟩
  have hu10 := hu9.below hbl
  clear hbl hu9
  rcases hos.2 with h2 | ⟨g, cap, cur, rfl, -⟩
  · cases h2.2
  clear hos
  go_wp2_with fail
  refine (awake_true w10).mono ?_
  rintro e wz ⟨rfl, hbz⟩
  go_wp2_with fail
  go_ret
  exact ⟨rfl, hu10.bel.trans (hbz.mono hu10.le)⟩

set_option maxRecDepth 100000 in
set_option maxHeartbeats 4000000 in
theorem swap1 (w : World) (v0 v1 v3 v4 : Value) (E N : List UInt8) (n : Nat) (ks ts : List Int) (r0 : Rd w v0 E) (r1 : Rd w v1 N) (r3 : RdI w v3 ks) (r4 : RdI w v4 ts)
    (b0 : ∀ a, v0.ownBlock = some a → a < w.heap.size) (b1 : ∀ a, v1.ownBlock = some a → a < w.heap.size) (b3 : ∀ a, v3.ownBlock = some a → a < w.heap.size) (b4 : ∀ a, v4.ownBlock = some a → a < w.heap.size)
    (hk : ∀ x ∈ ks, x ≤ 9223372036854775807) (ht : ∀ x ∈ ts, x ≤ 9223372036854775807)
    (hE : E.length ≤ 200) (hN : N.length ≤ 200) (hks : ks.length ≤ 9) (hts : ts.length ≤ 9) (h0 : n % 6 = 1) :
    Calls Try.prog 10 #[v0, v1, .int .u8 n, v3, v4] w fun e w' => e = .returned (.bool true) ∧ Below w.heap.size w w' := by
  have hT := run_toStr
  obtain ⟨o0, c0, hv0, -⟩ := id r0
  obtain ⟨o1, c1, hv1, -⟩ := id r1
  obtain ⟨o3, c3, hv3, -⟩ := id r3
  obtain ⟨o4, c4, hv4, -⟩ := id r4
  have hE' : ¬ ((200 : Int) < E.length) := by omega
  have hN' : ¬ ((200 : Int) < N.length) := by omega
  have hks' : ¬ ((9 : Int) < ks.length) := by omega
  have hts' : ¬ ((9 : Int) < ts.length) := by omega
  have hm : (n : Int) % 6 = (1 : Nat) := by omega
  have hm2 : (n : Int).tmod 6 = (1 : Nat) := by rw [Int.tmod_eq_emod_of_nonneg (by omega)]; omega
  have HE : Hid (E.length ≤ 200) := hE
  have HN : Hid (N.length ≤ 200) := hN
  have R0 : Hid (Rd w v0 E) := r0
  have R1 : Hid (Rd w v1 N) := r1
  have R3 : Hid (RdI w v3 ks) := r3
  have R4 : Hid (RdI w v4 ts) := r4
  have B0 : Hid (∀ a, v0.ownBlock = some a → a < w.heap.size) := b0
  have B1 : Hid (∀ a, v1.ownBlock = some a → a < w.heap.size) := b1
  have B3 : Hid (∀ a, v3.ownBlock = some a → a < w.heap.size) := b3
  have B4 : Hid (∀ a, v4.ownBlock = some a → a < w.heap.size) := b4
  have HK : Hid _ := hk
  have HT : Hid _ := ht
  subst hv0 hv1 hv3 hv4
  clear hE hN hks hts h0 r0 r1 r3 r4 b0 b1 b3 b4 hk ht
  go_enter Try.func10, Try.ntmps10
  go_wp2_with fail
  refine (new_up w 4096 (by omega)).mono ?_
  rintro e w0 ⟨d, rfl, -, hu0⟩
  go_wp2_with fail
  refine (came (hu0.append (Below.refl _ _) nRoot (by decide) _ E (R0.out.below hu0.bel) (fun a ha => .inl (B0.out a ha))) (sw1 E HE.out)).mono ?_
  rintro e w1 ⟨rfl, hu1⟩
  clear hu0
  go_wp2_with fail
  refine (came (hu1.sync nRoot) (sw2 E)).mono ?_
  rintro e w2 ⟨rfl, hu2⟩
  clear hu1
  go_wp2_with fail
  refine (hu2.arm _ (by omega)).mono ?_
  rintro e w3 ⟨rfl, hx⟩
  have hu3 : Up w.heap.size w w3 d ⟨[⟨nRoot, E, E.length⟩], 4096, (1 : Nat), false⟩ := by rw [← sw3 E (1)]; exact hx
  clear hx hu2
  go_wp2_with fail
  refine (came (hu3.append (Below.refl _ _) nNext (by decide) _ N (R1.out.below hu3.bel) (fun a ha => .inl (B1.out a ha))) (sw4 E N 0 HE.out HN.out)).mono ?_
  rintro e w4 ⟨rfl, hu4⟩
  clear hu3
  go_wp2_with fail
  refine (came (hu4.sync nNext) (sw50 E N)).mono ?_
  rintro e w5 ⟨rfl, hu5⟩
  clear hu4
  go_wp2_with fail
  refine (came (hu5.rename nNext nRoot (by decide)) (sw6d _)).mono ?_
  rintro e w6 ⟨rfl, hu6⟩
  clear hu5
  go_wp2_with fail
  refine (hu6.crash (Below.refl _ _) _ _ ks ts (R3.out.below hu6.bel) (R4.out.below hu6.bel) (fun a ha => .inl (B3.out a ha)) (fun a ha => .inl (B4.out a ha)) HK.out HT.out).mono ?_
  rintro e w7 ⟨rfl, hu7⟩
  obtain ⟨g, hg, hg2⟩ := sw7b E N 0 4096 (-1) true ks ts
  rw [hg] at hu7
  have HG : Hid (g.bytes.length ≤ N.length) := by rw [hg2]; exact crashF_le _ _ _ (Nat.zero_le _)
  clear hg hg2
  clear hu6
  go_wp2_with fail
  refine (hu7.read nRoot (sw8b _ E _ _ _).1).mono ?_
  rintro e w8 ⟨x, rfl, hox, hu8⟩
  clear hu7
  have HX : Hid (Rd w8 x E) := hox
  have hs0 := run_str w8 x E hox
  have hs1 := run_str w8 _ _ (R0.out.below hu8.bel)
  clear hox
  go_wp2_with fail
  refine (hu8.read nNext (sw8b _ E _ _ _).2).mono ?_
  rintro e w9 ⟨y, rfl, hoy, hu9⟩
  clear hu8 hs0 hs1
  obtain ⟨oy, cy, hvy, -⟩ := id hoy
  have hlen : (g.bytes.length : Int) ≤ N.length := by have := HG.out; omega
  have HY : Hid (Rd w9 y g.bytes) := hoy
  have hs0 := run_str w9 _ _ hoy
  have hs1 := run_str w9 _ _ (R1.out.below hu9.bel)
  subst hvy
  clear hoy
  go_wp2_with fail
  refine (awake_true w9).mono ?_
  rintro e wz ⟨rfl, hbz⟩
  go_wp2_with fail
  go_ret
  exact ⟨rfl, hu9.bel.trans (hbz.mono hu9.le)⟩

set_option maxRecDepth 100000 in
set_option maxHeartbeats 4000000 in
theorem swap2 (w : World) (v0 v1 v3 v4 : Value) (E N : List UInt8) (n : Nat) (ks ts : List Int) (r0 : Rd w v0 E) (r1 : Rd w v1 N) (r3 : RdI w v3 ks) (r4 : RdI w v4 ts)
    (b0 : ∀ a, v0.ownBlock = some a → a < w.heap.size) (b1 : ∀ a, v1.ownBlock = some a → a < w.heap.size) (b3 : ∀ a, v3.ownBlock = some a → a < w.heap.size) (b4 : ∀ a, v4.ownBlock = some a → a < w.heap.size)
    (hk : ∀ x ∈ ks, x ≤ 9223372036854775807) (ht : ∀ x ∈ ts, x ≤ 9223372036854775807)
    (hE : E.length ≤ 200) (hN : N.length ≤ 200) (hks : ks.length ≤ 9) (hts : ts.length ≤ 9) (h0 : n % 6 = 2) :
    Calls Try.prog 10 #[v0, v1, .int .u8 n, v3, v4] w fun e w' => e = .returned (.bool true) ∧ Below w.heap.size w w' := by
  have hT := run_toStr
  obtain ⟨o0, c0, hv0, -⟩ := id r0
  obtain ⟨o1, c1, hv1, -⟩ := id r1
  obtain ⟨o3, c3, hv3, -⟩ := id r3
  obtain ⟨o4, c4, hv4, -⟩ := id r4
  have hE' : ¬ ((200 : Int) < E.length) := by omega
  have hN' : ¬ ((200 : Int) < N.length) := by omega
  have hks' : ¬ ((9 : Int) < ks.length) := by omega
  have hts' : ¬ ((9 : Int) < ts.length) := by omega
  have hm : (n : Int) % 6 = (2 : Nat) := by omega
  have hm2 : (n : Int).tmod 6 = (2 : Nat) := by rw [Int.tmod_eq_emod_of_nonneg (by omega)]; omega
  have HE : Hid (E.length ≤ 200) := hE
  have HN : Hid (N.length ≤ 200) := hN
  have R0 : Hid (Rd w v0 E) := r0
  have R1 : Hid (Rd w v1 N) := r1
  have R3 : Hid (RdI w v3 ks) := r3
  have R4 : Hid (RdI w v4 ts) := r4
  have B0 : Hid (∀ a, v0.ownBlock = some a → a < w.heap.size) := b0
  have B1 : Hid (∀ a, v1.ownBlock = some a → a < w.heap.size) := b1
  have B3 : Hid (∀ a, v3.ownBlock = some a → a < w.heap.size) := b3
  have B4 : Hid (∀ a, v4.ownBlock = some a → a < w.heap.size) := b4
  have HK : Hid _ := hk
  have HT : Hid _ := ht
  subst hv0 hv1 hv3 hv4
  clear hE hN hks hts h0 r0 r1 r3 r4 b0 b1 b3 b4 hk ht
  go_enter Try.func10, Try.ntmps10
  go_wp2_with fail
  refine (new_up w 4096 (by omega)).mono ?_
  rintro e w0 ⟨d, rfl, -, hu0⟩
  go_wp2_with fail
  refine (came (hu0.append (Below.refl _ _) nRoot (by decide) _ E (R0.out.below hu0.bel) (fun a ha => .inl (B0.out a ha))) (sw1 E HE.out)).mono ?_
  rintro e w1 ⟨rfl, hu1⟩
  clear hu0
  go_wp2_with fail
  refine (came (hu1.sync nRoot) (sw2 E)).mono ?_
  rintro e w2 ⟨rfl, hu2⟩
  clear hu1
  go_wp2_with fail
  refine (hu2.arm _ (by omega)).mono ?_
  rintro e w3 ⟨rfl, hx⟩
  have hu3 : Up w.heap.size w w3 d ⟨[⟨nRoot, E, E.length⟩], 4096, (2 : Nat), false⟩ := by rw [← sw3 E (2)]; exact hx
  clear hx hu2
  go_wp2_with fail
  refine (came (hu3.append (Below.refl _ _) nNext (by decide) _ N (R1.out.below hu3.bel) (fun a ha => .inl (B1.out a ha))) (sw4 E N 1 HE.out HN.out)).mono ?_
  rintro e w4 ⟨rfl, hu4⟩
  clear hu3
  go_wp2_with fail
  refine (came (hu4.sync nNext) (sw5 E N 0)).mono ?_
  rintro e w5 ⟨rfl, hu5⟩
  clear hu4
  go_wp2_with fail
  refine (came (hu5.rename nNext nRoot (by decide)) (sw60 E N)).mono ?_
  rintro e w6 ⟨rfl, hu6⟩
  clear hu5
  go_wp2_with fail
  refine (hu6.crash (Below.refl _ _) _ _ ks ts (R3.out.below hu6.bel) (R4.out.below hu6.bel) (fun a ha => .inl (B3.out a ha)) (fun a ha => .inl (B4.out a ha)) HK.out HT.out).mono ?_
  rintro e w7 ⟨rfl, hu7⟩
  obtain ⟨g, hg, hg2⟩ := sw7b E N N.length 4096 (-1) true ks ts
  rw [hg] at hu7
  rw [crashF_safe _ _ _ _ (toldL_ge _ _)] at hg2
  subst hg2
  clear hg
  clear hu6
  go_wp2_with fail
  refine (hu7.read nRoot (sw8b _ E _ _ _).1).mono ?_
  rintro e w8 ⟨x, rfl, hox, hu8⟩
  clear hu7
  have HX : Hid (Rd w8 x E) := hox
  have hs0 := run_str w8 x E hox
  have hs1 := run_str w8 _ _ (R0.out.below hu8.bel)
  clear hox
  go_wp2_with fail
  refine (hu8.read nNext (sw8b _ E _ _ _).2).mono ?_
  rintro e w9 ⟨y, rfl, hoy, hu9⟩
  clear hu8 hs0 hs1
  obtain ⟨oy, cy, hvy, -⟩ := id hoy
  have hlen : (N.length : Int) ≤ N.length := by omega
  have HY : Hid (Rd w9 y N) := hoy
  have hs0 := run_str w9 _ _ hoy
  have hs1 := run_str w9 _ _ (R1.out.below hu9.bel)
  subst hvy
  clear hoy
  go_wp2_with fail
  refine (awake_true w9).mono ?_
  rintro e wz ⟨rfl, hbz⟩
  go_wp2_with fail
  go_ret
  exact ⟨rfl, hu9.bel.trans (hbz.mono hu9.le)⟩

set_option maxRecDepth 100000 in
set_option maxHeartbeats 4000000 in
theorem swap3 (w : World) (v0 v1 v3 v4 : Value) (E N : List UInt8) (n : Nat) (ks ts : List Int) (r0 : Rd w v0 E) (r1 : Rd w v1 N) (r3 : RdI w v3 ks) (r4 : RdI w v4 ts)
    (b0 : ∀ a, v0.ownBlock = some a → a < w.heap.size) (b1 : ∀ a, v1.ownBlock = some a → a < w.heap.size) (b3 : ∀ a, v3.ownBlock = some a → a < w.heap.size) (b4 : ∀ a, v4.ownBlock = some a → a < w.heap.size)
    (hk : ∀ x ∈ ks, x ≤ 9223372036854775807) (ht : ∀ x ∈ ts, x ≤ 9223372036854775807)
    (hE : E.length ≤ 200) (hN : N.length ≤ 200) (hks : ks.length ≤ 9) (hts : ts.length ≤ 9) (K j : Nat) (h0 : n % 6 = K) (hj : K = j + 3) :
    Calls Try.prog 10 #[v0, v1, .int .u8 n, v3, v4] w fun e w' => e = .returned (.bool true) ∧ Below w.heap.size w w' := by
  have hT := run_toStr
  obtain ⟨o0, c0, hv0, -⟩ := id r0
  obtain ⟨o1, c1, hv1, -⟩ := id r1
  obtain ⟨o3, c3, hv3, -⟩ := id r3
  obtain ⟨o4, c4, hv4, -⟩ := id r4
  have hE' : ¬ ((200 : Int) < E.length) := by omega
  have hN' : ¬ ((200 : Int) < N.length) := by omega
  have hks' : ¬ ((9 : Int) < ks.length) := by omega
  have hts' : ¬ ((9 : Int) < ts.length) := by omega
  have hm : (n : Int) % 6 = (K : Nat) := by omega
  have hm2 : (n : Int).tmod 6 = (K : Nat) := by rw [Int.tmod_eq_emod_of_nonneg (by omega)]; omega
  have h3 : ¬ ((K : Int) ≤ 2) := by omega
  have h30 : ¬ ((K : Int) ≤ 0) := by omega
  have h31 : ¬ ((K : Int) ≤ 1) := by omega
  have h4 : (2 : Int) < K := by omega
  have h5 : (1 : Int) < K := by omega
  have h6 : (0 : Int) < K := by omega
  have h7 : K ≤ 5 := by omega
  have HJ : Hid (K = j + 3) := hj
  have HE : Hid (E.length ≤ 200) := hE
  have HN : Hid (N.length ≤ 200) := hN
  have R0 : Hid (Rd w v0 E) := r0
  have R1 : Hid (Rd w v1 N) := r1
  have R3 : Hid (RdI w v3 ks) := r3
  have R4 : Hid (RdI w v4 ts) := r4
  have B0 : Hid (∀ a, v0.ownBlock = some a → a < w.heap.size) := b0
  have B1 : Hid (∀ a, v1.ownBlock = some a → a < w.heap.size) := b1
  have B3 : Hid (∀ a, v3.ownBlock = some a → a < w.heap.size) := b3
  have B4 : Hid (∀ a, v4.ownBlock = some a → a < w.heap.size) := b4
  have HK : Hid _ := hk
  have HT : Hid _ := ht
  subst hv0 hv1 hv3 hv4
  clear hE hN hks hts h0 hj r0 r1 r3 r4 b0 b1 b3 b4 hk ht
  go_enter Try.func10, Try.ntmps10
  go_wp2_with fail
  refine (new_up w 4096 (by omega)).mono ?_
  rintro e w0 ⟨d, rfl, -, hu0⟩
  go_wp2_with fail
  refine (came (hu0.append (Below.refl _ _) nRoot (by decide) _ E (R0.out.below hu0.bel) (fun a ha => .inl (B0.out a ha))) (sw1 E HE.out)).mono ?_
  rintro e w1 ⟨rfl, hu1⟩
  clear hu0
  go_wp2_with fail
  refine (came (hu1.sync nRoot) (sw2 E)).mono ?_
  rintro e w2 ⟨rfl, hu2⟩
  clear hu1
  go_wp2_with fail
  refine (hu2.arm _ (by omega)).mono ?_
  rintro e w3 ⟨rfl, hx⟩
  have hu3 : Up w.heap.size w w3 d ⟨[⟨nRoot, E, E.length⟩], 4096, (j + 3 : Nat), false⟩ := by rw [← sw3 E (j + 3), ← HJ.out]; exact hx
  clear hx hu2
  go_wp2_with fail
  refine (came (hu3.append (Below.refl _ _) nNext (by decide) _ N (R1.out.below hu3.bel) (fun a ha => .inl (B1.out a ha))) (sw4 E N (j + 2) HE.out HN.out)).mono ?_
  rintro e w4 ⟨rfl, hu4⟩
  clear hu3
  go_wp2_with fail
  refine (came (hu4.sync nNext) (sw5 E N (j + 1))).mono ?_
  rintro e w5 ⟨rfl, hu5⟩
  clear hu4
  go_wp2_with fail
  refine (came (hu5.rename nNext nRoot (by decide)) (sw6 E N j)).mono ?_
  rintro e w6 ⟨rfl, hu6⟩
  clear hu5
  go_wp2_with fail
  refine (hu6.crash (Below.refl _ _) _ _ ks ts (R3.out.below hu6.bel) (R4.out.below hu6.bel) (fun a ha => .inl (B3.out a ha)) (fun a ha => .inl (B4.out a ha)) HK.out HT.out).mono ?_
  rintro e w7 ⟨rfl, hu7⟩
  rw [sw7 N] at hu7
  clear hu6
  go_wp2_with fail
  refine (hu7.read nRoot (sw8 N _ _).1).mono ?_
  rintro e w8 ⟨x, rfl, hox, hu8⟩
  clear hu7
  have HX : Hid (Rd w8 x N) := hox
  have hs0 := run_str w8 x N hox
  have hs1 := run_str w8 _ _ (R1.out.below hu8.bel)
  clear hox
  go_wp2_with fail
  refine (hu8.read nNext (sw8 N _ _).2).mono ?_
  rintro e w9 ⟨y, rfl, hoy, hu9⟩
  clear hu8 hs0 hs1
  go_wp2_with fail
  refine (list_any hu9.dk).mono ?_
  rintro e w10 ⟨vl, rfl, hos, hbl⟩
  have hu10 := hu9.below hbl
  clear hbl hu9
  rcases hos.2 with h2 | ⟨g, cap, cur, rfl, -⟩
  · cases h2.2
  clear hos
  go_wp2_with fail
  refine (awake_true w10).mono ?_
  rintro e wz ⟨rfl, hbz⟩
  go_wp2_with fail
  go_ret
  exact ⟨rfl, hu10.bel.trans (hbz.mono hu10.le)⟩

set_option maxRecDepth 100000 in
set_option maxHeartbeats 4000000 in
theorem swap_large (w : World) (v0 v1 v3 v4 : Value) (E N : List UInt8) (n : Int) (ks ts : List Int) (r0 : Rd w v0 E) (r1 : Rd w v1 N) (r3 : RdI w v3 ks) (r4 : RdI w v4 ts)
    (hl : 200 < E.length ∨ 200 < N.length ∨ 9 < ks.length ∨ 9 < ts.length) :
    Calls Try.prog 10 #[v0, v1, .int .u8 n, v3, v4] w fun e w' => e = .returned (.bool true) ∧ Below w.heap.size w w' := by
  obtain ⟨o0, c0, hv0, -⟩ := id r0
  obtain ⟨o1, c1, hv1, -⟩ := id r1
  obtain ⟨o3, c3, hv3, -⟩ := id r3
  obtain ⟨o4, c4, hv4, -⟩ := id r4
  subst hv0 hv1 hv3 hv4
  clear r0 r1 r3 r4
  have aw := awake_true w
  by_cases h1 : (200 : Int) < E.length
  · clear hl
    go_enter Try.func10, Try.ntmps10
    go_wp2_with fail
    refine aw.mono ?_
    rintro e wz ⟨rfl, hbz⟩
    go_wp2_with fail
    go_ret
    exact ⟨rfl, hbz⟩
  by_cases h2 : (200 : Int) < N.length
  · clear hl
    go_enter Try.func10, Try.ntmps10
    go_wp2_with fail
    refine aw.mono ?_
    rintro e wz ⟨rfl, hbz⟩
    go_wp2_with fail
    go_ret
    exact ⟨rfl, hbz⟩
  by_cases h3 : (9 : Int) < ks.length
  · clear hl
    go_enter Try.func10, Try.ntmps10
    go_wp2_with fail
    refine aw.mono ?_
    rintro e wz ⟨rfl, hbz⟩
    go_wp2_with fail
    go_ret
    exact ⟨rfl, hbz⟩
  have h4 : (9 : Int) < ts.length := by omega
  clear hl
  go_enter Try.func10, Try.ntmps10
  go_wp2_with fail
  refine aw.mono ?_
  rintro e wz ⟨rfl, hbz⟩
  go_wp2_with fail
  go_ret
  exact ⟨rfl, hbz⟩

theorem swap_walk (w : World) (v0 v1 v3 v4 : Value) (E N : List UInt8) (n : Nat) (ks ts : List Int) (r0 : Rd w v0 E) (r1 : Rd w v1 N) (r3 : RdI w v3 ks) (r4 : RdI w v4 ts)
    (b0 : ∀ a, v0.ownBlock = some a → a < w.heap.size) (b1 : ∀ a, v1.ownBlock = some a → a < w.heap.size) (b3 : ∀ a, v3.ownBlock = some a → a < w.heap.size) (b4 : ∀ a, v4.ownBlock = some a → a < w.heap.size)
    (hk : ∀ x ∈ ks, x ≤ 9223372036854775807) (ht : ∀ x ∈ ts, x ≤ 9223372036854775807) :
    Calls Try.prog 10 #[v0, v1, .int .u8 n, v3, v4] w fun e w' => e = .returned (.bool true) ∧ Below w.heap.size w w' := by
  by_cases hl : 200 < E.length ∨ 200 < N.length ∨ 9 < ks.length ∨ 9 < ts.length
  · exact swap_large w v0 v1 v3 v4 E N n ks ts r0 r1 r3 r4 hl
  have h1 : E.length ≤ 200 := by omega
  have h2 : N.length ≤ 200 := by omega
  have h3 : ks.length ≤ 9 := by omega
  have h4 : ts.length ≤ 9 := by omega
  have h6 : n % 6 < 6 := Nat.mod_lt _ (by omega)
  rcases Nat.lt_or_ge (n % 6) 3 with h | h
  · rcases (by omega : n % 6 = 0 ∨ n % 6 = 1 ∨ n % 6 = 2) with h | h | h
    · exact swap0 w v0 v1 v3 v4 E N n ks ts r0 r1 r3 r4 b0 b1 b3 b4 hk ht h1 h2 h3 h4 h
    · exact swap1 w v0 v1 v3 v4 E N n ks ts r0 r1 r3 r4 b0 b1 b3 b4 hk ht h1 h2 h3 h4 h
    · exact swap2 w v0 v1 v3 v4 E N n ks ts r0 r1 r3 r4 b0 b1 b3 b4 hk ht h1 h2 h3 h4 h
  · exact swap3 w v0 v1 v3 v4 E N n ks ts r0 r1 r3 r4 b0 b1 b3 b4 hk ht h1 h2 h3 h4 (n % 6) (n % 6 - 3) rfl (by omega)
end Go.Proofs.Ytloigepmmhcibaa
