/-
  The law BytesSeen answers true, whatever the bytes and numbers: a change within 32 bits running is seen, so is one of the check itself, and what was sealed is had back. No condition.
-/
import Derived.Test.YtgeljaliddedfaaWi
import Derived.Test.YtgeljaliddedfaaWf
import Derived.Test.YtgeljaliddedfaaMathd
import Derived.Test.YtgeljaliddedfaaKeep
import Derived.Deep.RegionHeld
namespace Go.Proofs.Ytgeljaliddedfaa
open Go.RowKit

set_option maxRecDepth 100000 in
set_option maxHeartbeats 800000 in
theorem seen_off (v : Value) (l : List UInt8) (at_ change check seals : Int) (w : World) (hrd : Rd w v l) (hbad : l.length = 0 ∨ 300 < l.length) :
    Calls Try.prog 9 #[v, .int .u16 at_, .int .u32 change, .int .u32 check, .int .u8 seals] w fun e w' => e = .returned (.bool true) ∧ Below w.heap.size w w' := by
  obtain ⟨ao, cap, rfl, -⟩ := hrd
  by_cases h0 : l.length = 0
  · have h0' : ((l.length : Int) == 0) = true := by simp only [beq_iff_eq]; omega
    clear hbad h0
    go_enter Try.func9, Try.ntmps9
    go_wp2_with fail
    refine (awake_true _).mono ?_
    rintro e w7 ⟨rfl, hb7⟩
    go_wp2
    go_ret
    exact ⟨rfl, hb7⟩
  · have h0' : ((l.length : Int) == 0) = false := by simp only [beq_eq_false_iff_ne]; omega
    have h1' : (300 : Int) < l.length := by omega
    clear hbad h0
    go_enter Try.func9, Try.ntmps9
    go_wp2_with fail
    refine (awake_true _).mono ?_
    rintro e w7 ⟨rfl, hb7⟩
    go_wp2
    go_ret
    exact ⟨rfl, hb7⟩

theorem testBit_eq (c i : Nat) (hc : c < 4294967296) : (bits BinOp.and IntKind.u32 ((c : Int) / 2 ^ i) 1 == 1) = c.testBit i := by
  have e : ((c : Int) / 2 ^ i) = ((c / 2 ^ i : Nat) : Int) := by simp
  have h2 : c / 2 ^ i < 4294967296 := Nat.lt_of_le_of_lt (Nat.div_le_self _ _) hc
  rw [e, show (1 : Int) = ((1 : Nat) : Int) from rfl, u32_and_nat _ _ h2 (by omega), nat_mask1]
  rw [Nat.testBit_eq_decide_div_mod_eq, Bool.eq_iff_iff]
  simp only [beq_iff_eq, decide_eq_true_eq]
  omega
theorem flip_val (x : UInt8) (p : Nat) (hp : p < 8) : bits BinOp.xor IntKind.u8 (x.toNat : Int) ((2 : Int) ^ p % 256) = ((flipB x p).toNat : Int) := by
  have h1 : (2 ^ p : Nat) < 256 := by
    have := Nat.pow_lt_pow_right (a := 2) (by omega) hp
    omega
  have e : ((2 : Int) ^ p % 256) = ((2 ^ p : Nat) : Int) := by
    rw [show (2 : Int) ^ p = ((2 ^ p : Nat) : Int) by simp]
    exact Int.emod_eq_of_lt (Int.natCast_nonneg _) (Int.ofNat_lt.2 h1)
  rw [e, u8_xor_nat _ _ x.toNat_lt h1]
  unfold flipB
  rw [UInt8.toNat_ofNat']
  have : x.toNat ^^^ 2 ^ p < 2 ^ 8 := Nat.xor_lt_two_pow x.toNat_lt h1
  omega
theorem be4_inj {a b : BitVec 32} (h : be4 a = be4 b) : a = b := by
  unfold be4 at h
  simp only [List.cons.injEq, and_true] at h
  have e : ∀ x y : Nat, UInt8.ofNat x = UInt8.ofNat y → x % 256 = y % 256 := fun x y h => by
    have := congrArg UInt8.toNat h
    simpa [UInt8.toNat_ofNat'] using this
  have h1 := e _ _ h.1
  have h2 := e _ _ h.2.1
  have h3 := e _ _ h.2.2.1
  have h4 := e _ _ h.2.2.2
  apply BitVec.eq_of_toNat_eq
  have := a.isLt
  have := b.isLt
  omega
theorem unseal_changed (l x : List UInt8) (hl : x.length = l.length) (h : crc x = crc l → x = l) : unsealL (x ++ be4 (crc l)) = if x = l then (x, 0) else ([], 12) := by
  have h4 : (be4 (crc l)).length = 4 := rfl
  unfold unsealL
  rw [if_neg (by rw [List.length_append, h4]; omega), List.length_append, h4, show x.length + 4 - 4 = x.length by omega, List.drop_left, List.take_left]
  by_cases e : x = l
  · rw [if_pos e, if_pos (by rw [e])]
  · rw [if_neg e, if_neg]
    intro hc
    apply e
    apply h
    exact be4_inj hc.symm

def xorB (x : UInt8) (y : Nat) : UInt8 := UInt8.ofNat (x.toNat ^^^ (y % 256))
/-- the check's bytes behind n others, the first j of them changed -/
def chk (S : List UInt8) (n c : Nat) : Nat → List UInt8
  | 0 => S
  | j + 1 => (chk S n c j).set (n + j) (xorB ((chk S n c j).getD (n + j) 0) (c / 2 ^ (8 * j)))
theorem chk_length (S : List UInt8) (n c j : Nat) : (chk S n c j).length = S.length := by
  induction j with
  | zero => rfl
  | succ j ih => rw [chk, List.length_set, ih]
theorem xorB_val (x : UInt8) (c j : Nat) : bits BinOp.xor IntKind.u8 (x.toNat : Int) ((c : Int) / 2 ^ (8 * j) % 256) = ((xorB x (c / 2 ^ (8 * j))).toNat : Int) := by
  have e : ((c : Int) / 2 ^ (8 * j) % 256) = ((c / 2 ^ (8 * j) % 256 : Nat) : Int) := by simp
  have h1 : c / 2 ^ (8 * j) % 256 < 256 := Nat.mod_lt _ (by omega)
  rw [e, u8_xor_nat _ _ x.toNat_lt h1]
  unfold xorB
  rw [UInt8.toNat_ofNat']
  have : x.toNat ^^^ (c / 2 ^ (8 * j) % 256) < 2 ^ 8 := Nat.xor_lt_two_pow x.toNat_lt h1
  omega
theorem set_behind (l t : List UInt8) (j : Nat) (y : UInt8) : (l ++ t).set (l.length + j) y = l ++ t.set j y := by
  rw [List.set_append_right _ _ (by omega)]
  congr 2
  omega
theorem getD_behind (l t : List UInt8) (j : Nat) : (l ++ t).getD (l.length + j) 0 = t.getD j 0 := by
  unfold List.getD
  rw [List.getElem?_append_right (by omega)]
  congr 2
  omega
theorem chk_four (l : List UInt8) (a b d e : UInt8) (c : Nat) : chk (l ++ [a, b, d, e]) l.length c 4 = l ++ [xorB a (c / 2 ^ 0), xorB b (c / 2 ^ 8), xorB d (c / 2 ^ 16), xorB e (c / 2 ^ 24)] := by
  simp only [chk, set_behind, getD_behind]
  rfl
theorem xorB_same (x : UInt8) (y : Nat) : xorB x y = x ↔ y % 256 = 0 := by
  have hy : y % 256 < 2 ^ 8 := Nat.mod_lt _ (by omega)
  have hlt : x.toNat ^^^ (y % 256) < 2 ^ 8 := Nat.xor_lt_two_pow x.toNat_lt hy
  rw [← UInt8.toNat_inj]
  unfold xorB
  rw [UInt8.toNat_ofNat', Nat.mod_eq_of_lt hlt]
  constructor
  · intro h
    have h2 : x.toNat ^^^ (x.toNat ^^^ (y % 256)) = x.toNat ^^^ x.toNat := by rw [h]
    rwa [← Nat.xor_assoc, Nat.xor_self, Nat.zero_xor] at h2
  · intro h
    rw [h, Nat.xor_zero]
theorem unseal_four (l : List UInt8) (X : List UInt8) (hX : X.length = 4) : unsealL (l ++ X) = if X = be4 (crc l) then (l, 0) else ([], 12) := by
  unfold unsealL
  rw [if_neg (by rw [List.length_append, hX]; omega), List.length_append, hX, show l.length + 4 - 4 = l.length by omega, List.drop_left, List.take_left]
theorem unseal_chk (l : List UInt8) (c : Nat) (hc : c < 4294967296) : (((unsealL (chk (l ++ be4 (crc l)) l.length c 4)).2 : Int) == 0) = ((c : Int) == 0) := by
  obtain ⟨a, b, d, e, h4⟩ : ∃ a b d e, be4 (crc l) = [a, b, d, e] := ⟨_, _, _, _, rfl⟩
  rw [h4, chk_four, unseal_four _ _ rfl, h4]
  have hq : [xorB a (c / 2 ^ 0), xorB b (c / 2 ^ 8), xorB d (c / 2 ^ 16), xorB e (c / 2 ^ 24)] = [a, b, d, e] ↔ c = 0 := by
    simp only [List.cons.injEq, and_true, xorB_same]
    constructor
    · rintro ⟨h1, h2, h3, h4⟩
      omega
    · intro h
      subst h
      simp
  by_cases h0 : c = 0
  · rw [if_pos (hq.2 h0), h0]
  · rw [if_neg (fun h => h0 (hq.1 h)), Bool.eq_iff_iff]
    simp
    exact h0
/-- sealed so many times -/
def sealN (l : List UInt8) : Nat → List UInt8
  | 0 => l
  | i + 1 => sealN l i ++ be4 (crc (sealN l i))
theorem sealN_length (l : List UInt8) (i : Nat) : (sealN l i).length = l.length + 4 * i := by
  induction i with
  | zero => rfl
  | succ i ih =>
    rw [sealN, List.length_append, ih]
    show l.length + 4 * i + 4 = _
    omega
theorem unseal_sealN (l : List UInt8) (i : Nat) : unsealL (sealN l (i + 1)) = (sealN l i, 0) := by
  rw [sealN, unseal_four _ _ rfl, if_pos rfl]

set_option maxRecDepth 100000 in
set_option maxHeartbeats 4000000 in
theorem seen_part (v : Value) (l : List UInt8) (at_ change check seals : Nat) (w : World) (hrd : Rd w v l) (hl0 : 0 < l.length) (hl1 : l.length ≤ 300)
    (hat : at_ < 65536) (hch : change < 4294967296) (hck : check < 4294967296) (hse : seals < 256) (f : Nat) (hf : f = at_ % (8 * l.length)) (hcase : 8 * l.length - f < 32) :
    Calls Try.prog 9 #[v, .int .u16 at_, .int .u32 change, .int .u32 check, .int .u8 seals] w fun e w' => e = .returned (.bool true) ∧ Below w.heap.size w w' := by
  obtain ⟨i0, hi, hz0, hz1, hz2⟩ := info_parts Try.info5
  obtain ⟨ao, cap, hv, hcap, hmax, -⟩ := id hrd
  subst hv
  have hT := run_toStr
  have h0' : ((l.length : Int) == 0) = false := by simp only [beq_eq_false_iff_ne]; omega
  have h1' : ¬ (300 : Int) < l.length := by omega
  have HCK : Hid _ := hck
  have HCH : Hid _ := hch
  have HSE : Hid _ := hse
  clear hck hch hse
  obtain ⟨n, HN⟩ := named l.length
  rw [← HN.out] at hrd h0' h1' hl0 hl1 hcap hf hcase ⊢
  go_enter Try.func9, Try.ntmps9
  go_wp2_with fail
  refine (copyBytes_any _ l _ hrd (by rw [← HN.out]; omega)).mono ?_
  rintro e w1 ⟨v1, rfl, hown1, hb1⟩
  rcases hown1.shape with ⟨-, h0⟩ | ⟨g, c1, hv1, hgb, hg, hcap1, hmax1, -⟩
  · rw [HN.out, h0] at hl0; simp at hl0
  subst hv1
  rw [← HN.out] at hcap1 ⊢
  have hf8 : f < 8 * n := by rw [hf]; exact Nat.mod_lt _ (by omega)
  have hfI : ((at_ : Int)).tmod (8 * (n : Int)) = (f : Int) := by
    rw [Int.tmod_eq_emod_of_nonneg (by omega), hf]
    simp
  have hfI2 : (at_ : Int) % (8 * (n : Int)) = (f : Int) := by rw [hf]; simp
  clear hf
  unfold maxLen at hmax1
  have hmax1' := hmax1
  clear hmax1
  go_wp2_with fail
  go_loopw [13] (fun iv wr => ∃ k : Nat, k ≤ 32 ∧ f + k ≤ 8 * n ∧ iv = .int .i64 k ∧ Own wr w.heap.size (.slice (some ⟨g, 0, none⟩) n c1) (chg l f change k) ∧ Below w.heap.size w wr) (fun iv _ => 32 - (intOf iv).toNat)
  case atStart =>
    refine ⟨0, by omega, by omega, rfl, ?_, hb1⟩
    rw [HN.out]
    exact hown1
  case round =>
    obtain ⟨k, hk, hfk, rfl, hown, hb⟩ := hrel
    have hlk : (chg l f change k).length = n := by rw [chg_length, HN.out]
    obtain ⟨y, HY⟩ := named (chg l f change k)
    rw [← HY.out] at hown hlk
    have HLK : Hid _ := hlk
    by_cases hlt : k < 32 ∧ f + k < 8 * n
    · obtain ⟨hlt1, hlt2⟩ := hlt
      have hlt1' : (k : Int) < 32 := by omega
      have hlt2' : (f : Int) + k < 8 * n := by omega
      have htb := testBit_eq change k HCH.out
      cases hbit : change.testBit k with
      | true =>
        have hq : (f + k) / 8 < y.length := by rw [HLK.out]; omega
        have hsu : chg l f change (k + 1) = flipL y (f + k) := by rw [chg, hbit, if_pos rfl, HY.out]
        have hfl : flipL y (f + k) = y.set ((f + k) / 8) (flipB y[(f + k) / 8] ((f + k) % 8)) := by
          unfold flipL
          congr 2
          simp [List.getD, hq]
        have hown' : Own wr w.heap.size (.slice (some ⟨g, 0, none⟩) y.length c1) y := by rw [HLK.out]; exact hown
        have hcell := hown'.cell ((f + k) / 8) hq
        have hfro := hown'.frozen ((f + k) / 8)
        have hval := flip_val y[(f + k) / 8] ((f + k) % 8) (by omega)
        obtain ⟨x, HX⟩ := named (y[(f + k) / 8]'hq)
        rw [← HX.out] at hcell hfl hval
        rw [hbit] at htb
        have HV : Hid _ := hval
        have HSU : Hid _ := hsu
        have HFL : Hid _ := hfl
        clear hval hsu hfl hbit
        have hqI : ((f : Int) + k) / 8 < n := by omega
        clear hlk
        go_wp2_with fail
        go_region
        go_wp2
        go_roundw
        case rel =>
          refine ⟨k + 1, by omega, by omega, by go_num, ?_, (hb.setCell hgb _).drew⟩
          have hst := hown'.store ((f + k) / 8) (flipB x ((f + k) % 8)) _ HV.out
          rw [HLK.out] at hst
          rw [HSU.out, HFL.out]
          exact hst.drew
        case measure => simp [intOf]; omega
      | false =>
        rw [hbit] at htb
        have hsu : chg l f change (k + 1) = y := by rw [chg, hbit, if_neg (by simp), HY.out]
        have HSU : Hid _ := hsu
        clear hsu hbit hlk
        go_wp2
        go_roundw
        case rel => exact ⟨k + 1, by omega, by omega, by go_num, by rw [HSU.out]; exact hown, hb⟩
        case measure => simp [intOf]; omega
    · have hcrc := crc_chg l f change k hk (by rw [← HN.out]; exact hfk)
      rw [← HY.out] at hcrc
      have hun := unseal_changed l y (by rw [HLK.out, HN.out]) hcrc
      have hown' : Own wr w.heap.size (.slice (some ⟨g, 0, none⟩) y.length c1) y := by rw [HLK.out]; exact hown
      obtain ⟨same, HSM⟩ := named (decide (y = l))
      have HUN : Hid _ := hun
      clear hun hcrc hown1 hb1
      have hsz := hb.size
      have hrd1 := hrd.below hb
      have hg1 : ¬ ((f : Int) + k < 8 * n) := by omega
      go_wp2_with fail
      refine (seal_any _ l _ hrd1 (by rw [← HN.out]; omega)).mono ?_
      rintro e w2 ⟨v2, rfl, hown2, hb2⟩
      have hB2 := below_call hb hb2
      have hL2 : (l ++ be4 (crc l)).length = n + 4 := by rw [List.length_append, ← HN.out]; rfl
      have hownx := hown'.below hb2
      have hrd2 := hrd1.below hb2
      obtain ⟨a2, c2, hv2, hcap2, hmax2, -⟩ := id hown2.rd
      rw [hL2] at hv2 hcap2
      subst hv2
      unfold maxLen at hmax2
      have hne : (((n : Int) + 4) != ((n : Int) + 4)) = false := by simp
      have hrdS : Rd w2 (.slice (Option.map (fun x => x.add n) a2) 4 (c2 - n)) (be4 (crc l)) := by
        have hcut := hown2.rd.cut n (n + 4) (by omega) (by rw [hL2]; omega)
        rw [List.take_of_length_le (by rw [hL2]; omega), show n + 4 - n = 4 by omega] at hcut
        have hdr : (l ++ be4 (crc l)).drop n = be4 (crc l) := by rw [HN.out, List.drop_left]
        rw [hdr] at hcut
        exact hcut
      rw [HLK.out] at hownx
      have hgr : g < wr.heap.size := (World.ownsRow.lt hown g rfl).2
      clear hown' hb2 hrd1 hown
      have hsz2 := hB2.size
      have hlyk : y.length + (be4 (crc l)).length ≤ 140737488355328 := by
        rw [HLK.out]
        show n + 4 ≤ _
        omega
      have HLY : Hid _ := hlyk
      clear hlyk
      obtain ⟨ck, HCKL⟩ := named (be4 (crc l))
      rw [← HCKL.out] at hrdS HLY HUN
      go_wp2_with (at_builtin; go_must (refine wpList_append_keeps _ rfl (.tmp 82) (.tmp 86) 22 rfl i0 Try.underlying22 hi hz0 hz1 hz2 w.heap.size _ _ rfl rfl y ck hownx hrdS HLY.out hsz2 ?_))
      intro v3 w3 hown3 hg3 hrdx
      have hB3 : Below w.heap.size w w3 := hB2.grown hg3 hsz2 (fun k hk => (World.ownsRow.lt hownx k hk).1)
      have hgx : w2.grownBy w3 (some g) := hg3
      have hown3s := hown2.apart hgx hgr
      clear hown2 hg3 hgx hrdS hrd2 hownx
      have hrd3 := hrd.below hB3
      have hlen3 : (y ++ ck).length ≤ 140737488355000 := by
        rw [List.length_append, HLK.out, HCKL.out]
        show n + 4 ≤ _
        omega
      have HL3 : Hid _ := hlen3
      clear hlen3
      obtain ⟨E, HE⟩ := named (unsealL (y ++ ck)).2
      have hE0 : ((E : Int) == 0) = same := by
        rw [HE.out, HUN.out, HSM.out]
        by_cases e : y = l
        · rw [if_pos e, decide_eq_true e]; rfl
        · rw [if_neg e, decide_eq_false e]; rfl
      have hE1 : ((E : Int) == 12) = !same := by
        rw [HE.out, HUN.out, HSM.out]
        by_cases e : y = l
        · rw [if_pos e, decide_eq_true e]; rfl
        · rw [if_neg e, decide_eq_false e]; rfl
      have hyl : (y == l) = same := by
        rw [HSM.out, Bool.eq_iff_iff]
        simp
      go_wp2_with fail
      refine (unseal_any _ (y ++ ck) _ hown3.rd HL3.out).mono ?_
      rintro e w4 ⟨v4, rfl, -, hb4⟩
      rw [← HE.out]
      have hB4 := below_call hB3 hb4
      have hrd4 := hrd3.below hb4
      have hrdx4 := hrdx.below hb4
      have hown4s := hown3s.below hb4
      clear hown3 hb4 hrd3 hrdx hown3s hB3
      have hs0 := run_str w4.drew _ y hrdx4.drew
      have hs1 := run_str w4.drew _ l hrd4.drew
      go_wp2_with fail
      go_region
      clear hs0 hs1
      have hL3 : (l ++ ck).length = n + 4 := by rw [HCKL.out]; exact hL2
      go_wp2_with fail
      clear hE0 hE1 hyl hrdx4
      refine (copyBytes_any _ (l ++ ck) _ (by rw [HCKL.out]; exact hown4s.rd.drew) (by rw [hL3]; omega)).mono ?_
      rintro e w5 ⟨v5, rfl, hown5, hb5⟩
      have hb5' : Below w4.heap.size w4 w5 := (Below.refl w4.heap.size w4).drew.trans hb5
      clear hb5
      rcases hown5.shape with ⟨-, h0⟩ | ⟨g5, c5, hv5, hgb5, hg5, hcap5, hmax5, -⟩
      · rw [h0] at hL3; simp at hL3
      subst hv5
      have hown5' : Own w5 w4.heap.size (.slice (some ⟨g5, 0, none⟩) (n + 4) c5) (l ++ ck) := by
        rw [hL3] at hown5
        exact hown5
      have hgb5' : w4.heap.size ≤ g5 := hgb5
      rw [hL3] at hcap5 ⊢
      clear hown5 hgb5 hg5
      unfold maxLen at hmax5
      have hchk := unseal_chk l check HCK.out
      rw [← HCKL.out, ← HN.out] at hchk
      have HCHK : Hid _ := hchk
      clear hchk
      go_wp2_with fail
      go_loopw [19] (fun iv wr => ∃ j : Nat, j ≤ 4 ∧ iv = .int .i64 j ∧ Own wr w4.heap.size (.slice (some ⟨g5, 0, none⟩) (n + 4) c5) (chk (l ++ ck) n check j) ∧ Below w4.heap.size w4 wr) (fun iv _ => 4 - (intOf iv).toNat)
      case atStart => exact ⟨0, by omega, rfl, hown5', hb5'⟩
      case round =>
        obtain ⟨j, hj, rfl, hownt, hbt⟩ := hrel
        have hlt : (chk (l ++ ck) n check j).length = n + 4 := by rw [chk_length, hL3]
        have HLT : Hid _ := hlt
        clear hlt
        by_cases hj4 : j < 4
        · have hj4' : (j : Int) < 4 := by omega
          have hsu : chk (l ++ ck) n check (j + 1) = (chk (l ++ ck) n check j).set (n + j) (xorB ((chk (l ++ ck) n check j).getD (n + j) 0) (check / 2 ^ (8 * j))) := rfl
          obtain ⟨z, HZ⟩ := named (chk (l ++ ck) n check j)
          rw [← HZ.out] at hownt HLT hsu
          have hq : n + j < z.length := by rw [HLT.out]; omega
          have e0 : z.getD (n + j) 0 = z[n + j] := by simp [List.getD, hq]
          rw [e0] at hsu
          have hownt' : Own wr w4.heap.size (.slice (some ⟨g5, 0, none⟩) z.length c5) z := by rw [HLT.out]; exact hownt
          have hcell := hownt'.cell (n + j) hq
          have hfro := hownt'.frozen (n + j)
          have hval := xorB_val z[n + j] check j
          obtain ⟨x, HX⟩ := named (z[n + j]'hq)
          rw [← HX.out] at hcell hsu hval
          have HV : Hid _ := hval
          have HSU : Hid _ := hsu
          clear hval hsu e0
          go_wp2_with fail
          go_region
          go_wp2
          go_roundw
          case rel =>
            refine ⟨j + 1, by omega, by go_num, ?_, (hbt.setCell hgb5' _).drew⟩
            have hst := hownt'.store (n + j) (xorB x (check / 2 ^ (8 * j))) _ HV.out
            rw [HLT.out] at hst
            rw [HSU.out]
            exact hst.drew
          case measure => simp [intOf]; omega
        · obtain rfl : j = 4 := by omega
          have hj4' : ¬ ((4 : Nat) : Int) < 4 := by omega
          clear hj hj4
          obtain ⟨z, HZ⟩ := named (chk (l ++ ck) n check 4)
          rw [← HZ.out] at hownt HLT HCHK
          have hlz : z.length ≤ 140737488355000 := by rw [HLT.out]; omega
          have HLZ : Hid _ := hlz
          clear hlz
          go_wp2_with fail
          obtain ⟨E2, HE2⟩ := named (unsealL z).2
          have hq2 : ((E2 : Int) == 0) = ((check : Int) == 0) := by rw [HE2.out]; exact HCHK.out
          refine (unseal_any _ z _ (by rw [← HLT.out]; rw [← HLT.out] at hownt; exact hownt.rd) HLZ.out).mono ?_
          rintro e w6 ⟨v6, rfl, -, hb6⟩
          rw [← HE2.out]
          have hb46 : Below w4.heap.size w4 w6 := below_call hbt hb6
          have hB6 : Below w.heap.size w w6 := below_call hB4 hb46
          have hrds6 : Rd w6 (.slice a2 (n + 4) c2) (sealN l 1) := by
            have := (hown4s.below hb46).rd
            rw [← HCKL.out] at this
            rw [sealN, sealN, ← HCKL.out]
            exact this
          have hrd6 := hrd.below hB6
          clear hb6 hbt hownt hown5' hb5' hown4s hb46 hrd4 HCHK HLT HZ HLZ
          obtain ⟨q, hqs⟩ : ∃ q : Nat, q = seals % 4 := ⟨_, rfl⟩
          have hq4 : q < 4 := by omega
          have hqI1 : (seals : Int) % 4 = (q : Int) := by omega
          have hqI2 : (seals : Int).tmod 4 = (q : Int) := by rw [Int.tmod_eq_emod_of_nonneg (by omega)]; omega
          clear hqs
          go_wp2_with fail
          clear hq2
          go_loopw [14, 141] (fun sv iv wr => ∃ j : Nat, j ≤ q ∧ iv = .int .u8 j ∧ Rd wr sv (sealN l (j + 1)) ∧ Below w6.heap.size w6 wr) (fun _ iv _ => q - (intOf iv).toNat)
          case atStart => exact ⟨0, by omega, rfl, hrds6, Below.refl _ _⟩
          case round =>
            obtain ⟨j, hj, rfl, hrs, hbs⟩ := hrel
            have hls := sealN_length l (j + 1)
            have HLS : Hid _ := hls
            by_cases hjq : j < q
            · have hjq' : (j : Int) < q := by omega
              obtain ⟨Z, HZ⟩ := named (sealN l (j + 1))
              have hsu : sealN l (j + 1 + 1) = Z ++ be4 (crc Z) := by rw [HZ.out]; rfl
              have HSU : Hid _ := hsu
              rw [← HZ.out] at hrs HLS
              have hlz : Z.length ≤ 140737488355000 := by rw [HLS.out, ← HN.out]; omega
              clear hsu hls
              go_wp2_with fail
              refine (seal_any _ Z _ hrs hlz).mono ?_
              rintro e w7 ⟨v7, rfl, hown7, hb7⟩
              have hb7' := below_call hbs hb7
              have hrd7 := hown7.rd
              clear hb7 hown7 hlz
              go_wp2
              go_roundw
              case rel => exact ⟨j + 1, by omega, by go_num, by rw [HSU.out]; exact hrd7, hb7'⟩
              case measure => simp [intOf]; omega
            · obtain rfl : j = q := by omega
              have hjq' : ¬ (j : Int) < j := by omega
              clear hls hj hjq
              have hb3 := below_call hB6 hbs
              go_wp2_with fail
              go_loopw [14, 149] (fun sv iv wr => ∃ i : Nat, i ≤ j + 1 ∧ iv = .int .u8 i ∧ Rd wr sv (sealN l (j + 1 - i)) ∧ Below w.heap.size w wr) (fun _ iv _ => j + 1 - (intOf iv).toNat)
              case atStart => exact ⟨0, by omega, rfl, hrs, hb3⟩
              case round =>
                obtain ⟨i, hi, rfl, hru, hbu⟩ := hrel
                by_cases hij : i < j + 1
                · obtain ⟨m, hm⟩ : ∃ m, j + 1 - i = m + 1 := ⟨j - i, by omega⟩
                  have hm2 : j + 1 - (i + 1) = m := by omega
                  have hij' : (i : Int) < (j : Int) + 1 := by omega
                  have hls := sealN_length l (m + 1)
                  have hun := unseal_sealN l m
                  rw [hm] at hru
                  obtain ⟨Z, HZ⟩ := named (sealN l (m + 1))
                  rw [← HZ.out] at hru hls hun
                  have hlz : Z.length ≤ 140737488355000 := by rw [hls, ← HN.out]; omega
                  have HUZ : Hid _ := hun
                  have HM2 : Hid _ := hm2
                  clear hls hun hm hm2
                  go_wp2_with fail
                  refine (unseal_any _ Z _ hru hlz).mono ?_
                  rintro e w8 ⟨v8, rfl, hown8, hb8⟩
                  rw [HUZ.out] at hown8 ⊢
                  have hb8' := below_call hbu hb8
                  have hrd8 := hown8.rd
                  clear hb8 hown8 hlz
                  go_wp2
                  go_roundw
                  case rel => exact ⟨i + 1, by omega, by go_num, by rw [HM2.out]; exact hrd8, hb8'⟩
                  case measure => simp [intOf]; omega
                · have hij' : ¬ ((i : Int) < (j : Int) + 1) := by omega
                  rw [show j + 1 - i = 0 by omega, sealN] at hru
                  have hrb := hrd.below hbu
                  have hsA := run_str _ _ l hru
                  have hsB := run_str _ _ l hrb
                  clear hru hrb
                  go_wp2_with fail
                  refine (awake_true _).mono ?_
                  rintro e w9 ⟨rfl, hb9⟩
                  go_wp2
                  go_ret
                  exact ⟨rfl, below_call hbu hb9⟩
set_option maxRecDepth 100000 in
set_option maxHeartbeats 4000000 in
theorem seen_full (v : Value) (l : List UInt8) (at_ change check seals : Nat) (w : World) (hrd : Rd w v l) (hl0 : 0 < l.length) (hl1 : l.length ≤ 300)
    (hat : at_ < 65536) (hch : change < 4294967296) (hck : check < 4294967296) (hse : seals < 256) (f : Nat) (hf : f = at_ % (8 * l.length)) (hcase : 32 ≤ 8 * l.length - f) :
    Calls Try.prog 9 #[v, .int .u16 at_, .int .u32 change, .int .u32 check, .int .u8 seals] w fun e w' => e = .returned (.bool true) ∧ Below w.heap.size w w' := by
  obtain ⟨i0, hi, hz0, hz1, hz2⟩ := info_parts Try.info5
  obtain ⟨ao, cap, hv, hcap, hmax, -⟩ := id hrd
  subst hv
  have hT := run_toStr
  have h0' : ((l.length : Int) == 0) = false := by simp only [beq_eq_false_iff_ne]; omega
  have h1' : ¬ (300 : Int) < l.length := by omega
  have HCK : Hid _ := hck
  have HCH : Hid _ := hch
  have HSE : Hid _ := hse
  clear hck hch hse
  obtain ⟨n, HN⟩ := named l.length
  rw [← HN.out] at hrd h0' h1' hl0 hl1 hcap hf hcase ⊢
  go_enter Try.func9, Try.ntmps9
  go_wp2_with fail
  refine (copyBytes_any _ l _ hrd (by rw [← HN.out]; omega)).mono ?_
  rintro e w1 ⟨v1, rfl, hown1, hb1⟩
  rcases hown1.shape with ⟨-, h0⟩ | ⟨g, c1, hv1, hgb, hg, hcap1, hmax1, -⟩
  · rw [HN.out, h0] at hl0; simp at hl0
  subst hv1
  rw [← HN.out] at hcap1 ⊢
  have hf8 : f < 8 * n := by rw [hf]; exact Nat.mod_lt _ (by omega)
  have hfI : ((at_ : Int)).tmod (8 * (n : Int)) = (f : Int) := by
    rw [Int.tmod_eq_emod_of_nonneg (by omega), hf]
    simp
  have hfI2 : (at_ : Int) % (8 * (n : Int)) = (f : Int) := by rw [hf]; simp
  clear hf
  unfold maxLen at hmax1
  have hmax1' := hmax1
  clear hmax1
  go_wp2_with fail
  go_loopw [13] (fun iv wr => ∃ k : Nat, k ≤ 32 ∧ f + k ≤ 8 * n ∧ iv = .int .i64 k ∧ Own wr w.heap.size (.slice (some ⟨g, 0, none⟩) n c1) (chg l f change k) ∧ Below w.heap.size w wr) (fun iv _ => 32 - (intOf iv).toNat)
  case atStart =>
    refine ⟨0, by omega, by omega, rfl, ?_, hb1⟩
    rw [HN.out]
    exact hown1
  case round =>
    obtain ⟨k, hk, hfk, rfl, hown, hb⟩ := hrel
    have hlk : (chg l f change k).length = n := by rw [chg_length, HN.out]
    obtain ⟨y, HY⟩ := named (chg l f change k)
    rw [← HY.out] at hown hlk
    have HLK : Hid _ := hlk
    by_cases hlt : k < 32 ∧ f + k < 8 * n
    · obtain ⟨hlt1, hlt2⟩ := hlt
      have hlt1' : (k : Int) < 32 := by omega
      have hlt2' : (f : Int) + k < 8 * n := by omega
      have htb := testBit_eq change k HCH.out
      cases hbit : change.testBit k with
      | true =>
        have hq : (f + k) / 8 < y.length := by rw [HLK.out]; omega
        have hsu : chg l f change (k + 1) = flipL y (f + k) := by rw [chg, hbit, if_pos rfl, HY.out]
        have hfl : flipL y (f + k) = y.set ((f + k) / 8) (flipB y[(f + k) / 8] ((f + k) % 8)) := by
          unfold flipL
          congr 2
          simp [List.getD, hq]
        have hown' : Own wr w.heap.size (.slice (some ⟨g, 0, none⟩) y.length c1) y := by rw [HLK.out]; exact hown
        have hcell := hown'.cell ((f + k) / 8) hq
        have hfro := hown'.frozen ((f + k) / 8)
        have hval := flip_val y[(f + k) / 8] ((f + k) % 8) (by omega)
        obtain ⟨x, HX⟩ := named (y[(f + k) / 8]'hq)
        rw [← HX.out] at hcell hfl hval
        rw [hbit] at htb
        have HV : Hid _ := hval
        have HSU : Hid _ := hsu
        have HFL : Hid _ := hfl
        clear hval hsu hfl hbit
        have hqI : ((f : Int) + k) / 8 < n := by omega
        clear hlk
        go_wp2_with fail
        go_region
        go_wp2
        go_roundw
        case rel =>
          refine ⟨k + 1, by omega, by omega, by go_num, ?_, (hb.setCell hgb _).drew⟩
          have hst := hown'.store ((f + k) / 8) (flipB x ((f + k) % 8)) _ HV.out
          rw [HLK.out] at hst
          rw [HSU.out, HFL.out]
          exact hst.drew
        case measure => simp [intOf]; omega
      | false =>
        rw [hbit] at htb
        have hsu : chg l f change (k + 1) = y := by rw [chg, hbit, if_neg (by simp), HY.out]
        have HSU : Hid _ := hsu
        clear hsu hbit hlk
        go_wp2
        go_roundw
        case rel => exact ⟨k + 1, by omega, by omega, by go_num, by rw [HSU.out]; exact hown, hb⟩
        case measure => simp [intOf]; omega
    · have hcrc := crc_chg l f change k hk (by rw [← HN.out]; exact hfk)
      rw [← HY.out] at hcrc
      have hun := unseal_changed l y (by rw [HLK.out, HN.out]) hcrc
      have hown' : Own wr w.heap.size (.slice (some ⟨g, 0, none⟩) y.length c1) y := by rw [HLK.out]; exact hown
      obtain ⟨same, HSM⟩ := named (decide (y = l))
      have HUN : Hid _ := hun
      clear hun hcrc hown1 hb1
      have hsz := hb.size
      have hrd1 := hrd.below hb
      have hg1 : ¬ ((k : Int) < 32) := by omega
      go_wp2_with fail
      refine (seal_any _ l _ hrd1 (by rw [← HN.out]; omega)).mono ?_
      rintro e w2 ⟨v2, rfl, hown2, hb2⟩
      have hB2 := below_call hb hb2
      have hL2 : (l ++ be4 (crc l)).length = n + 4 := by rw [List.length_append, ← HN.out]; rfl
      have hownx := hown'.below hb2
      have hrd2 := hrd1.below hb2
      obtain ⟨a2, c2, hv2, hcap2, hmax2, -⟩ := id hown2.rd
      rw [hL2] at hv2 hcap2
      subst hv2
      unfold maxLen at hmax2
      have hne : (((n : Int) + 4) != ((n : Int) + 4)) = false := by simp
      have hrdS : Rd w2 (.slice (Option.map (fun x => x.add n) a2) 4 (c2 - n)) (be4 (crc l)) := by
        have hcut := hown2.rd.cut n (n + 4) (by omega) (by rw [hL2]; omega)
        rw [List.take_of_length_le (by rw [hL2]; omega), show n + 4 - n = 4 by omega] at hcut
        have hdr : (l ++ be4 (crc l)).drop n = be4 (crc l) := by rw [HN.out, List.drop_left]
        rw [hdr] at hcut
        exact hcut
      rw [HLK.out] at hownx
      have hgr : g < wr.heap.size := (World.ownsRow.lt hown g rfl).2
      clear hown' hb2 hrd1 hown
      have hsz2 := hB2.size
      have hlyk : y.length + (be4 (crc l)).length ≤ 140737488355328 := by
        rw [HLK.out]
        show n + 4 ≤ _
        omega
      have HLY : Hid _ := hlyk
      clear hlyk
      obtain ⟨ck, HCKL⟩ := named (be4 (crc l))
      rw [← HCKL.out] at hrdS HLY HUN
      go_wp2_with (at_builtin; go_must (refine wpList_append_keeps _ rfl (.tmp 82) (.tmp 86) 22 rfl i0 Try.underlying22 hi hz0 hz1 hz2 w.heap.size _ _ rfl rfl y ck hownx hrdS HLY.out hsz2 ?_))
      intro v3 w3 hown3 hg3 hrdx
      have hB3 : Below w.heap.size w w3 := hB2.grown hg3 hsz2 (fun k hk => (World.ownsRow.lt hownx k hk).1)
      have hgx : w2.grownBy w3 (some g) := hg3
      have hown3s := hown2.apart hgx hgr
      clear hown2 hg3 hgx hrdS hrd2 hownx
      have hrd3 := hrd.below hB3
      have hlen3 : (y ++ ck).length ≤ 140737488355000 := by
        rw [List.length_append, HLK.out, HCKL.out]
        show n + 4 ≤ _
        omega
      have HL3 : Hid _ := hlen3
      clear hlen3
      obtain ⟨E, HE⟩ := named (unsealL (y ++ ck)).2
      have hE0 : ((E : Int) == 0) = same := by
        rw [HE.out, HUN.out, HSM.out]
        by_cases e : y = l
        · rw [if_pos e, decide_eq_true e]; rfl
        · rw [if_neg e, decide_eq_false e]; rfl
      have hE1 : ((E : Int) == 12) = !same := by
        rw [HE.out, HUN.out, HSM.out]
        by_cases e : y = l
        · rw [if_pos e, decide_eq_true e]; rfl
        · rw [if_neg e, decide_eq_false e]; rfl
      have hyl : (y == l) = same := by
        rw [HSM.out, Bool.eq_iff_iff]
        simp
      go_wp2_with fail
      refine (unseal_any _ (y ++ ck) _ hown3.rd HL3.out).mono ?_
      rintro e w4 ⟨v4, rfl, -, hb4⟩
      rw [← HE.out]
      have hB4 := below_call hB3 hb4
      have hrd4 := hrd3.below hb4
      have hrdx4 := hrdx.below hb4
      have hown4s := hown3s.below hb4
      clear hown3 hb4 hrd3 hrdx hown3s hB3
      have hs0 := run_str w4.drew _ y hrdx4.drew
      have hs1 := run_str w4.drew _ l hrd4.drew
      go_wp2_with fail
      go_region
      clear hs0 hs1
      have hL3 : (l ++ ck).length = n + 4 := by rw [HCKL.out]; exact hL2
      go_wp2_with fail
      clear hE0 hE1 hyl hrdx4
      refine (copyBytes_any _ (l ++ ck) _ (by rw [HCKL.out]; exact hown4s.rd.drew) (by rw [hL3]; omega)).mono ?_
      rintro e w5 ⟨v5, rfl, hown5, hb5⟩
      have hb5' : Below w4.heap.size w4 w5 := (Below.refl w4.heap.size w4).drew.trans hb5
      clear hb5
      rcases hown5.shape with ⟨-, h0⟩ | ⟨g5, c5, hv5, hgb5, hg5, hcap5, hmax5, -⟩
      · rw [h0] at hL3; simp at hL3
      subst hv5
      have hown5' : Own w5 w4.heap.size (.slice (some ⟨g5, 0, none⟩) (n + 4) c5) (l ++ ck) := by
        rw [hL3] at hown5
        exact hown5
      have hgb5' : w4.heap.size ≤ g5 := hgb5
      rw [hL3] at hcap5 ⊢
      clear hown5 hgb5 hg5
      unfold maxLen at hmax5
      have hchk := unseal_chk l check HCK.out
      rw [← HCKL.out, ← HN.out] at hchk
      have HCHK : Hid _ := hchk
      clear hchk
      go_wp2_with fail
      go_loopw [19] (fun iv wr => ∃ j : Nat, j ≤ 4 ∧ iv = .int .i64 j ∧ Own wr w4.heap.size (.slice (some ⟨g5, 0, none⟩) (n + 4) c5) (chk (l ++ ck) n check j) ∧ Below w4.heap.size w4 wr) (fun iv _ => 4 - (intOf iv).toNat)
      case atStart => exact ⟨0, by omega, rfl, hown5', hb5'⟩
      case round =>
        obtain ⟨j, hj, rfl, hownt, hbt⟩ := hrel
        have hlt : (chk (l ++ ck) n check j).length = n + 4 := by rw [chk_length, hL3]
        have HLT : Hid _ := hlt
        clear hlt
        by_cases hj4 : j < 4
        · have hj4' : (j : Int) < 4 := by omega
          have hsu : chk (l ++ ck) n check (j + 1) = (chk (l ++ ck) n check j).set (n + j) (xorB ((chk (l ++ ck) n check j).getD (n + j) 0) (check / 2 ^ (8 * j))) := rfl
          obtain ⟨z, HZ⟩ := named (chk (l ++ ck) n check j)
          rw [← HZ.out] at hownt HLT hsu
          have hq : n + j < z.length := by rw [HLT.out]; omega
          have e0 : z.getD (n + j) 0 = z[n + j] := by simp [List.getD, hq]
          rw [e0] at hsu
          have hownt' : Own wr w4.heap.size (.slice (some ⟨g5, 0, none⟩) z.length c5) z := by rw [HLT.out]; exact hownt
          have hcell := hownt'.cell (n + j) hq
          have hfro := hownt'.frozen (n + j)
          have hval := xorB_val z[n + j] check j
          obtain ⟨x, HX⟩ := named (z[n + j]'hq)
          rw [← HX.out] at hcell hsu hval
          have HV : Hid _ := hval
          have HSU : Hid _ := hsu
          clear hval hsu e0
          go_wp2_with fail
          go_region
          go_wp2
          go_roundw
          case rel =>
            refine ⟨j + 1, by omega, by go_num, ?_, (hbt.setCell hgb5' _).drew⟩
            have hst := hownt'.store (n + j) (xorB x (check / 2 ^ (8 * j))) _ HV.out
            rw [HLT.out] at hst
            rw [HSU.out]
            exact hst.drew
          case measure => simp [intOf]; omega
        · obtain rfl : j = 4 := by omega
          have hj4' : ¬ ((4 : Nat) : Int) < 4 := by omega
          clear hj hj4
          obtain ⟨z, HZ⟩ := named (chk (l ++ ck) n check 4)
          rw [← HZ.out] at hownt HLT HCHK
          have hlz : z.length ≤ 140737488355000 := by rw [HLT.out]; omega
          have HLZ : Hid _ := hlz
          clear hlz
          go_wp2_with fail
          obtain ⟨E2, HE2⟩ := named (unsealL z).2
          have hq2 : ((E2 : Int) == 0) = ((check : Int) == 0) := by rw [HE2.out]; exact HCHK.out
          refine (unseal_any _ z _ (by rw [← HLT.out]; rw [← HLT.out] at hownt; exact hownt.rd) HLZ.out).mono ?_
          rintro e w6 ⟨v6, rfl, -, hb6⟩
          rw [← HE2.out]
          have hb46 : Below w4.heap.size w4 w6 := below_call hbt hb6
          have hB6 : Below w.heap.size w w6 := below_call hB4 hb46
          have hrds6 : Rd w6 (.slice a2 (n + 4) c2) (sealN l 1) := by
            have := (hown4s.below hb46).rd
            rw [← HCKL.out] at this
            rw [sealN, sealN, ← HCKL.out]
            exact this
          have hrd6 := hrd.below hB6
          clear hb6 hbt hownt hown5' hb5' hown4s hb46 hrd4 HCHK HLT HZ HLZ
          obtain ⟨q, hqs⟩ : ∃ q : Nat, q = seals % 4 := ⟨_, rfl⟩
          have hq4 : q < 4 := by omega
          have hqI1 : (seals : Int) % 4 = (q : Int) := by omega
          have hqI2 : (seals : Int).tmod 4 = (q : Int) := by rw [Int.tmod_eq_emod_of_nonneg (by omega)]; omega
          clear hqs
          go_wp2_with fail
          clear hq2
          go_loopw [14, 141] (fun sv iv wr => ∃ j : Nat, j ≤ q ∧ iv = .int .u8 j ∧ Rd wr sv (sealN l (j + 1)) ∧ Below w6.heap.size w6 wr) (fun _ iv _ => q - (intOf iv).toNat)
          case atStart => exact ⟨0, by omega, rfl, hrds6, Below.refl _ _⟩
          case round =>
            obtain ⟨j, hj, rfl, hrs, hbs⟩ := hrel
            have hls := sealN_length l (j + 1)
            have HLS : Hid _ := hls
            by_cases hjq : j < q
            · have hjq' : (j : Int) < q := by omega
              obtain ⟨Z, HZ⟩ := named (sealN l (j + 1))
              have hsu : sealN l (j + 1 + 1) = Z ++ be4 (crc Z) := by rw [HZ.out]; rfl
              have HSU : Hid _ := hsu
              rw [← HZ.out] at hrs HLS
              have hlz : Z.length ≤ 140737488355000 := by rw [HLS.out, ← HN.out]; omega
              clear hsu hls
              go_wp2_with fail
              refine (seal_any _ Z _ hrs hlz).mono ?_
              rintro e w7 ⟨v7, rfl, hown7, hb7⟩
              have hb7' := below_call hbs hb7
              have hrd7 := hown7.rd
              clear hb7 hown7 hlz
              go_wp2
              go_roundw
              case rel => exact ⟨j + 1, by omega, by go_num, by rw [HSU.out]; exact hrd7, hb7'⟩
              case measure => simp [intOf]; omega
            · obtain rfl : j = q := by omega
              have hjq' : ¬ (j : Int) < j := by omega
              clear hls hj hjq
              have hb3 := below_call hB6 hbs
              go_wp2_with fail
              go_loopw [14, 149] (fun sv iv wr => ∃ i : Nat, i ≤ j + 1 ∧ iv = .int .u8 i ∧ Rd wr sv (sealN l (j + 1 - i)) ∧ Below w.heap.size w wr) (fun _ iv _ => j + 1 - (intOf iv).toNat)
              case atStart => exact ⟨0, by omega, rfl, hrs, hb3⟩
              case round =>
                obtain ⟨i, hi, rfl, hru, hbu⟩ := hrel
                by_cases hij : i < j + 1
                · obtain ⟨m, hm⟩ : ∃ m, j + 1 - i = m + 1 := ⟨j - i, by omega⟩
                  have hm2 : j + 1 - (i + 1) = m := by omega
                  have hij' : (i : Int) < (j : Int) + 1 := by omega
                  have hls := sealN_length l (m + 1)
                  have hun := unseal_sealN l m
                  rw [hm] at hru
                  obtain ⟨Z, HZ⟩ := named (sealN l (m + 1))
                  rw [← HZ.out] at hru hls hun
                  have hlz : Z.length ≤ 140737488355000 := by rw [hls, ← HN.out]; omega
                  have HUZ : Hid _ := hun
                  have HM2 : Hid _ := hm2
                  clear hls hun hm hm2
                  go_wp2_with fail
                  refine (unseal_any _ Z _ hru hlz).mono ?_
                  rintro e w8 ⟨v8, rfl, hown8, hb8⟩
                  rw [HUZ.out] at hown8 ⊢
                  have hb8' := below_call hbu hb8
                  have hrd8 := hown8.rd
                  clear hb8 hown8 hlz
                  go_wp2
                  go_roundw
                  case rel => exact ⟨i + 1, by omega, by go_num, by rw [HM2.out]; exact hrd8, hb8'⟩
                  case measure => simp [intOf]; omega
                · have hij' : ¬ ((i : Int) < (j : Int) + 1) := by omega
                  rw [show j + 1 - i = 0 by omega, sealN] at hru
                  have hrb := hrd.below hbu
                  have hsA := run_str _ _ l hru
                  have hsB := run_str _ _ l hrb
                  clear hru hrb
                  go_wp2_with fail
                  refine (awake_true _).mono ?_
                  rintro e w9 ⟨rfl, hb9⟩
                  go_wp2
                  go_ret
                  exact ⟨rfl, below_call hbu hb9⟩

theorem seen_walk (v : Value) (l : List UInt8) (at_ change check seals : Nat) (w : World) (hrd : Rd w v l)
    (hat : at_ < 65536) (hch : change < 4294967296) (hck : check < 4294967296) (hse : seals < 256) :
    Calls Try.prog 9 #[v, .int .u16 at_, .int .u32 change, .int .u32 check, .int .u8 seals] w fun e w' => e = .returned (.bool true) ∧ Below w.heap.size w w' := by
  by_cases hbad : l.length = 0 ∨ 300 < l.length
  · exact seen_off v l at_ change check seals w hrd hbad
  · by_cases hc : 8 * l.length - at_ % (8 * l.length) < 32
    · exact seen_part v l at_ change check seals w hrd (by omega) (by omega) hat hch hck hse _ rfl hc
    · exact seen_full v l at_ change check seals w hrd (by omega) (by omega) hat hch hck hse _ rfl (by omega)
end Go.Proofs.Ytgeljaliddedfaa
