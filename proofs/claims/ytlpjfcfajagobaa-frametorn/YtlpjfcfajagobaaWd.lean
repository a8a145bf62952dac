/-
  The contracts of bytes.Crc, check, Seal. Own work.
-/
import Derived.Test.YtlpjfcfajagobaaWc
namespace Go.Proofs.Ytlpjfcfajagobaa
open Go.RowKit

set_option maxRecDepth 100000 in
set_option maxHeartbeats 800000 in
theorem crc_any (v : Value) (l : List UInt8) (w : World) (hrd : Rd w v l) :
    Calls Try.prog 39 #[v] w fun e w' => e = .returned (.int .u32 (crc l).toNat) ∧ w = w' := by
  rcases hrd.cases with ⟨rfl, ao, cap, rfl, h1, h2⟩ | ⟨b, off, cap, rfl, h1, h2, h3, h4, h5⟩
  · clear h1 h2 hrd
    have HE : Hid (bits .xor .u32 IntKind.u32.max 4294967295 = ((crc []).toNat : Int)) := crc_not (BitVec.allOnes 32)
    obtain ⟨R, HR⟩ := named (crc [])
    rw [← HR.out] at HE ⊢
    go_enter Try.func39, Try.ntmps39
    go_wp2
    refine wp_loop_rounds 1 ?_
    rw [rounds_succ]
    go_wp2
    go_ret
    exact ⟨ret_int HE.out, rfl⟩
  · have HC : Hid _ := h5
    obtain ⟨n, HN⟩ := named l.length
    rw [← HN.out] at h1 h2 ⊢
    unfold maxLen at h3
    have HRR : Hid (crc l = ~~~ crcReg (BitVec.allOnes 32) l) := rfl
    obtain ⟨R, HR⟩ := named (crc l)
    rw [← HR.out] at HRR ⊢
    clear h5 hrd
    go_enter Try.func39, Try.ntmps39
    go_wp2
    go_loop [3, 8] (fun rv iv => ∃ (k : Nat) (r : BitVec 32), k ≤ n ∧ iv = .int .i64 k ∧ rv = .int .u32 r.toNat ∧ r = crcReg (BitVec.allOnes 32) (l.take k)) (fun _ iv => n - (intOf iv).toNat)
    case atStart => exact ⟨0, BitVec.allOnes 32, by omega, rfl, rfl, rfl⟩
    case round =>
      obtain ⟨k, r, hk, rfl, rfl, hr⟩ := hrel
      have HK : Hid _ := hr
      clear hr
      by_cases hlt : k < n
      · have hkl : k < l.length := by rw [← HN.out]; omega
        have hc := HC.out k hkl
        have hsn : crcReg (BitVec.allOnes 32) (l.take (k + 1)) = crcByte r l[k] := by
          rw [List.take_succ_eq_append_getElem hkl, crcReg_snoc, ← HK.out]
        obtain ⟨x, HX⟩ := named (l[k]'hkl)
        rw [← HX.out] at hc hsn
        have HS : Hid _ := hsn
        have HI : Hid _ := crc_in r x
        clear hsn
        go_wp2
        rw [HI.out]
        have HB : Hid (crcByte r x = crcBits 8 (r ^^^ BitVec.ofNat 32 x.toNat)) := rfl
        obtain ⟨r0, H0⟩ := named (r ^^^ BitVec.ofNat 32 x.toNat)
        rw [← H0.out] at HB ⊢
        go_loop [3, 16] (fun rv iv => ∃ (j : Nat) (r : BitVec 32), j ≤ 8 ∧ iv = .int .i64 j ∧ rv = .int .u32 r.toNat ∧ crcBits (8 - j) r = crcBits 8 r0) (fun _ iv => 8 - (intOf iv).toNat)
        case atStart => exact ⟨0, r0, by omega, rfl, rfl, rfl⟩
        case round =>
          obtain ⟨j, r2, hj, rfl, rfl, hr2⟩ := hrel
          have HJ : Hid _ := hr2
          clear hr2
          by_cases hlt2 : j < 8
          · have HT : Hid _ := crc_bit r2
            go_wp2
            go_round
            case rel =>
              refine ⟨j + 1, crcBit r2, by omega, by go_num, congrArg (Value.int .u32) HT.out, ?_⟩
              rw [← HJ.out, show 8 - j = (8 - (j + 1)) + 1 by omega, crcBits]
            case measure => simp [intOf]; omega
          · go_wp2
            go_round
            case rel =>
              refine ⟨k + 1, r2, by omega, by go_num, rfl, ?_⟩
              rw [HS.out, HB.out, ← HJ.out, show 8 - j = 0 by omega, crcBits]
            case measure => simp [intOf]; omega
      · have HT : Hid _ := crc_not r
        have hfin : crcReg (BitVec.allOnes 32) l = r := by
          rw [HK.out, List.take_of_length_le (by rw [← HN.out]; omega)]
        have HF : Hid _ := hfin
        clear hfin
        go_wp2
        go_ret
        exact ⟨ret_int (by rw [HRR.out, HF.out]; exact HT.out), rfl⟩
end Go.Proofs.Ytlpjfcfajagobaa
