/-
  The contracts of inName, mayBe. Own work.
-/
import Derived.Test.YtloigepmmhcibaaDa
namespace Go.Proofs.Ytloigepmmhcibaa
open Go.RowKit

theorem inName_eq (x : UInt8) : inName x = (decide ((97 : Int) ≤ x.toNat) && decide ((x.toNat : Int) ≤ 122) || decide ((48 : Int) ≤ x.toNat) && decide ((x.toNat : Int) ≤ 57) || ((x.toNat : Int) == 46) || ((x.toNat : Int) == 45)) := by
  have : ∀ y : Fin 256, inName (UInt8.ofNat y.val) = (decide ((97 : Int) ≤ (UInt8.ofNat y.val).toNat) && decide (((UInt8.ofNat y.val).toNat : Int) ≤ 122) || decide ((48 : Int) ≤ (UInt8.ofNat y.val).toNat) && decide (((UInt8.ofNat y.val).toNat : Int) ≤ 57) || (((UInt8.ofNat y.val).toNat : Int) == 46) || (((UInt8.ofNat y.val).toNat : Int) == 45)) := by decide +kernel
  have h := this ⟨x.toNat, x.toNat_lt⟩
  simpa using h

set_option maxRecDepth 100000 in
set_option maxHeartbeats 400000 in
theorem inName_any (x : UInt8) (w : World) : Calls Try.prog 83 #[.int .u8 x.toNat] w fun e w' => e = .returned (.bool (inName x)) ∧ w' = w := by
  have HE : Hid _ := inName_eq x
  obtain ⟨r, HR⟩ := named (inName x)
  rw [← HR.out] at HE ⊢
  obtain ⟨n, HN⟩ := named x.toNat
  rw [← HN.out] at HE ⊢
  go_enter Try.func83, Try.ntmps83
  go_wp2
  all_goals go_ret
  all_goals exact ⟨ret_bool (by rw [HE.out, Bool.eq_iff_iff]; first | (simp [*]; done) | (simp; omega) | (simp [*]; omega)), rfl⟩

theorem all_take (l : List UInt8) (k : Nat) (h : k < l.length) : (l.take (k + 1)).all inName = ((l.take k).all inName && inName l[k]) := by
  rw [List.take_succ_eq_append_getElem h, List.all_append]; simp only [List.all_cons, List.all_nil, Bool.and_true]

set_option maxRecDepth 100000 in
set_option maxHeartbeats 400000 in
theorem mayBe_any (n : ByteArray) (w : World) (hmax : n.size ≤ 140737488355328) : Calls Try.prog 50 #[.string n] w fun e w' => e = .returned (.bool (right n)) ∧ w' = w := by
  obtain ⟨r, HR⟩ := named (right n)
  rw [← HR.out]
  by_cases h1 : (n.size : Int) < 1
  · have HE : Hid (r = false) := by rw [HR.out]; unfold right; simp [Hid]; omega
    rw [HE.out]
    go_enter Try.func50, Try.ntmps50
    go_wp2
    go_ret
    exact ⟨rfl, rfl⟩
  · by_cases h2 : 60 < (n.size : Int)
    · have HE : Hid (r = false) := by rw [HR.out]; unfold right; simp [Hid]; omega
      rw [HE.out]
      go_enter Try.func50, Try.ntmps50
      go_wp2
      go_ret
      exact ⟨rfl, rfl⟩
    · have HE : Hid (r = n.data.toList.all inName) := by
        rw [HR.out]; unfold right
        have e1 : decide (1 ≤ n.size) = true := by simp; omega
        have e2 : decide (n.size ≤ 60) = true := by simp; omega
        rw [e1, e2]
        rfl
      have hsz : n.data.toList.length = n.size := rfl
      go_enter Try.func50, Try.ntmps50
      go_wp2
      go_loop [14] (fun iv => ∃ k : Nat, k ≤ n.size ∧ iv = .int .i64 k ∧ (n.data.toList.take k).all inName = true) (fun iv => n.size - (intOf iv).toNat)
      case atStart => exact ⟨0, by omega, rfl, rfl⟩
      case round =>
        obtain ⟨k, hk, rfl, hall⟩ := hrel
        have HA : Hid _ := hall
        clear hall
        by_cases hlt : k < n.size
        · have HT : Hid _ := all_take n.data.toList k (by rw [hsz]; exact hlt)
          rw [HA.out] at HT
          go_wp2_with fail
          refine (inName_any _ _).mono ?_
          rintro e w1 ⟨rfl, hw1⟩
          subst hw1
          have HX : Hid (inName n.data.toList[k] = inName n[k]) := rfl
          cases hin : inName n[k] with
          | true =>
            go_wp2
            go_round
            case rel => exact ⟨k + 1, by omega, by go_num, by rw [HT.out, HX.out, hin]; rfl⟩
            case measure => simp [intOf]; omega
          | false =>
            have HK : Hid (r = false) := by
              rw [HE.out]
              have h3 : (n.data.toList.take (k + 1)).all inName = false := by rw [HT.out, HX.out, hin]; rfl
              cases h4 : n.data.toList.all inName with
              | false => rfl
              | true =>
                rw [← List.take_append_drop (k + 1) n.data.toList, List.all_append, h3] at h4
                simp at h4
            go_wp2
            go_ret
            exact ⟨by rw [HK.out]; rfl, rfl⟩
        · have HK : Hid (r = true) := by
            rw [HE.out]
            have := HA.out
            rw [List.take_of_length_le (by rw [hsz]; omega)] at this
            exact this
          go_wp2
          go_ret
          exact ⟨by rw [HK.out]; rfl, rfl⟩
end Go.Proofs.Ytloigepmmhcibaa
