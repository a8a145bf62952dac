/-
  A body of which up to four bytes running are turned. Own work, no walk.
-/
import Derived.Test.YtlpjfcfajagobaaFd
namespace Go.Proofs.Ytlpjfcfajagobaa
open Go.RowKit

theorem be4_inj {a b : BitVec 32} (h : be4 a = be4 b) : a = b := by
  unfold be4 at h
  simp only [List.cons.injEq, and_true] at h
  have e : ∀ x y : Nat, UInt8.ofNat x = UInt8.ofNat y → x % 256 = y % 256 := fun x y h => by
    have := congrArg UInt8.toNat h
    simpa [UInt8.toNat_ofNat'] using this
  have h1 := e _ _ h.1
  have h2 := e _ _ h.2.1
  have h3 := e _ _ h.2.2.1
  have h4 := e _ _ h.2.2.2
  apply BitVec.eq_of_toNat_eq
  have := a.isLt
  have := b.isLt
  omega
theorem unseal_changed (l x : List UInt8) (h : crc x = crc l → x = l) : unsealL (x ++ be4 (crc l)) = if x = l then (x, 0) else ([], 12) := by
  have h4 : (be4 (crc l)).length = 4 := rfl
  unfold unsealL
  rw [if_neg (by rw [List.length_append, h4]; omega), List.length_append, h4, show x.length + 4 - 4 = x.length by omega, List.drop_left, List.take_left]
  by_cases e : x = l
  · rw [if_pos e, if_pos (by rw [e])]
  · rw [if_neg e, if_neg]
    intro hc
    apply e
    apply h
    exact be4_inj hc.symm

def xorB (x y : UInt8) : UInt8 := UInt8.ofNat (x.toNat ^^^ y.toNat)
theorem xorB_val (x y : UInt8) : bits BinOp.xor IntKind.u8 (x.toNat : Int) (y.toNat : Int) = ((xorB x y).toNat : Int) := by
  rw [u8_xor_nat _ _ x.toNat_lt y.toNat_lt]
  unfold xorB
  rw [UInt8.toNat_ofNat']
  have : x.toNat ^^^ y.toNat < 2 ^ 8 := Nat.xor_lt_two_pow x.toNat_lt y.toNat_lt
  omega
theorem xorB_same (x y : UInt8) : xorB x y = x ↔ y = 0 := by
  have hlt : x.toNat ^^^ y.toNat < 2 ^ 8 := Nat.xor_lt_two_pow x.toNat_lt y.toNat_lt
  rw [← UInt8.toNat_inj]
  unfold xorB
  rw [UInt8.toNat_ofNat', Nat.mod_eq_of_lt hlt]
  constructor
  · intro h
    have h2 : x.toNat ^^^ (x.toNat ^^^ y.toNat) = x.toNat ^^^ x.toNat := by rw [h]
    rw [← Nat.xor_assoc, Nat.xor_self, Nat.zero_xor] at h2
    rw [← UInt8.toNat_inj, h2]
    rfl
  · intro h
    subst h
    simp
/-- the bytes from a on, k of them, turned -/
def tw (l : List UInt8) (t : Nat → UInt8) (a : Nat) : Nat → List UInt8
  | 0 => l
  | k + 1 => (tw l t a k).set (a + k) (xorB ((tw l t a k).getD (a + k) 0) (t k))
/-- is one of the first k not 0? -/
def anyT (t : Nat → UInt8) : Nat → Bool
  | 0 => false
  | k + 1 => anyT t k || decide (t k ≠ 0)
theorem tw_length (l : List UInt8) (t : Nat → UInt8) (a k : Nat) : (tw l t a k).length = l.length := by
  induction k with
  | zero => rfl
  | succ k ih => rw [tw, List.length_set, ih]
theorem tw_get (l : List UInt8) (t : Nat → UInt8) (a k j : Nat) (h : a + k ≤ l.length) : (tw l t a k)[j]? = if a ≤ j ∧ j < a + k then (l[j]?).map (fun x => xorB x (t (j - a))) else l[j]? := by
  induction k with
  | zero => rw [tw, if_neg (by omega)]
  | succ k ih =>
    have ih := ih (by omega)
    rw [tw, List.getElem?_set]
    by_cases hj : a + k = j
    · subst hj
      rw [if_pos rfl, if_pos (by rw [tw_length]; omega), if_pos (by omega)]
      have e : (tw l t a k).getD (a + k) 0 = l[a + k]'(by omega) := by
        have h2 : (tw l t a k)[a + k]? = l[a + k]? := by
          have : (tw l t a k)[a + k]? = if a ≤ a + k ∧ a + k < a + k then (l[a + k]?).map (fun x => xorB x (t (a + k - a))) else l[a + k]? := ih
          rw [this, if_neg (by omega)]
        unfold List.getD
        rw [h2, List.getElem?_eq_getElem (by omega)]
        rfl
      rw [e, List.getElem?_eq_getElem (by omega), show a + k - a = k by omega]
      rfl
    · rw [if_neg hj, ih]
      by_cases hin : a ≤ j ∧ j < a + k
      · rw [if_pos hin, if_pos (by omega)]
      · rw [if_neg hin, if_neg (by omega)]
theorem tw_parts (l : List UInt8) (t : Nat → UInt8) (a k : Nat) (h : a + k ≤ l.length) : ∃ m', m'.length = k ∧ tw l t a k = l.take a ++ (m' ++ l.drop (a + k)) ∧ l = l.take a ++ ((l.drop a).take k ++ l.drop (a + k)) := by
  refine ⟨((tw l t a k).drop a).take k, ?_, ?_, ?_⟩
  · rw [List.length_take, List.length_drop, tw_length]; omega
  · have e1 : (tw l t a k).take a = l.take a := by
      apply List.ext_getElem?
      intro j
      rw [List.getElem?_take, List.getElem?_take]
      by_cases hj : j < a
      · rw [if_pos hj, if_pos hj, tw_get l t a k j h, if_neg (by omega)]
      · rw [if_neg hj, if_neg hj]
    have e2 : (tw l t a k).drop (a + k) = l.drop (a + k) := by
      apply List.ext_getElem?
      intro j
      rw [List.getElem?_drop, List.getElem?_drop, tw_get l t a k _ h, if_neg (by omega)]
    rw [← e1, ← e2]
    have e3 : List.drop (a + k) (tw l t a k) = List.drop k (List.drop a (tw l t a k)) := by rw [List.drop_drop]
    rw [e3, List.take_append_drop, List.take_append_drop]
  · have e3 : List.drop (a + k) l = List.drop k (List.drop a l) := by rw [List.drop_drop]
    rw [e3, List.take_append_drop, List.take_append_drop]
theorem tw_same (l : List UInt8) (t : Nat → UInt8) (a k : Nat) (h : a + k ≤ l.length) : tw l t a k = l ↔ anyT t k = false := by
  have hany : anyT t k = false ↔ ∀ j, j < k → t j = 0 := by
    induction k with
    | zero => simp [anyT]
    | succ k ih =>
      rw [anyT, Bool.or_eq_false_iff, ih (by omega)]
      constructor
      · rintro ⟨h1, h2⟩ j hj
        by_cases e : j = k
        · subst e; simpa using h2
        · exact h1 j (by omega)
      · intro h
        exact ⟨fun j hj => h j (by omega), by simpa using h k (by omega)⟩
  rw [hany]
  constructor
  · intro he j hj
    have hg := tw_get l t a k (a + j) h
    rw [he, if_pos (by omega), List.getElem?_eq_getElem (by omega), Option.map_some] at hg
    have := Option.some.inj hg
    rw [show a + j - a = j by omega] at this
    exact (xorB_same _ _).1 this.symm
  · intro hz
    apply List.ext_getElem?
    intro j
    rw [tw_get l t a k j h]
    split
    · rename_i hj
      rw [List.getElem?_eq_getElem (by omega), Option.map_some, hz (j - a) (by omega)]
      congr 1
      exact (xorB_same _ _).2 rfl
    · rfl
theorem tw_crc (l : List UInt8) (t : Nat → UInt8) (a k : Nat) (hk : k ≤ 4) (h : a + k ≤ l.length) (hc : crc (tw l t a k) = crc l) : tw l t a k = l := by
  obtain ⟨m', hm, e1, e2⟩ := tw_parts l t a k h
  rw [e1] at hc ⊢
  have hml : ((l.drop a).take k).length = k := by rw [List.length_take, List.length_drop]; omega
  have := crc_four (l.take a) ((l.drop a).take k) m' (l.drop (a + k)) (by omega) (by omega) (by rw [← e2]; exact hc.symm)
  rw [← this]
  exact e2.symm
/-- of a turned frame ErrSum is told just if one of the bytes is another one -/
theorem getF_turned (l : List UInt8) (t : Nat → UInt8) (a k : Nat) (h0 : 0 < l.length) (h1 : l.length ≤ 300) (hk : k ≤ 4) (h : a + k ≤ l.length) :
    (getF (U l.length ++ ((tw l t a k ++ be4 (crc l)) ++ [165])) 0).2.2 = if anyT t k then 12 else 0 := by
  have hp := getF_parts l.length [] (tw l t a k ++ be4 (crc l)) [] 165 h0 (by omega) (by rw [List.length_append, tw_length, be4_len])
  simp only [List.nil_append, List.length_nil] at hp
  have hp' : getF (U l.length ++ ((tw l t a k ++ be4 (crc l)) ++ [165])) 0 = _ := hp
  have hu := unseal_changed l _ (tw_crc l t a k hk h)
  have hs := tw_same l t a k h
  cases hb : anyT t k with
  | true =>
    rw [if_neg (by rw [hs, hb]; simp)] at hu
    rw [hp', hu]
    simp
  | false =>
    rw [if_pos (hs.2 hb)] at hu
    rw [hp', hu]
    simp
theorem getF_last (l : List UInt8) (x : UInt8) (h0 : 0 < l.length) (h1 : l.length ≤ 300) :
    (getF (U l.length ++ ((l ++ be4 (crc l)) ++ [x])) 0).2.2 = if x = 165 then 0 else 10 := by
  have hp := getF_parts l.length [] (l ++ be4 (crc l)) [] x h0 (by omega) (by rw [List.length_append, be4_len])
  simp only [List.nil_append, List.length_nil] at hp
  have hp' : getF (U l.length ++ ((l ++ be4 (crc l)) ++ [x])) 0 = _ := hp
  rw [hp', unseal_sealed]
  by_cases hx : x = 165
  · rw [if_neg (by simpa using hx), if_pos hx]
    simp
  · rw [if_pos hx, if_neg hx]
end Go.Proofs.Ytlpjfcfajagobaa
