/-
  Several of my texts in one: Base Spec Wa Wb Wc Wd We Wg Wf Low Fe Math Mathe. Own work.
-/
import Derived.WalkKit
import Derived.Laws.AppendOwnNone
import Derived.Lib.AppendZerosOnto
import Derived.Test.YtpiiehenmkinaaaDoorRows
import Derived.WalkSpells
import Derived.WalkLawsBesides
import Derived.Deep.QuietTactic
import Derived.BigQuiet
import Derived.Deep.RegionWith
import Derived.Lib.SlBytesConst
/-
  What bytes in memory are: plain lemmas, with no walk. Own work.
-/
namespace Go.Proofs.YtpiiehenmkinaaaDoor
open Go.RowKit

/-- a name for a term, kept from the walk -/
theorem named {α : Type} (a : α) : ∃ x, Hid (x = a) := ⟨a, rfl⟩

/-- bytes as the cells that hold them -/
def BV (l : List UInt8) : List Value := l.map fun x => .int .u8 (x.toNat : Int)

theorem BV_length (l : List UInt8) : (BV l).length = l.length := by simp [BV]
theorem BV_append (a b : List UInt8) : BV (a ++ b) = BV a ++ BV b := by simp [BV]
theorem BV_get {l : List UInt8} {j : Nat} {u : Value} (h : (BV l)[j]? = some u) : ∃ hj : j < l.length, u = .int .u8 (l[j].toNat : Int) := by
  simp [BV, List.getElem?_map] at h
  obtain ⟨a, ha, rfl⟩ := h
  obtain ⟨hj, rfl⟩ := List.getElem?_eq_some_iff.1 ha
  exact ⟨hj, rfl⟩
theorem BV_one (l : List UInt8) : ∀ u ∈ BV l, u.oneCell' = true := by
  intro u hu
  simp [BV] at hu
  obtain ⟨a, _, rfl⟩ := hu
  rfl

/-- a slice that reads as these bytes -/
def Rd (w : World) (v : Value) (l : List UInt8) : Prop :=
  ∃ ao cap, v = .slice ao l.length cap ∧ l.length ≤ cap ∧ cap ≤ maxLen ∧ (ao = none → cap = 0) ∧ ∀ a, ao = some a → ∀ i (h : i < l.length), w.cell? (a.add i) = some (.int .u8 (l[i].toNat : Int))

/-- a slice that the call itself has made, and that holds these bytes -/
def Own (w : World) (base : Nat) (v : Value) (l : List UInt8) : Prop := w.ownsRow base 5 1 v l.length (BV l)

theorem Rd.nil (w : World) : Rd w (.slice none 0 0) [] := ⟨none, 0, rfl, Nat.le_refl _, by simp [maxLen], fun _ => rfl, fun a h => by cases h⟩

theorem Rd.below {w w' : World} {v : Value} {l : List UInt8} (h : Rd w v l) (hb : Below w.heap.size w w') : Rd w' v l := by
  obtain ⟨ao, cap, hv, h1, h2, h3, h4⟩ := h
  refine ⟨ao, cap, hv, h1, h2, h3, fun a ha i hi => ?_⟩
  have hc := h4 a ha i hi
  rw [hb.cell (World.block_lt_of_cell? w _ hc)]
  exact hc

theorem Rd.drew {w : World} {v : Value} {l : List UInt8} (h : Rd w v l) : Rd w.drew v l := h

theorem Rd.alloc {w : World} {v : Value} {l : List UInt8} (h : Rd w v l) (o : Obj) : Rd (w.alloc o) v l := h.below ((Below.refl _ _).alloc (Nat.le_refl _) _)

theorem Own.rd {w : World} {base : Nat} {v : Value} {l : List UInt8} (h : Own w base v l) : Rd w v l := by
  rcases h.2 with ⟨rfl, h0⟩ | ⟨g, cap, cur, hv, hb, hg, hn, hm, hs, ht⟩
  · have : l = [] := List.eq_nil_of_length_eq_zero h0
    subst this
    exact Rd.nil w
  · refine ⟨some ⟨g, 0, none⟩, cap, hv, hn, hm, by simp, fun a ha i hi => ?_⟩
    obtain rfl := Option.some.inj ha
    exact h.cells (g := g) (by rw [hv]; rfl) i _ (by simp [BV, hi])

theorem Own.alloc {w : World} {base : Nat} {v : Value} {l : List UInt8} (h : Own w base v l) (o : Obj) : Own (w.alloc o) base v l := World.ownsRow.alloc h o
theorem Own.drew {w : World} {base : Nat} {v : Value} {l : List UInt8} (h : Own w base v l) : Own w.drew base v l := h
theorem Own.mono {w : World} {base base' : Nat} {v : Value} {l : List UInt8} (h : Own w base v l) (hb : base' ≤ base) : Own w base' v l := by
  refine ⟨h.1, ?_⟩
  rcases h.2 with h2 | ⟨g, cap, cur, hv, hb2, r⟩
  · exact .inl h2
  · exact .inr ⟨g, cap, cur, hv, by omega, r⟩
theorem Own.below {w w' : World} {base : Nat} {v : Value} {l : List UInt8} (h : Own w base v l) (hb : Below w.heap.size w w') : Own w' base v l := by
  refine ⟨h.1, ?_⟩
  rcases h.2 with h2 | ⟨g, cap, cur, hv, hb2, hg, r⟩
  · exact .inl h2
  · exact .inr ⟨g, cap, cur, hv, hb2, by rw [hb.block g (Array.getElem?_eq_some_iff.1 hg).1]; exact hg, r⟩
theorem Own.nil (w : World) (base : Nat) : Own w base (.slice none 0 0) [] := World.ownsRow_nil _ _ _ _
theorem Own.shape {w : World} {base : Nat} {v : Value} {l : List UInt8} (h : Own w base v l) : (v = .slice none 0 0 ∧ l = []) ∨ ∃ g cap, v = .slice (some ⟨g, 0, none⟩) l.length cap ∧ base ≤ g ∧ g < w.heap.size ∧ l.length ≤ cap ∧ cap ≤ maxLen ∧ ∀ i (h : i < l.length), w.cell? ⟨g, i, none⟩ = some (.int .u8 (l[i].toNat : Int)) := by
  rcases h.2 with ⟨rfl, h0⟩ | ⟨g, cap, cur, hv, hb, hg, hn, hm, hs, ht⟩
  · exact .inl ⟨rfl, List.eq_nil_of_length_eq_zero h0⟩
  · refine .inr ⟨g, cap, hv, hb, (Array.getElem?_eq_some_iff.1 hg).1, hn, hm, fun i hi => ?_⟩
    have := h.cells (g := g) (by rw [hv]; rfl) i (.int .u8 (l[i].toNat : Int)) (by simp [BV, hi])
    rw [← this]
    congr 1
    unfold Addr.add
    split <;> simp_all

/-- the two shapes of a slice that is read -/
theorem Rd.cases {w : World} {v : Value} {l : List UInt8} (h : Rd w v l) :
    (l = [] ∧ ∃ ao cap, v = .slice ao 0 cap ∧ cap ≤ maxLen ∧ (ao = none → cap = 0)) ∨
    ∃ b off cap, v = .slice (some ⟨b, off, none⟩) l.length cap ∧ 0 < l.length ∧ l.length ≤ cap ∧ cap ≤ maxLen ∧ b < w.heap.size ∧ ∀ i (h : i < l.length), w.cell? ⟨b, off + i, none⟩ = some (.int .u8 (l[i].toNat : Int)) := by
  obtain ⟨ao, cap, hv, h1, h2, h3, h4⟩ := h
  by_cases hl : l = []
  · subst hl
    exact .inl ⟨rfl, ao, cap, hv, h2, h3⟩
  · have hp : 0 < l.length := by
      cases l with
      | nil => exact absurd rfl hl
      | cons a t => simp
    cases ao with
    | none => have := h3 rfl; omega
    | some a =>
      obtain ⟨b, off, sp⟩ := a
      have h0 := h4 _ rfl 0 hp
      have hsp : sp = none := by
        cases sp with
        | none => rfl
        | some x =>
          simp [Addr.add, World.cell?] at h0
          split at h0 <;> simp at h0
      subst hsp
      refine .inr ⟨b, off, cap, hv, hp, h1, h2, World.block_lt_of_cell? w _ h0, fun i hi => ?_⟩
      have := h4 _ rfl i hi
      rw [← this]
      congr 1
      unfold Addr.add
      split <;> simp_all

theorem Rd.len_le {w : World} {v : Value} {l : List UInt8} (h : Rd w v l) : l.length ≤ maxLen := by
  obtain ⟨ao, cap, hv, h1, h2, h3, h4⟩ := h
  omega

/-- append onto an owned row, from whatever is read -/
theorem run_append_rd {P : Program} (w : World) (t ty : TypeId) (i : TypeInfo) (ht : P.underlying t = some (.slice 5)) (hi : P.info? 5 = some i) (hz : i.zero = some (.int .u8 0)) (h1 : i.size = 1) (h2 : i.bytes = 1)
    (base : Nat) (v s : Value) (l m : List UInt8) (hown : Own w base v l) (hs : Rd w s m) (hlen : l.length + m.length ≤ 140737488355328) (hbase : base ≤ w.heap.size) :
    ∃ v' w', (Builtin.append_ #[t, t] ty #[v, s]).run P w = .ok v' w' ∧ Own w' base v' (l ++ m) ∧ w.grownBy w' v.ownBlock := by
  have hmax : l.length + m.length ≤ maxLen := by unfold maxLen; omega
  obtain ⟨ao, cap, rfl, h3, h4, h5, h6⟩ := hs
  cases ao with
  | none =>
    have hc := h5 rfl
    subst hc
    have hm : m = [] := List.eq_nil_of_length_eq_zero (by omega)
    subst hm
    refine ⟨v, w, run_append_owned_none (P := P) (w := w) base t ty 5 i 1 ht hi v l.length (BV l) hown, by simpa using hown, World.grownBy.refl _ _⟩
  | some a =>
    obtain ⟨v', w', hr, ho, hg, _⟩ := run_append_own (P := P) w base t ty 5 i (.int .u8 0) 1 1 ht hi hz h1 h2 rfl (by decide) v l.length (BV l) hown a m.length cap (BV m) (by simp [BV_length])
      (fun j u hj => by obtain ⟨hj', rfl⟩ := BV_get hj; exact h6 a rfl j hj') (BV_one m) hmax (by omega) hbase
    refine ⟨v', w', hr, ?_, hg⟩
    unfold Own
    rw [BV_append, List.length_append]
    exact ho

theorem wpList_append_rd {P : Program} (w : World) {ops : Array Oper} {rest : List Oper} {o : Oper} {a : Act} {Q : Exit → Act → World → Prop} (hgd : o.guard = none) (s x : Operand) (t : TypeId)
    (ho : o.op = .call { callee := .builtin .append, args := #[s, x], argTypes := #[t, t] })
    (i : TypeInfo) (ht : P.underlying t = some (.slice 5)) (hi : P.info? 5 = some i) (hz : i.zero = some (.int .u8 0)) (h1 : i.size = 1) (h2 : i.bytes = 1)
    (base : Nat) (v sv : Value) (hs : a.eval s = v) (hx : a.eval x = sv) (l m : List UInt8) (hown : Own w base v l) (hrd : Rd w sv m) (hlen : l.length + m.length ≤ 140737488355328) (hbase : base ≤ w.heap.size)
    (h : ∀ v' w', Own w' base v' (l ++ m) → w.grownBy w' v.ownBlock → wpList P ops Q rest (a.put o.dst v') w') : wpList P ops Q (o :: rest) a w := by
  obtain ⟨v', w', hr, h3, h4⟩ := run_append_rd (P := P) w t o.type i ht hi hz h1 h2 base v sv l m hown hrd hlen hbase
  exact Lib.wpList_append_run w hgd s x t t ho v sv hs hx v' w' hr (h v' w' h3 h4)

/-- a new block of bytes that is read -/
theorem Rd.new (w : World) (l : List UInt8) (e : TypeId) (hl : l.length ≤ maxLen) : Rd (w.alloc (.cells (BV l).toArray e)) (.slice (some ⟨w.heap.size, 0, none⟩) l.length l.length) l := by
  refine ⟨_, _, rfl, Nat.le_refl _, hl, by simp, fun a ha i hi => ?_⟩
  obtain rfl := Option.some.inj ha
  have : (⟨w.heap.size, 0, none⟩ : Addr).add i = ⟨w.heap.size, i, none⟩ := by unfold Addr.add; split <;> simp_all
  rw [this]
  rw [cell_of_row _ w.heap.size i (BV l).toArray e (0, 0) (heap_alloc_new w _)]
  simp [BV, hi]

theorem Rd.one (w : World) (x : UInt8) (n : Int) (e : TypeId) (h : n = x.toNat) : Rd (w.alloc (.cells #[.int .u8 n] e)) (.slice (some ⟨w.heap.size, 0, none⟩) 1 1) [x] := by
  subst h
  exact Rd.new w [x] e (by simp [maxLen])

/-- what is grown is below as it was -/
theorem Own.belowGrown {w w' : World} {base : Nat} {v : Value} {l : List UInt8} (h : Own w base v l) (hg : w.grownBy w' v.ownBlock) (hb : base ≤ w.heap.size) : Below base w w' :=
  (Below.refl _ _).grown hg hb (fun k hk => (World.ownsRow.lt h k hk).1)

end Go.Proofs.YtpiiehenmkinaaaDoor

/-
  What the numbers are as bytes: plain functions and lemmas, with no walk. Own work.
-/
namespace Go.Proofs.YtpiiehenmkinaaaDoor
open Go.RowKit

def sev : Nat → Nat → List UInt8
  | 0, _ => []
  | f + 1, n => if n < 128 then [UInt8.ofNat n] else UInt8.ofNat (n % 128 + 128) :: sev f (n / 128)

/-- a number without a sign as bytes -/
def U (n : Int) : List UInt8 := sev 10 n.toNat

theorem or128 (m : Nat) : bits BinOp.or IntKind.u8 ((m : Int) % 256) 128 = ((UInt8.ofNat (m % 128 + 128)).toNat : Int) := by
  have h : ((m : Int) % 256) = ((m % 256 : Nat) : Int) := by omega
  rw [h, show (128 : Int) = ((128 : Nat) : Int) from rfl, u8_or_nat (m % 256) 128 (by omega) (by omega)]
  congr 1
  rw [UInt8.toNat_ofNat']
  have : ∀ x : Fin 256, x.val ||| 128 = (x.val % 128 + 128) % 256 := by decide +kernel
  have h2 := this ⟨m % 256, by omega⟩
  simp only at h2
  rw [h2]
  omega

/-- the first k pieces, one behind the other -/
def joined (ps : List (Value × List UInt8)) (k : Nat) : List UInt8 := ((ps.take k).map Prod.snd).flatten

theorem joined_succ (ps : List (Value × List UInt8)) (k : Nat) (h : k < ps.length) : joined ps (k + 1) = joined ps k ++ ps[k].2 := by
  unfold joined
  rw [List.take_succ_eq_append_getElem h]
  simp only [List.map_append, List.flatten_append, List.map_cons, List.map_nil, List.flatten_cons, List.flatten_nil, List.append_nil]
theorem joined_le (ps : List (Value × List UInt8)) (k : Nat) : (joined ps k).length ≤ (joined ps ps.length).length := by
  unfold joined
  have : ps = ps.take k ++ ps.drop k := (List.take_append_drop k ps).symm
  rw [List.take_length]
  conv => rhs; rw [this]
  simp only [List.map_append, List.flatten_append, List.length_append]
  omega

theorem ret_int {k : IntKind} {a b : Int} (h : a = b) : Ending.returned (.int k a) = .returned (.int k b) := by rw [h]
theorem ret_bool {a b : Bool} (h : a = b) : Ending.returned (.bool a) = .returned (.bool b) := by rw [h]

/-- a number with a sign: what it takes -/
def foldI (n : Int) : Int := if 0 ≤ n then 2 * n else -2 * n - 1
def unfoldI (n : Int) : Int := if n % 2 = 0 then n / 2 else -(n / 2) - 1

theorem ofInt64_toNat (x : Int) : ((BitVec.ofInt 64 x).toNat : Int) = x % 18446744073709551616 := by
  rw [BitVec.toNat_ofInt]
  omega
theorem xor_u64_zero (x : Int) (h0 : 0 ≤ x) (h1 : x ≤ 18446744073709551615) : bits .xor .u64 x 0 = x := by
  show IntKind.u64.wrap ((BitVec.ofInt 64 x ^^^ BitVec.ofInt 64 0).toNat : Nat) = x
  have : BitVec.ofInt 64 0 = 0#64 := by decide
  rw [this, BitVec.xor_zero, ofInt64_toNat]
  simp [IntKind.wrap, IntKind.bits, IntKind.signed]
  omega
theorem xor_u64_ones (x : Int) (h0 : 0 ≤ x) (h1 : x ≤ 18446744073709551615) : bits .xor .u64 x 18446744073709551615 = 18446744073709551615 - x := by
  show IntKind.u64.wrap ((BitVec.ofInt 64 x ^^^ BitVec.ofInt 64 18446744073709551615).toNat : Nat) = _
  have : BitVec.ofInt 64 18446744073709551615 = BitVec.allOnes 64 := by decide
  rw [this, BitVec.xor_allOnes, BitVec.toNat_not]
  have h := ofInt64_toNat x
  simp [IntKind.wrap, IntKind.bits, IntKind.signed]
  omega
theorem xor_i64_zero (x : Int) (h0 : -9223372036854775808 ≤ x) (h1 : x ≤ 9223372036854775807) : bits .xor .i64 x 0 = x := by
  show IntKind.i64.wrap ((BitVec.ofInt 64 x ^^^ BitVec.ofInt 64 0).toNat : Nat) = x
  have : BitVec.ofInt 64 0 = 0#64 := by decide
  rw [this, BitVec.xor_zero, ofInt64_toNat, IntKind.wrap_i64]
  omega
theorem xor_i64_ones (x : Int) (h0 : -9223372036854775808 ≤ x) (h1 : x ≤ 9223372036854775807) : bits .xor .i64 x (-1) = -x - 1 := by
  show IntKind.i64.wrap ((BitVec.ofInt 64 x ^^^ BitVec.ofInt 64 (-1)).toNat : Nat) = _
  have : BitVec.ofInt 64 (-1) = BitVec.allOnes 64 := by decide
  rw [this, BitVec.xor_allOnes, BitVec.toNat_not]
  have h := ofInt64_toNat x
  rw [IntKind.wrap_i64]
  omega
theorem wrap_u64 (n : Int) : IntKind.u64.wrap n = n % 18446744073709551616 := by simp [IntKind.wrap, IntKind.bits, IntKind.signed]

theorem fold_eq (n : Int) (h0 : -9223372036854775808 ≤ n) (h1 : n ≤ 9223372036854775807) :
    bits BinOp.xor IntKind.u64 (IntKind.u64.wrap (IntKind.u64.wrap n * 2)) (IntKind.u64.wrap (n / 9223372036854775808)) = foldI n := by
  simp only [wrap_u64]
  unfold foldI
  by_cases h : 0 ≤ n
  · rw [if_pos h, show n / 9223372036854775808 % 18446744073709551616 = 0 by omega, xor_u64_zero _ (by omega) (by omega)]
    omega
  · rw [if_neg h, show n / 9223372036854775808 % 18446744073709551616 = 18446744073709551615 by omega, xor_u64_ones _ (by omega) (by omega)]
    omega
theorem and_u64_one (n : Int) (h0 : 0 ≤ n) (h1 : n ≤ 18446744073709551615) : bits BinOp.and IntKind.u64 n 1 = n % 2 := by
  rw [u64_and n 1 h0 (by omega) (by omega) (by omega)]
  have : n.toNat &&& (1 : Int).toNat = n.toNat % 2 := nat_mask1 n.toNat
  rw [this]
  omega
theorem unfold_eq (n : Int) (h0 : 0 ≤ n) (h1 : n ≤ 18446744073709551615) :
    bits BinOp.xor IntKind.i64 (wrap64 (n / 2)) (wrap64 (-wrap64 (bits BinOp.and IntKind.u64 n 1))) = unfoldI n := by
  rw [and_u64_one n h0 h1]
  unfold unfoldI wrap64
  by_cases h : n % 2 = 0
  · rw [if_pos h, h, show ((-((0 + 9223372036854775808) % 18446744073709551616 - 9223372036854775808) + 9223372036854775808) % 18446744073709551616 - 9223372036854775808 : Int) = 0 by omega, xor_i64_zero _ (by omega) (by omega)]
    omega
  · rw [if_neg h, show n % 2 = 1 by omega, show ((-((1 + 9223372036854775808) % 18446744073709551616 - 9223372036854775808) + 9223372036854775808) % 18446744073709551616 - 9223372036854775808 : Int) = -1 by omega, xor_i64_ones _ (by omega) (by omega)]
    omega
theorem foldI_range (n : Int) (h0 : -9223372036854775808 ≤ n) (h1 : n ≤ 9223372036854775807) : 0 ≤ foldI n ∧ foldI n ≤ 18446744073709551615 := by
  unfold foldI; split <;> omega
theorem unfoldI_range (n : Int) (h0 : 0 ≤ n) (h1 : n ≤ 18446744073709551615) : -9223372036854775808 ≤ unfoldI n ∧ unfoldI n ≤ 9223372036854775807 := by
  unfold unfoldI; split <;> omega
theorem unfold_fold (n : Int) : unfoldI (foldI n) = n := by
  unfold unfoldI foldI; split <;> split <;> omega
theorem fold_unfold (n : Int) (h0 : 0 ≤ n) : foldI (unfoldI n) = n := by
  unfold unfoldI foldI; split <;> split <;> omega
def mayB (x i : Int) : Bool := !(i == 9 && decide (1 < x)) && (x != 0 || i == 0)
/-- a number without a sign, read: what was read so far, at which of its bytes; the number, the place behind it, the error -/
def rdU (p i acc : Nat) : List UInt8 → Nat × Nat × Nat
  | [] => (0, 0, 11)
  | x :: t => if i = 10 then (0, 0, 11) else if mayB x.toNat i = false then (0, 0, 10) else if x.toNat < 128 then (acc + x.toNat % 128 * 2 ^ (7 * i), p + i + 1, 0) else rdU p (i + 1) (acc + x.toNat % 128 * 2 ^ (7 * i)) t

def getU (l : List UInt8) (at_ : Int) : Nat × Nat × Nat := if at_ < 0 ∨ (l.length : Int) < at_ then (0, 0, 2) else rdU at_.toNat 0 0 (l.drop at_.toNat)

theorem mayB_nine (x : Nat) (i : Nat) (h : mayB x i = true) : i = 9 → x ≤ 1 := by
  intro hi
  subst hi
  simp [mayB] at h
  omega

theorem acc_lt (acc k x : Nat) (h : acc < 2 ^ (7 * k)) : acc + x % 128 * 2 ^ (7 * k) < 2 ^ (7 * (k + 1)) := by
  have e : 2 ^ (7 * (k + 1)) = 128 * 2 ^ (7 * k) := by rw [Nat.mul_add, Nat.pow_add]; omega
  rw [e]
  have : x % 128 ≤ 127 := by omega
  have := Nat.mul_le_mul_right (2 ^ (7 * k)) this
  omega

theorem acc_step (acc k : Nat) (x : UInt8) (hk : k ≤ 9) (h : acc < 2 ^ (7 * k)) (h9 : k = 9 → x.toNat ≤ 1) :
    bits BinOp.or IntKind.u64 (acc : Int) (IntKind.u64.wrap (IntKind.u64.wrap (bits BinOp.and IntKind.u8 (x.toNat : Int) 127) * 2 ^ (7 * k))) = ((acc + x.toNat % 128 * 2 ^ (7 * k) : Nat) : Int) := by
  have hx : x.toNat < 256 := x.toNat_lt
  have e1 : bits BinOp.and IntKind.u8 (x.toNat : Int) 127 = ((x.toNat % 128 : Nat) : Int) := by
    rw [show (127 : Int) = ((127 : Nat) : Int) from rfl, u8_and_nat _ _ hx (by omega), nat_mask7]
  have hb : x.toNat % 128 * 2 ^ (7 * k) < 18446744073709551616 := by
    by_cases h8 : k ≤ 8
    · have h1 : 2 ^ (7 * k) ≤ 2 ^ 56 := Nat.pow_le_pow_right (by omega) (by omega)
      have h2 : x.toNat % 128 ≤ 127 := by omega
      have h3 := Nat.mul_le_mul h2 h1
      omega
    · have h9' : k = 9 := by omega
      have h1 := h9 h9'
      subst h9'
      have h2 : x.toNat % 128 ≤ 1 := by omega
      have h3 := Nat.mul_le_mul_right (2 ^ (7 * 9)) h2
      omega
  have ha : acc < 18446744073709551616 := by
    have h1 : 2 ^ (7 * k) ≤ 2 ^ 63 := Nat.pow_le_pow_right (by omega) (by omega)
    omega
  have e2 : IntKind.u64.wrap (IntKind.u64.wrap (bits BinOp.and IntKind.u8 (x.toNat : Int) 127) * 2 ^ (7 * k)) = ((x.toNat % 128 * 2 ^ (7 * k) : Nat) : Int) := by
    rw [e1, wrap_u64, wrap_u64]
    have : ((x.toNat % 128 : Nat) : Int) % 18446744073709551616 = ((x.toNat % 128 : Nat) : Int) := by omega
    rw [this, show (2 : Int) ^ (7 * k) = ((2 ^ (7 * k) : Nat) : Int) by simp, ← Int.natCast_mul]
    omega
  rw [e2, u64_or_nat _ _ ha hb, Nat.or_comm, nat_join (7 * k) _ _ (by simp) h, Nat.add_comm]

theorem rdU_cons (p i acc : Nat) (x : UInt8) (t : List UInt8) (hi : i < 10) : rdU p i acc (x :: t) = if mayB x.toNat i = false then (0, 0, 10) else if x.toNat < 128 then (acc + x.toNat % 128 * 2 ^ (7 * i), p + i + 1, 0) else rdU p (i + 1) (acc + x.toNat % 128 * 2 ^ (7 * i)) t := by
  rw [rdU, if_neg (by omega)]
theorem rdU_end (p i acc : Nat) (l : List UInt8) (h : i = 10 ∨ l = []) : rdU p i acc l = (0, 0, 11) := by
  cases l with
  | nil => rfl
  | cons x t => rw [rdU, if_pos (by simpa using h)]
theorem drop_at (l : List UInt8) (i : Nat) (h : i < l.length) : l.drop i = l[i] :: l.drop (i + 1) := by simp

theorem ret3 {a b c a' b' c' : Int} (h1 : a = a') (h2 : b = b') (h3 : c = c') : Ending.returned (.tuple #[.int .u64 a, .int .i64 b, .int .i64 c]) = .returned (.tuple #[.int .u64 a', .int .i64 b', .int .i64 c']) := by rw [h1, h2, h3]

/-- the check's register: one bit, eight of them, a byte, bytes; the check -/
def crcBit (r : BitVec 32) : BitVec 32 := (r >>> 1) ^^^ (if r.getLsbD 0 then 3988292384#32 else 0#32)
def crcBits : Nat → BitVec 32 → BitVec 32
  | 0, r => r
  | n + 1, r => crcBits n (crcBit r)
def crcByte (r : BitVec 32) (x : UInt8) : BitVec 32 := crcBits 8 (r ^^^ BitVec.ofNat 32 x.toNat)
def crcReg (r : BitVec 32) (l : List UInt8) : BitVec 32 := l.foldl crcByte r
def crc (l : List UInt8) : BitVec 32 := ~~~ crcReg (BitVec.allOnes 32) l

theorem xor_u32 (a b : BitVec 32) : bits .xor .u32 (a.toNat : Int) (b.toNat : Int) = ((a ^^^ b).toNat : Int) := by
  rw [u32_xor_nat _ _ a.isLt b.isLt, BitVec.toNat_xor]
theorem crc_in (r : BitVec 32) (x : UInt8) : bits .xor .u32 (r.toNat : Int) ((x.toNat : Int) % 4294967296) = ((r ^^^ BitVec.ofNat 32 x.toNat).toNat : Int) := by
  have hx : x.toNat < 256 := x.toNat_lt
  rw [← xor_u32, BitVec.toNat_ofNat]
  congr 1
theorem and_u32_one (r : BitVec 32) : bits .and .u32 (r.toNat : Int) 1 = if r.getLsbD 0 then 1 else 0 := by
  rw [show (1 : Int) = ((1 : Nat) : Int) from rfl, u32_and_nat _ _ r.isLt (by omega), nat_mask1]
  have : r.getLsbD 0 = decide (r.toNat % 2 = 1) := by
    rw [BitVec.getLsbD, Nat.testBit_zero]
  rw [this]
  by_cases h : r.toNat % 2 = 1
  · simp [h]
  · have : r.toNat % 2 = 0 := by omega
    simp [this]
theorem crc_bit (r : BitVec 32) : bits .xor .u32 ((r.toNat : Int) / 2) (bits .and .u32 3988292384 (-bits .and .u32 (r.toNat : Int) 1 % 4294967296)) = ((crcBit r).toNat : Int) := by
  rw [and_u32_one]
  unfold crcBit
  have e : ((r.toNat : Int) / (2 : Int)) = ((r >>> 1).toNat : Int) := by
    rw [BitVec.toNat_ushiftRight, Nat.shiftRight_eq_div_pow]
    omega
  rw [e]
  cases h : r.getLsbD 0 with
  | true =>
    rw [if_pos rfl, if_pos rfl, ← xor_u32]
    rfl
  | false =>
    rw [if_neg (by simp), if_neg (by simp), ← xor_u32]
    rfl
theorem crc_not (r : BitVec 32) : bits .xor .u32 IntKind.u32.max (r.toNat : Int) = ((~~~r).toNat : Int) := by
  have e : IntKind.u32.max = ((BitVec.allOnes 32).toNat : Int) := by decide
  rw [e, xor_u32, BitVec.allOnes_xor]
theorem crcBits_add (a b : Nat) (r : BitVec 32) : crcBits (a + b) r = crcBits b (crcBits a r) := by
  induction a generalizing r with
  | zero => simp [crcBits]
  | succ a ih => rw [Nat.succ_add, crcBits, crcBits, ih]
theorem crcReg_snoc (r : BitVec 32) (l : List UInt8) (x : UInt8) : crcReg r (l ++ [x]) = crcByte (crcReg r l) x := by simp [crcReg]

def be4 (r : BitVec 32) : List UInt8 := [UInt8.ofNat (r.toNat / 16777216), UInt8.ofNat (r.toNat / 65536), UInt8.ofNat (r.toNat / 256), UInt8.ofNat r.toNat]
theorem Own.new (w : World) (l : List UInt8) (hl : l.length ≤ maxLen) : Own (w.alloc (.cells (BV l).toArray 5)) w.heap.size (.slice (some ⟨w.heap.size, 0, none⟩) l.length l.length) l := by
  refine ⟨by simp [BV_length], .inr ⟨w.heap.size, l.length, (BV l).toArray, rfl, Nat.le_refl _, heap_alloc_new w _, Nat.le_refl _, hl, by simp [BV_length], ?_⟩⟩
  rw [Nat.mul_one]
  exact List.take_of_length_le (by rw [BV_length]; exact Nat.le_refl _)
theorem be4_cells (R : BitVec 32) : #[Value.int IntKind.u8 ((R.toNat : Int) / 16777216), Value.int IntKind.u8 ((R.toNat : Int) / 65536 % 256), Value.int IntKind.u8 ((R.toNat : Int) / 256 % 256), Value.int IntKind.u8 ((R.toNat : Int) % 256)] = (BV (be4 R)).toArray := by
  have h := R.isLt
  have e : ∀ n : Nat, ((UInt8.ofNat n).toNat : Int) = (n : Int) % 256 := fun n => by simp [UInt8.toNat_ofNat']
  simp only [be4, BV, List.map_cons, List.map_nil, e]
  have e2 : ((R.toNat : Int) / 16777216) = ((R.toNat / 16777216 : Nat) : Int) % 256 := by omega
  rw [e2]
  rfl
theorem Rd.take {w : World} {ao : Option Addr} {n cap : Nat} {l : List UInt8} (h : Rd w (.slice ao n cap) l) (j : Nat) (hj : j ≤ l.length) : Rd w (.slice ao j cap) (l.take j) := by
  obtain ⟨ao', cap', hv, h1, h2, h3, h4⟩ := h
  cases hv
  refine ⟨ao, cap, ?_, ?_, h2, h3, fun a ha i hi => ?_⟩
  · simp [Nat.min_eq_left hj]
  · simp; omega
  · simp at hi
    rw [h4 a ha i (by omega)]
    simp
theorem Rd.cut {w : World} {ao : Option Addr} {n cap : Nat} {l : List UInt8} (h : Rd w (.slice ao n cap) l) (i j : Nat) (hij : i ≤ j) (hj : j ≤ l.length) : Rd w (.slice (Option.map (fun x => x.add i) ao) (j - i) (cap - i)) ((l.take j).drop i) := by
  obtain ⟨ao', cap', hv, h1, h2, h3, h4⟩ := h
  cases hv
  refine ⟨Option.map (fun x => x.add i) ao, cap - i, ?_, ?_, by omega, fun hn => ?_, fun a ha k hk => ?_⟩
  · simp [Nat.min_eq_left hj]
  · simp; omega
  · simp at hn; have := h3 hn; omega
  · simp at ha
    obtain ⟨a0, h0, rfl⟩ := ha
    simp at hk
    have := h4 a0 h0 (i + k) (by omega)
    simp only [List.getElem_drop, List.getElem_take]
    rw [← this]
    congr 1
    unfold Addr.add
    split <;> split <;> split <;> simp_all <;> omega

def unsealL (l : List UInt8) : List UInt8 × Nat := if l.length < 4 then ([], 11) else if l.drop (l.length - 4) = be4 (crc (l.take (l.length - 4))) then (l.take (l.length - 4), 0) else ([], 12)

def getB (l : List UInt8) (at_ most : Int) : List UInt8 × Nat × Nat :=
  if (getU l at_).2.2 ≠ 0 then ([], 0, (getU l at_).2.2)
  else if most < 0 ∨ most < (getU l at_).1 then ([], 0, 3)
  else if l.length - (getU l at_).2.1 < (getU l at_).1 then ([], 0, 11)
  else ((l.drop (getU l at_).2.1).take (getU l at_).1, (getU l at_).2.1 + (getU l at_).1, 0)

theorem rdU_place (p i acc : Nat) (l : List UInt8) : (rdU p i acc l).2.2 = 0 → p + i < (rdU p i acc l).2.1 ∧ (rdU p i acc l).2.1 ≤ p + i + l.length := by
  induction l generalizing i acc with
  | nil => simp [rdU]
  | cons x t ih =>
    rw [rdU]
    split
    · simp
    · split
      · simp
      · split
        · simp
        · intro h
          have := ih (i + 1) _ h
          simp only [List.length_cons]
          omega
theorem getU_place (l : List UInt8) (p : Int) (h : (getU l p).2.2 = 0) : 0 ≤ p ∧ p < (getU l p).2.1 ∧ (getU l p).2.1 ≤ l.length := by
  unfold getU at h ⊢
  split at h
  · simp at h
  · rename_i hb
    rw [if_neg hb]
    have := rdU_place _ _ _ _ h
    simp only [List.length_drop] at this
    omega

end Go.Proofs.YtpiiehenmkinaaaDoor

/-
  The contracts of sevens, slices.Grow (of nil) and slices.Concat. Own work.
-/
namespace Go.Proofs.YtpiiehenmkinaaaDoor
open Go.RowKit

theorem Tryd.info5 : (Tryd.prog.info? 5).map (fun i => (i.zero, i.size, i.bytes)) = some (some (.int .u8 0), 1, 1) := by kernel_rfl

set_option maxRecDepth 100000 in
set_option maxHeartbeats 400000 in
theorem sevens_any (n : Nat) (hn : n ≤ 18446744073709551615) (w : World) :
    Calls Tryd.prog 68 #[.int .u64 n] w fun e w' => ∃ v, e = .returned v ∧ Own w' w.heap.size v (sev 10 n) ∧ Below w.heap.size w w' := by
  have hmk : ∀ w, (Instr.makeSlice 25 (.int .i64 0) (.int .i64 10)).run Tryd.prog w = .ok (.slice (some ⟨w.heap.size, 0, none⟩) 0 10) (w.alloc (.cells #[.int .u8 0, .int .u8 0, .int .u8 0, .int .u8 0, .int .u8 0, .int .u8 0, .int .u8 0, .int .u8 0, .int .u8 0, .int .u8 0] 5)) := fun _ => by kernel_rfl
  obtain ⟨i0, hi, hz0, hz1, hz2⟩ := info_parts Tryd.info5
  have HN : Hid (n ≤ 18446744073709551615) := hn
  clear hn
  go_enter Tryd.func68, Tryd.ntmps68
  go_wp2
  go_loopw [0, 3, 5] (fun nv cv iv wr => ∃ (k m : Nat) (pre : List UInt8), k ≤ 10 ∧ iv = .int .i64 k ∧ nv = .int .u64 m ∧ m ≤ 18446744073709551615 ∧ pre.length = k ∧ pre ++ sev (10 - k) m = sev 10 n ∧ Own wr w.heap.size cv pre ∧ Below w.heap.size w wr)
    (fun _ _ iv _ => 10 - (intOf iv).toNat)
  case atStart =>
    refine ⟨0, n, [], by omega, rfl, rfl, HN.out, rfl, rfl, ?_, (Below.refl _ _).alloc (Nat.le_refl _) _⟩
    exact World.ownsRow_made w _ 10 (Nat.le_refl _) (by simp [maxLen]) rfl
  case round =>
    obtain ⟨k, m, pre, hk, rfl, rfl, hm, hpl, hpre, hown, hb⟩ := hrel
    have HP : Hid (pre ++ sev (10 - k) m = sev 10 n) := hpre
    clear hpre
    have HM : Hid (m ≤ 18446744073709551615) := hm
    clear hm
    have hsz := hb.size
    clear hmk
    by_cases hlt : k < 10
    · by_cases hs : m < 128
      · have hs' : (m : Int) < 128 := by omega
        obtain ⟨x, HX⟩ : ∃ x : UInt8, Hid (x = UInt8.ofNat m) := ⟨_, rfl⟩
        go_wp2_with (at_builtin; go_must (refine wpList_append_rd _ rfl (.tmp 9) (.tmp 12) 25 rfl i0 Tryd.underlying25 hi hz0 hz1 hz2 w.heap.size _ _ rfl rfl pre [x] (hown.alloc _) (Rd.one _ _ _ _ ?_) ?_ ?_ ?_))
        · rw [HX.out]; simp; omega
        · simp; omega
        · simp; omega
        · intro v' w' hown' hg
          have hb' : Below w.heap.size w w' := (hb.alloc (by omega) _).grown hg (by simp; omega) (fun k hk => (World.ownsRow.lt hown k hk).1)
          clear hg
          go_wp2
          go_ret
          refine ⟨_, rfl, ?_, hb'⟩
          have := HP.out
          rw [show 10 - k = (9 - k) + 1 by omega, sev, if_pos hs, ← HX.out] at this
          rw [← this]
          exact hown'
      · have hs' : ¬ (m : Int) < 128 := by omega
        obtain ⟨x, HX⟩ : ∃ x : UInt8, Hid (x = UInt8.ofNat (m % 128 + 128)) := ⟨_, rfl⟩
        go_wp2_with (at_builtin; go_must (refine wpList_append_rd _ rfl (.tmp 14) (.tmp 18) 25 rfl i0 Tryd.underlying25 hi hz0 hz1 hz2 w.heap.size _ _ rfl rfl pre [x] (hown.alloc _) (Rd.one _ _ _ _ ?_) ?_ ?_ ?_))
        · rw [HX.out]; exact or128 m
        · first | omega | (simp; omega)
        · first | omega | (simp; omega)
        · intro v' w' hown' hg
          have hb' : Below w.heap.size w w' := (hb.alloc (by omega) _).grown hg (by simp; omega) (fun k hk => (World.ownsRow.lt hown k hk).1)
          clear hg
          go_wp2
          go_roundw
          case rel =>
            have := HP.out
            rw [show 10 - k = (9 - k) + 1 by omega, sev, if_neg hs, ← HX.out] at this
            refine ⟨k + 1, m / 128, pre ++ [x], by omega, by go_num, by go_num, by have := HM.out; omega, by simp [hpl], ?_, hown', hb'⟩
            rw [← this, show 10 - (k + 1) = 9 - k by omega]
            simp
          case measure => simp [intOf]; omega
    · go_wp2
      go_ret
      refine ⟨_, rfl, ?_, hb⟩
      have := HP.out
      rw [show 10 - k = 0 by omega, sev, List.append_nil] at this
      rw [← this]
      exact hown
set_option maxRecDepth 100000 in
set_option maxHeartbeats 400000 in
theorem grow_nil (n : Nat) (hn : n ≤ 140737488355328) (w : World) :
    Calls Tryd.prog 50 #[.slice none 0 0, .int .i64 n] w fun e w' => ∃ v, e = .returned v ∧ Own w' w.heap.size v [] ∧ Below w.heap.size w w' := by
  obtain ⟨i0, hi, hz0, hz1, hz2⟩ := info_parts Tryd.info5
  by_cases h0 : n = 0
  · subst h0
    go_enter Tryd.func50, Tryd.ntmps50
    go_wp2
    go_ret
    exact ⟨_, rfl, Own.nil _ _, Below.refl _ _⟩
  · have hp : (0 : Int) < (n : Int) := by omega
    have hrz : ∀ ty, (Builtin.append_ #[25, 3] ty #[.slice none 0 0, .int .i64 (n : Int)]).run Tryd.prog w =
        .ok (.slice (some ⟨w.heap.size, 0, none⟩) n (grownCap w n 0 5)) (w.drew.alloc (.cells (Builtin.zeroCells #[.int .u8 0] n ++ Builtin.zeroCells #[.int .u8 0] (grownCap w n 0 5 - n)) 5)) := fun ty => by
      have h := Lib.run_append_grow_zeros w 25 3 ty 5 i0 (.int .u8 0) .i64 .i64 Tryd.underlying25 Tryd.underlying3 hi hz0 none 0 0 [] (run_firstCells_none w.drew i0.size 0 0 0) n (by omega) (by omega) (by omega) (by omega) (by rw [hz2]; omega)
        (by rw [hz2]; exact growslice_fits (by omega) (by omega))
      simpa [Value.cells] using h
    have hGn : n ≤ grownCap w n 0 5 := grownCap_ge w _ _ _
    have hGm : grownCap w n 0 5 ≤ maxLen := grownCap_le_maxLen w n 0 5 (by unfold maxLen; omega)
    obtain ⟨G, hG⟩ : ∃ G, G = grownCap w n 0 5 := ⟨_, rfl⟩
    rw [← hG] at hrz hGn hGm
    clear hG
    have hG2 : G ≤ 9223372036854775807 := by unfold maxLen at hGm; omega
    have HG : Hid (G ≤ maxLen) := hGm
    clear hGm
    go_enter Tryd.func50, Tryd.ntmps50
    go_wp2_with (at_builtin; refine Lib.wpList_append_run _ rfl _ _ _ _ rfl _ _ rfl rfl _ _ (hrz _) ?_)
    go_ret
    refine ⟨_, rfl, ?_, (Below.refl _ _).drew.alloc (Nat.le_refl _) _⟩
    refine ⟨by simp [BV], .inr ⟨w.heap.size, G, _, rfl, Nat.le_refl _, heap_alloc_new w.drew _, Nat.zero_le _, HG.out, ?_, by simp [BV]⟩⟩
    simp [size_zeroCells]
    omega
set_option maxRecDepth 100000 in
set_option maxHeartbeats 800000 in
theorem concat_any (ps : List (Value × List UInt8)) (b cap : Nat) (w : World) (hcap : ps.length ≤ cap) (hmax : cap ≤ 1000)
    (hcell : ∀ i (h : i < ps.length), w.cell? ⟨b, i, none⟩ = some ps[i].1) (hrd : ∀ i (h : i < ps.length), Rd w ps[i].1 ps[i].2) (hb0 : b < w.heap.size) (htot : (joined ps ps.length).length ≤ 140737488355328) :
    Calls Tryd.prog 27 #[.slice (some ⟨b, 0, none⟩) ps.length cap] w fun e w' => ∃ v, e = .returned v ∧ Own w' w.heap.size v (joined ps ps.length) ∧ Below w.heap.size w w' := by
  obtain ⟨i0, hi, hz0, hz1, hz2⟩ := info_parts Tryd.info5
  obtain ⟨n, hn⟩ : ∃ n, n = ps.length := ⟨_, rfl⟩
  rw [← hn] at hcap htot ⊢
  have HN : Hid (n = ps.length) := hn
  have HC : Hid (∀ i (h : i < ps.length), w.cell? ⟨b, i, none⟩ = some ps[i].1) := hcell
  have HR : Hid (∀ i (h : i < ps.length), Rd w ps[i].1 ps[i].2) := hrd
  clear hn hcell hrd
  go_enter Tryd.func27, Tryd.ntmps27
  go_wp2
  go_loop [3, 11] (fun sv iv => ∃ k : Nat, k ≤ n ∧ iv = .int .i64 k ∧ sv = .int .i64 (joined ps k).length) (fun _ iv => n - (intOf iv).toNat)
  case atStart => exact ⟨0, by omega, rfl, rfl⟩
  case round =>
    obtain ⟨k, hk, rfl, rfl⟩ := hrel
    have hle : (joined ps k).length ≤ (joined ps n).length := by rw [HN.out]; exact joined_le ps k
    obtain ⟨sz, HZ⟩ := named ((joined ps k).length)
    rw [← HZ.out] at hle ⊢
    by_cases hlt : k < n
    · have hkp : k < ps.length := by rw [← HN.out]; exact hlt
      have hj := joined_succ ps k hkp
      have hle2 : (joined ps (k + 1)).length ≤ (joined ps n).length := by rw [HN.out]; exact joined_le ps (k + 1)
      rw [hj, List.length_append, ← HZ.out] at hle2
      have HJ : Hid (joined ps (k + 1) = joined ps k ++ ps[k].2) := hj
      clear hj
      have hc0 := HC.out k hkp
      obtain ⟨ao, c0, hv, h1, h2, h3, h4⟩ := HR.out k hkp
      rw [hv] at hc0
      clear h4 h3 hv
      obtain ⟨m, HM⟩ := named (ps[k].2.length)
      rw [← HM.out] at hle2 hc0 h1
      have hms : (m : Int) + sz ≤ 140737488355328 := by omega
      have hng : ¬ ((sz : Int) + m < 0) := by omega
      go_wp2
      go_round
      case rel => exact ⟨k + 1, by omega, by go_num, by rw [HJ.out, List.length_append, ← HM.out, ← HZ.out]; go_num⟩
      case measure => simp [intOf]; omega
    · have hkn : k = n := by omega
      have HK : Hid (k = n) := hkn
      have hsz : sz ≤ 140737488355328 := by omega
      clear hkn
      go_wp2_with fail
      refine (grow_nil sz hsz _).mono ?_
      rintro e w1 ⟨v1, rfl, hown1, hb1⟩
      go_wp2
      go_loopw [6, 27] (fun nv iv wr => ∃ k : Nat, k ≤ n ∧ iv = .int .i64 k ∧ Own wr w.heap.size nv (joined ps k) ∧ Below w.heap.size w wr) (fun _ iv _ => n - (intOf iv).toNat)
      case atStart => exact ⟨0, by omega, rfl, hown1, hb1⟩
      case round =>
        obtain ⟨j, hj, rfl, hown, hb⟩ := hrel
        have hsz2 := hb.size
        by_cases hlt2 : j < n
        · have hkp : j < ps.length := by rw [← HN.out]; exact hlt2
          have hjo := joined_succ ps j hkp
          have hle2 : (joined ps (j + 1)).length ≤ (joined ps n).length := by rw [HN.out]; exact joined_le ps (j + 1)
          rw [hjo, List.length_append] at hle2
          have HJ : Hid (joined ps (j + 1) = joined ps j ++ ps[j].2) := hjo
          clear hjo
          have hc0 := (hb.cell (p := ⟨b, j, none⟩) hb0).trans (HC.out j hkp)
          have hrd0 := HR.out j hkp
          obtain ⟨ao, c0, hv, h1, h2, h3, h4⟩ := HR.out j hkp
          rw [hv] at hc0 hrd0
          clear h4 h3 hv
          have hrd1 := hrd0.below hb
          clear hrd0
          obtain ⟨q, HQ⟩ := named (ps[j].2)
          obtain ⟨q0, HQ0⟩ := named (joined ps j)
          rw [← HQ.out] at hrd1 hc0 h1 hle2
          rw [← HQ0.out] at hown hle2
          go_wp2_with (at_builtin; go_must (refine wpList_append_rd _ rfl (.tmp 31) (.tmp 32) 25 rfl i0 Tryd.underlying25 hi hz0 hz1 hz2 w.heap.size _ _ rfl rfl q0 q hown hrd1 ?_ ?_ ?_))
          · omega
          · omega
          · intro v' w' hown' hg
            have hb' : Below w.heap.size w w' := hb.grown hg hsz2 (fun k hk => (World.ownsRow.lt hown k hk).1)
            clear hg
            go_wp2
            go_roundw
            case rel => exact ⟨j + 1, by omega, by go_num, by rw [HJ.out, ← HQ.out, ← HQ0.out]; exact hown', hb'⟩
            case measure => simp [intOf]; omega
        · have hjn : j = n := by omega
          subst hjn
          go_wp2
          go_ret
          exact ⟨_, rfl, hown, hb⟩
end Go.Proofs.YtpiiehenmkinaaaDoor

/-
  The contracts of bytes.Uint, Blob, own, fold, Int, unfold, mayStand. Own work.
-/
namespace Go.Proofs.YtpiiehenmkinaaaDoor
open Go.RowKit

theorem sev_len (f n : Nat) : (sev f n).length ≤ f := by
  induction f generalizing n with
  | zero => simp [sev]
  | succ f ih => unfold sev; split <;> simp; exact ih _
theorem U_len (n : Int) : (U n).length ≤ 10 := sev_len 10 _

/-- Concat of one piece, of two, of three, in a new block -/
theorem concat1 (w : World) (v0 : Value) (l0 : List UInt8) (h0 : Rd w v0 l0) (hs : l0.length ≤ 140737488355328) :
    Calls Tryd.prog 27 #[.slice (some ⟨w.heap.size, 0, none⟩) 1 1] (w.alloc (.cells #[v0] 25)) fun e w' => ∃ v, e = .returned v ∧ Own w' w.heap.size v l0 ∧ Below w.heap.size w w' := by
  have h := concat_any [(v0, l0)] w.heap.size 1 (w.alloc (.cells #[v0] 25)) (by simp) (by simp)
    (fun i h => match i, h with | 0, _ => by simp)
    (fun i h => match i, h with | 0, _ => h0.alloc _) (by simp) (by simp [joined]; omega)
  refine h.mono ?_
  rintro e w' ⟨v, rfl, ho, hb⟩
  refine ⟨v, rfl, ?_, ((Below.refl w.heap.size w).alloc (Nat.le_refl _) _).trans (hb.mono (by simp))⟩
  have := ho.mono (base' := w.heap.size) (by simp)
  simpa [joined] using this

theorem concat2 (w : World) (v0 v1 : Value) (l0 l1 : List UInt8) (h0 : Rd w v0 l0) (h1 : Rd w v1 l1) (hs : l0.length + l1.length ≤ 140737488355328) :
    Calls Tryd.prog 27 #[.slice (some ⟨w.heap.size, 0, none⟩) 2 2] (w.alloc (.cells #[v0, v1] 25)) fun e w' => ∃ v, e = .returned v ∧ Own w' w.heap.size v (l0 ++ l1) ∧ Below w.heap.size w w' := by
  have h := concat_any [(v0, l0), (v1, l1)] w.heap.size 2 (w.alloc (.cells #[v0, v1] 25)) (by simp) (by simp)
    (fun i h => match i, h with | 0, _ => by simp | 1, _ => by simp)
    (fun i h => match i, h with | 0, _ => h0.alloc _ | 1, _ => h1.alloc _) (by simp) (by simp [joined]; omega)
  refine h.mono ?_
  rintro e w' ⟨v, rfl, ho, hb⟩
  refine ⟨v, rfl, ?_, ((Below.refl w.heap.size w).alloc (Nat.le_refl _) _).trans (hb.mono (by simp))⟩
  have := ho.mono (base' := w.heap.size) (by simp)
  simpa [joined] using this

theorem concat3 (w : World) (v0 v1 v2 : Value) (l0 l1 l2 : List UInt8) (h0 : Rd w v0 l0) (h1 : Rd w v1 l1) (h2 : Rd w v2 l2) (hs : l0.length + l1.length + l2.length ≤ 140737488355328) :
    Calls Tryd.prog 27 #[.slice (some ⟨w.heap.size, 0, none⟩) 3 3] (w.alloc (.cells #[v0, v1, v2] 25)) fun e w' => ∃ v, e = .returned v ∧ Own w' w.heap.size v (l0 ++ (l1 ++ l2)) ∧ Below w.heap.size w w' := by
  have h := concat_any [(v0, l0), (v1, l1), (v2, l2)] w.heap.size 3 (w.alloc (.cells #[v0, v1, v2] 25)) (by simp) (by simp)
    (fun i h => match i, h with | 0, _ => by simp | 1, _ => by simp | 2, _ => by simp)
    (fun i h => match i, h with | 0, _ => h0.alloc _ | 1, _ => h1.alloc _ | 2, _ => h2.alloc _) (by simp) (by simp [joined]; omega)
  refine h.mono ?_
  rintro e w' ⟨v, rfl, ho, hb⟩
  refine ⟨v, rfl, ?_, ((Below.refl w.heap.size w).alloc (Nat.le_refl _) _).trans (hb.mono (by simp))⟩
  have := ho.mono (base' := w.heap.size) (by simp)
  simpa [joined] using this

set_option maxRecDepth 100000 in
set_option maxHeartbeats 400000 in
theorem uint_any (o : Value) (lo : List UInt8) (n : Int) (w : World) (h0 : 0 ≤ n) (h1 : n ≤ 18446744073709551615) (hrd : Rd w o lo) (hlen : lo.length ≤ 140737488355000) :
    Calls Tryd.prog 48 #[o, .int .u64 n] w fun e w' => ∃ v, e = .returned v ∧ Own w' w.heap.size v (lo ++ U n) ∧ Below w.heap.size w w' := by
  obtain ⟨m, rfl⟩ := Int.eq_ofNat_of_zero_le h0
  have HM : Hid (m ≤ 18446744073709551615) := (by omega : m ≤ 18446744073709551615)
  clear h1
  obtain ⟨ao, cap, hv, -⟩ := id hrd
  subst hv
  have hul := U_len m
  have HU : Hid (U (m : Int) = sev 10 m) := rfl
  obtain ⟨p, HP⟩ := named (U (m : Int))
  rw [← HP.out] at hul ⊢
  go_enter Tryd.func48, Tryd.ntmps48
  go_wp2_with fail
  refine (sevens_any m HM.out _).mono ?_
  rintro e w1 ⟨v1, rfl, hown1, hb1⟩
  rw [← HU.out, ← HP.out] at hown1
  have hrd1 := hrd.below hb1
  have hrd2 := hown1.rd
  obtain ⟨a1, c1, hv1, -⟩ := hown1.rd
  subst hv1
  go_wp2_with fail
  refine (concat2 w1 _ _ lo p hrd1 hrd2 (by omega)).mono ?_
  rintro e w2 ⟨v2, rfl, hown2, hb2⟩
  go_wp2
  go_ret
  exact ⟨_, rfl, hown2.mono hb1.size, hb1.trans (hb2.mono hb1.size)⟩

set_option maxRecDepth 100000 in
set_option maxHeartbeats 400000 in
theorem blob_any (o b : Value) (lo lb : List UInt8) (w : World) (hrd : Rd w o lo) (hrb : Rd w b lb) (hlen : lo.length + lb.length ≤ 140737488355000) :
    Calls Tryd.prog 47 #[o, b] w fun e w' => ∃ v, e = .returned v ∧ Own w' w.heap.size v (lo ++ (U lb.length ++ lb)) ∧ Below w.heap.size w w' := by
  obtain ⟨ao, cap, hv, -⟩ := id hrd
  subst hv
  obtain ⟨ab, capb, hv, -⟩ := id hrb
  subst hv
  have hul := U_len lb.length
  have HU : Hid (U (lb.length : Int) = sev 10 lb.length) := rfl
  obtain ⟨p, HP⟩ := named (U (lb.length : Int))
  rw [← HP.out] at hul ⊢
  have hlb : lb.length ≤ 140737488355000 := by omega
  go_enter Tryd.func47, Tryd.ntmps47
  go_wp2_with fail
  refine (sevens_any lb.length (by omega) _).mono ?_
  rintro e w1 ⟨v1, rfl, hown1, hb1⟩
  rw [← HU.out, ← HP.out] at hown1
  have hrd1 := hrd.below hb1
  have hrd3 := hrb.below hb1
  have hrd2 := hown1.rd
  obtain ⟨a1, c1, hv1, -⟩ := hown1.rd
  subst hv1
  go_wp2_with fail
  refine (concat3 w1 _ _ _ lo p lb hrd1 hrd2 hrd3 (by omega)).mono ?_
  rintro e w2 ⟨v2, rfl, hown2, hb2⟩
  go_wp2
  go_ret
  exact ⟨_, rfl, hown2.mono hb1.size, hb1.trans (hb2.mono hb1.size)⟩

set_option maxRecDepth 100000 in
set_option maxHeartbeats 400000 in
theorem own_any (b : Value) (lb : List UInt8) (w : World) (hrb : Rd w b lb) (hlen : lb.length ≤ 140737488355000) :
    Calls Tryd.prog 79 #[b] w fun e w' => ∃ v, e = .returned v ∧ Own w' w.heap.size v lb ∧ Below w.heap.size w w' := by
  obtain ⟨ao, cap, hv, -⟩ := id hrb
  subst hv
  go_enter Tryd.func79, Tryd.ntmps79
  go_wp2_with fail
  refine (concat1 w _ lb hrb (by omega)).mono ?_
  rintro e w2 ⟨v2, rfl, hown2, hb2⟩
  go_wp2
  go_ret
  exact ⟨_, rfl, hown2, hb2⟩

set_option maxRecDepth 100000 in
set_option maxHeartbeats 400000 in
theorem fold_any (n : Int) (w : World) (h0 : -9223372036854775808 ≤ n) (h1 : n ≤ 9223372036854775807) :
    Calls Tryd.prog 69 #[.int .i64 n] w fun e w' => e = .returned (.int .u64 (foldI n)) ∧ w' = w := by
  have HF : Hid _ := fold_eq n h0 h1
  clear h0 h1
  go_enter Tryd.func69, Tryd.ntmps69
  go_wp2
  go_ret
  exact ⟨ret_int HF.out, rfl⟩

set_option maxRecDepth 100000 in
set_option maxHeartbeats 400000 in
theorem unfold_any (n : Int) (w : World) (h0 : 0 ≤ n) (h1 : n ≤ 18446744073709551615) :
    Calls Tryd.prog 89 #[.int .u64 n] w fun e w' => e = .returned (.int .i64 (unfoldI n)) ∧ w' = w := by
  have HF : Hid _ := unfold_eq n h0 h1
  clear h0 h1
  go_enter Tryd.func89, Tryd.ntmps89
  go_wp2
  go_ret
  exact ⟨ret_int HF.out, rfl⟩

set_option maxRecDepth 100000 in
set_option maxHeartbeats 400000 in
theorem mayStand_any (x i : Int) (w : World) :
    Calls Tryd.prog 80 #[.int .u8 x, .int .i64 i] w fun e w' => e = .returned (.bool (mayB x i)) ∧ w' = w := by
  go_enter Tryd.func80, Tryd.ntmps80
  go_wp2
  all_goals go_ret
  all_goals refine ⟨ret_bool ?_, rfl⟩
  all_goals simp [mayB, *]

set_option maxRecDepth 100000 in
set_option maxHeartbeats 400000 in
theorem int_any (o : Value) (lo : List UInt8) (n : Int) (w : World) (h0 : -9223372036854775808 ≤ n) (h1 : n ≤ 9223372036854775807) (hrd : Rd w o lo) (hlen : lo.length ≤ 140737488355000) :
    Calls Tryd.prog 49 #[o, .int .i64 n] w fun e w' => ∃ v, e = .returned v ∧ Own w' w.heap.size v (lo ++ U (foldI n)) ∧ Below w.heap.size w w' := by
  obtain ⟨ao, cap, hv, -⟩ := id hrd
  subst hv
  have hr := foldI_range n h0 h1
  have HR : Hid _ := hr
  have HB : Hid (-9223372036854775808 ≤ n ∧ n ≤ 9223372036854775807) := ⟨h0, h1⟩
  clear hr h0 h1
  go_enter Tryd.func49, Tryd.ntmps49
  go_wp2_with fail
  refine (fold_any n _ HB.out.1 HB.out.2).mono ?_
  rintro e w1 ⟨rfl, rfl⟩
  go_wp2_with fail
  refine (uint_any _ lo (foldI n) _ HR.out.1 HR.out.2 hrd hlen).mono ?_
  rintro e w2 ⟨v2, rfl, hown2, hb2⟩
  go_wp2
  go_ret
  exact ⟨_, rfl, hown2, hb2⟩
end Go.Proofs.YtpiiehenmkinaaaDoor

/-
  The contracts of bytes.GetUint, GetInt. Own work.
-/
namespace Go.Proofs.YtpiiehenmkinaaaDoor
open Go.RowKit

set_option maxRecDepth 100000 in
set_option maxHeartbeats 800000 in
theorem getUint_in (v : Value) (l : List UInt8) (p : Nat) (w : World) (hrd : Rd w v l) (hp : p ≤ l.length) (hl : l.length ≤ 140737488355328) :
    Calls Tryd.prog 71 #[v, .int .i64 p] w fun e w' => e = .returned (.tuple #[.int .u64 (rdU p 0 0 (l.drop p)).1, .int .i64 (rdU p 0 0 (l.drop p)).2.1, .int .i64 (rdU p 0 0 (l.drop p)).2.2]) ∧ w = w' := by
  rcases hrd.cases with ⟨rfl, ao, cap, rfl, h1, h2⟩ | ⟨b, off, cap, rfl, h1, h2, h3, h4, h5⟩
  · have hp0 : p = 0 := by simp at hp; exact hp
    subst hp0
    clear h1 h2 hrd
    go_enter Tryd.func71, Tryd.ntmps71
    go_wp2
    refine wp_loop_rounds 1 ?_
    rw [rounds_succ]
    go_wp2
    go_ret3
    exact ⟨rfl, rfl⟩
  · have HC : Hid _ := h5
    obtain ⟨n, HN⟩ := named l.length
    rw [← HN.out] at hp hl h1 h2 ⊢
    obtain ⟨R, HR⟩ := named (rdU p 0 0 (l.drop p))
    rw [← HR.out]
    clear h5 hrd
    unfold maxLen at h3
    have hp' : ¬ ((n : Int) < p) := by omega
    obtain ⟨lim, hl10, hpl, hor⟩ : ∃ lim : Nat, lim ≤ 10 ∧ p + lim ≤ n ∧ (10 ≤ lim ∨ n ≤ p + lim ∧ n < p + 10) := by
      by_cases hm : 10 ≤ n - p
      · exact ⟨10, by omega, by omega, by omega⟩
      · exact ⟨n - p, by omega, by omega, by omega⟩
    have HOR : Hid (10 ≤ lim ∨ n ≤ p + lim) := by
      rcases hor with h | h
      · exact .inl h
      · exact .inr h.1
    rcases hor with hor | hor
    rotate_left
    obtain ⟨hor, hor2⟩ := hor
    rotate_left
    all_goals
      first | have hm' : (10 : Int) ≤ (n : Int) - p := by omega
            | have hm' : ¬ ((10 : Int) ≤ (n : Int) - p) := by omega
      go_enter Tryd.func71, Tryd.ntmps71
      go_wp2
      go_loop [7, 23] (fun nv iv => ∃ k acc : Nat, k ≤ lim ∧ iv = .int .i64 k ∧ nv = .int .u64 acc ∧ acc < 2 ^ (7 * k) ∧ rdU p k acc (l.drop (p + k)) = R) (fun _ iv => 10 - (intOf iv).toNat)
      case atStart => exact ⟨0, 0, by omega, rfl, rfl, by decide, HR.out.symm⟩
      case round =>
        obtain ⟨k, acc, hk, rfl, rfl, hacc, hrest⟩ := hrel
        have HA : Hid _ := hacc
        have HS : Hid _ := hrest
        clear hacc hrest
        by_cases hlt : k < lim
        · have hkl : p + k < l.length := by rw [← HN.out]; omega
          have hc := HC.out (p + k) hkl
          have hst := HS.out
          rw [drop_at l (p + k) hkl, rdU_cons _ _ _ _ _ (by omega)] at hst
          obtain ⟨x, HX⟩ := named (l[p + k]'hkl)
          rw [← HX.out] at hc hst
          have HT : Hid _ := hst
          have hx8 : x.toNat < 256 := x.toNat_lt
          clear hst
          go_wp2_with fail
          refine (mayStand_any _ _ _).mono ?_
          rintro e w1 ⟨rfl, hw1⟩
          subst hw1
          cases hmay : mayB x.toNat k with
          | false => 
            have hf := HT.out
            rw [if_pos hmay] at hf
            have HF : Hid _ := hf
            clear hf
            go_wp2
            go_ret3
            exact ⟨by rw [← HF.out]; rfl, rfl⟩
          | true =>
            have hf := HT.out
            rw [if_neg (by rw [hmay]; simp)] at hf
            have HF : Hid _ := hf
            have HV : Hid _ := acc_step acc k x (by omega) HA.out (mayB_nine _ _ hmay)
            have HL : Hid _ := acc_lt acc k x.toNat HA.out
            clear hf
            by_cases hx : x.toNat < 128
            · have hf := HF.out
              rw [if_pos hx] at hf
              have HF2 : Hid _ := hf
              clear hf
              have hx' : (x.toNat : Int) < 128 := by omega
              go_wp2
              go_ret3
              exact ⟨by rw [← HF2.out]; exact ret3 HV.out (by simp) rfl, rfl⟩
            · have hf := HF.out
              rw [if_neg hx] at hf
              have HF2 : Hid _ := hf
              clear hf
              have hx' : ¬ (x.toNat : Int) < 128 := by omega
              go_wp2
              go_round
              case rel => exact ⟨k + 1, _, by omega, by go_num, congrArg (Value.int .u64) HV.out, HL.out, HF2.out⟩
              case measure => simp [intOf]; omega
        · have hend : rdU p k acc (l.drop (p + k)) = (0, 0, 11) := rdU_end _ _ _ _ (by
            rcases HOR.out with h | h
            · left; omega
            · right; apply List.drop_eq_nil_of_le; rw [← HN.out]; omega)
          rw [HS.out] at hend
          have HE : Hid _ := hend
          clear hend
          go_wp2
          go_ret3
          exact ⟨by rw [HE.out]; rfl, rfl⟩

theorem rdU_lt (p i acc : Nat) (l : List UInt8) (hi : i ≤ 10) (h : acc < 2 ^ (7 * i)) : (rdU p i acc l).1 < 18446744073709551616 := by
  induction l generalizing i acc with
  | nil => simp [rdU]
  | cons x t ih =>
    by_cases h10 : i = 10
    · rw [rdU, if_pos h10]; simp
    · rw [rdU_cons _ _ _ _ _ (by omega)]
      cases hm : mayB x.toNat i with
      | false => simp
      | true =>
        rw [if_neg (by simp)]
        split
        · have e := acc_step acc i x (by omega) h (mayB_nine _ _ hm)
          have : ((acc + x.toNat % 128 * 2 ^ (7 * i) : Nat) : Int) < 18446744073709551616 := by
            rw [← e]
            show IntKind.u64.wrap _ < _
            rw [wrap_u64]
            omega
          simp only
          omega
        · exact ih _ _ (by omega) (acc_lt _ _ _ h)
theorem getU_lt (l : List UInt8) (p : Int) : (getU l p).1 < 18446744073709551616 := by
  unfold getU
  split
  · simp
  · exact rdU_lt _ _ _ _ (by omega) (by simp)

set_option maxRecDepth 100000 in
set_option maxHeartbeats 800000 in
theorem getUint_any (v : Value) (l : List UInt8) (p : Int) (w : World) (hrd : Rd w v l) (hl : l.length ≤ 140737488355328) :
    Calls Tryd.prog 71 #[v, .int .i64 p] w fun e w' => e = .returned (.tuple #[.int .u64 (getU l p).1, .int .i64 (getU l p).2.1, .int .i64 (getU l p).2.2]) ∧ w = w' := by
  by_cases hb : p < 0 ∨ (l.length : Int) < p
  · have e : getU l p = (0, 0, 2) := by unfold getU; rw [if_pos hb]
    rw [e]
    obtain ⟨ao, cap, rfl, -⟩ := hrd
    by_cases h0 : p < 0
    · go_enter Tryd.func71, Tryd.ntmps71
      go_wp2
      go_ret3
      exact ⟨rfl, rfl⟩
    · have h1 : (l.length : Int) < p := by omega
      clear hb
      go_enter Tryd.func71, Tryd.ntmps71
      go_wp2
      go_ret3
      exact ⟨rfl, rfl⟩
  · have e : getU l p = rdU p.toNat 0 0 (l.drop p.toNat) := by unfold getU; rw [if_neg hb]
    rw [e]
    obtain ⟨q, rfl⟩ := Int.eq_ofNat_of_zero_le (a := p) (by omega)
    rw [show ((q : Nat) : Int).toNat = q from by omega]
    exact getUint_in v l q w hrd (by omega) hl

set_option maxRecDepth 100000 in
set_option maxHeartbeats 800000 in
theorem getInt_any (v : Value) (l : List UInt8) (p : Int) (w : World) (hrd : Rd w v l) (hl : l.length ≤ 140737488355328) :
    Calls Tryd.prog 81 #[v, .int .i64 p] w fun e w' => e = .returned (.tuple #[.int .i64 (unfoldI (getU l p).1), .int .i64 (getU l p).2.1, .int .i64 (getU l p).2.2]) ∧ w = w' := by
  have hg := getU_lt l p
  obtain ⟨R, HR⟩ := named (getU l p)
  rw [← HR.out] at hg ⊢
  have HG : Hid _ := hg
  clear hg
  obtain ⟨ao, cap, hv, -⟩ := id hrd
  subst hv
  go_enter Tryd.func81, Tryd.ntmps81
  go_wp2_with fail
  refine (getUint_any _ l p _ hrd hl).mono ?_
  rintro e w1 ⟨rfl, hw1⟩
  subst hw1
  rw [← HR.out]
  go_wp2_with fail
  refine (unfold_any _ _ (by omega) (by have := HG.out; omega)).mono ?_
  rintro e w1 ⟨rfl, hw1⟩
  subst hw1
  go_wp2
  go_ret3
  exact ⟨rfl, rfl⟩
end Go.Proofs.YtpiiehenmkinaaaDoor

/-
  The contracts of bytes.Crc, check, Seal. Own work.
-/
namespace Go.Proofs.YtpiiehenmkinaaaDoor
open Go.RowKit

end Go.Proofs.YtpiiehenmkinaaaDoor

/-
  The contracts of bytes.check, Seal, CopyBytes, slices.Equal. Own work.
-/
namespace Go.Proofs.YtpiiehenmkinaaaDoor
open Go.RowKit

set_option maxRecDepth 100000 in
set_option maxHeartbeats 800000 in
theorem copyBytes_any (v : Value) (l : List UInt8) (w : World) (hrd : Rd w v l) (hl : l.length ≤ 140737488355000) :
    Calls Tryd.prog 24 #[v] w fun e w' => ∃ v, e = .returned v ∧ Own w' w.heap.size v l ∧ Below w.heap.size w w' := by
  obtain ⟨i0, hi, hz0, hz1, hz2⟩ := info_parts Tryd.info5
  obtain ⟨ao, cap, hv, -⟩ := id hrd
  subst hv
  obtain ⟨n, HN⟩ := named l.length
  rw [← HN.out] at hl hrd ⊢
  go_enter Tryd.func24, Tryd.ntmps24
  go_wp2_with (at_make; go_must (refine wpList_make_own _ rfl (.const (.int .i64 0)) (.tmp 5) 25 rfl w.heap.size 5 i0 (.int .u8 0) 1 Tryd.underlying25 hi hz0 hz1 .i64 .i64 _ n rfl rfl rfl ?_ ?_ ?_ ?_))
  · rw [hz2]; omega
  · unfold maxLen; omega
  · exact Nat.le_refl _
  · intro w1 hown hg
    have hb1 : Below w.heap.size w w1 := (Below.refl _ _).grown hg (Nat.le_refl _) (fun k hk => by cases hk)
    have hrd1 := hrd.below hb1
    have hsz := hb1.size
    have hown0 : Own w1 w.heap.size (.slice (some ⟨w.heap.size, 0, none⟩) 0 n) [] := hown
    clear hg hown hrd
    have hln : 0 + l.length ≤ 140737488355328 := by rw [← HN.out]; omega
    have HL : Hid _ := hln
    clear hln
    go_wp2_with (at_builtin; go_must (refine wpList_append_rd _ rfl (.tmp 7) (.tmp 8) 25 rfl i0 Tryd.underlying25 hi hz0 hz1 hz2 w.heap.size _ _ rfl rfl [] l hown0 hrd1 HL.out hsz ?_))
    intro v' w' hown' hg
    have hb' : Below w.heap.size w w' := hb1.grown hg hsz (fun k hk => (World.ownsRow.lt hown0 k hk).1)
    clear hg
    go_wp2
    go_ret
    exact ⟨_, rfl, hown', hb'⟩

end Go.Proofs.YtpiiehenmkinaaaDoor

/-
  The contract of bytes.GetBlob. Own work.
-/
namespace Go.Proofs.YtpiiehenmkinaaaDoor
open Go.RowKit

set_option maxRecDepth 100000 in
set_option maxHeartbeats 800000 in
theorem getBlob_any (v : Value) (l : List UInt8) (p q : Int) (w : World) (hrd : Rd w v l) (hl : l.length ≤ 140737488355000) (hq : q ≤ 9223372036854775807) :
    Calls Tryd.prog 70 #[v, .int .i64 p, .int .i64 q] w fun e w' => ∃ v, e = .returned (.tuple #[v, .int .i64 (getB l p q).2.1, .int .i64 (getB l p q).2.2]) ∧ Own w' w.heap.size v (getB l p q).1 ∧ Below w.heap.size w w' := by
  have hpl := getU_place l p
  have hG : getB l p q = if (getU l p).2.2 ≠ 0 then ([], 0, (getU l p).2.2)
    else if q < 0 ∨ q < (getU l p).1 then ([], 0, 3)
    else if l.length - (getU l p).2.1 < (getU l p).1 then ([], 0, 11)
    else ((l.drop (getU l p).2.1).take (getU l p).1, (getU l p).2.1 + (getU l p).1, 0) := rfl
  have hlt := getU_lt l p
  have HGU : Hid (getU l p = getU l p) := rfl
  have hcall := fun w => fun h => getUint_any v l p w h (by omega)
  obtain ⟨R, HR⟩ := named (getU l p)
  obtain ⟨n, from_, er⟩ := R
  rw [← HR.out] at hpl hG hlt
  simp only at hpl hG hlt
  rw [hG]
  clear hG HGU
  obtain ⟨ao, cap, hv, h1, h2, -⟩ := id hrd
  subst hv
  have hc2 : Calls Tryd.prog 71 #[.slice ao l.length cap, .int .i64 p] w fun e w' => e = .returned (.tuple #[.int .u64 n, .int .i64 from_, .int .i64 er]) ∧ w = w' := by
    have := hcall w hrd
    rw [← HR.out] at this
    exact this
  clear hcall
  by_cases he : er = 0
  · rw [if_neg (by simpa using he)]
    subst he
    obtain ⟨hp0, hp1, hp2⟩ := hpl rfl
    by_cases hm : q < 0 ∨ q < n
    · rw [if_pos hm]
      by_cases hq0 : q < 0
      · clear hm hpl hlt
        go_enter Tryd.func70, Tryd.ntmps70
        go_wp2_with fail
        refine hc2.mono ?_
        rintro e w1 ⟨rfl, hw1⟩
        subst hw1
        clear hc2
        go_wp2
        go_ret3
        exact ⟨_, rfl, Own.nil _ _, Below.refl _ _⟩
      · have hqn : q < n := by omega
        have HQ : Hid (q ≤ 9223372036854775807) := hq
        clear hm hpl hlt
        go_enter Tryd.func70, Tryd.ntmps70
        go_wp2_with fail
        refine hc2.mono ?_
        rintro e w1 ⟨rfl, hw1⟩
        subst hw1
        clear hc2
        go_wp2
        go_ret3
        exact ⟨_, rfl, Own.nil _ _, Below.refl _ _⟩
    · rw [if_neg hm]
      have hq0 : 0 ≤ q := by omega
      have hqn : (n : Int) ≤ q := by omega
      clear hm hpl hlt
      by_cases hs : l.length - from_ < n
      · rw [if_pos hs]
        go_enter Tryd.func70, Tryd.ntmps70
        go_wp2_with fail
        refine hc2.mono ?_
        rintro e w1 ⟨rfl, hw1⟩
        subst hw1
        clear hc2
        go_wp2
        go_ret3
        exact ⟨_, rfl, Own.nil _ _, Below.refl _ _⟩
      · rw [if_neg hs]
        have hn1 : from_ + n ≤ l.length := by omega
        have hln : ((l.drop from_).take n).length ≤ 140737488355000 := by rw [List.length_take, List.length_drop]; omega
        have HLN : Hid _ := hln
        clear hln
        unfold maxLen at h2
        by_cases hcf : cap = from_
        · obtain rfl : n = 0 := by omega
          subst hcf
          have hrdC : Rd w (.slice ao 0 0) ((l.drop cap).take 0) := by
            simp only [List.take_zero]
            exact ⟨ao, 0, rfl, Nat.le_refl _, by simp [maxLen], fun _ => rfl, fun a _ i hi => by simp at hi⟩
          obtain ⟨lC, HC⟩ := named ((l.drop cap).take 0)
          rw [← HC.out] at hrdC HLN ⊢
          go_enter Tryd.func70, Tryd.ntmps70
          go_wp2_with fail
          refine hc2.mono ?_
          rintro e w1 ⟨rfl, hw1⟩
          subst hw1
          clear hc2
          go_wp2_with fail
          refine (own_any _ lC _ hrdC HLN.out).mono ?_
          rintro e w3 ⟨v3, rfl, hown3, hb3⟩
          go_wp2
          go_ret3
          exact ⟨_, rfl, hown3, hb3⟩
        · have hrdC : Rd w (.slice (Option.map (fun x => x.add from_) ao) n (cap - from_)) ((l.drop from_).take n) := by
            have := hrd.cut from_ (from_ + n) (by omega) hn1
            rw [List.drop_take, show from_ + n - from_ = n by omega] at this
            exact this
          obtain ⟨lC, HC⟩ := named ((l.drop from_).take n)
          rw [← HC.out] at hrdC HLN ⊢
          go_enter Tryd.func70, Tryd.ntmps70
          go_wp2_with fail
          refine hc2.mono ?_
          rintro e w1 ⟨rfl, hw1⟩
          subst hw1
          clear hc2
          go_wp2_with fail
          refine (own_any _ lC _ hrdC HLN.out).mono ?_
          rintro e w3 ⟨v3, rfl, hown3, hb3⟩
          go_wp2
          go_ret3
          exact ⟨_, by simp, hown3, hb3⟩
  · rw [if_pos (by simpa using he)]
    have her : ((er : Int) != 0) = true := by simp only [bne_iff_ne]; omega
    have HE : Hid _ := he
    clear he hpl hlt
    go_enter Tryd.func70, Tryd.ntmps70
    go_wp2_with fail
    refine hc2.mono ?_
    rintro e w1 ⟨rfl, hw1⟩
    subst hw1
    clear hc2
    go_wp2
    go_ret3
    exact ⟨_, rfl, Own.nil _ _, Below.refl _ _⟩
end Go.Proofs.YtpiiehenmkinaaaDoor

/-
  The contract of bytes.Unseal. Own work.
-/
namespace Go.Proofs.YtpiiehenmkinaaaDoor
open Go.RowKit

end Go.Proofs.YtpiiehenmkinaaaDoor

/-
  Small facts: string(b) under a name, a literal as what is read, what a call leaves. Own work.
-/
namespace Go.Proofs.YtpiiehenmkinaaaDoor
open Go.RowKit

/-- string(b), under a name that the walk does not lay open -/
def toStr (v : Value) : Sem Value := convert 25 9 v
theorem run_toStr (v : Value) (w : World) : (convert 25 9 v).run Tryd.prog w = (toStr v).run Tryd.prog w := rfl
theorem run_str (w : World) (v : Value) (l : List UInt8) (h : Rd w v l) : (toStr v).run Tryd.prog w = .ok (.string ⟨l.toArray⟩) w := by
  unfold toStr
  obtain ⟨ao, cap, rfl, h1, h2, h3, h4⟩ := h
  cases ao with
  | none =>
    have hc := h3 rfl
    have hl : l = [] := List.eq_nil_of_length_eq_zero (by omega)
    subst hl
    rw [run_convert_bytes_string w 25 9 5 _ _ _ Tryd.underlying25 Tryd.underlying5 Tryd.underlying9]
    rfl
  | some a => exact run_convert_bytes_back w 25 9 5 a cap l Tryd.underlying25 Tryd.underlying5 Tryd.underlying9 (fun j hj => h4 a rfl j hj)
theorem Rd.lit (w : World) (cs : Array Value) (l : List UInt8) (n : Nat) (e : TypeId) (m : Nat × Nat) (h : cs = (BV l).toArray) (hn : n = l.length) (hl : n ≤ maxLen) : Rd (w.alloc (.cells cs e m)) (.slice (some ⟨w.heap.size, 0, none⟩) n n) l := by
  subst h
  subst hn
  refine ⟨_, _, rfl, Nat.le_refl _, hl, by simp, fun a ha i hi => ?_⟩
  obtain rfl := Option.some.inj ha
  have : (⟨w.heap.size, 0, none⟩ : Addr).add i = ⟨w.heap.size, i, none⟩ := by unfold Addr.add; split <;> simp_all
  rw [this, cell_of_row _ w.heap.size i (BV l).toArray e m (heap_alloc_new w _)]
  simp [BV, hi]
theorem below_alloc_call {w w1 w2 : World} {o : Obj} (h : Below w.heap.size w w1) (hb : Below (w1.alloc o).heap.size (w1.alloc o) w2) : Below w.heap.size w w2 :=
  (h.alloc h.size o).trans (hb.mono (by have := h.size; simp; omega))
theorem below_call {w w1 w2 : World} (h : Below w.heap.size w w1) (hb : Below w1.heap.size w1 w2) : Below w.heap.size w w2 := h.trans (hb.mono h.size)
end Go.Proofs.YtpiiehenmkinaaaDoor

/-
  The contracts of SameBytes, gets, errs, awake. Own work.
-/
namespace Go.Proofs.YtpiiehenmkinaaaDoor
open Go.RowKit

set_option maxRecDepth 100000 in
set_option maxHeartbeats 800000 in
theorem same_any (v0 v1 : Value) (l0 l1 : List UInt8) (w : World) (h0 : Rd w v0 l0) (h1 : Rd w v1 l1) :
    Calls Tryd.prog 16 #[v0, v1] w fun e w' => e = .returned (.bool (decide (l0 = l1))) ∧ w' = w := by
  obtain ⟨a0, c0, hv, -⟩ := id h0
  subst hv
  obtain ⟨a1, c1, hv, -⟩ := id h1
  subst hv
  have hT := run_toStr
  have hs0 := run_str w _ l0 h0
  have hs1 := run_str w _ l1 h1
  go_enter Tryd.func16, Tryd.ntmps16
  go_wp2
  go_ret
  exact ⟨ret_bool (by rw [Bool.eq_iff_iff]; simp), rfl⟩


end Go.Proofs.YtpiiehenmkinaaaDoor

/-
  What is read of what was written, and how long it is: plain lemmas. Own work.
-/
namespace Go.Proofs.YtpiiehenmkinaaaDoor
open Go.RowKit

/-- all sevens are full -/
def fullL : List UInt8 → Bool
  | [] => false
  | [x] => decide (x = 127)
  | x :: y :: t => decide (x = 255) && fullL (y :: t)

theorem sev_pos (f n : Nat) : 0 < (sev (f + 1) n).length := by
  rw [sev]; split <;> simp
theorem sev_ne (f n : Nat) : ∃ x t, sev (f + 1) n = x :: t := by
  rw [sev]; split
  · exact ⟨_, _, rfl⟩
  · exact ⟨_, _, rfl⟩
theorem sev_mono (f x y : Nat) (h : x ≤ y) : (sev f x).length ≤ (sev f y).length := by
  induction f generalizing x y with
  | zero => simp [sev]
  | succ f ih =>
    by_cases hx : x < 128
    · have := sev_pos f y
      rw [sev, if_pos hx]
      simp only [List.length_cons, List.length_nil]
      omega
    · have hy : ¬ y < 128 := by omega
      rw [sev, if_neg hx, sev, if_neg hy]
      simp only [List.length_cons]
      have := ih (x / 128) (y / 128) (Nat.div_le_div_right h)
      omega

theorem sev_next (f n : Nat) (h : n + 1 < 128 ^ f) : (sev f (n + 1)).length = (sev f n).length + (if fullL (sev f n) then 1 else 0) := by
  induction f generalizing n with
  | zero => simp at h
  | succ f ih =>
    by_cases h1 : n < 127
    · rw [sev, if_pos (by omega), sev, if_pos (by omega)]
      have : fullL [UInt8.ofNat n] = false := by
        simp only [fullL, decide_eq_false_iff_not]
        intro e
        have := congrArg UInt8.toNat e
        simp [UInt8.toNat_ofNat'] at this
        omega
      rw [this]
      rfl
    · by_cases h2 : n = 127
      · subst h2
        have hf : f ≠ 0 := by
          intro e
          subst e
          simp at h
        obtain ⟨f', rfl⟩ : ∃ f', f = f' + 1 := ⟨f - 1, by omega⟩
        rw [sev, if_neg (by omega), sev, if_pos (by omega), sev, if_pos (by omega)]
        rfl
      · have h3 : ¬ n < 128 := by omega
        rw [sev, if_neg (by omega), sev, if_neg h3]
        have hf : f ≠ 0 := by
          intro e
          subst e
          simp at h
          omega
        obtain ⟨f', rfl⟩ : ∃ f', f = f' + 1 := ⟨f - 1, by omega⟩
        have hp : 128 ^ (f' + 1 + 1) = 128 * 128 ^ (f' + 1) := by rw [Nat.pow_succ]; omega
        by_cases h4 : n % 128 = 127
        · have e1 : (n + 1) / 128 = n / 128 + 1 := by omega
          rw [e1]
          have hi := ih (n / 128) (by omega)
          obtain ⟨x, t, hx⟩ := sev_ne f' (n / 128)
          have ef : fullL (UInt8.ofNat (n % 128 + 128) :: sev (f' + 1) (n / 128)) = fullL (sev (f' + 1) (n / 128)) := by
            rw [hx, fullL, h4]
            simp
          rw [ef]
          simp only [List.length_cons]
          omega
        · have e1 : (n + 1) / 128 = n / 128 := by omega
          rw [e1]
          obtain ⟨x, t, hx⟩ := sev_ne f' (n / 128)
          have ef : fullL (UInt8.ofNat (n % 128 + 128) :: sev (f' + 1) (n / 128)) = false := by
            rw [hx, fullL]
            have : decide (UInt8.ofNat (n % 128 + 128) = 255) = false := by
              apply decide_eq_false
              intro e
              have := congrArg UInt8.toNat e
              rw [UInt8.toNat_ofNat'] at this
              simp at this
              omega
            rw [this]
            rfl
          rw [ef]
          simp

theorem pow_split (i : Nat) : 2 ^ (7 * (i + 1)) = 128 * 2 ^ (7 * i) := by
  rw [Nat.mul_add, Nat.pow_add]; omega

/-- what was written is read -/
theorem rdU_sev (p f i acc n : Nat) (rest : List UInt8) (hf : i + f = 10) (hn : n * 2 ^ (7 * i) < 18446744073709551616) (hi : 0 < i → 0 < n) (hf0 : 0 < f) :
    rdU p i acc (sev f n ++ rest) = (acc + n * 2 ^ (7 * i), p + i + (sev f n).length, 0) := by
  induction f generalizing i acc n with
  | zero => omega
  | succ f ih =>
    have hb9 : i = 9 → n ≤ 1 := by
      intro h9
      subst h9
      simp at hn
      omega
    by_cases hs : n < 128
    · rw [sev, if_pos hs, List.singleton_append, rdU_cons _ _ _ _ _ (by omega)]
      have hx : (UInt8.ofNat n).toNat = n := by rw [UInt8.toNat_ofNat']; omega
      rw [hx]
      have hm : mayB n i = true := by
        unfold mayB
        by_cases h9 : i = 9
        · have := hb9 h9
          have := hi (by omega)
          subst h9
          have : n = 1 := by omega
          subst this
          rfl
        · have : ((i : Int) == 9) = false := by simp; omega
          rw [this]
          by_cases h0 : i = 0
          · subst h0; simp
          · have := hi (by omega)
            simp
            omega
      rw [if_neg (by rw [hm]; simp), if_pos hs, Nat.mod_eq_of_lt hs]
      simp
    · rw [sev, if_neg hs, List.cons_append, rdU_cons _ _ _ _ _ (by omega)]
      have hx : (UInt8.ofNat (n % 128 + 128)).toNat = n % 128 + 128 := by rw [UInt8.toNat_ofNat']; omega
      rw [hx]
      have hm : mayB ((n % 128 + 128 : Nat) : Int) i = true := by
        unfold mayB
        have h9 : ((i : Int) == 9) = false := by
          simp
          intro h9
          have := hb9 (by omega)
          omega
        rw [h9]
        simp
        omega
      rw [if_neg (by rw [hm]; simp), if_neg (by omega)]
      have hf1 : 0 < f := by
        rcases Nat.eq_zero_or_pos f with h | h
        · subst h
          have := hb9 (by omega)
          omega
        · exact h
      have e1 : (n % 128 + 128) % 128 = n % 128 := by omega
      have e2 : n / 128 * 2 ^ (7 * (i + 1)) = n / 128 * 128 * 2 ^ (7 * i) := by rw [pow_split, Nat.mul_assoc]
      have e3 : n % 128 * 2 ^ (7 * i) + n / 128 * 128 * 2 ^ (7 * i) = n * 2 ^ (7 * i) := by
        rw [← Nat.add_mul]
        congr 1
        omega
      rw [e1, ih (i + 1) _ (n / 128) (by omega) (by omega) (by omega) hf1]
      simp only [List.length_cons, Prod.mk.injEq]
      refine ⟨by omega, by omega, trivial⟩

theorem getU_U (n : Nat) (hn : n ≤ 18446744073709551615) (ahead rest : List UInt8) : getU (ahead ++ (U n ++ rest)) ahead.length = (n, ahead.length + (U n).length, 0) := by
  unfold getU
  rw [if_neg (by simp; omega)]
  have : ((ahead.length : Nat) : Int).toNat = ahead.length := by omega
  rw [this, List.drop_left]
  have h := rdU_sev ahead.length 10 0 0 n rest rfl (by simp; omega) (by omega) (by omega)
  have e : U (n : Int) = sev 10 n := rfl
  rw [e, h]
  simp
theorem getU_U0 (n : Nat) (hn : n ≤ 18446744073709551615) : getU (U n) 0 = (n, (U n).length, 0) := by
  have := getU_U n hn [] []
  simpa using this
theorem U_inj (n m : Nat) (hn : n ≤ 18446744073709551615) (hm : m ≤ 18446744073709551615) (h : U n = U m) : n = m := by
  have h1 := getU_U0 n hn
  have h2 := getU_U0 m hm
  rw [h, h2] at h1
  exact (congrArg Prod.fst h1).symm
theorem U_pos (n : Int) : 0 < (U n).length := sev_pos 9 _
theorem U_mono (n m : Nat) (h : n ≤ m) : (U n).length ≤ (U m).length := sev_mono 10 n m h
theorem U_next (n : Nat) (h : n < 18446744073709551615) : (U ((n + 1 : Nat) : Int)).length = (U n).length + (if fullL (U n) then 1 else 0) :=
  sev_next 10 n (by omega)
theorem U_top : (U 18446744073709551615).length = 10 := by decide +kernel

/-- full up to the j-th, by what the last one is -/
def fullTo (l : List UInt8) (b : Bool) (j : Nat) : Bool := b && (l.take j).all fun x => decide (x = 255)
theorem fullTo_succ (l : List UInt8) (b : Bool) (j : Nat) (h : j < l.length) : fullTo l b (j + 1) = (fullTo l b j && decide (l[j] = 255)) := by
  unfold fullTo
  rw [List.take_succ_eq_append_getElem h, List.all_append]
  simp [Bool.and_assoc]
theorem fullL_eq (l : List UInt8) (k : Nat) (h : l.length = k + 1) : fullL l = fullTo l (decide (l[k] = 127)) k := by
  induction l generalizing k with
  | nil => simp at h
  | cons x t ih =>
    cases t with
    | nil =>
      simp at h
      subst h
      simp [fullL, fullTo]
    | cons y t =>
      obtain ⟨k', rfl⟩ : ∃ k', k = k' + 1 := ⟨k - 1, by simp at h; omega⟩
      rw [fullL, ih k' (by simpa using h)]
      unfold fullTo
      simp only [List.take_succ_cons, List.all_cons, List.getElem_cons_succ]
      cases decide (x = 255) <;> simp
theorem u8_eq (x : UInt8) (n : Nat) (hn : n < 256) : ((x.toNat : Int) == (n : Int)) = decide (x = UInt8.ofNat n) := by
  rw [Bool.eq_iff_iff]
  simp only [beq_iff_eq, decide_eq_true_eq]
  constructor
  · intro h
    apply UInt8.toNat_inj.1
    rw [UInt8.toNat_ofNat']
    omega
  · intro h
    rw [h, UInt8.toNat_ofNat']
    omega

end Go.Proofs.YtpiiehenmkinaaaDoor

/-
  A log of entries that is cut: what is read of it. Plain lemmas. Own work.
-/
namespace Go.Proofs.YtpiiehenmkinaaaDoor
open Go.RowKit

/-- the bytes of a number, cut: too short -/
theorem rdU_cut (p f i acc n k : Nat) (hf : i + f ≤ 10) (hk : k < (sev f n).length) (hn : n * 2 ^ (7 * i) < 18446744073709551616) : rdU p i acc ((sev f n).take k) = (0, 0, 11) := by
  induction f generalizing i acc n k with
  | zero => simp [sev] at hk
  | succ f ih =>
    by_cases hs : n < 128
    · rw [sev, if_pos hs] at hk ⊢
      have : k = 0 := by simpa using hk
      subst this
      rfl
    · rw [sev, if_neg hs] at hk ⊢
      cases k with
      | zero => rfl
      | succ k =>
        rw [List.take_succ_cons]
        have hx : (UInt8.ofNat (n % 128 + 128)).toNat = n % 128 + 128 := by rw [UInt8.toNat_ofNat']; omega
        have hi9 : i ≠ 9 := by
          intro h9
          subst h9
          simp at hn
          omega
        rw [rdU_cons _ _ _ _ _ (by omega), hx]
        have hm : mayB ((n % 128 + 128 : Nat) : Int) i = true := by
          unfold mayB
          have h9 : ((i : Int) == 9) = false := by
            simp
            omega
          rw [h9]
          simp
          omega
        rw [if_neg (by rw [hm]; simp), if_neg (by omega)]
        refine ih (i + 1) _ (n / 128) k (by omega) (by simpa using hk) ?_
        have e2 : n / 128 * 2 ^ (7 * (i + 1)) = n / 128 * 128 * 2 ^ (7 * i) := by rw [pow_split, Nat.mul_assoc]
        have e3 : n / 128 * 128 * 2 ^ (7 * i) ≤ n * 2 ^ (7 * i) := Nat.mul_le_mul_right _ (by omega)
        omega
theorem getU_cut (n k : Nat) (hn : n ≤ 18446744073709551615) (ahead : List UInt8) (hk : k < (U n).length) : getU (ahead ++ (U n).take k) ahead.length = (0, 0, 11) := by
  unfold getU
  rw [if_neg (by simp; omega)]
  have : ((ahead.length : Nat) : Int).toNat = ahead.length := by omega
  rw [this, List.drop_left]
  exact rdU_cut ahead.length 10 0 0 n k (by omega) hk (by simp; omega)

/-- a string with its length ahead -/
def blobL (b : List UInt8) : List UInt8 := U b.length ++ b
theorem blobL_length (b : List UInt8) : (blobL b).length = (U b.length).length + b.length := by simp [blobL]
theorem getB_blob (b ahead rest : List UInt8) (q : Int) (hb : b.length ≤ 1000000) (hq : (b.length : Int) ≤ q) : getB (ahead ++ (blobL b ++ rest)) ahead.length q = (b, ahead.length + (blobL b).length, 0) := by
  have hg := getU_U b.length (by omega) ahead (b ++ rest)
  have e : ahead ++ (blobL b ++ rest) = ahead ++ (U b.length ++ (b ++ rest)) := by simp [blobL]
  rw [e]
  unfold getB
  rw [hg]
  simp only [ne_eq, not_true_eq_false, if_false]
  rw [if_neg (by omega)]
  have hl : (ahead ++ (U (b.length : Int) ++ (b ++ rest))).length - (ahead.length + (U (b.length : Int)).length) = b.length + rest.length := by
    simp only [List.length_append]
    omega
  rw [if_neg (by rw [hl]; omega), blobL_length]
  have hd : (ahead ++ (U (b.length : Int) ++ (b ++ rest))).drop (ahead.length + (U (b.length : Int)).length) = b ++ rest := by
    rw [← List.append_assoc, ← List.length_append, List.drop_left]
  rw [hd, List.take_left]
  simp only [Prod.mk.injEq, true_and, and_true]
  omega
theorem getB_blob_cut (b ahead : List UInt8) (k : Nat) (q : Int) (hb : b.length ≤ 1000000) (hq : (b.length : Int) ≤ q) (hk : k < (blobL b).length) : getB (ahead ++ (blobL b).take k) ahead.length q = ([], 0, 11) := by
  rw [blobL_length] at hk
  by_cases hu : k < (U b.length).length
  · have e : (blobL b).take k = (U b.length).take k := by rw [blobL, List.take_append_of_le_length (by omega)]
    unfold getB
    rw [e, getU_cut _ _ (by omega) _ hu]
    simp
  · obtain ⟨j, rfl⟩ : ∃ j, k = (U b.length).length + j := ⟨k - (U b.length).length, by omega⟩
    have e : (blobL b).take ((U b.length).length + j) = U b.length ++ b.take j := by
      rw [blobL, List.take_append, List.take_of_length_le (by omega)]
      congr 2
      omega
    have hg := getU_U b.length (by omega) ahead (b.take j)
    unfold getB
    rw [e, hg]
    simp only [ne_eq, not_true_eq_false, if_false]
    rw [if_neg (by omega), if_pos]
    simp only [List.length_append, List.length_take]
    omega

/-- what an entry is: its numbers, its bytes -/
def bodyL (n : Nat) (i : Int) (b : List UInt8) : List UInt8 := (U n ++ U (foldI i)) ++ blobL b
def entryL (n : Nat) (i : Int) (b : List UInt8) : List UInt8 := blobL (bodyL n i b ++ be4 (crc (bodyL n i b)))

theorem body_length (n : Nat) (i : Int) (b : List UInt8) : (bodyL n i b).length = (U n).length + (U (foldI i)).length + (U b.length).length + b.length := by
  simp [bodyL, blobL]
  omega
theorem body_N (n : Nat) (i : Int) (b : List UInt8) (hn : n ≤ 18446744073709551615) : getU (bodyL n i b) 0 = (n, (U n).length, 0) := by
  have := getU_U n hn [] (U (foldI i) ++ blobL b)
  simpa [bodyL] using this
theorem body_I (n : Nat) (i : Int) (b : List UInt8) (h0 : -9223372036854775808 ≤ i) (h1 : i ≤ 9223372036854775807) : getU (bodyL n i b) (U n).length = ((foldI i).toNat, (U n).length + (U (foldI i)).length, 0) := by
  have hr := foldI_range i h0 h1
  obtain ⟨m, hm⟩ := Int.eq_ofNat_of_zero_le hr.1
  have := getU_U m (by omega) (U n) (blobL b)
  rw [hm]
  unfold bodyL
  rw [hm, List.append_assoc]
  simpa using this
theorem body_B (n : Nat) (i : Int) (b : List UInt8) (hb : b.length ≤ 100) : getB (bodyL n i b) ((U n).length + (U (foldI i)).length : Nat) (bodyL n i b).length = (b, (bodyL n i b).length, 0) := by
  have := getB_blob b (U n ++ U (foldI i)) [] (bodyL n i b).length (by omega) (by rw [body_length]; omega)
  rw [List.append_nil, List.length_append] at this
  unfold bodyL at this ⊢
  rw [this]
  simp [blobL]
  omega
theorem entry_unseal (n : Nat) (i : Int) (b : List UInt8) : unsealL (bodyL n i b ++ be4 (crc (bodyL n i b))) = (bodyL n i b, 0) := by
  have h4 : (be4 (crc (bodyL n i b))).length = 4 := rfl
  unfold unsealL
  rw [if_neg (by rw [List.length_append, h4]; omega), List.length_append, h4, show (bodyL n i b).length + 4 - 4 = (bodyL n i b).length by omega, List.drop_left, List.take_left, if_pos rfl]
theorem sealed_length (n : Nat) (i : Int) (b : List UInt8) (hb : b.length ≤ 100) : (bodyL n i b ++ be4 (crc (bodyL n i b))).length ≤ 134 := by
  have h1 : ∀ z, (U z).length ≤ 10 := fun z => by
    unfold U
    have : ∀ f n, (sev f n).length ≤ f := by
      intro f
      induction f with
      | zero => intro n; simp [sev]
      | succ f ih => intro n; unfold sev; split <;> simp; exact ih _
    exact this 10 _
  have h2 := h1 n
  have h3 := h1 (foldI i)
  have h4 := h1 b.length
  rw [List.length_append, body_length]
  show _ + 4 ≤ 134
  omega
theorem entry_length (n : Nat) (i : Int) (b : List UInt8) (hb : b.length ≤ 100) : 0 < (entryL n i b).length ∧ (entryL n i b).length ≤ 144 := by
  have h1 := sealed_length n i b hb
  have h2 := U_pos ((bodyL n i b ++ be4 (crc (bodyL n i b))).length : Int)
  unfold entryL
  rw [blobL_length]
  have h3 : (U ((bodyL n i b ++ be4 (crc (bodyL n i b))).length : Int)).length ≤ 10 := by
    unfold U
    have : ∀ f n, (sev f n).length ≤ f := by
      intro f
      induction f with
      | zero => intro n; simp [sev]
      | succ f ih => intro n; unfold sev; split <;> simp; exact ih _
    exact this 10 _
  omega

end Go.Proofs.YtpiiehenmkinaaaDoor
