/-
  The contract of byNumbers. Own work.
-/
import Derived.Test.YtlngeonfabahnaaDoorQe
namespace Go.Proofs.YtlngeonfabahnaaDoor
open Go Go.RowKit

theorem knOf_snoc (l : List (Int × Oc)) (x : Int × Oc) (n : Int) : knOf (l ++ [x]) n = match knOf l n with
    | some o => some o
    | none => if x.1 = n then some x.2 else none := by
  unfold knOf
  rw [List.find?_append]
  cases l.find? (fun k => k.1 == n) with
  | some y => rfl
  | none =>
    by_cases h : x.1 = n
    · simp [h]
    · simp [h]
/-- what the map tells behind the outcomes l -/
def lk (l : List (Int × Oc)) : KI.MF := fun n => if 1 ≤ n ∧ n ≤ 200 then (knOf l n).map ocV else none
theorem lk_out (l : List (Int × Oc)) (x : Int × Oc) (h : x.1 < 1 ∨ 200 < x.1) : lk (l ++ [x]) = lk l := by
  funext n
  unfold lk
  by_cases hn : 1 ≤ n ∧ n ≤ 200
  · rw [if_pos hn, if_pos hn, knOf_snoc, if_neg (by omega)]
    cases knOf l n <;> rfl
  · rw [if_neg hn, if_neg hn]
theorem lk_there (l : List (Int × Oc)) (x : Int × Oc) (o : Oc) (h : knOf l x.1 = some o) : lk (l ++ [x]) = lk l := by
  funext n
  unfold lk
  by_cases hn : 1 ≤ n ∧ n ≤ 200
  · rw [if_pos hn, if_pos hn, knOf_snoc]
    cases hk : knOf l n with
    | some y => rfl
    | none =>
      rw [if_neg (by rintro rfl; rw [hk] at h; cases h)]
  · rw [if_neg hn, if_neg hn]
theorem lk_new (l : List (Int × Oc)) (x : Int × Oc) (h : knOf l x.1 = none) (h0 : 1 ≤ x.1) (h1 : x.1 ≤ 200) : lk (l ++ [x]) = KI.setM (lk l) x.1 (ocV x.2) := by
  funext n
  unfold KI.setM lk
  by_cases e : n = x.1
  · rw [if_pos e, if_pos (by omega), knOf_snoc, e, h]
    simp
  · rw [if_neg e]
    by_cases hn : 1 ≤ n ∧ n ≤ 200
    · rw [if_pos hn, if_pos hn, knOf_snoc]
      cases hk : knOf l n with
      | some y => rfl
      | none => rw [if_neg (fun e' : x.1 = n => e e'.symm)]
    · rw [if_neg hn, if_neg hn]
theorem lk_look (l : List (Int × Oc)) (n : Int) (h0 : 1 ≤ n) (h1 : n ≤ 200) : lk l n = (knOf l n).map ocV := if_pos ⟨h0, h1⟩
/-- the map that is being made -/
def MpK (w : World) (mb : Nat) (k : Nat) (l : List (Int × Oc)) : Prop := ∃ m, m ≤ k ∧ KI.Mp w mb m (lk l)
theorem MpK.below {w w' : World} {mb k : Nat} {l : List (Int × Oc)} (h : MpK w mb k l) (hb : Below w.heap.size w w') : MpK w' mb k l := by
  obtain ⟨m, hm, h1⟩ := h
  exact ⟨m, hm, h1.heap (hb.block mb h1.lt)⟩
theorem MpK.more {w : World} {mb k : Nat} {l m : List (Int × Oc)} (h : MpK w mb k l) (e : lk m = lk l) : MpK w mb (k + 1) m := by
  obtain ⟨q, hq, h1⟩ := h
  exact ⟨q, by omega, by rw [e]; exact h1⟩
theorem MpK.lt {w : World} {mb k : Nat} {l : List (Int × Oc)} (h : MpK w mb k l) : mb < w.heap.size := by
  obtain ⟨m, -, h1⟩ := h
  exact h1.lt
theorem MpK.look {w : World} {mb k : Nat} {l : List (Int × Oc)} (h : MpK w mb k l) (n : Int) (h1 : 1 ≤ n) (h2 : n ≤ 200) :
    (Instr.lookup 65 (.map (some mb)) (.int .i64 n) true).run Tryd.prog w = .ok (.tuple #[((knOf l n).map ocV).getD (.agg #[.int .i64 0, .int .i64 0]), .bool (knOf l n).isSome]) w := by
  obtain ⟨m, -, k1⟩ := h
  rw [k1.look_ok KI.mt65 (s := n) ⟨by omega, by omega⟩, lk_look l n h1 h2]
  cases knOf l n <;> rfl
theorem MpK.store {w : World} {mb k : Nat} {l : List (Int × Oc)} (h : MpK w mb k l) (hk : k < 1000000) (x : Int × Oc) (hn : knOf l x.1 = none) (h1 : 1 ≤ x.1) (h2 : x.1 ≤ 200) :
    ∃ w', (Instr.mapUpdate 65 (.map (some mb)) (.int .i64 x.1) (ocV x.2)).run Tryd.prog w = .ok () w' ∧ MpK w' mb (k + 1) (l ++ [x]) ∧ w.grownBy w' (some mb) ∧ w'.heap.size = w.heap.size := by
  obtain ⟨m, hm, k1⟩ := h
  obtain ⟨w', hr, hp, hg, hs⟩ := k1.store KI.mt65 (by omega) (s := x.1) ⟨by omega, by omega⟩ (ocV x.2)
  refine ⟨w', hr, ⟨_, ?_, by rw [lk_new l x hn h1 h2]; exact hp⟩, hg, hs⟩
  split <;> omega

set_option maxRecDepth 100000 in
set_option maxHeartbeats 1600000 in
theorem byNumbers_any (v : Value) (l : List (Int × Oc)) (w : World) (h : RdK w v l) (hl : l.length ≤ 100000) :
    Calls Tryd.prog 23 #[v] w fun e w' => ∃ mb, e = .returned (.map (some mb)) ∧ Knows w' mb (knOf l) ∧ Below w.heap.size w w' ∧ mb < w'.heap.size := by
  obtain ⟨ao, cap, hv, -⟩ := RdK.shape h
  subst hv
  have HR := hide h
  obtain ⟨n, HN⟩ := named l.length
  rw [← HN.out] at HR hl ⊢
  obtain ⟨W1, HW1⟩ := named (w.alloc (.map #[] 0))
  obtain ⟨mb, HMB⟩ := named w.heap.size
  have hM0 : MpK W1 mb 0 [] := ⟨0, Nat.le_refl _, by
    rw [HW1.out, HMB.out]
    refine (KI.Mp.made w).congr (fun s _ => ?_)
    unfold lk
    split <;> rfl⟩
  have hB0 : Below w.heap.size w W1 := by rw [HW1.out]; exact (Below.refl _ _).alloc (Nat.le_refl _) _
  have HM0 := hide hM0
  have HB0 := hide hB0
  have HMW : Hid (mb = w.heap.size) := HMB
  have hmm := @run_makeMap Tryd.prog
  clear h hM0 hB0
  go_enter Tryd.func23, Tryd.ntmps23
  go_wp2
  rw [← HW1.out, ← HMB.out]
  go_loopw [11] (fun i wr => ∃ k : Nat, k ≤ n ∧ i = .int .i64 k ∧ Hid (MpK wr mb k (l.take k)) ∧ Hid (Below w.heap.size w wr)) (fun i _ => n - (intOf i).toNat)
  case atStart => exact ⟨0, Nat.zero_le _, rfl, HM0.out, HB0.out⟩
  case round =>
    obtain ⟨k, hk, rfl, HM, HB⟩ := hrel
    by_cases hlt : k < n
    · obtain ⟨b, off, hab, hbl, a0, a1, a2⟩ := RdK.at (RdX.below HR.out HB.out) k (by rw [← HN.out]; exact hlt)
      subst hab
      have htk : l.take (k + 1) = l.take k ++ [l[k]'(by rw [← HN.out]; exact hlt)] := List.take_succ_eq_append_getElem _
      obtain ⟨x, HX⟩ := named (l[k]'(by rw [← HN.out]; exact hlt))
      rw [← HX.out] at a0 a1 a2 htk
      obtain ⟨xn, xst, xva⟩ := x
      simp only at a0 a1 a2
      have HTK := hide htk
      clear htk
      have hlk : Hid (Below wr.heap.size wr (wr.alloc (.cells #[.int .i64 xn, .int .i64 xst, .int .i64 xva] 47))) := (Below.refl _ _).alloc (Nat.le_refl _) _
      by_cases hx0 : xn < 1
      · go_wp2
        go_roundw
        case rel => exact ⟨k + 1, hlt, by go_num, by show MpK _ _ _ _; rw [HTK.out]; exact (HM.out.below hlk.out).more (lk_out _ _ (.inl hx0)), HB.out.trans (hlk.out.mono HB.out.size)⟩
        case measure => simp [intOf]; omega
      · by_cases hx1 : 200 < xn
        · go_wp2
          go_roundw
          case rel => exact ⟨k + 1, hlt, by go_num, by show MpK _ _ _ _; rw [HTK.out]; exact (HM.out.below hlk.out).more (lk_out _ _ (.inr hx1)), HB.out.trans (hlk.out.mono HB.out.size)⟩
          case measure => simp [intOf]; omega
        · have hM1 := HM.out.below hlk.out
          have hB1 := HB.out.trans (hlk.out.mono HB.out.size)
          have hlook := hM1.look xn (by omega) (by omega)
          cases hk' : knOf (l.take k) xn with
          | some o =>
            rw [hk'] at hlook
            obtain ⟨o1, o2⟩ := o
            replace hlook : (Instr.lookup 65 (.map (some mb)) (.int .i64 xn) true).run Tryd.prog (wr.alloc (.cells #[.int .i64 xn, .int .i64 xst, .int .i64 xva] 47)) = .ok (.tuple #[.agg #[.int .i64 o1, .int .i64 o2], .bool true]) (wr.alloc (.cells #[.int .i64 xn, .int .i64 xst, .int .i64 xva] 47)) := hlook
            have HM2 : Hid (MpK ((wr.alloc (.cells #[.int .i64 xn, .int .i64 xst, .int .i64 xva] 47)).alloc (.cells #[.int .i64 o1, .int .i64 o2] 32)) mb (k + 1) (l.take (k + 1))) := by
              show MpK _ _ _ _
              rw [HTK.out]
              exact (hM1.below ((Below.refl _ _).alloc (Nat.le_refl _) _)).more (lk_there _ _ _ hk')
            have HB2 : Hid (Below w.heap.size w ((wr.alloc (.cells #[.int .i64 xn, .int .i64 xst, .int .i64 xva] 47)).alloc (.cells #[.int .i64 o1, .int .i64 o2] 32))) := hB1.alloc hB1.size _
            clear hM1 hB1 hk'
            go_wp2
            go_roundw
            case rel => exact ⟨k + 1, hlt, by go_num, HM2.out, HB2.out⟩
            case measure => simp [intOf]; omega
          | none =>
            rw [hk'] at hlook
            replace hlook : (Instr.lookup 65 (.map (some mb)) (.int .i64 xn) true).run Tryd.prog (wr.alloc (.cells #[.int .i64 xn, .int .i64 xst, .int .i64 xva] 47)) = .ok (.tuple #[.agg #[.int .i64 0, .int .i64 0], .bool false]) (wr.alloc (.cells #[.int .i64 xn, .int .i64 xst, .int .i64 xva] 47)) := hlook
            have hM2 : MpK ((wr.alloc (.cells #[.int .i64 xn, .int .i64 xst, .int .i64 xva] 47)).alloc (.cells #[.int .i64 0, .int .i64 0] 32)) mb k (l.take k) := hM1.below ((Below.refl _ _).alloc (Nat.le_refl _) _)
            have hB2 : Below w.heap.size w ((wr.alloc (.cells #[.int .i64 xn, .int .i64 xst, .int .i64 xva] 47)).alloc (.cells #[.int .i64 0, .int .i64 0] 32)) := hB1.alloc hB1.size _
            obtain ⟨w3, hr, hm3, hg3, hs3⟩ := hM2.store (by omega) (xn, (xst, xva)) hk' (by show 1 ≤ xn; omega) (by show xn ≤ 200; omega)
            replace hr : (Instr.mapUpdate 65 (.map (some mb)) (.int .i64 xn) (.agg #[.int .i64 xst, .int .i64 xva])).run Tryd.prog ((wr.alloc (.cells #[.int .i64 xn, .int .i64 xst, .int .i64 xva] 47)).alloc (.cells #[.int .i64 0, .int .i64 0] 32)) = .ok () w3 := hr
            have HM2 : Hid (MpK w3 mb (k + 1) (l.take (k + 1))) := by
              show MpK _ _ _ _
              rw [HTK.out]
              exact hm3
            have HB2 : Hid (Below w.heap.size w w3) := hB2.grown hg3 hB2.size (fun q hq => by cases hq; rw [HMW.out]; exact Nat.le_refl _)
            clear hM1 hB1 hk' hM2 hB2 hm3 hg3 hs3
            go_wp2
            go_roundw
            case rel => exact ⟨k + 1, hlt, by go_num, HM2.out, HB2.out⟩
            case measure => simp [intOf]; omega
    · have hkn : k = n := by omega
      subst hkn
      go_wp2
      go_ret
      have hm := HM.out
      rw [List.take_of_length_le (by rw [← HN.out]; exact Nat.le_refl _)] at hm
      obtain ⟨m, hq, h1⟩ := id hm
      exact ⟨mb, rfl, ⟨m, _, h1, fun n h1 h2 => lk_look l n h1 h2⟩, HB.out, hm.lt⟩
end Go.Proofs.YtlngeonfabahnaaDoor
