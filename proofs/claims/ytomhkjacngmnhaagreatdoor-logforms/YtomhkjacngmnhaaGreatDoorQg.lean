/-
  The contracts of Head, length, Bytes. The contract of Bytes. Own work.
-/
import Derived.Test.YtomhkjacngmnhaaGreatDoorQd
import Derived.Test.YtomhkjacngmnhaaGreatDoorQf
import Derived.Deep.Cut
import Derived.Deep.CutRange
import Derived.Deep.DeepCutAuto
import Derived.Deep.RegionWith
import Derived.Deep.RegionHeld3
namespace Go.Proofs.YtomhkjacngmnhaaGreatDoor
open Go.RowKit

/-- a segment's head -/
def headL (n : Int) : List UInt8 × Nat := if isNum n then (frameL (0 :: U n), 0) else ([], 2)

theorem putL_head (n : Int) : putL [] (0 :: U n) = (frameL (0 :: U n), 0) := by
  have := U_len n
  exact putL_ok [] _ (by simp) (by simp; omega)

set_option maxRecDepth 100000 in
set_option maxHeartbeats 400000 in
theorem head_any (n : Int) (w : World) : Calls Tryz.prog 15 #[.int .i64 n] w fun e w' => ∃ v, e = .returned (.tuple #[v, .int .i64 (headL n).2]) ∧ Own w' w.heap.size v (headL n).1 ∧ Below w.heap.size w w' := by
  cases hn : isNum n with
  | false =>
    have HE : Hid (headL n = ([], 2)) := by unfold headL; rw [hn]; rfl
    go_enter Tryz.func15, Tryz.ntmps15
    go_wp2_with fail
    refine (isNumber_any n w).mono ?_
    rintro e w' ⟨rfl, rfl⟩
    rw [hn]
    go_wp2_with fail
    go_ret2
    rw [HE.out]
    exact ⟨_, rfl, Own.nil _ _, Below.refl _ _⟩
  | true =>
    have HE : Hid (headL n = (frameL (0 :: U n), 0)) := by unfold headL; rw [hn]; rfl
    have HB : Hid (1 ≤ n ∧ n ≤ 1152921504606846976) := by
      show 1 ≤ n ∧ n ≤ 1152921504606846976
      simpa [isNum] using hn
    have hb1 := HB.out.1
    have hb2 := HB.out.2
    go_enter Tryz.func15, Tryz.ntmps15
    go_wp2_with fail
    refine (isNumber_any n w).mono ?_
    rintro e w' ⟨rfl, rfl⟩
    rw [hn]
    go_wp2_with fail
    refine (uint_any _ [0] n _ (by omega) (by omega) (Rd.one w' 0 0 5 rfl) (by simp)).mono ?_
    rintro e w1 ⟨v1, rfl, ho1, hb1'⟩
    have HO : Hid (Own w1 w'.heap.size v1 (0 :: U n)) := ho1.mono (by simp)
    have HB1 : Hid (Below w'.heap.size w' w1) := ((Below.refl _ _).alloc (Nat.le_refl _) _).trans (hb1'.mono (by simp))
    clear ho1 hb1'
    go_wp2_with fail
    refine (put_any (.slice none 0 0) v1 [] (0 :: U n) w1 (Rd.nil _) HO.out.rd (by simp)).mono ?_
    rw [putL_head]
    rintro e w2 ⟨v2, rfl, ho2, hb2'⟩
    go_wp2_with fail
    go_ret2
    rw [HE.out]
    exact ⟨_, rfl, ho2.mono HB1.out.size, HB1.out.trans (hb2'.mono HB1.out.size)⟩

/-- how many bytes there are in all -/
def lensL (ps : List (Value × List UInt8)) (k : Nat) : Nat := (joined ps k).length

set_option maxRecDepth 100000 in
set_option maxHeartbeats 800000 in
theorem length_any (ps : List (Value × List UInt8)) (v : Value) (w : World) (hv : RdL w v ps) (hn : ps.length ≤ 5000) (hsmall : ∀ i (h : i < ps.length), ps[i].2.length ≤ 281474976710656) : Calls Tryz.prog 69 #[v] w fun e w' => e = .returned (.int .i64 (joined ps ps.length).length) ∧ w' = w := by
  obtain ⟨ao, cap, hv0, h1, h2, h3, -⟩ := id hv.1
  rw [List.length_map] at hv0 h1
  obtain ⟨n, HN⟩ := named ps.length
  rw [← HN.out] at hv0 h1 hn
  subst hv0
  unfold maxLen at h2
  have HRD : Hid _ := hv
  clear hv h3
  go_enter Tryz.func69, Tryz.ntmps69
  go_wp2
  go_loop [3, 8] (fun sv iv => ∃ k : Nat, k ≤ n ∧ iv = .int .i64 k ∧ sv = .int .i64 (joined ps k).length ∧ (joined ps k).length ≤ k * 281474976710656) (fun _ iv => n - (intOf iv).toNat)
  case atStart => exact ⟨0, by omega, rfl, rfl, by simp [joined]⟩
  case round =>
    obtain ⟨k, hk, rfl, rfl, hle⟩ := hrel
    obtain ⟨sz, HZ⟩ := named ((joined ps k).length)
    rw [← HZ.out] at hle ⊢
    by_cases hlt : k < n
    · have hkp : k < ps.length := by rw [← HN.out]; exact hlt
      obtain ⟨b0, off, c0, hv0, -, -, hb0, hcs⟩ := HRD.out.1.cells (by rw [List.length_map]; omega)
      rw [List.length_map, ← HN.out] at hv0
      cases hv0
      have hck := hcs k (by rw [List.length_map]; exact hkp)
      rw [List.getElem_map] at hck
      have HJ : Hid _ := joined_succ ps k hkp
      obtain ⟨a1, c1, hpv, hpc, hpm, -⟩ := HRD.out.2 k hkp
      have hsm := hsmall k hkp
      obtain ⟨m, HM⟩ := named (ps[k].2.length)
      rw [← HM.out] at hpv hsm hpc
      rw [hpv] at hck
      clear hcs hpv
      have hlt' : (k : Int) < n := by omega
      have hs : (sz : Int) + m ≤ 9223372036854775807 := by omega
      go_wp2
      go_round
      case rel => exact ⟨k + 1, by omega, by go_num, by rw [HJ.out, List.length_append, ← HM.out, ← HZ.out]; go_num, by rw [HJ.out, List.length_append, ← HM.out, ← HZ.out]; omega⟩
      case measure => simp [intOf]; omega
    · have hkn : k = n := by omega
      have HK : Hid (k = n) := hkn
      have hlt' : ¬ ((k : Int) < n) := by omega
      clear hkn
      go_wp2
      go_ret
      exact ⟨by rw [HZ.out, HK.out, HN.out]; rfl, rfl⟩
end Go.Proofs.YtomhkjacngmnhaaGreatDoor
namespace Go.Proofs.YtomhkjacngmnhaaGreatDoor
open Go.RowKit

set_option maxRecDepth 100000 in
set_option maxHeartbeats 800000 in
theorem concat_big (ps : List (Value × List UInt8)) (b cap : Nat) (w : World) (hcap : ps.length ≤ cap) (hmax : cap ≤ 9223372036854775807)
    (hcell : ∀ i (h : i < ps.length), w.cell? ⟨b, i, none⟩ = some ps[i].1) (hrd : ∀ i (h : i < ps.length), Rd w ps[i].1 ps[i].2) (hb0 : b < w.heap.size) (htot : (joined ps ps.length).length ≤ 140737488355328) :
    Calls Tryz.prog 70 #[.slice (some ⟨b, 0, none⟩) ps.length cap] w fun e w' => ∃ v, e = .returned v ∧ Own w' w.heap.size v (joined ps ps.length) ∧ Below w.heap.size w w' := by
  obtain ⟨i0, hi, hz0, hz1, hz2⟩ := info_parts Tryz.info5
  obtain ⟨n, hn⟩ : ∃ n, n = ps.length := ⟨_, rfl⟩
  rw [← hn] at hcap htot ⊢
  have HN : Hid (n = ps.length) := hn
  have HC : Hid (∀ i (h : i < ps.length), w.cell? ⟨b, i, none⟩ = some ps[i].1) := hcell
  have HR : Hid (∀ i (h : i < ps.length), Rd w ps[i].1 ps[i].2) := hrd
  clear hn hcell hrd
  go_enter Tryz.func70, Tryz.ntmps70
  go_wp2
  go_loop [3, 11] (fun sv iv => ∃ k : Nat, k ≤ n ∧ iv = .int .i64 k ∧ sv = .int .i64 (joined ps k).length) (fun _ iv => n - (intOf iv).toNat)
  case atStart => exact ⟨0, by omega, rfl, rfl⟩
  case round =>
    obtain ⟨k, hk, rfl, rfl⟩ := hrel
    have hle : (joined ps k).length ≤ (joined ps n).length := by rw [HN.out]; exact joined_le ps k
    obtain ⟨sz, HZ⟩ := named ((joined ps k).length)
    rw [← HZ.out] at hle ⊢
    by_cases hlt : k < n
    · have hkp : k < ps.length := by rw [← HN.out]; exact hlt
      have hj := joined_succ ps k hkp
      have hle2 : (joined ps (k + 1)).length ≤ (joined ps n).length := by rw [HN.out]; exact joined_le ps (k + 1)
      rw [hj, List.length_append, ← HZ.out] at hle2
      have HJ : Hid (joined ps (k + 1) = joined ps k ++ ps[k].2) := hj
      clear hj
      have hc0 := HC.out k hkp
      obtain ⟨ao, c0, hv, h1, h2, h3, h4⟩ := HR.out k hkp
      rw [hv] at hc0
      clear h4 h3 hv
      obtain ⟨m, HM⟩ := named (ps[k].2.length)
      rw [← HM.out] at hle2 hc0 h1
      have hms : (m : Int) + sz ≤ 140737488355328 := by omega
      have hng : ¬ ((sz : Int) + m < 0) := by omega
      go_wp2
      go_round
      case rel => exact ⟨k + 1, by omega, by go_num, by rw [HJ.out, List.length_append, ← HM.out, ← HZ.out]; go_num⟩
      case measure => simp [intOf]; omega
    · have hkn : k = n := by omega
      have HK : Hid (k = n) := hkn
      have hsz : sz ≤ 140737488355328 := by omega
      clear hkn
      go_wp2_with fail
      refine (grow_nil sz hsz _).mono ?_
      rintro e w1 ⟨v1, rfl, hown1, hb1⟩
      go_wp2
      go_loopw [6, 27] (fun nv iv wr => ∃ k : Nat, k ≤ n ∧ iv = .int .i64 k ∧ Own wr w.heap.size nv (joined ps k) ∧ Below w.heap.size w wr) (fun _ iv _ => n - (intOf iv).toNat)
      case atStart => exact ⟨0, by omega, rfl, hown1, hb1⟩
      case round =>
        obtain ⟨j, hj, rfl, hown, hb⟩ := hrel
        have hsz2 := hb.size
        by_cases hlt2 : j < n
        · have hkp : j < ps.length := by rw [← HN.out]; exact hlt2
          have hjo := joined_succ ps j hkp
          have hle2 : (joined ps (j + 1)).length ≤ (joined ps n).length := by rw [HN.out]; exact joined_le ps (j + 1)
          rw [hjo, List.length_append] at hle2
          have HJ : Hid (joined ps (j + 1) = joined ps j ++ ps[j].2) := hjo
          clear hjo
          have hc0 := (hb.cell (p := ⟨b, j, none⟩) hb0).trans (HC.out j hkp)
          have hrd0 := HR.out j hkp
          obtain ⟨ao, c0, hv, h1, h2, h3, h4⟩ := HR.out j hkp
          rw [hv] at hc0 hrd0
          clear h4 h3 hv
          have hrd1 := hrd0.below hb
          clear hrd0
          obtain ⟨q, HQ⟩ := named (ps[j].2)
          obtain ⟨q0, HQ0⟩ := named (joined ps j)
          rw [← HQ.out] at hrd1 hc0 h1 hle2
          rw [← HQ0.out] at hown hle2
          go_wp2_with (at_builtin; go_must (refine wpList_append_rd _ rfl (.tmp 31) (.tmp 32) 37 rfl i0 Tryz.underlying37 hi hz0 hz1 hz2 w.heap.size _ _ rfl rfl q0 q hown hrd1 ?_ ?_ ?_))
          · omega
          · omega
          · intro v' w' hown' hg
            have hb' : Below w.heap.size w w' := hb.grown hg hsz2 (fun k hk => (World.ownsRow.lt hown k hk).1)
            clear hg
            go_wp2
            go_roundw
            case rel => exact ⟨j + 1, by omega, by go_num, by rw [HJ.out, ← HQ.out, ← HQ0.out]; exact hown', hb'⟩
            case measure => simp [intOf]; omega
        · have hjn : j = n := by omega
          subst hjn
          go_wp2
          go_ret
          exact ⟨_, rfl, hown, hb⟩

/-- a new block of two slices -/
theorem own_two {W : World} {g B : Nat} {v1 v2 : Value} (h : W.heap[g]? = some (.cells #[v1, v2] 37 (0, 0))) (hB : B ≤ g) : OwnV W B 37 (.slice (some ⟨g, 0, none⟩) 2 2) [v1, v2] :=
  ⟨rfl, .inr ⟨g, 2, #[v1, v2], rfl, hB, h, Nat.le_refl _, by unfold maxLen; omega, rfl, rfl⟩⟩
theorem run_append_v2 {P : Program} (w : World) (t ty e : TypeId) (i : TypeInfo) (z : Value) (bytes : Nat) (ht : P.underlying t = some (.slice e)) (hi : P.info? e = some i) (hz : i.zero = some z) (h1 : i.size = 1) (h2 : i.bytes = bytes) (hz1 : z.cells.size = 1) (hb24 : bytes ≤ 24)
    (base : Nat) (v x y : Value) (g : Nat) (vs : List Value) (hx : x.oneCell' = true) (hy : y.oneCell' = true) (hc : w.cell? ⟨g, 0, none⟩ = some x) (hc2 : w.cell? ⟨g, 1, none⟩ = some y) (hown : OwnV w base e v vs) (hlen : vs.length ≤ 1000000) (hbase : base ≤ w.heap.size) :
    ∃ v' w', (Builtin.append_ #[t, t] ty #[v, .slice (some ⟨g, 0, none⟩) 2 2]).run P w = .ok v' w' ∧ OwnV w' base e v' (vs ++ [x, y]) ∧ w.grownBy w' v.ownBlock := by
  obtain ⟨v', w', hr, ho, hg, _⟩ := run_append_own (P := P) w base t ty e i z 1 bytes ht hi hz h1 h2 hz1 (by omega) v vs.length vs hown ⟨g, 0, none⟩ 2 2 [x, y] (by simp)
    (fun j u hj => by
      have hadd : ∀ j, (⟨g, 0, none⟩ : Addr).add j = ⟨g, j, none⟩ := fun j => by unfold Addr.add; split <;> simp_all
      rw [hadd]
      rcases j with _ | _ | j
      · simp at hj; subst hj; exact hc
      · simp at hj; subst hj; exact hc2
      · simp at hj) (fun u hu => by simp at hu; rcases hu with rfl | rfl <;> assumption) (by unfold maxLen; omega) (by have := Nat.mul_le_mul (show vs.length + 2 ≤ 1000002 by omega) hb24; omega) hbase
  refine ⟨v', w', hr, ?_, hg⟩
  unfold OwnV
  rw [List.length_append]
  exact ho
theorem joined_two (qs : List (Value × List UInt8)) (a b : Value × List UInt8) : joined (qs ++ [a, b]) (qs ++ [a, b]).length = joined qs qs.length ++ (a.2 ++ b.2) := by
  unfold joined
  rw [List.take_length, List.take_length]
  simp
def recL (p : List UInt8) : List UInt8 := U p.length ++ p
def batL (n : Int) (ps : List (List UInt8)) : List UInt8 := U n ++ (U ps.length ++ (ps.map recL).flatten)
/-- a batch's bytes -/
def bytesL (n : Int) (ps : List (List UInt8)) : List UInt8 × Nat :=
  if isNum n = true ∧ isCnt ps.length = true then (if 1048576 < (batL n ps).length then ([], 3) else (batL n ps, 0)) else ([], 2)

set_option maxRecDepth 100000 in
set_option maxHeartbeats 2000000 in
theorem bytes_any (n : Int) (v : Value) (ps : List (Value × List UInt8)) (w : World) (hv : RdL w v ps) (hsmall : ∀ i (h : i < ps.length), ps[i].2.length ≤ 281474976700000) :
    Calls Tryz.prog 16 #[.agg #[.int .i64 n, v]] w fun e w' => ∃ vb, e = .returned (.tuple #[vb, .int .i64 (bytesL n (ps.map Prod.snd)).2]) ∧ Own w' w.heap.size vb (bytesL n (ps.map Prod.snd)).1 ∧ Below w.heap.size w w' := by
  obtain ⟨i0, hi, hz0, hz1, hz2⟩ := info_parts Tryz.info37
  obtain ⟨ao, cap, hv0, h1, h2, h3, -⟩ := id hv.1
  rw [List.length_map] at hv0 h1
  obtain ⟨m, HN⟩ := named ps.length
  rw [← HN.out] at hv0 h1
  subst hv0
  unfold maxLen at h2
  have HRD : Hid _ := hv
  clear h3
  cases hn : isNum n with
  | false =>
    have HE : Hid (bytesL n (ps.map Prod.snd) = ([], 2)) := by unfold bytesL; rw [hn]; rfl
    go_enter Tryz.func16, Tryz.ntmps16
    go_wp2_with fail
    refine (isNumber_any n _).mono ?_
    rintro e w' ⟨rfl, rfl⟩
    rw [hn]
    go_wp2_with fail
    go_ret2
    rw [HE.out]
    exact ⟨_, rfl, Own.nil _ _, (Below.refl _ _).alloc (Nat.le_refl _) _⟩
  | true =>
    cases hc : isCnt m with
    | false =>
      have HE : Hid (bytesL n (ps.map Prod.snd) = ([], 2)) := by unfold bytesL; rw [List.length_map, ← HN.out, hc]; rw [if_neg (by simp)]; rfl
      go_enter Tryz.func16, Tryz.ntmps16
      go_wp2_with fail
      refine (isNumber_any n _).mono ?_
      rintro e w' ⟨rfl, rfl⟩
      rw [hn]
      go_wp2_with fail
      refine (isCount_any m _).mono ?_
      rintro e w'' ⟨rfl, rfl⟩
      rw [hc]
      go_wp2_with fail
      go_ret2
      rw [HE.out]
      exact ⟨_, rfl, Own.nil _ _, (Below.refl _ _).alloc (Nat.le_refl _) _⟩
    | true =>
      go_enter Tryz.func16, Tryz.ntmps16
      go_wp2_with fail
      refine (isNumber_any n _).mono ?_
      rintro e w' ⟨rfl, rfl⟩
      rw [hn]
      go_wp2_with fail
      refine (isCount_any m _).mono ?_
      rintro e w'' ⟨rfl, rfl⟩
      rw [hc]
      have hnb : 1 ≤ n ∧ n ≤ 1152921504606846976 := by simpa [isNum] using hn
      have hcb : 1 ≤ (m : Int) ∧ (m : Int) ≤ 1000 := by simpa [isCnt] using hc
      obtain ⟨hn1, hn2⟩ := hnb
      obtain ⟨hc1, hc2⟩ := hcb
      have hm1000 : m ≤ 1000 := by omega
      have HS : Hid (∀ w' : World, Below w.heap.size w w' → w'.heap[w.heap.size]? = some (.cells #[Value.int IntKind.i64 n, Value.slice ao m cap] 43 (0, 0)) → w'.cell? ⟨w.heap.size, 0, none⟩ = some (.int .i64 n) ∧ w'.cell? ⟨w.heap.size, 1, none⟩ = some (.slice ao m cap)) := by
        intro w' _ hh
        exact ⟨by rw [Go.Joins.cell_of_block hh]; rfl, by rw [Go.Joins.cell_of_block hh]; rfl⟩
      have HU : Hid (∀ (x y : Int) (_ : y = x) (w' : World), 0 ≤ x → x ≤ 18446744073709551615 → w'.cell? ⟨w.heap.size, 0, none⟩ = some (.int .i64 n) ∧ w'.cell? ⟨w.heap.size, 1, none⟩ = some (.slice ao m cap) → Below w.heap.size w w' → Calls Tryz.prog 67 #[.slice none 0 0, .int .u64 y] w' fun e w'' => ∃ a k c, e = .returned (.slice a k c) ∧ Hid (Own w'' w.heap.size (.slice a k c) (U x)) ∧ (w''.cell? ⟨w.heap.size, 0, none⟩ = some (.int .i64 n) ∧ w''.cell? ⟨w.heap.size, 1, none⟩ = some (.slice ao m cap)) ∧ Below w.heap.size w w'' ∧ Below w'.heap.size w' w'') := by
        intro x y hy w' hx0 hx1 hs hb
        subst hy
        refine (uint_any (.slice none 0 0) [] y w' hx0 hx1 (Rd.nil _) (by simp)).mono ?_
        rintro e w'' ⟨v, rfl, ho, hb2⟩
        have hlt : w.heap.size < w'.heap.size := World.block_lt_of_cell? w' _ hs.1
        obtain ⟨a, c, rfl, -⟩ := id ho.rd
        exact ⟨a, _, c, rfl, ho.mono hb.size, ⟨(hb2.cell (p := ⟨w.heap.size, 0, none⟩) hlt).trans hs.1, (hb2.cell (p := ⟨w.heap.size, 1, none⟩) hlt).trans hs.2⟩, hb.trans (hb2.mono hb.size), hb2⟩
      have HW1 : Hid (IntKind.u64.wrap n = n) := by show IntKind.u64.wrap n = n; rw [IntKind.wrap_u64]; omega
      have HW2 : Hid (IntKind.u64.wrap (m : Int) = m) := by show IntKind.u64.wrap (m : Int) = m; rw [IntKind.wrap_u64]; omega
      have hU1 := fun w' => HU.out n (IntKind.u64.wrap n) HW1.out w' (by omega) (by omega)
      have hU2 := fun w' => HU.out m (IntKind.u64.wrap (m : Int)) HW2.out w' (by omega) (by omega)
      have B0 : Below w.heap.size w (w.alloc (Obj.cells #[Value.int IntKind.i64 n, Value.slice ao m cap] 43)).drew := ((Below.refl _ _).alloc (Nat.le_refl _) _).drew
      have S0 := HS.out _ B0 (heap_alloc_new w _)
      clear hv h1 h2
      go_upto_region 3 with fail
      go_region_held3 (fun w' => w'.cell? ⟨w.heap.size, 0, none⟩ = some (.int .i64 n) ∧ w'.cell? ⟨w.heap.size, 1, none⟩ = some (.slice ao m cap)) (first | assumption | exact ⟨World.cell?_alloc_some s2.1 _, World.cell?_alloc_some s2.2 _⟩ | go_keep) (first | (go_at_call_of 67 (Value.int IntKind.u64 (IntKind.u64.wrap n)); refine Calls.mono (hU1 _ ?_ ?_) ?_; assumption; assumption; rintro e w1 ⟨a1, k1, c1, rfl, r1, s1, b1, q1⟩) | (go_at_call_of 67 (Value.int IntKind.u64 (IntKind.u64.wrap (m : Int))); refine Calls.mono (hU2 _ ?_ ?_) ?_; assumption; assumption; rintro e w2 ⟨a2, k2, c2, rfl, r2, s2, b2, q2⟩))
      have HG : Hid ((w2.alloc (Obj.cells #[Value.slice a1 k1 c1, Value.slice a2 k2 c2] 37)).heap[w2.heap.size]? = some (.cells #[Value.slice a1 k1 c1, Value.slice a2 k2 c2] 37 (0, 0))) := heap_alloc_new w2 _
      have HLE : Hid (w.heap.size ≤ w2.heap.size) := b2.size
      obtain ⟨W, HW⟩ := named (w2.alloc (Obj.cells #[Value.slice a1 k1 c1, Value.slice a2 k2 c2] 37))
      have HR1 : Hid (Own W w.heap.size (Value.slice a1 k1 c1) (U n)) := by show Own W _ _ _; rw [HW.out]; exact (Own.below r1.out q2).alloc _
      have HR2 : Hid (Own W w.heap.size (Value.slice a2 k2 c2) (U m)) := by show Own W _ _ _; rw [HW.out]; exact Own.alloc r2.out _
      have HBW : Hid (Below w.heap.size w W) := by show Below _ _ W; rw [HW.out]; exact b2.alloc b2.size _
      have sW : W.cell? ⟨w.heap.size, 1, none⟩ = some (.slice ao m cap) := by rw [HW.out, World.cell?_alloc_some _ _ _ (by rw [s2.2]; rfl)]; exact s2.2
      rw [← HW.out, HW1.out, HW2.out]
      rw [← HW.out] at HG
      clear S0 B0 s1 s2 b1 b2 q1 q2 hU1 hU2 r1 r2
      have HA : Hid (∀ k (h : k < m), ∃ b0 off c0, (Value.slice ao m cap) = .slice (some ⟨b0, off, none⟩) m c0) := by
        intro k hk
        obtain ⟨b0, off, c0, hv0, -⟩ := HRD.out.1.cells (by rw [List.length_map, ← HN.out]; omega)
        rw [List.length_map, ← HN.out] at hv0
        exact ⟨b0, off, c0, hv0⟩
      obtain ⟨b0, off, c0, hv0⟩ := HA.out 0 (by omega)
      cases hv0
      clear HA
      go_wp2
      go_loopw [4, 31] (fun pv iv wr => ∃ (k : Nat) (qs : List (Value × List UInt8)), k ≤ m ∧ iv = .int .i64 k ∧ Hid (OwnV wr w.heap.size 37 pv (qs.map Prod.fst)) ∧ Hid (∀ i (h : i < qs.length), Rd w qs[i].1 qs[i].2 ∨ Own wr w.heap.size qs[i].1 qs[i].2) ∧ Hid (qs.length = 2 + 2 * k) ∧ Hid (joined qs qs.length = U n ++ (U m ++ (((ps.map Prod.snd).take k).map recL).flatten)) ∧ Hid (∀ i (h : i < qs.length), qs[i].2.length ≤ 281474976710656) ∧ Hid (Below w.heap.size w wr)) (fun _ iv _ => m - (intOf iv).toNat)
      case atStart =>
        refine ⟨0, [(.slice a1 k1 c1, U n), (.slice a2 k2 c2, U m)], by omega, rfl, ?_, ?_, rfl, ?_, ?_, HBW⟩
        · exact own_two HG.out HLE.out
        · rintro i hi
          rcases i with _ | _ | i
          · exact .inr HR1.out
          · exact .inr HR2.out
          · simp at hi; omega
        · show joined _ _ = _
          simp [joined]
        · rintro i hi
          have u1 := U_len n
          have u2 := U_len m
          rcases i with _ | _ | i
          · show (U n).length ≤ _; omega
          · show (U m).length ≤ _; omega
          · simp at hi; omega
      case round =>
        obtain ⟨k, qs, hk, rfl, HO, HRQ, HQL, HJ, HSM, HB⟩ := hrel
        by_cases hlt : k < m
        · have hkp : k < ps.length := by rw [← HN.out]; exact hlt
          obtain ⟨b1, off1, c5, hv1, -, -, hb0, hcs⟩ := HRD.out.1.cells (by rw [List.length_map]; omega)
          rw [List.length_map, ← HN.out] at hv1
          cases hv1
          have hck := (HB.out.cell (p := ⟨b0, off + k, none⟩) hb0).trans (hcs k (by rw [List.length_map]; exact hkp))
          rw [List.getElem_map] at hck
          have hrk := HRD.out.2 k hkp
          obtain ⟨a3, c3, hpv, hpc, hpm, -⟩ := HRD.out.2 k hkp
          have hmk := hsmall k hkp
          obtain ⟨q, HQ⟩ := named (ps[k].2)
          rw [← HQ.out] at hpv hmk hpc hrk
          obtain ⟨mk, HM⟩ := named q.length
          rw [← HM.out] at hpv hmk hpc
          rw [hpv] at hck hrk
          have HRK : Hid _ := hrk
          clear hcs hpv hrk
          have hlt' : (k : Int) < m := by omega
          have hw3 : IntKind.u64.wrap (mk : Int) = mk := by rw [IntKind.wrap_u64]; omega
          have hsz := HB.out.size
          have HTK : Hid ((ps.map Prod.snd).take (k + 1) = (ps.map Prod.snd).take k ++ [q]) := by
            show _ = _
            rw [List.take_succ_eq_append_getElem (by rw [List.length_map]; exact hkp), List.getElem_map, HQ.out]
          clear HQ
          go_wp2_with fail
          refine (uint_any (.slice none 0 0) [] mk wr (by omega) (by omega) (Rd.nil _) (by simp)).mono ?_
          rintro e w3 ⟨v3, rfl, ho3, hb3⟩
          rw [List.nil_append] at ho3
          have hr3 := ho3.mono hsz
          obtain ⟨a4, c4, hv3, -⟩ := id hr3.rd
          obtain ⟨k4, HK4⟩ := named (U (mk : Int)).length
          rw [← HK4.out] at hv3
          subst hv3
          have hs3 := hb3.size
          obtain ⟨pv', w4, hr4, ho4, hg4⟩ := run_append_v2 (P := Tryz.prog) (w3.alloc (.cells #[.slice a4 k4 c4, .slice a3 mk c3] 37)) 41 41 37 i0 (.slice none 0 0) 24 Tryz.underlying41 hi hz0 hz1 hz2 rfl (by omega) w.heap.size u4 (.slice a4 k4 c4) (.slice a3 mk c3) w3.heap.size (qs.map Prod.fst) rfl rfl (by simp) (by simp) ((HO.out.below hb3).alloc _) (by rw [List.length_map, HQL.out]; omega) (by simp; omega)
          have hB3 : Below w.heap.size w w3 := below_call HB.out hb3
          have HB4 : Hid (Below w.heap.size w w4) := (hB3.alloc hB3.size _).grown hg4 (by simp; omega) (fun k hk => (World.ownsRow.lt HO.out k hk).1)
          have HKE : Hid (∀ u l, Rd w u l ∨ Own w3 w.heap.size u l → Rd w u l ∨ Own w4 w.heap.size u l) := by
            intro u l hu
            rcases hu with hu | hu
            · exact .inl hu
            · refine .inr (World.ownsRow.kept (hu.alloc _) hg4 ?_)
              exact own_apart hu (OwnV.below HO.out hb3) (by decide)
          have HO4 : Hid _ := ho4
          have HR3 : Hid _ := hr3
          have HB3 : Hid _ := hb3
          clear ho3 hr3 hg4 ho4 hb3 hB3
          go_wp2_with (at_builtin; refine Lib.wpList_append_run _ rfl (.tmp 35) (.tmp 41) 41 41 rfl _ _ rfl rfl _ _ hr4 ?_)
          go_roundw
          case rel =>
            refine ⟨k + 1, qs ++ [(.slice a4 k4 c4, U mk), (.slice a3 mk c3, q)], by omega, by go_num, ?_, ?_, ?_, ?_, ?_, HB4⟩
            · show OwnV _ _ _ _ _
              rw [List.map_append]
              exact HO4.out
            · intro i hi
              by_cases hiq : i < qs.length
              · rw [List.getElem_append_left hiq]
                exact HKE.out _ _ ((HRQ.out i hiq).imp id (fun h => h.below HB3.out))
              · have : i = qs.length ∨ i = qs.length + 1 := by simp at hi; omega
                rcases this with rfl | rfl
                · rw [List.getElem_append_right (by omega)]
                  simpa using HKE.out _ _ (.inr HR3.out)
                · rw [List.getElem_append_right (by omega)]
                  simpa using HKE.out _ _ (.inl HRK.out)
            · show _ = _
              rw [List.length_append, HQL.out]
              simp
              omega
            · show _ = _
              rw [joined_two, HJ.out, HTK.out]
              simp [recL, HM.out]
            · intro i hi
              have hu := U_len mk
              by_cases hiq : i < qs.length
              · rw [List.getElem_append_left hiq]
                exact HSM.out i hiq
              · have : i = qs.length ∨ i = qs.length + 1 := by simp at hi; omega
                rcases this with rfl | rfl
                · rw [List.getElem_append_right (by omega)]
                  simp
                  omega
                · rw [List.getElem_append_right (by omega)]
                  simp [← HM.out]
                  omega
          case measure => simp [intOf]; omega
        · have HK : Hid (k = m) := by show k = m; omega
          have hlt' : ¬ ((k : Int) < m) := by omega
          have HRW : Hid (∀ i (h : i < qs.length), Rd wr qs[i].1 qs[i].2) := fun i h => (HRQ.out i h).elim (fun h => h.below HB.out) (fun h => h.rd)
          have HBL : Hid (batL n (ps.map Prod.snd) = joined qs qs.length) := by
            show _ = _
            rw [HJ.out, HK.out, List.take_of_length_le (by rw [List.length_map, ← HN.out]; exact Nat.le_refl _)]
            unfold batL
            rw [List.length_map, ← HN.out]
          have hql := HQL.out
          obtain ⟨g, cp, hv4, hgb, hglt, hcp1, hcp2, hcs⟩ : ∃ g cp, u4 = .slice (some ⟨g, 0, none⟩) qs.length cp ∧ w.heap.size ≤ g ∧ g < wr.heap.size ∧ qs.length ≤ cp ∧ cp ≤ maxLen ∧ ∀ i (h : i < qs.length), wr.cell? ⟨g, i, none⟩ = some qs[i].1 := by
            rcases HO.out.2 with ⟨_, h0⟩ | ⟨g, cp, cur, hv, hb, hg, hnn, hm, -, -⟩
            · rw [List.length_map] at h0; omega
            · rw [List.length_map] at hv hnn
              refine ⟨g, cp, hv, hb, (Array.getElem?_eq_some_iff.1 hg).1, hnn, hm, fun i hi => ?_⟩
              have := World.ownsRow.cells HO.out (g := g) (by rw [hv]; rfl) i qs[i].1 (by simp [hi])
              rw [← this]
              congr 1
              unfold Addr.add
              split <;> simp_all
          subst hv4
          have HRL : Hid (RdL wr (.slice (some ⟨g, 0, none⟩) qs.length cp) qs) := ⟨HO.out.rd, HRW.out⟩
          obtain ⟨ql, HQN⟩ := named qs.length
          have hlen := length_any qs (.slice (some ⟨g, 0, none⟩) qs.length cp) wr HRL.out (by omega) HSM.out
          have hcat := concat_big qs g cp wr hcp1 (by unfold maxLen at hcp2; omega) hcs HRW.out hglt
          rw [← HBL.out] at hlen hcat
          obtain ⟨BL, HBB⟩ := named (batL n (ps.map Prod.snd))
          rw [← HBB.out] at hlen hcat
          rw [← HQN.out] at hlen hcat ⊢
          obtain ⟨bl, HBN⟩ := named BL.length
          rw [← HBN.out] at hlen hcat
          have HC1 : Hid (isNum n = true ∧ isCnt (ps.map Prod.snd).length = true) := ⟨hn, by rw [List.length_map, ← HN.out]; exact hc⟩
          clear hcs hcp1 hcp2 hql HO HRQ HQL HJ HSM HRL
          by_cases hbig : 1048576 < bl
          · have HE : Hid (bytesL n (ps.map Prod.snd) = ([], 3)) := by
              show _ = _
              unfold bytesL
              rw [if_pos HC1.out, if_pos (by rw [← HBB.out, ← HBN.out]; exact hbig)]
            have hbig' : (1048576 : Int) < bl := by omega
            go_wp2_with fail
            refine hlen.mono ?_
            rintro e w5 ⟨rfl, rfl⟩
            go_wp2_with fail
            go_ret2
            rw [HE.out]
            exact ⟨_, rfl, Own.nil _ _, HB.out⟩
          · have HE : Hid (bytesL n (ps.map Prod.snd) = (BL, 0)) := by
              show _ = _
              unfold bytesL
              rw [if_pos HC1.out, if_neg (by rw [← HBB.out, ← HBN.out]; exact hbig), HBB.out]
            have hbig' : ¬ (1048576 : Int) < bl := by omega
            have hcat2 := hcat (by omega)
            clear hcat
            go_wp2_with fail
            refine hlen.mono ?_
            rintro e w5 ⟨rfl, rfl⟩
            go_wp2_with fail
            refine hcat2.mono ?_
            rintro e w6 ⟨v6, rfl, ho6, hb6⟩
            go_wp2_with fail
            go_ret2
            rw [HE.out]
            exact ⟨_, rfl, ho6.mono HB.out.size, below_call HB.out hb6⟩
end Go.Proofs.YtomhkjacngmnhaaGreatDoor
