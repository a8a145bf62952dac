/-
  The contracts of slices.Grow (of nil) and slices.Concat. Own work.
-/
import Derived.Test.YtloigepmmhcibaaRows
import Derived.Test.YtloigepmmhcibaaBase
import Derived.WalkSpells
import Derived.WalkLawsBesides
namespace Go.Proofs.Ytloigepmmhcibaa
open Go.RowKit

/-- the first k pieces, one behind the other -/
def joined (ps : List (Value × List UInt8)) (k : Nat) : List UInt8 := ((ps.take k).map Prod.snd).flatten

theorem joined_succ (ps : List (Value × List UInt8)) (k : Nat) (h : k < ps.length) : joined ps (k + 1) = joined ps k ++ ps[k].2 := by
  unfold joined
  rw [List.take_succ_eq_append_getElem h]
  simp only [List.map_append, List.flatten_append, List.map_cons, List.map_nil, List.flatten_cons, List.flatten_nil, List.append_nil]
theorem joined_le (ps : List (Value × List UInt8)) (k : Nat) : (joined ps k).length ≤ (joined ps ps.length).length := by
  unfold joined
  have : ps = ps.take k ++ ps.drop k := (List.take_append_drop k ps).symm
  rw [List.take_length]
  conv => rhs; rw [this]
  simp only [List.map_append, List.flatten_append, List.length_append]
  omega

theorem ret_int {k : IntKind} {a b : Int} (h : a = b) : Ending.returned (.int k a) = .returned (.int k b) := by rw [h]
theorem ret_bool {a b : Bool} (h : a = b) : Ending.returned (.bool a) = .returned (.bool b) := by rw [h]

theorem Own.new (w : World) (l : List UInt8) (hl : l.length ≤ maxLen) : Own (w.alloc (.cells (BV l).toArray 5)) w.heap.size (.slice (some ⟨w.heap.size, 0, none⟩) l.length l.length) l := by
  refine ⟨by simp [BV_length], .inr ⟨w.heap.size, l.length, (BV l).toArray, rfl, Nat.le_refl _, heap_alloc_new w _, Nat.le_refl _, hl, by simp [BV_length], ?_⟩⟩
  rw [Nat.mul_one]
  exact List.take_of_length_le (by rw [BV_length]; exact Nat.le_refl _)
theorem Rd.take {w : World} {ao : Option Addr} {n cap : Nat} {l : List UInt8} (h : Rd w (.slice ao n cap) l) (j : Nat) (hj : j ≤ l.length) : Rd w (.slice ao j cap) (l.take j) := by
  obtain ⟨ao', cap', hv, h1, h2, h3, h4⟩ := h
  cases hv
  refine ⟨ao, cap, ?_, ?_, h2, h3, fun a ha i hi => ?_⟩
  · simp [Nat.min_eq_left hj]
  · simp; omega
  · simp at hi
    rw [h4 a ha i (by omega)]
    simp
theorem Rd.cut {w : World} {ao : Option Addr} {n cap : Nat} {l : List UInt8} (h : Rd w (.slice ao n cap) l) (i j : Nat) (hij : i ≤ j) (hj : j ≤ l.length) : Rd w (.slice (Option.map (fun x => x.add i) ao) (j - i) (cap - i)) ((l.take j).drop i) := by
  obtain ⟨ao', cap', hv, h1, h2, h3, h4⟩ := h
  cases hv
  refine ⟨Option.map (fun x => x.add i) ao, cap - i, ?_, ?_, by omega, fun hn => ?_, fun a ha k hk => ?_⟩
  · simp [Nat.min_eq_left hj]
  · simp; omega
  · simp at hn; have := h3 hn; omega
  · simp at ha
    obtain ⟨a0, h0, rfl⟩ := ha
    simp at hk
    have := h4 a0 h0 (i + k) (by omega)
    simp only [List.getElem_drop, List.getElem_take]
    rw [← this]
    congr 1
    unfold Addr.add
    split <;> split <;> split <;> simp_all <;> omega


theorem Try.info5 : (Try.prog.info? 5).map (fun i => (i.zero, i.size, i.bytes)) = some (some (.int .u8 0), 1, 1) := by kernel_rfl

set_option maxRecDepth 100000 in
set_option maxHeartbeats 400000 in
theorem grow_nil (n : Nat) (hn : n ≤ 140737488355328) (w : World) :
    Calls Try.prog 95 #[.slice none 0 0, .int .i64 n] w fun e w' => ∃ v, e = .returned v ∧ Own w' w.heap.size v [] ∧ Below w.heap.size w w' := by
  obtain ⟨i0, hi, hz0, hz1, hz2⟩ := info_parts Try.info5
  by_cases h0 : n = 0
  · subst h0
    go_enter Try.func95, Try.ntmps95
    go_wp2
    go_ret
    exact ⟨_, rfl, Own.nil _ _, Below.refl _ _⟩
  · have hp : (0 : Int) < (n : Int) := by omega
    have hrz : ∀ ty, (Builtin.append_ #[30, 3] ty #[.slice none 0 0, .int .i64 (n : Int)]).run Try.prog w =
        .ok (.slice (some ⟨w.heap.size, 0, none⟩) n (grownCap w n 0 5)) (w.drew.alloc (.cells (Builtin.zeroCells #[.int .u8 0] n ++ Builtin.zeroCells #[.int .u8 0] (grownCap w n 0 5 - n)) 5)) := fun ty => by
      have h := Lib.run_append_grow_zeros w 30 3 ty 5 i0 (.int .u8 0) .i64 .i64 Try.underlying30 Try.underlying3 hi hz0 none 0 0 [] (run_firstCells_none w.drew i0.size 0 0 0) n (by omega) (by omega) (by omega) (by omega) (by rw [hz2]; omega)
        (by rw [hz2]; exact growslice_fits (by omega) (by omega))
      simpa [Value.cells] using h
    have hGn : n ≤ grownCap w n 0 5 := grownCap_ge w _ _ _
    have hGm : grownCap w n 0 5 ≤ maxLen := grownCap_le_maxLen w n 0 5 (by unfold maxLen; omega)
    obtain ⟨G, hG⟩ : ∃ G, G = grownCap w n 0 5 := ⟨_, rfl⟩
    rw [← hG] at hrz hGn hGm
    clear hG
    have hG2 : G ≤ 9223372036854775807 := by unfold maxLen at hGm; omega
    have HG : Hid (G ≤ maxLen) := hGm
    clear hGm
    go_enter Try.func95, Try.ntmps95
    go_wp2_with (at_builtin; refine Lib.wpList_append_run _ rfl _ _ _ _ rfl _ _ rfl rfl _ _ (hrz _) ?_)
    go_ret
    refine ⟨_, rfl, ?_, (Below.refl _ _).drew.alloc (Nat.le_refl _) _⟩
    refine ⟨by simp [BV], .inr ⟨w.heap.size, G, _, rfl, Nat.le_refl _, heap_alloc_new w.drew _, Nat.zero_le _, HG.out, ?_, by simp [BV]⟩⟩
    simp [size_zeroCells]
    omega
set_option maxRecDepth 100000 in
set_option maxHeartbeats 800000 in
theorem concat_any (ps : List (Value × List UInt8)) (b cap : Nat) (w : World) (hcap : ps.length ≤ cap) (hmax : cap ≤ 1000)
    (hcell : ∀ i (h : i < ps.length), w.cell? ⟨b, i, none⟩ = some ps[i].1) (hrd : ∀ i (h : i < ps.length), Rd w ps[i].1 ps[i].2) (hb0 : b < w.heap.size) (htot : (joined ps ps.length).length ≤ 140737488355328) :
    Calls Try.prog 76 #[.slice (some ⟨b, 0, none⟩) ps.length cap] w fun e w' => ∃ v, e = .returned v ∧ Own w' w.heap.size v (joined ps ps.length) ∧ Below w.heap.size w w' := by
  obtain ⟨i0, hi, hz0, hz1, hz2⟩ := info_parts Try.info5
  obtain ⟨n, hn⟩ : ∃ n, n = ps.length := ⟨_, rfl⟩
  rw [← hn] at hcap htot ⊢
  have HN : Hid (n = ps.length) := hn
  have HC : Hid (∀ i (h : i < ps.length), w.cell? ⟨b, i, none⟩ = some ps[i].1) := hcell
  have HR : Hid (∀ i (h : i < ps.length), Rd w ps[i].1 ps[i].2) := hrd
  clear hn hcell hrd
  go_enter Try.func76, Try.ntmps76
  go_wp2
  go_loop [3, 11] (fun sv iv => ∃ k : Nat, k ≤ n ∧ iv = .int .i64 k ∧ sv = .int .i64 (joined ps k).length) (fun _ iv => n - (intOf iv).toNat)
  case atStart => exact ⟨0, by omega, rfl, rfl⟩
  case round =>
    obtain ⟨k, hk, rfl, rfl⟩ := hrel
    have hle : (joined ps k).length ≤ (joined ps n).length := by rw [HN.out]; exact joined_le ps k
    obtain ⟨sz, HZ⟩ := named ((joined ps k).length)
    rw [← HZ.out] at hle ⊢
    by_cases hlt : k < n
    · have hkp : k < ps.length := by rw [← HN.out]; exact hlt
      have hj := joined_succ ps k hkp
      have hle2 : (joined ps (k + 1)).length ≤ (joined ps n).length := by rw [HN.out]; exact joined_le ps (k + 1)
      rw [hj, List.length_append, ← HZ.out] at hle2
      have HJ : Hid (joined ps (k + 1) = joined ps k ++ ps[k].2) := hj
      clear hj
      have hc0 := HC.out k hkp
      obtain ⟨ao, c0, hv, h1, h2, h3, h4⟩ := HR.out k hkp
      rw [hv] at hc0
      clear h4 h3 hv
      obtain ⟨m, HM⟩ := named (ps[k].2.length)
      rw [← HM.out] at hle2 hc0 h1
      have hms : (m : Int) + sz ≤ 140737488355328 := by omega
      have hng : ¬ ((sz : Int) + m < 0) := by omega
      go_wp2
      go_round
      case rel => exact ⟨k + 1, by omega, by go_num, by rw [HJ.out, List.length_append, ← HM.out, ← HZ.out]; go_num⟩
      case measure => simp [intOf]; omega
    · have hkn : k = n := by omega
      have HK : Hid (k = n) := hkn
      have hsz : sz ≤ 140737488355328 := by omega
      clear hkn
      go_wp2_with fail
      refine (grow_nil sz hsz _).mono ?_
      rintro e w1 ⟨v1, rfl, hown1, hb1⟩
      go_wp2
      go_loopw [6, 27] (fun nv iv wr => ∃ k : Nat, k ≤ n ∧ iv = .int .i64 k ∧ Own wr w.heap.size nv (joined ps k) ∧ Below w.heap.size w wr) (fun _ iv _ => n - (intOf iv).toNat)
      case atStart => exact ⟨0, by omega, rfl, hown1, hb1⟩
      case round =>
        obtain ⟨j, hj, rfl, hown, hb⟩ := hrel
        have hsz2 := hb.size
        by_cases hlt2 : j < n
        · have hkp : j < ps.length := by rw [← HN.out]; exact hlt2
          have hjo := joined_succ ps j hkp
          have hle2 : (joined ps (j + 1)).length ≤ (joined ps n).length := by rw [HN.out]; exact joined_le ps (j + 1)
          rw [hjo, List.length_append] at hle2
          have HJ : Hid (joined ps (j + 1) = joined ps j ++ ps[j].2) := hjo
          clear hjo
          have hc0 := (hb.cell (p := ⟨b, j, none⟩) hb0).trans (HC.out j hkp)
          have hrd0 := HR.out j hkp
          obtain ⟨ao, c0, hv, h1, h2, h3, h4⟩ := HR.out j hkp
          rw [hv] at hc0 hrd0
          clear h4 h3 hv
          have hrd1 := hrd0.below hb
          clear hrd0
          obtain ⟨q, HQ⟩ := named (ps[j].2)
          obtain ⟨q0, HQ0⟩ := named (joined ps j)
          rw [← HQ.out] at hrd1 hc0 h1 hle2
          rw [← HQ0.out] at hown hle2
          go_wp2_with (at_builtin; go_must (refine wpList_append_rd _ rfl (.tmp 31) (.tmp 32) 30 rfl i0 Try.underlying30 hi hz0 hz1 hz2 w.heap.size _ _ rfl rfl q0 q hown hrd1 ?_ ?_ ?_))
          · omega
          · omega
          · intro v' w' hown' hg
            have hb' : Below w.heap.size w w' := hb.grown hg hsz2 (fun k hk => (World.ownsRow.lt hown k hk).1)
            clear hg
            go_wp2
            go_roundw
            case rel => exact ⟨j + 1, by omega, by go_num, by rw [HJ.out, ← HQ.out, ← HQ0.out]; exact hown', hb'⟩
            case measure => simp [intOf]; omega
        · have hjn : j = n := by omega
          subst hjn
          go_wp2
          go_ret
          exact ⟨_, rfl, hown, hb⟩


/-- Concat of one piece, of two, of three, in a new block -/
theorem concat1 (w : World) (v0 : Value) (l0 : List UInt8) (h0 : Rd w v0 l0) (hs : l0.length ≤ 140737488355328) :
    Calls Try.prog 76 #[.slice (some ⟨w.heap.size, 0, none⟩) 1 1] (w.alloc (.cells #[v0] 30)) fun e w' => ∃ v, e = .returned v ∧ Own w' w.heap.size v l0 ∧ Below w.heap.size w w' := by
  have h := concat_any [(v0, l0)] w.heap.size 1 (w.alloc (.cells #[v0] 30)) (by simp) (by simp)
    (fun i h => match i, h with | 0, _ => by simp)
    (fun i h => match i, h with | 0, _ => h0.alloc _) (by simp) (by simp [joined]; omega)
  refine h.mono ?_
  rintro e w' ⟨v, rfl, ho, hb⟩
  refine ⟨v, rfl, ?_, ((Below.refl w.heap.size w).alloc (Nat.le_refl _) _).trans (hb.mono (by simp))⟩
  have := ho.mono (base' := w.heap.size) (by simp)
  simpa [joined] using this

theorem concat2 (w : World) (v0 v1 : Value) (l0 l1 : List UInt8) (h0 : Rd w v0 l0) (h1 : Rd w v1 l1) (hs : l0.length + l1.length ≤ 140737488355328) :
    Calls Try.prog 76 #[.slice (some ⟨w.heap.size, 0, none⟩) 2 2] (w.alloc (.cells #[v0, v1] 30)) fun e w' => ∃ v, e = .returned v ∧ Own w' w.heap.size v (l0 ++ l1) ∧ Below w.heap.size w w' := by
  have h := concat_any [(v0, l0), (v1, l1)] w.heap.size 2 (w.alloc (.cells #[v0, v1] 30)) (by simp) (by simp)
    (fun i h => match i, h with | 0, _ => by simp | 1, _ => by simp)
    (fun i h => match i, h with | 0, _ => h0.alloc _ | 1, _ => h1.alloc _) (by simp) (by simp [joined]; omega)
  refine h.mono ?_
  rintro e w' ⟨v, rfl, ho, hb⟩
  refine ⟨v, rfl, ?_, ((Below.refl w.heap.size w).alloc (Nat.le_refl _) _).trans (hb.mono (by simp))⟩
  have := ho.mono (base' := w.heap.size) (by simp)
  simpa [joined] using this


end Go.Proofs.Ytloigepmmhcibaa
