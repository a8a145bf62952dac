/-
  Numbers and texts that lie somewhere; the contracts of SameInts, SameTexts. Own work.
-/
import Derived.Test.YtdbbdecmfnajiaaMq
namespace Go.Proofs.Ytdbbdecmfnajiaa
open Go.RowKit Go.Sort

/-- a slice that reads as these numbers -/
def RdI (w : World) (v : Value) (l : List Int) : Prop :=
  ∃ ao cap, v = .slice ao l.length cap ∧ l.length ≤ cap ∧ cap ≤ maxLen ∧ (ao = none → cap = 0) ∧ ∀ k (h : k < l.length), ∃ b off, ao = some ⟨b, off, none⟩ ∧ w.cell? ⟨b, off + k, none⟩ = some (.int .i64 l[k])
theorem OwnI.rd {w : World} {base : Nat} {v : Value} {l : List Int} (h : OwnI w base v l) : RdI w v l := by
  rcases h.2 with ⟨rfl, e⟩ | ⟨g, cap, cur, rfl, _, hg, h2, h3, h4, h5⟩
  · exact ⟨none, 0, by rw [e], by omega, by simp [maxLen], fun _ => rfl, fun k h => by omega⟩
  · refine ⟨_, _, rfl, h2, h3, (by simp), fun k hk => ⟨g, 0, rfl, ?_⟩⟩
    have a : (l.map (Value.int .i64))[k]? = some (.int .i64 l[k]) := by simp [hk]
    rw [← h5, List.getElem?_take, if_pos (by omega), Array.getElem?_toList] at a
    rw [Nat.zero_add, cell_of hg]
    exact a
theorem RdI.below {w w' : World} {v : Value} {l : List Int} (h : RdI w v l) (hb : Below w.heap.size w w') : RdI w' v l := by
  obtain ⟨ao, cap, hv, h1, h2, h3, h4⟩ := h
  refine ⟨ao, cap, hv, h1, h2, h3, fun k hk => ?_⟩
  obtain ⟨b, off, e, c0⟩ := h4 k hk
  exact ⟨b, off, e, by rw [hb.cell (World.block_lt_of_cell? w _ c0)]; exact c0⟩
theorem RdI.nil (w : World) : RdI w (.slice none 0 0) [] := ⟨none, 0, rfl, Nat.le_refl _, by simp [maxLen], fun _ => rfl, fun k h => by simp at h⟩
theorem RdI.shape {w : World} {v : Value} {l : List Int} (h : RdI w v l) : ∃ ao cap, v = .slice ao l.length cap := by
  obtain ⟨ao, cap, hv, _⟩ := h
  exact ⟨ao, cap, hv⟩
theorem RdI.at {w : World} {ao : Option Addr} {n cap : Nat} {l : List Int} (h : RdI w (.slice ao n cap) l) (k : Nat) (hk : k < l.length) : ∃ b off, ao = some ⟨b, off, none⟩ ∧ w.cell? ⟨b, off + k, none⟩ = some (.int .i64 l[k]) := by
  obtain ⟨ao', cap', hv, h1, h2, h3, h4⟩ := h
  cases hv
  exact h4 k hk

set_option maxRecDepth 100000 in
set_option maxHeartbeats 1600000 in
theorem sameInts_any {w : World} {u v : Value} {l m : List Int} (hu : RdI w u l) (hv : RdI w v m) (hl : l.length ≤ 1000000) (hm : m.length ≤ 1000000) :
    Calls Try.prog 33 #[u, v] w fun e w' => e = .returned (.bool (decide (l = m))) ∧ Below w.heap.size w w' := by
  obtain ⟨ao, cap, rfl⟩ := hu.shape
  obtain ⟨bo, dap, rfl⟩ := hv.shape
  have HU := hide hu
  have HV := hide hv
  clear hu hv
  obtain ⟨n, HN⟩ := named l.length
  obtain ⟨p, HP⟩ := named m.length
  rw [← HN.out] at HU hl ⊢
  rw [← HP.out] at HV hm ⊢
  by_cases hsw : p < n
  · have hR : decide (l = m) = false := decide_eq_false (by rintro rfl; have := HN.out; have := HP.out; omega)
    rw [hR]
    have hswI : (p : Int) < (n : Int) := by omega
    clear hR
    go_enter Try.func33, Try.ntmps33
    go_wp2_with fail
    go_loopw [5] (fun i wr => ∃ k : Nat, k ≤ p ∧ i = .int .i64 k ∧ Hid (Below w.heap.size w wr)) (fun i _ => p - (intOf i).toNat)
    case atStart => exact ⟨0, Nat.zero_le _, rfl, Below.refl _ _⟩
    case round =>
      obtain ⟨k, hk, rfl, HB⟩ := hrel
      have hne : ((k : Int) == (n : Int)) = false := beq_eq_false_iff_ne.2 (by omega)
      by_cases hlt : k < p
      · obtain ⟨b, off, hab, a0⟩ := (HU.out.below HB.out).at k (by rw [← HN.out]; omega)
        obtain ⟨b', off', hab', b0⟩ := (HV.out.below HB.out).at k (by rw [← HP.out]; exact hlt)
        subst hab
        subst hab'
        have hkI : (k : Int) < (p : Int) := by omega
        have hkJ : (k : Int) < (n : Int) := by omega
        obtain ⟨x0, HX0⟩ := named (l[k]'(by rw [← HN.out]; omega))
        obtain ⟨y0, HY0⟩ := named (m[k]'(by rw [← HP.out]; exact hlt))
        rw [← HX0.out] at a0
        rw [← HY0.out] at b0
        by_cases he : x0 = y0
        · subst he
          go_wp2_with fail
          go_quiet (fail)
          go_wp2_with fail
          go_roundw
          case rel => exact ⟨k + 1, hlt, by go_num, HB.out.trans ((drewN_below _ _).mono HB.out.size)⟩
          case measure => simp [intOf]; omega
        · have heB : (y0 == x0) = false := beq_eq_false_iff_ne.2 (Ne.symm he)
          go_wp2_with fail
          go_quiet (fail)
          go_wp2_with fail
          go_ret
          exact ⟨rfl, HB.out.trans ((drewN_below _ _).mono HB.out.size)⟩
      · have hkI : ¬ (k : Int) < (p : Int) := by omega
        go_wp2_with fail
        go_quiet (fail)
        go_wp2_with fail
        go_ret
        exact ⟨rfl, HB.out.trans ((drewN_below _ _).mono HB.out.size)⟩
  · have hswI : ¬ (p : Int) < (n : Int) := by omega
    obtain ⟨R, HR⟩ := named (decide (l = m))
    rw [← HR.out]
    go_enter Try.func33, Try.ntmps33
    go_wp2_with fail
    go_loopw [5] (fun i wr => ∃ k : Nat, k ≤ n ∧ i = .int .i64 k ∧ Hid (l.take k = m.take k) ∧ Hid (Below w.heap.size w wr)) (fun i _ => n - (intOf i).toNat)
    case atStart => exact ⟨0, Nat.zero_le _, rfl, by show _ = _; simp, Below.refl _ _⟩
    case round =>
      obtain ⟨k, hk, rfl, HT, HB⟩ := hrel
      by_cases hlt : k < n
      · obtain ⟨b, off, hab, a0⟩ := (HU.out.below HB.out).at k (by rw [← HN.out]; exact hlt)
        obtain ⟨b', off', hab', b0⟩ := (HV.out.below HB.out).at k (by rw [← HP.out]; omega)
        subst hab
        subst hab'
        have hkI : (k : Int) < (n : Int) := by omega
        have hkJ : (k : Int) < (p : Int) := by omega
        obtain ⟨x0, HX0⟩ := named (l[k]'(by rw [← HN.out]; omega))
        obtain ⟨y0, HY0⟩ := named (m[k]'(by rw [← HP.out]; omega))
        rw [← HX0.out] at a0
        rw [← HY0.out] at b0
        by_cases he : x0 = y0
        · subst he
          have HT1 : Hid (l.take (k + 1) = m.take (k + 1)) := by
            show _ = _
            rw [List.take_succ_eq_append_getElem (by rw [← HN.out]; exact hlt), List.take_succ_eq_append_getElem (by rw [← HP.out]; omega), HT.out, ← HX0.out, ← HY0.out]
          go_wp2_with fail
          go_quiet (fail)
          go_wp2_with fail
          go_roundw
          case rel => exact ⟨k + 1, hlt, by go_num, HT1, HB.out.trans ((drewN_below _ _).mono HB.out.size)⟩
          case measure => simp [intOf]; omega
        · have heB : (x0 == y0) = false := beq_eq_false_iff_ne.2 he
          have hne : ((k : Int) == (p : Int)) = false := beq_eq_false_iff_ne.2 (by omega)
          have HF : Hid (R = false) := by
            show R = false
            rw [HR.out, decide_eq_false_iff_not]
            intro e
            apply he
            rw [HX0.out, HY0.out]
            simp only [e]
          go_wp2_with fail
          go_quiet (fail)
          go_wp2_with fail
          go_ret
          exact ⟨ret_bool HF.out.symm, HB.out.trans ((drewN_below _ _).mono HB.out.size)⟩
      · obtain rfl : k = n := by omega
        have HF : Hid (((k : Int) == (p : Int)) = R) := by
          show _ = R
          have h1 := HT.out
          have h2 := HN.out
          have h3 := HP.out
          rw [HR.out]
          by_cases e : k = p
          · rw [List.take_of_length_le (by omega), List.take_of_length_le (by omega)] at h1
            rw [decide_eq_true h1, e]
            simp
          · rw [decide_eq_false (by rintro rfl; omega)]
            exact beq_eq_false_iff_ne.2 (by omega)
        go_wp2_with fail
        go_quiet (fail)
        go_wp2_with fail
        go_ret
        exact ⟨ret_bool HF.out, HB.out.trans ((drewN_below _ _).mono HB.out.size)⟩

/-- a slice that reads as these texts -/
def RdS (w : World) (v : Value) (l : List (List UInt8)) : Prop :=
  ∃ ao cap, v = .slice ao l.length cap ∧ ∀ k (h : k < l.length), ∃ b off, ao = some ⟨b, off, none⟩ ∧ w.cell? ⟨b, off + k, none⟩ = some (encStr l[k])
theorem OwnS.rd {w : World} {base : Nat} {v : Value} {l : List (List UInt8)} (h : OwnS w base v l) : RdS w v l := by
  rcases h.2 with ⟨rfl, e⟩ | ⟨g, cap, cur, rfl, _, hg, h2, h3, h4, h5⟩
  · exact ⟨none, 0, by rw [e], fun k h => by omega⟩
  · refine ⟨_, _, rfl, fun k hk => ⟨g, 0, rfl, ?_⟩⟩
    have a : (l.map encStr)[k]? = some (encStr l[k]) := by simp [hk]
    rw [← h5, List.getElem?_take, if_pos (by omega), Array.getElem?_toList] at a
    rw [Nat.zero_add, cell_of hg]
    exact a
theorem RdS.below {w w' : World} {v : Value} {l : List (List UInt8)} (h : RdS w v l) (hb : Below w.heap.size w w') : RdS w' v l := by
  obtain ⟨ao, cap, hv, h4⟩ := h
  refine ⟨ao, cap, hv, fun k hk => ?_⟩
  obtain ⟨b, off, e, c0⟩ := h4 k hk
  exact ⟨b, off, e, by rw [hb.cell (World.block_lt_of_cell? w _ c0)]; exact c0⟩
theorem RdS.shape {w : World} {v : Value} {l : List (List UInt8)} (h : RdS w v l) : ∃ ao cap, v = .slice ao l.length cap := by
  obtain ⟨ao, cap, hv, _⟩ := h
  exact ⟨ao, cap, hv⟩
theorem RdS.at {w : World} {ao : Option Addr} {n cap : Nat} {l : List (List UInt8)} (h : RdS w (.slice ao n cap) l) (k : Nat) (hk : k < l.length) : ∃ b off, ao = some ⟨b, off, none⟩ ∧ w.cell? ⟨b, off + k, none⟩ = some (encStr l[k]) := by
  obtain ⟨ao', cap', hv, h4⟩ := h
  cases hv
  exact h4 k hk

set_option maxRecDepth 100000 in
set_option maxHeartbeats 1600000 in
theorem sameTexts_true {w : World} {u v : Value} {l : List (List UInt8)} (hu : RdS w u l) (hv : RdS w v l) (hl : l.length ≤ 1000000) :
    Calls Try.prog 15 #[u, v] w fun e w' => e = .returned (.bool true) ∧ Below w.heap.size w w' := by
  obtain ⟨ao, cap, rfl⟩ := hu.shape
  obtain ⟨bo, dap, rfl⟩ := hv.shape
  have HU := hide hu
  have HV := hide hv
  clear hu hv
  obtain ⟨n, HN⟩ := named l.length
  rw [← HN.out] at HU HV hl ⊢
  go_enter Try.func15, Try.ntmps15
  go_wp2_with fail
  go_loopw [8] (fun i wr => ∃ k : Nat, k ≤ n ∧ i = .int .i64 k ∧ Hid (Below w.heap.size w wr)) (fun i _ => n - (intOf i).toNat)
  case atStart => exact ⟨0, Nat.zero_le _, rfl, Below.refl _ _⟩
  case round =>
    obtain ⟨k, hk, rfl, HB⟩ := hrel
    by_cases hlt : k < n
    · obtain ⟨b, off, hab, a0⟩ := (HU.out.below HB.out).at k (by rw [← HN.out]; omega)
      obtain ⟨b', off', hab', b0⟩ := (HV.out.below HB.out).at k (by rw [← HN.out]; exact hlt)
      subst hab
      subst hab'
      have hkI : (k : Int) < (n : Int) := by omega
      have hkn : ((k : Int) == (n : Int)) = false := beq_eq_false_iff_ne.2 (by omega)
      obtain ⟨s, HS⟩ := named (⟨(l[k]'(by rw [← HN.out]; omega)).toArray⟩ : ByteArray)
      have e1 : encStr (l[k]'(by rw [← HN.out]; omega)) = .string s := by rw [HS.out]
      rw [e1] at a0 b0
      go_wp2_with fail
      go_quiet (fail)
      go_wp2_with fail
      go_roundw
      case rel => exact ⟨k + 1, hlt, by go_num, HB.out.trans ((drewN_below _ _).mono HB.out.size)⟩
      case measure => simp [intOf]; omega
    · have hkI : ¬ (k : Int) < (n : Int) := by omega
      go_wp2_with fail
      go_ret
      exact ⟨by simp, HB.out⟩
end Go.Proofs.Ytdbbdecmfnajiaa
