/-
  slices.SortFunc by order; the contract of All. Own work.
-/
import Derived.Test.YtemlanalaihkoaaMo
namespace Go.Proofs.Ytemlanalaihkoaa
open Go.RowKit Go.Sort

theorem cellsL_ext {L : List Tm} {l : List Value} (hl : l.length = L.length * 2) (h : ∀ k (hk : k < L.length), l[k * 2]? = some (.int .i64 L[k].1) ∧ l[k * 2 + 1]? = some (.int .i64 L[k].2)) : l = cellsL L := by
  apply List.ext_getElem?
  intro j
  by_cases hj : j < L.length * 2
  · rcases Nat.mod_two_eq_zero_or_one j with e | e
    · have e3 : j = j / 2 * 2 := by omega
      rw [e3, (h (j / 2) (by omega)).1, (cellsL_get L (j / 2) (by omega)).1]
    · have e3 : j = j / 2 * 2 + 1 := by omega
      rw [e3, (h (j / 2) (by omega)).2, (cellsL_get L (j / 2) (by omega)).2]
  · rw [List.getElem?_eq_none (by omega), List.getElem?_eq_none (by rw [cellsL_len]; omega)]

def enc2 (x : Tm) : List Value := [.int .i64 x.1, .int .i64 x.2]
theorem enc2_get (d : Array Tm) (j : Nat) (h : j < d.size) : (flatK enc2 2 d)[j * 2]! = .int .i64 d[j]!.1 ∧ (flatK enc2 2 d)[j * 2 + 1]! = .int .i64 d[j]!.2 := by
  rw [get_flatK _ _ _ _ (by omega), get_flatK _ _ _ _ (by omega)]
  have e1 : j * 2 / 2 = j := by omega
  have e2 : j * 2 % 2 = 0 := by omega
  have e3 : (j * 2 + 1) / 2 = j := by omega
  have e4 : (j * 2 + 1) % 2 = 1 := by omega
  rw [e1, e2, e3, e4]
  exact ⟨rfl, rfl⟩
theorem swoT : SWO (ltOf cmpT) where
  irrefl x := by unfold ltOf; rw [decide_eq_false_iff_not, cmpT_lt]; exact Ah.irr x
  trans x y z h1 h2 := by
    unfold ltOf at *
    rw [decide_eq_true_eq, cmpT_lt] at *
    exact h1.trans h2
  ntrans x y z h1 h2 := by
    unfold ltOf at *
    rw [decide_eq_false_iff_not, cmpT_lt] at *
    exact Ah.ntrans h2 h1
theorem OwnT.holds {w : World} {base g cap : Nat} {l : List Tm} (h : OwnT w base (.slice (some ⟨g, 0, none⟩) l.length cap) l) : HoldsK enc2 2 w g 0 l.toArray := by
  rcases h.2 with ⟨h1, _⟩ | ⟨g', c', cur, h1, _, hg, h2, h3, h4, h5⟩
  · cases h1
  · cases h1
    intro j hj
    rw [size_flatK, List.size_toArray] at hj
    rw [Nat.zero_add, cell_of hg]
    refine ⟨?_, frozen_of hg _⟩
    have hh : ∀ k, k < l.length → cur[k * 2]? = some (.int .i64 l[k]!.1) ∧ cur[k * 2 + 1]? = some (.int .i64 l[k]!.2) := fun k hk => by
      obtain ⟨a, b⟩ := cellsL_get l k hk
      rw [← h5, List.getElem?_take, if_pos (by omega), Array.getElem?_toList] at a b
      rw [getElem!_pos l k hk]
      exact ⟨a, b⟩
    rcases Nat.mod_two_eq_zero_or_one j with e | e
    · have e3 : j = j / 2 * 2 := by omega
      have := (enc2_get l.toArray (j / 2) (by simp; omega)).1
      rw [← e3] at this
      rw [this]
      have h6 := (hh (j / 2) (by omega)).1
      rw [← e3] at h6
      simpa using h6
    · have e3 : j = j / 2 * 2 + 1 := by omega
      have := (enc2_get l.toArray (j / 2) (by simp; omega)).2
      rw [← e3] at this
      rw [this]
      have h6 := (hh (j / 2) (by omega)).2
      rw [← e3] at h6
      simpa using h6
theorem sorted_own {w : World} {base g cap m : Nat} {l : List Tm} {d : Array Tm} {os : Array Obj} (h : OwnT w base (.slice (some ⟨g, 0, none⟩) l.length cap) l) (hd : d.size = l.length) :
    OwnT (sortWorldK enc2 2 w g 0 m d os) base (.slice (some ⟨g, 0, none⟩) l.length cap) d.toList ∧ Below base w (sortWorldK enc2 2 w g 0 m d os) := by
  rcases h.2 with ⟨h1, _⟩ | ⟨g', c', cur, h1, hb, hg, h2, h3, h4, h5⟩
  · cases h1
  · cases h1
    have hgl := lt_of hg
    have hheap : (sortWorldK enc2 2 w g 0 m d os).heap[g]? = some (.cells (putCells id 0 (flatK enc2 2 d) cur) 30 (0, 0)) := by
      unfold sortWorldK
      rw [heap_grow_old _ _ (by simp [putRowK, putRow, mapBlock, Sort.ahead]; exact hgl)]
      simp only [putRowK, putRow, mapBlock, Sort.ahead]
      rw [Array.getElem?_modify, if_pos rfl, hg]
      rfl
    have hget : ∀ j, j < l.length * 2 → (putCells id 0 (flatK enc2 2 d) cur)[j]? = some ((flatK enc2 2 d)[j]!) := fun j hj => by
      have hjs : j < cur.size := by omega
      simp only [putCells, Array.getElem?_mapIdx, Array.getElem?_eq_getElem hjs, Option.map_some]
      rw [if_pos ⟨by omega, by rw [size_flatK, hd]; omega⟩]
      simp
    refine ⟨⟨by rw [cellsL_len, Array.length_toList, hd], ?_⟩, ?_⟩
    · refine .inr ⟨g, cap, _, by simp [hd], hb, hheap, by simp [hd]; exact h2, h3, by simp [putCells, h4], ?_⟩
      refine cellsL_ext ?_ fun k hk => ?_
      · rw [List.length_take, Array.length_toList, Array.length_toList, hd]
        simp [putCells]
        omega
      · have hk : k < l.length := by simpa [hd] using hk
        rw [Array.length_toList, hd, List.getElem?_take, List.getElem?_take, if_pos (by omega), if_pos (by omega), Array.getElem?_toList, Array.getElem?_toList, hget _ (by omega), hget _ (by omega)]
        obtain ⟨a, b⟩ := enc2_get d k (by omega)
        rw [a, b, getElem!_pos d k (by omega)]
        simp
    · refine ⟨rfl, rfl, rfl, ?_, fun k hk => ?_⟩
      · simp [sortWorldK, grow, putRowK, putRow, mapBlock, Sort.ahead]
      · unfold sortWorldK
        rw [heap_grow_old _ _ (by simp [putRowK, putRow, mapBlock, Sort.ahead]; omega)]
        simp only [putRowK, putRow, mapBlock, Sort.ahead, Array.getElem?_modify]
        rw [if_neg (by omega)]

set_option maxRecDepth 100000 in
set_option maxHeartbeats 1600000 in
theorem insertion_none (p : Option Addr) (cap : Nat) (fv : Value) (w : World) : Calls Try.prog 50 #[.slice p 0 cap, .int .i64 0, .int .i64 0, fv] w fun e w' => e = .returned (.tuple #[]) ∧ w' = w := by
  go_enter Try.func50, Try.ntmps50
  go_wp2
  go_loop [8] (fun i => i = .int .i64 1) (fun _ => 0)
  case atStart => rfl
  case round =>
    subst hrel
    go_wp2
    go_end0
    exact ⟨rfl, rfl⟩
set_option maxRecDepth 100000 in
set_option maxHeartbeats 1600000 in
theorem pdq_none (p : Option Addr) (cap : Nat) (lim : Int) (fv : Value) (w : World) : Calls Try.prog 45 #[.slice p 0 cap, .int .i64 0, .int .i64 0, .int .i64 lim, fv] w fun e w' => e = .returned (.tuple #[]) ∧ w' = w := by
  have hi := insertion_none p cap fv w
  go_enter Try.func45, Try.ntmps45
  go_wp2
  refine wp_loop_rounds 1 ?_
  rw [rounds_succ]
  go_wp2_with (with_reducible refine Calls.mono hi ?_; rintro e w' ⟨rfl, rfl⟩)
  (try simp only [Exit.inBlock, Exit.then])
  refine bodyPost_ret (results_none rfl _ _ _) rfl ?_
  exact ⟨rfl, rfl⟩
set_option maxRecDepth 100000 in
set_option maxHeartbeats 1600000 in
theorem sort_none (p : Option Addr) (cap : Nat) (fv : Value) (w : World) : Calls Try.prog 37 #[.slice p 0 cap, fv] w fun e w' => e = .returned (.tuple #[]) ∧ w' = w := by
  have hp := fun lim => pdq_none p cap lim fv w
  have hl : Calls Try.prog 46 #[.int .u64 0] w fun e w' => e = .returned (.int .i64 (Lib.bitLen 0 : Nat)) ∧ w' = w :=
    Any.bits_Len (SlLaysF0.n15.bits (P := Try.prog) (ρ := Try.sortT_ren) { Try.sortT with }) 0 w (by omega) (by omega)
  obtain ⟨b, HB⟩ := named (Lib.bitLen 0)
  rw [← HB.out] at hl
  go_enter Try.func37, Try.ntmps37
  go_wp2_with (first | (with_reducible refine Calls.mono hl ?_; rintro e w' ⟨rfl, rfl⟩) | (with_reducible refine Calls.mono (hp _) ?_; rintro e w' ⟨rfl, rfl⟩))
  go_end0
  exact ⟨rfl, rfl⟩
/-- the row's timers in order -/
theorem sort_any {w : World} {base : Nat} {v : Value} {l : List Tm} (h : OwnT w base v l) (hl : l.length ≤ 65536) :
    Calls Try.prog 37 #[v, .func (.func 38) #[] #[]] w fun e w' => e = .returned (.tuple #[]) ∧ ∃ l', l'.Perm l ∧ l'.Pairwise (fun a b => ¬ Ah b a) ∧ OwnT w' base v l' ∧ Below base w w' := by
  rcases (show l = [] ∨ l ≠ [] from (Decidable.em _)) with rfl | hne
  · obtain ⟨ao, cap, rfl⟩ := h.shape
    refine (sort_none ao cap _ w).mono ?_
    rintro e w' ⟨rfl, rfl⟩
    exact ⟨rfl, [], List.Perm.refl _, List.Pairwise.nil, h, Below.refl _ _⟩
  · have h0 : 0 < l.length := List.length_pos_iff.2 hne
    obtain ⟨g, cap, rfl⟩ : ∃ g cap, v = .slice (some ⟨g, 0, none⟩) l.length cap := by
      rcases h.2 with ⟨_, e⟩ | ⟨g, cap, cur, hv, _⟩
      · omega
      · exact ⟨g, cap, hv⟩
    have eg : ∀ args w, (callFunc 38 args).run Try.prog w = .ok (.enter 38 args) w := enters_of Try.func38 (by kernel_rfl) rfl
    have hcon := AnyQ.slices_SortFunc Try.sortT 2 Try.isAgg30 Try.sizeOf30 enc2 (fun _ => rfl) (fun x v hv => by simp [enc2] at hv; rcases hv with rfl | rfl <;> rfl) cmpT swoT 38 #[] g 0 cap l.toArray w eg (fun _ _ _ _ x y => order_grow x y _) h.holds (h.lt g rfl).2 (by simp; omega)
    change Calls Try.prog 37 _ _ _ at hcon
    rw [List.size_toArray] at hcon
    refine hcon.mono ?_
    rintro e w' ⟨rfl, d', n, os, hp, hs, rfl⟩
    obtain ⟨p1, p2, p3⟩ := hp
    have p1 : d'.size = l.length := by simpa using p1
    obtain ⟨k1, k2⟩ := sorted_own (m := n) (os := os) h p1
    refine ⟨rfl, d'.toList, ?_, ?_, k1, k2⟩
    · have e1 : d'.extract 0 l.length = d' := by rw [← p1]; exact Array.extract_size
      have e2 : l.toArray.extract 0 l.length = l.toArray := by
        have : l.length = l.toArray.size := by simp
        rw [this]; exact Array.extract_size
      rw [e1, e2] at p3
      simpa using p3
    · rw [List.pairwise_iff_getElem]
      intro i j hi hj hij
      have hi : i < l.length := by simpa [p1] using hi
      have hj : j < l.length := by simpa [p1] using hj
      have := hs i j (Nat.zero_le _) hij hj
      unfold ltOf at this
      rw [decide_eq_false_iff_not, cmpT_lt, getElem!_pos d' i (by omega), getElem!_pos d' j (by omega)] at this
      simpa using this
end Go.Proofs.Ytemlanalaihkoaa
