/-
  The contracts of take, drop, put. Own work.
-/
import Derived.Test.YtdbbdecmfnajiaaMi
namespace Go.Proofs.Ytdbbdecmfnajiaa
open Go.RowKit

set_option maxRecDepth 100000 in
set_option maxHeartbeats 1600000 in
theorem take_any {w : World} {q : Qd} (h : QM w q) {x : Int} {r : List Int} (hL : q.L = x :: r) :
    Calls Try.prog 51 #[.pointer (some ⟨q.qb, 0, none⟩)] w fun e w' => e = .returned (.int .i64 x) ∧ ∃ q', QStep w w' q q' ∧ q'.most = q.most ∧ q'.L = r := by
  obtain ⟨qb, pv, most, n, first, f, L⟩ := q
  simp only at hL
  subst hL
  obtain ⟨hm, hl⟩ := h
  simp only [List.length_cons] at hm hl ⊢
  obtain ⟨c, HC⟩ := named r.length
  rw [← HC.out] at hm hl
  have hfn : first < n := by rcases hm.fi with h1 | ⟨h1, h2⟩; exact h1; have := hm.le; omega
  obtain ⟨g, rfl, hgl, hn2, hfz, hcell⟩ := hm.pl.at (by omega)
  have hx : f first = x := by
    have := qL_pos f first n (c + 1) 0 (by omega)
    rw [hl, pos_eq hfn (by omega), if_pos (by omega)] at this
    simpa using this.symm
  have cg : w.cell? ⟨g, first, none⟩ = some (.int .i64 x) := by rw [← hx]; exact hcell first hfn
  have s1 := hm.s1
  have s2 := hm.s2
  have z2 : w.frozen? ⟨qb, 2, none⟩ = false := frozen_of hm.cs 2
  obtain ⟨p, HP⟩ := named ((first + 1) % n)
  have hpn : p < n := by rw [HP.out]; exact Nat.mod_lt _ (by omega)
  have kp := fun k => place_any (w := w.drewN k) (i := 1) hm.cs ⟨_, rfl⟩ (by omega) hn2 hfn (by omega)
  rw [← HP.out] at kp
  -- behind the store
  have key : ∀ k, ∃ W1, Hid (W1 = (w.drewN k).setCell ⟨qb, 2, none⟩ (.int .i64 p)) ∧ Qm W1 qb (.slice (some ⟨g, 0, none⟩) n n) most n p (c + 1) f ∧ QStep w W1 ⟨qb, .slice (some ⟨g, 0, none⟩) n n, most, n, first, f, x :: r⟩ ⟨qb, .slice (some ⟨g, 0, none⟩) n n, most, n, p, f, qL f p n (c + 1)⟩ := fun k => by
    have hcs := heap_setCell_same w qb 2 _ 93 (.int .i64 p) hm.cs
    have hW : Qm ((w.drewN k).setCell ⟨qb, 2, none⟩ (.int .i64 p)) qb (.slice (some ⟨g, 0, none⟩) n n) most n p (c + 1) f := ⟨by
        show (w.setCell ⟨qb, 2, none⟩ (.int .i64 p)).heap[qb]? = _
        simpa using hcs, hm.pl.heap fun a e => by
        show (w.setCell ⟨qb, 2, none⟩ (.int .i64 p)).heap[a]? = _
        exact Below.heap_setCell _ _ _ _ (by rintro rfl; exact hm.row_ne e), .inl hpn, hm.le, hm.mo, hm.cm⟩
    refine ⟨_, rfl, hW, ⟨by simp only [qL_len]; exact hW, by simp only [qL_len]⟩, rfl, ?_, fun b hb => .inl hb⟩
    have h1 : Chg (Qd.bk ⟨qb, .slice (some ⟨g, 0, none⟩) n n, most, n, first, f, x :: r⟩) w (w.setCell ⟨qb, 2, none⟩ (.int .i64 p)) := (Chg.refl _ _).setCell (.inl (.inl rfl)) _
    exact ⟨h1.os, h1.tape, h1.output, h1.size, h1.block⟩
  have hend : qL f p n c = r := by
    apply List.ext_getElem?
    intro i
    by_cases hi : i < c
    · have h2 := qL_pos f first n (c + 1) (i + 1) (by omega)
      rw [hl, List.getElem?_cons_succ] at h2
      rw [qL_pos _ _ _ _ _ hi, h2]
      congr 2
      have := hm.le
      rw [pos_eq hpn (by omega), pos_eq hfn (by omega)]
      have e : p = if first + 1 < n then first + 1 else first + 1 - n := by rw [HP.out]; exact pos_eq hfn (by omega)
      split at e <;> split <;> split <;> omega
    · rw [List.getElem?_eq_none (by rw [qL_len]; omega), List.getElem?_eq_none (by have := HC.out; omega)]
  have HN := hide hn2
  have ks : ∀ k, Calls Try.prog 65 #[.pointer (some ⟨qb, 0, none⟩)] ((w.drewN k).setCell ⟨qb, 2, none⟩ (.int .i64 p)) fun e w' => e = .returned (.tuple #[]) ∧ ∃ q', QStep w w' ⟨qb, .slice (some ⟨g, 0, none⟩) n n, most, n, first, f, x :: r⟩ q' ∧ q'.most = most ∧ q'.L = r := fun k => by
    obtain ⟨W1, HW1, hW, hst⟩ := key k
    rw [← HW1.out]
    refine (less_any hW hn2).mono ?_
    rintro e w' ⟨he, q', h1, h2, h3⟩
    exact ⟨he, q', hst.trans h1, h2, h3.trans hend⟩
  have hfI : (first : Int) < (n : Int) := by omega
  clear key hend hx hl hm hfn hpn hn2
  go_enter Try.func51, Try.ntmps51
  go_wp2_with fail
  go_quiet (fail)
  go_wp2_with fail
  (with_reducible refine Calls.mono (kp _) ?_)
  clear kp
  rintro e u ⟨rfl, k, rfl⟩
  go_wp2_with fail
  (with_reducible refine Calls.mono (ks _) ?_)
  clear ks
  rintro e u ⟨rfl, hq⟩
  have HQ := hide hq
  clear hq
  go_wp2_with fail
  go_ret
  exact ⟨rfl, HQ.out⟩

/-- the numbers are as they were, one less -/
theorem drop_pure {w u : World} {qb n first c : Nat} {pv : Value} {most : Int} {f g : Nat → Int} (hc : Chg (fun b => pv.ownBlock = some b) w u) (hu : Qm u qb pv most n first c g) (L : List Int) :
    QStep w u ⟨qb, pv, most, n, first, f, L⟩ ⟨qb, pv, most, n, first, g, qL g first n c⟩ :=
  ⟨⟨by simp only [qL_len]; exact hu, by simp only [qL_len]⟩, rfl, hc.mono fun i _ hi => .inr hi, fun b hb => .inl hb⟩

set_option maxRecDepth 100000 in
set_option maxHeartbeats 1600000 in
theorem drop_any {w : World} {q : Qd} (h : QM w q) (x : Int) :
    Calls Try.prog 52 #[.pointer (some ⟨q.qb, 0, none⟩), .int .i64 x] w fun e w' => e = .returned (.bool (decide (x ∈ q.L))) ∧ (x ∉ q.L → Below w.heap.size w w') ∧ ∃ q', QStep w w' q q' ∧ q'.most = q.most ∧ q'.L = q.L.erase x := by
  obtain ⟨qb, pv, most, n, first, f, L⟩ := q
  obtain ⟨hm, hl⟩ := h
  simp only at hm hl ⊢
  obtain ⟨c, HC⟩ := named L.length
  rw [← HC.out] at hm hl
  have kc := closeUp_any hm x
  obtain ⟨hn2, ao, rfl⟩ := hm.pl.shape
  have s1 := hm.s1
  have HM := hide hm
  have HL := hide hl
  have HN := hide hn2
  clear hm hl hn2
  go_enter Try.func52, Try.ntmps52
  go_wp2_with fail
  (with_reducible refine Calls.mono kc ?_)
  clear kc
  rintro e u ⟨fnd, gap, g, rfl, hc, hq, hs, hno⟩
  have HNO := hide hno
  clear hno
  have HQ := hide hq
  have HS := hide hs
  have HCH := hide hc
  clear hc hq hs
  cases fnd with
  | false =>
    go_wp2_with fail
    go_ret
    obtain ⟨rfl, hx⟩ := HS.out.out_no
    rw [HL.out] at hx
    rw [decide_eq_false hx]
    refine ⟨rfl, fun _ => HNO.out (by trivial), _, drop_pure HCH.out HQ.out L, rfl, ?_⟩
    rw [List.erase_of_not_mem hx]
    exact HL.out
  | true =>
    obtain ⟨hx, hc0, he⟩ := HS.out.out_yes
    rw [HL.out] at hx he
    obtain ⟨d, hd⟩ : ∃ d, c = d + 1 := ⟨c - 1, by omega⟩
    have hq := HQ.out
    rw [hd] at hq he
    have kl := less_any hq HN.out
    have HX := hide hx
    have HE := hide he
    clear hx hc0 he hq
    go_wp2_with fail
    (with_reducible refine Calls.mono kl ?_)
    clear kl
    rintro e u2 ⟨rfl, q', h1, h2, h3⟩
    have H1 := hide h1
    have H2 := hide h2
    have H3 := hide h3
    clear h1 h2 h3
    go_wp2_with fail
    go_ret
    rw [decide_eq_true HX.out]
    subst hd
    exact ⟨rfl, fun hn => absurd HX.out hn, q', (drop_pure HCH.out HQ.out L).trans H1.out, H2.out, H3.out.trans (by simpa using HE.out)⟩

/-- one number more behind -/
theorem put_end {w W : World} {qb g m first c p : Nat} {most : Int} {f1 : Nat → Int} {q : Qd} {L : List Int} (hW : Qm W qb (.slice (some ⟨g, 0, none⟩) m m) most m first c f1) (hl : qL f1 first m c = L) (x : Int) (hcm : c < m) (hc : c < 65536) (hp : p = (first + c) % m)
    (hST : QStep w W q ⟨qb, .slice (some ⟨g, 0, none⟩) m m, most, m, first, f1, L⟩) (k : Nat) :
    ∃ q', QStep w (((W.setCell ⟨g, p, none⟩ (.int .i64 x)).drewN k).setCell ⟨qb, 3, none⟩ (.int .i64 (c + 1 : Nat))) q q' ∧ q'.most = most ∧ q'.L = L ++ [x] := by
  have hpm : p < m := by rw [hp]; exact Nat.mod_lt _ (by omega)
  have hgq : g ≠ qb := fun e => hW.row_ne (by rw [e]; rfl)
  have hps := hW.pl.set p hpm x
  have h1 : (W.setCell ⟨g, p, none⟩ (.int .i64 x)).heap[qb]? = _ := (Below.heap_setCell _ _ _ _ (Ne.symm hgq)).trans hW.cs
  have h2 := heap_setCell_same (W.setCell ⟨g, p, none⟩ (.int .i64 x)) qb 3 _ 93 (.int .i64 (c + 1 : Nat)) h1
  have hfm : first < m := by rcases hW.fi with h1 | ⟨h1, h2⟩; exact h1; omega
  have hq : qL (setF f1 p x) first m (c + 1) = L ++ [x] := by
    rw [qL_succ, ← hl]
    congr 1
    · unfold qL
      refine List.map_congr_left fun i hi => ?_
      have hi := List.mem_range.1 hi
      unfold setF
      rw [if_neg]
      rw [hp]
      exact pos_ne hfm (by omega) (by omega) (by omega)
    · unfold setF
      rw [if_pos hp.symm]
  have hll : L.length = c := by rw [← hl, qL_len]
  refine ⟨⟨qb, .slice (some ⟨g, 0, none⟩) m m, most, m, first, setF f1 p x, L ++ [x]⟩, hST.trans ⟨⟨?_, ?_⟩, rfl, ?_, fun b hb => .inl hb⟩, rfl, rfl⟩
  · simp only [List.length_append, List.length_cons, List.length_nil, hll]
    refine ⟨?_, hps.heap fun a e => ?_, hW.fi, by omega, hW.mo, by omega⟩
    · have h3 : (((W.setCell ⟨g, p, none⟩ (.int .i64 x)).drewN k).setCell ⟨qb, 3, none⟩ (.int .i64 (c + 1 : Nat))).heap[qb]? = _ := h2
      simpa using h3
    · cases e
      show ((W.setCell ⟨g, p, none⟩ (.int .i64 x)).setCell ⟨qb, 3, none⟩ (.int .i64 (c + 1 : Nat))).heap[g]? = _
      exact Below.heap_setCell _ _ _ _ hgq
  · simp only [List.length_append, List.length_cons, List.length_nil, hll]
    exact hq
  · have h4 : Chg (Qd.bk ⟨qb, .slice (some ⟨g, 0, none⟩) m m, most, m, first, f1, L⟩) W (W.setCell ⟨g, p, none⟩ (.int .i64 x)) := (Chg.refl _ _).setCell (.inl (.inr rfl)) _
    have h5 : Chg (Qd.bk ⟨qb, .slice (some ⟨g, 0, none⟩) m m, most, m, first, f1, L⟩) W ((W.setCell ⟨g, p, none⟩ (.int .i64 x)).drewN k) := ⟨h4.os, h4.tape, h4.output, h4.size, h4.block⟩
    exact h5.setCell (.inl (.inl rfl)) _

set_option maxRecDepth 100000 in
set_option maxHeartbeats 3200000 in
theorem put_any {w : World} {q : Qd} (h : QM w q) (x : Int) (hc : q.L.length < 65536) :
    Calls Try.prog 46 #[.pointer (some ⟨q.qb, 0, none⟩), .int .i64 x] w fun e w' => e = .returned (.tuple #[]) ∧ ∃ q', QStep w w' q q' ∧ q'.most = q.most ∧ q'.L = q.L ++ [x] := by
  obtain ⟨qb, pv, most, n, first, f, L⟩ := q
  obtain ⟨hm, hl⟩ := h
  simp only at hm hl hc ⊢
  obtain ⟨c, HC⟩ := named L.length
  rw [← HC.out] at hm hl hc
  obtain ⟨hn2, ao, rfl⟩ := hm.pl.shape
  have t1 := hm.s1
  have t3 := hm.s3
  have hle := hm.le
  by_cases hcn : c = n
  · subst hcn
    obtain ⟨m, HMM⟩ := named (max (2 * c) 8)
    have hcm : c < m := by rw [HMM.out]; omega
    have hm2 : m ≤ 1000000 := by rw [HMM.out]; omega
    have km := fun k => move_any (w := w.drewN k) (qb := qb) (n := c) (first := first) (count := c) (pv := .slice ao c c) (most := most) (f := f) ⟨hm.cs, hm.pl.heap fun _ _ => rfl, hm.fi, hm.le, hm.mo, hm.cm⟩ m (by omega) (by omega) hm2
    have HM := hide hm
    have HL := hide hl
    have HCC := hide hc
    have HW2 := hide hcm
    have HM2 := hide hm2
    have hcI : (0 : Int) ≤ (c : Int) := by omega
    have hcJ : (c : Int) < 65536 := by omega
    by_cases h8 : 2 * c < 8
    · have h8I : 2 * (c : Int) < 8 := by omega
      have e8 : (m : Int) = 8 := by rw [HMM.out]; omega
      rw [e8] at km
      clear hm hl hcm hm2 hle h8
      go_enter Try.func46, Try.ntmps46
      go_wp2_with fail
      go_quiet (fail)
      clear e8
      go_wp2_with fail
      (with_reducible refine Calls.mono (km _) ?_)
      clear km
      rintro e W ⟨rfl, g, f1, hW, hl1, hg1, hch⟩
      have hST : QStep w W ⟨qb, .slice ao c c, most, c, first, f, L⟩ ⟨qb, .slice (some ⟨g, 0, none⟩) m m, most, m, 0, f1, L⟩ := by
        have hw1 : Qm W qb (.slice (some ⟨g, 0, none⟩) m m) most m 0 L.length f1 := by rw [← HC.out]; exact hW
        refine ⟨⟨hw1, ?_⟩, rfl, ?_, fun b hb => ?_⟩
        · show qL f1 0 m L.length = L
          rw [← HC.out, hl1, HL.out]
        · have h1 := hch.mono (G := Qd.bk ⟨qb, .slice ao c c, most, c, first, f, L⟩) (fun i _ e => .inl e)
          exact ⟨h1.os, h1.tape, h1.output, h1.size, h1.block⟩
        · rcases hb with hb | hb
          · exact .inl (.inl hb)
          · cases hb; exact .inr hg1
      rw [HL.out] at hl1
      have hcm := HW2.out
      have hm2 := HM2.out
      have hc := HCC.out
      obtain ⟨p, HP⟩ := named ((0 + c) % m)
      have hpm : p < m := by rw [HP.out]; exact Nat.mod_lt _ (by omega)
      have kp := place_any (w := W.drew) (i := c) hW.cs ⟨_, rfl⟩ (by omega) hm2 (by rcases hW.fi with h1 | ⟨h1, h2⟩; exact h1; omega) (by omega)
      rw [← HP.out] at kp
      have s1 : W.drew.cell? ⟨qb, 1, none⟩ = some (.slice (some ⟨g, 0, none⟩) m m) := hW.s1
      have s3 : W.drew.cell? ⟨qb, 3, none⟩ = some (.int .i64 c) := hW.s3
      have hgq : g ≠ qb := fun e => hW.row_ne (by rw [e]; rfl)
      obtain ⟨g', hv', hgl, -, hfz, hcell⟩ := hW.pl.at (by omega)
      cases hv'
      have ccp : W.cell? ⟨g, p, none⟩ = some (.int .i64 (f1 p)) := hcell p hpm
      have ccf : W.frozen? ⟨g, p, none⟩ = false := hfz p
      have h1 : Hid (∀ k, (W.drew.drewN k).cell? ⟨qb, 1, none⟩ = some (.slice (some ⟨g, 0, none⟩) m m) ∧ (W.drew.drewN k).cell? ⟨qb, 3, none⟩ = some (.int .i64 c)) := fun _ => ⟨s1, s3⟩
      have h2 : Hid (∀ k, ((W.setCell ⟨g, p, none⟩ (.int .i64 x)).drew.drewN k).cell? ⟨qb, 1, none⟩ = some (.slice (some ⟨g, 0, none⟩) m m) ∧ ((W.setCell ⟨g, p, none⟩ (.int .i64 x)).drew.drewN k).cell? ⟨qb, 3, none⟩ = some (.int .i64 c)) := fun k => by
        refine ⟨?_, ?_⟩
        · show (W.setCell ⟨g, p, none⟩ (.int .i64 x)).cell? ⟨qb, 1, none⟩ = _
          rw [World.cell?_setCell_far _ _ _ _ hgq]; exact s1
        · show (W.setCell ⟨g, p, none⟩ (.int .i64 x)).cell? ⟨qb, 3, none⟩ = _
          rw [World.cell?_setCell_far _ _ _ _ hgq]; exact s3
      have h3 : Hid ((W.setCell ⟨g, p, none⟩ (.int .i64 x)).cell? ⟨qb, 3, none⟩ = some (.int .i64 c)) := by
        show _ = _
        rw [World.cell?_setCell_far _ _ _ _ hgq]; exact s3
      have h4 : Hid (W.frozen? ⟨qb, 3, none⟩ = false) := frozen_of hW.cs 3
      have HEND := hide (fun k => put_end hW hl1 x hcm (by omega) HP.out hST k)
      have hpI : (p : Int) < (m : Int) := by omega
      have hcI : (0 : Int) ≤ (c : Int) := by omega
      have hcJ : (c : Int) ≤ 65536 := by omega
      have hs0 : W.drew.cell? ⟨qb, 1, none⟩ = some (.slice (some ⟨g, 0, none⟩) m m) ∧ W.drew.cell? ⟨qb, 3, none⟩ = some (.int .i64 c) := ⟨s1, s3⟩
      clear hST hW hl1 hcm hm2 hc hpm hcell hfz hg1 hch s1 s3 hgl
      go_wp2_with fail
      refine wp_region_held_drew (S := (fun u => u.cell? ⟨qb, 1, none⟩ = some (.slice (some ⟨g, 0, none⟩) m m) ∧ u.cell? ⟨qb, 3, none⟩ = some (.int .i64 c))) (by kernel_rfl) hs0 (fun _ => ?_)
      refine wpAnyH_take (i := 0) (oi := { dst := some 22, op := Go.Op.move (Go.Operand.tmp 0), type := 89, pos := "queue.go:36", after := #[], guard := none }) (v := ?_) rfl (by kernel_rfl) (by kernel_rfl) (by kernel_rfl) (fun _ _ _ h => h) (Or.inl ⟨by rfl, ?hy1⟩) hs0 ?_
      case hy1 =>
        intro u hu
        obtain ⟨u0, u1⟩ := hu
        go_simp
        try with_reducible rfl
      simp only [Act.put, List.setIfInBounds_toArray, List.set_cons_zero, List.set_cons_succ]
      refine wpAnyH_take (i := 1) (oi := { dst := some 23, op := Go.Op.nilCheck (Go.Operand.tmp 22), type := 0, pos := "queue.go:36", after := #[{ on := 0, ground := Go.Ground.data }], guard := none }) (v := ?_) rfl (by kernel_rfl) (by kernel_rfl) (by kernel_rfl) (fun _ _ _ h => h) (Or.inl ⟨by rfl, ?hy2⟩) hs0 ?_
      case hy2 =>
        intro u hu
        obtain ⟨u0, u1⟩ := hu
        go_simp
        try with_reducible rfl
      simp only [Act.put, List.setIfInBounds_toArray, List.set_cons_zero, List.set_cons_succ]
      refine wpAnyH_take (i := 2) (oi := { dst := some 24, op := Go.Op.fieldAddr 93 (Go.Operand.tmp 23) 1, type := 0, pos := "queue.go:36", after := #[{ on := 1, ground := Go.Ground.data }], guard := none }) (v := ?_) rfl (by kernel_rfl) (by kernel_rfl) (by kernel_rfl) (fun _ _ _ h => h) (Or.inl ⟨by rfl, ?hy3⟩) hs0 ?_
      case hy3 =>
        intro u hu
        obtain ⟨u0, u1⟩ := hu
        go_simp
        try with_reducible rfl
      simp only [Act.put, List.setIfInBounds_toArray, List.set_cons_zero, List.set_cons_succ]
      refine wpAnyH_take (i := 3) (oi := { dst := some 25, op := Go.Op.load 22 (Go.Operand.tmp 24), type := 22, pos := "queue.go:36", after := #[{ on := 2, ground := Go.Ground.data }], guard := none }) (v := ?_) rfl (by kernel_rfl) (by kernel_rfl) (by kernel_rfl) (fun _ _ _ h => h) (Or.inl ⟨by rfl, ?hy4⟩) hs0 ?_
      case hy4 =>
        intro u hu
        obtain ⟨u0, u1⟩ := hu
        go_simp
        try with_reducible rfl
      simp only [Act.put, List.setIfInBounds_toArray, List.set_cons_zero, List.set_cons_succ]
      refine wpAnyH_take (i := 4) (oi := { dst := some 26, op := Go.Op.move (Go.Operand.tmp 0), type := 89, pos := "queue.go:36", after := #[], guard := none }) (v := ?_) rfl (by kernel_rfl) (by kernel_rfl) (by kernel_rfl) (fun _ _ _ h => h) (Or.inl ⟨by rfl, ?hy5⟩) hs0 ?_
      case hy5 =>
        intro u hu
        obtain ⟨u0, u1⟩ := hu
        go_simp
        try with_reducible rfl
      simp only [Act.put, List.setIfInBounds_toArray, List.set_cons_zero, List.set_cons_succ]
      refine wpAnyH_take (i := 5) (oi := { dst := some 27, op := Go.Op.move (Go.Operand.tmp 0), type := 89, pos := "queue.go:36", after := #[], guard := none }) (v := ?_) rfl (by kernel_rfl) (by kernel_rfl) (by kernel_rfl) (fun _ _ _ h => h) (Or.inl ⟨by rfl, ?hy6⟩) hs0 ?_
      case hy6 =>
        intro u hu
        obtain ⟨u0, u1⟩ := hu
        go_simp
        try with_reducible rfl
      simp only [Act.put, List.setIfInBounds_toArray, List.set_cons_zero, List.set_cons_succ]
      refine wpAnyH_take (i := 6) (oi := { dst := some 28, op := Go.Op.nilCheck (Go.Operand.tmp 27), type := 0, pos := "queue.go:36", after := #[{ on := 5, ground := Go.Ground.data }], guard := none }) (v := ?_) rfl (by kernel_rfl) (by kernel_rfl) (by kernel_rfl) (fun _ _ _ h => h) (Or.inl ⟨by rfl, ?hy7⟩) hs0 ?_
      case hy7 =>
        intro u hu
        obtain ⟨u0, u1⟩ := hu
        go_simp
        try with_reducible rfl
      simp only [Act.put, List.setIfInBounds_toArray, List.set_cons_zero, List.set_cons_succ]
      refine wpAnyH_take (i := 7) (oi := { dst := some 29, op := Go.Op.fieldAddr 93 (Go.Operand.tmp 28) 3, type := 0, pos := "queue.go:36", after := #[{ on := 6, ground := Go.Ground.data }], guard := none }) (v := ?_) rfl (by kernel_rfl) (by kernel_rfl) (by kernel_rfl) (fun _ _ _ h => h) (Or.inl ⟨by rfl, ?hy8⟩) hs0 ?_
      case hy8 =>
        intro u hu
        obtain ⟨u0, u1⟩ := hu
        go_simp
        try with_reducible rfl
      simp only [Act.put, List.setIfInBounds_toArray, List.set_cons_zero, List.set_cons_succ]
      refine wpAnyH_take (i := 8) (oi := { dst := some 30, op := Go.Op.load 3 (Go.Operand.tmp 29), type := 3, pos := "queue.go:36", after := #[{ on := 7, ground := Go.Ground.data }], guard := none }) (v := ?_) rfl (by kernel_rfl) (by kernel_rfl) (by kernel_rfl) (fun _ _ _ h => h) (Or.inl ⟨by rfl, ?hy9⟩) hs0 ?_
      case hy9 =>
        intro u hu
        obtain ⟨u0, u1⟩ := hu
        go_simp
        try with_reducible rfl
      simp only [Act.put, List.setIfInBounds_toArray, List.set_cons_zero, List.set_cons_succ]
      refine wpAnyH_take (i := 10) (oi := { dst := some 32, op := Go.Op.move (Go.Operand.tmp 1), type := 3, pos := "queue.go:36", after := #[], guard := none }) (v := ?_) rfl (by kernel_rfl) (by kernel_rfl) (by kernel_rfl) (fun _ _ _ h => h) (Or.inl ⟨by rfl, ?hy10⟩) hs0 ?_
      case hy10 =>
        intro u hu
        obtain ⟨u0, u1⟩ := hu
        go_simp
        try with_reducible rfl
      simp only [Act.put, List.setIfInBounds_toArray, List.set_cons_zero, List.set_cons_succ]
      refine wpAnyH_ready (rs := [9]) (by kernel_rfl) (by simp) ?_
      refine AllReadyH.cons (o := { dst := some 31, op := Go.Op.call { callee := Go.Callee.value (Go.Operand.func 61), args := #[Go.Operand.tmp 26, Go.Operand.tmp 30], argTypes := #[89, 3] }, type := 3, pos := "queue.go:36", after := #[{ on := 4, ground := Go.Ground.data }, { on := 8, ground := Go.Ground.data }], guard := none }) rfl (fun K hK => ?_) AllReadyH.nil
      go_simp
      (with_reducible refine Calls.mono kp ?_)
      clear kp
      rintro e u2 ⟨rfl, k, rfl⟩
      refine hK.out _ _ (h1.out k) (fun _ => ?_)
      clear hK K
      try simp only [Act.put, List.setIfInBounds_toArray, List.set_cons_zero, List.set_cons_succ]
      refine wpAnyH_take (i := 11) (oi := { dst := some 33, op := Go.Op.indexAddr 22 (Go.Operand.tmp 25) (Go.Operand.tmp 31), type := 0, pos := "queue.go:36", after := #[{ on := 3, ground := Go.Ground.data }, { on := 9, ground := Go.Ground.data }, { on := 0, ground := Go.Ground.phase }, { on := 1, ground := Go.Ground.phase }, { on := 2, ground := Go.Ground.phase }, { on := 3, ground := Go.Ground.phase }, { on := 4, ground := Go.Ground.phase }, { on := 5, ground := Go.Ground.phase }, { on := 6, ground := Go.Ground.phase }, { on := 7, ground := Go.Ground.phase }, { on := 8, ground := Go.Ground.phase }, { on := 9, ground := Go.Ground.phase }, { on := 10, ground := Go.Ground.phase }], guard := none }) (v := ?_) rfl (by kernel_rfl) (by kernel_rfl) (by kernel_rfl) (fun _ _ _ h => h) (Or.inl ⟨by rfl, ?hy12⟩) (h1.out k) ?_
      case hy12 =>
        intro u hu
        obtain ⟨u0, u1⟩ := hu
        go_simp
        try with_reducible rfl
      simp only [Act.put, List.setIfInBounds_toArray, List.set_cons_zero, List.set_cons_succ]
      refine wpAnyH_ready (rs := [12]) (by kernel_rfl) (by simp) ?_
      refine AllReadyH.cons (o := { dst := none, op := Go.Op.store 3 (Go.Operand.tmp 33) (Go.Operand.tmp 32), type := 0, pos := "queue.go:36", after := #[{ on := 11, ground := Go.Ground.data }, { on := 10, ground := Go.Ground.data }, { on := 9, ground := Go.Ground.chain }, { on := 0, ground := Go.Ground.phase }, { on := 1, ground := Go.Ground.phase }, { on := 2, ground := Go.Ground.phase }, { on := 3, ground := Go.Ground.phase }, { on := 4, ground := Go.Ground.phase }, { on := 5, ground := Go.Ground.phase }, { on := 6, ground := Go.Ground.phase }, { on := 7, ground := Go.Ground.phase }, { on := 8, ground := Go.Ground.phase }, { on := 9, ground := Go.Ground.phase }, { on := 10, ground := Go.Ground.phase }], guard := none }) rfl (fun K hK => ?_) AllReadyH.nil
      go_simp
      refine hK.out _ _ (h2.out k) (fun _ => ?_)
      clear hK K
      try simp only [Act.put, List.setIfInBounds_toArray, List.set_cons_zero, List.set_cons_succ]
      refine wpAnyH_done (by kernel_rfl) ?_ _
      have d1 := h3.out
      have d2 := h4.out
      go_wp2_with fail
      go_end0
      exact ⟨rfl, HEND.out _⟩
    · have h8I : ¬ 2 * (c : Int) < 8 := by omega
      have e8 : (m : Int) = 2 * (c : Int) := by rw [HMM.out]; omega
      rw [e8] at km
      clear hm hl hcm hm2 hle h8
      go_enter Try.func46, Try.ntmps46
      go_wp2_with fail
      go_quiet (fail)
      clear e8
      go_wp2_with fail
      (with_reducible refine Calls.mono (km _) ?_)
      clear km
      rintro e W ⟨rfl, g, f1, hW, hl1, hg1, hch⟩
      have hST : QStep w W ⟨qb, .slice ao c c, most, c, first, f, L⟩ ⟨qb, .slice (some ⟨g, 0, none⟩) m m, most, m, 0, f1, L⟩ := by
        have hw1 : Qm W qb (.slice (some ⟨g, 0, none⟩) m m) most m 0 L.length f1 := by rw [← HC.out]; exact hW
        refine ⟨⟨hw1, ?_⟩, rfl, ?_, fun b hb => ?_⟩
        · show qL f1 0 m L.length = L
          rw [← HC.out, hl1, HL.out]
        · have h1 := hch.mono (G := Qd.bk ⟨qb, .slice ao c c, most, c, first, f, L⟩) (fun i _ e => .inl e)
          exact ⟨h1.os, h1.tape, h1.output, h1.size, h1.block⟩
        · rcases hb with hb | hb
          · exact .inl (.inl hb)
          · cases hb; exact .inr hg1
      rw [HL.out] at hl1
      have hcm := HW2.out
      have hm2 := HM2.out
      have hc := HCC.out
      obtain ⟨p, HP⟩ := named ((0 + c) % m)
      have hpm : p < m := by rw [HP.out]; exact Nat.mod_lt _ (by omega)
      have kp := place_any (w := W.drew) (i := c) hW.cs ⟨_, rfl⟩ (by omega) hm2 (by rcases hW.fi with h1 | ⟨h1, h2⟩; exact h1; omega) (by omega)
      rw [← HP.out] at kp
      have s1 : W.drew.cell? ⟨qb, 1, none⟩ = some (.slice (some ⟨g, 0, none⟩) m m) := hW.s1
      have s3 : W.drew.cell? ⟨qb, 3, none⟩ = some (.int .i64 c) := hW.s3
      have hgq : g ≠ qb := fun e => hW.row_ne (by rw [e]; rfl)
      obtain ⟨g', hv', hgl, -, hfz, hcell⟩ := hW.pl.at (by omega)
      cases hv'
      have ccp : W.cell? ⟨g, p, none⟩ = some (.int .i64 (f1 p)) := hcell p hpm
      have ccf : W.frozen? ⟨g, p, none⟩ = false := hfz p
      have h1 : Hid (∀ k, (W.drew.drewN k).cell? ⟨qb, 1, none⟩ = some (.slice (some ⟨g, 0, none⟩) m m) ∧ (W.drew.drewN k).cell? ⟨qb, 3, none⟩ = some (.int .i64 c)) := fun _ => ⟨s1, s3⟩
      have h2 : Hid (∀ k, ((W.setCell ⟨g, p, none⟩ (.int .i64 x)).drew.drewN k).cell? ⟨qb, 1, none⟩ = some (.slice (some ⟨g, 0, none⟩) m m) ∧ ((W.setCell ⟨g, p, none⟩ (.int .i64 x)).drew.drewN k).cell? ⟨qb, 3, none⟩ = some (.int .i64 c)) := fun k => by
        refine ⟨?_, ?_⟩
        · show (W.setCell ⟨g, p, none⟩ (.int .i64 x)).cell? ⟨qb, 1, none⟩ = _
          rw [World.cell?_setCell_far _ _ _ _ hgq]; exact s1
        · show (W.setCell ⟨g, p, none⟩ (.int .i64 x)).cell? ⟨qb, 3, none⟩ = _
          rw [World.cell?_setCell_far _ _ _ _ hgq]; exact s3
      have h3 : Hid ((W.setCell ⟨g, p, none⟩ (.int .i64 x)).cell? ⟨qb, 3, none⟩ = some (.int .i64 c)) := by
        show _ = _
        rw [World.cell?_setCell_far _ _ _ _ hgq]; exact s3
      have h4 : Hid (W.frozen? ⟨qb, 3, none⟩ = false) := frozen_of hW.cs 3
      have HEND := hide (fun k => put_end hW hl1 x hcm (by omega) HP.out hST k)
      have hpI : (p : Int) < (m : Int) := by omega
      have hcI : (0 : Int) ≤ (c : Int) := by omega
      have hcJ : (c : Int) ≤ 65536 := by omega
      have hs0 : W.drew.cell? ⟨qb, 1, none⟩ = some (.slice (some ⟨g, 0, none⟩) m m) ∧ W.drew.cell? ⟨qb, 3, none⟩ = some (.int .i64 c) := ⟨s1, s3⟩
      clear hST hW hl1 hcm hm2 hc hpm hcell hfz hg1 hch s1 s3 hgl
      go_wp2_with fail
      refine wp_region_held_drew (S := (fun u => u.cell? ⟨qb, 1, none⟩ = some (.slice (some ⟨g, 0, none⟩) m m) ∧ u.cell? ⟨qb, 3, none⟩ = some (.int .i64 c))) (by kernel_rfl) hs0 (fun _ => ?_)
      refine wpAnyH_take (i := 0) (oi := { dst := some 22, op := Go.Op.move (Go.Operand.tmp 0), type := 89, pos := "queue.go:36", after := #[], guard := none }) (v := ?_) rfl (by kernel_rfl) (by kernel_rfl) (by kernel_rfl) (fun _ _ _ h => h) (Or.inl ⟨by rfl, ?hy14⟩) hs0 ?_
      case hy14 =>
        intro u hu
        obtain ⟨u0, u1⟩ := hu
        go_simp
        try with_reducible rfl
      simp only [Act.put, List.setIfInBounds_toArray, List.set_cons_zero, List.set_cons_succ]
      refine wpAnyH_take (i := 1) (oi := { dst := some 23, op := Go.Op.nilCheck (Go.Operand.tmp 22), type := 0, pos := "queue.go:36", after := #[{ on := 0, ground := Go.Ground.data }], guard := none }) (v := ?_) rfl (by kernel_rfl) (by kernel_rfl) (by kernel_rfl) (fun _ _ _ h => h) (Or.inl ⟨by rfl, ?hy15⟩) hs0 ?_
      case hy15 =>
        intro u hu
        obtain ⟨u0, u1⟩ := hu
        go_simp
        try with_reducible rfl
      simp only [Act.put, List.setIfInBounds_toArray, List.set_cons_zero, List.set_cons_succ]
      refine wpAnyH_take (i := 2) (oi := { dst := some 24, op := Go.Op.fieldAddr 93 (Go.Operand.tmp 23) 1, type := 0, pos := "queue.go:36", after := #[{ on := 1, ground := Go.Ground.data }], guard := none }) (v := ?_) rfl (by kernel_rfl) (by kernel_rfl) (by kernel_rfl) (fun _ _ _ h => h) (Or.inl ⟨by rfl, ?hy16⟩) hs0 ?_
      case hy16 =>
        intro u hu
        obtain ⟨u0, u1⟩ := hu
        go_simp
        try with_reducible rfl
      simp only [Act.put, List.setIfInBounds_toArray, List.set_cons_zero, List.set_cons_succ]
      refine wpAnyH_take (i := 3) (oi := { dst := some 25, op := Go.Op.load 22 (Go.Operand.tmp 24), type := 22, pos := "queue.go:36", after := #[{ on := 2, ground := Go.Ground.data }], guard := none }) (v := ?_) rfl (by kernel_rfl) (by kernel_rfl) (by kernel_rfl) (fun _ _ _ h => h) (Or.inl ⟨by rfl, ?hy17⟩) hs0 ?_
      case hy17 =>
        intro u hu
        obtain ⟨u0, u1⟩ := hu
        go_simp
        try with_reducible rfl
      simp only [Act.put, List.setIfInBounds_toArray, List.set_cons_zero, List.set_cons_succ]
      refine wpAnyH_take (i := 4) (oi := { dst := some 26, op := Go.Op.move (Go.Operand.tmp 0), type := 89, pos := "queue.go:36", after := #[], guard := none }) (v := ?_) rfl (by kernel_rfl) (by kernel_rfl) (by kernel_rfl) (fun _ _ _ h => h) (Or.inl ⟨by rfl, ?hy18⟩) hs0 ?_
      case hy18 =>
        intro u hu
        obtain ⟨u0, u1⟩ := hu
        go_simp
        try with_reducible rfl
      simp only [Act.put, List.setIfInBounds_toArray, List.set_cons_zero, List.set_cons_succ]
      refine wpAnyH_take (i := 5) (oi := { dst := some 27, op := Go.Op.move (Go.Operand.tmp 0), type := 89, pos := "queue.go:36", after := #[], guard := none }) (v := ?_) rfl (by kernel_rfl) (by kernel_rfl) (by kernel_rfl) (fun _ _ _ h => h) (Or.inl ⟨by rfl, ?hy19⟩) hs0 ?_
      case hy19 =>
        intro u hu
        obtain ⟨u0, u1⟩ := hu
        go_simp
        try with_reducible rfl
      simp only [Act.put, List.setIfInBounds_toArray, List.set_cons_zero, List.set_cons_succ]
      refine wpAnyH_take (i := 6) (oi := { dst := some 28, op := Go.Op.nilCheck (Go.Operand.tmp 27), type := 0, pos := "queue.go:36", after := #[{ on := 5, ground := Go.Ground.data }], guard := none }) (v := ?_) rfl (by kernel_rfl) (by kernel_rfl) (by kernel_rfl) (fun _ _ _ h => h) (Or.inl ⟨by rfl, ?hy20⟩) hs0 ?_
      case hy20 =>
        intro u hu
        obtain ⟨u0, u1⟩ := hu
        go_simp
        try with_reducible rfl
      simp only [Act.put, List.setIfInBounds_toArray, List.set_cons_zero, List.set_cons_succ]
      refine wpAnyH_take (i := 7) (oi := { dst := some 29, op := Go.Op.fieldAddr 93 (Go.Operand.tmp 28) 3, type := 0, pos := "queue.go:36", after := #[{ on := 6, ground := Go.Ground.data }], guard := none }) (v := ?_) rfl (by kernel_rfl) (by kernel_rfl) (by kernel_rfl) (fun _ _ _ h => h) (Or.inl ⟨by rfl, ?hy21⟩) hs0 ?_
      case hy21 =>
        intro u hu
        obtain ⟨u0, u1⟩ := hu
        go_simp
        try with_reducible rfl
      simp only [Act.put, List.setIfInBounds_toArray, List.set_cons_zero, List.set_cons_succ]
      refine wpAnyH_take (i := 8) (oi := { dst := some 30, op := Go.Op.load 3 (Go.Operand.tmp 29), type := 3, pos := "queue.go:36", after := #[{ on := 7, ground := Go.Ground.data }], guard := none }) (v := ?_) rfl (by kernel_rfl) (by kernel_rfl) (by kernel_rfl) (fun _ _ _ h => h) (Or.inl ⟨by rfl, ?hy22⟩) hs0 ?_
      case hy22 =>
        intro u hu
        obtain ⟨u0, u1⟩ := hu
        go_simp
        try with_reducible rfl
      simp only [Act.put, List.setIfInBounds_toArray, List.set_cons_zero, List.set_cons_succ]
      refine wpAnyH_take (i := 10) (oi := { dst := some 32, op := Go.Op.move (Go.Operand.tmp 1), type := 3, pos := "queue.go:36", after := #[], guard := none }) (v := ?_) rfl (by kernel_rfl) (by kernel_rfl) (by kernel_rfl) (fun _ _ _ h => h) (Or.inl ⟨by rfl, ?hy23⟩) hs0 ?_
      case hy23 =>
        intro u hu
        obtain ⟨u0, u1⟩ := hu
        go_simp
        try with_reducible rfl
      simp only [Act.put, List.setIfInBounds_toArray, List.set_cons_zero, List.set_cons_succ]
      refine wpAnyH_ready (rs := [9]) (by kernel_rfl) (by simp) ?_
      refine AllReadyH.cons (o := { dst := some 31, op := Go.Op.call { callee := Go.Callee.value (Go.Operand.func 61), args := #[Go.Operand.tmp 26, Go.Operand.tmp 30], argTypes := #[89, 3] }, type := 3, pos := "queue.go:36", after := #[{ on := 4, ground := Go.Ground.data }, { on := 8, ground := Go.Ground.data }], guard := none }) rfl (fun K hK => ?_) AllReadyH.nil
      go_simp
      (with_reducible refine Calls.mono kp ?_)
      clear kp
      rintro e u2 ⟨rfl, k, rfl⟩
      refine hK.out _ _ (h1.out k) (fun _ => ?_)
      clear hK K
      try simp only [Act.put, List.setIfInBounds_toArray, List.set_cons_zero, List.set_cons_succ]
      refine wpAnyH_take (i := 11) (oi := { dst := some 33, op := Go.Op.indexAddr 22 (Go.Operand.tmp 25) (Go.Operand.tmp 31), type := 0, pos := "queue.go:36", after := #[{ on := 3, ground := Go.Ground.data }, { on := 9, ground := Go.Ground.data }, { on := 0, ground := Go.Ground.phase }, { on := 1, ground := Go.Ground.phase }, { on := 2, ground := Go.Ground.phase }, { on := 3, ground := Go.Ground.phase }, { on := 4, ground := Go.Ground.phase }, { on := 5, ground := Go.Ground.phase }, { on := 6, ground := Go.Ground.phase }, { on := 7, ground := Go.Ground.phase }, { on := 8, ground := Go.Ground.phase }, { on := 9, ground := Go.Ground.phase }, { on := 10, ground := Go.Ground.phase }], guard := none }) (v := ?_) rfl (by kernel_rfl) (by kernel_rfl) (by kernel_rfl) (fun _ _ _ h => h) (Or.inl ⟨by rfl, ?hy25⟩) (h1.out k) ?_
      case hy25 =>
        intro u hu
        obtain ⟨u0, u1⟩ := hu
        go_simp
        try with_reducible rfl
      simp only [Act.put, List.setIfInBounds_toArray, List.set_cons_zero, List.set_cons_succ]
      refine wpAnyH_ready (rs := [12]) (by kernel_rfl) (by simp) ?_
      refine AllReadyH.cons (o := { dst := none, op := Go.Op.store 3 (Go.Operand.tmp 33) (Go.Operand.tmp 32), type := 0, pos := "queue.go:36", after := #[{ on := 11, ground := Go.Ground.data }, { on := 10, ground := Go.Ground.data }, { on := 9, ground := Go.Ground.chain }, { on := 0, ground := Go.Ground.phase }, { on := 1, ground := Go.Ground.phase }, { on := 2, ground := Go.Ground.phase }, { on := 3, ground := Go.Ground.phase }, { on := 4, ground := Go.Ground.phase }, { on := 5, ground := Go.Ground.phase }, { on := 6, ground := Go.Ground.phase }, { on := 7, ground := Go.Ground.phase }, { on := 8, ground := Go.Ground.phase }, { on := 9, ground := Go.Ground.phase }, { on := 10, ground := Go.Ground.phase }], guard := none }) rfl (fun K hK => ?_) AllReadyH.nil
      go_simp
      refine hK.out _ _ (h2.out k) (fun _ => ?_)
      clear hK K
      try simp only [Act.put, List.setIfInBounds_toArray, List.set_cons_zero, List.set_cons_succ]
      refine wpAnyH_done (by kernel_rfl) ?_ _
      have d1 := h3.out
      have d2 := h4.out
      go_wp2_with fail
      go_end0
      exact ⟨rfl, HEND.out _⟩
  · have hcm : c < n := by omega
    have hg : ∃ g, Value.slice ao n n = .slice (some ⟨g, 0, none⟩) n n := by
      obtain ⟨g, hv, -⟩ := hm.pl.at (by omega)
      exact ⟨g, hv⟩
    obtain ⟨g, hv⟩ := hg
    cases hv
    have hcnI : ¬ (c : Int) = (n : Int) := by omega
    have hcnB : ((c : Int) == (n : Int)) = false := beq_eq_false_iff_ne.2 (by omega)
    have key : ∀ j, Hid (Qm (w.drewN j) qb (.slice (some ⟨g, 0, none⟩) n n) most n first c f ∧ QStep w (w.drewN j) ⟨qb, .slice (some ⟨g, 0, none⟩) n n, most, n, first, f, L⟩ ⟨qb, .slice (some ⟨g, 0, none⟩) n n, most, n, first, f, L⟩) := fun j =>
      have hq : Qm (w.drewN j) qb (.slice (some ⟨g, 0, none⟩) n n) most n first c f := ⟨hm.cs, hm.pl.heap fun _ _ => rfl, hm.fi, hm.le, hm.mo, hm.cm⟩
      ⟨hq, ⟨⟨by simp only [← HC.out]; exact hq, by simp only [← HC.out]; exact hl⟩, rfl, Chg.ofBelow (drewN_below w j) _, fun b hb => .inl hb⟩⟩
    clear hm hle hcn
    go_enter Try.func46, Try.ntmps46
    go_wp2_with fail
    go_quiet (fail)
    rename_i nq
    obtain ⟨W, HWW⟩ := named (w.drewN nq)
    obtain ⟨hW, hST⟩ := (key nq).out
    rw [← HWW.out] at hW hST
    have hl1 := hl
    have hm2 := hn2
    go_wp2_with (rw [← HWW.out])
    obtain ⟨p, HP⟩ := named ((first + c) % n)
    have hpm : p < n := by rw [HP.out]; exact Nat.mod_lt _ (by omega)
    have kp := place_any (w := W.drew) (i := c) hW.cs ⟨_, rfl⟩ (by omega) hm2 (by rcases hW.fi with h1 | ⟨h1, h2⟩; exact h1; omega) (by omega)
    rw [← HP.out] at kp
    have s1 : W.drew.cell? ⟨qb, 1, none⟩ = some (.slice (some ⟨g, 0, none⟩) n n) := hW.s1
    have s3 : W.drew.cell? ⟨qb, 3, none⟩ = some (.int .i64 c) := hW.s3
    have hgq : g ≠ qb := fun e => hW.row_ne (by rw [e]; rfl)
    obtain ⟨g', hv', hgl, -, hfz, hcell⟩ := hW.pl.at (by omega)
    cases hv'
    have ccp : W.cell? ⟨g, p, none⟩ = some (.int .i64 (f p)) := hcell p hpm
    have ccf : W.frozen? ⟨g, p, none⟩ = false := hfz p
    have h1 : Hid (∀ k, (W.drew.drewN k).cell? ⟨qb, 1, none⟩ = some (.slice (some ⟨g, 0, none⟩) n n) ∧ (W.drew.drewN k).cell? ⟨qb, 3, none⟩ = some (.int .i64 c)) := fun _ => ⟨s1, s3⟩
    have h2 : Hid (∀ k, ((W.setCell ⟨g, p, none⟩ (.int .i64 x)).drew.drewN k).cell? ⟨qb, 1, none⟩ = some (.slice (some ⟨g, 0, none⟩) n n) ∧ ((W.setCell ⟨g, p, none⟩ (.int .i64 x)).drew.drewN k).cell? ⟨qb, 3, none⟩ = some (.int .i64 c)) := fun k => by
      refine ⟨?_, ?_⟩
      · show (W.setCell ⟨g, p, none⟩ (.int .i64 x)).cell? ⟨qb, 1, none⟩ = _
        rw [World.cell?_setCell_far _ _ _ _ hgq]; exact s1
      · show (W.setCell ⟨g, p, none⟩ (.int .i64 x)).cell? ⟨qb, 3, none⟩ = _
        rw [World.cell?_setCell_far _ _ _ _ hgq]; exact s3
    have h3 : Hid ((W.setCell ⟨g, p, none⟩ (.int .i64 x)).cell? ⟨qb, 3, none⟩ = some (.int .i64 c)) := by
      show _ = _
      rw [World.cell?_setCell_far _ _ _ _ hgq]; exact s3
    have h4 : Hid (W.frozen? ⟨qb, 3, none⟩ = false) := frozen_of hW.cs 3
    have HEND := hide (fun k => put_end hW hl1 x hcm (by omega) HP.out hST k)
    have hpI : (p : Int) < (n : Int) := by omega
    have hcI : (0 : Int) ≤ (c : Int) := by omega
    have hcJ : (c : Int) ≤ 65536 := by omega
    have hs0 : W.drew.cell? ⟨qb, 1, none⟩ = some (.slice (some ⟨g, 0, none⟩) n n) ∧ W.drew.cell? ⟨qb, 3, none⟩ = some (.int .i64 c) := ⟨s1, s3⟩
    clear hST hW hl1 hcm hm2 hc hpm hcell hfz s1 s3 hgl key hl hn2 t1 t3 hcnI hcnB
    refine wp_region_held_drew (S := (fun u => u.cell? ⟨qb, 1, none⟩ = some (.slice (some ⟨g, 0, none⟩) n n) ∧ u.cell? ⟨qb, 3, none⟩ = some (.int .i64 c))) (by kernel_rfl) hs0 (fun _ => ?_)
    refine wpAnyH_take (i := 0) (oi := { dst := some 22, op := Go.Op.move (Go.Operand.tmp 0), type := 89, pos := "queue.go:36", after := #[], guard := none }) (v := ?_) rfl (by kernel_rfl) (by kernel_rfl) (by kernel_rfl) (fun _ _ _ h => h) (Or.inl ⟨by rfl, ?hy27⟩) hs0 ?_
    case hy27 =>
      intro u hu
      obtain ⟨u0, u1⟩ := hu
      go_simp
      try with_reducible rfl
    simp only [Act.put, List.setIfInBounds_toArray, List.set_cons_zero, List.set_cons_succ]
    refine wpAnyH_take (i := 1) (oi := { dst := some 23, op := Go.Op.nilCheck (Go.Operand.tmp 22), type := 0, pos := "queue.go:36", after := #[{ on := 0, ground := Go.Ground.data }], guard := none }) (v := ?_) rfl (by kernel_rfl) (by kernel_rfl) (by kernel_rfl) (fun _ _ _ h => h) (Or.inl ⟨by rfl, ?hy28⟩) hs0 ?_
    case hy28 =>
      intro u hu
      obtain ⟨u0, u1⟩ := hu
      go_simp
      try with_reducible rfl
    simp only [Act.put, List.setIfInBounds_toArray, List.set_cons_zero, List.set_cons_succ]
    refine wpAnyH_take (i := 2) (oi := { dst := some 24, op := Go.Op.fieldAddr 93 (Go.Operand.tmp 23) 1, type := 0, pos := "queue.go:36", after := #[{ on := 1, ground := Go.Ground.data }], guard := none }) (v := ?_) rfl (by kernel_rfl) (by kernel_rfl) (by kernel_rfl) (fun _ _ _ h => h) (Or.inl ⟨by rfl, ?hy29⟩) hs0 ?_
    case hy29 =>
      intro u hu
      obtain ⟨u0, u1⟩ := hu
      go_simp
      try with_reducible rfl
    simp only [Act.put, List.setIfInBounds_toArray, List.set_cons_zero, List.set_cons_succ]
    refine wpAnyH_take (i := 3) (oi := { dst := some 25, op := Go.Op.load 22 (Go.Operand.tmp 24), type := 22, pos := "queue.go:36", after := #[{ on := 2, ground := Go.Ground.data }], guard := none }) (v := ?_) rfl (by kernel_rfl) (by kernel_rfl) (by kernel_rfl) (fun _ _ _ h => h) (Or.inl ⟨by rfl, ?hy30⟩) hs0 ?_
    case hy30 =>
      intro u hu
      obtain ⟨u0, u1⟩ := hu
      go_simp
      try with_reducible rfl
    simp only [Act.put, List.setIfInBounds_toArray, List.set_cons_zero, List.set_cons_succ]
    refine wpAnyH_take (i := 4) (oi := { dst := some 26, op := Go.Op.move (Go.Operand.tmp 0), type := 89, pos := "queue.go:36", after := #[], guard := none }) (v := ?_) rfl (by kernel_rfl) (by kernel_rfl) (by kernel_rfl) (fun _ _ _ h => h) (Or.inl ⟨by rfl, ?hy31⟩) hs0 ?_
    case hy31 =>
      intro u hu
      obtain ⟨u0, u1⟩ := hu
      go_simp
      try with_reducible rfl
    simp only [Act.put, List.setIfInBounds_toArray, List.set_cons_zero, List.set_cons_succ]
    refine wpAnyH_take (i := 5) (oi := { dst := some 27, op := Go.Op.move (Go.Operand.tmp 0), type := 89, pos := "queue.go:36", after := #[], guard := none }) (v := ?_) rfl (by kernel_rfl) (by kernel_rfl) (by kernel_rfl) (fun _ _ _ h => h) (Or.inl ⟨by rfl, ?hy32⟩) hs0 ?_
    case hy32 =>
      intro u hu
      obtain ⟨u0, u1⟩ := hu
      go_simp
      try with_reducible rfl
    simp only [Act.put, List.setIfInBounds_toArray, List.set_cons_zero, List.set_cons_succ]
    refine wpAnyH_take (i := 6) (oi := { dst := some 28, op := Go.Op.nilCheck (Go.Operand.tmp 27), type := 0, pos := "queue.go:36", after := #[{ on := 5, ground := Go.Ground.data }], guard := none }) (v := ?_) rfl (by kernel_rfl) (by kernel_rfl) (by kernel_rfl) (fun _ _ _ h => h) (Or.inl ⟨by rfl, ?hy33⟩) hs0 ?_
    case hy33 =>
      intro u hu
      obtain ⟨u0, u1⟩ := hu
      go_simp
      try with_reducible rfl
    simp only [Act.put, List.setIfInBounds_toArray, List.set_cons_zero, List.set_cons_succ]
    refine wpAnyH_take (i := 7) (oi := { dst := some 29, op := Go.Op.fieldAddr 93 (Go.Operand.tmp 28) 3, type := 0, pos := "queue.go:36", after := #[{ on := 6, ground := Go.Ground.data }], guard := none }) (v := ?_) rfl (by kernel_rfl) (by kernel_rfl) (by kernel_rfl) (fun _ _ _ h => h) (Or.inl ⟨by rfl, ?hy34⟩) hs0 ?_
    case hy34 =>
      intro u hu
      obtain ⟨u0, u1⟩ := hu
      go_simp
      try with_reducible rfl
    simp only [Act.put, List.setIfInBounds_toArray, List.set_cons_zero, List.set_cons_succ]
    refine wpAnyH_take (i := 8) (oi := { dst := some 30, op := Go.Op.load 3 (Go.Operand.tmp 29), type := 3, pos := "queue.go:36", after := #[{ on := 7, ground := Go.Ground.data }], guard := none }) (v := ?_) rfl (by kernel_rfl) (by kernel_rfl) (by kernel_rfl) (fun _ _ _ h => h) (Or.inl ⟨by rfl, ?hy35⟩) hs0 ?_
    case hy35 =>
      intro u hu
      obtain ⟨u0, u1⟩ := hu
      go_simp
      try with_reducible rfl
    simp only [Act.put, List.setIfInBounds_toArray, List.set_cons_zero, List.set_cons_succ]
    refine wpAnyH_take (i := 10) (oi := { dst := some 32, op := Go.Op.move (Go.Operand.tmp 1), type := 3, pos := "queue.go:36", after := #[], guard := none }) (v := ?_) rfl (by kernel_rfl) (by kernel_rfl) (by kernel_rfl) (fun _ _ _ h => h) (Or.inl ⟨by rfl, ?hy36⟩) hs0 ?_
    case hy36 =>
      intro u hu
      obtain ⟨u0, u1⟩ := hu
      go_simp
      try with_reducible rfl
    simp only [Act.put, List.setIfInBounds_toArray, List.set_cons_zero, List.set_cons_succ]
    refine wpAnyH_ready (rs := [9]) (by kernel_rfl) (by simp) ?_
    refine AllReadyH.cons (o := { dst := some 31, op := Go.Op.call { callee := Go.Callee.value (Go.Operand.func 61), args := #[Go.Operand.tmp 26, Go.Operand.tmp 30], argTypes := #[89, 3] }, type := 3, pos := "queue.go:36", after := #[{ on := 4, ground := Go.Ground.data }, { on := 8, ground := Go.Ground.data }], guard := none }) rfl (fun K hK => ?_) AllReadyH.nil
    go_simp
    (with_reducible refine Calls.mono kp ?_)
    clear kp
    rintro e u2 ⟨rfl, k, rfl⟩
    refine hK.out _ _ (h1.out k) (fun _ => ?_)
    clear hK K
    try simp only [Act.put, List.setIfInBounds_toArray, List.set_cons_zero, List.set_cons_succ]
    refine wpAnyH_take (i := 11) (oi := { dst := some 33, op := Go.Op.indexAddr 22 (Go.Operand.tmp 25) (Go.Operand.tmp 31), type := 0, pos := "queue.go:36", after := #[{ on := 3, ground := Go.Ground.data }, { on := 9, ground := Go.Ground.data }, { on := 0, ground := Go.Ground.phase }, { on := 1, ground := Go.Ground.phase }, { on := 2, ground := Go.Ground.phase }, { on := 3, ground := Go.Ground.phase }, { on := 4, ground := Go.Ground.phase }, { on := 5, ground := Go.Ground.phase }, { on := 6, ground := Go.Ground.phase }, { on := 7, ground := Go.Ground.phase }, { on := 8, ground := Go.Ground.phase }, { on := 9, ground := Go.Ground.phase }, { on := 10, ground := Go.Ground.phase }], guard := none }) (v := ?_) rfl (by kernel_rfl) (by kernel_rfl) (by kernel_rfl) (fun _ _ _ h => h) (Or.inl ⟨by rfl, ?hy38⟩) (h1.out k) ?_
    case hy38 =>
      intro u hu
      obtain ⟨u0, u1⟩ := hu
      go_simp
      try with_reducible rfl
    simp only [Act.put, List.setIfInBounds_toArray, List.set_cons_zero, List.set_cons_succ]
    refine wpAnyH_ready (rs := [12]) (by kernel_rfl) (by simp) ?_
    refine AllReadyH.cons (o := { dst := none, op := Go.Op.store 3 (Go.Operand.tmp 33) (Go.Operand.tmp 32), type := 0, pos := "queue.go:36", after := #[{ on := 11, ground := Go.Ground.data }, { on := 10, ground := Go.Ground.data }, { on := 9, ground := Go.Ground.chain }, { on := 0, ground := Go.Ground.phase }, { on := 1, ground := Go.Ground.phase }, { on := 2, ground := Go.Ground.phase }, { on := 3, ground := Go.Ground.phase }, { on := 4, ground := Go.Ground.phase }, { on := 5, ground := Go.Ground.phase }, { on := 6, ground := Go.Ground.phase }, { on := 7, ground := Go.Ground.phase }, { on := 8, ground := Go.Ground.phase }, { on := 9, ground := Go.Ground.phase }, { on := 10, ground := Go.Ground.phase }], guard := none }) rfl (fun K hK => ?_) AllReadyH.nil
    go_simp
    refine hK.out _ _ (h2.out k) (fun _ => ?_)
    clear hK K
    try simp only [Act.put, List.setIfInBounds_toArray, List.set_cons_zero, List.set_cons_succ]
    refine wpAnyH_done (by kernel_rfl) ?_ _
    have d1 := h3.out
    have d2 := h4.out
    go_wp2_with fail
    go_end0
    exact ⟨rfl, HEND.out _⟩
end Go.Proofs.Ytdbbdecmfnajiaa
