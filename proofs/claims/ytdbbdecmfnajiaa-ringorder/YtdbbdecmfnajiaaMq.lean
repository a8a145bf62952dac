/-
  The contract of Names. Own work.
-/
import Derived.Test.YtdbbdecmfnajiaaMp
import Derived.Sort.OwnSorted
namespace Go.Proofs.Ytdbbdecmfnajiaa
open Go.RowKit Go.Sort

/-- a slice of the call's own that holds these texts -/
def OwnS (w : World) (base : Nat) (v : Value) (l : List (List UInt8)) : Prop := w.ownsRow base 9 1 v l.length (l.map encStr)
theorem OwnS.nil (w : World) (base : Nat) : OwnS w base (.slice none 0 0) [] := World.ownsRow_nil _ _ _ _
theorem OwnS.lt {w : World} {base : Nat} {v : Value} {l : List (List UInt8)} (h : OwnS w base v l) (k : Nat) (hk : v.ownBlock = some k) : base ≤ k ∧ k < w.heap.size := World.ownsRow.lt h k hk
theorem OwnS.heap {w w' : World} {base : Nat} {v : Value} {l : List (List UInt8)} (h : OwnS w base v l) (hk : ∀ a, v.ownBlock = some a → w'.heap[a]? = w.heap[a]?) : OwnS w' base v l := by
  refine ⟨h.1, ?_⟩
  rcases h.2 with h2 | ⟨g, cap, cur, hv, hb2, hg, r⟩
  · exact .inl h2
  · exact .inr ⟨g, cap, cur, hv, hb2, by rw [hk g (by rw [hv]; rfl)]; exact hg, r⟩
theorem OwnS.below {w w' : World} {base : Nat} {v : Value} {l : List (List UInt8)} (h : OwnS w base v l) (hb : Below w.heap.size w w') : OwnS w' base v l := h.heap fun a ha => hb.block a (h.lt a ha).2
theorem OwnS.elem {w : World} {base : Nat} {v : Value} {l : List (List UInt8)} (h : OwnS w base v l) (a : Nat) (ha : v.ownBlock = some a) : ∃ cur, w.heap[a]? = some (.cells cur 9 (0, 0)) := by
  rcases h.2 with ⟨rfl, _⟩ | ⟨g, cap, cur, rfl, _, hg, _⟩
  · cases ha
  · cases ha; exact ⟨cur, hg⟩
theorem OwnS.shape {w : World} {base : Nat} {v : Value} {l : List (List UInt8)} (h : OwnS w base v l) : ∃ ao cap, v = .slice ao l.length cap := by
  rcases h.2 with ⟨rfl, e⟩ | ⟨g, cap, cur, rfl, _, hg, _⟩
  · exact ⟨none, 0, by rw [e]⟩
  · exact ⟨_, _, rfl⟩
theorem enc_of (s : ByteArray) : encStr s.data.toList = .string s := by unfold encStr; cases s; rfl
theorem OwnS.append1 {w : World} {base : Nat} {v : Value} {l : List (List UInt8)} (h : OwnS w base v l) (s : ByteArray) (hl : l.length ≤ 1000000) (hb : base ≤ w.heap.size) (g : Nat) (hg : w.cell? ⟨g, 0, none⟩ = some (.string s)) (ty : TypeId) :
    ∃ v' w', (Builtin.append_ #[31, 31] ty #[v, .slice (some ⟨g, 0, none⟩) 1 1]).run Try.prog w = .ok v' w' ∧ OwnS w' base v' (l ++ [s.data.toList]) ∧ w.grownBy w' v.ownBlock ∧ (v'.ownBlock = v.ownBlock ∨ v'.ownBlock = some w.heap.size) := by
  obtain ⟨i0, hinf, hz0, hz1, hz2⟩ := info_parts Try.info9
  obtain ⟨v', w', hr, ho, hg', hblk⟩ := run_append_own' (P := Try.prog) w base 31 ty 9 i0 (.string ⟨#[]⟩) 1 16 Try.underlying31 hinf hz0 hz1 hz2 rfl (by decide) v l.length (l.map encStr) h
    ⟨g, 0, none⟩ 1 1 [.string s] rfl (fun j u hj => by
      cases j with
      | zero => simp at hj; subst hj; rw [add_at]; exact hg
      | succ j => simp at hj) (by intro u hu; simp at hu; subst hu; rfl) (by unfold maxLen; omega) (by omega) hb
  refine ⟨v', w', hr, ?_, hg', hblk⟩
  unfold OwnS
  rw [List.map_append, List.length_append, List.map_cons, enc_of]
  exact ho

theorem Rng.iter {w : World} {b r m cnt : Nat} {l : MF} {left : ByteArray → Bool} (h : Rng w b r m l left cnt) : ∃ o s se c, w.heap[r]? = some (.mapIter o s se c) := by
  obtain ⟨D, lf, ⟨_, _, _, _, _, _, _, _, _, hit, _⟩, -⟩ := h
  exact ⟨_, _, _, _, hit⟩
theorem OwnS.not_iter {w : World} {base : Nat} {v : Value} {l : List (List UInt8)} (h : OwnS w base v l) {r : Nat} {o : Option Nat} {s c : Nat} {se : Array Nat} (hr : w.heap[r]? = some (.mapIter o s se c)) : some r ≠ v.ownBlock := by
  intro e
  obtain ⟨cur, hc⟩ := h.elem r e.symm
  rw [hr] at hc; cases hc
theorem OwnS.not_map {w : World} {base : Nat} {v : Value} {l : List (List UInt8)} (h : OwnS w base v l) {r c : Nat} {es : Array MapEntry} (hr : w.heap[r]? = some (.map es c)) : some r ≠ v.ownBlock := by
  intro e
  obtain ⟨cur, hc⟩ := h.elem r e.symm
  rw [hr] at hc; cases hc

/-- the names of all that have numbers, rising -/
structure NamesOf (A : PR) (N : List (List UInt8)) : Prop where
  nd : N.Nodup
  mem : ∀ s : ByteArray, s.data.toList ∈ N ↔ lA A s ≠ []
  srt : N.Pairwise fun x y => decide (x ≤ y) = true

/-- the names met up to here -/
structure NI (w0 u : World) (mb rb' m : Nat) (E : EM) (A : PR) (v : Value) (ss : List (List UInt8)) (left : ByteArray → Bool) (cnt : Nat) : Prop where
  rng : Rng u mb rb' m (ptrs E) left cnt
  be : Below w0.heap.size w0 u
  ow : OwnS u w0.heap.size v ss
  nd : ss.Nodup
  mem : ∀ s : ByteArray, s.data.toList ∈ ss ↔ lA A s ≠ [] ∧ left s = false
  ln : ss.length + cnt ≤ m
  ge : w0.heap.size ≤ rb'
  lf : ∀ s, left s = true → (E s).isSome

theorem sorted_names (ss : List (List UInt8)) : (ss.mergeSort fun x y => decide (x ≤ y)).Pairwise fun x y => decide (x ≤ y) = true :=
  List.pairwise_mergeSort (fun a b c h1 h2 => by
    simp only [decide_eq_true_eq] at h1 h2 ⊢
    exact List.le_trans h1 h2) (fun a b => by
    simp only [Bool.or_eq_true, decide_eq_true_eq]
    exact List.le_total a b) ss

theorem NI.done {w0 u : World} {mb rb' m cnt : Nat} {E : EM} {A : PR} {v : Value} {ss : List (List UInt8)} {left : ByteArray → Bool} (h : NI w0 u mb rb' m E A v ss left cnt) (hA : ∀ s, A s = (E s).map fun q => (q.most, q.L)) (hrt : ∀ s q, E s = some q → right s) (hl : ∀ s : ByteArray, s.size ≤ maxLen → left s = false) :
    NamesOf A (ss.mergeSort fun x y => decide (x ≤ y)) := by
  refine ⟨(List.mergeSort_perm ss _).nodup_iff.2 h.nd, fun s => ?_, sorted_names ss⟩
  rw [List.mem_mergeSort, h.mem s]
  refine ⟨fun h => h.1, fun hne => ⟨hne, ?_⟩⟩
  have : ∃ q, E s = some q := by
    unfold lA at hne
    rw [hA] at hne
    cases hE : E s with
    | none => rw [hE] at hne; exact absurd rfl hne
    | some q => exact ⟨q, rfl⟩
  obtain ⟨q, hq⟩ := this
  exact hl s (hrt s q hq).max

set_option maxRecDepth 100000 in
set_option maxHeartbeats 3200000 in
theorem names_r {w : World} {r : Value} {most : Int} {m : Nat} {A : PR} {F : Nat → Prop} (h : Rg w r most m A F) :
    Calls Try.prog 16 #[r] w fun e w' => ∃ v N, e = .returned v ∧ OwnS w' w.heap.size v N ∧ NamesOf A N ∧ N.length ≤ 1000 ∧ Below w.heap.size w w' := by
  obtain ⟨rb, sb, mb, E, rfl, h2, h3, h4, h5⟩ := h
  have km := made_yes w rb sb h2.r0
  have r0 := h2.r0
  have s1 := h2.s1
  obtain ⟨w1, hr0, hrg, hg1, hz1⟩ := h2.hm.range mt70
  have hb1 : Below w.heap.size w w1 := (Below.refl _ w).grown hg1 (Nat.le_refl _) fun k e => by cases e
  have HN0 : Hid (NI w w1 mb w.heap.size m E A (.slice none 0 0) [] (fun s => (ptrs E s).isSome && decide (s.size ≤ maxLen)) m) :=
    ⟨hrg, hb1, OwnS.nil _ _, List.nodup_nil, fun s => by
      simp only [List.not_mem_nil, false_iff]
      rintro ⟨hne, hf⟩
      unfold lA at hne
      rw [h3] at hne
      cases hE : E s with
      | none => rw [hE] at hne; exact hne rfl
      | some q =>
        have hsz := (h2.rt s q hE).max
        rw [ptrs_some, hE] at hf
        simp [hsz] at hf, by simp, Nat.le_refl _, fun s hs => by
      simp only [Bool.and_eq_true] at hs
      rw [← ptrs_some]; exact hs.1⟩
  have H2 := hide h2
  have HA := hide h3
  have hm1000 := h2.many
  clear h2 h3 h4 h5 hrg hb1 hg1 hz1
  go_enter Try.func16, Try.ntmps16
  go_wp2_with fail
  (with_reducible refine Calls.mono km ?_)
  clear km
  rintro e u ⟨rfl, hu⟩
  have hu := hu.symm
  subst hu
  go_wp2_with fail
  clear hr0
  go_loopw [3] (fun nv wr => ∃ ss left cnt, Hid (NI w wr mb w.heap.size m E A nv ss left cnt)) (fun _ wr => wr.rangeLeft mb w.heap.size)
  case atStart => exact ⟨_, _, _, HN0⟩
  case round =>
    obtain ⟨ss, left, cnt, HN⟩ := hrel
    clear HN0
    obtain ⟨ao, cap, rfl⟩ := HN.out.ow.shape
    have hsl := HN.out.ln
    rcases HN.out.rng.next 0 with ⟨hc0, hl, hrun⟩ | ⟨s, pv, u, cnt', hs, hls, hE, hrun, hrg, hlt, hgr, hsz, hen⟩
    · have hdone := HN.out.done HA.out H2.out.rt hl
      obtain ⟨N, HNN⟩ := named (ss.mergeSort fun x y => decide (x ≤ y))
      rw [← HNN.out] at hdone
      have HD := hide hdone
      have hlen : N.length = ss.length := by rw [HNN.out]; simp
      have hks : Calls Try.prog 48 #[.slice ao ss.length cap] wr fun e w' => e = .returned (.tuple #[]) ∧ OwnS w' w.heap.size (.slice ao ss.length cap) N ∧ Below w.heap.size w w' := by
        have how := HN.out.ow
        rcases how.2 with ⟨hv, hn0⟩ | ⟨g, cap', cur, hv, hbase, hb, k1, k2, k3, k4⟩
        · have : ss = [] := List.eq_nil_of_length_eq_zero (by simpa using hn0)
          subst this
          cases hv
          refine (Try.slices_Sort_string_none none 0 wr).mono ?_
          rintro e w' ⟨rfl, rfl⟩
          have hN : N = [] := List.eq_nil_of_length_eq_zero (by rw [hlen]; rfl)
          rw [hN]
          exact ⟨rfl, OwnS.nil _ _, HN.out.be⟩
        · cases hv
          refine (Try.slices_Sort_string g 0 cap ss wr (holds_of_block hb (by simpa using k4)) (lt_of hb) (by omega)).mono ?_
          rintro e w' ⟨rfl, n, os, rfl⟩
          rw [← HNN.out]
          refine ⟨rfl, ?_, HN.out.be.grown (grownBy_sorted _) HN.out.be.size fun k e => by cases e; exact hbase⟩
          have := ownsRow_sorted (n := n) (os := os) hlen hbase hb k1 k2 k3
          unfold OwnS
          rw [hlen]
          exact this
      have HLEN : Hid (N.length ≤ 1000) := by show _ ≤ _; rw [hlen]; omega
      clear hl hdone hlen hsl
      go_wp2_with fail
      (with_reducible refine Calls.mono hks ?_)
      clear hks
      rintro e w' ⟨rfl, ho, hb⟩
      have HO := hide ho
      have HB := hide hb
      clear ho hb
      go_wp2_with fail
      go_ret
      exact ⟨_, N, rfl, HO.out, HD.out, HLEN.out, HB.out⟩
    · obtain ⟨q, hq, rfl⟩ : ∃ q, E s = some q ∧ pv = .pointer (some ⟨q.qb, 0, none⟩) := by
        unfold ptrs at hE
        cases hEs : E s with
        | none => rw [hEs] at hE; cases hE
        | some q => rw [hEs] at hE; exact ⟨q, rfl, (Option.some.inj hE).symm⟩
      have hbu : Below w.heap.size w u := HN.out.be.grown hgr HN.out.be.size fun k e => by cases e; exact Nat.le_refl _
      have hqm := (H2.out.below hbu).hq s q hq
      have q3 := hqm.1.s3
      have hAs : lA A s = q.L := by unfold lA; rw [HA.out, hq]; rfl
      have hms := HN.out.rng.left_eq
      have howu : OwnS u w.heap.size (.slice ao ss.length cap) ss := HN.out.ow.heap fun a ha => hgr.block a (HN.out.ow.lt a ha).2 (fun e => by
        obtain ⟨o, s', se, c, hit⟩ := HN.out.rng.iter
        exact HN.out.ow.not_iter hit (e.symm.trans ha.symm))
      have hnot : s.data.toList ∉ ss := fun hm => by
        have := ((HN.out.mem s).1 hm).2
        rw [hls] at this; cases this
      have hmem : ∀ t : ByteArray, (left t && decide (t ≠ s)) = false ↔ (left t = false ∨ t = s) := fun t => by
        by_cases e : t = s <;> simp [e]
      by_cases hL : q.L = []
      · have hnext : NI w u mb w.heap.size m E A (.slice ao ss.length cap) ss (fun x => left x && decide (x ≠ s)) cnt' := ⟨hrg, hbu, howu, HN.out.nd, fun t => by
          rw [HN.out.mem t, hmem]
          refine ⟨fun h => ⟨h.1, .inl h.2⟩, fun h => ⟨h.1, h.2.resolve_right fun e => ?_⟩⟩
          subst e
          rw [hAs] at h
          exact h.1 hL, by have := HN.out.ln; omega, HN.out.ge, fun t ht => HN.out.lf t (by simp only [Bool.and_eq_true] at ht; exact ht.1)⟩
        have HX := hide hnext
        rw [hL, List.length_nil] at q3
        have hml : u.rangeLeft mb w.heap.size < wr.rangeLeft mb w.heap.size := by rw [hms, hrg.left_eq]; exact hlt
        clear hnext hmem hnot howu hms hqm hrg hbu hgr hls hE hsz hL hAs
        go_wp2_with fail
        go_roundw
        case rel => exact ⟨_, _, _, HX⟩
        case measure => exact hml
      · have hpos : 0 < q.L.length := List.length_pos_iff.2 hL
        have hposI : (0 : Int) < (q.L.length : Int) := by omega
        obtain ⟨X, HX⟩ := named (u.alloc (.cells #[.string s] 9))
        have hbX : Below u.heap.size u X := by rw [HX.out]; exact (Below.refl _ _).alloc (Nat.le_refl _) _
        have hcX : X.heap[u.heap.size]? = some (.cells #[.string s] 9 (0, 0)) := by rw [HX.out]; exact heap_new u _
        obtain ⟨v', u2, hr, ho2, hg2, -⟩ := (howu.below hbX).append1 s (by omega) (Nat.le_trans hbu.size hbX.size) u.heap.size (by rw [cell_of hcX]; rfl) 31
        have hgX : u.grownBy X none := by rw [HX.out]; exact World.grownBy_alloc u _ none
        obtain ⟨es, ck, hmm⟩ := hrg.mp.isMap
        obtain ⟨o, s', se, c', hit⟩ := hrg.iter
        have hrX : Rng X mb w.heap.size m (ptrs E) (fun x => left x && decide (x ≠ s)) cnt' := hrg.kept hgX (by simp) (by simp)
        have hr2 : Rng u2 mb w.heap.size m (ptrs E) (fun x => left x && decide (x ≠ s)) cnt' := hrX.kept hg2 (howu.not_map hmm) (howu.not_iter hit)
        have hbX2 : Below w.heap.size w X := hbu.trans (hbX.mono hbu.size)
        have hb2 : Below w.heap.size w u2 := hbX2.grown hg2 hbX2.size fun k e => ((howu.below hbX).lt k e).1
        have hnext : NI w u2 mb w.heap.size m E A v' (ss ++ [s.data.toList]) (fun x => left x && decide (x ≠ s)) cnt' := ⟨hr2, hb2, ho2, by
            rw [List.nodup_append]
            exact ⟨HN.out.nd, by simp, fun a ha b hb e => by simp only [List.mem_singleton] at hb; subst hb; subst e; exact hnot ha⟩, fun t => by
          rw [List.mem_append, HN.out.mem t, hmem, List.mem_singleton]
          constructor
          · rintro (h | h)
            · exact ⟨h.1, .inl h.2⟩
            · have : t = s := lit_inj (by unfold lit; rw [h])
              exact ⟨by rw [this, hAs]; exact hL, .inr this⟩
          · rintro ⟨h1, h2 | h2⟩
            · exact .inl ⟨h1, h2⟩
            · exact .inr (by rw [h2]), by rw [List.length_append]; have := HN.out.ln; simp only [List.length_cons, List.length_nil]; omega, HN.out.ge, fun t ht => HN.out.lf t (by simp only [Bool.and_eq_true] at ht; exact ht.1)⟩
        have HXX := hide hnext
        have hml : u2.rangeLeft mb w.heap.size < wr.rangeLeft mb w.heap.size := by rw [hms, hr2.left_eq]; exact hlt
        obtain ⟨c, HC⟩ := named q.L.length
        rw [← HC.out] at q3 hposI
        have HR := hide hr
        clear hnext hmem hnot hms hqm hrg hbu hgr hls hE hsz hL hAs hbX hcX ho2 hg2 hgX hmm hit hrX hr2 hbX2 hb2 howu hr hpos
        go_wp2_with (first | rw [← HX.out] | (at_builtin; refine Lib.wpList_append_run _ rfl _ _ _ _ rfl _ _ rfl rfl _ _ HR.out ?_))
        go_roundw
        case rel => exact ⟨_, _, _, HXX⟩
        case measure => exact hml
end Go.Proofs.Ytdbbdecmfnajiaa
