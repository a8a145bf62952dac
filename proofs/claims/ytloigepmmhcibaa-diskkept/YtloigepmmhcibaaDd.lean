/-
  The contracts of Used, List, Read. Own work.
-/
import Derived.Test.YtloigepmmhcibaaDc
namespace Go.Proofs.Ytloigepmmhcibaa
open Go.RowKit

theorem used_take (fs : List AF) (k : Nat) (h : k < fs.length) : used (fs.take (k + 1)) = used (fs.take k) + fs[k].bytes.length := by
  unfold used
  rw [List.take_succ_eq_append_getElem h, List.map_append, List.sum_append]
  simp only [List.map_cons, List.map_nil, List.sum_cons, List.sum_nil, Nat.add_zero]
theorem used_take_le (fs : List AF) (k : Nat) : used (fs.take k) ≤ used fs := by
  unfold used
  conv => rhs; rw [← List.take_append_drop k fs]
  rw [List.map_append, List.sum_append]
  exact Nat.le_add_right _ _

set_option maxRecDepth 100000 in
set_option maxHeartbeats 1000000 in
theorem used_st {w : World} {bd bs bc : Nat} {fv : Value} {ps : List (AF × Value)} {most : Nat} {fuse : Int} {dark : Bool} (h : St w bd bs bc fv ps most fuse dark) (hmax : ps.length ≤ 1000) (hu : used (ps.map Prod.fst) ≤ 16777216) :
    Calls Try.prog 20 #[.pointer (some ⟨bd, 0, none⟩)] w fun e w' => e = .returned (.int .i64 (used (ps.map Prod.fst))) ∧ Below w.heap.size w w' := by
  have d0 := h.d0
  have s0 := h.s0
  have hlts := h.lts
  have HOB : Hid _ := h.hb
  have hfr := fr_of h.hf
  clear h
  obtain ⟨fs, HF⟩ := named (ps.map Prod.fst)
  have hlen : ps.length = fs.length := by rw [HF.out]; simp
  rw [← HF.out] at hu ⊢
  obtain ⟨U, HU⟩ := named (used fs)
  rw [← HU.out] at hu ⊢
  rcases hfr with ⟨rfl, hnil⟩ | ⟨bf, cap, rfl, hl, hn, hm, hc⟩
  · have e0 : fs = [] := by rw [HF.out, hnil]; rfl
    have eU : Hid (U = 0) := by rw [HU.out, e0]; rfl
    clear hnil hmax
    go_enter Try.func20, Try.ntmps20
    go_wp2_with fail
    refine (made_cell _ bd bs d0).mono ?_
    rintro e w1 ⟨rfl, hw1⟩
    subst hw1
    go_wp2
    refine wp_loop_rounds 1 ?_
    rw [rounds_succ]
    go_wp2
    go_ret
    exact ⟨by rw [eU.out]; rfl, Below.refl _ _⟩
  · have HC : Hid (∀ i (h : i < fs.length), ∃ v ao c, w.cell? ⟨bf, i * 3, none⟩ = some (.string v) ∧ w.cell? ⟨bf, i * 3 + 1, none⟩ = some (.slice ao fs[i].bytes.length c) ∧ w.cell? ⟨bf, i * 3 + 2, none⟩ = some (.int .i64 fs[i].safe)) := by
      intro i hi
      have hi' : i < ps.length := by rw [hlen]; exact hi
      have h := hc i hi'
      have e : fs[i] = ps[i].1 := by simp only [HF.out, List.getElem_map]
      obtain ⟨ao, cp, hsv, -⟩ := Own.rd (HOB.out _ (List.getElem_mem hi'))
      rw [hsv] at h
      rw [e]
      exact ⟨_, _, _, h⟩
    rw [hlen] at hmax s0 hn
    obtain ⟨m, HM⟩ := named (fs.length)
    rw [← HM.out] at hn hmax s0
    clear hc hlen HOB
    unfold maxLen at hm
    go_enter Try.func20, Try.ntmps20
    go_wp2_with fail
    refine (made_cell _ bd bs d0).mono ?_
    rintro e w1 ⟨rfl, hw1⟩
    subst hw1
    go_wp2
    go_loopw [3, 17] (fun nv iv wr => ∃ k : Nat, k ≤ m ∧ iv = .int .i64 k ∧ nv = .int .i64 (used (fs.take k)) ∧ Below w1.heap.size w1 wr) (fun _ iv _ => m - (intOf iv).toNat)
    case atStart => exact ⟨0, by omega, rfl, rfl, Below.refl _ _⟩
    case round =>
      obtain ⟨k, hk, rfl, rfl, hb⟩ := hrel
      have hsz := hb.size
      have hul := used_take_le fs k
      by_cases hlt : k < m
      · have hkl : k < fs.length := by rw [← HM.out]; exact hlt
        have HT : Hid _ := used_take fs k hkl
        have hul2 := used_take_le fs (k + 1)
        rw [HT.out] at hul2
        rw [← HU.out] at hul2 hul
        obtain ⟨v, ao, c, c0, c1, c2⟩ := HC.out k hkl
        have e : ∀ o, wr.cell? ⟨bf, o, none⟩ = w1.cell? ⟨bf, o, none⟩ := fun o => hb.cell (p := ⟨bf, o, none⟩) hl
        rw [← e] at c0 c1 c2
        clear e
        obtain ⟨u0, HU0⟩ := named (used (fs.take k))
        obtain ⟨u1, HU1⟩ := named (fs[k].bytes.length)
        rw [← HU0.out] at hul hul2 ⊢
        rw [← HU1.out] at hul2 c1
        go_wp2
        go_roundw
        case rel => exact ⟨k + 1, by omega, by go_num, by rw [HT.out, ← HU0.out, ← HU1.out]; go_num, hb.alloc (by omega) _⟩
        case measure => simp [intOf]; omega
      · have hkm : k = m := by omega
        have HK : Hid (used (fs.take k) = U) := by rw [hkm, HM.out, List.take_length, HU.out]; rfl
        clear hkm
        go_wp2
        go_ret
        exact ⟨by rw [← HK.out]; rfl, hb⟩

theorem wpList_append_vals {P : Program} (w : World) {ops : Array Oper} {rest : List Oper} {o : Oper} {a : Act} {Q : Exit → Act → World → Prop} (hgd : o.guard = none) (s x : Operand) (t : TypeId)
    (ho : o.op = .call { callee := .builtin .append, args := #[s, x], argTypes := #[t, t] })
    (e : TypeId) (i : TypeInfo) (z : Value) (bytes : Nat) (ht : P.underlying t = some (.slice e)) (hi : P.info? e = some i) (hz : i.zero = some z) (h1 : i.size = 1) (h2 : i.bytes = bytes) (hzs : z.cells.size = 1)
    (base : Nat) (v : Value) (hs : a.eval s = v) (n : Nat) (xs : List Value) (hown : w.ownsRow base e 1 v n xs) (ad : Addr) (m c : Nat) (hx : a.eval x = .slice (some ad) m c) (news : List Value) (hl : news.length = m)
    (hnews : ∀ j u, news[j]? = some u → w.cell? (ad.add j) = some u) (h1c : ∀ u ∈ news, u.oneCell' = true) (hlen : (n + m) * bytes ≤ 140737488355328) (h63 : n + m ≤ maxLen) (hbase : base ≤ w.heap.size)
    (h : ∀ v' w', w'.ownsRow base e 1 v' (n + m) (xs ++ news) → w.grownBy w' v.ownBlock → wpList P ops Q rest (a.put o.dst v') w') : wpList P ops Q (o :: rest) a w := by
  obtain ⟨v', w', hr, h3, h4, _⟩ := run_append_own (P := P) w base t o.type e i z 1 bytes ht hi hz h1 h2 hzs (by decide) v n xs hown ad m c news (by omega) hnews h1c h63 hlen hbase
  exact Lib.wpList_append_run w hgd s x t t ho v (.slice (some ad) m c) hs hx v' w' hr (h v' w' h3 h4)

/-- a slice of strings of the call's own -/
def OwnS (w : World) (base : Nat) (v : Value) (l : List ByteArray) : Prop := w.ownsRow base 9 1 v l.length (l.map .string)
theorem OwnS.below {w w' : World} {base : Nat} {v : Value} {l : List ByteArray} (h : OwnS w base v l) (hb : Below w.heap.size w w') : OwnS w' base v l := by
  refine ⟨h.1, ?_⟩
  rcases h.2 with h2 | ⟨g, cap, cur, hv, hb2, hg, r⟩
  · exact .inl h2
  · exact .inr ⟨g, cap, cur, hv, hb2, by rw [hb.block g (Array.getElem?_eq_some_iff.1 hg).1]; exact hg, r⟩
theorem cell_new2 (w : World) (o : Obj) (v : Value) (e : TypeId) : ((w.alloc o).alloc (.cells #[v] e)).cell? ((⟨w.heap.size + 1, 0, none⟩ : Addr).add 0) = some v := by
  have h := cell_of (heap_alloc_new (w.alloc o) (.cells #[v] e)) 0
  rw [World.size_alloc] at h
  exact h
theorem Try.info9 : (Try.prog.info? 9).map (fun i => (i.zero, i.size, i.bytes)) = some (some (.string ⟨#[]⟩), 1, 16) := by kernel_rfl

set_option maxRecDepth 100000 in
set_option maxHeartbeats 1000000 in
theorem list_st {w : World} {bd bs bc : Nat} {fv : Value} {ps : List (AF × Value)} {most : Nat} {fuse : Int} {dark : Bool} (h : St w bd bs bc fv ps most fuse dark) (hmax : ps.length ≤ 1000) :
    Calls Try.prog 15 #[.pointer (some ⟨bd, 0, none⟩)] w fun e w' => ∃ v, e = .returned v ∧ OwnS w' w.heap.size v (ps.map fun p => p.1.name) ∧ Below w.heap.size w w' := by
  obtain ⟨i0, hi, hz0, hz1, hz2⟩ := info_parts Try.info9
  have d0 := h.d0
  have s0 := h.s0
  have hlts := h.lts
  have HOB : Hid _ := h.hb
  have hfr := fr_of h.hf
  clear h
  obtain ⟨ns, HN⟩ := named (ps.map fun p => p.1.name)
  have hlen : ps.length = ns.length := by rw [HN.out]; simp
  rw [← HN.out]
  rcases hfr with ⟨rfl, hnil⟩ | ⟨bf, cap, rfl, hl, hn, hm, hc⟩
  · have e0 : ns = [] := by rw [HN.out, hnil]; rfl
    subst e0
    clear hnil hmax
    go_enter Try.func15, Try.ntmps15
    go_wp2_with fail
    refine (made_cell _ bd bs d0).mono ?_
    rintro e w1 ⟨rfl, hw1⟩
    subst hw1
    go_wp2
    refine wp_loop_rounds 1 ?_
    rw [rounds_succ]
    go_wp2
    go_ret
    exact ⟨_, rfl, World.ownsRow_nil _ _ _ _, Below.refl _ _⟩
  · have HC : Hid (∀ i (h : i < ns.length), ∃ ao l c s, w.cell? ⟨bf, i * 3, none⟩ = some (.string ns[i]) ∧ w.cell? ⟨bf, i * 3 + 1, none⟩ = some (.slice ao l c) ∧ w.cell? ⟨bf, i * 3 + 2, none⟩ = some (.int .i64 s)) := by
      intro i hi
      have hi' : i < ps.length := by rw [hlen]; exact hi
      have h := hc i hi'
      have e : ns[i] = ps[i].1.name := by simp only [HN.out, List.getElem_map]
      obtain ⟨ao, cp, hsv, -⟩ := Own.rd (HOB.out _ (List.getElem_mem hi'))
      rw [hsv] at h
      rw [e]
      exact ⟨_, _, _, _, h⟩
    rw [hlen] at hmax s0 hn
    obtain ⟨m, HM⟩ := named (ns.length)
    rw [← HM.out] at hn hmax s0
    clear hc hlen HOB
    unfold maxLen at hm
    go_enter Try.func15, Try.ntmps15
    go_wp2_with fail
    refine (made_cell _ bd bs d0).mono ?_
    rintro e w1 ⟨rfl, hw1⟩
    subst hw1
    go_wp2
    go_loopw [3, 17] (fun nv iv wr => ∃ k : Nat, k ≤ m ∧ iv = .int .i64 k ∧ wr.ownsRow w1.heap.size 9 1 nv k ((ns.take k).map .string) ∧ Below w1.heap.size w1 wr) (fun _ iv _ => m - (intOf iv).toNat)
    case atStart => exact ⟨0, by omega, rfl, World.ownsRow_nil _ _ _ _, Below.refl _ _⟩
    case round =>
      obtain ⟨k, hk, rfl, hown, hb⟩ := hrel
      have hsz := hb.size
      by_cases hlt : k < m
      · have hkl : k < ns.length := by rw [← HM.out]; exact hlt
        have HT : Hid ((ns.take (k + 1)).map Value.string = (ns.take k).map Value.string ++ [.string ns[k]]) := by
          rw [List.take_succ_eq_append_getElem hkl, List.map_append]; rfl
        obtain ⟨ao, l, c, s, c0, c1, c2⟩ := HC.out k hkl
        have e : ∀ o, wr.cell? ⟨bf, o, none⟩ = w1.cell? ⟨bf, o, none⟩ := fun o => hb.cell (p := ⟨bf, o, none⟩) hl
        rw [← e] at c0 c1 c2
        clear e
        obtain ⟨xs, HXS⟩ := named ((ns.take k).map Value.string)
        rw [← HXS.out] at hown
        go_wp2_with (at_builtin; go_must (refine wpList_append_vals _ rfl (.tmp 21) (.tmp 24) 28 rfl 9 i0 _ _ Try.underlying28 hi hz0 hz1 hz2 rfl w1.heap.size _ rfl k xs ((hown.alloc _).alloc _) _ 1 1 rfl [.string ns[k]] rfl ?_ ?_ ?_ ?_ ?_ ?_))
        · intro j u hj
          cases j with
          | zero => simp at hj; subst hj; exact cell_new2 wr _ _ _
          | succ j => simp at hj
        · intro u hu
          simp at hu
          subst hu
          rfl
        · omega
        · unfold maxLen; omega
        · simp; omega
        · intro v' w' hown' hg
          have hb' : Below w1.heap.size w1 w' := ((hb.alloc (by omega) _).alloc (by simp; omega) _).grown hg (by simp; omega) (fun k hk => (World.ownsRow.lt hown k hk).1)
          clear hg
          go_wp2
          go_roundw
          case rel => exact ⟨k + 1, by omega, by go_num, by rw [HT.out, ← HXS.out]; exact hown', hb'⟩
          case measure => simp [intOf]; omega
      · have hkm : k = m := by omega
        have HK : Hid (ns.take k = ns) := by rw [hkm, HM.out, List.take_length]; rfl
        rw [HK.out] at hown
        go_wp2
        go_ret
        exact ⟨_, rfl, by unfold OwnS; rw [← HM.out, ← hkm]; exact hown, hb⟩

set_option maxRecDepth 100000 in
set_option maxHeartbeats 1000000 in
theorem read_st {w : World} {bd bs bc : Nat} {fv : Value} {ps : List (AF × Value)} {most : Nat} {fuse : Int} {dark : Bool} (h : St w bd bs bc fv ps most fuse dark) (hs : sorted (ps.map Prod.fst)) (hmax : ps.length ≤ 1000) (hu : used (ps.map Prod.fst) ≤ 16777216) (n : ByteArray) :
    Calls Try.prog 33 #[.pointer (some ⟨bd, 0, none⟩), .string n] w fun e w' => ∃ v, e = .returned (.tuple #[v, .int .i64 (if dark then 15 else if isF (ps.map Prod.fst) n then 0 else 16)]) ∧
      Own w' w.heap.size v (if dark = true ∨ isF (ps.map Prod.fst) n = false then [] else (lookF (ps.map Prod.fst) n).bytes) ∧ Below w.heap.size w w' := by
  have HFI : Hid _ := find_any h hs hmax n
  have HST : Hid _ := h
  have hltd := h.ltd
  have hlts := h.lts
  clear h hs
  obtain ⟨fs, HF⟩ := named (ps.map Prod.fst)
  have hlen : ps.length = fs.length := by rw [HF.out]; simp
  rw [← HF.out] at HFI hu ⊢
  cases dark with
  | true =>
    simp only [↓reduceIte, true_or] at HFI ⊢
    go_enter Try.func33, Try.ntmps33
    go_wp2_with fail
    refine Calls.mono HFI.out ?_
    rintro e w1 ⟨rfl, hb⟩
    go_wp2
    go_ret2
    exact ⟨_, rfl, Own.nil _ _, hb⟩
  | false =>
    cases hi : isF fs n with
    | false =>
      simp only [hi, ↓reduceIte, Bool.false_eq_true, or_true] at HFI ⊢
      go_enter Try.func33, Try.ntmps33
      go_wp2_with fail
      refine Calls.mono HFI.out ?_
      rintro e w1 ⟨rfl, hb⟩
      go_wp2
      go_ret2
      exact ⟨_, rfl, Own.nil _ _, hb⟩
    | true =>
      obtain ⟨hl, hname⟩ := isF_lt hi
      clear hname
      have HL2 : Hid _ := lookF_at hi hl
      simp only [hi, ↓reduceIte, Bool.false_eq_true, Bool.true_eq_false, or_self] at HFI ⊢
      obtain ⟨f, HL⟩ := named (lookF fs n)
      rw [← HL.out]
      have hfl : f.bytes.length ≤ 16777216 := by
        have h1 := used_take fs _ hl
        have h2 := used_take_le fs (posF fs n + 1)
        rw [← HL2.out, ← HL.out] at h1
        omega
      go_enter Try.func33, Try.ntmps33
      go_wp2_with fail
      refine Calls.mono HFI.out ?_
      rintro e w1 ⟨rfl, hb⟩
      have HST1 : Hid _ := HST.out.below hb
      have d0 := HST1.out.d0
      have s0 := HST1.out.s0
      rcases fr_of HST1.out.hf with ⟨rfl, hnil⟩ | ⟨bf, cap, rfl, hbl, hn, hm, hc⟩
      · rw [hnil] at hlen; simp at hlen; omega
      · obtain ⟨c0, c1, c2⟩ := hc (posF fs n) (by omega)
        have e : ps[posF fs n].1 = f := by rw [HL.out, HL2.out]; simp only [HF.out, List.getElem_map]
        have HOW : Hid _ := HST1.out.hb _ (List.getElem_mem (show posF fs n < ps.length by omega))
        rw [e] at c0 c2 HOW
        obtain ⟨ao, cp, hsv, -⟩ := Own.rd HOW.out
        rw [hsv] at c1 HOW
        clear hc e hsv
        obtain ⟨k, HK⟩ := named (posF fs n)
        rw [← HK.out] at c0 c1 c2 hl ⊢
        rw [hlen] at hn s0
        unfold maxLen at hm
        obtain ⟨m, HM⟩ := named fs.length
        rw [← HM.out] at hl hn s0
        go_wp2_with fail
        refine (concat1 w1 _ f.bytes (Own.rd HOW.out) (by omega)).mono ?_
        rintro e w2 ⟨v2, rfl, hown2, hb2⟩
        go_wp2
        go_ret2
        exact ⟨_, rfl, Own.mono hown2 hb.size, hb.trans (hb2.mono hb.size)⟩
end Go.Proofs.Ytloigepmmhcibaa
