/-
  The contracts of strings.Compare, byName, slices.BinarySearchFunc, the place. The contracts of the place, find, look, Size, Synced. The contracts of Used, List, Read. Own work.
-/
import Derived.Test.YtffgbjojngnebaaDoorQh
import Derived.Laws.Externs
namespace Go.Proofs.YtffgbjojngnebaaDoor
open Go.RowKit

/-- the files' slice, as it is read -/
def Fr (w : World) (fv : Value) (ps : List (AF × Value)) : Prop :=
  (fv = .slice none 0 0 ∧ ps = []) ∨ ∃ bf cap, fv = .slice (some ⟨bf, 0, none⟩) ps.length cap ∧ bf < w.heap.size ∧ ps.length ≤ cap ∧ cap ≤ maxLen ∧
    ∀ i (h : i < ps.length), w.cell? ⟨bf, i * 3, none⟩ = some (.string ps[i].1.name) ∧ w.cell? ⟨bf, i * 3 + 1, none⟩ = some ps[i].2 ∧ w.cell? ⟨bf, i * 3 + 2, none⟩ = some (.int .i64 ps[i].1.safe)
theorem fr_of {w : World} {fv : Value} {ps : List (AF × Value)} (h : w.ownsRow 0 84 3 fv ps.length (cellsOf ps)) : Fr w fv ps := by
  rcases h.2 with ⟨rfl, h0⟩ | ⟨g, cap, cur, hv, hb, hg, hn, hm, hs, ht⟩
  · exact .inl ⟨rfl, List.eq_nil_of_length_eq_zero h0⟩
  · refine .inr ⟨g, cap, hv, (Array.getElem?_eq_some_iff.1 hg).1, hn, hm, fun i hi => ?_⟩
    have hc := cellsOf_get ps i hi
    have e : ∀ j u, (cellsOf ps)[j]? = some u → w.cell? ⟨g, j, none⟩ = some u := fun j u hj => by
      have := h.cells (g := g) (by rw [hv]; rfl) j u hj
      rw [← this]
      congr 1
      unfold Addr.add
      split <;> simp_all
    exact ⟨e _ _ hc.1, e _ _ hc.2.1, e _ _ hc.2.2⟩
theorem Fr.below {w w' : World} {fv : Value} {ps : List (AF × Value)} (h : Fr w fv ps) (hb : Below w.heap.size w w') : Fr w' fv ps := by
  rcases h with h | ⟨bf, cap, hv, hl, hn, hm, hc⟩
  · exact .inl h
  · refine .inr ⟨bf, cap, hv, Nat.lt_of_lt_of_le hl hb.size, hn, hm, fun i hi => ?_⟩
    have e : ∀ o, w'.cell? ⟨bf, o, none⟩ = w.cell? ⟨bf, o, none⟩ := fun o => hb.cell (p := ⟨bf, o, none⟩) hl
    rw [e, e, e]
    exact hc i hi

set_option maxRecDepth 100000 in
set_option maxHeartbeats 400000 in
theorem compareS_any (a b : ByteArray) (w : World) : Calls Tryd.prog 93 #[.string a, .string b] w fun e w' => e = .returned (.int .i64 (cmpB a b)) ∧ w' = w := by
  have hx : (callFunc 100 #[.string a, .string b]).run Tryd.prog w = .ok (.value (.int .i64 (cmpB a b))) w := by
    rw [run_callFunc_extern Tryd.func100 (by kernel_rfl) (by kernel_rfl) (by kernel_rfl) (e := Extern.BytealgCompare.compare) (by kernel_rfl), Lib.run_compareString]
    rfl
  go_enter Tryd.func93, Tryd.ntmps93
  go_wp2_with (simp only [hx])
  go_ret
  exact ⟨rfl, rfl⟩
set_option maxRecDepth 100000 in
set_option maxHeartbeats 400000 in
theorem compare_any (a b : ByteArray) (w : World) : Calls Tryd.prog 79 #[.string a, .string b] w fun e w' => e = .returned (.int .i64 (cmpB a b)) ∧ w' = w := by
  go_enter Tryd.func79, Tryd.ntmps79
  go_wp2_with fail
  refine (compareS_any _ _ _).mono ?_
  rintro e w' ⟨rfl, rfl⟩
  go_wp2
  go_ret
  exact ⟨rfl, rfl⟩

set_option maxRecDepth 100000 in
set_option maxHeartbeats 400000 in
theorem byName_any (a b : ByteArray) (v s : Value) (w : World) : Calls Tryd.prog 43 #[.agg #[.string a, v, s], .string b] w fun e w' => e = .returned (.int .i64 (cmpB a b)) ∧ Below w.heap.size w w' := by
  go_enter Tryd.func43, Tryd.ntmps43
  go_wp2_with fail
  refine (compare_any _ _ _).mono ?_
  rintro e w' ⟨rfl, rfl⟩
  go_wp2
  go_ret
  exact ⟨rfl, (Below.refl _ _).alloc (Nat.le_refl _) _⟩

set_option maxRecDepth 100000 in
set_option maxHeartbeats 1000000 in
theorem bsearch_any (fv : Value) (ps : List (AF × Value)) (n : ByteArray) (w : World) (hfr : Fr w fv ps) (hs : sorted (ps.map Prod.fst)) (hmax : ps.length ≤ 1000) :
    Calls Tryd.prog 42 #[fv, .string n, .func (.func 43) #[] #[]] w fun e w' => e = .returned (.tuple #[.int .i64 (posF (ps.map Prod.fst) n), .bool (isF (ps.map Prod.fst) n)]) ∧ Below w.heap.size w w' := by
  obtain ⟨fs, HF⟩ := named (ps.map Prod.fst)
  rw [← HF.out] at hs ⊢
  rcases hfr with ⟨rfl, hnil⟩ | ⟨bf, cap, rfl, hl, hn, hm, hc⟩
  · have e0 : fs = [] := by rw [HF.out, hnil]; rfl
    subst e0
    clear hnil hmax
    go_enter Tryd.func42, Tryd.ntmps42
    go_wp2
    refine wp_loop_rounds 1 ?_
    rw [rounds_succ]
    go_wp2
    go_ret2
    exact ⟨rfl, Below.refl _ _⟩
  · have HS : Hid (sorted fs) := hs
    have HC : Hid (∀ i (h : i < fs.length), ∃ v s, w.cell? ⟨bf, i * 3, none⟩ = some (.string fs[i].name) ∧ w.cell? ⟨bf, i * 3 + 1, none⟩ = some v ∧ w.cell? ⟨bf, i * 3 + 2, none⟩ = some s ) := by
      intro i hi
      have hi' : i < ps.length := by rw [HF.out] at hi; simpa using hi
      have h := hc i hi'
      have e : fs[i].name = ps[i].1.name := by simp only [HF.out, List.getElem_map]
      exact ⟨_, _, by rw [e]; exact h.1, h.2.1, h.2.2⟩
    have hlen : ps.length = fs.length := by rw [HF.out]; simp
    obtain ⟨m, HM⟩ := named (ps.length)
    have HL : Hid (m = fs.length) := by rw [HM.out, hlen]; rfl
    rw [← HM.out] at hn hmax ⊢
    clear hc hs hlen hn
    unfold maxLen at hm
    go_enter Tryd.func42, Tryd.ntmps42
    go_wp2
    go_loopw [9, 10] (fun iv jv wr => ∃ i j : Nat, iv = .int .i64 i ∧ jv = .int .i64 j ∧ i ≤ j ∧ j ≤ m ∧ (∀ k (h : k < fs.length), k < i → cmpB fs[k].name n < 0) ∧ (∀ k (h : k < fs.length), j ≤ k → 0 ≤ cmpB fs[k].name n) ∧ Below w.heap.size w wr) (fun iv jv _ => (intOf jv).toNat - (intOf iv).toNat)
    case atStart => exact ⟨0, m, rfl, rfl, by omega, by omega, fun k h hk => by omega, fun k h hk => by have := HL.out; omega, Below.refl _ _⟩
    case round =>
      obtain ⟨i, j, rfl, rfl, hij, hjm, hlo, hhi, hb⟩ := hrel
      have HLO : Hid _ := hlo
      have HHI : Hid _ := hhi
      clear hlo hhi
      have hsz := hb.size
      by_cases hlt : i < j
      · obtain ⟨h, HH⟩ := named ((i + j) / 2)
        have hh1 : ((i : Int) + (j : Int)) / 2 = (h : Int) := by rw [HH.out]; omega
        have hh2 : i ≤ h := by rw [HH.out]; omega
        have hh3 : h < j := by rw [HH.out]; omega
        have hhl : h < fs.length := by rw [← HL.out]; omega
        obtain ⟨v, s, c0, c1, c2⟩ := HC.out h hhl
        have e : ∀ o, wr.cell? ⟨bf, o, none⟩ = w.cell? ⟨bf, o, none⟩ := fun o => hb.cell (p := ⟨bf, o, none⟩) hl
        rw [← e] at c0 c1 c2
        clear e
        go_wp2_with fail
        refine (byName_any _ _ _ _ _).mono ?_
        rintro e w1 ⟨rfl, hb1⟩
        have hb2 := hb.trans (hb1.mono hb.size)
        obtain ⟨c, HCM⟩ := named (cmpB fs[h].name n)
        rw [← HCM.out]
        have hcr := cmpB_range fs[h].name n
        rw [← HCM.out] at hcr
        clear hb1 hb
        by_cases hneg : c < 0
        · go_wp2
          go_roundw
          case rel =>
            refine ⟨h + 1, j, by go_num, rfl, by omega, hjm, fun k hk hk1 => ?_, HHI.out, hb2⟩
            by_cases e : k = h
            · subst e; rw [← HCM.out]; exact hneg
            · exact cmpB_trans (sorted_lt HS.out k h hhl (by omega)) (by rw [← HCM.out]; exact hneg)
          case measure => simp [intOf]; omega
        · go_wp2
          go_roundw
          case rel =>
            refine ⟨i, h, rfl, rfl, hh2, by omega, HLO.out, fun k hk hk1 => ?_, hb2⟩
            by_cases e : k = h
            · subst e; rw [← HCM.out]; omega
            · have h1 := sorted_lt HS.out h k hk (by omega)
              have h2 : 0 ≤ cmpB fs[h].name n := by rw [← HCM.out]; omega
              have h3 := cmpB_anti n fs[h].name
              have h4 := cmpB_anti n fs[k].name
              by_cases e0 : cmpB fs[h].name n = 0
              · rw [cmpB_zero e0] at h1; omega
              · have := cmpB_trans (show cmpB n fs[h].name < 0 by omega) h1
                omega
          case measure => simp [intOf]; omega
      · have hije : i = j := by omega
        subst hije
        have hpos : posF fs n = i := posF_eq fs n i (by have := HL.out; omega) HLO.out (fun h => HHI.out i h (Nat.le_refl _))
        have HP : Hid (posF fs n = i) := hpos
        clear hpos
        by_cases him : i < m
        · have hil : i < fs.length := by rw [← HL.out]; exact him
          obtain ⟨v, s, c0, c1, c2⟩ := HC.out i hil
          have e : ∀ o, wr.cell? ⟨bf, o, none⟩ = w.cell? ⟨bf, o, none⟩ := fun o => hb.cell (p := ⟨bf, o, none⟩) hl
          rw [← e] at c0 c1 c2
          clear e
          go_wp2_with fail
          refine (byName_any _ _ _ _ _).mono ?_
          rintro e w1 ⟨rfl, hb1⟩
          have hb2 := hb.trans (hb1.mono hb.size)
          obtain ⟨c, HCM⟩ := named (cmpB fs[i].name n)
          rw [← HCM.out]
          clear hb1 hb
          have HI : Hid (isF fs n = (c == 0)) := by
            unfold isF
            rw [HP.out, List.getElem?_eq_getElem hil, HCM.out]
            rfl
          go_wp2
          go_ret2
          refine ⟨?_, hb2⟩
          rw [HP.out, HI.out]
          rfl
        · have HI : Hid (isF fs n = false) := by
            unfold isF
            rw [HP.out, List.getElem?_eq_none (by have := HL.out; omega)]
            rfl
          go_wp2
          go_ret2
          exact ⟨by rw [HP.out, HI.out]; rfl, hb⟩
end Go.Proofs.YtffgbjojngnebaaDoor
namespace Go.Proofs.YtffgbjojngnebaaDoor
open Go.RowKit

set_option maxRecDepth 100000 in
set_option maxHeartbeats 400000 in
theorem place_any {w : World} {bd bs bc : Nat} {fv : Value} {ps : List (AF × Value)} {most : Nat} {fuse : Int} {dark : Bool} (h : St w bd bs bc fv ps most fuse dark) (hs : sorted (ps.map Prod.fst)) (hmax : ps.length ≤ 1000) (n : ByteArray) :
    Calls Tryd.prog 41 #[.string n, .pointer (some ⟨bc, 0, none⟩)] w fun e w' => e = .returned (.tuple #[.int .i64 (posF (ps.map Prod.fst) n), .bool (isF (ps.map Prod.fst) n)]) ∧ Below w.heap.size w w' := by
  have c0 := h.c0
  have s0 := h.s0
  have hfr := fr_of h.hf
  clear h
  go_enter Tryd.func41, Tryd.ntmps41
  go_wp2_with fail
  refine (bsearch_any fv ps n w hfr hs hmax).mono ?_
  rintro e w' ⟨rfl, hb⟩
  clear hs hfr
  go_wp2
  go_ret2
  exact ⟨rfl, hb⟩

set_option maxRecDepth 100000 in
set_option maxHeartbeats 400000 in
theorem find_any {w : World} {bd bs bc : Nat} {fv : Value} {ps : List (AF × Value)} {most : Nat} {fuse : Int} {dark : Bool} (h : St w bd bs bc fv ps most fuse dark) (hs : sorted (ps.map Prod.fst)) (hmax : ps.length ≤ 1000) (n : ByteArray) :
    Calls Tryd.prog 51 #[.pointer (some ⟨bd, 0, none⟩), .string n] w fun e w' => e = .returned (if dark then .tuple #[.int .i64 0, .int .i64 15] else if isF (ps.map Prod.fst) n then .tuple #[.int .i64 (posF (ps.map Prod.fst) n), .int .i64 0] else .tuple #[.int .i64 0, .int .i64 16]) ∧ Below w.heap.size w w' := by
  have d0 := h.d0
  have s1 := h.s1
  have s4 := h.s4
  have HP : Hid _ := place_any h hs hmax n
  clear h hs
  obtain ⟨fs, HF⟩ := named (ps.map Prod.fst)
  rw [← HF.out] at HP ⊢
  go_enter Tryd.func51, Tryd.ntmps51
  go_wp2_with fail
  refine (fails_cell w bd bs dark d0 s4).mono ?_
  rintro e w1 ⟨rfl, hw1⟩
  subst hw1
  cases dark
  · go_wp2_with fail
    refine Calls.mono HP.out ?_
    rintro e w2 ⟨rfl, hb⟩
    cases hi : isF fs n
    all_goals
      go_wp2
      go_ret2
      exact ⟨rfl, hb⟩
  · go_wp2
    go_ret2
    exact ⟨rfl, Below.refl _ _⟩

theorem lookF_at {fs : List AF} {n : ByteArray} (h : isF fs n = true) (hl : posF fs n < fs.length) : lookF fs n = fs[posF fs n] := by
  unfold lookF
  rw [if_pos h, List.getD_eq_getElem?_getD, List.getElem?_eq_getElem hl]
  rfl

set_option maxRecDepth 100000 in
set_option maxHeartbeats 400000 in
/-- look, where the file's slice is told by its length alone -/
theorem look_any {w : World} {bd bs bc : Nat} {fv : Value} {ps : List (AF × Value)} {most : Nat} {fuse : Int} {dark : Bool} (h : St w bd bs bc fv ps most fuse dark) (hs : sorted (ps.map Prod.fst)) (hmax : ps.length ≤ 1000) (n : ByteArray) :
    Calls Tryd.prog 71 #[.pointer (some ⟨bd, 0, none⟩), .string n] w fun e w' => (∃ (s : ByteArray) (ao : Option Addr) (cap : Nat), e = .returned (.agg #[.string s, .slice ao (lookF (ps.map Prod.fst) n).bytes.length cap, .int .i64 (lookF (ps.map Prod.fst) n).safe])) ∧ Below w.heap.size w w' := by
  have d0 := h.d0
  have s0 := h.s0
  have s1 := h.s1
  have hltd := h.ltd
  have hlts := h.lts
  have HST : Hid _ := h
  have HS : Hid _ := hs
  have HX : Hid _ := hmax
  clear h hs hmax
  obtain ⟨fs, HF⟩ := named (ps.map Prod.fst)
  have hlen : ps.length = fs.length := by rw [HF.out]; simp
  rw [← HF.out]
  obtain ⟨f, HL⟩ := named (lookF fs n)
  rw [← HL.out]
  go_enter Tryd.func71, Tryd.ntmps71
  go_wp2_with fail
  refine (made_cell _ bd bs (HST.out.below ((Below.refl _ _).alloc (Nat.le_refl _) _)).d0).mono ?_
  rintro e w1 ⟨rfl, rfl⟩
  go_wp2_with fail
  refine (place_any (HST.out.below ((Below.refl _ _).alloc (Nat.le_refl _) _)) HS.out HX.out n).mono ?_
  rintro e w2 ⟨rfl, hb⟩
  rw [← HF.out]
  have hb0 := ((Below.refl w.heap.size w).alloc (Nat.le_refl _) (.cells #[.string ⟨#[]⟩, .slice none 0 0, .int .i64 0] 84)).trans (hb.mono (by simp))
  have HST2 : Hid _ := HST.out.below hb0
  have d2 := HST2.out.d0
  have s2 := HST2.out.s0
  have hz := hb.size
  have hcl : ∀ i, w2.cell? ⟨w.heap.size, i, none⟩ = (w.alloc (.cells #[.string ⟨#[]⟩, .slice none 0 0, .int .i64 0] 84)).cell? ⟨w.heap.size, i, none⟩ := fun i => hb.cell (p := ⟨w.heap.size, i, none⟩) (by simp)
  have hfz : ∀ i, w2.frozen? ⟨w.heap.size, i, none⟩ = (w.alloc (.cells #[.string ⟨#[]⟩, .slice none 0 0, .int .i64 0] 84)).frozen? ⟨w.heap.size, i, none⟩ := fun i => hb.frozen (p := ⟨w.heap.size, i, none⟩) (by simp)
  have hzz : w.heap.size < w2.heap.size := by simp at hz; omega
  clear hb d0 s0 s1
  cases hi : isF fs n
  · have HL2 : Hid (f = ⟨⟨#[]⟩, [], 0⟩) := by
      rw [HL.out]; unfold lookF; rw [if_neg (by rw [hi]; simp)]; rfl
    go_wp2
    refine bodyPost_ret (v := .agg #[.string ⟨#[]⟩, .slice none 0 0, .int .i64 0]) (by simp [results, Tryd.results71, go_sem, hcl]) rfl ⟨⟨_, none, 0, by rw [HL2.out]; rfl⟩, ?_⟩
    exact ((hb0.setCell (Nat.le_refl _) _).setCell (Nat.le_refl _) _).setCell (Nat.le_refl _) _
  · obtain ⟨hl, hname⟩ := isF_lt hi
    clear hname
    have HL2 : Hid _ := lookF_at hi hl
    rcases fr_of HST2.out.hf with ⟨rfl, hnil⟩ | ⟨bf, cap, rfl, hbl, hn, hm, hc⟩
    · rw [hnil] at hlen; simp at hlen; omega
    · obtain ⟨c0, c1, c2⟩ := hc (posF fs n) (by omega)
      have e : ps[posF fs n].1 = f := by rw [HL.out, HL2.out]; simp only [HF.out, List.getElem_map]
      have HOW : Hid _ := HST2.out.hb _ (List.getElem_mem (show posF fs n < ps.length by omega))
      rw [e] at c0 c2 HOW
      obtain ⟨ao, cp, hsv, -⟩ := Own.rd HOW.out
      rw [hsv] at c1
      clear hc e HOW hsv
      obtain ⟨k, HK⟩ := named (posF fs n)
      rw [← HK.out] at c0 c1 c2 ⊢
      rw [← HK.out] at hl
      rw [hlen] at hn s2
      unfold maxLen at hm
      obtain ⟨m, HM⟩ := named fs.length
      rw [← HM.out] at hl hn s2
      go_wp2
      refine bodyPost_ret (v := .agg #[.string f.name, .slice ao f.bytes.length cp, .int .i64 f.safe]) (by simp [results, Tryd.results71, go_sem, hcl]) rfl ⟨⟨_, ao, cp, rfl⟩, ?_⟩
      exact ((hb0.setCell (Nat.le_refl _) _).setCell (Nat.le_refl _) _).setCell (Nat.le_refl _) _

theorem run_field1 (s x y : Value) (w : World) : (Instr.field 84 (.agg #[s, x, y]) 1).run Tryd.prog w = .ok x w := by kernel_rfl
theorem run_field2 (s x y : Value) (w : World) : (Instr.field 84 (.agg #[s, x, y]) 2).run Tryd.prog w = .ok y w := by kernel_rfl

set_option maxRecDepth 100000 in
set_option maxHeartbeats 400000 in
theorem size_st {w : World} {bd bs bc : Nat} {fv : Value} {ps : List (AF × Value)} {most : Nat} {fuse : Int} {dark : Bool} (h : St w bd bs bc fv ps most fuse dark) (hs : sorted (ps.map Prod.fst)) (hmax : ps.length ≤ 1000) (n : ByteArray) :
    Calls Tryd.prog 34 #[.pointer (some ⟨bd, 0, none⟩), .string n] w fun e w' => e = .returned (.int .i64 (lookF (ps.map Prod.fst) n).bytes.length) ∧ Below w.heap.size w w' := by
  have HC : Hid _ := look_any h hs hmax n
  clear h hs hmax
  go_enter Tryd.func34, Tryd.ntmps34
  go_wp2_with fail
  refine Calls.mono HC.out ?_
  rintro e w1 ⟨⟨s, ao, cp, rfl⟩, hb⟩
  have hf := run_field1 (.string s) (.slice ao (lookF (ps.map Prod.fst) n).bytes.length cp) (.int .i64 (lookF (ps.map Prod.fst) n).safe) w1
  go_wp2
  go_ret
  exact ⟨rfl, hb⟩
end Go.Proofs.YtffgbjojngnebaaDoor
namespace Go.Proofs.YtffgbjojngnebaaDoor
open Go.RowKit

theorem used_take (fs : List AF) (k : Nat) (h : k < fs.length) : used (fs.take (k + 1)) = used (fs.take k) + fs[k].bytes.length := by
  unfold used
  rw [List.take_succ_eq_append_getElem h, List.map_append, List.sum_append]
  simp only [List.map_cons, List.map_nil, List.sum_cons, List.sum_nil, Nat.add_zero]
theorem used_take_le (fs : List AF) (k : Nat) : used (fs.take k) ≤ used fs := by
  unfold used
  conv => rhs; rw [← List.take_append_drop k fs]
  rw [List.map_append, List.sum_append]
  exact Nat.le_add_right _ _

set_option maxRecDepth 100000 in
set_option maxHeartbeats 1000000 in
theorem used_st {w : World} {bd bs bc : Nat} {fv : Value} {ps : List (AF × Value)} {most : Nat} {fuse : Int} {dark : Bool} (h : St w bd bs bc fv ps most fuse dark) (hmax : ps.length ≤ 1000) (hu : used (ps.map Prod.fst) ≤ 16777216) :
    Calls Tryd.prog 29 #[.pointer (some ⟨bd, 0, none⟩)] w fun e w' => e = .returned (.int .i64 (used (ps.map Prod.fst))) ∧ Below w.heap.size w w' := by
  have d0 := h.d0
  have s0 := h.s0
  have hlts := h.lts
  have HOB : Hid _ := h.hb
  have hfr := fr_of h.hf
  clear h
  obtain ⟨fs, HF⟩ := named (ps.map Prod.fst)
  have hlen : ps.length = fs.length := by rw [HF.out]; simp
  rw [← HF.out] at hu ⊢
  obtain ⟨U, HU⟩ := named (used fs)
  rw [← HU.out] at hu ⊢
  rcases hfr with ⟨rfl, hnil⟩ | ⟨bf, cap, rfl, hl, hn, hm, hc⟩
  · have e0 : fs = [] := by rw [HF.out, hnil]; rfl
    have eU : Hid (U = 0) := by rw [HU.out, e0]; rfl
    clear hnil hmax
    go_enter Tryd.func29, Tryd.ntmps29
    go_wp2_with fail
    refine (made_cell _ bd bs d0).mono ?_
    rintro e w1 ⟨rfl, hw1⟩
    subst hw1
    go_wp2
    refine wp_loop_rounds 1 ?_
    rw [rounds_succ]
    go_wp2
    go_ret
    exact ⟨by rw [eU.out]; rfl, Below.refl _ _⟩
  · have HC : Hid (∀ i (h : i < fs.length), ∃ v ao c, w.cell? ⟨bf, i * 3, none⟩ = some (.string v) ∧ w.cell? ⟨bf, i * 3 + 1, none⟩ = some (.slice ao fs[i].bytes.length c) ∧ w.cell? ⟨bf, i * 3 + 2, none⟩ = some (.int .i64 fs[i].safe)) := by
      intro i hi
      have hi' : i < ps.length := by rw [hlen]; exact hi
      have h := hc i hi'
      have e : fs[i] = ps[i].1 := by simp only [HF.out, List.getElem_map]
      obtain ⟨ao, cp, hsv, -⟩ := Own.rd (HOB.out _ (List.getElem_mem hi'))
      rw [hsv] at h
      rw [e]
      exact ⟨_, _, _, h⟩
    rw [hlen] at hmax s0 hn
    obtain ⟨m, HM⟩ := named (fs.length)
    rw [← HM.out] at hn hmax s0
    clear hc hlen HOB
    unfold maxLen at hm
    go_enter Tryd.func29, Tryd.ntmps29
    go_wp2_with fail
    refine (made_cell _ bd bs d0).mono ?_
    rintro e w1 ⟨rfl, hw1⟩
    subst hw1
    go_wp2
    go_loopw [3, 17] (fun nv iv wr => ∃ k : Nat, k ≤ m ∧ iv = .int .i64 k ∧ nv = .int .i64 (used (fs.take k)) ∧ Below w1.heap.size w1 wr) (fun _ iv _ => m - (intOf iv).toNat)
    case atStart => exact ⟨0, by omega, rfl, rfl, Below.refl _ _⟩
    case round =>
      obtain ⟨k, hk, rfl, rfl, hb⟩ := hrel
      have hsz := hb.size
      have hul := used_take_le fs k
      by_cases hlt : k < m
      · have hkl : k < fs.length := by rw [← HM.out]; exact hlt
        have HT : Hid _ := used_take fs k hkl
        have hul2 := used_take_le fs (k + 1)
        rw [HT.out] at hul2
        rw [← HU.out] at hul2 hul
        obtain ⟨v, ao, c, c0, c1, c2⟩ := HC.out k hkl
        have e : ∀ o, wr.cell? ⟨bf, o, none⟩ = w1.cell? ⟨bf, o, none⟩ := fun o => hb.cell (p := ⟨bf, o, none⟩) hl
        rw [← e] at c0 c1 c2
        clear e
        obtain ⟨u0, HU0⟩ := named (used (fs.take k))
        obtain ⟨u1, HU1⟩ := named (fs[k].bytes.length)
        rw [← HU0.out] at hul hul2 ⊢
        rw [← HU1.out] at hul2 c1
        go_wp2
        go_roundw
        case rel => exact ⟨k + 1, by omega, by go_num, by rw [HT.out, ← HU0.out, ← HU1.out]; go_num, hb.alloc (by omega) _⟩
        case measure => simp [intOf]; omega
      · have hkm : k = m := by omega
        have HK : Hid (used (fs.take k) = U) := by rw [hkm, HM.out, List.take_length, HU.out]; rfl
        clear hkm
        go_wp2
        go_ret
        exact ⟨by rw [← HK.out]; rfl, hb⟩

theorem wpList_append_vals {P : Program} (w : World) {ops : Array Oper} {rest : List Oper} {o : Oper} {a : Act} {Q : Exit → Act → World → Prop} (hgd : o.guard = none) (s x : Operand) (t : TypeId)
    (ho : o.op = .call { callee := .builtin .append, args := #[s, x], argTypes := #[t, t] })
    (e : TypeId) (i : TypeInfo) (z : Value) (bytes : Nat) (ht : P.underlying t = some (.slice e)) (hi : P.info? e = some i) (hz : i.zero = some z) (h1 : i.size = 1) (h2 : i.bytes = bytes) (hzs : z.cells.size = 1)
    (base : Nat) (v : Value) (hs : a.eval s = v) (n : Nat) (xs : List Value) (hown : w.ownsRow base e 1 v n xs) (ad : Addr) (m c : Nat) (hx : a.eval x = .slice (some ad) m c) (news : List Value) (hl : news.length = m)
    (hnews : ∀ j u, news[j]? = some u → w.cell? (ad.add j) = some u) (h1c : ∀ u ∈ news, u.oneCell' = true) (hlen : (n + m) * bytes ≤ 140737488355328) (h63 : n + m ≤ maxLen) (hbase : base ≤ w.heap.size)
    (h : ∀ v' w', w'.ownsRow base e 1 v' (n + m) (xs ++ news) → w.grownBy w' v.ownBlock → wpList P ops Q rest (a.put o.dst v') w') : wpList P ops Q (o :: rest) a w := by
  obtain ⟨v', w', hr, h3, h4, _⟩ := run_append_own (P := P) w base t o.type e i z 1 bytes ht hi hz h1 h2 hzs (by decide) v n xs hown ad m c news (by omega) hnews h1c h63 hlen hbase
  exact Lib.wpList_append_run w hgd s x t t ho v (.slice (some ad) m c) hs hx v' w' hr (h v' w' h3 h4)

/-- a slice of strings of the call's own -/
def OwnS (w : World) (base : Nat) (v : Value) (l : List ByteArray) : Prop := w.ownsRow base 9 1 v l.length (l.map .string)
theorem OwnS.below {w w' : World} {base : Nat} {v : Value} {l : List ByteArray} (h : OwnS w base v l) (hb : Below w.heap.size w w') : OwnS w' base v l := by
  refine ⟨h.1, ?_⟩
  rcases h.2 with h2 | ⟨g, cap, cur, hv, hb2, hg, r⟩
  · exact .inl h2
  · exact .inr ⟨g, cap, cur, hv, hb2, by rw [hb.block g (Array.getElem?_eq_some_iff.1 hg).1]; exact hg, r⟩
theorem cell_new2 (w : World) (o : Obj) (v : Value) (e : TypeId) : ((w.alloc o).alloc (.cells #[v] e)).cell? ((⟨w.heap.size + 1, 0, none⟩ : Addr).add 0) = some v := by
  have h := cell_of (heap_alloc_new (w.alloc o) (.cells #[v] e)) 0
  rw [World.size_alloc] at h
  exact h
theorem Tryd.info9 : (Tryd.prog.info? 9).map (fun i => (i.zero, i.size, i.bytes)) = some (some (.string ⟨#[]⟩), 1, 16) := by kernel_rfl

set_option maxRecDepth 100000 in
set_option maxHeartbeats 1000000 in
theorem list_st {w : World} {bd bs bc : Nat} {fv : Value} {ps : List (AF × Value)} {most : Nat} {fuse : Int} {dark : Bool} (h : St w bd bs bc fv ps most fuse dark) (hmax : ps.length ≤ 1000) :
    Calls Tryd.prog 30 #[.pointer (some ⟨bd, 0, none⟩)] w fun e w' => ∃ v, e = .returned v ∧ OwnS w' w.heap.size v (ps.map fun p => p.1.name) ∧ Below w.heap.size w w' := by
  obtain ⟨i0, hi, hz0, hz1, hz2⟩ := info_parts Tryd.info9
  have d0 := h.d0
  have s0 := h.s0
  have hlts := h.lts
  have HOB : Hid _ := h.hb
  have hfr := fr_of h.hf
  clear h
  obtain ⟨ns, HN⟩ := named (ps.map fun p => p.1.name)
  have hlen : ps.length = ns.length := by rw [HN.out]; simp
  rw [← HN.out]
  rcases hfr with ⟨rfl, hnil⟩ | ⟨bf, cap, rfl, hl, hn, hm, hc⟩
  · have e0 : ns = [] := by rw [HN.out, hnil]; rfl
    subst e0
    clear hnil hmax
    go_enter Tryd.func30, Tryd.ntmps30
    go_wp2_with fail
    refine (made_cell _ bd bs d0).mono ?_
    rintro e w1 ⟨rfl, hw1⟩
    subst hw1
    go_wp2
    refine wp_loop_rounds 1 ?_
    rw [rounds_succ]
    go_wp2
    go_ret
    exact ⟨_, rfl, World.ownsRow_nil _ _ _ _, Below.refl _ _⟩
  · have HC : Hid (∀ i (h : i < ns.length), ∃ ao l c s, w.cell? ⟨bf, i * 3, none⟩ = some (.string ns[i]) ∧ w.cell? ⟨bf, i * 3 + 1, none⟩ = some (.slice ao l c) ∧ w.cell? ⟨bf, i * 3 + 2, none⟩ = some (.int .i64 s)) := by
      intro i hi
      have hi' : i < ps.length := by rw [hlen]; exact hi
      have h := hc i hi'
      have e : ns[i] = ps[i].1.name := by simp only [HN.out, List.getElem_map]
      obtain ⟨ao, cp, hsv, -⟩ := Own.rd (HOB.out _ (List.getElem_mem hi'))
      rw [hsv] at h
      rw [e]
      exact ⟨_, _, _, _, h⟩
    rw [hlen] at hmax s0 hn
    obtain ⟨m, HM⟩ := named (ns.length)
    rw [← HM.out] at hn hmax s0
    clear hc hlen HOB
    unfold maxLen at hm
    go_enter Tryd.func30, Tryd.ntmps30
    go_wp2_with fail
    refine (made_cell _ bd bs d0).mono ?_
    rintro e w1 ⟨rfl, hw1⟩
    subst hw1
    go_wp2
    go_loopw [3, 17] (fun nv iv wr => ∃ k : Nat, k ≤ m ∧ iv = .int .i64 k ∧ wr.ownsRow w1.heap.size 9 1 nv k ((ns.take k).map .string) ∧ Below w1.heap.size w1 wr) (fun _ iv _ => m - (intOf iv).toNat)
    case atStart => exact ⟨0, by omega, rfl, World.ownsRow_nil _ _ _ _, Below.refl _ _⟩
    case round =>
      obtain ⟨k, hk, rfl, hown, hb⟩ := hrel
      have hsz := hb.size
      by_cases hlt : k < m
      · have hkl : k < ns.length := by rw [← HM.out]; exact hlt
        have HT : Hid ((ns.take (k + 1)).map Value.string = (ns.take k).map Value.string ++ [.string ns[k]]) := by
          rw [List.take_succ_eq_append_getElem hkl, List.map_append]; rfl
        obtain ⟨ao, l, c, s, c0, c1, c2⟩ := HC.out k hkl
        have e : ∀ o, wr.cell? ⟨bf, o, none⟩ = w1.cell? ⟨bf, o, none⟩ := fun o => hb.cell (p := ⟨bf, o, none⟩) hl
        rw [← e] at c0 c1 c2
        clear e
        obtain ⟨xs, HXS⟩ := named ((ns.take k).map Value.string)
        rw [← HXS.out] at hown
        go_wp2_with (at_builtin; go_must (refine wpList_append_vals _ rfl (.tmp 21) (.tmp 24) 59 rfl 9 i0 _ _ Tryd.underlying59 hi hz0 hz1 hz2 rfl w1.heap.size _ rfl k xs ((hown.alloc _).alloc _) _ 1 1 rfl [.string ns[k]] rfl ?_ ?_ ?_ ?_ ?_ ?_))
        · intro j u hj
          cases j with
          | zero => simp at hj; subst hj; exact cell_new2 wr _ _ _
          | succ j => simp at hj
        · intro u hu
          simp at hu
          subst hu
          rfl
        · omega
        · unfold maxLen; omega
        · simp; omega
        · intro v' w' hown' hg
          have hb' : Below w1.heap.size w1 w' := ((hb.alloc (by omega) _).alloc (by simp; omega) _).grown hg (by simp; omega) (fun k hk => (World.ownsRow.lt hown k hk).1)
          clear hg
          go_wp2
          go_roundw
          case rel => exact ⟨k + 1, by omega, by go_num, by rw [HT.out, ← HXS.out]; exact hown', hb'⟩
          case measure => simp [intOf]; omega
      · have hkm : k = m := by omega
        have HK : Hid (ns.take k = ns) := by rw [hkm, HM.out, List.take_length]; rfl
        rw [HK.out] at hown
        go_wp2
        go_ret
        exact ⟨_, rfl, by unfold OwnS; rw [← HM.out, ← hkm]; exact hown, hb⟩

set_option maxRecDepth 100000 in
set_option maxHeartbeats 1000000 in
theorem read_st {w : World} {bd bs bc : Nat} {fv : Value} {ps : List (AF × Value)} {most : Nat} {fuse : Int} {dark : Bool} (h : St w bd bs bc fv ps most fuse dark) (hs : sorted (ps.map Prod.fst)) (hmax : ps.length ≤ 1000) (hu : used (ps.map Prod.fst) ≤ 16777216) (n : ByteArray) :
    Calls Tryd.prog 28 #[.pointer (some ⟨bd, 0, none⟩), .string n] w fun e w' => ∃ v, e = .returned (.tuple #[v, .int .i64 (if dark then 15 else if isF (ps.map Prod.fst) n then 0 else 16)]) ∧
      Own w' w.heap.size v (if dark = true ∨ isF (ps.map Prod.fst) n = false then [] else (lookF (ps.map Prod.fst) n).bytes) ∧ Below w.heap.size w w' := by
  have HFI : Hid _ := find_any h hs hmax n
  have HST : Hid _ := h
  have hltd := h.ltd
  have hlts := h.lts
  clear h hs
  obtain ⟨fs, HF⟩ := named (ps.map Prod.fst)
  have hlen : ps.length = fs.length := by rw [HF.out]; simp
  rw [← HF.out] at HFI hu ⊢
  cases dark with
  | true =>
    simp only [↓reduceIte, true_or] at HFI ⊢
    go_enter Tryd.func28, Tryd.ntmps28
    go_wp2_with fail
    refine Calls.mono HFI.out ?_
    rintro e w1 ⟨rfl, hb⟩
    go_wp2
    go_ret2
    exact ⟨_, rfl, Own.nil _ _, hb⟩
  | false =>
    cases hi : isF fs n with
    | false =>
      simp only [hi, ↓reduceIte, Bool.false_eq_true, or_true] at HFI ⊢
      go_enter Tryd.func28, Tryd.ntmps28
      go_wp2_with fail
      refine Calls.mono HFI.out ?_
      rintro e w1 ⟨rfl, hb⟩
      go_wp2
      go_ret2
      exact ⟨_, rfl, Own.nil _ _, hb⟩
    | true =>
      obtain ⟨hl, hname⟩ := isF_lt hi
      clear hname
      have HL2 : Hid _ := lookF_at hi hl
      simp only [hi, ↓reduceIte, Bool.false_eq_true, Bool.true_eq_false, or_self] at HFI ⊢
      obtain ⟨f, HL⟩ := named (lookF fs n)
      rw [← HL.out]
      have hfl : f.bytes.length ≤ 16777216 := by
        have h1 := used_take fs _ hl
        have h2 := used_take_le fs (posF fs n + 1)
        rw [← HL2.out, ← HL.out] at h1
        omega
      go_enter Tryd.func28, Tryd.ntmps28
      go_wp2_with fail
      refine Calls.mono HFI.out ?_
      rintro e w1 ⟨rfl, hb⟩
      have HST1 : Hid _ := HST.out.below hb
      have d0 := HST1.out.d0
      have s0 := HST1.out.s0
      rcases fr_of HST1.out.hf with ⟨rfl, hnil⟩ | ⟨bf, cap, rfl, hbl, hn, hm, hc⟩
      · rw [hnil] at hlen; simp at hlen; omega
      · obtain ⟨c0, c1, c2⟩ := hc (posF fs n) (by omega)
        have e : ps[posF fs n].1 = f := by rw [HL.out, HL2.out]; simp only [HF.out, List.getElem_map]
        have HOW : Hid _ := HST1.out.hb _ (List.getElem_mem (show posF fs n < ps.length by omega))
        rw [e] at c0 c2 HOW
        obtain ⟨ao, cp, hsv, -⟩ := Own.rd HOW.out
        rw [hsv] at c1 HOW
        clear hc e hsv
        obtain ⟨k, HK⟩ := named (posF fs n)
        rw [← HK.out] at c0 c1 c2 hl ⊢
        rw [hlen] at hn s0
        unfold maxLen at hm
        obtain ⟨m, HM⟩ := named fs.length
        rw [← HM.out] at hl hn s0
        go_wp2_with fail
        refine (concat1 w1 _ f.bytes (Own.rd HOW.out) (by omega)).mono ?_
        rintro e w2 ⟨v2, rfl, hown2, hb2⟩
        go_wp2
        go_ret2
        exact ⟨_, rfl, Own.mono hown2 hb.size, hb.trans (hb2.mono hb.size)⟩
end Go.Proofs.YtffgbjojngnebaaDoor
