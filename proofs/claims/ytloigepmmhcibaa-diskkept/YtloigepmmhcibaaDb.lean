/-
  The contracts of strings.Compare, byName, slices.BinarySearchFunc, the place. Own work.
-/
import Derived.Test.YtloigepmmhcibaaDa
import Derived.Laws.Externs
namespace Go.Proofs.Ytloigepmmhcibaa
open Go.RowKit

/-- the files' slice, as it is read -/
def Fr (w : World) (fv : Value) (ps : List (AF × Value)) : Prop :=
  (fv = .slice none 0 0 ∧ ps = []) ∨ ∃ bf cap, fv = .slice (some ⟨bf, 0, none⟩) ps.length cap ∧ bf < w.heap.size ∧ ps.length ≤ cap ∧ cap ≤ maxLen ∧
    ∀ i (h : i < ps.length), w.cell? ⟨bf, i * 3, none⟩ = some (.string ps[i].1.name) ∧ w.cell? ⟨bf, i * 3 + 1, none⟩ = some ps[i].2 ∧ w.cell? ⟨bf, i * 3 + 2, none⟩ = some (.int .i64 ps[i].1.safe)
theorem fr_of {w : World} {fv : Value} {ps : List (AF × Value)} (h : w.ownsRow 0 83 3 fv ps.length (cellsOf ps)) : Fr w fv ps := by
  rcases h.2 with ⟨rfl, h0⟩ | ⟨g, cap, cur, hv, hb, hg, hn, hm, hs, ht⟩
  · exact .inl ⟨rfl, List.eq_nil_of_length_eq_zero h0⟩
  · refine .inr ⟨g, cap, hv, (Array.getElem?_eq_some_iff.1 hg).1, hn, hm, fun i hi => ?_⟩
    have hc := cellsOf_get ps i hi
    have e : ∀ j u, (cellsOf ps)[j]? = some u → w.cell? ⟨g, j, none⟩ = some u := fun j u hj => by
      have := h.cells (g := g) (by rw [hv]; rfl) j u hj
      rw [← this]
      congr 1
      unfold Addr.add
      split <;> simp_all
    exact ⟨e _ _ hc.1, e _ _ hc.2.1, e _ _ hc.2.2⟩
theorem Fr.below {w w' : World} {fv : Value} {ps : List (AF × Value)} (h : Fr w fv ps) (hb : Below w.heap.size w w') : Fr w' fv ps := by
  rcases h with h | ⟨bf, cap, hv, hl, hn, hm, hc⟩
  · exact .inl h
  · refine .inr ⟨bf, cap, hv, Nat.lt_of_lt_of_le hl hb.size, hn, hm, fun i hi => ?_⟩
    have e : ∀ o, w'.cell? ⟨bf, o, none⟩ = w.cell? ⟨bf, o, none⟩ := fun o => hb.cell (p := ⟨bf, o, none⟩) hl
    rw [e, e, e]
    exact hc i hi

set_option maxRecDepth 100000 in
set_option maxHeartbeats 400000 in
theorem compareS_any (a b : ByteArray) (w : World) : Calls Try.prog 96 #[.string a, .string b] w fun e w' => e = .returned (.int .i64 (cmpB a b)) ∧ w' = w := by
  have hx : (callFunc 102 #[.string a, .string b]).run Try.prog w = .ok (.value (.int .i64 (cmpB a b))) w := by
    rw [run_callFunc_extern Try.func102 (by kernel_rfl) (by kernel_rfl) (by kernel_rfl) (e := Extern.BytealgCompare.compare) (by kernel_rfl), Lib.run_compareString]
    rfl
  go_enter Try.func96, Try.ntmps96
  go_wp2_with (simp only [hx])
  go_ret
  exact ⟨rfl, rfl⟩
set_option maxRecDepth 100000 in
set_option maxHeartbeats 400000 in
theorem compare_any (a b : ByteArray) (w : World) : Calls Try.prog 77 #[.string a, .string b] w fun e w' => e = .returned (.int .i64 (cmpB a b)) ∧ w' = w := by
  go_enter Try.func77, Try.ntmps77
  go_wp2_with fail
  refine (compareS_any _ _ _).mono ?_
  rintro e w' ⟨rfl, rfl⟩
  go_wp2
  go_ret
  exact ⟨rfl, rfl⟩

set_option maxRecDepth 100000 in
set_option maxHeartbeats 400000 in
theorem byName_any (a b : ByteArray) (v s : Value) (w : World) : Calls Try.prog 42 #[.agg #[.string a, v, s], .string b] w fun e w' => e = .returned (.int .i64 (cmpB a b)) ∧ Below w.heap.size w w' := by
  go_enter Try.func42, Try.ntmps42
  go_wp2_with fail
  refine (compare_any _ _ _).mono ?_
  rintro e w' ⟨rfl, rfl⟩
  go_wp2
  go_ret
  exact ⟨rfl, (Below.refl _ _).alloc (Nat.le_refl _) _⟩

set_option maxRecDepth 100000 in
set_option maxHeartbeats 1000000 in
theorem bsearch_any (fv : Value) (ps : List (AF × Value)) (n : ByteArray) (w : World) (hfr : Fr w fv ps) (hs : sorted (ps.map Prod.fst)) (hmax : ps.length ≤ 1000) :
    Calls Try.prog 41 #[fv, .string n, .func (.func 42) #[] #[]] w fun e w' => e = .returned (.tuple #[.int .i64 (posF (ps.map Prod.fst) n), .bool (isF (ps.map Prod.fst) n)]) ∧ Below w.heap.size w w' := by
  obtain ⟨fs, HF⟩ := named (ps.map Prod.fst)
  rw [← HF.out] at hs ⊢
  rcases hfr with ⟨rfl, hnil⟩ | ⟨bf, cap, rfl, hl, hn, hm, hc⟩
  · have e0 : fs = [] := by rw [HF.out, hnil]; rfl
    subst e0
    clear hnil hmax
    go_enter Try.func41, Try.ntmps41
    go_wp2
    refine wp_loop_rounds 1 ?_
    rw [rounds_succ]
    go_wp2
    go_ret2
    exact ⟨rfl, Below.refl _ _⟩
  · have HS : Hid (sorted fs) := hs
    have HC : Hid (∀ i (h : i < fs.length), ∃ v s, w.cell? ⟨bf, i * 3, none⟩ = some (.string fs[i].name) ∧ w.cell? ⟨bf, i * 3 + 1, none⟩ = some v ∧ w.cell? ⟨bf, i * 3 + 2, none⟩ = some s ) := by
      intro i hi
      have hi' : i < ps.length := by rw [HF.out] at hi; simpa using hi
      have h := hc i hi'
      have e : fs[i].name = ps[i].1.name := by simp only [HF.out, List.getElem_map]
      exact ⟨_, _, by rw [e]; exact h.1, h.2.1, h.2.2⟩
    have hlen : ps.length = fs.length := by rw [HF.out]; simp
    obtain ⟨m, HM⟩ := named (ps.length)
    have HL : Hid (m = fs.length) := by rw [HM.out, hlen]; rfl
    rw [← HM.out] at hn hmax ⊢
    clear hc hs hlen hn
    unfold maxLen at hm
    go_enter Try.func41, Try.ntmps41
    go_wp2
    go_loopw [9, 10] (fun iv jv wr => ∃ i j : Nat, iv = .int .i64 i ∧ jv = .int .i64 j ∧ i ≤ j ∧ j ≤ m ∧ (∀ k (h : k < fs.length), k < i → cmpB fs[k].name n < 0) ∧ (∀ k (h : k < fs.length), j ≤ k → 0 ≤ cmpB fs[k].name n) ∧ Below w.heap.size w wr) (fun iv jv _ => (intOf jv).toNat - (intOf iv).toNat)
    case atStart => exact ⟨0, m, rfl, rfl, by omega, by omega, fun k h hk => by omega, fun k h hk => by have := HL.out; omega, Below.refl _ _⟩
    case round =>
      obtain ⟨i, j, rfl, rfl, hij, hjm, hlo, hhi, hb⟩ := hrel
      have HLO : Hid _ := hlo
      have HHI : Hid _ := hhi
      clear hlo hhi
      have hsz := hb.size
      by_cases hlt : i < j
      · obtain ⟨h, HH⟩ := named ((i + j) / 2)
        have hh1 : ((i : Int) + (j : Int)) / 2 = (h : Int) := by rw [HH.out]; omega
        have hh2 : i ≤ h := by rw [HH.out]; omega
        have hh3 : h < j := by rw [HH.out]; omega
        have hhl : h < fs.length := by rw [← HL.out]; omega
        obtain ⟨v, s, c0, c1, c2⟩ := HC.out h hhl
        have e : ∀ o, wr.cell? ⟨bf, o, none⟩ = w.cell? ⟨bf, o, none⟩ := fun o => hb.cell (p := ⟨bf, o, none⟩) hl
        rw [← e] at c0 c1 c2
        clear e
        go_wp2_with fail
        refine (byName_any _ _ _ _ _).mono ?_
        rintro e w1 ⟨rfl, hb1⟩
        have hb2 := hb.trans (hb1.mono hb.size)
        obtain ⟨c, HCM⟩ := named (cmpB fs[h].name n)
        rw [← HCM.out]
        have hcr := cmpB_range fs[h].name n
        rw [← HCM.out] at hcr
        clear hb1 hb
        by_cases hneg : c < 0
        · go_wp2
          go_roundw
          case rel =>
            refine ⟨h + 1, j, by go_num, rfl, by omega, hjm, fun k hk hk1 => ?_, HHI.out, hb2⟩
            by_cases e : k = h
            · subst e; rw [← HCM.out]; exact hneg
            · exact cmpB_trans (sorted_lt HS.out k h hhl (by omega)) (by rw [← HCM.out]; exact hneg)
          case measure => simp [intOf]; omega
        · go_wp2
          go_roundw
          case rel =>
            refine ⟨i, h, rfl, rfl, hh2, by omega, HLO.out, fun k hk hk1 => ?_, hb2⟩
            by_cases e : k = h
            · subst e; rw [← HCM.out]; omega
            · have h1 := sorted_lt HS.out h k hk (by omega)
              have h2 : 0 ≤ cmpB fs[h].name n := by rw [← HCM.out]; omega
              have h3 := cmpB_anti n fs[h].name
              have h4 := cmpB_anti n fs[k].name
              by_cases e0 : cmpB fs[h].name n = 0
              · rw [cmpB_zero e0] at h1; omega
              · have := cmpB_trans (show cmpB n fs[h].name < 0 by omega) h1
                omega
          case measure => simp [intOf]; omega
      · have hije : i = j := by omega
        subst hije
        have hpos : posF fs n = i := posF_eq fs n i (by have := HL.out; omega) HLO.out (fun h => HHI.out i h (Nat.le_refl _))
        have HP : Hid (posF fs n = i) := hpos
        clear hpos
        by_cases him : i < m
        · have hil : i < fs.length := by rw [← HL.out]; exact him
          obtain ⟨v, s, c0, c1, c2⟩ := HC.out i hil
          have e : ∀ o, wr.cell? ⟨bf, o, none⟩ = w.cell? ⟨bf, o, none⟩ := fun o => hb.cell (p := ⟨bf, o, none⟩) hl
          rw [← e] at c0 c1 c2
          clear e
          go_wp2_with fail
          refine (byName_any _ _ _ _ _).mono ?_
          rintro e w1 ⟨rfl, hb1⟩
          have hb2 := hb.trans (hb1.mono hb.size)
          obtain ⟨c, HCM⟩ := named (cmpB fs[i].name n)
          rw [← HCM.out]
          clear hb1 hb
          have HI : Hid (isF fs n = (c == 0)) := by
            unfold isF
            rw [HP.out, List.getElem?_eq_getElem hil, HCM.out]
            rfl
          go_wp2
          go_ret2
          refine ⟨?_, hb2⟩
          rw [HP.out, HI.out]
          rfl
        · have HI : Hid (isF fs n = false) := by
            unfold isF
            rw [HP.out, List.getElem?_eq_none (by have := HL.out; omega)]
            rfl
          go_wp2
          go_ret2
          exact ⟨by rw [HP.out, HI.out]; rfl, hb⟩
end Go.Proofs.Ytloigepmmhcibaa
