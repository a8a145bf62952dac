/-
  Where a run stands behind a step; the contract of a step. Own work.
-/
import Derived.Test.YtlngeonfabahnaaDoorQl
namespace Go.Proofs.YtlngeonfabahnaaDoor
open Go Go.RowKit
set_option linter.unusedSimpArgs false
set_option linter.unusedVariables false

theorem insAt_get (code : List Ins) (q : Nat) (h : q < code.length) : insAt code (q : Int) = code[q] := by
  unfold insAt
  rw [Int.toNat_natCast, List.getD_eq_getElem?_getD, List.getElem?_eq_getElem h]
  rfl
theorem ok_fit {p : Prg} (h : okP p 20 = true) (q : Nat) (hq : q < p.code.length) : Fit p.code.length p.code[q] := by
  unfold okP at h
  simp only [Bool.and_eq_true, decide_eq_true_eq] at h
  obtain ⟨⟨⟨⟨-, h2⟩, -⟩, -⟩, h5⟩ := h
  exact fit_of (List.all_eq_true.1 h5 _ (List.getElem_mem hq)) h2.2
theorem ok_ends {p : Prg} (h : okP p 20 = true) : ∃ m, p.code.length = m + 1 ∧ ∀ hm : m < p.code.length, (p.code[m].op = 8 ∨ p.code[m].op = 15 ∨ p.code[m].op = 16) := by
  unfold okP at h
  simp only [Bool.and_eq_true, decide_eq_true_eq] at h
  obtain ⟨⟨⟨⟨-, -⟩, -⟩, h4⟩, -⟩ := h
  have h0 : p.code.length ≠ 0 := fun hl => by
    have : p.code = [] := List.eq_nil_of_length_eq_zero hl
    rw [this] at h4
    cases h4
  obtain ⟨m, hm⟩ := Nat.exists_eq_succ_of_ne_zero h0
  refine ⟨m, hm, fun hlt => ?_⟩
  rw [ends_at p.code m hm] at h4
  simpa using h4
theorem ok_len {p : Prg} (h : okP p 20 = true) : 0 < p.code.length ∧ p.code.length ≤ 500 := by
  obtain ⟨m, hm, -⟩ := ok_ends h
  unfold okP at h
  simp only [Bool.and_eq_true, decide_eq_true_eq] at h
  exact ⟨by omega, h.1.1.2⟩
/-- the place is one of the program's -/
def InP (p : Prg) (s : St) : Prop := 0 ≤ s.place ∧ s.place < p.code.length
theorem cnt_place (x : St × Bool) : (cnt x).place = x.1.place ∧ (cnt x).at_ = x.1.at_ := by
  unfold cnt
  split <;> exact ⟨rfl, rfl⟩
theorem step_in {p : Prg} (hok : okP p 20 = true) (kn : Int → Option Oc) (sg : List Int) (s : St) (hp : InP p s) (h : (step kn sg p.code s).at_ = 0) : InP p (step kn sg p.code s) := by
  obtain ⟨q, hq⟩ := Int.eq_ofNat_of_zero_le hp.1
  have hlt : q < p.code.length := by have := hp.2; omega
  have F := ok_fit hok q hlt
  have hi : insAt p.code s.place = p.code[q] := by rw [hq]; exact insAt_get _ _ hlt
  obtain ⟨m, hm, hend⟩ := ok_ends hok
  unfold step doI at h ⊢
  rw [hi] at h ⊢
  obtain ⟨h1, h2, h3⟩ := actI_place kn sg p.code[q] (s.go (s.place + 1))
  have c1 := (cnt_place (actI kn sg p.code[q] (s.go (s.place + 1)))).1
  have c2 := (cnt_place (actI kn sg p.code[q] (s.go (s.place + 1)))).2
  rw [c2] at h
  unfold InP
  rw [c1]
  have hpl : (s.go (s.place + 1)).place = s.place + 1 := rfl
  rw [hpl] at h1
  by_cases h8 : p.code[q].op = 8 ∨ p.code[q].op = 9
  · have hn := F.n h8
    rcases h1 with h1 | ⟨-, h1⟩
    · by_cases h8' : p.code[q].op = 8
      · rw [h2 h8']; exact hn
      · rw [h1]
        have hqm : q ≠ m := by
          rintro rfl
          rcases hend hlt with e | e | e <;> omega
        omega
    · rw [h1]; exact hn
  · rcases h1 with h1 | ⟨h8', -⟩
    · rw [h1]
      have hqm : q ≠ m := by
        rintro rfl
        rcases hend hlt with e | e | e
        · exact h8 (.inl e)
        · have := h3 (.inl e); omega
        · have := h3 (.inr e); omega
      omega
    · exact absurd h8' h8
/-- a step, where there is fuel for one -/
def stepF (kn : Int → Option Oc) (sg : List Int) (code : List Ins) (fuel : Nat) (s : St) : St := if s.steps = fuel then { s with at_ := 4 } else step kn sg code s

set_option maxRecDepth 100000 in
set_option maxHeartbeats 1600000 in
theorem step_any {W : World} {b mb : Nat} {cv sv : Value} {w : World} {s : St} {kn : Int → Option Oc} {sg : List Int} (E : Ev W b mb sv kn sg) (h : Rn W b cv (.map (some mb)) sv w s) (p : Prg) (hok : okP p 20 = true) (hcv : RdC W cv p.code)
    (hp : InP p s) (hsg : s.sig ≤ sg.length) (fuel : Nat) (hfu : fuel ≤ 10000) (hst : s.steps ≤ fuel) :
    Calls Tryd.prog 24 #[.pointer (some ⟨b, 0, none⟩), .int .i64 fuel] w fun e w' => e = .returned (.tuple #[]) ∧ Rn W b cv (.map (some mb)) sv w' (stepF kn sg p.code fuel s) := by
  have hbl : b < w.heap.size := h.lt
  obtain ⟨st, HST⟩ := named s.steps
  have c26 : w.cell? ⟨b, 26, none⟩ = some (.int .i64 st) := by rw [HST.out]; exact h.cell.2.2.2.2.2.2
  rw [← HST.out] at hst
  by_cases he : st = fuel
  · have e : stepF kn sg p.code fuel s = { s with at_ := 4 } := if_pos (by rw [← HST.out]; exact he)
    rw [e]
    have heI : (st : Int) = (fuel : Int) := by rw [he]
    have heb : ((st : Int) == (fuel : Int)) = true := by rw [heI]; simp
    have c20 := h.cell.2.2.2.2.1
    have f20 := h.free 20
    have H := hide (h.stand 4)
    clear h he
    go_enter Tryd.func24, Tryd.ntmps24
    go_wp2
    refine bodyPost_ret (v := .tuple #[]) (by simp [results, Tryd.results24, go_sem]) rfl ?_
    exact ⟨rfl, H.out⟩
  · have e : stepF kn sg p.code fuel s = step kn sg p.code s := if_neg (by rw [← HST.out]; exact he)
    rw [e]
    have heI : ¬ (st : Int) = (fuel : Int) := by omega
    have heb : ((st : Int) == (fuel : Int)) = false := beq_eq_false_iff_ne.2 heI
    obtain ⟨q, hq⟩ := Int.eq_ofNat_of_zero_le hp.1
    have hlt : q < p.code.length := by have := hp.2; omega
    obtain ⟨hl0, hl1⟩ := ok_len hok
    have F := ok_fit hok q hlt
    have hi : insAt p.code s.place = p.code[q] := by rw [hq]; exact insAt_get _ _ hlt
    have hbW : b = W.heap.size := E.bw
    have h2 := h.drew
    have hcvw : RdC w.drew cv p.code := hcv.below (by rw [← hbW]; exact h2.below)
    obtain ⟨ao, cap, hcvs, -⟩ := hcvw.shape
    subst hcvs
    obtain ⟨g, off, hao, hgl, y0, y1, y2, y3, y4, y5⟩ := hcvw.at q hlt
    subst hao
    have hst2 : step kn sg p.code s = cnt (doI kn sg p.code[q] s) := by unfold step; rw [hi]
    rw [hst2]
    have hcl := do_any E h2 ⟨hp.1, by have := hp.2; omega⟩ hsg p.code[q] F
    obtain ⟨⟨op, a, k, c, n, t⟩, HI⟩ := named (p.code[q])
    rw [← HI.out] at hcl y0 y1 y2 y3 y4 y5 ⊢
    simp only at y0 y1 y2 y3 y4 y5
    have hcl : Calls Tryd.prog 31 #[.pointer (some ⟨b, 0, none⟩), .agg #[.int .u8 (op : Int), .int .i64 a, .int .i64 k, .int .i64 c, .int .i64 n, .string t]] w.drew _ := hcl
    obtain ⟨L, HL⟩ := named p.code.length
    rw [← HL.out] at hlt hcl h2 ⊢
    obtain ⟨R, HR⟩ := named (doI kn sg ⟨op, a, k, c, n, t⟩ s)
    have hRs : R.1.steps = st := by rw [HR.out, HST.out]; exact doI_steps _ _ _ _
    rw [← HR.out] at hcl ⊢
    have c0 : w.drew.cell? ⟨b, 0, none⟩ = some (.slice (some ⟨g, off, none⟩) L cap) := h2.cell.1
    have c19 : w.drew.cell? ⟨b, 19, none⟩ = some (.int .i64 q) := by have := h2.cell.2.2.2.1; rw [hq] at this; exact this
    have hs0 : w.drew.cell? ⟨b, 0, none⟩ = some (.slice (some ⟨g, off, none⟩) L cap) ∧ w.drew.cell? ⟨b, 19, none⟩ = some (.int .i64 q) ∧ w.drew.cell? ⟨g, off + q * 6, none⟩ = some (.int .u8 op) ∧ w.drew.cell? ⟨g, off + q * 6 + 1, none⟩ = some (.int .i64 a) ∧ w.drew.cell? ⟨g, off + q * 6 + 2, none⟩ = some (.int .i64 k) ∧ w.drew.cell? ⟨g, off + q * 6 + 3, none⟩ = some (.int .i64 c) ∧ w.drew.cell? ⟨g, off + q * 6 + 4, none⟩ = some (.int .i64 n) ∧ w.drew.cell? ⟨g, off + q * 6 + 5, none⟩ = some (.string t) := ⟨c0, c19, y0, y1, y2, y3, y4, y5⟩
    have hqL : (q : Int) < (L : Int) := by omega
    have hwr : IntKind.i64.wrap ((st : Int) + 1) = ((st + 1 : Nat) : Int) := by rw [wrap_in _ (by omega) (by omega)]; omega
    clear h h2 hcvw hcv hi hst2 hq hbW hp e he c0 c19 y0 y1 y2 y3 y4 y5 hgl
    obtain ⟨R1, R2⟩ := R
    simp only at hRs hcl
    have hcn : cnt (R1, R2) = if R2 = true then { R1 with steps := st + 1 } else R1 := by rw [← hRs]; rfl
    rw [hcn]
    have HCN := hide hcn
    clear hcn
    cases R2 with
    | false =>
      go_enter Tryd.func24, Tryd.ntmps24
      go_wp2_with fail
      refine wp_region_E 11 (fun w' => w'.cell? ⟨b, 0, none⟩ = some (.slice (some ⟨g, off, none⟩) L cap) ∧ w'.cell? ⟨b, 19, none⟩ = some (.int .i64 q) ∧ w'.cell? ⟨g, off + q * 6, none⟩ = some (.int .u8 op) ∧ w'.cell? ⟨g, off + q * 6 + 1, none⟩ = some (.int .i64 a) ∧ w'.cell? ⟨g, off + q * 6 + 2, none⟩ = some (.int .i64 k) ∧ w'.cell? ⟨g, off + q * 6 + 3, none⟩ = some (.int .i64 c) ∧ w'.cell? ⟨g, off + q * 6 + 4, none⟩ = some (.int .i64 n) ∧ w'.cell? ⟨g, off + q * 6 + 5, none⟩ = some (.string t)) (by kernel_rfl) ?_
      refine wpAnyE_take 0 [11] (oi := { dst := some 15, op := Go.Op.move (Go.Operand.tmp 0), type := 64, pos := "run.go:57", after := #[], guard := none }) (v := ?_) rfl (by kernel_rfl) (by kernel_rfl) (by kernel_rfl) (by kernel_rfl) (fun _ _ _ h => h) (Or.inl ⟨by rfl, ?hE1⟩) hs0 ?_
      case hE1 =>
        intro u hu
        obtain ⟨u0, u1, u2, u3, u4, u5, u6, u7⟩ := hu
        go_simp
        try with_reducible rfl
      simp only [Act.put, List.setIfInBounds_toArray, List.set_cons_zero, List.set_cons_succ]
      refine wpAnyE_take 1 [2, 3, 4, 9, 10, 11] (oi := { dst := some 16, op := Go.Op.move (Go.Operand.tmp 0), type := 64, pos := "run.go:57", after := #[], guard := none }) (v := ?_) rfl (by kernel_rfl) (by kernel_rfl) (by kernel_rfl) (by kernel_rfl) (fun _ _ _ h => h) (Or.inl ⟨by rfl, ?hE2⟩) hs0 ?_
      case hE2 =>
        intro u hu
        obtain ⟨u0, u1, u2, u3, u4, u5, u6, u7⟩ := hu
        go_simp
        try with_reducible rfl
      simp only [Act.put, List.setIfInBounds_toArray, List.set_cons_zero, List.set_cons_succ]
      refine wpAnyE_take 2 [3, 4, 9, 10, 11] (oi := { dst := some 17, op := Go.Op.nilCheck (Go.Operand.tmp 16), type := 0, pos := "run.go:57", after := #[{ on := 1, ground := Go.Ground.data }], guard := none }) (v := ?_) rfl (by kernel_rfl) (by kernel_rfl) (by kernel_rfl) (by kernel_rfl) (fun _ _ _ h => h) (Or.inl ⟨by rfl, ?hE3⟩) hs0 ?_
      case hE3 =>
        intro u hu
        obtain ⟨u0, u1, u2, u3, u4, u5, u6, u7⟩ := hu
        go_simp
        try with_reducible rfl
      simp only [Act.put, List.setIfInBounds_toArray, List.set_cons_zero, List.set_cons_succ]
      refine wpAnyE_take 3 [4, 9, 10, 11] (oi := { dst := some 18, op := Go.Op.fieldAddr 69 (Go.Operand.tmp 17) 0, type := 0, pos := "run.go:57", after := #[{ on := 2, ground := Go.Ground.data }], guard := none }) (v := ?_) rfl (by kernel_rfl) (by kernel_rfl) (by kernel_rfl) (by kernel_rfl) (fun _ _ _ h => h) (Or.inl ⟨by rfl, ?hE4⟩) hs0 ?_
      case hE4 =>
        intro u hu
        obtain ⟨u0, u1, u2, u3, u4, u5, u6, u7⟩ := hu
        go_simp
        try with_reducible rfl
      simp only [Act.put, List.setIfInBounds_toArray, List.set_cons_zero, List.set_cons_succ]
      refine wpAnyE_take 4 [9, 10, 11] (oi := { dst := some 19, op := Go.Op.load 22 (Go.Operand.tmp 18), type := 22, pos := "run.go:57", after := #[{ on := 3, ground := Go.Ground.data }], guard := none }) (v := ?_) rfl (by kernel_rfl) (by kernel_rfl) (by kernel_rfl) (by kernel_rfl) (fun _ _ _ h => h) (Or.inl ⟨by rfl, ?hE5⟩) hs0 ?_
      case hE5 =>
        intro u hu
        obtain ⟨u0, u1, u2, u3, u4, u5, u6, u7⟩ := hu
        go_simp
        try with_reducible rfl
      simp only [Act.put, List.setIfInBounds_toArray, List.set_cons_zero, List.set_cons_succ]
      refine wpAnyE_take 5 [6, 7, 8, 9, 10, 11] (oi := { dst := some 20, op := Go.Op.move (Go.Operand.tmp 0), type := 64, pos := "run.go:57", after := #[], guard := none }) (v := ?_) rfl (by kernel_rfl) (by kernel_rfl) (by kernel_rfl) (by kernel_rfl) (fun _ _ _ h => h) (Or.inl ⟨by rfl, ?hE6⟩) hs0 ?_
      case hE6 =>
        intro u hu
        obtain ⟨u0, u1, u2, u3, u4, u5, u6, u7⟩ := hu
        go_simp
        try with_reducible rfl
      simp only [Act.put, List.setIfInBounds_toArray, List.set_cons_zero, List.set_cons_succ]
      refine wpAnyE_take 6 [7, 8, 9, 10, 11] (oi := { dst := some 21, op := Go.Op.nilCheck (Go.Operand.tmp 20), type := 0, pos := "run.go:57", after := #[{ on := 5, ground := Go.Ground.data }], guard := none }) (v := ?_) rfl (by kernel_rfl) (by kernel_rfl) (by kernel_rfl) (by kernel_rfl) (fun _ _ _ h => h) (Or.inl ⟨by rfl, ?hE7⟩) hs0 ?_
      case hE7 =>
        intro u hu
        obtain ⟨u0, u1, u2, u3, u4, u5, u6, u7⟩ := hu
        go_simp
        try with_reducible rfl
      simp only [Act.put, List.setIfInBounds_toArray, List.set_cons_zero, List.set_cons_succ]
      refine wpAnyE_take 7 [8, 9, 10, 11] (oi := { dst := some 22, op := Go.Op.fieldAddr 69 (Go.Operand.tmp 21) 4, type := 0, pos := "run.go:57", after := #[{ on := 6, ground := Go.Ground.data }], guard := none }) (v := ?_) rfl (by kernel_rfl) (by kernel_rfl) (by kernel_rfl) (by kernel_rfl) (fun _ _ _ h => h) (Or.inl ⟨by rfl, ?hE8⟩) hs0 ?_
      case hE8 =>
        intro u hu
        obtain ⟨u0, u1, u2, u3, u4, u5, u6, u7⟩ := hu
        go_simp
        try with_reducible rfl
      simp only [Act.put, List.setIfInBounds_toArray, List.set_cons_zero, List.set_cons_succ]
      refine wpAnyE_take 8 [9, 10, 11] (oi := { dst := some 23, op := Go.Op.load 3 (Go.Operand.tmp 22), type := 3, pos := "run.go:57", after := #[{ on := 7, ground := Go.Ground.data }], guard := none }) (v := ?_) rfl (by kernel_rfl) (by kernel_rfl) (by kernel_rfl) (by kernel_rfl) (fun _ _ _ h => h) (Or.inl ⟨by rfl, ?hE9⟩) hs0 ?_
      case hE9 =>
        intro u hu
        obtain ⟨u0, u1, u2, u3, u4, u5, u6, u7⟩ := hu
        go_simp
        try with_reducible rfl
      simp only [Act.put, List.setIfInBounds_toArray, List.set_cons_zero, List.set_cons_succ]
      refine wpAnyE_take 9 [10, 11] (oi := { dst := some 24, op := Go.Op.indexAddr 22 (Go.Operand.tmp 19) (Go.Operand.tmp 23), type := 0, pos := "run.go:57", after := #[{ on := 4, ground := Go.Ground.data }, { on := 8, ground := Go.Ground.data }], guard := none }) (v := ?_) rfl (by kernel_rfl) (by kernel_rfl) (by kernel_rfl) (by kernel_rfl) (fun _ _ _ h => h) (Or.inl ⟨by rfl, ?hE10⟩) hs0 ?_
      case hE10 =>
        intro u hu
        obtain ⟨u0, u1, u2, u3, u4, u5, u6, u7⟩ := hu
        go_simp
        try with_reducible rfl
      simp only [Act.put, List.setIfInBounds_toArray, List.set_cons_zero, List.set_cons_succ]
      refine wpAnyE_take 10 [11] (oi := { dst := some 25, op := Go.Op.load 52 (Go.Operand.tmp 24), type := 52, pos := "run.go:57", after := #[{ on := 9, ground := Go.Ground.data }], guard := none }) (v := ?_) rfl (by kernel_rfl) (by kernel_rfl) (by kernel_rfl) (by kernel_rfl) (fun _ _ _ h => h) (Or.inl ⟨by rfl, ?hE11⟩) hs0 ?_
      case hE11 =>
        intro u hu
        obtain ⟨u0, u1, u2, u3, u4, u5, u6, u7⟩ := hu
        go_simp
        try with_reducible rfl
      simp only [Act.put, List.setIfInBounds_toArray, List.set_cons_zero, List.set_cons_succ]
      refine wpAnyE_one (i := 11) (o := { dst := some 26, op := Go.Op.call { callee := Go.Callee.value (Go.Operand.func 31), args := #[Go.Operand.tmp 15, Go.Operand.tmp 25], argTypes := #[64, 52] }, type := 4, pos := "run.go:57", after := #[{ on := 0, ground := Go.Ground.data }, { on := 10, ground := Go.Ground.data }], guard := none }) (by kernel_rfl) rfl (fun K hK => ?_)
      go_simp
      (with_reducible refine Calls.mono hcl ?_)
      rintro e w2 ⟨rfl, h2⟩
      have H := hide h2
      clear h2 hcl
      refine hK _ _ (fun h => absurd rfl h) ?_
      clear hK K
      try simp only [Act.put, List.setIfInBounds_toArray, List.set_cons_zero, List.set_cons_succ]
      refine wpAnyE_done (by kernel_rfl) ?_
      go_wp2
      go_end0
      exact ⟨rfl, H.out⟩
    | true =>
      go_enter Tryd.func24, Tryd.ntmps24
      go_wp2_with fail
      refine wp_region_E 11 (fun w' => w'.cell? ⟨b, 0, none⟩ = some (.slice (some ⟨g, off, none⟩) L cap) ∧ w'.cell? ⟨b, 19, none⟩ = some (.int .i64 q) ∧ w'.cell? ⟨g, off + q * 6, none⟩ = some (.int .u8 op) ∧ w'.cell? ⟨g, off + q * 6 + 1, none⟩ = some (.int .i64 a) ∧ w'.cell? ⟨g, off + q * 6 + 2, none⟩ = some (.int .i64 k) ∧ w'.cell? ⟨g, off + q * 6 + 3, none⟩ = some (.int .i64 c) ∧ w'.cell? ⟨g, off + q * 6 + 4, none⟩ = some (.int .i64 n) ∧ w'.cell? ⟨g, off + q * 6 + 5, none⟩ = some (.string t)) (by kernel_rfl) ?_
      refine wpAnyE_take 0 [11] (oi := { dst := some 15, op := Go.Op.move (Go.Operand.tmp 0), type := 64, pos := "run.go:57", after := #[], guard := none }) (v := ?_) rfl (by kernel_rfl) (by kernel_rfl) (by kernel_rfl) (by kernel_rfl) (fun _ _ _ h => h) (Or.inl ⟨by rfl, ?hE12⟩) hs0 ?_
      case hE12 =>
        intro u hu
        obtain ⟨u0, u1, u2, u3, u4, u5, u6, u7⟩ := hu
        go_simp
        try with_reducible rfl
      simp only [Act.put, List.setIfInBounds_toArray, List.set_cons_zero, List.set_cons_succ]
      refine wpAnyE_take 1 [2, 3, 4, 9, 10, 11] (oi := { dst := some 16, op := Go.Op.move (Go.Operand.tmp 0), type := 64, pos := "run.go:57", after := #[], guard := none }) (v := ?_) rfl (by kernel_rfl) (by kernel_rfl) (by kernel_rfl) (by kernel_rfl) (fun _ _ _ h => h) (Or.inl ⟨by rfl, ?hE13⟩) hs0 ?_
      case hE13 =>
        intro u hu
        obtain ⟨u0, u1, u2, u3, u4, u5, u6, u7⟩ := hu
        go_simp
        try with_reducible rfl
      simp only [Act.put, List.setIfInBounds_toArray, List.set_cons_zero, List.set_cons_succ]
      refine wpAnyE_take 2 [3, 4, 9, 10, 11] (oi := { dst := some 17, op := Go.Op.nilCheck (Go.Operand.tmp 16), type := 0, pos := "run.go:57", after := #[{ on := 1, ground := Go.Ground.data }], guard := none }) (v := ?_) rfl (by kernel_rfl) (by kernel_rfl) (by kernel_rfl) (by kernel_rfl) (fun _ _ _ h => h) (Or.inl ⟨by rfl, ?hE14⟩) hs0 ?_
      case hE14 =>
        intro u hu
        obtain ⟨u0, u1, u2, u3, u4, u5, u6, u7⟩ := hu
        go_simp
        try with_reducible rfl
      simp only [Act.put, List.setIfInBounds_toArray, List.set_cons_zero, List.set_cons_succ]
      refine wpAnyE_take 3 [4, 9, 10, 11] (oi := { dst := some 18, op := Go.Op.fieldAddr 69 (Go.Operand.tmp 17) 0, type := 0, pos := "run.go:57", after := #[{ on := 2, ground := Go.Ground.data }], guard := none }) (v := ?_) rfl (by kernel_rfl) (by kernel_rfl) (by kernel_rfl) (by kernel_rfl) (fun _ _ _ h => h) (Or.inl ⟨by rfl, ?hE15⟩) hs0 ?_
      case hE15 =>
        intro u hu
        obtain ⟨u0, u1, u2, u3, u4, u5, u6, u7⟩ := hu
        go_simp
        try with_reducible rfl
      simp only [Act.put, List.setIfInBounds_toArray, List.set_cons_zero, List.set_cons_succ]
      refine wpAnyE_take 4 [9, 10, 11] (oi := { dst := some 19, op := Go.Op.load 22 (Go.Operand.tmp 18), type := 22, pos := "run.go:57", after := #[{ on := 3, ground := Go.Ground.data }], guard := none }) (v := ?_) rfl (by kernel_rfl) (by kernel_rfl) (by kernel_rfl) (by kernel_rfl) (fun _ _ _ h => h) (Or.inl ⟨by rfl, ?hE16⟩) hs0 ?_
      case hE16 =>
        intro u hu
        obtain ⟨u0, u1, u2, u3, u4, u5, u6, u7⟩ := hu
        go_simp
        try with_reducible rfl
      simp only [Act.put, List.setIfInBounds_toArray, List.set_cons_zero, List.set_cons_succ]
      refine wpAnyE_take 5 [6, 7, 8, 9, 10, 11] (oi := { dst := some 20, op := Go.Op.move (Go.Operand.tmp 0), type := 64, pos := "run.go:57", after := #[], guard := none }) (v := ?_) rfl (by kernel_rfl) (by kernel_rfl) (by kernel_rfl) (by kernel_rfl) (fun _ _ _ h => h) (Or.inl ⟨by rfl, ?hE17⟩) hs0 ?_
      case hE17 =>
        intro u hu
        obtain ⟨u0, u1, u2, u3, u4, u5, u6, u7⟩ := hu
        go_simp
        try with_reducible rfl
      simp only [Act.put, List.setIfInBounds_toArray, List.set_cons_zero, List.set_cons_succ]
      refine wpAnyE_take 6 [7, 8, 9, 10, 11] (oi := { dst := some 21, op := Go.Op.nilCheck (Go.Operand.tmp 20), type := 0, pos := "run.go:57", after := #[{ on := 5, ground := Go.Ground.data }], guard := none }) (v := ?_) rfl (by kernel_rfl) (by kernel_rfl) (by kernel_rfl) (by kernel_rfl) (fun _ _ _ h => h) (Or.inl ⟨by rfl, ?hE18⟩) hs0 ?_
      case hE18 =>
        intro u hu
        obtain ⟨u0, u1, u2, u3, u4, u5, u6, u7⟩ := hu
        go_simp
        try with_reducible rfl
      simp only [Act.put, List.setIfInBounds_toArray, List.set_cons_zero, List.set_cons_succ]
      refine wpAnyE_take 7 [8, 9, 10, 11] (oi := { dst := some 22, op := Go.Op.fieldAddr 69 (Go.Operand.tmp 21) 4, type := 0, pos := "run.go:57", after := #[{ on := 6, ground := Go.Ground.data }], guard := none }) (v := ?_) rfl (by kernel_rfl) (by kernel_rfl) (by kernel_rfl) (by kernel_rfl) (fun _ _ _ h => h) (Or.inl ⟨by rfl, ?hE19⟩) hs0 ?_
      case hE19 =>
        intro u hu
        obtain ⟨u0, u1, u2, u3, u4, u5, u6, u7⟩ := hu
        go_simp
        try with_reducible rfl
      simp only [Act.put, List.setIfInBounds_toArray, List.set_cons_zero, List.set_cons_succ]
      refine wpAnyE_take 8 [9, 10, 11] (oi := { dst := some 23, op := Go.Op.load 3 (Go.Operand.tmp 22), type := 3, pos := "run.go:57", after := #[{ on := 7, ground := Go.Ground.data }], guard := none }) (v := ?_) rfl (by kernel_rfl) (by kernel_rfl) (by kernel_rfl) (by kernel_rfl) (fun _ _ _ h => h) (Or.inl ⟨by rfl, ?hE20⟩) hs0 ?_
      case hE20 =>
        intro u hu
        obtain ⟨u0, u1, u2, u3, u4, u5, u6, u7⟩ := hu
        go_simp
        try with_reducible rfl
      simp only [Act.put, List.setIfInBounds_toArray, List.set_cons_zero, List.set_cons_succ]
      refine wpAnyE_take 9 [10, 11] (oi := { dst := some 24, op := Go.Op.indexAddr 22 (Go.Operand.tmp 19) (Go.Operand.tmp 23), type := 0, pos := "run.go:57", after := #[{ on := 4, ground := Go.Ground.data }, { on := 8, ground := Go.Ground.data }], guard := none }) (v := ?_) rfl (by kernel_rfl) (by kernel_rfl) (by kernel_rfl) (by kernel_rfl) (fun _ _ _ h => h) (Or.inl ⟨by rfl, ?hE21⟩) hs0 ?_
      case hE21 =>
        intro u hu
        obtain ⟨u0, u1, u2, u3, u4, u5, u6, u7⟩ := hu
        go_simp
        try with_reducible rfl
      simp only [Act.put, List.setIfInBounds_toArray, List.set_cons_zero, List.set_cons_succ]
      refine wpAnyE_take 10 [11] (oi := { dst := some 25, op := Go.Op.load 52 (Go.Operand.tmp 24), type := 52, pos := "run.go:57", after := #[{ on := 9, ground := Go.Ground.data }], guard := none }) (v := ?_) rfl (by kernel_rfl) (by kernel_rfl) (by kernel_rfl) (by kernel_rfl) (fun _ _ _ h => h) (Or.inl ⟨by rfl, ?hE22⟩) hs0 ?_
      case hE22 =>
        intro u hu
        obtain ⟨u0, u1, u2, u3, u4, u5, u6, u7⟩ := hu
        go_simp
        try with_reducible rfl
      simp only [Act.put, List.setIfInBounds_toArray, List.set_cons_zero, List.set_cons_succ]
      refine wpAnyE_one (i := 11) (o := { dst := some 26, op := Go.Op.call { callee := Go.Callee.value (Go.Operand.func 31), args := #[Go.Operand.tmp 15, Go.Operand.tmp 25], argTypes := #[64, 52] }, type := 4, pos := "run.go:57", after := #[{ on := 0, ground := Go.Ground.data }, { on := 10, ground := Go.Ground.data }], guard := none }) (by kernel_rfl) rfl (fun K hK => ?_)
      go_simp
      (with_reducible refine Calls.mono hcl ?_)
      rintro e w2 ⟨rfl, h2⟩
      have d26 := h2.cell.2.2.2.2.2.2
      rw [hRs] at d26
      have f26 := h2.free 26
      have H3 := hide (h2.counted (st + 1))
      clear h2 hcl
      refine hK _ _ (fun h => absurd rfl h) ?_
      clear hK K
      try simp only [Act.put, List.setIfInBounds_toArray, List.set_cons_zero, List.set_cons_succ]
      refine wpAnyE_done (by kernel_rfl) ?_
      go_wp2
      go_end0
      exact ⟨rfl, H3.out⟩
end Go.Proofs.YtlngeonfabahnaaDoor
