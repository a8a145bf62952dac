/-
  The law HeapDue. Own work.
-/
import Derived.Test.YtemlanalaihkoaaLOrder
namespace Go.Proofs.Ytemlanalaihkoaa
open Go.RowKit Go.Sort

theorem due_again (now : Int) (L : List Tm) : dueL now (restL now L) = [] ∧ restL now (restL now L) = restL now L := by
  induction L with
  | nil => exact ⟨rfl, rfl⟩
  | cons x r ih =>
    by_cases h : x.1 ≤ now
    · have : restL now (x :: r) = restL now r := by simp [restL, h]
      rw [this]; exact ih
    · have : restL now (x :: r) = x :: r := by simp [restL, h]
      rw [this]
      exact ⟨by simp [dueL, h], this⟩
theorem due_two (a b : Int) (h : a ≤ b) (L : List Tm) : dueL a L ++ dueL b (restL a L) = dueL b L ∧ restL b (restL a L) = restL b L := by
  induction L with
  | nil => exact ⟨rfl, rfl⟩
  | cons x r ih =>
    by_cases h1 : x.1 ≤ a
    · have h2 : x.1 ≤ b := Int.le_trans h1 h
      have e1 : restL a (x :: r) = restL a r := by simp [restL, h1]
      have e2 : dueL a (x :: r) = x :: dueL a r := by simp [dueL, h1]
      have e3 : dueL b (x :: r) = x :: dueL b r := by simp [dueL, h2]
      have e4 : restL b (x :: r) = restL b r := by simp [restL, h2]
      rw [e1, e2, e3, e4, List.cons_append, ih.1]
      exact ⟨rfl, ih.2⟩
    · have e1 : restL a (x :: r) = x :: r := by simp [restL, h1]
      have e2 : dueL a (x :: r) = [] := by simp [dueL, h1]
      rw [e1, e2]
      exact ⟨rfl, rfl⟩
theorem due_le (now : Int) (L : List Tm) : ∀ x ∈ dueL now L, x.1 ≤ now := by
  intro x hx
  induction L with
  | nil => cases hx
  | cons y r ih =>
    by_cases h : y.1 ≤ now
    · have e : dueL now (y :: r) = y :: dueL now r := by simp [dueL, h]
      rw [e] at hx
      rcases List.mem_cons.1 hx with rfl | hx
      · exact h
      · exact ih hx
    · have e : dueL now (y :: r) = [] := by simp [dueL, h]
      rw [e] at hx; cases hx
theorem rest_head (now : Int) (L : List Tm) (x : Tm) (r : List Tm) (h : restL now L = x :: r) : ¬ x.1 ≤ now := by
  have := (due_again now L).1
  rw [h] at this
  intro hx
  simp [dueL, hx] at this
/-- another heap stays as it is -/
theorem Hq.keep {B : Nat} {w0 w w' : World} {h : Value} {most : Nat} {L : List Tm} {F G G' : Nat → Prop} (q : Hq B w0 w h most L F) (hs : Step G w w' G') (hd : ∀ b, F b → ¬ G b) (hn : ∀ b, G b → B ≤ b) : Hq B w0 w' h most L F :=
  ⟨(q.hp.keep hs hd).1, q.new, q.bel.trans (hs.chg.below B hn q.le), Nat.le_trans q.le hs.chg.size⟩

theorem cellsL_at (m : List Tm) {a : Addr} {w : World} (h : ∀ k (hk : k < m.length), ∃ b off, a = ⟨b, off, none⟩ ∧ w.cell? ⟨b, off + k * 2, none⟩ = some (.int .i64 m[k].1) ∧ w.cell? ⟨b, off + k * 2 + 1, none⟩ = some (.int .i64 m[k].2)) :
    ∀ j u, (cellsL m)[j]? = some u → w.cell? (a.add j) = some u := by
  intro j u hj
  have hjl := (List.getElem?_eq_some_iff.1 hj).1
  rw [cellsL_len] at hjl
  obtain ⟨b, off, rfl, c0, c1⟩ := h (j / 2) (by omega)
  have e : (⟨b, off, none⟩ : Addr).add j = ⟨b, off + j, none⟩ := by unfold Addr.add; split <;> simp_all
  obtain ⟨g0, g1⟩ := cellsL_get m (j / 2) (by omega)
  rw [e]
  rcases Nat.mod_two_eq_zero_or_one j with e2 | e2
  · have e3 : j / 2 * 2 = j := by omega
    rw [e3] at c0 g0
    rw [c0, ← hj, g0]
  · have e3 : j / 2 * 2 + 1 = j := by omega
    have e4 : off + j / 2 * 2 + 1 = off + j := by omega
    rw [e3] at g1
    rw [e4] at c1
    rw [c1, ← hj, g1]
/-- timers that lie somewhere are laid behind them -/
theorem OwnT.appendRd {w : World} {base : Nat} {v u : Value} {l m : List Tm} (h : OwnT w base v l) (hu : RdT w u m) (hl : l.length + m.length ≤ 1000000) (hb : base ≤ w.heap.size) (ty : TypeId) :
    ∃ v' w', (Builtin.append_ #[38, 38] ty #[v, u]).run Try.prog w = .ok v' w' ∧ OwnT w' base v' (l ++ m) ∧ w.grownBy w' v.ownBlock ∧ (v'.ownBlock = v.ownBlock ∨ v'.ownBlock = some w.heap.size) := by
  obtain ⟨i0, hinf, hz0, hz1, hz2⟩ := info_parts Try.info30
  obtain ⟨ao, cap, rfl, h1, h2, h3, h4⟩ := hu
  cases ao with
  | none =>
    have hc := h3 rfl
    subst hc
    have hm : m = [] := List.eq_nil_of_length_eq_zero (by omega)
    subst hm
    exact ⟨v, w, run_append_owned_none (P := Try.prog) (w := w) base 38 ty 30 i0 2 Try.underlying38 hinf v l.length (cellsL l) h, by simpa using h, World.grownBy.refl _ _, .inl rfl⟩
  | some a =>
    obtain ⟨v', w', hr, ho, hg', hblk⟩ := run_append_own' (P := Try.prog) w base 38 ty 30 i0 (.agg #[.int .i64 0, .int .i64 0]) 2 16 Try.underlying38 hinf hz0 hz1 hz2 rfl (by decide) v l.length (cellsL l) h
      a m.length cap (cellsL m) (by rw [cellsL_len]) (cellsL_at m fun k hk => by obtain ⟨b, off, e, c⟩ := h4 k hk; exact ⟨b, off, Option.some.inj e, c⟩) (cellsL_one _) (by unfold maxLen; omega) (by omega) hb
    refine ⟨v', w', hr, ?_, hg', hblk⟩
    unfold OwnT
    rw [cellsL_append, List.length_append]
    exact ho
theorem OwnT.empty (u : World) : OwnT (u.alloc (.cells #[] 30)) u.heap.size (.slice (some ⟨u.heap.size, 0, none⟩) 0 0) [] :=
  ⟨rfl, .inr ⟨u.heap.size, 0, #[], rfl, Nat.le_refl _, heap_new u _, Nat.le_refl _, by unfold maxLen; omega, rfl, rfl⟩⟩

set_option maxRecDepth 100000 in
set_option maxHeartbeats 6400000 in
theorem due_from {w : World} {v0 : Value} {l : List Tm} (hv : RdT w v0 l) (hr : ∀ x ∈ l, I64 x.1 ∧ I64 x.2) (n1 n2 a b : Int) (hA : a = min n1 n2) (hB : b = max n1 n2) :
    Calls Try.prog 7 #[v0, .int .i64 n1, .int .i64 n2] w fun e w' => e = .returned (.bool true) ∧ Below w.heap.size w w' := by
  have hab : a ≤ b := by omega
  have km := made_any hv hr
  have HKM := hide (fun (u : World) (hb : Below w.heap.size w u) => made_any (hv.below hb) hr)
  obtain ⟨ao, cap, rfl⟩ := hv.shape
  obtain ⟨n, HN⟩ := named l.length
  rw [← HN.out] at km HKM ⊢
  obtain ⟨L, HL⟩ := named (fst1 (l.take 300))
  rw [← HL.out] at km HKM
  have hl3 : L.length ≤ 300 := by have := fst1_len (l.take 300); rw [← HL.out, List.length_take] at this; omega
  have HL3 := hide hl3
  have HAB := hide hab
  clear hv hr hab hl3
  go_enter Try.func7, Try.ntmps7
  go_wp2_with fail
  (with_reducible refine Calls.mono km ?_)
  clear km
  rintro e w1 ⟨h, mb, rfl, F, q⟩
  have km := HKM.out w1 q.hq.bel
  clear HKM
  go_wp2_with fail
  (with_reducible refine Calls.mono km ?_)
  clear km
  rintro e w2 ⟨h', mb', rfl, F', q'⟩
  have Q := hide (q.below q'.hq.bel)
  have Q' := hide (show Hq w.heap.size w w2 h' 1000 L F' from ⟨q'.hq.hp, fun b hb => Nat.le_trans q.hq.le (q'.hq.new b hb), Q.out.hq.bel, Q.out.hq.le⟩)
  have HD : Hid (∀ b, F' b → ¬ F b) := fun b h1 h2 => by have := q'.hq.new b h1; have := q.hq.hp.sub b h2; omega
  have HD' : Hid (∀ b, F b → ¬ F' b) := fun b h1 h2 => HD.out b h2 h1
  obtain ⟨hb, hhe, -⟩ := q.hq.hp.ne
  obtain ⟨hb', hhe', -⟩ := q'.hq.hp.ne
  subst hhe hhe'
  have kd := due_any Q.out.hq.hp a
  clear q q'
  go_wp2_with fail
  rw [← hA, ← hB]
  have HNB := hide Q.out.nb
  have HFL : Hid (∀ b, F b → b < w2.heap.size) := Q.out.hq.hp.sub
  have HFL' : Hid (∀ b, F' b → b < w2.heap.size) := Q'.out.hp.sub
  have HFB : Hid (∀ b, F b → w.heap.size ≤ b) := Q.out.hq.new
  have HFB' : Hid (∀ b, F' b → w.heap.size ≤ b) := Q'.out.new
  have HNW := hide Q.out.hq.le
  obtain ⟨D, HDD⟩ := named (dueL a L)
  obtain ⟨R, HRR⟩ := named (restL a L)
  obtain ⟨T, HTT⟩ := named L.length
  have HNR : Hid (D.length + R.length = T) := by show _ = _; rw [HDD.out, HRR.out, HTT.out, ← List.length_append, due_rest]
  have hT3 : T ≤ 300 := by rw [HTT.out]; exact HL3.out
  rw [← HDD.out, ← HRR.out] at kd
  (with_reducible refine Calls.mono kd ?_)
  clear kd hA hB
  rintro e w3 ⟨xv, rfl, ho, k1, k2⟩
  have Q3 := hide (Q.out.hq.step k1 k2)
  have M3 := hide ((Q.out.mp.step k2 Q.out.nb).1)
  have P3 := hide (Q'.out.keep k2 HD.out HFB.out)
  obtain ⟨xo, xcap, rfl⟩ := ho.shape
  have HO3 := hide ho
  have HOF : Hid (∀ g, (Value.slice xo D.length xcap).ownBlock = some g → ¬ F g) := fun g hg hF => by have h1 := (ho.lt g hg).1; have h2 := HFL.out g hF; omega
  have HOF' : Hid (∀ g, (Value.slice xo D.length xcap).ownBlock = some g → ¬ F' g) := fun g hg hF => by have h1 := (ho.lt g hg).1; have h2 := HFL'.out g hF; omega
  have kd := due_any Q3.out.hp a
  rw [HRR.out, (due_again a L).1, (due_again a L).2, ← HRR.out] at kd
  obtain ⟨N, HNN⟩ := named D.length
  have hNR : (N : Int) + (R.length : Int) = (T : Int) := by have := HNR.out; rw [HNN.out]; omega
  have hN3 : N ≤ 300 := by omega
  have hR3 : R.length ≤ 300 := by omega
  rw [← HNN.out] at HO3 HOF HOF' ⊢
  clear ho k1 Q Q' HNR
  go_wp2_with fail
  (with_reducible refine Calls.mono kd ?_)
  clear kd
  rintro e w4 ⟨yv, rfl, ho, k1, k3⟩
  have Q4 := hide (Q3.out.step k1 k3)
  have M4 := hide (M3.out.heap (k3.chg.block mb M3.out.lt HNB.out))
  have P4 := hide (P3.out.keep k3 HD.out HFB.out)
  have HO4 : Hid (OwnT w4 w2.heap.size (.slice xo N xcap) D) := HO3.out.chg k3.chg HOF.out
  obtain ⟨yo, ycap, hy⟩ := ho.shape
  simp only [List.length_nil] at hy
  subst hy
  have kl := len_any Q4.out.hp
  have hml := M4.out.len mt65 3
  rw [← HTT.out] at hml
  clear ho k1 k2 k3 Q3 M3 P3 HO3 M4
  obtain ⟨rl, HRL⟩ := named R.length
  rw [← HRL.out] at kl hNR hR3
  go_wp2_with fail
  (with_reducible refine Calls.mono kl ?_)
  clear kl
  rintro e w5 ⟨rfl, rfl⟩
  go_wp2_with fail
  have HDL : Hid (∀ x ∈ D, x.1 ≤ a) := by show ∀ x ∈ D, x.1 ≤ a; rw [HDD.out]; exact due_le a L
  have HSD : Hid (Srt D) := by have h1 := P4.out.hp.srt.sub (M := dueL a L) (List.takeWhile_sublist _); rw [← HDD.out] at h1; exact h1
  have HX := hide HO4.out.rd
  clear hml HL HN
  go_loopw [63] (fun iv wr => ∃ k : Nat, k ≤ N ∧ iv = .int .i64 k ∧ Hid (Below w5.heap.size w5 wr)) (fun iv _ => N - (intOf iv).toNat)
  case atStart => exact ⟨0, Nat.zero_le _, rfl, Below.refl _ _⟩
  case round =>
    obtain ⟨k, hk, rfl, HB⟩ := hrel
    by_cases hlt : k < N
    · have hkl : k < D.length := by rw [← HNN.out]; exact hlt
      have hx : RdT w5 (.slice xo D.length xcap) D := by rw [← HNN.out]; exact HX.out
      obtain ⟨bx, off, hab, c0, c1⟩ := (hx.below HB.out).at k hkl
      have hle := HDL.out _ (List.getElem_mem hkl)
      have hkI : (k : Int) < (N : Int) := by omega
      by_cases hk0 : k = 0
      · subst hk0
        obtain ⟨x, HXX⟩ := named D[0]
        rw [← HXX.out] at c0 c1 hle
        obtain ⟨x0, x1⟩ := x
        simp only [Nat.zero_mul, Nat.add_zero] at c0 c1
        have hs0 : wr.drew.cell? ⟨bx, off, none⟩ = some (.int .i64 x0) := c0
        have HB1 := hide HB.out.drew
        have hgt : decide (a < x0) = false := decide_eq_false (by simp only at hle; omega)
        subst hab
        have h00 : decide ((0 : Int) < 0) = false := rfl
        clear HB c0 c1 hle hx
        go_wp2_with fail
        refine wp_region_held_drew (S := (fun u => u.cell? ⟨bx, off, none⟩ = some (.int .i64 x0))) (by kernel_rfl) hs0 (fun _ => ?_)
        refine wpAnyH_take (i := 0) (oi := { dst := some 66, op := Go.Op.move (Go.Operand.tmp 13), type := 38, pos := "outright.go:84", after := #[], guard := none }) (v := ?_) rfl (by kernel_rfl) (by kernel_rfl) (by kernel_rfl) (fun _ _ _ h => h) (Or.inl ⟨by rfl, ?hy1⟩) hs0 ?_
        case hy1 =>
          intro u hu
          obtain u0 := hu
          go_simp
          try with_reducible rfl
        simp only [Act.put, List.setIfInBounds_toArray, List.set_cons_zero, List.set_cons_succ]
        refine wpAnyH_take (i := 1) (oi := { dst := some 67, op := Go.Op.move (Go.Operand.tmp 14), type := 3, pos := "outright.go:84", after := #[], guard := none }) (v := ?_) rfl (by kernel_rfl) (by kernel_rfl) (by kernel_rfl) (fun _ _ _ h => h) (Or.inl ⟨by rfl, ?hy2⟩) hs0 ?_
        case hy2 =>
          intro u hu
          obtain u0 := hu
          go_simp
          try with_reducible rfl
        simp only [Act.put, List.setIfInBounds_toArray, List.set_cons_zero, List.set_cons_succ]
        refine wpAnyH_take (i := 2) (oi := { dst := some 68, op := Go.Op.indexAddr 38 (Go.Operand.tmp 66) (Go.Operand.tmp 67), type := 0, pos := "outright.go:84", after := #[{ on := 0, ground := Go.Ground.data }, { on := 1, ground := Go.Ground.data }], guard := none }) (v := ?_) rfl (by kernel_rfl) (by kernel_rfl) (by kernel_rfl) (fun _ _ _ h => h) (Or.inl ⟨by rfl, ?hy3⟩) hs0 ?_
        case hy3 =>
          intro u hu
          obtain u0 := hu
          go_simp
          try with_reducible rfl
        simp only [Act.put, List.setIfInBounds_toArray, List.set_cons_zero, List.set_cons_succ]
        refine wpAnyH_take (i := 3) (oi := { dst := some 69, op := Go.Op.fieldAddr 30 (Go.Operand.tmp 68) 0, type := 0, pos := "outright.go:84", after := #[{ on := 2, ground := Go.Ground.data }], guard := none }) (v := ?_) rfl (by kernel_rfl) (by kernel_rfl) (by kernel_rfl) (fun _ _ _ h => h) (Or.inl ⟨by rfl, ?hy4⟩) hs0 ?_
        case hy4 =>
          intro u hu
          obtain u0 := hu
          go_simp
          try with_reducible rfl
        simp only [Act.put, List.setIfInBounds_toArray, List.set_cons_zero, List.set_cons_succ]
        refine wpAnyH_take (i := 4) (oi := { dst := some 70, op := Go.Op.load 2 (Go.Operand.tmp 69), type := 2, pos := "outright.go:84", after := #[{ on := 3, ground := Go.Ground.data }], guard := none }) (v := ?_) rfl (by kernel_rfl) (by kernel_rfl) (by kernel_rfl) (fun _ _ _ h => h) (Or.inl ⟨by rfl, ?hy5⟩) hs0 ?_
        case hy5 =>
          intro u hu
          obtain u0 := hu
          go_simp
          try with_reducible rfl
        simp only [Act.put, List.setIfInBounds_toArray, List.set_cons_zero, List.set_cons_succ]
        refine wpAnyH_take (i := 5) (oi := { dst := some 71, op := Go.Op.move (Go.Operand.tmp 1), type := 2, pos := "outright.go:84", after := #[], guard := none }) (v := ?_) rfl (by kernel_rfl) (by kernel_rfl) (by kernel_rfl) (fun _ _ _ h => h) (Or.inl ⟨by rfl, ?hy6⟩) hs0 ?_
        case hy6 =>
          intro u hu
          obtain u0 := hu
          go_simp
          try with_reducible rfl
        simp only [Act.put, List.setIfInBounds_toArray, List.set_cons_zero, List.set_cons_succ]
        refine wpAnyH_take (i := 6) (oi := { dst := some 72, op := Go.Op.binOp Go.BinOp.gtr 2 (Go.Operand.tmp 70) (Go.Operand.tmp 71) 2, type := 4, pos := "outright.go:84", after := #[{ on := 4, ground := Go.Ground.data }, { on := 5, ground := Go.Ground.data }], guard := none }) (v := ?_) rfl (by kernel_rfl) (by kernel_rfl) (by kernel_rfl) (fun _ _ _ h => h) (Or.inl ⟨by rfl, ?hy7⟩) hs0 ?_
        case hy7 =>
          intro u hu
          obtain u0 := hu
          go_simp
          try with_reducible rfl
        simp only [Act.put, List.setIfInBounds_toArray, List.set_cons_zero, List.set_cons_succ]
        refine wpAnyH_take (i := 7) (oi := { dst := some 73, op := Go.Op.move (Go.Operand.tmp 72), type := 4, pos := "outright.go:84", after := #[{ on := 6, ground := Go.Ground.data }], guard := none }) (v := ?_) rfl (by kernel_rfl) (by kernel_rfl) (by kernel_rfl) (fun _ _ _ h => h) (Or.inl ⟨by rfl, ?hy8⟩) hs0 ?_
        case hy8 =>
          intro u hu
          obtain u0 := hu
          go_simp
          try with_reducible rfl
        simp only [Act.put, List.setIfInBounds_toArray, List.set_cons_zero, List.set_cons_succ]
        refine wpAnyH_take (i := 8) (oi := { dst := some 74, op := Go.Op.move (Go.Operand.tmp 14), type := 3, pos := "outright.go:84", after := #[{ on := 7, ground := Go.Ground.guard }], guard := some (7, false) }) (v := ?_) rfl (by kernel_rfl) (by kernel_rfl) (by kernel_rfl) (fun _ _ _ h => h) (Or.inl ⟨by rfl, ?hy9⟩) hs0 ?_
        case hy9 =>
          intro u hu
          obtain u0 := hu
          go_simp
          try with_reducible rfl
        simp only [Act.put, List.setIfInBounds_toArray, List.set_cons_zero, List.set_cons_succ]
        refine wpAnyH_take (i := 9) (oi := { dst := some 75, op := Go.Op.binOp Go.BinOp.gtr 3 (Go.Operand.tmp 74) (Go.Operand.const (Go.Value.int Go.IntKind.i64 0)) 3, type := 4, pos := "outright.go:84", after := #[{ on := 8, ground := Go.Ground.data }, { on := 7, ground := Go.Ground.guard }], guard := some (7, false) }) (v := ?_) rfl (by kernel_rfl) (by kernel_rfl) (by kernel_rfl) (fun _ _ _ h => h) (Or.inl ⟨by rfl, ?hy10⟩) hs0 ?_
        case hy10 =>
          intro u hu
          obtain u0 := hu
          go_simp
          try with_reducible rfl
        simp only [Act.put, List.setIfInBounds_toArray, List.set_cons_zero, List.set_cons_succ]
        refine wpAnyH_take (i := 10) (oi := { dst := some 76, op := Go.Op.move (Go.Operand.tmp 75), type := 4, pos := "outright.go:84", after := #[{ on := 9, ground := Go.Ground.data }, { on := 7, ground := Go.Ground.chain }, { on := 7, ground := Go.Ground.guard }], guard := some (7, false) }) (v := ?_) rfl (by kernel_rfl) (by kernel_rfl) (by kernel_rfl) (fun _ _ _ h => h) (Or.inl ⟨by rfl, ?hy11⟩) hs0 ?_
        case hy11 =>
          intro u hu
          obtain u0 := hu
          go_simp
          try with_reducible rfl
        simp only [Act.put, List.setIfInBounds_toArray, List.set_cons_zero, List.set_cons_succ]
        refine wpAnyH_take (i := 11) (oi := { dst := some 77, op := Go.Op.move (Go.Operand.tmp 13), type := 38, pos := "outright.go:84", after := #[{ on := 10, ground := Go.Ground.guard }], guard := some (10, true) }) (v := undef) rfl (by kernel_rfl) (by kernel_rfl) (by kernel_rfl) (fun _ _ _ h => h) (Or.inr ⟨by rfl, rfl⟩) hs0 ?_
        simp only [Act.put, List.setIfInBounds_toArray, List.set_cons_zero, List.set_cons_succ]
        refine wpAnyH_take (i := 12) (oi := { dst := some 78, op := Go.Op.move (Go.Operand.tmp 14), type := 3, pos := "outright.go:84", after := #[{ on := 10, ground := Go.Ground.guard }], guard := some (10, true) }) (v := undef) rfl (by kernel_rfl) (by kernel_rfl) (by kernel_rfl) (fun _ _ _ h => h) (Or.inr ⟨by rfl, rfl⟩) hs0 ?_
        simp only [Act.put, List.setIfInBounds_toArray, List.set_cons_zero, List.set_cons_succ]
        refine wpAnyH_take (i := 13) (oi := { dst := some 79, op := Go.Op.binOp Go.BinOp.sub 3 (Go.Operand.tmp 78) (Go.Operand.const (Go.Value.int Go.IntKind.i64 1)) 3, type := 3, pos := "outright.go:84", after := #[{ on := 12, ground := Go.Ground.data }, { on := 10, ground := Go.Ground.guard }], guard := some (10, true) }) (v := undef) rfl (by kernel_rfl) (by kernel_rfl) (by kernel_rfl) (fun _ _ _ h => h) (Or.inr ⟨by rfl, rfl⟩) hs0 ?_
        simp only [Act.put, List.setIfInBounds_toArray, List.set_cons_zero, List.set_cons_succ]
        refine wpAnyH_take (i := 14) (oi := { dst := some 80, op := Go.Op.indexAddr 38 (Go.Operand.tmp 77) (Go.Operand.tmp 79), type := 0, pos := "outright.go:84", after := #[{ on := 11, ground := Go.Ground.data }, { on := 13, ground := Go.Ground.data }, { on := 10, ground := Go.Ground.guard }], guard := some (10, true) }) (v := undef) rfl (by kernel_rfl) (by kernel_rfl) (by kernel_rfl) (fun _ _ _ h => h) (Or.inr ⟨by rfl, rfl⟩) hs0 ?_
        simp only [Act.put, List.setIfInBounds_toArray, List.set_cons_zero, List.set_cons_succ]
        refine wpAnyH_take (i := 15) (oi := { dst := some 81, op := Go.Op.load 30 (Go.Operand.tmp 80), type := 30, pos := "outright.go:84", after := #[{ on := 14, ground := Go.Ground.data }, { on := 10, ground := Go.Ground.guard }], guard := some (10, true) }) (v := undef) rfl (by kernel_rfl) (by kernel_rfl) (by kernel_rfl) (fun _ _ _ h => h) (Or.inr ⟨by rfl, rfl⟩) hs0 ?_
        simp only [Act.put, List.setIfInBounds_toArray, List.set_cons_zero, List.set_cons_succ]
        refine wpAnyH_take (i := 16) (oi := { dst := some 82, op := Go.Op.move (Go.Operand.tmp 13), type := 38, pos := "outright.go:84", after := #[{ on := 10, ground := Go.Ground.guard }], guard := some (10, true) }) (v := undef) rfl (by kernel_rfl) (by kernel_rfl) (by kernel_rfl) (fun _ _ _ h => h) (Or.inr ⟨by rfl, rfl⟩) hs0 ?_
        simp only [Act.put, List.setIfInBounds_toArray, List.set_cons_zero, List.set_cons_succ]
        refine wpAnyH_take (i := 17) (oi := { dst := some 83, op := Go.Op.move (Go.Operand.tmp 14), type := 3, pos := "outright.go:84", after := #[{ on := 10, ground := Go.Ground.guard }], guard := some (10, true) }) (v := undef) rfl (by kernel_rfl) (by kernel_rfl) (by kernel_rfl) (fun _ _ _ h => h) (Or.inr ⟨by rfl, rfl⟩) hs0 ?_
        simp only [Act.put, List.setIfInBounds_toArray, List.set_cons_zero, List.set_cons_succ]
        refine wpAnyH_take (i := 18) (oi := { dst := some 84, op := Go.Op.indexAddr 38 (Go.Operand.tmp 82) (Go.Operand.tmp 83), type := 0, pos := "outright.go:84", after := #[{ on := 16, ground := Go.Ground.data }, { on := 17, ground := Go.Ground.data }, { on := 10, ground := Go.Ground.guard }], guard := some (10, true) }) (v := undef) rfl (by kernel_rfl) (by kernel_rfl) (by kernel_rfl) (fun _ _ _ h => h) (Or.inr ⟨by rfl, rfl⟩) hs0 ?_
        simp only [Act.put, List.setIfInBounds_toArray, List.set_cons_zero, List.set_cons_succ]
        refine wpAnyH_take (i := 19) (oi := { dst := some 85, op := Go.Op.load 30 (Go.Operand.tmp 84), type := 30, pos := "outright.go:84", after := #[{ on := 18, ground := Go.Ground.data }, { on := 10, ground := Go.Ground.guard }], guard := some (10, true) }) (v := undef) rfl (by kernel_rfl) (by kernel_rfl) (by kernel_rfl) (fun _ _ _ h => h) (Or.inr ⟨by rfl, rfl⟩) hs0 ?_
        simp only [Act.put, List.setIfInBounds_toArray, List.set_cons_zero, List.set_cons_succ]
        refine wpAnyH_take (i := 20) (oi := { dst := some 86, op := Go.Op.call { callee := Go.Callee.value (Go.Operand.func 31), args := #[Go.Operand.tmp 81, Go.Operand.tmp 85], argTypes := #[30, 30] }, type := 4, pos := "outright.go:84", after := #[{ on := 15, ground := Go.Ground.data }, { on := 19, ground := Go.Ground.data }, { on := 10, ground := Go.Ground.chain }, { on := 10, ground := Go.Ground.guard }], guard := some (10, true) }) (v := undef) rfl (by kernel_rfl) (by kernel_rfl) (by kernel_rfl) (fun _ _ _ h => h) (Or.inr ⟨by rfl, rfl⟩) hs0 ?_
        simp only [Act.put, List.setIfInBounds_toArray, List.set_cons_zero, List.set_cons_succ]
        refine wpAnyH_take (i := 21) (oi := { dst := some 87, op := Go.Op.unOp Go.UnOp.not 4 (Go.Operand.tmp 86), type := 4, pos := "outright.go:84", after := #[{ on := 20, ground := Go.Ground.data }, { on := 10, ground := Go.Ground.guard }], guard := some (10, true) }) (v := undef) rfl (by kernel_rfl) (by kernel_rfl) (by kernel_rfl) (fun _ _ _ h => h) (Or.inr ⟨by rfl, rfl⟩) hs0 ?_
        simp only [Act.put, List.setIfInBounds_toArray, List.set_cons_zero, List.set_cons_succ]
        refine wpAnyH_take (i := 22) (oi := { dst := some 88, op := Go.Op.pick (Go.Operand.tmp 76) (Go.Operand.tmp 87) (Go.Operand.const (Go.Value.bool false)), type := 4, pos := "outright.go:84", after := #[{ on := 10, ground := Go.Ground.data }, { on := 21, ground := Go.Ground.data }, { on := 7, ground := Go.Ground.guard }], guard := some (7, false) }) (v := ?_) rfl (by kernel_rfl) (by kernel_rfl) (by kernel_rfl) (fun _ _ _ h => h) (Or.inl ⟨by rfl, ?hy23⟩) hs0 ?_
        case hy23 =>
          intro u hu
          obtain u0 := hu
          go_simp
          try with_reducible rfl
        simp only [Act.put, List.setIfInBounds_toArray, List.set_cons_zero, List.set_cons_succ]
        refine wpAnyH_take (i := 23) (oi := { dst := some 89, op := Go.Op.pick (Go.Operand.tmp 73) (Go.Operand.const (Go.Value.bool true)) (Go.Operand.tmp 88), type := 4, pos := "outright.go:84", after := #[{ on := 7, ground := Go.Ground.data }, { on := 22, ground := Go.Ground.data }], guard := none }) (v := ?_) rfl (by kernel_rfl) (by kernel_rfl) (by kernel_rfl) (fun _ _ _ h => h) (Or.inl ⟨by rfl, ?hy24⟩) hs0 ?_
        case hy24 =>
          intro u hu
          obtain u0 := hu
          go_simp
          try with_reducible rfl
        simp only [Act.put, List.setIfInBounds_toArray, List.set_cons_zero, List.set_cons_succ]
        refine wpAnyH_done (by kernel_rfl) ?_ _
        go_wp2_with fail
        go_roundw
        case rel => exact ⟨1, hlt, by go_num, HB1.out⟩
        case measure => simp [intOf]; omega
      · obtain ⟨j, hjk⟩ : ∃ j, j + 1 = k := ⟨k - 1, by omega⟩
        have hahk : ∀ k' (hk' : k' < D.length), j + 1 = k' → Ah (D[j]'(by omega)) (D[k']'hk') := fun k' hk' e => (List.pairwise_iff_getElem.1 HSD.out.ord) j k' (by omega) hk' (by omega)
        have hah := hahk k hkl hjk
        obtain ⟨bx', off', hab', d0, d1⟩ := (hx.below HB.out).at j (by omega)
        obtain ⟨x, HXX⟩ := named (D[k]'hkl)
        obtain ⟨y, HYY⟩ := named (D[j]'(by omega))
        rw [← HXX.out] at c0 c1 hle hah
        rw [← HYY.out] at d0 d1 hah
        subst hab
        cases hab'
        have kah := fun u => aheadLaw_any y x u
        rw [decide_eq_true hah] at kah
        obtain ⟨x0, x1⟩ := x
        obtain ⟨y0, y1⟩ := y
        have hgt : decide (a < x0) = false := decide_eq_false (by simp only at hle; omega)
        have hs0 : wr.drew.cell? ⟨bx, off + j * 2, none⟩ = some (.int .i64 y0) ∧ wr.drew.cell? ⟨bx, off + j * 2 + 1, none⟩ = some (.int .i64 y1) ∧ wr.drew.cell? ⟨bx, off + k * 2, none⟩ = some (.int .i64 x0) ∧ wr.drew.cell? ⟨bx, off + k * 2 + 1, none⟩ = some (.int .i64 x1) := ⟨d0, d1, c0, c1⟩
        have HSA : Hid (∀ u : World, Below wr.drew.heap.size wr.drew u → u.cell? ⟨bx, off + j * 2, none⟩ = some (.int .i64 y0) ∧ u.cell? ⟨bx, off + j * 2 + 1, none⟩ = some (.int .i64 y1) ∧ u.cell? ⟨bx, off + k * 2, none⟩ = some (.int .i64 x0) ∧ u.cell? ⟨bx, off + k * 2 + 1, none⟩ = some (.int .i64 x1)) := fun u hu => by
          have hl := World.block_lt_of_cell? wr _ c0
          have hc := fun o => hu.cell (p := ⟨bx, o, none⟩) hl
          exact ⟨(hc _).trans d0, (hc _).trans d1, (hc _).trans c0, (hc _).trans c1⟩
        have HB1 := hide HB.out.drew
        have hk0I : decide ((0 : Int) < (k : Int)) = true := decide_eq_true (by omega)
        have hk0N : decide (0 < k) = true := decide_eq_true (by omega)
        have hk0M : 0 < k := by omega
        have hj1 : (k : Int) - 1 = (j : Int) := by omega
        have hw1 : Hid (IntKind.i64.wrap (j : Int) = (j : Int)) := by show _ = _; rw [IntKind.wrap_i64]; omega
        have hjN : (j : Int) < (N : Int) := by omega
        clear HB c0 c1 d0 d1 hle hx hah hahk
        go_wp2_with fail
        have hw2 := hw1.out
        refine wp_region_held_drew (S := (fun u => u.cell? ⟨bx, off + j * 2, none⟩ = some (.int .i64 y0) ∧ u.cell? ⟨bx, off + j * 2 + 1, none⟩ = some (.int .i64 y1) ∧ u.cell? ⟨bx, off + k * 2, none⟩ = some (.int .i64 x0) ∧ u.cell? ⟨bx, off + k * 2 + 1, none⟩ = some (.int .i64 x1))) (by kernel_rfl) hs0 (fun _ => ?_)
        refine wpAnyH_take (i := 0) (oi := { dst := some 66, op := Go.Op.move (Go.Operand.tmp 13), type := 38, pos := "outright.go:84", after := #[], guard := none }) (v := ?_) rfl (by kernel_rfl) (by kernel_rfl) (by kernel_rfl) (fun _ _ _ h => h) (Or.inl ⟨by rfl, ?hy25⟩) hs0 ?_
        case hy25 =>
          intro u hu
          obtain ⟨u0, u1, u2, u3⟩ := hu
          go_simp
          try with_reducible rfl
        simp only [Act.put, List.setIfInBounds_toArray, List.set_cons_zero, List.set_cons_succ]
        refine wpAnyH_take (i := 1) (oi := { dst := some 67, op := Go.Op.move (Go.Operand.tmp 14), type := 3, pos := "outright.go:84", after := #[], guard := none }) (v := ?_) rfl (by kernel_rfl) (by kernel_rfl) (by kernel_rfl) (fun _ _ _ h => h) (Or.inl ⟨by rfl, ?hy26⟩) hs0 ?_
        case hy26 =>
          intro u hu
          obtain ⟨u0, u1, u2, u3⟩ := hu
          go_simp
          try with_reducible rfl
        simp only [Act.put, List.setIfInBounds_toArray, List.set_cons_zero, List.set_cons_succ]
        refine wpAnyH_take (i := 2) (oi := { dst := some 68, op := Go.Op.indexAddr 38 (Go.Operand.tmp 66) (Go.Operand.tmp 67), type := 0, pos := "outright.go:84", after := #[{ on := 0, ground := Go.Ground.data }, { on := 1, ground := Go.Ground.data }], guard := none }) (v := ?_) rfl (by kernel_rfl) (by kernel_rfl) (by kernel_rfl) (fun _ _ _ h => h) (Or.inl ⟨by rfl, ?hy27⟩) hs0 ?_
        case hy27 =>
          intro u hu
          obtain ⟨u0, u1, u2, u3⟩ := hu
          go_simp
          try with_reducible rfl
        simp only [Act.put, List.setIfInBounds_toArray, List.set_cons_zero, List.set_cons_succ]
        refine wpAnyH_take (i := 3) (oi := { dst := some 69, op := Go.Op.fieldAddr 30 (Go.Operand.tmp 68) 0, type := 0, pos := "outright.go:84", after := #[{ on := 2, ground := Go.Ground.data }], guard := none }) (v := ?_) rfl (by kernel_rfl) (by kernel_rfl) (by kernel_rfl) (fun _ _ _ h => h) (Or.inl ⟨by rfl, ?hy28⟩) hs0 ?_
        case hy28 =>
          intro u hu
          obtain ⟨u0, u1, u2, u3⟩ := hu
          go_simp
          try with_reducible rfl
        simp only [Act.put, List.setIfInBounds_toArray, List.set_cons_zero, List.set_cons_succ]
        refine wpAnyH_take (i := 4) (oi := { dst := some 70, op := Go.Op.load 2 (Go.Operand.tmp 69), type := 2, pos := "outright.go:84", after := #[{ on := 3, ground := Go.Ground.data }], guard := none }) (v := ?_) rfl (by kernel_rfl) (by kernel_rfl) (by kernel_rfl) (fun _ _ _ h => h) (Or.inl ⟨by rfl, ?hy29⟩) hs0 ?_
        case hy29 =>
          intro u hu
          obtain ⟨u0, u1, u2, u3⟩ := hu
          go_simp
          try with_reducible rfl
        simp only [Act.put, List.setIfInBounds_toArray, List.set_cons_zero, List.set_cons_succ]
        refine wpAnyH_take (i := 5) (oi := { dst := some 71, op := Go.Op.move (Go.Operand.tmp 1), type := 2, pos := "outright.go:84", after := #[], guard := none }) (v := ?_) rfl (by kernel_rfl) (by kernel_rfl) (by kernel_rfl) (fun _ _ _ h => h) (Or.inl ⟨by rfl, ?hy30⟩) hs0 ?_
        case hy30 =>
          intro u hu
          obtain ⟨u0, u1, u2, u3⟩ := hu
          go_simp
          try with_reducible rfl
        simp only [Act.put, List.setIfInBounds_toArray, List.set_cons_zero, List.set_cons_succ]
        refine wpAnyH_take (i := 6) (oi := { dst := some 72, op := Go.Op.binOp Go.BinOp.gtr 2 (Go.Operand.tmp 70) (Go.Operand.tmp 71) 2, type := 4, pos := "outright.go:84", after := #[{ on := 4, ground := Go.Ground.data }, { on := 5, ground := Go.Ground.data }], guard := none }) (v := ?_) rfl (by kernel_rfl) (by kernel_rfl) (by kernel_rfl) (fun _ _ _ h => h) (Or.inl ⟨by rfl, ?hy31⟩) hs0 ?_
        case hy31 =>
          intro u hu
          obtain ⟨u0, u1, u2, u3⟩ := hu
          go_simp
          try with_reducible rfl
        simp only [Act.put, List.setIfInBounds_toArray, List.set_cons_zero, List.set_cons_succ]
        refine wpAnyH_take (i := 7) (oi := { dst := some 73, op := Go.Op.move (Go.Operand.tmp 72), type := 4, pos := "outright.go:84", after := #[{ on := 6, ground := Go.Ground.data }], guard := none }) (v := ?_) rfl (by kernel_rfl) (by kernel_rfl) (by kernel_rfl) (fun _ _ _ h => h) (Or.inl ⟨by rfl, ?hy32⟩) hs0 ?_
        case hy32 =>
          intro u hu
          obtain ⟨u0, u1, u2, u3⟩ := hu
          go_simp
          try with_reducible rfl
        simp only [Act.put, List.setIfInBounds_toArray, List.set_cons_zero, List.set_cons_succ]
        refine wpAnyH_take (i := 8) (oi := { dst := some 74, op := Go.Op.move (Go.Operand.tmp 14), type := 3, pos := "outright.go:84", after := #[{ on := 7, ground := Go.Ground.guard }], guard := some (7, false) }) (v := ?_) rfl (by kernel_rfl) (by kernel_rfl) (by kernel_rfl) (fun _ _ _ h => h) (Or.inl ⟨by rfl, ?hy33⟩) hs0 ?_
        case hy33 =>
          intro u hu
          obtain ⟨u0, u1, u2, u3⟩ := hu
          go_simp
          try with_reducible rfl
        simp only [Act.put, List.setIfInBounds_toArray, List.set_cons_zero, List.set_cons_succ]
        refine wpAnyH_take (i := 9) (oi := { dst := some 75, op := Go.Op.binOp Go.BinOp.gtr 3 (Go.Operand.tmp 74) (Go.Operand.const (Go.Value.int Go.IntKind.i64 0)) 3, type := 4, pos := "outright.go:84", after := #[{ on := 8, ground := Go.Ground.data }, { on := 7, ground := Go.Ground.guard }], guard := some (7, false) }) (v := ?_) rfl (by kernel_rfl) (by kernel_rfl) (by kernel_rfl) (fun _ _ _ h => h) (Or.inl ⟨by rfl, ?hy34⟩) hs0 ?_
        case hy34 =>
          intro u hu
          obtain ⟨u0, u1, u2, u3⟩ := hu
          go_simp
          try with_reducible rfl
        simp only [Act.put, List.setIfInBounds_toArray, List.set_cons_zero, List.set_cons_succ]
        refine wpAnyH_take (i := 10) (oi := { dst := some 76, op := Go.Op.move (Go.Operand.tmp 75), type := 4, pos := "outright.go:84", after := #[{ on := 9, ground := Go.Ground.data }, { on := 7, ground := Go.Ground.chain }, { on := 7, ground := Go.Ground.guard }], guard := some (7, false) }) (v := ?_) rfl (by kernel_rfl) (by kernel_rfl) (by kernel_rfl) (fun _ _ _ h => h) (Or.inl ⟨by rfl, ?hy35⟩) hs0 ?_
        case hy35 =>
          intro u hu
          obtain ⟨u0, u1, u2, u3⟩ := hu
          go_simp
          try with_reducible rfl
        simp only [Act.put, List.setIfInBounds_toArray, List.set_cons_zero, List.set_cons_succ]
        refine wpAnyH_take (i := 11) (oi := { dst := some 77, op := Go.Op.move (Go.Operand.tmp 13), type := 38, pos := "outright.go:84", after := #[{ on := 10, ground := Go.Ground.guard }], guard := some (10, true) }) (v := ?_) rfl (by kernel_rfl) (by kernel_rfl) (by kernel_rfl) (fun _ _ _ h => h) (Or.inl ⟨by rfl, ?hy36⟩) hs0 ?_
        case hy36 =>
          intro u hu
          obtain ⟨u0, u1, u2, u3⟩ := hu
          go_simp
          try with_reducible rfl
        simp only [Act.put, List.setIfInBounds_toArray, List.set_cons_zero, List.set_cons_succ]
        refine wpAnyH_take (i := 12) (oi := { dst := some 78, op := Go.Op.move (Go.Operand.tmp 14), type := 3, pos := "outright.go:84", after := #[{ on := 10, ground := Go.Ground.guard }], guard := some (10, true) }) (v := ?_) rfl (by kernel_rfl) (by kernel_rfl) (by kernel_rfl) (fun _ _ _ h => h) (Or.inl ⟨by rfl, ?hy37⟩) hs0 ?_
        case hy37 =>
          intro u hu
          obtain ⟨u0, u1, u2, u3⟩ := hu
          go_simp
          try with_reducible rfl
        simp only [Act.put, List.setIfInBounds_toArray, List.set_cons_zero, List.set_cons_succ]
        refine wpAnyH_take (i := 13) (oi := { dst := some 79, op := Go.Op.binOp Go.BinOp.sub 3 (Go.Operand.tmp 78) (Go.Operand.const (Go.Value.int Go.IntKind.i64 1)) 3, type := 3, pos := "outright.go:84", after := #[{ on := 12, ground := Go.Ground.data }, { on := 10, ground := Go.Ground.guard }], guard := some (10, true) }) (v := ?_) rfl (by kernel_rfl) (by kernel_rfl) (by kernel_rfl) (fun _ _ _ h => h) (Or.inl ⟨by rfl, ?hy38⟩) hs0 ?_
        case hy38 =>
          intro u hu
          obtain ⟨u0, u1, u2, u3⟩ := hu
          go_simp
          try with_reducible rfl
        simp only [Act.put, List.setIfInBounds_toArray, List.set_cons_zero, List.set_cons_succ]
        refine wpAnyH_take (i := 14) (oi := { dst := some 80, op := Go.Op.indexAddr 38 (Go.Operand.tmp 77) (Go.Operand.tmp 79), type := 0, pos := "outright.go:84", after := #[{ on := 11, ground := Go.Ground.data }, { on := 13, ground := Go.Ground.data }, { on := 10, ground := Go.Ground.guard }], guard := some (10, true) }) (v := ?_) rfl (by kernel_rfl) (by kernel_rfl) (by kernel_rfl) (fun _ _ _ h => h) (Or.inl ⟨by rfl, ?hy39⟩) hs0 ?_
        case hy39 =>
          intro u hu
          obtain ⟨u0, u1, u2, u3⟩ := hu
          go_simp
          try with_reducible rfl
        simp only [Act.put, List.setIfInBounds_toArray, List.set_cons_zero, List.set_cons_succ]
        refine wpAnyH_take (i := 15) (oi := { dst := some 81, op := Go.Op.load 30 (Go.Operand.tmp 80), type := 30, pos := "outright.go:84", after := #[{ on := 14, ground := Go.Ground.data }, { on := 10, ground := Go.Ground.guard }], guard := some (10, true) }) (v := ?_) rfl (by kernel_rfl) (by kernel_rfl) (by kernel_rfl) (fun _ _ _ h => h) (Or.inl ⟨by rfl, ?hy40⟩) hs0 ?_
        case hy40 =>
          intro u hu
          obtain ⟨u0, u1, u2, u3⟩ := hu
          go_simp
          try with_reducible rfl
        simp only [Act.put, List.setIfInBounds_toArray, List.set_cons_zero, List.set_cons_succ]
        refine wpAnyH_take (i := 16) (oi := { dst := some 82, op := Go.Op.move (Go.Operand.tmp 13), type := 38, pos := "outright.go:84", after := #[{ on := 10, ground := Go.Ground.guard }], guard := some (10, true) }) (v := ?_) rfl (by kernel_rfl) (by kernel_rfl) (by kernel_rfl) (fun _ _ _ h => h) (Or.inl ⟨by rfl, ?hy41⟩) hs0 ?_
        case hy41 =>
          intro u hu
          obtain ⟨u0, u1, u2, u3⟩ := hu
          go_simp
          try with_reducible rfl
        simp only [Act.put, List.setIfInBounds_toArray, List.set_cons_zero, List.set_cons_succ]
        refine wpAnyH_take (i := 17) (oi := { dst := some 83, op := Go.Op.move (Go.Operand.tmp 14), type := 3, pos := "outright.go:84", after := #[{ on := 10, ground := Go.Ground.guard }], guard := some (10, true) }) (v := ?_) rfl (by kernel_rfl) (by kernel_rfl) (by kernel_rfl) (fun _ _ _ h => h) (Or.inl ⟨by rfl, ?hy42⟩) hs0 ?_
        case hy42 =>
          intro u hu
          obtain ⟨u0, u1, u2, u3⟩ := hu
          go_simp
          try with_reducible rfl
        simp only [Act.put, List.setIfInBounds_toArray, List.set_cons_zero, List.set_cons_succ]
        refine wpAnyH_take (i := 18) (oi := { dst := some 84, op := Go.Op.indexAddr 38 (Go.Operand.tmp 82) (Go.Operand.tmp 83), type := 0, pos := "outright.go:84", after := #[{ on := 16, ground := Go.Ground.data }, { on := 17, ground := Go.Ground.data }, { on := 10, ground := Go.Ground.guard }], guard := some (10, true) }) (v := ?_) rfl (by kernel_rfl) (by kernel_rfl) (by kernel_rfl) (fun _ _ _ h => h) (Or.inl ⟨by rfl, ?hy43⟩) hs0 ?_
        case hy43 =>
          intro u hu
          obtain ⟨u0, u1, u2, u3⟩ := hu
          go_simp
          try with_reducible rfl
        simp only [Act.put, List.setIfInBounds_toArray, List.set_cons_zero, List.set_cons_succ]
        refine wpAnyH_take (i := 19) (oi := { dst := some 85, op := Go.Op.load 30 (Go.Operand.tmp 84), type := 30, pos := "outright.go:84", after := #[{ on := 18, ground := Go.Ground.data }, { on := 10, ground := Go.Ground.guard }], guard := some (10, true) }) (v := ?_) rfl (by kernel_rfl) (by kernel_rfl) (by kernel_rfl) (fun _ _ _ h => h) (Or.inl ⟨by rfl, ?hy44⟩) hs0 ?_
        case hy44 =>
          intro u hu
          obtain ⟨u0, u1, u2, u3⟩ := hu
          go_simp
          try with_reducible rfl
        simp only [Act.put, List.setIfInBounds_toArray, List.set_cons_zero, List.set_cons_succ]
        refine wpAnyH_ready (rs := [20]) (by kernel_rfl) (by simp) ?_
        refine AllReadyH.cons (o := { dst := some 86, op := Go.Op.call { callee := Go.Callee.value (Go.Operand.func 31), args := #[Go.Operand.tmp 81, Go.Operand.tmp 85], argTypes := #[30, 30] }, type := 4, pos := "outright.go:84", after := #[{ on := 15, ground := Go.Ground.data }, { on := 19, ground := Go.Ground.data }, { on := 10, ground := Go.Ground.chain }, { on := 10, ground := Go.Ground.guard }], guard := some (10, true) }) rfl (fun K hK => ?_) AllReadyH.nil
        go_simp
        (with_reducible refine Calls.mono (kah _) ?_)
        rintro e u ⟨rfl, hbu⟩
        have HBU := hide (below_call HB1.out hbu)
        have hsu := HSA.out u hbu
        clear hbu
        refine hK.out _ _ hsu (fun _ => ?_)
        clear hK K
        try simp only [Act.put, List.setIfInBounds_toArray, List.set_cons_zero, List.set_cons_succ]
        refine wpAnyH_take (i := 21) (oi := { dst := some 87, op := Go.Op.unOp Go.UnOp.not 4 (Go.Operand.tmp 86), type := 4, pos := "outright.go:84", after := #[{ on := 20, ground := Go.Ground.data }, { on := 10, ground := Go.Ground.guard }], guard := some (10, true) }) (v := ?_) rfl (by kernel_rfl) (by kernel_rfl) (by kernel_rfl) (fun _ _ _ h => h) (Or.inl ⟨by rfl, ?hy46⟩) hsu ?_
        case hy46 =>
          intro u hu
          obtain ⟨u0, u1, u2, u3⟩ := hu
          go_simp
          try with_reducible rfl
        simp only [Act.put, List.setIfInBounds_toArray, List.set_cons_zero, List.set_cons_succ]
        refine wpAnyH_take (i := 22) (oi := { dst := some 88, op := Go.Op.pick (Go.Operand.tmp 76) (Go.Operand.tmp 87) (Go.Operand.const (Go.Value.bool false)), type := 4, pos := "outright.go:84", after := #[{ on := 10, ground := Go.Ground.data }, { on := 21, ground := Go.Ground.data }, { on := 7, ground := Go.Ground.guard }], guard := some (7, false) }) (v := ?_) rfl (by kernel_rfl) (by kernel_rfl) (by kernel_rfl) (fun _ _ _ h => h) (Or.inl ⟨by rfl, ?hy47⟩) hsu ?_
        case hy47 =>
          intro u hu
          obtain ⟨u0, u1, u2, u3⟩ := hu
          go_simp
          try with_reducible rfl
        simp only [Act.put, List.setIfInBounds_toArray, List.set_cons_zero, List.set_cons_succ]
        refine wpAnyH_take (i := 23) (oi := { dst := some 89, op := Go.Op.pick (Go.Operand.tmp 73) (Go.Operand.const (Go.Value.bool true)) (Go.Operand.tmp 88), type := 4, pos := "outright.go:84", after := #[{ on := 7, ground := Go.Ground.data }, { on := 22, ground := Go.Ground.data }], guard := none }) (v := ?_) rfl (by kernel_rfl) (by kernel_rfl) (by kernel_rfl) (fun _ _ _ h => h) (Or.inl ⟨by rfl, ?hy48⟩) hsu ?_
        case hy48 =>
          intro u hu
          obtain ⟨u0, u1, u2, u3⟩ := hu
          go_simp
          try with_reducible rfl
        simp only [Act.put, List.setIfInBounds_toArray, List.set_cons_zero, List.set_cons_succ]
        refine wpAnyH_done (by kernel_rfl) ?_ _
        clear hw2
        go_wp2_with fail
        go_roundw
        case rel => exact ⟨k + 1, hlt, by go_num, HBU.out⟩
        case measure => simp [intOf]; omega
    · have hkN : ¬ (k : Int) < (N : Int) := by omega
      have Q5 := hide (Q4.out.below HB.out)
      have P5 := hide (P4.out.below HB.out)
      have HO5 : Hid (OwnT wr w2.heap.size (.slice xo N xcap) D) := HO4.out.below HB.out
      have HBW := hide (Q5.out.le)
      have hdt := due_two a b HAB.out L
      rw [← HDD.out, ← HRR.out] at hdt
      have HDT := hide hdt
      clear Q4 P4 HO4 HX HB hdt hlt hk
      have HTAIL : Hid (∀ (u : World), Below wr.heap.size wr u → True) := fun _ _ => trivial
      cases hR : R with
      | nil =>
        have kn := next_no (show Hp wr (.pointer (some ⟨hb, 0, none⟩)) 1000 [] F by rw [← hR]; exact Q5.out.hp)
        go_wp2_with fail
        (with_reducible refine Calls.mono kn ?_)
        clear kn
        rintro e u1 ⟨rfl, hb1⟩
        obtain ⟨u2, HU2⟩ := named (u1.alloc (.cells #[.int .i64 0, .int .i64 0] 30))
        have hb2 : Below u1.heap.size u1 u2 := by rw [HU2.out]; exact (Below.refl _ _).alloc (Nat.le_refl _) _
        have HBU := hide (below_call hb1 hb2)
        clear hb1 hb2
        go_wp2_with fail
        rw [← HU2.out]
        have Q6 := hide (Q5.out.below HBU.out)
        have P6 := hide (P5.out.below HBU.out)
        have HO6 : Hid (OwnT u2 w2.heap.size (.slice xo N xcap) D) := HO5.out.below HBU.out
        have kd := due_any Q6.out.hp b
        clear Q5 P5 HO5 HBU
        (with_reducible refine Calls.mono kd ?_)
        clear kd
        rintro e u3 ⟨zv, rfl, hz, k1, k2⟩
        have Q7 := hide (Q6.out.step k1 k2)
        have P7 := hide (P6.out.keep k2 HD.out HFB.out)
        have HO7 : Hid (OwnT u3 w2.heap.size (.slice xo N xcap) D) := HO6.out.chg k2.chg HOF.out
        have HZF : Hid (∀ g, zv.ownBlock = some g → ¬ F' g) := fun g hg hF => by have h1 := (hz.lt g hg).1; have h2 := P6.out.hp.sub g hF; omega
        have HZ7 := hide hz
        have kd := due_any P7.out.hp b
        clear Q6 P6 HO6 k1 k2 hz
        go_wp2_with fail
        (with_reducible refine Calls.mono kd ?_)
        clear kd
        rintro e u4 ⟨tv, rfl, ht, k1, k2⟩
        have P8 := hide (P7.out.step k1 k2)
        have Q8 := hide (Q7.out.keep k2 HD'.out HFB'.out)
        have HO8 : Hid (OwnT u4 w2.heap.size (.slice xo N xcap) D) := HO7.out.chg k2.chg HOF'.out
        have HZ8 : Hid (OwnT u4 u2.heap.size zv (dueL b R)) := HZ7.out.chg k2.chg HZF.out
        have HT8 := hide ht
        clear Q7 P7 HO7 HZ7 k1 k2 ht
        have HE8 := OwnT.empty u4
        have hbe : Below u4.heap.size u4 (u4.alloc (.cells #[] 30)) := (Below.refl _ _).alloc (Nat.le_refl _) _
        have hzl : (dueL b R).length ≤ 300 := by have h1 := (List.takeWhile_sublist (fun x : Tm => decide (x.1 ≤ b)) (l := R)).length_le; have h2 := HRL.out; show (dueL b R).length ≤ 300; unfold dueL; omega
        have hxr : RdT (u4.alloc (.cells #[] 30)) (.slice xo N xcap) D := (HO8.out.below hbe).rd
        obtain ⟨v1, u5, hr1, ho1, hg1, -⟩ := HE8.appendRd hxr (by have := HNN.out; simp only [List.length_nil]; omega) hbe.size 38
        rw [List.nil_append] at ho1
        have hb5 : Below u4.heap.size u4 u5 := hbe.grown hg1 hbe.size fun k hk => by cases hk; exact Nat.le_refl _
        have hzr : RdT u5 zv (dueL b R) := (HZ8.out.below hb5).rd
        obtain ⟨v2, u6, hr2, ho2, hg2, -⟩ := ho1.appendRd hzr (by have := HNN.out; omega) hb5.size 38
        have hb6 : Below u4.heap.size u4 u6 := hb5.grown hg2 hb5.size fun k hk => (ho1.lt k hk).1
        have HR1 := hide hr1
        have HR2 := hide hr2
        have Q9 := hide (Q8.out.below hb6)
        have P9 := hide (P8.out.below hb6)
        have ks := same_any ho2.rd (HT8.out.below hb6).rd (by rw [List.length_append]; have := HNN.out; omega)
        rw [decide_eq_true HDT.out.1] at ks
        clear HE8 hbe hzl hxr hr1 ho1 hg1 hb5 hzr hr2 ho2 hg2 hb6 Q8 P8 HO8 HZ8 HT8
        go_wp2_with (first | (at_builtin; refine Lib.wpList_append_run _ rfl _ _ _ _ rfl _ _ rfl rfl _ _ HR1.out ?_) | (at_builtin; refine Lib.wpList_append_run _ rfl _ _ _ _ rfl _ _ rfl rfl _ _ HR2.out ?_))
        (with_reducible refine Calls.mono ks ?_)
        clear ks HR1 HR2
        rintro e y1 ⟨rfl, hb1⟩
        have Q10 := hide (Q9.out.below hb1)
        have P10 := hide (P9.out.below hb1)
        have ka := all_any Q10.out.hp
        clear Q9 P9 hb1
        go_wp2_with fail
        (with_reducible refine Calls.mono ka ?_)
        clear ka
        rintro e y2 ⟨av, rfl, ho, hb1⟩
        have Q11 := hide (Q10.out.below hb1)
        have P11 := hide (P10.out.below hb1)
        have HA11 := hide ho
        have ka := all_any P11.out.hp
        clear Q10 P10 hb1 ho
        go_wp2_with fail
        (with_reducible refine Calls.mono ka ?_)
        clear ka
        rintro e y3 ⟨bv, rfl, ho, hb1⟩
        have Q12 := hide (Q11.out.below hb1)
        have ks := same_any (HA11.out.below hb1).rd ho.rd (by have h1 := Q12.out.hp.len; omega)
        rw [decide_eq_true HDT.out.2] at ks
        clear Q11 P11 hb1 ho HA11
        go_wp2_with fail
        (with_reducible refine Calls.mono ks ?_)
        clear ks
        rintro e y4 ⟨rfl, hb1⟩
        have Q13 := hide (Q12.out.below hb1)
        have ka := awake_true y4
        clear Q12 hb1
        go_wp2_with fail
        (with_reducible refine Calls.mono ka ?_)
        clear ka
        rintro e y5 ⟨rfl, hb1⟩
        have HEND := hide (Q13.out.below hb1).bel
        clear hb1
        go_wp2_with fail
        go_ret
        exact ⟨rfl, HEND.out⟩
      | cons x r =>
        have kn := next_yes (show Hp wr (.pointer (some ⟨hb, 0, none⟩)) 1000 (x :: r) F by rw [← hR]; exact Q5.out.hp)
        have hnl : ¬ x.1 ≤ a := rest_head a L x r (by rw [← HRR.out]; exact hR)
        obtain ⟨x0, x1⟩ := x
        have hle : decide (x0 ≤ a) = false := decide_eq_false hnl
        have hle2 : a < x0 := by have := hnl; simp only at this; omega
        clear hnl
        go_wp2_with fail
        (with_reducible refine Calls.mono kn ?_)
        clear kn
        rintro e u1 ⟨rfl, hb1⟩
        obtain ⟨u2, HU2⟩ := named (u1.alloc (.cells #[.int .i64 x0, .int .i64 x1] 30))
        have hb2 : Below u1.heap.size u1 u2 := by rw [HU2.out]; exact (Below.refl _ _).alloc (Nat.le_refl _) _
        have HBU := hide (below_call hb1 hb2)
        have hc2 := heap_new u1 (.cells #[.int .i64 x0, .int .i64 x1] 30)
        rw [← HU2.out] at hc2
        have c0 : u2.cell? ⟨u1.heap.size, 0, none⟩ = some (.int .i64 x0) := by rw [cell_of hc2]; rfl
        have c0' : u2.drew.cell? ⟨u1.heap.size, 0, none⟩ = some (.int .i64 x0) := c0
        clear hb1 hb2 hc2
        go_wp2_with (rw [← HU2.out])
        have Q6 := hide (Q5.out.below HBU.out)
        have P6 := hide (P5.out.below HBU.out)
        have HO6 : Hid (OwnT u2 w2.heap.size (.slice xo N xcap) D) := HO5.out.below HBU.out
        have kd := due_any Q6.out.hp b
        clear Q5 P5 HO5 HBU
        (with_reducible refine Calls.mono kd ?_)
        clear kd
        rintro e u3 ⟨zv, rfl, hz, k1, k2⟩
        have Q7 := hide (Q6.out.step k1 k2)
        have P7 := hide (P6.out.keep k2 HD.out HFB.out)
        have HO7 : Hid (OwnT u3 w2.heap.size (.slice xo N xcap) D) := HO6.out.chg k2.chg HOF.out
        have HZF : Hid (∀ g, zv.ownBlock = some g → ¬ F' g) := fun g hg hF => by have h1 := (hz.lt g hg).1; have h2 := P6.out.hp.sub g hF; omega
        have HZ7 := hide hz
        have kd := due_any P7.out.hp b
        clear Q6 P6 HO6 k1 k2 hz
        go_wp2_with fail
        (with_reducible refine Calls.mono kd ?_)
        clear kd
        rintro e u4 ⟨tv, rfl, ht, k1, k2⟩
        have P8 := hide (P7.out.step k1 k2)
        have Q8 := hide (Q7.out.keep k2 HD'.out HFB'.out)
        have HO8 : Hid (OwnT u4 w2.heap.size (.slice xo N xcap) D) := HO7.out.chg k2.chg HOF'.out
        have HZ8 : Hid (OwnT u4 u2.heap.size zv (dueL b R)) := HZ7.out.chg k2.chg HZF.out
        have HT8 := hide ht
        clear Q7 P7 HO7 HZ7 k1 k2 ht
        have HE8 := OwnT.empty u4
        have hbe : Below u4.heap.size u4 (u4.alloc (.cells #[] 30)) := (Below.refl _ _).alloc (Nat.le_refl _) _
        have hzl : (dueL b R).length ≤ 300 := by have h1 := (List.takeWhile_sublist (fun x : Tm => decide (x.1 ≤ b)) (l := R)).length_le; have h2 := HRL.out; show (dueL b R).length ≤ 300; unfold dueL; omega
        have hxr : RdT (u4.alloc (.cells #[] 30)) (.slice xo N xcap) D := (HO8.out.below hbe).rd
        obtain ⟨v1, u5, hr1, ho1, hg1, -⟩ := HE8.appendRd hxr (by have := HNN.out; simp only [List.length_nil]; omega) hbe.size 38
        rw [List.nil_append] at ho1
        have hb5 : Below u4.heap.size u4 u5 := hbe.grown hg1 hbe.size fun k hk => by cases hk; exact Nat.le_refl _
        have hzr : RdT u5 zv (dueL b R) := (HZ8.out.below hb5).rd
        obtain ⟨v2, u6, hr2, ho2, hg2, -⟩ := ho1.appendRd hzr (by have := HNN.out; omega) hb5.size 38
        have hb6 : Below u4.heap.size u4 u6 := hb5.grown hg2 hb5.size fun k hk => (ho1.lt k hk).1
        have HR1 := hide hr1
        have HR2 := hide hr2
        have Q9 := hide (Q8.out.below hb6)
        have P9 := hide (P8.out.below hb6)
        have ks := same_any ho2.rd (HT8.out.below hb6).rd (by rw [List.length_append]; have := HNN.out; omega)
        rw [decide_eq_true HDT.out.1] at ks
        clear HE8 hbe hzl hxr hr1 ho1 hg1 hb5 hzr hr2 ho2 hg2 hb6 Q8 P8 HO8 HZ8 HT8
        go_wp2_with (first | (at_builtin; refine Lib.wpList_append_run _ rfl _ _ _ _ rfl _ _ rfl rfl _ _ HR1.out ?_) | (at_builtin; refine Lib.wpList_append_run _ rfl _ _ _ _ rfl _ _ rfl rfl _ _ HR2.out ?_))
        (with_reducible refine Calls.mono ks ?_)
        clear ks HR1 HR2
        rintro e y1 ⟨rfl, hb1⟩
        have Q10 := hide (Q9.out.below hb1)
        have P10 := hide (P9.out.below hb1)
        have ka := all_any Q10.out.hp
        clear Q9 P9 hb1
        go_wp2_with fail
        (with_reducible refine Calls.mono ka ?_)
        clear ka
        rintro e y2 ⟨av, rfl, ho, hb1⟩
        have Q11 := hide (Q10.out.below hb1)
        have P11 := hide (P10.out.below hb1)
        have HA11 := hide ho
        have ka := all_any P11.out.hp
        clear Q10 P10 hb1 ho
        go_wp2_with fail
        (with_reducible refine Calls.mono ka ?_)
        clear ka
        rintro e y3 ⟨bv, rfl, ho, hb1⟩
        have Q12 := hide (Q11.out.below hb1)
        have ks := same_any (HA11.out.below hb1).rd ho.rd (by have h1 := Q12.out.hp.len; omega)
        rw [decide_eq_true HDT.out.2] at ks
        clear Q11 P11 hb1 ho HA11
        go_wp2_with fail
        (with_reducible refine Calls.mono ks ?_)
        clear ks
        rintro e y4 ⟨rfl, hb1⟩
        have Q13 := hide (Q12.out.below hb1)
        have ka := awake_true y4
        clear Q12 hb1
        go_wp2_with fail
        (with_reducible refine Calls.mono ka ?_)
        clear ka
        rintro e y5 ⟨rfl, hb1⟩
        have HEND := hide (Q13.out.below hb1).bel
        clear hb1
        go_wp2_with fail
        go_ret
        exact ⟨rfl, HEND.out⟩

theorem due_walk (w : World) (v0 : Value) (l : List Tm) (hv : RdT w v0 l) (hr : ∀ x ∈ l, I64 x.1 ∧ I64 x.2) (n1 n2 : Int) (_ : I64 n1) (_ : I64 n2) :
    Calls Try.prog 7 #[v0, .int .i64 n1, .int .i64 n2] w fun e w' => e = .returned (.bool true) ∧ Below w.heap.size w w' :=
  due_from hv hr n1 n2 _ _ rfl rfl
end Go.Proofs.Ytemlanalaihkoaa
