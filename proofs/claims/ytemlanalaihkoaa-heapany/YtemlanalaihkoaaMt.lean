/-
  awake: the chapter's examples come out as written. Own work.
-/
import Derived.Test.YtemlanalaihkoaaMs
namespace Go.Proofs.Ytemlanalaihkoaa
open Go.RowKit Go.Sort

theorem RdT.lit (w : World) (l : List Tm) (n : Nat) (cs : Array Value) (hc : cs = (cellsL l).toArray) (hn : n = l.length) (hl : l.length ≤ 1000) : RdT (w.alloc (.cells cs 30)) (.slice (some ⟨w.heap.size, 0, none⟩) n n) l := by
  subst hc
  subst hn
  refine ⟨_, _, rfl, Nat.le_refl _, by unfold maxLen; omega, by simp, fun k hk => ⟨w.heap.size, 0, rfl, ?_⟩⟩
  obtain ⟨a, b⟩ := cellsL_get l k hk
  rw [Nat.zero_add, cell_of (heap_new w _), cell_of (heap_new w _)]
  simpa using ⟨a, b⟩

/-- the first example's heap, behind W, with the timers of L -/
structure Iv (W : World) (hb : Nat) (F : Nat → Prop) (w : World) (L : List Tm) : Prop where
  hp : Hp w (.pointer (some ⟨hb, 0, none⟩)) 9 L F
  chg : Chg F W w
theorem Iv.below {W w w' : World} {hb : Nat} {F : Nat → Prop} {L : List Tm} (h : Iv W hb F w L) (hb' : Below w.heap.size w w') : Iv W hb F w' L :=
  ⟨h.hp.below hb', h.chg.trans (Chg.ofBelow hb' (fun _ => False)) fun _ _ h => h.elim⟩

set_option maxRecDepth 100000 in
set_option maxHeartbeats 6400000 in
theorem awake_true (w : World) : Calls Try.prog 21 #[] w fun e w' => e = .returned (.bool true) ∧ Below w.heap.size w w' := by
  have kt := fun a b w => t_any a b w
  have kf1 : ∀ (u : World) (v : Value), RdT u v [(5, 1), (3, 2), (5, 0)] → Calls Try.prog 12 #[.int .i64 9, v] u fun e w' => ∃ h, e = .returned (.tuple #[h, .bool true]) ∧ ∃ F, Hq u.heap.size u w' h 9 [(3, 2), (5, 0), (5, 1)] F := fun u v hv =>
    filled_any 9 (by omega) (by omega) hv (by decide) (by unfold I64; decide) (by decide)
  have kf2 : ∀ (u : World) (v : Value), RdT u v [(9, 1), (2, 3), (4, 2)] → Calls Try.prog 12 #[.int .i64 9, v] u fun e w' => ∃ h, e = .returned (.tuple #[h, .bool true]) ∧ ∃ F, Hq u.heap.size u w' h 9 [(2, 3), (4, 2), (9, 1)] F := fun u v hv =>
    filled_any 9 (by omega) (by omega) hv (by decide) (by unfold I64; decide) (by decide)
  have ke1 : ∀ u : World, RdT (u.alloc (.cells #[.int .i64 5, .int .i64 1, .int .i64 3, .int .i64 2, .int .i64 5, .int .i64 0] 30)) (.slice (some ⟨u.heap.size, 0, none⟩) 3 3) [(5, 1), (3, 2), (5, 0)] := fun u => RdT.lit u _ 3 _ rfl rfl (by decide)
  have ke2 : ∀ u : World, RdT (u.alloc (.cells #[.int .i64 9, .int .i64 1, .int .i64 2, .int .i64 3, .int .i64 4, .int .i64 2] 30)) (.slice (some ⟨u.heap.size, 0, none⟩) 3 3) [(9, 1), (2, 3), (4, 2)] := fun u => RdT.lit u _ 3 _ rfl rfl (by decide)
  have ke3 : ∀ u : World, RdT (u.alloc (.cells #[.int .i64 2, .int .i64 3, .int .i64 4, .int .i64 2] 30)) (.slice (some ⟨u.heap.size, 0, none⟩) 2 2) [(2, 3), (4, 2)] := fun u => RdT.lit u _ 2 _ rfl rfl (by decide)
  have ke4 : ∀ u : World, RdT (u.alloc (.cells #[.int .i64 9, .int .i64 1] 30)) (.slice (some ⟨u.heap.size, 0, none⟩) 1 1) [(9, 1)] := fun u => RdT.lit u _ 1 _ rfl rfl (by decide)
  have KF1 := hide kf1
  have KF2 := hide kf2
  have KE1 := hide ke1
  have KE2 := hide ke2
  have KE3 := hide ke3
  have KE4 := hide ke4
  clear kf1 kf2 ke1 ke2 ke3 ke4
  go_enter Try.func21, Try.ntmps21
  go_wp2_with fail
  (with_reducible refine Calls.mono (kt _ _ _) ?_); rintro e w1 ⟨rfl, hb1⟩
  go_wp2_with fail
  (with_reducible refine Calls.mono (kt _ _ _) ?_); rintro e w2 ⟨rfl, hb2⟩
  go_wp2_with fail
  (with_reducible refine Calls.mono (kt _ _ _) ?_); rintro e w3 ⟨rfl, hb3⟩
  have HB3 := hide (below_call (below_call hb1 hb2) hb3)
  clear hb1 hb2 hb3
  go_wp2_with fail
  obtain ⟨w4, HW4⟩ := named (w3.alloc (.cells #[.int .i64 5, .int .i64 1, .int .i64 3, .int .i64 2, .int .i64 5, .int .i64 0] 30))
  have hb4 : Below w3.heap.size w3 w4 := by rw [HW4.out]; exact (Below.refl _ _).alloc (Nat.le_refl _) _
  have HB4 := hide (below_call HB3.out hb4)
  have k1 := KF1.out w4 _ (by rw [HW4.out]; exact KE1.out w3)
  clear hb4 HB3
  rw [← HW4.out]
  (with_reducible refine Calls.mono k1 ?_)
  clear k1
  rintro e w5 ⟨h, rfl, F, q⟩
  obtain ⟨hb, hhe, -⟩ := q.hp.ne
  subst hhe
  have Q5 := hide q
  have kn := next_yes q.hp
  clear q
  go_wp2_with fail
  (with_reducible refine Calls.mono kn ?_)
  clear kn
  rintro e w6 ⟨rfl, hb6⟩
  obtain ⟨w7, HW7⟩ := named (w6.alloc (.cells #[.int .i64 3, .int .i64 2] 30))
  obtain ⟨gx, HGX⟩ := named w6.heap.size
  have hb7 : Below w6.heap.size w6 w7 := by rw [HW7.out]; exact (Below.refl _ _).alloc (Nat.le_refl _) _
  have hcx := heap_new w6 (.cells #[.int .i64 3, .int .i64 2] 30)
  rw [← HW7.out, ← HGX.out] at hcx
  have HCX := hide hcx
  have Q7 := hide ((Q5.out.below hb6).below hb7)
  have hnx : ¬ F gx := fun hF => by have := (Q5.out.below hb6).hp.sub _ hF; rw [HGX.out] at this; omega
  have kd := drop_yes Q7.out.hp (3, 2) (by decide)
  have hdel : delL 2 [(3, 2), (5, 0), (5, 1)] = [(5, 0), (5, 1)] := by decide
  simp only [hdel] at kd
  clear hb6 hb7 hcx hdel Q5
  go_wp2_with (rw [← HW7.out])
  (with_reducible refine Calls.mono kd ?_)
  clear kd
  rintro e w8 ⟨rfl, q1, q2⟩
  have hcx8 := (q2.chg.block _ (lt_of HCX.out) hnx).trans HCX.out
  obtain ⟨w9, HW9⟩ := named (w8.alloc (.cells #[.int .i64 3, .int .i64 2] 30))
  obtain ⟨gy, HGY⟩ := named w8.heap.size
  have hb9 : Below w8.heap.size w8 w9 := by rw [HW9.out]; exact (Below.refl _ _).alloc (Nat.le_refl _) _
  have hcy := heap_new w8 (.cells #[.int .i64 3, .int .i64 2] 30)
  rw [← HW9.out, ← HGY.out] at hcy
  have hcx9 := (hb9.block _ (lt_of hcx8)).trans hcx8
  have hny : ¬ F gy := fun hF => by have := q1.sub _ hF; rw [HGY.out] at this; omega
  have Q9 := hide ((Q7.out.step q1 q2).below hb9)
  have hI : Iv w9.drew hb F w9.drew [(5, 0), (5, 1)] := ⟨Q9.out.hp.heap (Nat.le_refl _) fun _ _ => rfl, Chg.refl _ _⟩
  have HSA : Hid (∀ (u : World) (L : List Tm), Iv w9.drew hb F u L → u.cell? ⟨gx, 0, none⟩ = some (.int .i64 3) ∧ u.cell? ⟨gx, 1, none⟩ = some (.int .i64 2) ∧ u.cell? ⟨gy, 0, none⟩ = some (.int .i64 3) ∧ u.cell? ⟨gy, 1, none⟩ = some (.int .i64 2)) := fun u L hu => by
    have e1 := (hu.chg.block gx (lt_of hcx9) hnx).trans hcx9
    have e2 := (hu.chg.block gy (lt_of hcy) hny).trans hcy
    exact ⟨by rw [cell_of e1]; rfl, by rw [cell_of e1]; rfl, by rw [cell_of e2]; rfl, by rw [cell_of e2]; rfl⟩
  have hs0 := HSA.out _ _ hI
  have ky : ∀ (u : World) (L : List Tm) (a b : Int), Iv w9.drew hb F u L → Calls Try.prog 13 #[.int .i64 a, .int .i64 b] u fun e u' => e = .returned (.agg #[.int .i64 a, .int .i64 b]) ∧ Iv w9.drew hb F u' L := fun u L a b hu => (kt a b u).mono fun e u' h => ⟨h.1, hu.below h.2⟩
  have kp : ∀ (u : World), Iv w9.drew hb F u [(5, 0), (5, 1)] → Calls Try.prog 14 #[.pointer (some ⟨hb, 0, none⟩), .agg #[.int .i64 7, .int .i64 1]] u fun e u' => e = .returned (.int .i64 40) ∧ Iv w9.drew hb F u' [(5, 0), (5, 1)] := fun u hu => (put_there hu.hp (7, 1) (by unfold I64; decide) (by decide)).mono fun e u' h => ⟨h.1, hu.below h.2⟩
  have ko1 : ∀ (u : World), Iv w9.drew hb F u [(5, 0), (5, 1)] → Calls Try.prog 39 #[.pointer (some ⟨hb, 0, none⟩), .agg #[.int .i64 5, .int .i64 0], .bool true] u fun e u' => e = .returned (.bool true) ∧ Iv w9.drew hb F u' [(5, 1)] := fun u hu => (pops_yes hu.hp).mono fun e u' h => ⟨h.1, h.2.1, hu.chg.trans h.2.2.chg fun _ _ h => h⟩
  have ko2 : ∀ (u : World), Iv w9.drew hb F u [(5, 1)] → Calls Try.prog 39 #[.pointer (some ⟨hb, 0, none⟩), .agg #[.int .i64 5, .int .i64 1], .bool true] u fun e u' => e = .returned (.bool true) ∧ Iv w9.drew hb F u' [] := fun u hu => (pops_yes hu.hp).mono fun e u' h => ⟨h.1, h.2.1, hu.chg.trans h.2.2.chg fun _ _ h => h⟩
  have ko3 : ∀ (u : World), Iv w9.drew hb F u [] → Calls Try.prog 39 #[.pointer (some ⟨hb, 0, none⟩), .agg #[.int .i64 0, .int .i64 0], .bool false] u fun e u' => e = .returned (.bool true) ∧ Iv w9.drew hb F u' [] := fun u hu => (pops_no hu.hp).mono fun e u' h => ⟨h.1, hu.below h.2⟩
  have KB : Hid (∀ (u : World) (L : List Tm), Iv w9.drew hb F u L → Below w.heap.size w u) := fun u L hu => by
    have h1 := hu.chg.below w4.heap.size Q9.out.new Q9.out.le
    exact below_call HB4.out (Q9.out.bel.trans ⟨h1.os, h1.tape, h1.output, h1.size, h1.block⟩)
  clear q1 q2 hb9 hcy hcx8 hcx9 Q7 HCX
  go_wp2_with (rw [← HW9.out])
  (try rw [← HGX.out])
  (try rw [← HGY.out])
  go_region_held3 (fun u => u.cell? ⟨gx, 0, none⟩ = some (.int .i64 3) ∧ u.cell? ⟨gx, 1, none⟩ = some (.int .i64 2) ∧ u.cell? ⟨gy, 0, none⟩ = some (.int .i64 3) ∧ u.cell? ⟨gy, 1, none⟩ = some (.int .i64 2)) (first | assumption | exact HSA.out _ _ (by assumption)) (first | ((with_reducible refine Calls.mono (ky _ _ _ _ (by assumption)) ?_); rintro e u ⟨rfl, hJ⟩) | ((with_reducible refine Calls.mono (kp _ (by assumption)) ?_); rintro e u ⟨rfl, hJ⟩) | ((with_reducible refine Calls.mono (ko1 _ (by assumption)) ?_); rintro e u ⟨rfl, hJ⟩) | ((with_reducible refine Calls.mono (ko2 _ (by assumption)) ?_); rintro e u ⟨rfl, hJ⟩) | ((with_reducible refine Calls.mono (ko3 _ (by assumption)) ?_); rintro e u ⟨rfl, hJ⟩))
  clear HSA hs0 ky kp ko1 ko2 ko3 HW7 HW9 HGX HGY
  go_wp2_with fail
  (with_reducible refine Calls.mono (kt _ _ _) ?_); rintro e v1 ⟨rfl, hb1⟩
  have HV1 := hide (below_call (KB.out _ _ (by assumption)) hb1)
  clear hb1 KB
  go_wp2_with fail
  (with_reducible refine Calls.mono (kt _ _ _) ?_); rintro e v2 ⟨rfl, hb2⟩
  go_wp2_with fail
  (with_reducible refine Calls.mono (kt _ _ _) ?_); rintro e v3 ⟨rfl, hb3⟩
  have HV3 := hide (below_call (below_call HV1.out hb2) hb3)
  clear hb2 hb3
  go_wp2_with fail
  obtain ⟨v4, HW4'⟩ := named (v3.alloc (.cells #[.int .i64 9, .int .i64 1, .int .i64 2, .int .i64 3, .int .i64 4, .int .i64 2] 30))
  have hb4 : Below v3.heap.size v3 v4 := by rw [HW4'.out]; exact (Below.refl _ _).alloc (Nat.le_refl _) _
  have HV4 := hide (below_call HV3.out hb4)
  have k1 := KF2.out v4 _ (by rw [HW4'.out]; exact KE2.out v3)
  clear hb4 HV3
  rw [← HW4'.out]
  (with_reducible refine Calls.mono k1 ?_)
  clear k1
  rintro e v5 ⟨g, rfl, G, q⟩
  obtain ⟨gb, hge, -⟩ := q.hp.ne
  subst hge
  have Q5' := hide q
  have kd := due_any q.hp 4
  have hdu : dueL 4 [(2, 3), (4, 2), (9, 1)] = [(2, 3), (4, 2)] := by decide
  have hre : restL 4 [(2, 3), (4, 2), (9, 1)] = [(9, 1)] := by decide
  rw [hdu, hre] at kd
  clear q hdu hre
  go_wp2_with fail
  (with_reducible refine Calls.mono kd ?_)
  clear kd
  rintro e v6 ⟨dv, rfl, ho, q1, q2⟩
  have Q6 := hide (Q5'.out.step q1 q2)
  have HO6 := hide ho.rd
  clear ho q1 q2
  go_wp2_with fail
  (with_reducible refine Calls.mono (kt _ _ _) ?_); rintro e v7 ⟨rfl, hb7⟩
  go_wp2_with fail
  (with_reducible refine Calls.mono (kt _ _ _) ?_); rintro e v8 ⟨rfl, hb8⟩
  have hb78 := below_call hb7 hb8
  have Q8 := hide (Q6.out.below hb78)
  have HO8 := hide (HO6.out.below hb78)
  clear hb7 hb8 hb78
  go_wp2_with fail
  obtain ⟨v9, HV9⟩ := named (v8.alloc (.cells #[.int .i64 2, .int .i64 3, .int .i64 4, .int .i64 2] 30))
  have hb9 : Below v8.heap.size v8 v9 := by rw [HV9.out]; exact (Below.refl _ _).alloc (Nat.le_refl _) _
  have ks := same_any (HO8.out.below hb9) (by rw [HV9.out]; exact KE3.out v8) (by decide)
  have Q9' := hide (Q8.out.below hb9)
  simp only [decide_true] at ks
  clear hb9
  rw [← HV9.out]
  (with_reducible refine Calls.mono ks ?_)
  clear ks
  rintro e v10 ⟨rfl, hb10⟩
  have Q10 := hide (Q9'.out.below hb10)
  have ka := all_any Q10.out.hp
  clear hb10
  go_wp2_with fail
  (with_reducible refine Calls.mono ka ?_)
  clear ka
  rintro e v11 ⟨av, rfl, ho, hb11⟩
  have Q11 := hide (Q10.out.below hb11)
  have HO11 := hide ho.rd
  clear ho hb11
  go_wp2_with fail
  (with_reducible refine Calls.mono (kt _ _ _) ?_); rintro e v12 ⟨rfl, hb12⟩
  have Q12 := hide (Q11.out.below hb12)
  have HO12 := hide (HO11.out.below hb12)
  clear hb12
  go_wp2_with fail
  obtain ⟨v13, HV13⟩ := named (v12.alloc (.cells #[.int .i64 9, .int .i64 1] 30))
  have hb13 : Below v12.heap.size v12 v13 := by rw [HV13.out]; exact (Below.refl _ _).alloc (Nat.le_refl _) _
  have ks := same_any (HO12.out.below hb13) (by rw [HV13.out]; exact KE4.out v12) (by decide)
  have Q13 := hide (Q12.out.below hb13)
  simp only [decide_true] at ks
  clear hb13
  rw [← HV13.out]
  (with_reducible refine Calls.mono ks ?_)
  clear ks
  rintro e v14 ⟨rfl, hb14⟩
  have HEND := hide (below_call HV4.out (Q13.out.below hb14).bel)
  clear hb14
  go_wp2_with fail
  go_ret
  exact ⟨rfl, HEND.out⟩
end Go.Proofs.Ytemlanalaihkoaa
