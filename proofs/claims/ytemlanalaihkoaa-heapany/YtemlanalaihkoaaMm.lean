/-
  The contract of Put. Own work.
-/
import Derived.Test.YtemlanalaihkoaaMl
namespace Go.Proofs.Ytemlanalaihkoaa
open Go.RowKit Go.Sort

theorem step_append_runI {P : Program} {ops : Array Oper} {o : Oper} {a : Act} {w : World} {K : Act → World → Prop} {Q : Exit → Act → World → Prop} {E : Prop}
    (hg : o.guard = none) (d x : Operand) (dT sT : TypeId) (hop : o.op = Op.call { callee := Callee.builtin Builtin.append, args := #[d, x], argTypes := #[dT, sT] })
    (v u : Value) (hd : a.eval d = v) (hx : a.eval x = u) {v' : Value} {w' : World} (hr : (Builtin.append_ #[dT, sT] o.type #[v, u]).run P w = .ok v' w') (hK : K (a.put o.dst v') w') :
    if Region.wanted o (yielded ops a.tmps) = true then Oper.wp P o a w K Q else E := by
  have hw : Region.wanted o (yielded ops a.tmps) = true := by simp [Region.wanted, hg]
  rw [if_pos hw]
  unfold Oper.wp
  simp [execOp, hop, resolve, invoke, builtin, hd, hx, hr, Result.andThen]
  exact hK
theorem Try.info30 : (Try.prog.info? 30).map (fun i => (i.zero, i.size, i.bytes)) = some (some (.agg #[.int .i64 0, .int .i64 0]), 2, 16) := by kernel_rfl

set_option maxRecDepth 100000 in
set_option maxHeartbeats 1600000 in
theorem put_there {w : World} {h : Value} {most : Nat} {L : List Tm} {F : Nat → Prop} (hp : Hp w h most L F) (t : Tm) (hi : I64 t.2) (hh : hasL t.2 L = true) :
    Calls Try.prog 14 #[h, .agg #[.int .i64 t.1, .int .i64 t.2]] w fun e w' => e = .returned (.int .i64 40) ∧ Below w.heap.size w w' := by
  obtain ⟨hb, sb, mb, tv, f, l, rfl, h2, h3, h4, h5, h6, h7, h8, h9, h10⟩ := hp
  obtain ⟨n, HN⟩ := named L.length
  rw [← HN.out] at h3 h4 h5 h6 h7
  obtain ⟨t0, t1⟩ := t
  obtain ⟨tb, HTB⟩ := named w.heap.size
  obtain ⟨W, HW⟩ := named (w.alloc (.cells #[.int .i64 t0, .int .i64 t1] 30))
  have hB : Below w.heap.size w W := by rw [HW.out]; exact (Below.refl _ _).alloc (Nat.le_refl _) _
  have hC := C2.new w (.int .i64 t0) (.int .i64 t1) 30
  have hCh := heap_new w (.cells #[.int .i64 t0, .int .i64 t1] 30)
  rw [← HW.out, ← HTB.out] at hC hCh
  obtain ⟨htl, r0, r1, -, -⟩ := hC
  have HB := hide hB
  have h2' : W.heap[hb]? = some (.cells #[.pointer (some ⟨sb, 0, none⟩)] 62 (0, 0)) := (hB.block _ (lt_of h2)).trans h2
  have c0 : W.cell? ⟨hb, 0, none⟩ = some (.pointer (some ⟨sb, 0, none⟩)) := by rw [cell_of h2']; rfl
  have km := made_yes W hb sb c0
  have h3' := h3.below hB
  have h4' := h4.heap (hB.block _ h4.lt)
  have s0 := h3'.s0
  have s1 := h3'.s1
  have s2 := h3'.s2
  have hhas := h7.has h5 t1
  obtain ⟨i, hl⟩ : ∃ i, l t1 = some i := by
    rw [hh] at hhas
    exact Option.isSome_iff_exists.1 hhas
  have hlook := (h4'.heap (w' := W.drew) rfl).look_ok mt76 hi
  have e1 : LI l t1 = some (i : Int) := by unfold LI; rw [hl]
  simp only [e1] at hlook
  have hs0 : W.drew.cell? ⟨hb, 0, none⟩ = some (.pointer (some ⟨sb, 0, none⟩)) ∧ W.drew.cell? ⟨sb, 2, none⟩ = some (.map (some mb)) ∧ W.drew.cell? ⟨tb, 1, none⟩ = some (.int .i64 t1) := ⟨c0, s2, r1⟩
  clear h2 h2' h3 h3' h4 h4' h5 h6 h7 h8 h9 h10 hhas hl e1 hB hCh
  go_enter Try.func14, Try.ntmps14
  go_wp2_with (rw [← HW.out])
  (with_reducible refine Calls.mono km ?_)
  rintro e w' ⟨rfl, rfl⟩
  (try rw [← HTB.out])
  go_wp2_with fail
  go_region_held3 (fun w' => w'.cell? ⟨hb, 0, none⟩ = some (.pointer (some ⟨sb, 0, none⟩)) ∧ w'.cell? ⟨sb, 2, none⟩ = some (.map (some mb)) ∧ w'.cell? ⟨tb, 1, none⟩ = some (.int .i64 t1)) (assumption) (fail)
  go_wp2_with fail
  go_ret
  exact ⟨rfl, HB.out.drew⟩
set_option maxRecDepth 100000 in
set_option maxHeartbeats 1600000 in
theorem put_full {w : World} {h : Value} {most : Nat} {L : List Tm} {F : Nat → Prop} (hp : Hp w h most L F) (t : Tm) (hi : I64 t.2) (hh : hasL t.2 L = false) (hfull : L.length = most) :
    Calls Try.prog 14 #[h, .agg #[.int .i64 t.1, .int .i64 t.2]] w fun e w' => e = .returned (.int .i64 5) ∧ Below w.heap.size w w' := by
  obtain ⟨hb, sb, mb, tv, f, l, rfl, h2, h3, h4, h5, h6, h7, h8, h9, h10⟩ := hp
  obtain ⟨n, HN⟩ := named L.length
  rw [← HN.out] at h3 h4 h5 h6 h7
  obtain ⟨t0, t1⟩ := t
  obtain ⟨tb, HTB⟩ := named w.heap.size
  obtain ⟨W, HW⟩ := named (w.alloc (.cells #[.int .i64 t0, .int .i64 t1] 30))
  have hB : Below w.heap.size w W := by rw [HW.out]; exact (Below.refl _ _).alloc (Nat.le_refl _) _
  have hC := C2.new w (.int .i64 t0) (.int .i64 t1) 30
  have hCh := heap_new w (.cells #[.int .i64 t0, .int .i64 t1] 30)
  rw [← HW.out, ← HTB.out] at hC hCh
  obtain ⟨htl, r0, r1, -, -⟩ := hC
  have HB := hide hB
  have h2' : W.heap[hb]? = some (.cells #[.pointer (some ⟨sb, 0, none⟩)] 62 (0, 0)) := (hB.block _ (lt_of h2)).trans h2
  have c0 : W.cell? ⟨hb, 0, none⟩ = some (.pointer (some ⟨sb, 0, none⟩)) := by rw [cell_of h2']; rfl
  have km := made_yes W hb sb c0
  have h3' := h3.below hB
  have h4' := h4.heap (hB.block _ h4.lt)
  have s0 := h3'.s0
  have s1 := h3'.s1
  have s2 := h3'.s2
  have hhas := h7.has h5 t1
  have hl : l t1 = none := by
    rw [hh] at hhas
    simpa using hhas
  have hlook := (h4'.heap (w' := W.drew) rfl).look_ok mt76 hi
  have e1 : LI l t1 = none := by unfold LI; rw [hl]
  simp only [e1] at hlook
  have hs0 : W.drew.cell? ⟨hb, 0, none⟩ = some (.pointer (some ⟨sb, 0, none⟩)) ∧ W.drew.cell? ⟨sb, 2, none⟩ = some (.map (some mb)) ∧ W.drew.cell? ⟨tb, 1, none⟩ = some (.int .i64 t1) := ⟨c0, s2, r1⟩
  obtain ⟨ao, cap, htv, -⟩ := h3'.tr.shape
  rw [htv] at s1
  have hnm : n = most := by rw [HN.out, hfull]
  subst hnm
  have hs1 : W.drew.drew.cell? ⟨hb, 0, none⟩ = some (.pointer (some ⟨sb, 0, none⟩)) ∧ W.drew.drew.cell? ⟨sb, 1, none⟩ = some (.slice ao n cap) ∧ W.drew.drew.cell? ⟨sb, 0, none⟩ = some (.int .i64 n) := ⟨c0, s1, s0⟩
  clear h2 h2' h3 h3' h4 h4' h5 h6 h7 h8 h9 h10 hhas hl e1 hB hCh htv
  go_enter Try.func14, Try.ntmps14
  go_wp2_with (rw [← HW.out])
  (with_reducible refine Calls.mono km ?_)
  rintro e w' ⟨rfl, rfl⟩
  (try rw [← HTB.out])
  go_wp2_with fail
  go_region_held3 (fun w' => w'.cell? ⟨hb, 0, none⟩ = some (.pointer (some ⟨sb, 0, none⟩)) ∧ w'.cell? ⟨sb, 2, none⟩ = some (.map (some mb)) ∧ w'.cell? ⟨tb, 1, none⟩ = some (.int .i64 t1)) (assumption) (fail)
  go_wp2_with fail
  go_region_held3 (fun w' => w'.cell? ⟨hb, 0, none⟩ = some (.pointer (some ⟨sb, 0, none⟩)) ∧ w'.cell? ⟨sb, 1, none⟩ = some (.slice ao n cap) ∧ w'.cell? ⟨sb, 0, none⟩ = some (.int .i64 n)) (assumption) (fail)
  go_wp2_with fail
  go_ret
  exact ⟨rfl, HB.out.drew.drew⟩
set_option maxRecDepth 100000 in
set_option maxHeartbeats 3200000 in
theorem put_ok {w : World} {h : Value} {most : Nat} {L : List Tm} {F : Nat → Prop} (hp : Hp w h most L F) (t : Tm) (hi : I64 t.1 ∧ I64 t.2) (hh : hasL t.2 L = false) (hroom : L.length < most) :
    Calls Try.prog 14 #[h, .agg #[.int .i64 t.1, .int .i64 t.2]] w fun e w' => e = .returned (.int .i64 0) ∧ ∃ G, Hp w' h most (insL t L) G ∧ Step F w w' G := by
  have hsub := hp.sub
  obtain ⟨hb, sb, mb, tv, f, l, rfl, h2, h3, h4, h5, h6, h7, h8, h9, h10⟩ := hp
  obtain ⟨n, HN⟩ := named L.length
  rw [← HN.out] at h3 h4 h5 h6 h7
  obtain ⟨t0, t1⟩ := t
  obtain ⟨tb, HTB⟩ := named w.heap.size
  obtain ⟨W, HW⟩ := named (w.alloc (.cells #[.int .i64 t0, .int .i64 t1] 30))
  have hB : Below w.heap.size w W := by rw [HW.out]; exact (Below.refl _ _).alloc (Nat.le_refl _) _
  have hC := C2.new w (.int .i64 t0) (.int .i64 t1) 30
  have hCh := heap_new w (.cells #[.int .i64 t0, .int .i64 t1] 30)
  rw [← HW.out, ← HTB.out] at hC hCh
  obtain ⟨htl, r0, r1, -, -⟩ := hC
  have HB := hide hB
  have h2' : W.heap[hb]? = some (.cells #[.pointer (some ⟨sb, 0, none⟩)] 62 (0, 0)) := (hB.block _ (lt_of h2)).trans h2
  have c0 : W.cell? ⟨hb, 0, none⟩ = some (.pointer (some ⟨sb, 0, none⟩)) := by rw [cell_of h2']; rfl
  have km := made_yes W hb sb c0
  have h3' := h3.below hB
  have h4' := h4.heap (hB.block _ h4.lt)
  have s0 := h3'.s0
  have s1 := h3'.s1
  have s2 := h3'.s2
  have hhas := h7.has h5 t1
  have hl : l t1 = none := by
    rw [hh] at hhas
    simpa using hhas
  have hlook := (h4'.heap (w' := W.drew) rfl).look_ok mt76 hi.2
  have e1 : LI l t1 = none := by unfold LI; rw [hl]
  simp only [e1] at hlook
  have hs0 : W.drew.cell? ⟨hb, 0, none⟩ = some (.pointer (some ⟨sb, 0, none⟩)) ∧ W.drew.cell? ⟨sb, 2, none⟩ = some (.map (some mb)) ∧ W.drew.cell? ⟨tb, 1, none⟩ = some (.int .i64 t1) := ⟨c0, s2, r1⟩
  obtain ⟨ao, cap, htv, -⟩ := h3'.tr.shape
  subst htv
  have hnm : n < most := by rw [HN.out]; exact hroom
  have hnmI : ¬ (n : Int) = (most : Int) := by omega
  have hmx := h3'.mx
  have hs1 : W.drew.drew.cell? ⟨hb, 0, none⟩ = some (.pointer (some ⟨sb, 0, none⟩)) ∧ W.drew.drew.cell? ⟨sb, 1, none⟩ = some (.slice ao n cap) ∧ W.drew.drew.cell? ⟨sb, 0, none⟩ = some (.int .i64 most) := ⟨c0, s1, s0⟩
  -- V: the world ahead of the append
  obtain ⟨V, HV⟩ := named W.drew.drew
  have hVh : V.heap = W.heap := by rw [HV.out]; rfl
  have HBV : Below w.heap.size w V := by rw [HV.out]; exact hB.drew.drew
  have hSV : Sm V sb mb (.slice ao n cap) most n f := h3'.heap (by rw [hVh]) (fun _ _ => by rw [hVh])
  have hMV : Mp V mb n 3 (LI l) := h4'.heap (by rw [hVh])
  have h2V : V.heap[hb]? = some (.cells #[.pointer (some ⟨sb, 0, none⟩)] 62 (0, 0)) := by rw [hVh]; exact h2'
  have htV : V.heap[tb]? = some (.cells #[.int .i64 t0, .int .i64 t1] 30 (0, 0)) := by rw [hVh]; exact hCh
  have v1 := hSV.s1
  obtain ⟨V1, HV1⟩ := named (V.alloc (.cells #[.int .i64 t0, .int .i64 t1] 30))
  have bV1 : Below V.heap.size V V1 := by rw [HV1.out]; exact (Below.refl _ _).alloc (Nat.le_refl _) _
  have hnew := heap_new V (.cells #[.int .i64 t0, .int .i64 t1] 30)
  rw [← HV1.out] at hnew
  have hSV1 := hSV.below bV1
  obtain ⟨i0, hinf, hz0, hz1, hz2⟩ := info_parts Try.info30
  obtain ⟨tv', V2, hr, ho, hg, hblk⟩ := run_append_own' (P := Try.prog) V1.drew 0 38 38 30 i0 (.agg #[.int .i64 0, .int .i64 0]) 2 16 Try.underlying38 hinf hz0 hz1 hz2 rfl (by decide) (.slice ao n cap) n (cellsF f n) hSV1.tr.row
    ⟨V.heap.size, 0, none⟩ 1 1 [.int .i64 t0, .int .i64 t1] rfl (fun j u hj => by
      have e : (⟨V.heap.size, 0, none⟩ : Addr).add j = ⟨V.heap.size, j, none⟩ := by unfold Addr.add; split <;> simp_all
      rw [e, cell_of (w := V1.drew) hnew]
      simpa using hj) (by intro u hu; simp at hu; rcases hu with rfl | rfl <;> rfl) (by unfold maxLen; omega) (by omega) (Nat.zero_le _)
  have hcells : cellsF f n ++ [.int .i64 t0, .int .i64 t1] = cellsF (setF f n (t0, t1)) (n + 1) := by
    rw [cellsF_succ, setF_same]
    congr 1
    refine cellsF_ext (cellsF_len f n) fun i hi => ?_
    rw [setF_other _ _ _ _ (by omega)]
    exact cellsF_get f n i hi
  rw [hcells] at ho
  have htr2 : Tr V2 tv' (n + 1) (setF f n (t0, t1)) := Tr.of_row ho
  have hrow : ∀ b, (Value.slice ao n cap).ownBlock = some b → b ≠ sb ∧ b ≠ hb ∧ b ≠ mb := fun b hb' => by
    obtain ⟨cur, hc⟩ := hSV.tr.elem b hb'
    refine ⟨ne_of_elem hc hSV.cs (by decide), ne_of_elem hc h2V (by decide), ?_⟩
    rintro rfl
    obtain ⟨es, c, hm⟩ := hMV.isMap
    rw [hm] at hc; cases hc
  have htbF : ¬ F tb := fun hF => by have := hsub _ hF; rw [HTB.out] at this; omega
  have hk2 : ∀ b, b < V.heap.size → (Value.slice ao n cap).ownBlock ≠ some b → V2.heap[b]? = V.heap[b]? := fun b hb' hne => by
    rw [hg.block b (Nat.lt_of_lt_of_le hb' bV1.size) (Ne.symm hne)]
    exact bV1.block b hb'
  have hne2 : ∀ b, b = sb ∨ b = hb ∨ b = mb ∨ b = tb → (Value.slice ao n cap).ownBlock ≠ some b := fun b hb' e => by
    obtain ⟨x1, x2, x3⟩ := hrow b e
    rcases hb' with rfl | rfl | rfl | rfl
    · exact x1 rfl
    · exact x2 rfl
    · exact x3 rfl
    · exact htbF (h9 _ (.inr (.inr e)))
  have hcs2 : V2.heap[sb]? = some (.cells #[.int .i64 most, .slice ao n cap, .map (some mb)] 79 (0, 0)) := (hk2 sb (lt_of hSV.cs) (hne2 _ (.inl rfl))).trans hSV.cs
  have hhb2 : V2.heap[hb]? = some (.cells #[.pointer (some ⟨sb, 0, none⟩)] 62 (0, 0)) := (hk2 hb (lt_of h2V) (hne2 _ (.inr (.inl rfl)))).trans h2V
  have htb2 : V2.heap[tb]? = some (.cells #[.int .i64 t0, .int .i64 t1] 30 (0, 0)) := (hk2 tb (lt_of htV) (hne2 _ (.inr (.inr (.inr rfl))))).trans htV
  have hM2 : Mp V2 mb n 3 (LI l) := hMV.heap (hk2 mb hMV.lt (hne2 _ (.inr (.inr (.inl rfl)))))
  have hnb2 : tv'.ownBlock ≠ some sb := fun e => by
    obtain ⟨cur, hc⟩ := htr2.elem sb e
    exact ne_of_elem hc hcs2 (by decide) rfl
  have hhs : hb ≠ sb := ne_of_elem h2V hSV.cs (by decide)
  have hts : tb ≠ sb := ne_of_elem htV hSV.cs (by decide)
  have hms : mb ≠ sb := by
    rintro rfl
    obtain ⟨es, c, hm⟩ := hMV.isMap
    have := hSV.cs
    rw [hm] at this; cases this
  -- V3: the row is told
  obtain ⟨V3, HV3⟩ := named (V2.setCell ⟨sb, 1, none⟩ tv')
  have hS3 : Sm V3 sb mb tv' most (n + 1) (setF f n (t0, t1)) := by
    rw [HV3.out]
    refine ⟨heap_setCell_same _ _ _ _ _ _ hcs2, htr2.heap fun a ha => heap_setCell_other _ _ _ _ (by rintro rfl; exact hnb2 ha), by omega, hmx, fun i hi' => ?_⟩
    unfold setF
    split
    · exact hi
    · exact hSV.rg i (by omega)
  have hM3 : Mp V3.drew mb n 3 (LI l) := hM2.heap (by rw [HV3.out]; exact heap_setCell_other _ _ _ _ hms)
  have hhb3 : V3.heap[hb]? = some (.cells #[.pointer (some ⟨sb, 0, none⟩)] 62 (0, 0)) := by rw [HV3.out]; exact (heap_setCell_other _ _ _ _ hhs).trans hhb2
  have htb3 : V3.heap[tb]? = some (.cells #[.int .i64 t0, .int .i64 t1] 30 (0, 0)) := by rw [HV3.out]; exact (heap_setCell_other _ _ _ _ hts).trans htb2
  have hC3 : Chg F w V3 := by
    rw [HV3.out]
    refine ((Chg.ofBelow (below_call HBV bV1) F).drew.grown hg fun b hb' => .inl (h9 _ (.inr (.inr hb')))).setCell (p := ⟨sb, 1, none⟩) (.inl (h9 _ (.inl rfl))) _
  -- V4: its place is told
  obtain ⟨V4, hr4, hm4, hg4, hz4⟩ := hM3.store mt76 (by omega) hi.2 (v := (n : Int)) (by unfold I64; omega)
  rw [e1] at hm4
  simp only [Option.isSome_none, Bool.false_eq_true, if_false] at hm4
  rw [LI_set] at hm4
  have hk4 : ∀ b, b < V3.heap.size → b ≠ mb → V4.heap[b]? = V3.heap[b]? := fun b hb' hne => by
    rw [hg4.block b hb' (fun e => hne (Option.some.inj e))]; rfl
  have htm : tb ≠ mb := fun e => htbF (e ▸ h9 _ (.inr (.inl rfl)))
  have hhm : hb ≠ mb := by
    rintro rfl
    obtain ⟨es, c, hm⟩ := hMV.isMap
    rw [hm] at h2V; cases h2V
  have hS4 : Sm V4 sb mb tv' most (n + 1) (setF f n (t0, t1)) := hS3.heap (hk4 _ (lt_of hS3.cs) (Ne.symm hms)) fun a ha => hk4 a (hS3.tr.lt a ha) (by
    rintro rfl
    obtain ⟨cur, hc⟩ := hS3.tr.elem a ha
    obtain ⟨es, c, hm⟩ := hM3.isMap
    have hc' : V3.drew.heap[a]? = _ := hc
    rw [hm] at hc'; cases hc')
  have hhb4 : V4.heap[hb]? = some (.cells #[.pointer (some ⟨sb, 0, none⟩)] 62 (0, 0)) := (hk4 hb (lt_of hhb3) hhm).trans hhb3
  have htb4 : V4.heap[tb]? = some (.cells #[.int .i64 t0, .int .i64 t1] 30 (0, 0)) := (hk4 tb (lt_of htb3) htm).trans htb3
  have hset := settle_any hS4 hm4 (h5.put (t0, t1) hl) n (Wr.put h6 (t0, t1)) (by omega)
  have HE : Hid (∀ w', Settled V4 sb mb tv' most (n + 1) (setF f n (t0, t1)) w' → ∃ G, Hp w' (.pointer (some ⟨hb, 0, none⟩)) most (insL (t0, t1) L) G ∧ Step F w w' G) := by
    rintro w' ⟨f', l', k1, k2, k3, k4, k5, k6⟩
    have hlen : (insL (t0, t1) L).length = n + 1 := by rw [len_ins, HN.out]
    have hnew' : ∀ b, tv'.ownBlock = some b → F b ∨ w.heap.size ≤ b := fun b hb' => by
      rcases hblk with e | e
      · exact .inl (h9 _ (.inr (.inr (e.symm.trans hb'))))
      · rw [e] at hb'
        right
        have h1 := HBV.size
        have h2 := bV1.size
        have h3 : V1.heap.size = b := Option.some.inj hb'
        omega
    have hbs : Blk sb mb tv' hb → False := hb_not hhb4 hS4 hm4
    have hC4 : Chg F w V4 := hC3.drew.grown hg4 fun b hb' => .inl (h9 _ (.inr (.inl (Option.some.inj hb').symm)))
    refine ⟨fun b => F b ∨ tv'.ownBlock = some b, ⟨hb, sb, mb, tv', f', l', rfl, (k6.block _ (lt_of hhb4) hbs).trans hhb4, by rw [hlen]; exact k1, by rw [hlen]; exact k2, by rw [hlen]; exact k3, by rw [hlen]; exact k4, by rw [hlen]; exact (h7.put hh).congr k5, .inl h8, ?_, ?_⟩, ⟨hC4.trans k6 ?_, fun b hb' => hb'.elim .inl (hnew' b)⟩⟩
    · rintro b (e | e | e)
      · exact .inl (h9 _ (.inl e))
      · exact .inl (h9 _ (.inr (.inl e)))
      · exact .inr e
    · rintro b (hF | e)
      · exact Nat.lt_of_lt_of_le (h10 b hF) (Nat.le_trans hC4.size k6.size)
      · exact k1.tr.lt b e
    · rintro b hbl (e | e | e)
      · exact h9 _ (.inl e)
      · exact h9 _ (.inr (.inl e))
      · rcases hnew' b e with h | h
        · exact h
        · omega
  have hv0 : V.drew.cell? ⟨hb, 0, none⟩ = some (.pointer (some ⟨sb, 0, none⟩)) ∧ V.drew.cell? ⟨tb, 0, none⟩ = some (.int .i64 t0) ∧ V.drew.cell? ⟨tb, 1, none⟩ = some (.int .i64 t1) := ⟨by rw [cell_of (w := V.drew) h2V]; rfl, by rw [cell_of (w := V.drew) htV]; rfl, by rw [cell_of (w := V.drew) htV]; rfl⟩
  have hb1' : V1.heap[hb]? = _ := (bV1.block _ (lt_of h2V)).trans h2V
  have ht1' : V1.heap[tb]? = _ := (bV1.block _ (lt_of htV)).trans htV
  have hv1 := hide (show V1.drew.cell? ⟨hb, 0, none⟩ = some (.pointer (some ⟨sb, 0, none⟩)) ∧ V1.drew.cell? ⟨tb, 0, none⟩ = some (.int .i64 t0) ∧ V1.drew.cell? ⟨tb, 1, none⟩ = some (.int .i64 t1) from ⟨by rw [cell_of (w := V1.drew) hb1']; rfl, by rw [cell_of (w := V1.drew) ht1']; rfl, by rw [cell_of (w := V1.drew) ht1']; rfl⟩)
  have hv2 := hide (show V2.cell? ⟨hb, 0, none⟩ = some (.pointer (some ⟨sb, 0, none⟩)) ∧ V2.cell? ⟨tb, 0, none⟩ = some (.int .i64 t0) ∧ V2.cell? ⟨tb, 1, none⟩ = some (.int .i64 t1) from ⟨by rw [cell_of hhb2]; rfl, by rw [cell_of htb2]; rfl, by rw [cell_of htb2]; rfl⟩)
  have hv3 := hide (show V3.cell? ⟨hb, 0, none⟩ = some (.pointer (some ⟨sb, 0, none⟩)) ∧ V3.cell? ⟨tb, 0, none⟩ = some (.int .i64 t0) ∧ V3.cell? ⟨tb, 1, none⟩ = some (.int .i64 t1) from ⟨by rw [cell_of hhb3]; rfl, by rw [cell_of htb3]; rfl, by rw [cell_of htb3]; rfl⟩)
  rw [HV1.out] at hv1 hr
  rw [HV3.out] at hv3
  have v1a : (V.alloc (.cells #[.int .i64 t0, .int .i64 t1] 30)).cell? ⟨sb, 1, none⟩ = some (.slice ao n cap) := by rw [← HV1.out]; exact hSV1.s1
  have v21 : V2.cell? ⟨sb, 1, none⟩ = some (.slice ao n cap) := by rw [cell_of hcs2]; rfl
  have f21 : V2.frozen? ⟨sb, 1, none⟩ = false := frozen_of hcs2 _
  have hy0 : V3.drew.cell? ⟨hb, 0, none⟩ = some (.pointer (some ⟨sb, 0, none⟩)) ∧ V3.drew.cell? ⟨sb, 2, none⟩ = some (.map (some mb)) ∧ V3.drew.cell? ⟨tb, 1, none⟩ = some (.int .i64 t1) := ⟨by rw [cell_of (w := V3.drew) hhb3]; rfl, hS3.s2, by rw [cell_of (w := V3.drew) htb3]; rfl⟩
  have hy1 := hide (show V4.cell? ⟨hb, 0, none⟩ = some (.pointer (some ⟨sb, 0, none⟩)) ∧ V4.cell? ⟨sb, 2, none⟩ = some (.map (some mb)) ∧ V4.cell? ⟨tb, 1, none⟩ = some (.int .i64 t1) from ⟨by rw [cell_of hhb4]; rfl, hS4.s2, by rw [cell_of htb4]; rfl⟩)
  have y0 : V4.cell? ⟨hb, 0, none⟩ = some (.pointer (some ⟨sb, 0, none⟩)) := by rw [cell_of hhb4]; rfl
  obtain ⟨ao', cap', htv', -⟩ := htr2.shape
  obtain ⟨N1, HN1⟩ := named (n + 1)
  rw [← HN1.out] at htv'
  subst htv'
  have HHR := hide hr
  clear hr h2 h2' h3 h3' h4 h4' h5 h6 h7 h8 h9 h10 hhas hl e1 hB hCh hVh HBV hSV hMV h2V htV bV1 hnew hSV1 hinf hz0 hz1 hz2 ho hg hblk hcells htr2 hrow htbF hk2 hne2 hcs2 hhb2 htb2 hM2 hnb2 hS3 hM3 hhb3 htb3 hC3 hm4 hg4 hz4 hk4 hS4 hhb4 htb4 hb1' ht1' hsub hi hh hroom htl hmx
  go_enter Try.func14, Try.ntmps14
  go_wp2_with (rw [← HW.out])
  (with_reducible refine Calls.mono km ?_)
  rintro e w' ⟨rfl, rfl⟩
  (try rw [← HTB.out])
  go_wp2_with fail
  go_region_held3 (fun w' => w'.cell? ⟨hb, 0, none⟩ = some (.pointer (some ⟨sb, 0, none⟩)) ∧ w'.cell? ⟨sb, 2, none⟩ = some (.map (some mb)) ∧ w'.cell? ⟨tb, 1, none⟩ = some (.int .i64 t1)) (assumption) (fail)
  go_wp2_with fail
  go_region_held3 (fun w' => w'.cell? ⟨hb, 0, none⟩ = some (.pointer (some ⟨sb, 0, none⟩)) ∧ w'.cell? ⟨sb, 1, none⟩ = some (.slice ao n cap) ∧ w'.cell? ⟨sb, 0, none⟩ = some (.int .i64 most)) (assumption) (fail)
  clear hs0 hs1 s0 s2 hlook
  go_wp2_with fail
  rw [← HV.out]
  refine wp_region_held_drew (S := (fun w' => w'.cell? ⟨hb, 0, none⟩ = some (.pointer (some ⟨sb, 0, none⟩)) ∧ w'.cell? ⟨tb, 0, none⟩ = some (.int .i64 t0) ∧ w'.cell? ⟨tb, 1, none⟩ = some (.int .i64 t1))) (by kernel_rfl) hv0 (fun _ => ?_)
  refine wpAnyH_take (i := 0) (oi := { dst := some 49, op := Go.Op.move (Go.Operand.tmp 0), type := 23, pos := "heap.go:42", after := #[], guard := none }) (v := ?_) rfl (by kernel_rfl) (by kernel_rfl) (by kernel_rfl) (fun _ _ _ h => h) (Or.inl ⟨by rfl, ?hy1⟩) hv0 ?_
  case hy1 =>
    intro u hu
    obtain ⟨u0, u1, u2⟩ := hu
    go_simp
    try with_reducible rfl
  simp only [Act.put, List.setIfInBounds_toArray, List.set_cons_zero, List.set_cons_succ]
  refine wpAnyH_take (i := 1) (oi := { dst := some 50, op := Go.Op.nilCheck (Go.Operand.tmp 49), type := 0, pos := "heap.go:42", after := #[{ on := 0, ground := Go.Ground.data }], guard := none }) (v := ?_) rfl (by kernel_rfl) (by kernel_rfl) (by kernel_rfl) (fun _ _ _ h => h) (Or.inl ⟨by rfl, ?hy2⟩) hv0 ?_
  case hy2 =>
    intro u hu
    obtain ⟨u0, u1, u2⟩ := hu
    go_simp
    try with_reducible rfl
  simp only [Act.put, List.setIfInBounds_toArray, List.set_cons_zero, List.set_cons_succ]
  refine wpAnyH_take (i := 2) (oi := { dst := some 51, op := Go.Op.fieldAddr 62 (Go.Operand.tmp 50) 0, type := 0, pos := "heap.go:42", after := #[{ on := 1, ground := Go.Ground.data }], guard := none }) (v := ?_) rfl (by kernel_rfl) (by kernel_rfl) (by kernel_rfl) (fun _ _ _ h => h) (Or.inl ⟨by rfl, ?hy3⟩) hv0 ?_
  case hy3 =>
    intro u hu
    obtain ⟨u0, u1, u2⟩ := hu
    go_simp
    try with_reducible rfl
  simp only [Act.put, List.setIfInBounds_toArray, List.set_cons_zero, List.set_cons_succ]
  refine wpAnyH_take (i := 3) (oi := { dst := some 52, op := Go.Op.load 60 (Go.Operand.tmp 51), type := 60, pos := "heap.go:42", after := #[{ on := 2, ground := Go.Ground.data }], guard := none }) (v := ?_) rfl (by kernel_rfl) (by kernel_rfl) (by kernel_rfl) (fun _ _ _ h => h) (Or.inl ⟨by rfl, ?hy4⟩) hv0 ?_
  case hy4 =>
    intro u hu
    obtain ⟨u0, u1, u2⟩ := hu
    go_simp
    try with_reducible rfl
  simp only [Act.put, List.setIfInBounds_toArray, List.set_cons_zero, List.set_cons_succ]
  refine wpAnyH_take (i := 4) (oi := { dst := some 53, op := Go.Op.move (Go.Operand.tmp 0), type := 23, pos := "heap.go:42", after := #[], guard := none }) (v := ?_) rfl (by kernel_rfl) (by kernel_rfl) (by kernel_rfl) (fun _ _ _ h => h) (Or.inl ⟨by rfl, ?hy5⟩) hv0 ?_
  case hy5 =>
    intro u hu
    obtain ⟨u0, u1, u2⟩ := hu
    go_simp
    try with_reducible rfl
  simp only [Act.put, List.setIfInBounds_toArray, List.set_cons_zero, List.set_cons_succ]
  refine wpAnyH_take (i := 5) (oi := { dst := some 54, op := Go.Op.nilCheck (Go.Operand.tmp 53), type := 0, pos := "heap.go:42", after := #[{ on := 4, ground := Go.Ground.data }], guard := none }) (v := ?_) rfl (by kernel_rfl) (by kernel_rfl) (by kernel_rfl) (fun _ _ _ h => h) (Or.inl ⟨by rfl, ?hy6⟩) hv0 ?_
  case hy6 =>
    intro u hu
    obtain ⟨u0, u1, u2⟩ := hu
    go_simp
    try with_reducible rfl
  simp only [Act.put, List.setIfInBounds_toArray, List.set_cons_zero, List.set_cons_succ]
  refine wpAnyH_take (i := 6) (oi := { dst := some 55, op := Go.Op.fieldAddr 62 (Go.Operand.tmp 54) 0, type := 0, pos := "heap.go:42", after := #[{ on := 5, ground := Go.Ground.data }], guard := none }) (v := ?_) rfl (by kernel_rfl) (by kernel_rfl) (by kernel_rfl) (fun _ _ _ h => h) (Or.inl ⟨by rfl, ?hy7⟩) hv0 ?_
  case hy7 =>
    intro u hu
    obtain ⟨u0, u1, u2⟩ := hu
    go_simp
    try with_reducible rfl
  simp only [Act.put, List.setIfInBounds_toArray, List.set_cons_zero, List.set_cons_succ]
  refine wpAnyH_take (i := 7) (oi := { dst := some 56, op := Go.Op.load 60 (Go.Operand.tmp 55), type := 60, pos := "heap.go:42", after := #[{ on := 6, ground := Go.Ground.data }], guard := none }) (v := ?_) rfl (by kernel_rfl) (by kernel_rfl) (by kernel_rfl) (fun _ _ _ h => h) (Or.inl ⟨by rfl, ?hy8⟩) hv0 ?_
  case hy8 =>
    intro u hu
    obtain ⟨u0, u1, u2⟩ := hu
    go_simp
    try with_reducible rfl
  simp only [Act.put, List.setIfInBounds_toArray, List.set_cons_zero, List.set_cons_succ]
  refine wpAnyH_take (i := 8) (oi := { dst := some 57, op := Go.Op.nilCheck (Go.Operand.tmp 56), type := 0, pos := "heap.go:42", after := #[{ on := 7, ground := Go.Ground.data }], guard := none }) (v := ?_) rfl (by kernel_rfl) (by kernel_rfl) (by kernel_rfl) (fun _ _ _ h => h) (Or.inl ⟨by rfl, ?hy9⟩) hv0 ?_
  case hy9 =>
    intro u hu
    obtain ⟨u0, u1, u2⟩ := hu
    go_simp
    try with_reducible rfl
  simp only [Act.put, List.setIfInBounds_toArray, List.set_cons_zero, List.set_cons_succ]
  refine wpAnyH_take (i := 9) (oi := { dst := some 58, op := Go.Op.fieldAddr 79 (Go.Operand.tmp 57) 1, type := 0, pos := "heap.go:42", after := #[{ on := 8, ground := Go.Ground.data }], guard := none }) (v := ?_) rfl (by kernel_rfl) (by kernel_rfl) (by kernel_rfl) (fun _ _ _ h => h) (Or.inl ⟨by rfl, ?hy10⟩) hv0 ?_
  case hy10 =>
    intro u hu
    obtain ⟨u0, u1, u2⟩ := hu
    go_simp
    try with_reducible rfl
  simp only [Act.put, List.setIfInBounds_toArray, List.set_cons_zero, List.set_cons_succ]
  refine wpAnyH_take (i := 11) (oi := { dst := some 60, op := Go.Op.load 30 (Go.Operand.tmp 3), type := 30, pos := "heap.go:42", after := #[], guard := none }) (v := ?_) rfl (by kernel_rfl) (by kernel_rfl) (by kernel_rfl) (fun _ _ _ h => h) (Or.inl ⟨by rfl, ?hy11⟩) hv0 ?_
  case hy11 =>
    intro u hu
    obtain ⟨u0, u1, u2⟩ := hu
    go_simp
    try with_reducible rfl
  simp only [Act.put, List.setIfInBounds_toArray, List.set_cons_zero, List.set_cons_succ]
  refine wpAnyH_ready (rs := [10, 12]) (by kernel_rfl) (by simp) ?_
  refine AllReadyH.cons (o := { dst := some 59, op := Go.Op.load 38 (Go.Operand.tmp 58), type := 38, pos := "heap.go:42", after := #[{ on := 9, ground := Go.Ground.data }], guard := none }) rfl (fun K hK => ?b12_10) (AllReadyH.cons (o := { dst := some 61, op := Go.Op.buildSlice 38 1 #[(0, Go.Operand.tmp 60)], type := 38, pos := "heap.go:42", after := #[{ on := 11, ground := Go.Ground.data }], guard := none }) rfl (fun K hK => ?b12_12) AllReadyH.nil)
  case' b12_10 =>
    go_simp
    refine hK.out _ _ hv0 (fun _ => ?_)
    clear hK K
    try simp only [Act.put, List.setIfInBounds_toArray, List.set_cons_zero, List.set_cons_succ]
    refine wpAnyH_ready (rs := [12]) (by kernel_rfl) (by simp) ?_
    refine AllReadyH.cons (o := { dst := some 61, op := Go.Op.buildSlice 38 1 #[(0, Go.Operand.tmp 60)], type := 38, pos := "heap.go:42", after := #[{ on := 11, ground := Go.Ground.data }], guard := none }) rfl (fun K hK => ?_) AllReadyH.nil
    go_simp
    refine hK.out _ _ hv1.out (fun _ => ?_)
    clear hK K
    try simp only [Act.put, List.setIfInBounds_toArray, List.set_cons_zero, List.set_cons_succ]
    refine wpAnyH_ready (rs := [13]) (by kernel_rfl) (by simp) ?_
    refine AllReadyH.cons (o := { dst := some 62, op := Go.Op.call { callee := Go.Callee.builtin Go.Builtin.append, args := #[Go.Operand.tmp 59, Go.Operand.tmp 61], argTypes := #[38, 38] }, type := 38, pos := "heap.go:42", after := #[{ on := 10, ground := Go.Ground.data }, { on := 12, ground := Go.Ground.data }], guard := none }) rfl (fun K hK => ?_) AllReadyH.nil
    refine step_append_runI rfl (.tmp 59) (.tmp 61) 38 38 rfl (.slice ao n cap) (.slice (some ⟨V.heap.size, 0, none⟩) 1 1) (by simp [Act.eval]) (by simp [Act.eval]) HHR.out ?_
    refine hK.out _ _ hv2.out (fun _ => ?_)
    clear hK K
    try simp only [Act.put, List.setIfInBounds_toArray, List.set_cons_zero, List.set_cons_succ]
    refine wpAnyH_take (i := 14) (oi := { dst := some 63, op := Go.Op.nilCheck (Go.Operand.tmp 52), type := 0, pos := "heap.go:42", after := #[{ on := 3, ground := Go.Ground.data }, { on := 0, ground := Go.Ground.phase }, { on := 1, ground := Go.Ground.phase }, { on := 2, ground := Go.Ground.phase }, { on := 3, ground := Go.Ground.phase }, { on := 4, ground := Go.Ground.phase }, { on := 5, ground := Go.Ground.phase }, { on := 6, ground := Go.Ground.phase }, { on := 7, ground := Go.Ground.phase }, { on := 8, ground := Go.Ground.phase }, { on := 9, ground := Go.Ground.phase }, { on := 10, ground := Go.Ground.phase }, { on := 11, ground := Go.Ground.phase }, { on := 12, ground := Go.Ground.phase }, { on := 13, ground := Go.Ground.phase }], guard := none }) (v := ?_) rfl (by kernel_rfl) (by kernel_rfl) (by kernel_rfl) (fun _ _ _ h => h) (Or.inl ⟨by rfl, ?hy15⟩) hv2.out ?_
    case hy15 =>
      intro u hu
      obtain ⟨u0, u1, u2⟩ := hu
      go_simp
      try with_reducible rfl
    simp only [Act.put, List.setIfInBounds_toArray, List.set_cons_zero, List.set_cons_succ]
    refine wpAnyH_take (i := 15) (oi := { dst := some 64, op := Go.Op.fieldAddr 79 (Go.Operand.tmp 63) 1, type := 0, pos := "heap.go:42", after := #[{ on := 14, ground := Go.Ground.data }, { on := 0, ground := Go.Ground.phase }, { on := 1, ground := Go.Ground.phase }, { on := 2, ground := Go.Ground.phase }, { on := 3, ground := Go.Ground.phase }, { on := 4, ground := Go.Ground.phase }, { on := 5, ground := Go.Ground.phase }, { on := 6, ground := Go.Ground.phase }, { on := 7, ground := Go.Ground.phase }, { on := 8, ground := Go.Ground.phase }, { on := 9, ground := Go.Ground.phase }, { on := 10, ground := Go.Ground.phase }, { on := 11, ground := Go.Ground.phase }, { on := 12, ground := Go.Ground.phase }, { on := 13, ground := Go.Ground.phase }], guard := none }) (v := ?_) rfl (by kernel_rfl) (by kernel_rfl) (by kernel_rfl) (fun _ _ _ h => h) (Or.inl ⟨by rfl, ?hy16⟩) hv2.out ?_
    case hy16 =>
      intro u hu
      obtain ⟨u0, u1, u2⟩ := hu
      go_simp
      try with_reducible rfl
    simp only [Act.put, List.setIfInBounds_toArray, List.set_cons_zero, List.set_cons_succ]
    refine wpAnyH_ready (rs := [16]) (by kernel_rfl) (by simp) ?_
    refine AllReadyH.cons (o := { dst := none, op := Go.Op.store 38 (Go.Operand.tmp 64) (Go.Operand.tmp 62), type := 0, pos := "heap.go:42", after := #[{ on := 15, ground := Go.Ground.data }, { on := 13, ground := Go.Ground.data }, { on := 13, ground := Go.Ground.chain }, { on := 0, ground := Go.Ground.phase }, { on := 1, ground := Go.Ground.phase }, { on := 2, ground := Go.Ground.phase }, { on := 3, ground := Go.Ground.phase }, { on := 4, ground := Go.Ground.phase }, { on := 5, ground := Go.Ground.phase }, { on := 6, ground := Go.Ground.phase }, { on := 7, ground := Go.Ground.phase }, { on := 8, ground := Go.Ground.phase }, { on := 9, ground := Go.Ground.phase }, { on := 10, ground := Go.Ground.phase }, { on := 11, ground := Go.Ground.phase }, { on := 12, ground := Go.Ground.phase }, { on := 13, ground := Go.Ground.phase }], guard := none }) rfl (fun K hK => ?_) AllReadyH.nil
    go_simp
    refine hK.out _ _ hv3.out (fun _ => ?_)
    clear hK K
    try simp only [Act.put, List.setIfInBounds_toArray, List.set_cons_zero, List.set_cons_succ]
    refine wpAnyH_done (by kernel_rfl) ?_ _
  case' b12_12 =>
    go_simp
    refine hK.out _ _ hv1.out (fun _ => ?_)
    clear hK K
    try simp only [Act.put, List.setIfInBounds_toArray, List.set_cons_zero, List.set_cons_succ]
    refine wpAnyH_ready (rs := [10]) (by kernel_rfl) (by simp) ?_
    refine AllReadyH.cons (o := { dst := some 59, op := Go.Op.load 38 (Go.Operand.tmp 58), type := 38, pos := "heap.go:42", after := #[{ on := 9, ground := Go.Ground.data }], guard := none }) rfl (fun K hK => ?_) AllReadyH.nil
    go_simp
    refine hK.out _ _ hv1.out (fun _ => ?_)
    clear hK K
    try simp only [Act.put, List.setIfInBounds_toArray, List.set_cons_zero, List.set_cons_succ]
    refine wpAnyH_ready (rs := [13]) (by kernel_rfl) (by simp) ?_
    refine AllReadyH.cons (o := { dst := some 62, op := Go.Op.call { callee := Go.Callee.builtin Go.Builtin.append, args := #[Go.Operand.tmp 59, Go.Operand.tmp 61], argTypes := #[38, 38] }, type := 38, pos := "heap.go:42", after := #[{ on := 10, ground := Go.Ground.data }, { on := 12, ground := Go.Ground.data }], guard := none }) rfl (fun K hK => ?_) AllReadyH.nil
    refine step_append_runI rfl (.tmp 59) (.tmp 61) 38 38 rfl (.slice ao n cap) (.slice (some ⟨V.heap.size, 0, none⟩) 1 1) (by simp [Act.eval]) (by simp [Act.eval]) HHR.out ?_
    refine hK.out _ _ hv2.out (fun _ => ?_)
    clear hK K
    try simp only [Act.put, List.setIfInBounds_toArray, List.set_cons_zero, List.set_cons_succ]
    refine wpAnyH_take (i := 14) (oi := { dst := some 63, op := Go.Op.nilCheck (Go.Operand.tmp 52), type := 0, pos := "heap.go:42", after := #[{ on := 3, ground := Go.Ground.data }, { on := 0, ground := Go.Ground.phase }, { on := 1, ground := Go.Ground.phase }, { on := 2, ground := Go.Ground.phase }, { on := 3, ground := Go.Ground.phase }, { on := 4, ground := Go.Ground.phase }, { on := 5, ground := Go.Ground.phase }, { on := 6, ground := Go.Ground.phase }, { on := 7, ground := Go.Ground.phase }, { on := 8, ground := Go.Ground.phase }, { on := 9, ground := Go.Ground.phase }, { on := 10, ground := Go.Ground.phase }, { on := 11, ground := Go.Ground.phase }, { on := 12, ground := Go.Ground.phase }, { on := 13, ground := Go.Ground.phase }], guard := none }) (v := ?_) rfl (by kernel_rfl) (by kernel_rfl) (by kernel_rfl) (fun _ _ _ h => h) (Or.inl ⟨by rfl, ?hy20⟩) hv2.out ?_
    case hy20 =>
      intro u hu
      obtain ⟨u0, u1, u2⟩ := hu
      go_simp
      try with_reducible rfl
    simp only [Act.put, List.setIfInBounds_toArray, List.set_cons_zero, List.set_cons_succ]
    refine wpAnyH_take (i := 15) (oi := { dst := some 64, op := Go.Op.fieldAddr 79 (Go.Operand.tmp 63) 1, type := 0, pos := "heap.go:42", after := #[{ on := 14, ground := Go.Ground.data }, { on := 0, ground := Go.Ground.phase }, { on := 1, ground := Go.Ground.phase }, { on := 2, ground := Go.Ground.phase }, { on := 3, ground := Go.Ground.phase }, { on := 4, ground := Go.Ground.phase }, { on := 5, ground := Go.Ground.phase }, { on := 6, ground := Go.Ground.phase }, { on := 7, ground := Go.Ground.phase }, { on := 8, ground := Go.Ground.phase }, { on := 9, ground := Go.Ground.phase }, { on := 10, ground := Go.Ground.phase }, { on := 11, ground := Go.Ground.phase }, { on := 12, ground := Go.Ground.phase }, { on := 13, ground := Go.Ground.phase }], guard := none }) (v := ?_) rfl (by kernel_rfl) (by kernel_rfl) (by kernel_rfl) (fun _ _ _ h => h) (Or.inl ⟨by rfl, ?hy21⟩) hv2.out ?_
    case hy21 =>
      intro u hu
      obtain ⟨u0, u1, u2⟩ := hu
      go_simp
      try with_reducible rfl
    simp only [Act.put, List.setIfInBounds_toArray, List.set_cons_zero, List.set_cons_succ]
    refine wpAnyH_ready (rs := [16]) (by kernel_rfl) (by simp) ?_
    refine AllReadyH.cons (o := { dst := none, op := Go.Op.store 38 (Go.Operand.tmp 64) (Go.Operand.tmp 62), type := 0, pos := "heap.go:42", after := #[{ on := 15, ground := Go.Ground.data }, { on := 13, ground := Go.Ground.data }, { on := 13, ground := Go.Ground.chain }, { on := 0, ground := Go.Ground.phase }, { on := 1, ground := Go.Ground.phase }, { on := 2, ground := Go.Ground.phase }, { on := 3, ground := Go.Ground.phase }, { on := 4, ground := Go.Ground.phase }, { on := 5, ground := Go.Ground.phase }, { on := 6, ground := Go.Ground.phase }, { on := 7, ground := Go.Ground.phase }, { on := 8, ground := Go.Ground.phase }, { on := 9, ground := Go.Ground.phase }, { on := 10, ground := Go.Ground.phase }, { on := 11, ground := Go.Ground.phase }, { on := 12, ground := Go.Ground.phase }, { on := 13, ground := Go.Ground.phase }], guard := none }) rfl (fun K hK => ?_) AllReadyH.nil
    go_simp
    refine hK.out _ _ hv3.out (fun _ => ?_)
    clear hK K
    try simp only [Act.put, List.setIfInBounds_toArray, List.set_cons_zero, List.set_cons_succ]
    refine wpAnyH_done (by kernel_rfl) ?_ _
  all_goals
    rw [← HV3.out]
    clear hv0 hv1 hv2 hv3 v1 v1a v21 f21 HHR
    go_wp2_with fail
    go_region_held3 (fun w' => w'.cell? ⟨hb, 0, none⟩ = some (.pointer (some ⟨sb, 0, none⟩)) ∧ w'.cell? ⟨sb, 2, none⟩ = some (.map (some mb)) ∧ w'.cell? ⟨tb, 1, none⟩ = some (.int .i64 t1)) (first | assumption | exact hy1.out) (fail)
    clear hy0 hr4
    go_wp2_with fail
    (with_reducible refine Calls.mono hset ?_)
    rintro e w5 ⟨rfl, hk⟩
    have HK := hide (HE.out w5 hk)
    clear hk
    go_wp2_with fail
    go_ret
    exact ⟨rfl, HK.out⟩
end Go.Proofs.Ytemlanalaihkoaa
