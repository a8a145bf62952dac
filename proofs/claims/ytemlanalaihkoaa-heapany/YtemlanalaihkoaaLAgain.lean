/-
  The law HeapAgain, and the contract of Pick. Own work.
-/
import Derived.Test.YtemlanalaihkoaaLDue
namespace Go.Proofs.Ytemlanalaihkoaa
open Go.RowKit Go.Sort

set_option maxRecDepth 100000 in
set_option maxHeartbeats 800000 in
theorem pick_any (x : Int) (n : Nat) (w : World) (hn : 0 < n) (hn1 : n ≤ 1000000) :
    Calls Try.prog 32 #[.int .i64 x, .int .i64 n] w fun e w' => e = .returned (.int .i64 ((x % (n : Int)).toNat : Nat)) ∧ w' = w := by
  have h0 : ¬ ((n : Int) ≤ 0) := by omega
  have h0' : ((n : Int) == 0) = false := by simp only [beq_eq_false_iff_ne]; omega
  have hm0 : 0 ≤ x % (n : Int) := Int.emod_nonneg _ (by omega)
  have hm1 : x % (n : Int) < n := Int.emod_lt_of_pos _ (by omega)
  have htm : (0 ≤ x.tmod n ∧ x.tmod n = x % n) ∨ (x.tmod n < 0 ∧ x.tmod n + n = x % n) := by
    rw [Int.tmod_eq_emod]
    split
    · left; omega
    · right; simp; omega
  have hR : (((x % (n : Int)).toNat : Nat) : Int) = x % n := by omega
  rw [hR]
  obtain ⟨r, HR⟩ := named (x % (n : Int))
  rw [← HR.out] at hm0 hm1 htm ⊢
  clear hR
  rcases htm with ⟨h1, h2⟩ | ⟨h1, h2⟩
  · have H2 : Hid _ := h2
    have h1' : ¬ x.tmod n < 0 := by omega
    clear h2 h1
    go_enter Try.func32, Try.ntmps32
    go_wp2
    refine wp_loop_rounds 1 ?_
    rw [rounds_succ]
    go_wp2
    go_ret
    exact ⟨ret_int H2.out, rfl⟩
  · have H2 : Hid _ := h2
    have h3 : 0 ≤ x.tmod n + n := by omega
    have h4 : x.tmod n + n < 1000000 := by omega
    have h5 : ¬ x.tmod n + n < 0 := by omega
    clear h2
    go_enter Try.func32, Try.ntmps32
    go_wp2
    refine wp_loop_rounds 2 ?_
    rw [rounds_succ]
    go_wp2
    rw [rounds_succ]
    go_wp2
    go_ret
    exact ⟨ret_int H2.out, rfl⟩

theorem has_del (id : Int) (L : List Tm) : hasL id (delL id L) = false := hasL_false.2 fun _ hx => (mem_del.1 hx).2
/-- how many have this Id -/
def cntL (id : Int) (L : List Tm) : Nat := (L.filter fun x => decide (x.2 = id)).length
theorem cnt_snoc (id : Int) (L : List Tm) (x : Tm) : cntL id (L ++ [x]) = cntL id L + if x.2 = id then 1 else 0 := by
  unfold cntL
  rw [List.filter_append, List.length_append]
  by_cases h : x.2 = id <;> simp [h]
theorem cnt_le (id : Int) (L : List Tm) : cntL id L ≤ L.length := List.length_filter_le _ _
theorem cnt_del (id : Int) (L : List Tm) : (delL id L).length + cntL id L = L.length := by
  induction L with
  | nil => rfl
  | cons y r ih =>
    unfold delL cntL at *
    by_cases h : y.2 = id
    · simp [h] at *; omega
    · simp [h] at *; omega
theorem cnt_one {L : List Tm} (h : Srt L) {x : Tm} (hx : x ∈ L) : cntL x.2 L = 1 := by
  have h1 := cnt_del x.2 L
  have h2 := len_del h hx
  omega
theorem set0 {w : World} {g : Nat} {u v z : Value} {t : TypeId} (h : w.heap[g]? = some (.cells #[u, v] t (0, 0))) : (w.setCell ⟨g, 0, none⟩ z).heap[g]? = some (.cells #[z, v] t (0, 0)) := heap_setCell_same w g 0 #[u, v] t z h
theorem heap_set0 (w : World) (g k : Nat) (z : Value) (h : k ≠ g) : (w.setCell ⟨g, 0, none⟩ z).heap[k]? = w.heap[k]? := Below.heap_setCell _ _ _ _ h

set_option maxRecDepth 100000 in
set_option maxHeartbeats 12800000 in
theorem again_walk (w : World) (v0 : Value) (l : List Tm) (hv : RdT w v0 l) (hr : ∀ x ∈ l, I64 x.1 ∧ I64 x.2) (n1 n2 : Int) (_ : I64 n1) (h2 : I64 n2) :
    Calls Try.prog 9 #[v0, .int .i64 n1, .int .i64 n2] w fun e w' => e = .returned (.bool true) ∧ Below w.heap.size w w' := by
  have km := made_any hv hr
  have HI2 := hide h2
  obtain ⟨ao, cap, rfl⟩ := hv.shape
  obtain ⟨n, HN⟩ := named l.length
  rw [← HN.out] at km ⊢
  obtain ⟨L, HL⟩ := named (fst1 (l.take 300))
  rw [← HL.out] at km
  have hl3 : L.length ≤ 300 := by have := fst1_len (l.take 300); rw [← HL.out, List.length_take] at this; omega
  clear hv hr h2
  go_enter Try.func9, Try.ntmps9
  go_wp2_with fail
  (with_reducible refine Calls.mono km ?_)
  clear km
  rintro e w1 ⟨h, mb, rfl, F, q⟩
  obtain ⟨hb, hhe, -⟩ := q.hq.hp.ne
  subst hhe
  have Q1 := hide q
  have ka := all_any q.hq.hp
  clear q HN HL
  go_wp2_with fail
  (with_reducible refine Calls.mono ka ?_)
  clear ka
  rintro e w2 ⟨xv, rfl, ho, hb1⟩
  obtain ⟨xo, xcap, rfl⟩ := ho.shape
  have Q2 := hide (Q1.out.below hb1)
  have HO2 := hide ho
  have ka := all_any Q2.out.hq.hp
  have hml := Q2.out.mp.len mt65 3
  obtain ⟨N, HNN⟩ := named L.length
  rw [← HNN.out] at HO2 hml hl3 ⊢
  clear Q1 hb1 ho
  go_wp2_with fail
  (with_reducible refine Calls.mono ka ?_)
  clear ka
  rintro e w3 ⟨yv, rfl, ho, hb1⟩
  have Q3 := hide (Q2.out.below hb1)
  have HO3 : Hid (OwnT w3 w1.heap.size (.slice xo N xcap) L) := HO2.out.below hb1
  have ks := same_any HO3.out.rd ho.rd (by rw [← HNN.out]; omega)
  rw [decide_eq_true rfl] at ks
  clear Q2 HO2 hb1 ho hml
  go_wp2_with fail
  (with_reducible refine Calls.mono ks ?_)
  clear ks
  rintro e w4 ⟨rfl, hb1⟩
  have Q4 := hide (Q3.out.below hb1)
  have HO4 : Hid (OwnT w4 w1.heap.size (.slice xo N xcap) L) := HO3.out.below hb1
  clear Q3 HO3 hb1
  by_cases hN0 : N = 0
  · subst hN0
    have ka := awake_true w4
    go_wp2_with fail
    (with_reducible refine Calls.mono ka ?_)
    clear ka
    rintro e w5 ⟨rfl, hb1⟩
    have HEND := hide (Q4.out.hq.below hb1).bel
    clear hb1
    go_wp2_with fail
    go_ret
    exact ⟨rfl, HEND.out⟩
  · have hNp : 0 < N := by omega
    have hNI : ¬ (N : Int) = 0 := by omega
    have hNb : ((N : Int) == 0) = false := by simp only [beq_eq_false_iff_ne]; omega
    have kp := pick_any n1 N w4 hNp (by omega)
    have hj0 : 0 ≤ n1 % (N : Int) := Int.emod_nonneg _ (by omega)
    have hj1 : n1 % (N : Int) < N := Int.emod_lt_of_pos _ (by omega)
    obtain ⟨j, HJ⟩ := named (n1 % (N : Int)).toNat
    have hjN : j < N := by rw [HJ.out]; omega
    rw [← HJ.out] at kp
    clear hj0 hj1 HJ
    have hjl : j < L.length := by rw [← HNN.out]; exact hjN
    have hjI : (j : Int) < (N : Int) := by omega
    have hxr : RdT w4 (.slice xo L.length xcap) L := by have := HO4.out.rd; rw [HNN.out] at this; exact this
    obtain ⟨b, off, hab, c0, c1⟩ := hxr.at j hjl
    subst hab
    have HM : Hid (L[j] ∈ L) := List.getElem_mem hjl
    have hri := Q4.out.hq.hp.rng _ HM.out
    obtain ⟨x, HX⟩ := named L[j]
    rw [← HX.out] at c0 c1 HM hri
    obtain ⟨w6, HW6⟩ := named (w4.alloc (.cells #[.int .i64 x.1, .int .i64 x.2] 30))
    obtain ⟨g, HG⟩ := named w4.heap.size
    have hb6 : Below w4.heap.size w4 w6 := by rw [HW6.out]; exact (Below.refl _ _).alloc (Nat.le_refl _) _
    have hc6 : w6.heap[g]? = some (.cells #[.int .i64 x.1, .int .i64 x.2] 30 (0, 0)) := by rw [HW6.out, HG.out]; exact heap_new _ _
    have Q6 := hide (Q4.out.below hb6)
    have hgF : ¬ F g := fun hF => by have := Q4.out.hq.hp.sub _ hF; rw [HG.out] at this; omega
    have HGF := hide hgF
    have HGW : Hid (w.heap.size ≤ g) := by rw [HG.out]; exact Q4.out.hq.le
    have HGM : Hid (g ≠ mb) := by show g ≠ mb; have := Q4.out.mp.lt; rw [HG.out]; omega
    have r0 : w6.cell? ⟨g, 0, none⟩ = some (.int .i64 x.1) := by rw [cell_of hc6]; rfl
    have r1 : w6.cell? ⟨g, 1, none⟩ = some (.int .i64 x.2) := by rw [cell_of hc6]; rfl
    have HC6 := hide hc6
    have r1r := r1
    rw [HG.out] at r1r
    have kd := drop_yes Q6.out.hq.hp x HM.out
    have hx2 := hri
    clear hb6 hc6 hxr Q4 HO4 HX hgF
    obtain ⟨x0, x1⟩ := x
    go_wp2_with fail
    (with_reducible refine Calls.mono kp ?_)
    clear kp
    rintro e w5 ⟨rfl, rfl⟩
    go_wp2_with (rw [← HW6.out])
    (try rw [← HG.out])
    clear r1r
    (with_reducible refine Calls.mono kd ?_)
    clear kd c0 c1
    rintro e w7 ⟨rfl, k1, k2⟩
    obtain ⟨L1, HL1⟩ := named (delL x1 L)
    have hno : hasL x1 L1 = false := by rw [HL1.out]; exact has_del _ _
    rw [← HL1.out] at k1
    have c7 := (k2.chg.block g (lt_of HC6.out) HGF.out).trans HC6.out
    have m7 := (Q6.out.mp.step k2 Q6.out.nb).1
    have q7 := Q6.out.hq.step k1 k2
    have HLEN : Hid (L1.length + 1 = N) := by show _ = _; rw [HL1.out, HNN.out]; exact len_del Q6.out.hq.hp.srt HM.out
    have HSRT := hide Q6.out.hq.hp.srt
    rw [← HNN.out] at m7
    obtain ⟨w8, HW8⟩ := named (w7.alloc (.cells #[.int .i64 x0, .int .i64 x1] 30))
    obtain ⟨g', HG'⟩ := named w7.heap.size
    have hb8 : Below w7.heap.size w7 w8 := by rw [HW8.out]; exact (Below.refl _ _).alloc (Nat.le_refl _) _
    have HC8 := hide ((hb8.block g (lt_of c7)).trans c7)
    have HD8 := hide (show w8.heap[g']? = some (.cells #[.int .i64 x0, .int .i64 x1] 30 (0, 0)) by rw [HW8.out, HG'.out]; exact heap_new _ _)
    have Q8 := hide (q7.below hb8)
    have M8 := hide (m7.heap (hb8.block _ m7.lt))
    have HGF' : Hid (¬ F g') := fun hF => by have := q7.hp.sub _ hF; rw [HG'.out] at this; omega
    have HGG : Hid (g ≠ g') := by show g ≠ g'; have := lt_of c7; rw [HG'.out]; omega
    have HNB := hide Q6.out.nb
    have HLO := hide Q6.out.lo
    have r8 : w8.cell? ⟨g, 1, none⟩ = some (.int .i64 x1) := by rw [cell_of HC8.out]; rfl
    have r8r := r8
    rw [HW8.out] at r8r
    have kd := drop_no Q8.out.hp x1 hx2.2 hno
    clear k1 k2 c7 m7 q7 hb8 Q6 HC6 r0 r1
    go_wp2_with (rw [← HW8.out])
    (try rw [← HG'.out])
    (with_reducible refine Calls.mono kd ?_)
    clear kd r8 r8r
    rintro e w9 ⟨rfl, hb9⟩
    obtain ⟨w10, HW10⟩ := named (w9.alloc (.cells #[.int .i64 0, .int .i64 0] 30))
    have hb10 : Below w8.heap.size w8 w10 := by rw [HW10.out]; exact below_call hb9 ((Below.refl _ _).alloc (Nat.le_refl _) _)
    have HC10 := hide ((hb10.block g (lt_of HC8.out)).trans HC8.out)
    have HD10 := hide ((hb10.block g' (lt_of HD8.out)).trans HD8.out)
    have Q10 := hide (Q8.out.below hb10)
    have M10 := hide (M8.out.heap (hb10.block _ M8.out.lt))
    have r8 : w10.cell? ⟨g, 1, none⟩ = some (.int .i64 x1) := by rw [cell_of HC10.out]; rfl
    have r8r := r8
    rw [HW10.out] at r8r
    have kg := get_any Q10.out.hp x1 hx2.2
    rw [getV_none hno, hno] at kg
    clear hb9 hb10 Q8 M8 HC8 HD8
    go_wp2_with fail
    rw [← HW10.out]
    (with_reducible refine Calls.mono kg ?_)
    clear kg r8 r8r
    rintro e w11 ⟨rfl, hb11⟩
    obtain ⟨w12, HW12⟩ := named (w11.alloc (.cells #[.int .i64 0, .int .i64 0] 30))
    have hb12 : Below w10.heap.size w10 w12 := by rw [HW12.out]; exact below_call hb11 ((Below.refl _ _).alloc (Nat.le_refl _) _)
    have HC12 := hide ((hb12.block g (lt_of HC10.out)).trans HC10.out)
    have HD12 := hide ((hb12.block g' (lt_of HD10.out)).trans HD10.out)
    have Q12 := hide (Q10.out.below hb12)
    have M12 := hide (M10.out.heap (hb12.block _ M10.out.lt))
    obtain ⟨w13, HW13⟩ := named (w12.setCell ⟨g, 0, none⟩ (.int .i64 n2))
    have HC13 := hide (show w13.heap[g]? = some (.cells #[.int .i64 n2, .int .i64 x1] 30 (0, 0)) by rw [HW13.out]; exact set0 HC12.out)
    have hk13 : ∀ k, k ≠ g → w13.heap[k]? = w12.heap[k]? := fun k hk => by rw [HW13.out]; exact heap_set0 _ _ _ _ hk
    have HD13 := hide ((hk13 g' (Ne.symm HGG.out)).trans HD12.out)
    have hsz : w13.heap.size = w12.heap.size := by rw [HW13.out]; simp [World.setCell]
    have Q13 : Hid (Hq w.heap.size w w13 (.pointer (some ⟨hb, 0, none⟩)) 1000 L1 F) := ⟨Q12.out.hp.heap (by omega) fun b hF => hk13 b fun e => HGF.out (e ▸ hF), Q12.out.new, by rw [HW13.out]; exact Q12.out.bel.setCell (p := ⟨g, 0, none⟩) HGW.out _, by rw [hsz]; exact Q12.out.le⟩
    have M13 := hide (M12.out.heap (hk13 mb (Ne.symm HGM.out)))
    have p0 : w13.cell? ⟨g, 0, none⟩ = some (.int .i64 n2) := by rw [cell_of HC13.out]; rfl
    have p1 : w13.cell? ⟨g, 1, none⟩ = some (.int .i64 x1) := by rw [cell_of HC13.out]; rfl
    have r0 : w12.cell? ⟨g, 0, none⟩ = some (.int .i64 x0) := by rw [cell_of HC12.out]; rfl
    have r1 : w12.cell? ⟨g, 1, none⟩ = some (.int .i64 x1) := by rw [cell_of HC12.out]; rfl
    have r2 : w12.frozen? ⟨g, 0, none⟩ = false := frozen_of HC12.out 0
    have r0r := r0
    have r1r := r1
    have r2r := r2
    have p0r := p0
    have p1r := p1
    rw [HW12.out] at r0r r1r r2r
    rw [HW13.out, HW12.out] at p0r p1r
    have hlen1 : L1.length < 1000 := by have := HLEN.out; omega
    have kp := put_ok Q13.out.hp (n2, x1) ⟨HI2.out, hx2.2⟩ hno hlen1
    clear hb11 hb12 Q10 M10 HC10 HD10 hk13 hsz Q12 M12 HC12 HD12
    go_wp2_with fail
    rw [← HW12.out, ← HW13.out]
    (with_reducible refine Calls.mono kp ?_)
    clear kp p0 p1 r0 r1 r2 p0r p1r r0r r1r r2r hlen1
    rintro e w14 ⟨rfl, G, k1, k2⟩
    obtain ⟨L2, HL2⟩ := named (insL (n2, x1) L1)
    rw [← HL2.out] at k1
    have HIN : Hid ((n2, x1) ∈ L2) := by rw [HL2.out]; exact (mem_ins _ _ _).2 (.inl rfl)
    have HLEN2 : Hid (L2.length = N) := by show _ = _; rw [HL2.out, len_ins]; exact HLEN.out
    have HSUB : Hid (∀ y ∈ L2, y.2 ≠ x1 → y ∈ L) := fun y hy hne => by
      rw [HL2.out] at hy
      rcases (mem_ins _ _ _).1 hy with rfl | hy
      · exact absurd rfl hne
      · rw [HL1.out] at hy; exact (mem_del.1 hy).1
    have Q14 := hide (Q13.out.step k1 k2)
    have HS2 := hide k1.srt
    have HR2 := hide k1.rng
    have HC14 := hide ((k2.chg.block g (lt_of HC13.out) HGF.out).trans HC13.out)
    have HD14 := hide ((k2.chg.block g' (lt_of HD13.out) HGF'.out).trans HD13.out)
    have M14 := hide ((M13.out.step k2 HNB.out).1)
    have kg := get_any Q14.out.hp x1 hx2.2
    have hgv : getV x1 L2 = (n2, x1) := getV_of HS2.out HIN.out
    have hhv : hasL x1 L2 = true := hasL_iff.2 ⟨_, HIN.out, rfl⟩
    rw [hgv, hhv] at kg
    have r1 : w14.cell? ⟨g, 1, none⟩ = some (.int .i64 x1) := by rw [cell_of HC14.out]; rfl
    clear k1 k2 hgv hhv Q13 HC13 HD13 M13 HW6 HW8 HW10 HW12 HW13 HG' HG hno
    go_wp2_with fail
    (with_reducible refine Calls.mono kg ?_)
    clear kg r1
    rintro e w15 ⟨rfl, hb15⟩
    obtain ⟨w16, HW16⟩ := named (w15.alloc (.cells #[.int .i64 n2, .int .i64 x1] 30))
    obtain ⟨gq, HGQ⟩ := named w15.heap.size
    have hb16 : Below w14.heap.size w14 w16 := by rw [HW16.out]; exact below_call hb15 ((Below.refl _ _).alloc (Nat.le_refl _) _)
    have HC16 := hide ((hb16.block g (lt_of HC14.out)).trans HC14.out)
    have HD16 := hide ((hb16.block g' (lt_of HD14.out)).trans HD14.out)
    have hq16 : w16.heap[gq]? = some (.cells #[.int .i64 n2, .int .i64 x1] 30 (0, 0)) := by rw [HW16.out, HGQ.out]; exact heap_new _ _
    have Q16 := hide (Q14.out.below hb16)
    have M16 := hide (M14.out.heap (hb16.block _ M14.out.lt))
    have p0 : w16.cell? ⟨g, 0, none⟩ = some (.int .i64 n2) := by rw [cell_of HC16.out]; rfl
    have p1 : w16.cell? ⟨g, 1, none⟩ = some (.int .i64 x1) := by rw [cell_of HC16.out]; rfl
    have q0 : w16.cell? ⟨gq, 0, none⟩ = some (.int .i64 n2) := by rw [cell_of hq16]; rfl
    have q1 : w16.cell? ⟨gq, 1, none⟩ = some (.int .i64 x1) := by rw [cell_of hq16]; rfl
    have d1 : w16.cell? ⟨g', 1, none⟩ = some (.int .i64 x1) := by rw [cell_of HD16.out]; rfl
    have q0r := q0
    have q1r := q1
    rw [HGQ.out] at q0r q1r
    have kl := len_any Q16.out.hp
    rw [HLEN2.out] at kl
    clear hb15 hb16 Q14 M14 HC14 HD14 hq16
    go_wp2_with (rw [← HW16.out])
    (with_reducible refine Calls.mono kl ?_)
    clear kl p0 p1 q0 q1 d1 q0r q1r
    rintro e w17 ⟨rfl, rfl⟩
    have ka := all_any Q16.out.hp
    go_wp2_with fail
    (with_reducible refine Calls.mono ka ?_)
    clear ka
    rintro e w18 ⟨zv, rfl, ho, hb18⟩
    obtain ⟨zo, zcap, rfl⟩ := ho.shape
    have HZ := hide ho.rd
    have Q18 := hide (Q16.out.below hb18)
    have M18 := hide (M16.out.heap (hb18.block _ M16.out.lt))
    have HC18 := hide ((hb18.block g (lt_of HC16.out)).trans HC16.out)
    have HZN : Hid (RdT w18 (.slice zo L2.length zcap) L2) := HZ.out
    rw [HLEN2.out]
    clear ho hb18 HZ Q16 M16 HC16 HD16 HW16 HGQ
    go_wp2_with fail
    go_loopw [21, 129] (fun cv iv wr => ∃ k c : Nat, k ≤ N ∧ iv = .int .i64 k ∧ cv = .int .i64 c ∧ Hid (c = cntL x1 (L2.take k)) ∧ Hid (Below w18.heap.size w18 wr)) (fun _ iv _ => N - (intOf iv).toNat)
    case atStart => exact ⟨0, 0, Nat.zero_le _, rfl, rfl, rfl, Below.refl _ _⟩
    case round =>
      obtain ⟨k, c, hk, rfl, rfl, HC, HB⟩ := hrel
      by_cases hlt : k < N
      · have hkl : k < L2.length := by rw [HLEN2.out]; exact hlt
        obtain ⟨b2, off2, hab, c0, c1⟩ := (HZN.out.below HB.out).at k hkl
        subst hab
        have hkI : (k : Int) < (N : Int) := by omega
        have hc3 : c ≤ 300 := by have h1 := cnt_le x1 (L2.take k); rw [List.length_take] at h1; rw [HC.out]; omega
        have hyL := List.getElem_mem hkl
        have hcn : cntL x1 (L2.take (k + 1)) = cntL x1 (L2.take k) + if (L2[k]'hkl).2 = x1 then 1 else 0 := by rw [List.take_succ_eq_append_getElem hkl, cnt_snoc]
        have hry := HR2.out _ hyL
        obtain ⟨y, HY⟩ := named (L2[k]'hkl)
        rw [← HY.out] at c0 c1 hyL hcn hry
        obtain ⟨u, HU⟩ := named (wr.alloc (.cells #[.int .i64 y.1, .int .i64 y.2] 30))
        obtain ⟨gy, HGY⟩ := named wr.heap.size
        have hbu : Below wr.heap.size wr u := by rw [HU.out]; exact (Below.refl _ _).alloc (Nat.le_refl _) _
        have hyu : u.heap[gy]? = some (.cells #[.int .i64 y.1, .int .i64 y.2] 30 (0, 0)) := by rw [HU.out, HGY.out]; exact heap_new _ _
        have HB1 := hide (below_call HB.out hbu)
        have hgu : u.heap[g]? = some (.cells #[.int .i64 n2, .int .i64 x1] 30 (0, 0)) := (HB1.out.block g (lt_of HC18.out)).trans HC18.out
        have p0 : u.cell? ⟨g, 0, none⟩ = some (.int .i64 n2) := by rw [cell_of hgu]; rfl
        have p1 : u.cell? ⟨g, 1, none⟩ = some (.int .i64 x1) := by rw [cell_of hgu]; rfl
        have q0 : u.cell? ⟨gy, 0, none⟩ = some (.int .i64 y.1) := by rw [cell_of hyu]; rfl
        have q1 : u.cell? ⟨gy, 1, none⟩ = some (.int .i64 y.2) := by rw [cell_of hyu]; rfl
        by_cases hy1 : y.2 = x1
        · have hye : y = (n2, x1) := HS2.out.one hyL HIN.out hy1
          subst hye
          rw [if_pos rfl] at hcn
          have HC1 : Hid (c + 1 = cntL x1 (L2.take (k + 1))) := by show _ = _; rw [hcn, HC.out]
          have q0r := q0
          have q1r := q1
          rw [HGY.out] at q0r q1r
          clear hyL hcn hry hy1 hbu hyu hgu HC HB HY hkl
          go_wp2_with (rw [← HU.out])
          go_roundw
          case rel => exact ⟨k + 1, c + 1, hlt, by go_num, by go_num, HC1.out, HB1.out⟩
          case measure => simp [intOf]; omega
        · rw [if_neg hy1] at hcn
          have HC1 : Hid (c = cntL x1 (L2.take (k + 1))) := by have h1 := HC.out; show c = _; omega
          have hlm := LM_at HSRT.out (HSUB.out y hyL hy1)
          have hlk := (M18.out.heap (HB1.out.block _ M18.out.lt)).look mt65 hry.2
          rw [hlm] at hlk
          simp only [Option.getD_some] at hlk
          obtain ⟨y0, y1⟩ := y
          have hyb : (y1 == x1) = false := by simpa using hy1
          have q0r := q0
          have q1r := q1
          rw [HGY.out] at q0r q1r
          clear hyL hcn hry hbu hyu hgu HC HB HY hkl hlm
          go_wp2_with (rw [← HU.out])
          go_roundw
          case rel => exact ⟨k + 1, c, hlt, by go_num, rfl, HC1.out, HB1.out⟩
          case measure => simp [intOf]; omega
      · have hkN : ¬ (k : Int) < (N : Int) := by omega
        have hc1 : c = 1 := by
          rw [HC.out, List.take_of_length_le (by rw [HLEN2.out]; omega)]
          exact cnt_one HS2.out HIN.out
        subst hc1
        have ka := awake_true wr
        have Q19 := hide (Q18.out.below HB.out)
        go_wp2_with fail
        (with_reducible refine Calls.mono ka ?_)
        clear ka
        rintro e w19 ⟨rfl, hb1⟩
        have HEND := hide (Q19.out.below hb1).bel
        clear hb1
        go_wp2_with fail
        go_ret
        exact ⟨rfl, HEND.out⟩
end Go.Proofs.Ytemlanalaihkoaa
