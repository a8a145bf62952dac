/-
  The law HeapOrder. Own work.
-/
import Derived.Test.YtemlanalaihkoaaNb
import Derived.Test.YtemlanalaihkoaaHi
namespace Go.Proofs.Ytemlanalaihkoaa
open Go.RowKit Go.Sort

theorem del_le (id : Int) (L : List Tm) : (delL id L).length ≤ L.length := List.length_filter_le _ _

theorem len_zero {w : World} {h : Value} {most : Nat} {F : Nat → Prop} (hp : Hp w h most [] F) : Calls Try.prog 15 #[h] w fun e w' => e = .returned (.int .i64 0) ∧ w' = w := len_any hp
theorem mlen_zero {w : World} {mb : Nat} (h : Mp w mb ([] : List Tm).length 2 (LM [])) : (Builtin.len_ #[65] 3 #[.map (some mb)]).run Try.prog w = .ok (.int .i64 0) w := h.len mt65 3
theorem HM.set {B : Nat} {w0 w : World} {h : Value} {most : Nat} {L : List Tm} {F : Nat → Prop} {mb g : Nat} (q : HM B w0 w h most L F mb) (hF : ¬ F g) (hm : g ≠ mb) (hl : B ≤ g) (u v : Value) : HM B w0 ((w.setCell ⟨g, 0, none⟩ u).setCell ⟨g, 1, none⟩ v) h most L F mb :=
  ⟨⟨q.hq.hp.heap (by simp [World.setCell]) fun b hb => two_heap w g 0 u v b (by rintro rfl; exact hF hb), q.hq.new, (q.hq.bel.setCell (p := ⟨g, 0, none⟩) hl _).setCell (p := ⟨g, 1, none⟩) hl _, by have := q.hq.le; simpa [World.setCell] using this⟩, q.mp.heap (two_heap w g 0 u v mb (Ne.symm hm)), q.nb, q.lo⟩

set_option maxRecDepth 100000 in
set_option maxHeartbeats 12800000 in
theorem order_walk (w : World) (v0 : Value) (l : List Tm) (hv : RdT w v0 l) (hr : ∀ x ∈ l, I64 x.1 ∧ I64 x.2) (v1 : Value) (dr : List Int) (hd : RdN w v1 dr) (hri : ∀ x ∈ dr, I64 x) :
    Calls Try.prog 6 #[v0, v1] w fun e w' => e = .returned (.bool true) ∧ Below w.heap.size w w' := by
  have km := made_any hv hr
  have HD := hide hd
  have HRI := hide hri
  have KA := hide (fun u => awake_true u)
  obtain ⟨ao, cap, rfl⟩ := hv.shape
  obtain ⟨bo, dap, rfl⟩ := hd.shape
  obtain ⟨n, HN⟩ := named l.length
  obtain ⟨m, HMM⟩ := named dr.length
  rw [← HN.out] at km ⊢
  rw [← HMM.out] at HD ⊢
  clear hv hr hd hri
  go_enter Try.func6, Try.ntmps6
  go_wp2_with fail
  (with_reducible refine Calls.mono km ?_)
  clear km
  rintro e w1 ⟨h, mb, rfl, F, q⟩
  obtain ⟨hb, hhe, -⟩ := q.hq.hp.ne
  subst hhe
  obtain ⟨w2, HW2⟩ := named (w1.alloc (.cells #[.int .i64 0, .int .i64 0] 30))
  obtain ⟨g8, HG⟩ := named w1.heap.size
  have hb2 : Below w1.heap.size w1 w2 := by rw [HW2.out]; exact (Below.refl _ _).alloc (Nat.le_refl _) _
  have HQ := hide (q.below hb2)
  have HC8 := hide (show w2.heap[g8]? = some (.cells #[.int .i64 0, .int .i64 0] 30 (0, 0)) by rw [HW2.out, HG.out]; exact heap_new _ _)
  have hgF : ¬ F g8 := fun hF => by have := q.hq.hp.sub _ hF; rw [HG.out] at this; omega
  have hgm : g8 ≠ mb := by have := q.mp.lt; rw [HG.out]; omega
  have hgl : w.heap.size ≤ g8 := by rw [HG.out]; exact q.hq.le
  have hl0 : (fst1 (l.take 300)).length + 0 ≤ 300 := by have := fst1_len (l.take 300); rw [List.length_take] at this; omega
  have HGF := hide hgF
  clear q hb2 hgF
  go_wp2_with fail
  rw [← HW2.out, ← HG.out]
  clear HW2 HG
  obtain ⟨L0, HL0⟩ := named (fst1 (l.take 300))
  rw [← HL0.out] at HQ hl0
  go_loopw [9, 10] (fun fv iv wr => ∃ (i : Nat) (L : List Tm) (x : Tm) (fb : Bool), iv = .int .i64 i ∧ fv = .bool fb ∧ L.length + i ≤ 300 ∧ Hid (HM w.heap.size w wr (.pointer (some ⟨hb, 0, none⟩)) 1000 L F mb) ∧ Hid (wr.heap[g8]? = some (.cells #[.int .i64 x.1, .int .i64 x.2] 30 (0, 0))) ∧ Hid (fb = false → ∀ y ∈ L, Ah x y)) (fun _ iv _ => 301 - (intOf iv).toNat)
  case atStart => exact ⟨0, L0, (0, 0), true, rfl, rfl, hl0, HQ, HC8, fun h => by cases h⟩
  case round =>
    obtain ⟨i, L, x, fb, rfl, rfl, hli, HK, HX, HA⟩ := hrel
    clear HQ HC8 hl0
    cases hL : L with
    | nil =>
      subst hL
      have HE := hide HK.out
      have hml0 := mlen_zero HE.out.mp
      clear HK HX HA
      have kp := pop_no HE.out.hq.hp
      go_wp2_with fail
      (with_reducible refine Calls.mono kp ?_)
      clear kp
      rintro e u3 ⟨rfl, hb3⟩
      obtain ⟨u4, HU4⟩ := named (u3.alloc (.cells #[.int .i64 0, .int .i64 0] 30))
      have hb4 : Below u3.heap.size u3 u4 := by rw [HU4.out]; exact (Below.refl _ _).alloc (Nat.le_refl _) _
      have HE4 := hide ((HE.out.below hb3).below hb4)
      have kl := len_zero HE4.out.hq.hp
      have hml := mlen_zero HE4.out.mp
      have ka := KA.out u4
      clear hb3 hb4
      go_wp2_with fail
      rw [← HU4.out]
      (with_reducible refine Calls.mono kl ?_)
      clear kl
      rintro e u5 ⟨rfl, rfl⟩
      go_wp2_with fail
      (with_reducible refine Calls.mono ka ?_)
      clear ka
      rintro e u6 ⟨rfl, hb6⟩
      have HEND := hide (HE4.out.hq.bel.trans (hb6.mono HE4.out.hq.le))
      clear hb6
      go_wp2_with fail
      go_ret
      exact ⟨rfl, HEND.out⟩
    | cons x0 r0 =>
      have hml0 := HK.out.mp.len mt65 3
      have hne : 0 < L.length := by rw [hL]; simp
      obtain ⟨N, HNN⟩ := named L.length
      rw [← HNN.out] at hml0 hne
      have hN : 0 < (N : Int) := by omega
      have hi3 : (i : Int) ≤ 300 := by rw [← HNN.out] at hli; omega
      clear hL
      by_cases hdl : i < m
      · have hil : i < dr.length := by rw [← HMM.out]; exact hdl
        obtain ⟨b, off, hab, D0'⟩ := HD.out.at i hil
        have D0 := hide D0'
        obtain ⟨b', off', hab', d0⟩ := (HD.out.below HK.out.hq.bel).at i hil
        cases hab
        cases hab'
        have hdi := HRI.out _ (List.getElem_mem hil)
        obtain ⟨d, HDD⟩ := named dr[i]
        rw [← HDD.out] at d0 hdi D0
        have hdlI : (i : Int) < (m : Int) := by omega
        clear D0'
        cases hh : hasL d L with
        | true =>
          have hdel := hh
          obtain ⟨y, hy, hyd⟩ := hasL_iff.1 hh
          have kd := drop_yes HK.out.hq.hp y hy
          have hlm := LM_at HK.out.hq.hp.srt hy
          rw [hyd] at kd hlm
          obtain ⟨e0, HE0⟩ := named y.1
          rw [← HE0.out] at kd hlm
          clear hdel hy hyd
          go_wp2_with fail
          (with_reducible refine Calls.mono kd ?_)
          clear kd
          rintro e w3 ⟨rfl, k1, k2⟩
          obtain ⟨u4, HU4⟩ := named (w3.alloc (.cells #[.int .i64 e0, .int .i64 d] 30))
          obtain ⟨gx, HGX⟩ := named w3.heap.size
          have hb4 : Below w3.heap.size w3 u4 := by rw [HU4.out]; exact (Below.refl _ _).alloc (Nat.le_refl _) _
          have hc4 := heap_new w3 (.cells #[.int .i64 e0, .int .i64 d] 30)
          rw [← HU4.out, ← HGX.out] at hc4
          have hmp4 := ((HK.out.mp.step k2 HK.out.nb).1).heap (hb4.block _ (HK.out.mp.step k2 HK.out.nb).1.lt)
          have hlk := hmp4.look_ok mt65 hdi
          simp only [hlm, Option.isSome_some, Option.getD_some] at hlk
          have e1 := (k1.below hb4)
          have e2 := k2.trans (Step.below hb4)
          obtain ⟨w5, hr5, hm5, hg5⟩ := HK.out.drop (w1 := u4.drew) d hdi (e1.heap (Nat.le_refl _) fun _ _ => rfl) ⟨e2.chg.drew, e2.new⟩
          have hx5 : w5.heap[g8]? = some (.cells #[.int .i64 x.1, .int .i64 x.2] 30 (0, 0)) := by
            rw [hg5.block _ (Nat.lt_of_lt_of_le (lt_of HX.out) e2.chg.size) (fun e => hgm (Option.some.inj e))]
            exact (e2.chg.block _ (lt_of HX.out) HGF.out).trans HX.out
          have hbF : ¬ F b := fun hF => by
            have h1 := HK.out.hq.new b hF
            have h2 : b < w.heap.size := World.block_lt_of_cell? w _ D0.out
            omega
          have hd4 : u4.cell? ⟨b, off + i, none⟩ = some (.int .i64 d) := by rw [e2.chg.cell (World.block_lt_of_cell? wr _ d0) hbF]; exact d0
          have hs0 : u4.drew.cell? ⟨b, off + i, none⟩ = some (.int .i64 d) ∧ u4.drew.cell? ⟨gx, 0, none⟩ = some (.int .i64 e0) ∧ u4.drew.cell? ⟨gx, 1, none⟩ = some (.int .i64 d) := ⟨hd4, by rw [cell_of (w := u4.drew) hc4]; rfl, by rw [cell_of (w := u4.drew) hc4]; rfl⟩
          obtain ⟨L1, HL1⟩ := named (delL d L)
          have HK1 : Hid (HM w.heap.size w w5 (.pointer (some ⟨hb, 0, none⟩)) 1000 L1 F mb) := by show HM _ _ _ _ _ _ _ _; rw [HL1.out]; exact hm5
          have HX1 := hide hx5
          have HSUB1 : Hid (∀ y ∈ L1, y ∈ L) := fun y hy => by rw [HL1.out] at hy; exact (mem_del.1 hy).1
          have HLE1 : Hid (L1.length + i ≤ 300) := by have := del_le d L; rw [HL1.out]; show _ ≤ _; omega
          clear hm5 hx5 hg5 e1 e2 hmp4 hc4 hb4 k1 k2 hbF
          go_wp2_with (rw [← HU4.out])
          (try rw [← HGX.out])
          go_wp2_with fail
          go_region_held3 (fun u => u.cell? ⟨b, off + i, none⟩ = some (.int .i64 d) ∧ u.cell? ⟨gx, 0, none⟩ = some (.int .i64 e0) ∧ u.cell? ⟨gx, 1, none⟩ = some (.int .i64 d)) (assumption) (fail)
          clear hs0 hlk
          cases L1 with
          | nil =>
            have kp := pop_no HK1.out.hq.hp
            go_wp2_with fail
            (with_reducible refine Calls.mono kp ?_)
            clear kp
            rintro e u1 ⟨rfl, hb1⟩
            have hbx : Below u1.heap.size u1 (u1.alloc (.cells #[.int .i64 0, .int .i64 0] 30)) := (Below.refl _ _).alloc (Nat.le_refl _) _
            have HE := hide ((HK1.out.below hb1).below hbx)
            have hml1 := mlen_zero HE.out.mp
            clear hb1 hbx
            have kp := pop_no HE.out.hq.hp
            go_wp2_with fail
            (with_reducible refine Calls.mono kp ?_)
            clear kp
            rintro e u3 ⟨rfl, hb3⟩
            obtain ⟨u4, HU4⟩ := named (u3.alloc (.cells #[.int .i64 0, .int .i64 0] 30))
            have hb4 : Below u3.heap.size u3 u4 := by rw [HU4.out]; exact (Below.refl _ _).alloc (Nat.le_refl _) _
            have HE4 := hide ((HE.out.below hb3).below hb4)
            have kl := len_zero HE4.out.hq.hp
            have hml := mlen_zero HE4.out.mp
            have ka := KA.out u4
            clear hb3 hb4
            go_wp2_with fail
            rw [← HU4.out]
            (with_reducible refine Calls.mono kl ?_)
            clear kl
            rintro e u5 ⟨rfl, rfl⟩
            go_wp2_with fail
            (with_reducible refine Calls.mono ka ?_)
            clear ka
            rintro e u6 ⟨rfl, hb6⟩
            have HEND := hide (HE4.out.hq.bel.trans (hb6.mono HE4.out.hq.le))
            clear hb6
            go_wp2_with fail
            go_ret
            exact ⟨rfl, HEND.out⟩
          | cons y r1 =>
            have hd1 := del_head HK1.out.hq.hp.srt
            have kp := pop_yes HK1.out.hq.hp
            have hyi := HK1.out.hq.hp.rng y List.mem_cons_self
            have HHD := hide HK1.out.hq.hp.srt.head
            have HAY : Hid (fb = false → Ah x y) := fun h => HA.out h y (HSUB1.out y List.mem_cons_self)
            have HLE2 : Hid (r1.length + (i + 1) ≤ 300) := by
              have := HLE1.out
              simp only [List.length_cons] at this
              show _ ≤ _
              omega
            have HQ5 := hide (fun (w5 : World) k1 k2 => HK1.out.hq.step (w' := w5) (L' := r1) (G := F) k1 k2)
            have HMP := hide (fun (w5 : World) (k2 : Step F _ w5 F) => (HK1.out.mp.step k2 HK1.out.nb).1)
            have HX5 := hide (fun (w5 : World) (k2 : Step F _ w5 F) => (k2.chg.block _ (lt_of HX1.out) HGF.out).trans HX1.out)
            have HNB := hide HK1.out.nb
            have HLO := hide HK1.out.lo
            have HDR := hide (fun (w5 : World) k1 k2 => HK1.out.drop (w1 := w5) y.2 hyi.2 k1 k2)
            rw [hd1] at HDR
            obtain ⟨y0, y1⟩ := y
            go_wp2_with fail
            (with_reducible refine Calls.mono kp ?_)
            clear kp hd1
            rintro e w5 ⟨rfl, k1, k2⟩
            obtain ⟨u6, HU6⟩ := named (w5.alloc (.cells #[.int .i64 y0, .int .i64 y1] 30))
            have hb6 : Below w5.heap.size w5 u6 := by rw [HU6.out]; exact (Below.refl _ _).alloc (Nat.le_refl _) _
            have hy6 := heap_new w5 (.cells #[.int .i64 y0, .int .i64 y1] 30)
            rw [← HU6.out] at hy6
            have hx6 := (hb6.block _ (lt_of (HX5.out w5 k2))).trans (HX5.out w5 k2)
            have hgyg : w5.heap.size ≠ g8 := by have := lt_of (HX5.out w5 k2); omega
            have hgym : w5.heap.size ≠ mb := by have := (HMP.out w5 k2).lt; omega
            have hmp6 := (HMP.out w5 k2).heap (hb6.block _ (HMP.out w5 k2).lt)
            have hml6 := hmp6.len mt65 3
            have hlk6 := hmp6.look_ok mt65 hyi.2
            have hly : LM ((y0, y1) :: r1) y1 = some y0 := by
              have := LM_at HK1.out.hq.hp.srt (x := (y0, y1)) List.mem_cons_self
              exact this
            simp only [hly, Option.isSome_some, Option.getD_some] at hlk6
            have HFIN := hide (show ∀ u, Below u6.heap.size u6 u → ∃ w8, (Builtin.delete_ #[65, 3] 0 #[.map (some mb), .int .i64 y1]).run Try.prog u = .ok (.tuple #[]) w8 ∧ HM w.heap.size w w8 (.pointer (some ⟨hb, 0, none⟩)) 1000 r1 F mb ∧ w8.heap[w5.heap.size]? = some (.cells #[.int .i64 y0, .int .i64 y1] 30 (0, 0)) ∧ w8.heap[g8]? = some (.cells #[.int .i64 x.1, .int .i64 x.2] 30 (0, 0)) from fun u hu => by
              have e1 := (k1.below hb6).below hu
              have e2 := (k2.trans (Step.below hb6)).trans (Step.below hu)
              obtain ⟨w8, hr, hm, hg⟩ := HDR.out u e1 e2
              refine ⟨w8, hr, hm, ?_, ?_⟩
              · rw [hg.block _ (Nat.lt_of_lt_of_le (lt_of hy6) hu.size) (fun e => hgym (Option.some.inj e)), hu.block _ (lt_of hy6)]; exact hy6
              · rw [hg.block _ (Nat.lt_of_lt_of_le (lt_of hx6) hu.size) (fun e => hgm (Option.some.inj e)), hu.block _ (lt_of hx6)]; exact hx6)
            have HSET := hide (show ∀ w8, HM w.heap.size w w8 (.pointer (some ⟨hb, 0, none⟩)) 1000 r1 F mb → w8.heap[g8]? = some (.cells #[.int .i64 x.1, .int .i64 x.2] 30 (0, 0)) → HM w.heap.size w ((w8.setCell ⟨g8, 0, none⟩ (.int .i64 y0)).setCell ⟨g8, 1, none⟩ (.int .i64 y1)) (.pointer (some ⟨hb, 0, none⟩)) 1000 r1 F mb ∧ ((w8.setCell ⟨g8, 0, none⟩ (.int .i64 y0)).setCell ⟨g8, 1, none⟩ (.int .i64 y1)).heap[g8]? = some (.cells #[.int .i64 y0, .int .i64 y1] 30 (0, 0)) from fun w8 q hx => ⟨q.set HGF.out hgm hgl _ _, C2.set hx _ _⟩)
            obtain ⟨N1, HN1⟩ := named ((y0, y1) :: r1).length
            have hN1 : 0 < (N1 : Int) := by rw [HN1.out]; simp only [List.length_cons]; omega
            rw [← HN1.out] at hml6
            have hN1n : 0 < N1 := by omega
            have c60 : u6.cell? ⟨w5.heap.size, 0, none⟩ = some (.int .i64 y0) := by rw [cell_of hy6]; rfl
            have c61 : u6.cell? ⟨w5.heap.size, 1, none⟩ = some (.int .i64 y1) := by rw [cell_of hy6]; rfl
            have cx0 : u6.cell? ⟨g8, 0, none⟩ = some (.int .i64 x.1) := by rw [cell_of hx6]; rfl
            have cx1 : u6.cell? ⟨g8, 1, none⟩ = some (.int .i64 x.2) := by rw [cell_of hx6]; rfl
            have HY6 := hide hy6
            have HX6 := hide hx6
            clear hly hmp6 k1 k2 hb6 hy6 hx6 HQ5 HMP HX5 HDR hyi HK1 HX1 HSUB1 HLE1
            cases fb with
            | true =>
              obtain ⟨w8, hr8, hm8, hy8, hx8⟩ := HFIN.out u6 (Below.refl _ _)
              have HSE := hide (HSET.out w8 hm8 hx8)
              obtain ⟨-, d0, d1, -, -⟩ := C2.of hy8
              obtain ⟨-, f0, f1, f2, f3⟩ := C2.of hx8
              clear hm8 hy8 hx8 HFIN HSET
              go_wp2_with (rw [← HU6.out])
              go_roundw
              case rel => exact ⟨i + 1, r1, (y0, y1), false, by go_num, rfl, HLE2.out, HSE.out.1, HSE.out.2, fun _ => HHD.out⟩
              case measure => simp [intOf]; omega
            | false =>
              have kah := fun u => aheadLaw_any x (y0, y1) u
              rw [decide_eq_true (HAY.out rfl)] at kah
              obtain ⟨xa, xb⟩ := x
              go_wp2_with (rw [← HU6.out])
              (with_reducible refine Calls.mono (kah _) ?_)
              clear kah
              rintro e w7 ⟨rfl, hb7⟩
              obtain ⟨w8, hr8, hm8, hy8, hx8⟩ := HFIN.out w7 hb7
              have HSE := hide (HSET.out w8 hm8 hx8)
              obtain ⟨-, d0, d1, -, -⟩ := C2.of hy8
              obtain ⟨-, f0, f1, f2, f3⟩ := C2.of hx8
              have g70 : w7.cell? ⟨w5.heap.size, 1, none⟩ = some (.int .i64 y1) := by rw [hb7.cell (p := ⟨w5.heap.size, 1, none⟩) (lt_of HY6.out)]; exact c61
              clear hm8 hy8 hx8 HFIN HSET hb7
              go_wp2_with fail
              go_roundw
              case rel => exact ⟨i + 1, r1, (y0, y1), false, by go_num, rfl, HLE2.out, HSE.out.1, HSE.out.2, fun _ => HHD.out⟩
              case measure => simp [intOf]; omega
        | false =>
          have kd := drop_no HK.out.hq.hp d hdi hh
          have hlm : LM L d = none := by
            have := LM_some HK.out.hq.hp.srt d
            rw [hh] at this
            simpa using this
          have hdn := del_none hh
          go_wp2_with fail
          (with_reducible refine Calls.mono kd ?_)
          clear kd
          rintro e w3 ⟨rfl, hb3⟩
          have k1 : Hp w3 (.pointer (some ⟨hb, 0, none⟩)) 1000 (delL d L) F := by rw [hdn]; exact HK.out.hq.hp.below hb3
          have k2 : Step F wr w3 F := Step.below hb3
          obtain ⟨u4, HU4⟩ := named (w3.alloc (.cells #[.int .i64 0, .int .i64 0] 30))
          obtain ⟨gx, HGX⟩ := named w3.heap.size
          have hb4 : Below w3.heap.size w3 u4 := by rw [HU4.out]; exact (Below.refl _ _).alloc (Nat.le_refl _) _
          have hc4 := heap_new w3 (.cells #[.int .i64 0, .int .i64 0] 30)
          rw [← HU4.out, ← HGX.out] at hc4
          have hmp4 := ((HK.out.mp.step k2 HK.out.nb).1).heap (hb4.block _ (HK.out.mp.step k2 HK.out.nb).1.lt)
          have hlk := hmp4.look_ok mt65 hdi
          simp only [hlm, Option.isSome_none, Option.getD_none] at hlk
          have e1 := (k1.below hb4)
          have e2 := k2.trans (Step.below hb4)
          obtain ⟨w5, hr5, hm5, hg5⟩ := HK.out.drop (w1 := u4.drew) d hdi (e1.heap (Nat.le_refl _) fun _ _ => rfl) ⟨e2.chg.drew, e2.new⟩
          have hx5 : w5.heap[g8]? = some (.cells #[.int .i64 x.1, .int .i64 x.2] 30 (0, 0)) := by
            rw [hg5.block _ (Nat.lt_of_lt_of_le (lt_of HX.out) e2.chg.size) (fun e => hgm (Option.some.inj e))]
            exact (e2.chg.block _ (lt_of HX.out) HGF.out).trans HX.out
          have hbF : ¬ F b := fun hF => by
            have h1 := HK.out.hq.new b hF
            have h2 : b < w.heap.size := World.block_lt_of_cell? w _ D0.out
            omega
          have hd4 : u4.cell? ⟨b, off + i, none⟩ = some (.int .i64 d) := by rw [e2.chg.cell (World.block_lt_of_cell? wr _ d0) hbF]; exact d0
          have hs0 : u4.drew.cell? ⟨b, off + i, none⟩ = some (.int .i64 d) ∧ u4.drew.cell? ⟨gx, 0, none⟩ = some (.int .i64 0) ∧ u4.drew.cell? ⟨gx, 1, none⟩ = some (.int .i64 0) := ⟨hd4, by rw [cell_of (w := u4.drew) hc4]; rfl, by rw [cell_of (w := u4.drew) hc4]; rfl⟩
          obtain ⟨L1, HL1⟩ := named (delL d L)
          have HK1 : Hid (HM w.heap.size w w5 (.pointer (some ⟨hb, 0, none⟩)) 1000 L1 F mb) := by show HM _ _ _ _ _ _ _ _; rw [HL1.out]; exact hm5
          have HX1 := hide hx5
          have HSUB1 : Hid (∀ y ∈ L1, y ∈ L) := fun y hy => by rw [HL1.out] at hy; exact (mem_del.1 hy).1
          have HLE1 : Hid (L1.length + i ≤ 300) := by have := del_le d L; rw [HL1.out]; show _ ≤ _; omega
          clear hm5 hx5 hg5 e1 e2 hmp4 hc4 hb4 k1 k2 hbF
          have hd4r := hd4
          rw [HU4.out] at hlk hd4r
          go_wp2_with fail
          rw [← HU4.out]
          (try rw [← HGX.out])
          refine wp_region_held_drew (S := (fun _ => True)) (by kernel_rfl) trivial (fun _ => ?_)
          refine wpAnyH_take (i := 0) (oi := { dst := some 60, op := Go.Op.move (Go.Operand.tmp 12), type := 24, pos := "outright.go:47", after := #[], guard := none }) (v := ?_) rfl (by kernel_rfl) (by kernel_rfl) (by kernel_rfl) (fun _ _ _ h => h) (Or.inl ⟨by rfl, ?hy1⟩) trivial ?_
          case hy1 =>
            intro u hu
            obtain u0 := hu
            go_simp
            try with_reducible rfl
          simp only [Act.put, List.setIfInBounds_toArray, List.set_cons_zero, List.set_cons_succ]
          refine wpAnyH_take (i := 1) (oi := { dst := some 61, op := Go.Op.binOp Go.BinOp.eql 24 (Go.Operand.tmp 60) (Go.Operand.const (Go.Value.int Go.IntKind.i64 0)) 24, type := 4, pos := "outright.go:47", after := #[{ on := 0, ground := Go.Ground.data }], guard := none }) (v := ?_) rfl (by kernel_rfl) (by kernel_rfl) (by kernel_rfl) (fun _ _ _ h => h) (Or.inl ⟨by rfl, ?hy2⟩) trivial ?_
          case hy2 =>
            intro u hu
            obtain u0 := hu
            go_simp
            try with_reducible rfl
          simp only [Act.put, List.setIfInBounds_toArray, List.set_cons_zero, List.set_cons_succ]
          refine wpAnyH_take (i := 2) (oi := { dst := some 62, op := Go.Op.move (Go.Operand.tmp 14), type := 4, pos := "outright.go:47", after := #[], guard := none }) (v := ?_) rfl (by kernel_rfl) (by kernel_rfl) (by kernel_rfl) (fun _ _ _ h => h) (Or.inl ⟨by rfl, ?hy3⟩) trivial ?_
          case hy3 =>
            intro u hu
            obtain u0 := hu
            go_simp
            try with_reducible rfl
          simp only [Act.put, List.setIfInBounds_toArray, List.set_cons_zero, List.set_cons_succ]
          refine wpAnyH_take (i := 3) (oi := { dst := some 63, op := Go.Op.binOp Go.BinOp.neq 4 (Go.Operand.tmp 61) (Go.Operand.tmp 62) 4, type := 4, pos := "outright.go:47", after := #[{ on := 1, ground := Go.Ground.data }, { on := 2, ground := Go.Ground.data }], guard := none }) (v := ?_) rfl (by kernel_rfl) (by kernel_rfl) (by kernel_rfl) (fun _ _ _ h => h) (Or.inl ⟨by rfl, ?hy4⟩) trivial ?_
          case hy4 =>
            intro u hu
            obtain u0 := hu
            go_simp
            try with_reducible rfl
          simp only [Act.put, List.setIfInBounds_toArray, List.set_cons_zero, List.set_cons_succ]
          refine wpAnyH_take (i := 4) (oi := { dst := some 64, op := Go.Op.move (Go.Operand.tmp 63), type := 4, pos := "outright.go:47", after := #[{ on := 3, ground := Go.Ground.data }], guard := none }) (v := ?_) rfl (by kernel_rfl) (by kernel_rfl) (by kernel_rfl) (fun _ _ _ h => h) (Or.inl ⟨by rfl, ?hy5⟩) trivial ?_
          case hy5 =>
            intro u hu
            obtain u0 := hu
            go_simp
            try with_reducible rfl
          simp only [Act.put, List.setIfInBounds_toArray, List.set_cons_zero, List.set_cons_succ]
          refine wpAnyH_take (i := 5) (oi := { dst := some 65, op := Go.Op.move (Go.Operand.tmp 14), type := 4, pos := "outright.go:47", after := #[{ on := 4, ground := Go.Ground.guard }], guard := some (4, false) }) (v := ?_) rfl (by kernel_rfl) (by kernel_rfl) (by kernel_rfl) (fun _ _ _ h => h) (Or.inl ⟨by rfl, ?hy6⟩) trivial ?_
          case hy6 =>
            intro u hu
            obtain u0 := hu
            go_simp
            try with_reducible rfl
          simp only [Act.put, List.setIfInBounds_toArray, List.set_cons_zero, List.set_cons_succ]
          refine wpAnyH_take (i := 6) (oi := { dst := some 66, op := Go.Op.move (Go.Operand.tmp 65), type := 4, pos := "outright.go:47", after := #[{ on := 5, ground := Go.Ground.data }, { on := 4, ground := Go.Ground.chain }, { on := 4, ground := Go.Ground.guard }], guard := some (4, false) }) (v := ?_) rfl (by kernel_rfl) (by kernel_rfl) (by kernel_rfl) (fun _ _ _ h => h) (Or.inl ⟨by rfl, ?hy7⟩) trivial ?_
          case hy7 =>
            intro u hu
            obtain u0 := hu
            go_simp
            try with_reducible rfl
          simp only [Act.put, List.setIfInBounds_toArray, List.set_cons_zero, List.set_cons_succ]
          refine wpAnyH_take (i := 7) (oi := { dst := some 67, op := Go.Op.load 30 (Go.Operand.tmp 11), type := 30, pos := "outright.go:47", after := #[{ on := 6, ground := Go.Ground.guard }], guard := some (6, true) }) (v := undef) rfl (by kernel_rfl) (by kernel_rfl) (by kernel_rfl) (fun _ _ _ h => h) (Or.inr ⟨by rfl, rfl⟩) trivial ?_
          simp only [Act.put, List.setIfInBounds_toArray, List.set_cons_zero, List.set_cons_succ]
          refine wpAnyH_take (i := 8) (oi := { dst := some 68, op := Go.Op.move (Go.Operand.tmp 13), type := 2, pos := "outright.go:47", after := #[{ on := 6, ground := Go.Ground.guard }], guard := some (6, true) }) (v := undef) rfl (by kernel_rfl) (by kernel_rfl) (by kernel_rfl) (fun _ _ _ h => h) (Or.inr ⟨by rfl, rfl⟩) trivial ?_
          simp only [Act.put, List.setIfInBounds_toArray, List.set_cons_zero, List.set_cons_succ]
          refine wpAnyH_take (i := 9) (oi := { dst := some 69, op := Go.Op.move (Go.Operand.tmp 1), type := 22, pos := "outright.go:47", after := #[{ on := 6, ground := Go.Ground.guard }], guard := some (6, true) }) (v := undef) rfl (by kernel_rfl) (by kernel_rfl) (by kernel_rfl) (fun _ _ _ h => h) (Or.inr ⟨by rfl, rfl⟩) trivial ?_
          simp only [Act.put, List.setIfInBounds_toArray, List.set_cons_zero, List.set_cons_succ]
          refine wpAnyH_take (i := 10) (oi := { dst := some 70, op := Go.Op.move (Go.Operand.tmp 10), type := 3, pos := "outright.go:47", after := #[{ on := 6, ground := Go.Ground.guard }], guard := some (6, true) }) (v := undef) rfl (by kernel_rfl) (by kernel_rfl) (by kernel_rfl) (fun _ _ _ h => h) (Or.inr ⟨by rfl, rfl⟩) trivial ?_
          simp only [Act.put, List.setIfInBounds_toArray, List.set_cons_zero, List.set_cons_succ]
          refine wpAnyH_take (i := 11) (oi := { dst := some 71, op := Go.Op.indexAddr 22 (Go.Operand.tmp 69) (Go.Operand.tmp 70), type := 0, pos := "outright.go:47", after := #[{ on := 9, ground := Go.Ground.data }, { on := 10, ground := Go.Ground.data }, { on := 6, ground := Go.Ground.guard }], guard := some (6, true) }) (v := undef) rfl (by kernel_rfl) (by kernel_rfl) (by kernel_rfl) (fun _ _ _ h => h) (Or.inr ⟨by rfl, rfl⟩) trivial ?_
          simp only [Act.put, List.setIfInBounds_toArray, List.set_cons_zero, List.set_cons_succ]
          refine wpAnyH_take (i := 12) (oi := { dst := some 72, op := Go.Op.load 3 (Go.Operand.tmp 71), type := 3, pos := "outright.go:47", after := #[{ on := 11, ground := Go.Ground.data }, { on := 6, ground := Go.Ground.guard }], guard := some (6, true) }) (v := undef) rfl (by kernel_rfl) (by kernel_rfl) (by kernel_rfl) (fun _ _ _ h => h) (Or.inr ⟨by rfl, rfl⟩) trivial ?_
          simp only [Act.put, List.setIfInBounds_toArray, List.set_cons_zero, List.set_cons_succ]
          refine wpAnyH_take (i := 13) (oi := { dst := some 73, op := Go.Op.build 30 #[(0, Go.Operand.tmp 68), (1, Go.Operand.tmp 72)], type := 30, pos := "outright.go:47", after := #[{ on := 8, ground := Go.Ground.data }, { on := 12, ground := Go.Ground.data }, { on := 6, ground := Go.Ground.guard }], guard := some (6, true) }) (v := undef) rfl (by kernel_rfl) (by kernel_rfl) (by kernel_rfl) (fun _ _ _ h => h) (Or.inr ⟨by rfl, rfl⟩) trivial ?_
          simp only [Act.put, List.setIfInBounds_toArray, List.set_cons_zero, List.set_cons_succ]
          refine wpAnyH_take (i := 14) (oi := { dst := some 74, op := Go.Op.binOp Go.BinOp.neq 30 (Go.Operand.tmp 67) (Go.Operand.tmp 73) 30, type := 4, pos := "outright.go:47", after := #[{ on := 7, ground := Go.Ground.data }, { on := 13, ground := Go.Ground.data }, { on := 6, ground := Go.Ground.guard }], guard := some (6, true) }) (v := undef) rfl (by kernel_rfl) (by kernel_rfl) (by kernel_rfl) (fun _ _ _ h => h) (Or.inr ⟨by rfl, rfl⟩) trivial ?_
          simp only [Act.put, List.setIfInBounds_toArray, List.set_cons_zero, List.set_cons_succ]
          refine wpAnyH_take (i := 15) (oi := { dst := some 75, op := Go.Op.pick (Go.Operand.tmp 66) (Go.Operand.tmp 74) (Go.Operand.const (Go.Value.bool false)), type := 4, pos := "outright.go:47", after := #[{ on := 6, ground := Go.Ground.data }, { on := 14, ground := Go.Ground.data }, { on := 4, ground := Go.Ground.guard }], guard := some (4, false) }) (v := ?_) rfl (by kernel_rfl) (by kernel_rfl) (by kernel_rfl) (fun _ _ _ h => h) (Or.inl ⟨by rfl, ?hy16⟩) trivial ?_
          case hy16 =>
            intro u hu
            obtain u0 := hu
            go_simp
            try with_reducible rfl
          simp only [Act.put, List.setIfInBounds_toArray, List.set_cons_zero, List.set_cons_succ]
          refine wpAnyH_take (i := 16) (oi := { dst := some 76, op := Go.Op.pick (Go.Operand.tmp 64) (Go.Operand.const (Go.Value.bool true)) (Go.Operand.tmp 75), type := 4, pos := "outright.go:47", after := #[{ on := 4, ground := Go.Ground.data }, { on := 15, ground := Go.Ground.data }], guard := none }) (v := ?_) rfl (by kernel_rfl) (by kernel_rfl) (by kernel_rfl) (fun _ _ _ h => h) (Or.inl ⟨by rfl, ?hy17⟩) trivial ?_
          case hy17 =>
            intro u hu
            obtain u0 := hu
            go_simp
            try with_reducible rfl
          simp only [Act.put, List.setIfInBounds_toArray, List.set_cons_zero, List.set_cons_succ]
          refine wpAnyH_done (by kernel_rfl) ?_ _
          clear hs0 hlk
          cases L1 with
          | nil =>
            have kp := pop_no HK1.out.hq.hp
            go_wp2_with fail
            (with_reducible refine Calls.mono kp ?_)
            clear kp
            rintro e u1 ⟨rfl, hb1⟩
            have hbx : Below u1.heap.size u1 (u1.alloc (.cells #[.int .i64 0, .int .i64 0] 30)) := (Below.refl _ _).alloc (Nat.le_refl _) _
            have HE := hide ((HK1.out.below hb1).below hbx)
            have hml1 := mlen_zero HE.out.mp
            clear hb1 hbx
            have kp := pop_no HE.out.hq.hp
            go_wp2_with fail
            (with_reducible refine Calls.mono kp ?_)
            clear kp
            rintro e u3 ⟨rfl, hb3⟩
            obtain ⟨u4, HU4⟩ := named (u3.alloc (.cells #[.int .i64 0, .int .i64 0] 30))
            have hb4 : Below u3.heap.size u3 u4 := by rw [HU4.out]; exact (Below.refl _ _).alloc (Nat.le_refl _) _
            have HE4 := hide ((HE.out.below hb3).below hb4)
            have kl := len_zero HE4.out.hq.hp
            have hml := mlen_zero HE4.out.mp
            have ka := KA.out u4
            clear hb3 hb4
            go_wp2_with fail
            rw [← HU4.out]
            (with_reducible refine Calls.mono kl ?_)
            clear kl
            rintro e u5 ⟨rfl, rfl⟩
            go_wp2_with fail
            (with_reducible refine Calls.mono ka ?_)
            clear ka
            rintro e u6 ⟨rfl, hb6⟩
            have HEND := hide (HE4.out.hq.bel.trans (hb6.mono HE4.out.hq.le))
            clear hb6
            go_wp2_with fail
            go_ret
            exact ⟨rfl, HEND.out⟩
          | cons y r1 =>
            have hd1 := del_head HK1.out.hq.hp.srt
            have kp := pop_yes HK1.out.hq.hp
            have hyi := HK1.out.hq.hp.rng y List.mem_cons_self
            have HHD := hide HK1.out.hq.hp.srt.head
            have HAY : Hid (fb = false → Ah x y) := fun h => HA.out h y (HSUB1.out y List.mem_cons_self)
            have HLE2 : Hid (r1.length + (i + 1) ≤ 300) := by
              have := HLE1.out
              simp only [List.length_cons] at this
              show _ ≤ _
              omega
            have HQ5 := hide (fun (w5 : World) k1 k2 => HK1.out.hq.step (w' := w5) (L' := r1) (G := F) k1 k2)
            have HMP := hide (fun (w5 : World) (k2 : Step F _ w5 F) => (HK1.out.mp.step k2 HK1.out.nb).1)
            have HX5 := hide (fun (w5 : World) (k2 : Step F _ w5 F) => (k2.chg.block _ (lt_of HX1.out) HGF.out).trans HX1.out)
            have HNB := hide HK1.out.nb
            have HLO := hide HK1.out.lo
            have HDR := hide (fun (w5 : World) k1 k2 => HK1.out.drop (w1 := w5) y.2 hyi.2 k1 k2)
            rw [hd1] at HDR
            obtain ⟨y0, y1⟩ := y
            go_wp2_with fail
            (with_reducible refine Calls.mono kp ?_)
            clear kp hd1
            rintro e w5 ⟨rfl, k1, k2⟩
            obtain ⟨u6, HU6⟩ := named (w5.alloc (.cells #[.int .i64 y0, .int .i64 y1] 30))
            have hb6 : Below w5.heap.size w5 u6 := by rw [HU6.out]; exact (Below.refl _ _).alloc (Nat.le_refl _) _
            have hy6 := heap_new w5 (.cells #[.int .i64 y0, .int .i64 y1] 30)
            rw [← HU6.out] at hy6
            have hx6 := (hb6.block _ (lt_of (HX5.out w5 k2))).trans (HX5.out w5 k2)
            have hgyg : w5.heap.size ≠ g8 := by have := lt_of (HX5.out w5 k2); omega
            have hgym : w5.heap.size ≠ mb := by have := (HMP.out w5 k2).lt; omega
            have hmp6 := (HMP.out w5 k2).heap (hb6.block _ (HMP.out w5 k2).lt)
            have hml6 := hmp6.len mt65 3
            have hlk6 := hmp6.look_ok mt65 hyi.2
            have hly : LM ((y0, y1) :: r1) y1 = some y0 := by
              have := LM_at HK1.out.hq.hp.srt (x := (y0, y1)) List.mem_cons_self
              exact this
            simp only [hly, Option.isSome_some, Option.getD_some] at hlk6
            have HFIN := hide (show ∀ u, Below u6.heap.size u6 u → ∃ w8, (Builtin.delete_ #[65, 3] 0 #[.map (some mb), .int .i64 y1]).run Try.prog u = .ok (.tuple #[]) w8 ∧ HM w.heap.size w w8 (.pointer (some ⟨hb, 0, none⟩)) 1000 r1 F mb ∧ w8.heap[w5.heap.size]? = some (.cells #[.int .i64 y0, .int .i64 y1] 30 (0, 0)) ∧ w8.heap[g8]? = some (.cells #[.int .i64 x.1, .int .i64 x.2] 30 (0, 0)) from fun u hu => by
              have e1 := (k1.below hb6).below hu
              have e2 := (k2.trans (Step.below hb6)).trans (Step.below hu)
              obtain ⟨w8, hr, hm, hg⟩ := HDR.out u e1 e2
              refine ⟨w8, hr, hm, ?_, ?_⟩
              · rw [hg.block _ (Nat.lt_of_lt_of_le (lt_of hy6) hu.size) (fun e => hgym (Option.some.inj e)), hu.block _ (lt_of hy6)]; exact hy6
              · rw [hg.block _ (Nat.lt_of_lt_of_le (lt_of hx6) hu.size) (fun e => hgm (Option.some.inj e)), hu.block _ (lt_of hx6)]; exact hx6)
            have HSET := hide (show ∀ w8, HM w.heap.size w w8 (.pointer (some ⟨hb, 0, none⟩)) 1000 r1 F mb → w8.heap[g8]? = some (.cells #[.int .i64 x.1, .int .i64 x.2] 30 (0, 0)) → HM w.heap.size w ((w8.setCell ⟨g8, 0, none⟩ (.int .i64 y0)).setCell ⟨g8, 1, none⟩ (.int .i64 y1)) (.pointer (some ⟨hb, 0, none⟩)) 1000 r1 F mb ∧ ((w8.setCell ⟨g8, 0, none⟩ (.int .i64 y0)).setCell ⟨g8, 1, none⟩ (.int .i64 y1)).heap[g8]? = some (.cells #[.int .i64 y0, .int .i64 y1] 30 (0, 0)) from fun w8 q hx => ⟨q.set HGF.out hgm hgl _ _, C2.set hx _ _⟩)
            obtain ⟨N1, HN1⟩ := named ((y0, y1) :: r1).length
            have hN1 : 0 < (N1 : Int) := by rw [HN1.out]; simp only [List.length_cons]; omega
            rw [← HN1.out] at hml6
            have hN1n : 0 < N1 := by omega
            have c60 : u6.cell? ⟨w5.heap.size, 0, none⟩ = some (.int .i64 y0) := by rw [cell_of hy6]; rfl
            have c61 : u6.cell? ⟨w5.heap.size, 1, none⟩ = some (.int .i64 y1) := by rw [cell_of hy6]; rfl
            have cx0 : u6.cell? ⟨g8, 0, none⟩ = some (.int .i64 x.1) := by rw [cell_of hx6]; rfl
            have cx1 : u6.cell? ⟨g8, 1, none⟩ = some (.int .i64 x.2) := by rw [cell_of hx6]; rfl
            have HY6 := hide hy6
            have HX6 := hide hx6
            clear hly hmp6 k1 k2 hb6 hy6 hx6 HQ5 HMP HX5 HDR hyi HK1 HX1 HSUB1 HLE1
            cases fb with
            | true =>
              obtain ⟨w8, hr8, hm8, hy8, hx8⟩ := HFIN.out u6 (Below.refl _ _)
              have HSE := hide (HSET.out w8 hm8 hx8)
              obtain ⟨-, d0, d1, -, -⟩ := C2.of hy8
              obtain ⟨-, f0, f1, f2, f3⟩ := C2.of hx8
              clear hm8 hy8 hx8 HFIN HSET
              go_wp2_with (rw [← HU6.out])
              go_roundw
              case rel => exact ⟨i + 1, r1, (y0, y1), false, by go_num, rfl, HLE2.out, HSE.out.1, HSE.out.2, fun _ => HHD.out⟩
              case measure => simp [intOf]; omega
            | false =>
              have kah := fun u => aheadLaw_any x (y0, y1) u
              rw [decide_eq_true (HAY.out rfl)] at kah
              obtain ⟨xa, xb⟩ := x
              go_wp2_with (rw [← HU6.out])
              (with_reducible refine Calls.mono (kah _) ?_)
              clear kah
              rintro e w7 ⟨rfl, hb7⟩
              obtain ⟨w8, hr8, hm8, hy8, hx8⟩ := HFIN.out w7 hb7
              have HSE := hide (HSET.out w8 hm8 hx8)
              obtain ⟨-, d0, d1, -, -⟩ := C2.of hy8
              obtain ⟨-, f0, f1, f2, f3⟩ := C2.of hx8
              have g70 : w7.cell? ⟨w5.heap.size, 1, none⟩ = some (.int .i64 y1) := by rw [hb7.cell (p := ⟨w5.heap.size, 1, none⟩) (lt_of HY6.out)]; exact c61
              clear hm8 hy8 hx8 HFIN HSET hb7
              go_wp2_with fail
              go_roundw
              case rel => exact ⟨i + 1, r1, (y0, y1), false, by go_num, rfl, HLE2.out, HSE.out.1, HSE.out.2, fun _ => HHD.out⟩
              case measure => simp [intOf]; omega
      · have hdlI : ¬ (i : Int) < (m : Int) := by omega
        obtain ⟨L1, HL1⟩ := named L
        have HK1 := hide HK.out
        rw [← HL1.out] at HK1
        have HX1 := hide HX.out
        have HSUB1 : Hid (∀ y ∈ L1, y ∈ L) := fun y hy => by rw [HL1.out] at hy; exact hy
        have HLE1 : Hid (L1.length + i ≤ 300) := by rw [HL1.out]; exact hli
        clear HK HX
        cases L1 with
        | nil =>
          have kp := pop_no HK1.out.hq.hp
          go_wp2_with fail
          (with_reducible refine Calls.mono kp ?_)
          clear kp
          rintro e u1 ⟨rfl, hb1⟩
          have hbx : Below u1.heap.size u1 (u1.alloc (.cells #[.int .i64 0, .int .i64 0] 30)) := (Below.refl _ _).alloc (Nat.le_refl _) _
          have HE := hide ((HK1.out.below hb1).below hbx)
          have hml1 := mlen_zero HE.out.mp
          clear hb1 hbx
          have kp := pop_no HE.out.hq.hp
          go_wp2_with fail
          (with_reducible refine Calls.mono kp ?_)
          clear kp
          rintro e u3 ⟨rfl, hb3⟩
          obtain ⟨u4, HU4⟩ := named (u3.alloc (.cells #[.int .i64 0, .int .i64 0] 30))
          have hb4 : Below u3.heap.size u3 u4 := by rw [HU4.out]; exact (Below.refl _ _).alloc (Nat.le_refl _) _
          have HE4 := hide ((HE.out.below hb3).below hb4)
          have kl := len_zero HE4.out.hq.hp
          have hml := mlen_zero HE4.out.mp
          have ka := KA.out u4
          clear hb3 hb4
          go_wp2_with fail
          rw [← HU4.out]
          (with_reducible refine Calls.mono kl ?_)
          clear kl
          rintro e u5 ⟨rfl, rfl⟩
          go_wp2_with fail
          (with_reducible refine Calls.mono ka ?_)
          clear ka
          rintro e u6 ⟨rfl, hb6⟩
          have HEND := hide (HE4.out.hq.bel.trans (hb6.mono HE4.out.hq.le))
          clear hb6
          go_wp2_with fail
          go_ret
          exact ⟨rfl, HEND.out⟩
        | cons y r1 =>
          have hd1 := del_head HK1.out.hq.hp.srt
          have kp := pop_yes HK1.out.hq.hp
          have hyi := HK1.out.hq.hp.rng y List.mem_cons_self
          have HHD := hide HK1.out.hq.hp.srt.head
          have HAY : Hid (fb = false → Ah x y) := fun h => HA.out h y (HSUB1.out y List.mem_cons_self)
          have HLE2 : Hid (r1.length + (i + 1) ≤ 300) := by
            have := HLE1.out
            simp only [List.length_cons] at this
            show _ ≤ _
            omega
          have HQ5 := hide (fun (w5 : World) k1 k2 => HK1.out.hq.step (w' := w5) (L' := r1) (G := F) k1 k2)
          have HMP := hide (fun (w5 : World) (k2 : Step F _ w5 F) => (HK1.out.mp.step k2 HK1.out.nb).1)
          have HX5 := hide (fun (w5 : World) (k2 : Step F _ w5 F) => (k2.chg.block _ (lt_of HX1.out) HGF.out).trans HX1.out)
          have HNB := hide HK1.out.nb
          have HLO := hide HK1.out.lo
          have HDR := hide (fun (w5 : World) k1 k2 => HK1.out.drop (w1 := w5) y.2 hyi.2 k1 k2)
          rw [hd1] at HDR
          obtain ⟨y0, y1⟩ := y
          go_wp2_with fail
          (with_reducible refine Calls.mono kp ?_)
          clear kp hd1
          rintro e w5 ⟨rfl, k1, k2⟩
          obtain ⟨u6, HU6⟩ := named (w5.alloc (.cells #[.int .i64 y0, .int .i64 y1] 30))
          have hb6 : Below w5.heap.size w5 u6 := by rw [HU6.out]; exact (Below.refl _ _).alloc (Nat.le_refl _) _
          have hy6 := heap_new w5 (.cells #[.int .i64 y0, .int .i64 y1] 30)
          rw [← HU6.out] at hy6
          have hx6 := (hb6.block _ (lt_of (HX5.out w5 k2))).trans (HX5.out w5 k2)
          have hgyg : w5.heap.size ≠ g8 := by have := lt_of (HX5.out w5 k2); omega
          have hgym : w5.heap.size ≠ mb := by have := (HMP.out w5 k2).lt; omega
          have hmp6 := (HMP.out w5 k2).heap (hb6.block _ (HMP.out w5 k2).lt)
          have hml6 := hmp6.len mt65 3
          have hlk6 := hmp6.look_ok mt65 hyi.2
          have hly : LM ((y0, y1) :: r1) y1 = some y0 := by
            have := LM_at HK1.out.hq.hp.srt (x := (y0, y1)) List.mem_cons_self
            exact this
          simp only [hly, Option.isSome_some, Option.getD_some] at hlk6
          have HFIN := hide (show ∀ u, Below u6.heap.size u6 u → ∃ w8, (Builtin.delete_ #[65, 3] 0 #[.map (some mb), .int .i64 y1]).run Try.prog u = .ok (.tuple #[]) w8 ∧ HM w.heap.size w w8 (.pointer (some ⟨hb, 0, none⟩)) 1000 r1 F mb ∧ w8.heap[w5.heap.size]? = some (.cells #[.int .i64 y0, .int .i64 y1] 30 (0, 0)) ∧ w8.heap[g8]? = some (.cells #[.int .i64 x.1, .int .i64 x.2] 30 (0, 0)) from fun u hu => by
            have e1 := (k1.below hb6).below hu
            have e2 := (k2.trans (Step.below hb6)).trans (Step.below hu)
            obtain ⟨w8, hr, hm, hg⟩ := HDR.out u e1 e2
            refine ⟨w8, hr, hm, ?_, ?_⟩
            · rw [hg.block _ (Nat.lt_of_lt_of_le (lt_of hy6) hu.size) (fun e => hgym (Option.some.inj e)), hu.block _ (lt_of hy6)]; exact hy6
            · rw [hg.block _ (Nat.lt_of_lt_of_le (lt_of hx6) hu.size) (fun e => hgm (Option.some.inj e)), hu.block _ (lt_of hx6)]; exact hx6)
          have HSET := hide (show ∀ w8, HM w.heap.size w w8 (.pointer (some ⟨hb, 0, none⟩)) 1000 r1 F mb → w8.heap[g8]? = some (.cells #[.int .i64 x.1, .int .i64 x.2] 30 (0, 0)) → HM w.heap.size w ((w8.setCell ⟨g8, 0, none⟩ (.int .i64 y0)).setCell ⟨g8, 1, none⟩ (.int .i64 y1)) (.pointer (some ⟨hb, 0, none⟩)) 1000 r1 F mb ∧ ((w8.setCell ⟨g8, 0, none⟩ (.int .i64 y0)).setCell ⟨g8, 1, none⟩ (.int .i64 y1)).heap[g8]? = some (.cells #[.int .i64 y0, .int .i64 y1] 30 (0, 0)) from fun w8 q hx => ⟨q.set HGF.out hgm hgl _ _, C2.set hx _ _⟩)
          obtain ⟨N1, HN1⟩ := named ((y0, y1) :: r1).length
          have hN1 : 0 < (N1 : Int) := by rw [HN1.out]; simp only [List.length_cons]; omega
          rw [← HN1.out] at hml6
          have hN1n : 0 < N1 := by omega
          have c60 : u6.cell? ⟨w5.heap.size, 0, none⟩ = some (.int .i64 y0) := by rw [cell_of hy6]; rfl
          have c61 : u6.cell? ⟨w5.heap.size, 1, none⟩ = some (.int .i64 y1) := by rw [cell_of hy6]; rfl
          have cx0 : u6.cell? ⟨g8, 0, none⟩ = some (.int .i64 x.1) := by rw [cell_of hx6]; rfl
          have cx1 : u6.cell? ⟨g8, 1, none⟩ = some (.int .i64 x.2) := by rw [cell_of hx6]; rfl
          have HY6 := hide hy6
          have HX6 := hide hx6
          clear hly hmp6 k1 k2 hb6 hy6 hx6 HQ5 HMP HX5 HDR hyi HK1 HX1 HSUB1 HLE1
          cases fb with
          | true =>
            obtain ⟨w8, hr8, hm8, hy8, hx8⟩ := HFIN.out u6 (Below.refl _ _)
            have HSE := hide (HSET.out w8 hm8 hx8)
            obtain ⟨-, d0, d1, -, -⟩ := C2.of hy8
            obtain ⟨-, f0, f1, f2, f3⟩ := C2.of hx8
            clear hm8 hy8 hx8 HFIN HSET
            go_wp2_with (rw [← HU6.out])
            go_roundw
            case rel => exact ⟨i + 1, r1, (y0, y1), false, by go_num, rfl, HLE2.out, HSE.out.1, HSE.out.2, fun _ => HHD.out⟩
            case measure => simp [intOf]; omega
          | false =>
            have kah := fun u => aheadLaw_any x (y0, y1) u
            rw [decide_eq_true (HAY.out rfl)] at kah
            obtain ⟨xa, xb⟩ := x
            go_wp2_with (rw [← HU6.out])
            (with_reducible refine Calls.mono (kah _) ?_)
            clear kah
            rintro e w7 ⟨rfl, hb7⟩
            obtain ⟨w8, hr8, hm8, hy8, hx8⟩ := HFIN.out w7 hb7
            have HSE := hide (HSET.out w8 hm8 hx8)
            obtain ⟨-, d0, d1, -, -⟩ := C2.of hy8
            obtain ⟨-, f0, f1, f2, f3⟩ := C2.of hx8
            have g70 : w7.cell? ⟨w5.heap.size, 1, none⟩ = some (.int .i64 y1) := by rw [hb7.cell (p := ⟨w5.heap.size, 1, none⟩) (lt_of HY6.out)]; exact c61
            clear hm8 hy8 hx8 HFIN HSET hb7
            go_wp2_with fail
            go_roundw
            case rel => exact ⟨i + 1, r1, (y0, y1), false, by go_num, rfl, HLE2.out, HSE.out.1, HSE.out.2, fun _ => HHD.out⟩
            case measure => simp [intOf]; omega
end Go.Proofs.Ytemlanalaihkoaa
