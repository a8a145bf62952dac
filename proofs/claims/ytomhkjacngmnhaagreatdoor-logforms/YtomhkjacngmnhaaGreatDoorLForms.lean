/-
  LogForms' walk. Own work.
-/
import Derived.Test.YtomhkjacngmnhaaGreatDoorHa
import Derived.Test.YtomhkjacngmnhaaGreatDoorHb
import Derived.Test.YtomhkjacngmnhaaGreatDoorGr
import Derived.Test.YtomhkjacngmnhaaGreatDoorQw
import Derived.Deep.Cut
import Derived.Deep.CutRange
import Derived.Deep.RegionHeld3
namespace Go.Proofs.YtomhkjacngmnhaaGreatDoor
open Go.RowKit

theorem U_head (n : Int) (h : 1 ≤ n) : ∃ c r, U n = c :: r ∧ c ≠ 0 := by
  unfold U sev
  by_cases h2 : n.toNat < 128
  · rw [if_pos h2]
    refine ⟨_, [], rfl, fun e => ?_⟩
    have := congrArg UInt8.toNat e
    rw [UInt8.toNat_ofNat'] at this
    simp at this
    omega
  · rw [if_neg h2]
    refine ⟨_, _, rfl, fun e => ?_⟩
    have := congrArg UInt8.toNat e
    rw [UInt8.toNat_ofNat'] at this
    simp at this
    omega
theorem bat_head (n : Int) (ps : List (List UInt8)) (h : 1 ≤ n) : ∃ c r, batL n ps = c :: r ∧ c ≠ 0 := by
  obtain ⟨c, r, h1, h2⟩ := U_head n h
  exact ⟨c, _, by unfold batL; rw [h1]; rfl, h2⟩

theorem Rd.head {w : World} {ao : Option Addr} {n c : Nat} {x : UInt8} {r : List UInt8} (h : Rd w (.slice ao n c) (x :: r)) : ∃ b off, ao = some ⟨b, off, none⟩ ∧ n = r.length + 1 ∧ b < w.heap.size ∧ w.cell? ⟨b, off, none⟩ = some (.int .u8 (x.toNat : Int)) := by
  obtain ⟨ao', c', e, h1, h2, h3, h4⟩ := h
  cases e
  cases ao with
  | none => have := h3 rfl; simp at h1; omega
  | some a =>
    obtain ⟨b, off, sp⟩ := a
    have h0 := h4 _ rfl 0 (by simp)
    have hsp : sp = none := by
      cases sp with
      | none => rfl
      | some y =>
        simp [Addr.add, World.cell?] at h0
        split at h0 <;> simp at h0
    subst hsp
    have e0 : (⟨b, off, none⟩ : Addr).add 0 = ⟨b, off, none⟩ := by simp [Addr.add]
    rw [e0] at h0
    exact ⟨b, off, rfl, rfl, World.block_lt_of_cell? w _ h0, by simpa using h0⟩
theorem RdB.one {w : World} {g : Nat} {n : Int} {v : Value} {ps : List (Value × List UInt8)} {t : TypeId} {x : Nat × Nat} (hg : w.heap[g]? = some (.cells #[.int .i64 n, v] t x)) (hv : RdL w v ps) : RdB w (.slice (some ⟨g, 0, none⟩) 1 1) [⟨n, v, ps⟩] := by
  refine ⟨some ⟨g, 0, none⟩, 1, rfl, Nat.le_refl _, by simp [maxLen], fun k hk => ?_, fun k hk => ?_⟩
  · obtain rfl : k = 0 := by simpa using hk
    exact hv
  · obtain rfl : k = 0 := by simpa using hk
    exact ⟨g, 0, rfl, (Array.getElem?_eq_some_iff.1 hg).1, by rw [cell_of hg]; rfl, by rw [cell_of hg]; rfl⟩
theorem rec_le (n : Int) (ps : List (List UInt8)) (b : List UInt8) (h : b ∈ ps) : b.length ≤ (batL n ps).length := by
  have h1 : b.length ≤ ((ps.map recL).flatten).length := by
    induction ps with
    | nil => cases h
    | cons p ps ih =>
      rw [List.map_cons, List.flatten_cons, List.length_append]
      rcases List.mem_cons.1 h with rfl | h
      · unfold recL
        rw [List.length_append]
        omega
      · have := ih h
        omega
  unfold batL
  rw [List.length_append, List.length_append]
  omega
theorem bytesL_bat (n : Int) (ps : List (List UInt8)) (b : List UInt8) (h : bytesL n ps = (b, 0)) : batL n ps = b := by
  unfold bytesL at h
  split at h
  · split at h
    · simp at h
    · simp at h
      exact h
  · simp at h
theorem small_each {ps : List (Value × List UInt8)} (h : smallB (ps.map Prod.snd) = true) : ∀ i (h : i < ps.length), ps[i].2.length ≤ 281474976700000 := by
  intro i hi
  unfold smallB at h
  simp only [Bool.and_eq_true, List.all_eq_true, decide_eq_true_eq] at h
  have := h.2 ps[i].2 (List.mem_map.2 ⟨ps[i], List.getElem_mem hi, rfl⟩)
  omega
theorem forms_bytes (n : Int) (qs : List (List UInt8)) (h : smallB qs = true) :
    (isNum n = true ∧ isCnt qs.length = true ∧ bytesL n qs = (batL n qs, 0) ∧ (batL n qs).length ≤ 1048576 ∧ ∀ b ∈ qs, b.length ≤ 1000000) ∨ bytesL n qs = ([], 2) := by
  by_cases hn : isNum n = true
  · by_cases hc : isCnt qs.length = true
    · left
      have hn' : 1 ≤ n ∧ n ≤ 1152921504606846976 := by simpa [isNum] using hn
      have hne : qs ≠ [] := by
        rintro rfl
        simp [isCnt] at hc
      obtain ⟨-, h1, h2⟩ := bytes_small n qs hn' h hne
      refine ⟨hn, hc, h1, by omega, fun b hb => ?_⟩
      unfold smallB at h
      simp only [Bool.and_eq_true, List.all_eq_true, decide_eq_true_eq] at h
      have := h.2 b hb
      omega
    · right
      unfold bytesL
      rw [if_neg (fun h => hc h.2)]
  · right
    unfold bytesL
    rw [if_neg (fun h => hn h.1)]

set_option maxRecDepth 100000 in
set_option maxHeartbeats 1600000 in
theorem forms_walk (w : World) (hw : Laid w) (h6 : 6 ≤ w.heap.size) (na nb : Int) (va vb vc : Value) (pa pb : List (Value × List UInt8)) (bd : List UInt8) (first : Int) (ha : RdL w va pa) (hb : RdL w vb pb) (hc : Rd w vc bd) :
    Calls Tryz.prog 11 #[.agg #[.int .i64 na, va], .agg #[.int .i64 nb, vb], vc, .int .i64 first] w fun e w' => e = .returned (.bool true) ∧ Below w.heap.size w w' := by
  obtain ⟨ao, ac, hv1, ha1, ha2, -⟩ := id ha.1
  obtain ⟨bo, bc, hv2, hb1, hb2, -⟩ := id hb.1
  obtain ⟨co, cc, hv3, hc1, hc2, -⟩ := id hc
  rw [List.length_map] at hv1 hv2 ha1 hb1
  obtain ⟨la, HLA⟩ := named pa.length
  obtain ⟨lb, HLB⟩ := named pb.length
  obtain ⟨lc, HLC⟩ := named bd.length
  rw [← HLA.out] at hv1 ha1
  rw [← HLB.out] at hv2 hb1
  rw [← HLC.out] at hv3 hc1
  subst hv1 hv2 hv3
  have HA : Hid _ := ha
  have HB : Hid _ := hb
  have HC : Hid _ := hc
  unfold maxLen at ha2 hb2 hc2
  clear ha hb hc
  go_enter Tryz.func11, Tryz.ntmps11
  obtain ⟨W, HW⟩ := named ((w.alloc (Obj.cells #[Value.int IntKind.i64 na, Value.slice ao la ac] 43)).alloc (Obj.cells #[Value.int IntKind.i64 nb, Value.slice bo lb bc] 43))
  obtain ⟨n1, n2, n3, n4⟩ := two_new w (Obj.cells #[Value.int IntKind.i64 na, Value.slice ao la ac] 43) (Obj.cells #[Value.int IntKind.i64 nb, Value.slice bo lb bc] 43)
  rw [← HW.out] at n1 n2 n3 n4
  have HBW : Hid _ := n3
  have HC0 : Hid (∀ w1, Below W.heap.size W w1 → w1.cell? ⟨w.heap.size, 0, none⟩ = some (.int .i64 na) ∧ w1.cell? ⟨w.heap.size, 1, none⟩ = some (.slice ao la ac) ∧ w1.cell? ⟨w.heap.size + 1, 0, none⟩ = some (.int .i64 nb) ∧ w1.cell? ⟨w.heap.size + 1, 1, none⟩ = some (.slice bo lb bc)) := by
    intro w1 hb1
    have l0 : w.heap.size < W.heap.size := by omega
    have l1 : w.heap.size + 1 < W.heap.size := by omega
    exact ⟨(hb1.cell (p := ⟨w.heap.size, 0, none⟩) l0).trans (by rw [cell_of n1]; rfl), (hb1.cell (p := ⟨w.heap.size, 1, none⟩) l0).trans (by rw [cell_of n1]; rfl), (hb1.cell (p := ⟨w.heap.size + 1, 0, none⟩) l1).trans (by rw [cell_of n2]; rfl), (hb1.cell (p := ⟨w.heap.size + 1, 1, none⟩) l1).trans (by rw [cell_of n2]; rfl)⟩
  have HR : Hid (∀ w1, Below W.heap.size W w1 → RdL w1 (.slice ao la ac) pa ∧ RdL w1 (.slice bo lb bc) pb ∧ Rd w1 (.slice co lc cc) bd ∧ Laid w1) := by
    intro w1 hb1
    have := below_call HBW.out hb1
    exact ⟨RdL.below HA.out this, RdL.below HB.out this, Rd.below HC.out this, hw.below this⟩
  have HAW : Hid (∀ w1, Below W.heap.size W w1 → Calls Tryz.prog 28 #[] w1 fun e w' => e = .returned (.bool true) ∧ Below w.heap.size w w') := by
    intro w1 hb1
    have hb2 := below_call HBW.out hb1
    refine (awake_true w1 (hw.below hb2) (by have := hb2.size; omega)).mono ?_
    rintro e w' ⟨rfl, hb3⟩
    exact ⟨rfl, below_call hb2 hb3⟩
  obtain ⟨hW0, hW1, hW2, hW3⟩ := HC0.out W (Below.refl _ _)
  obtain ⟨r1, r2, -, -⟩ := HR.out W (Below.refl _ _)
  have HS1 : Hid _ := small_any _ _ W r1
  have HS2 : Hid _ := small_any _ _ W r2
  clear r1 r2 n1 n2 n3
  go_wp2_with fail
  rw [← HW.out]
  cases hsa : smallB (pa.map Prod.snd) with
  | false =>
    refine Calls.mono HS1.out ?_
    rintro e w1 ⟨rfl, hw1⟩
    rw [hw1, hsa]
    clear hw1
    go_wp2_with fail
    refine Calls.mono (HAW.out _ (Below.refl _ _)) ?_
    rintro e w2 ⟨rfl, hb2⟩
    go_wp2_with fail
    go_ret
    exact ⟨rfl, hb2⟩
  | true =>
  refine Calls.mono HS1.out ?_
  rintro e w1 ⟨rfl, hw1⟩
  rw [hw1, hsa]
  clear hw1
  go_wp2_with fail
  cases hsb : smallB (pb.map Prod.snd) with
  | false =>
    refine Calls.mono HS2.out ?_
    rintro e w1 ⟨rfl, hw1⟩
    rw [hw1, hsb]
    clear hw1
    go_wp2_with fail
    refine Calls.mono (HAW.out _ (Below.refl _ _)) ?_
    rintro e w2 ⟨rfl, hb2⟩
    go_wp2_with fail
    go_ret
    exact ⟨rfl, hb2⟩
  | true =>
  refine Calls.mono HS2.out ?_
  rintro e w1 ⟨rfl, hw1⟩
  rw [hw1, hsb]
  clear hw1
  by_cases hbig : 1000 < lc
  · have hbig' : (1000 : Int) < lc := by omega
    go_wp2_with fail
    refine Calls.mono (HAW.out _ (Below.refl _ _)) ?_
    rintro e w2 ⟨rfl, hb2⟩
    go_wp2_with fail
    go_ret
    exact ⟨rfl, hb2⟩
  have hbig' : ¬ (1000 : Int) < lc := by omega
  have HX : Hid _ := forms_bytes na _ hsa
  have HY : Hid _ := forms_bytes nb _ hsb
  have HSA : Hid (∀ i (h : i < pa.length), pa[i].2.length ≤ 281474976700000) := small_each hsa
  have HSB : Hid (∀ i (h : i < pb.length), pb[i].2.length ≤ 281474976700000) := small_each hsb
  clear hsa hsb
  have HBA : Hid _ := bytes_any na _ _ W (HR.out W (Below.refl _ _)).1 HSA.out
  have HBB : Hid (∀ w1, Below W.heap.size W w1 → _) := fun w1 hb1 => bytes_any nb _ _ w1 (HR.out w1 hb1).2.1 HSB.out
  obtain ⟨X, HXN⟩ := named (bytesL na (pa.map Prod.snd))
  obtain ⟨Y, HYN⟩ := named (bytesL nb (pb.map Prod.snd))
  rw [← HXN.out] at HX HBA
  rw [← HYN.out] at HY HBB
  go_wp2_with fail
  refine Calls.mono HBA.out ?_
  rintro e w1 ⟨xv, rfl, ox, hb1⟩
  have HB1 : Hid _ := hb1
  have HOX : Hid _ := ox
  obtain ⟨xa, xc, hxv, -⟩ := id ox.rd
  obtain ⟨xl, HXL⟩ := named X.1.length
  obtain ⟨xe, HXE⟩ := named X.2
  rw [← HXL.out] at hxv
  rw [← HXE.out]
  subst hxv
  obtain ⟨hd0, hd1, hd2, hd3⟩ := HC0.out _ hb1
  clear ox hb1
  go_wp2_with fail
  refine Calls.mono (HBB.out _ HB1.out) ?_
  rintro e w2 ⟨yv, rfl, oy, hb2⟩
  have HB2 : Hid _ := below_call HB1.out hb2
  have HOX2 : Hid _ := Own.below HOX.out hb2
  have HOY : Hid _ := oy
  obtain ⟨ya, yc, hyv, -⟩ := id oy.rd
  obtain ⟨yl, HYL⟩ := named Y.1.length
  obtain ⟨ye, HYE⟩ := named Y.2
  rw [← HYL.out] at hyv
  rw [← HYE.out]
  subst hyv
  obtain ⟨he0, he1, he2, he3⟩ := HC0.out _ HB2.out
  clear oy hb2 hd0 hd1 hd2 hd3 HB1 HOX
  go_upto_region 5 with fail
  go_cut [72] from 45 to 72 (fun c wx => c = .bool false ∧ Hid (Below W.heap.size W wx))
  case first =>
    rcases HX.out with ⟨x1, x2, x3, x4, x5⟩ | x3
    · have hxe : ((xe : Int) == 0) = true := by rw [HXE.out, x3]; rfl
      rcases HY.out with ⟨y1, y2, y3, y4, y5⟩ | y3
      · have hye : ((ye : Int) == 0) = true := by rw [HYE.out, y3]; rfl
        have hna1 : 1 ≤ na ∧ na ≤ 1152921504606846976 := by simpa [isNum] using x1
        obtain ⟨c0, r0, hh, hcne⟩ := bat_head na (pa.map Prod.snd) hna1.1
        have hox := (show Own w2 W.heap.size (.slice xa xl xc) X.1 from HOX2.out).rd
        have hoy := (show Own w2 w1.heap.size (.slice ya yl yc) Y.1 from HOY.out).rd
        have HSB : Hid (∀ w', Below w2.heap.size w2 w' → Calls Tryz.prog 44 #[.slice xa xl xc, .slice ya yl yc] w' fun e w'' => e = .returned (.bool (decide (X.1 = Y.1))) ∧ w'' = w') := fun w' hb => same_any _ _ _ _ w' (hox.below hb) (hoy.below hb)
        have hx1 : X.1 = c0 :: r0 := by rw [x3]; exact hh
        have hox' := hox
        rw [hx1] at hox'
        obtain ⟨xb, xo, hxa, hxl, hxlt, hxc⟩ := hox'.head
        have hcn : ¬ ((c0.toNat : Int) = 0) := fun e => hcne (UInt8.toNat_inj.1 (by simpa using e))
        have hcn' : ((c0.toNat : Int) == 0) = false := by simp only [beq_eq_false_iff_ne]; exact hcn
        have hxp : 0 < xl := by omega
        have hxp' : (0 : Int) < xl := by omega
        have hln : ((xl : Int) == 0) = false := by simp only [beq_eq_false_iff_ne]; omega
        have HEQ : Hid (decide (X.1 = Y.1) = decide ([(⟨na, .slice ao la ac, pa⟩ : Bt)].map Bt.key = [(⟨nb, .slice bo lb bc, pb⟩ : Bt)].map Bt.key)) := by
          show _ = _
          rw [x3, y3]
          refine decide_eq_decide.2 ⟨fun h => ?_, fun h => ?_⟩
          · have := bat_inj na nb _ _ x1 (by simpa using x2) x4 x5 y1 (by simpa using y2) y4 y5 h
            simp [Bt.key, this.1, this.2]
          · simp only [List.map_cons, List.map_nil, List.cons.injEq, and_true, Bt.key, Prod.mk.injEq] at h
            show batL na _ = batL nb _
            rw [h.1, h.2]
        obtain ⟨T, HT⟩ := named (decide (X.1 = Y.1))
        rw [← HT.out] at HSB HEQ
        have HSS : Hid (∀ (w' : World) (g h : Nat) (x y : Nat × Nat), w'.heap[g]? = some (.cells #[.int .i64 na, .slice ao la ac] 43 x) → w'.heap[h]? = some (.cells #[.int .i64 nb, .slice bo lb bc] 43 y) → Below w2.heap.size w2 w' → Calls Tryz.prog 45 #[.slice (some ⟨g, 0, none⟩) 1 1, .slice (some ⟨h, 0, none⟩) 1 1] w' fun e w'' => e = .returned (.bool T) ∧ Below w2.heap.size w2 w'') := by
          intro w' g h x y hg hh2 hb
          have hr := HR.out w' (below_call HB2.out hb)
          refine (sameBatches_any _ _ _ _ 1 1 w' (RdB.one hg hr.1) (RdB.one hh2 hr.2.1) rfl rfl).mono ?_
          rintro e w'' ⟨rfl, hb2⟩
          exact ⟨by rw [HEQ.out], below_call hb hb2⟩
        have HS : Hid (∀ w' : World, Below w2.heap.size w2 w' → w'.cell? ⟨w.heap.size, 0, none⟩ = some (.int .i64 na) ∧ w'.cell? ⟨w.heap.size, 1, none⟩ = some (.slice ao la ac) ∧ w'.cell? ⟨w.heap.size + 1, 0, none⟩ = some (.int .i64 nb) ∧ w'.cell? ⟨w.heap.size + 1, 1, none⟩ = some (.slice bo lb bc) ∧ w'.cell? ⟨xb, xo, none⟩ = some (.int .u8 (c0.toNat : Int))) := by
          intro w' hb
          obtain ⟨q0, q1, q2, q3⟩ := HC0.out w' (below_call HB2.out hb)
          exact ⟨q0, q1, q2, q3, (hb.cell (p := ⟨xb, xo, none⟩) hxlt).trans hxc⟩
        obtain ⟨t1, t2, t3, -⟩ := two_new w2 (Obj.cells #[Value.int IntKind.i64 na, Value.slice ao la ac] 43) (Obj.cells #[Value.int IntKind.i64 nb, Value.slice bo lb bc] 43)
        obtain ⟨t4, t5, t6, -⟩ := two_new w2 (Obj.cells #[Value.int IntKind.i64 nb, Value.slice bo lb bc] 43) (Obj.cells #[Value.int IntKind.i64 na, Value.slice ao la ac] 43)
        have HSa : Hid (Calls Tryz.prog 45 #[.slice (some ⟨w2.heap.size, 0, none⟩) 1 1, .slice (some ⟨w2.heap.size + 1, 0, none⟩) 1 1] ((w2.alloc (Obj.cells #[Value.int IntKind.i64 na, Value.slice ao la ac] 43)).alloc (Obj.cells #[Value.int IntKind.i64 nb, Value.slice bo lb bc] 43)).drew fun e w'' => e = .returned (.bool T) ∧ Below w2.heap.size w2 w'') := HSS.out ((w2.alloc (Obj.cells #[Value.int IntKind.i64 na, Value.slice ao la ac] 43)).alloc (Obj.cells #[Value.int IntKind.i64 nb, Value.slice bo lb bc] 43)).drew w2.heap.size (w2.heap.size + 1) (0, 0) (0, 0) t1 t2 t3.drew
        have HSb : Hid (Calls Tryz.prog 45 #[.slice (some ⟨w2.heap.size + 1, 0, none⟩) 1 1, .slice (some ⟨w2.heap.size, 0, none⟩) 1 1] ((w2.alloc (Obj.cells #[Value.int IntKind.i64 nb, Value.slice bo lb bc] 43)).alloc (Obj.cells #[Value.int IntKind.i64 na, Value.slice ao la ac] 43)).drew fun e w'' => e = .returned (.bool T) ∧ Below w2.heap.size w2 w'') := HSS.out ((w2.alloc (Obj.cells #[Value.int IntKind.i64 nb, Value.slice bo lb bc] 43)).alloc (Obj.cells #[Value.int IntKind.i64 na, Value.slice ao la ac] 43)).drew (w2.heap.size + 1) w2.heap.size (0, 0) (0, 0) t5 t4 t6.drew
        clear t1 t2 t3 t4 t5 t6 HSS
        subst hxa
        have H44 : Hid _ := HSB.out
        have hTT : (T != T) = false := by cases T <;> rfl
        have hTT' : (T == T) = true := by cases T <;> rfl
        have HXLT : Hid _ := hxlt
        clear hxl hxlt hxc hna1 HSB HEQ
        clear x1 x2 x3 x4 x5 y1 y2 y3 y4 y5 hh hcne hox hoy hx1 hox' he0 he1 he2 he3 hW0 hW1 hW2 hW3
        go_region_held3 (fun w' => w'.cell? ⟨w.heap.size, 0, none⟩ = some (.int .i64 na) ∧ w'.cell? ⟨w.heap.size, 1, none⟩ = some (.slice ao la ac) ∧ w'.cell? ⟨w.heap.size + 1, 0, none⟩ = some (.int .i64 nb) ∧ w'.cell? ⟨w.heap.size + 1, 1, none⟩ = some (.slice bo lb bc) ∧ w'.cell? ⟨xb, xo, none⟩ = some (.int .u8 (c0.toNat : Int))) (exact HS.out _ (by first | assumption | go_grown))
          (first | (go_at_call 44; refine Calls.mono (H44.out _ ?_) ?_; go_grown; rintro e w5 ⟨rfl, rfl⟩) | (go_at_call 45; first | ((with_reducible refine Calls.mono HSa.out ?_); rintro e w6 ⟨rfl, hb6⟩) | ((with_reducible refine Calls.mono HSb.out ?_); rintro e w6 ⟨rfl, hb6⟩)))
        all_goals
          go_wp2_with fail
          go_meet
          exact ⟨rfl, below_call HB2.out hb6⟩
      · have hye : ((ye : Int) == 0) = false := by rw [HYE.out, y3]; rfl
        go_quiet (fail)
        go_wp2_with fail
        go_meet
        refine ⟨rfl, ?_⟩
        exact below_call HB2.out (below_drewN _ _ _)
    · have hxe : ((xe : Int) == 0) = false := by rw [HXE.out, x3]; rfl
      go_quiet (fail)
      go_wp2_with fail
      go_meet
      refine ⟨rfl, ?_⟩
      exact below_call HB2.out (below_drewN _ _ _)
  case rest =>
    obtain ⟨rfl, HB3⟩ := hcut
    obtain ⟨w3, HW3⟩ : ∃ w3, w3 = wc := ⟨_, rfl⟩
    subst HW3
    have HP : Hid (Calls Tryz.prog 42 #[.slice co lc cc] w3 fun e w' => ∃ rv, ∃ ps : List (Value × List UInt8), e = .returned (.tuple #[.agg #[.int .i64 (parseL bd).1, rv], .int .i64 (parseL bd).2.2]) ∧ OwnV w' w3.heap.size 37 rv (ps.map Prod.fst) ∧ (∀ i (h : i < ps.length), Own w' w3.heap.size ps[i].1 ps[i].2) ∧ ps.map Prod.snd = (parseL bd).2.1 ∧ Below w3.heap.size w3 w') := parse_any _ _ w3 (HR.out w3 HB3.out).2.2.1 (by rw [← HLC.out]; omega)
    obtain ⟨pn, HPN⟩ := named (parseL bd).1
    obtain ⟨pe, HPE⟩ := named (parseL bd).2.2
    rw [← HPN.out, ← HPE.out] at HP
    have HF : Hid (∀ w1, Below W.heap.size W w1 → Calls Tryz.prog 49 #[.int .i64 first] w1 fun e w' => e = .returned (.string (nameB first)) ∧ Below W.heap.size W w') := by
      intro w1 hb1
      refine (name_any first w1 (HR.out w1 hb1).2.2.2).mono ?_
      rintro e w' ⟨rfl, hb2⟩
      exact ⟨rfl, below_call hb1 hb2⟩
    have HF2 : Hid (∀ w1, Below W.heap.size W w1 → Calls Tryz.prog 46 #[.string (nameB first)] w1 fun e w' => e = .returned (.tuple #[.int .i64 (firstB (nameB first)).1, .bool (firstB (nameB first)).2]) ∧ Below W.heap.size W w') := by
      intro w1 hb1
      refine (first_any _ (by have := nameB_size first; omega) w1 (HR.out w1 hb1).2.2.2).mono ?_
      rintro e w' ⟨rfl, hb2⟩
      exact ⟨rfl, below_call hb1 hb2⟩
    go_wp2_with fail
    refine Calls.mono HP.out ?_
    rintro e w4 ⟨rv, ps, rfl, ho, hoo, hps, hb4⟩
    have HB4 : Hid _ := below_call HB3.out hb4
    have HRL : Hid (RdL w4 rv ps) := ⟨OwnV.rd ho, fun i hi => (hoo i hi).rd⟩
    have HPS : Hid _ := hps
    obtain ⟨ra, rc, hrv, -⟩ := id (OwnV.rd ho)
    rw [List.length_map] at hrv
    obtain ⟨rl, HRLN⟩ := named ps.length
    rw [← HRLN.out] at hrv
    subst hrv
    clear ho hoo hps hb4
    by_cases hpe : pe = 0
    · have HPI : Hid (bytesL pn (ps.map Prod.snd) = (bd, 0)) := by
        show _ = _
        rw [HPS.out, HPN.out]
        exact parse_inv bd (by rw [← HPE.out]; exact hpe)
      have HPC : Hid (∀ i (h : i < ps.length), ps[i].2.length ≤ 281474976700000) := by
        intro i hi
        have h1 := rec_le pn (ps.map Prod.snd) ps[i].2 (List.mem_map.2 ⟨ps[i], List.getElem_mem hi, rfl⟩)
        have h2 := bytesL_bat pn (ps.map Prod.snd) bd HPI.out
        rw [h2, ← HLC.out] at h1
        omega
      have HBP : Hid (∀ w5, Below w4.heap.size w4 w5 → Calls Tryz.prog 16 #[.agg #[.int .i64 pn, .slice ra rl rc]] w5 fun e w' => ∃ vb, e = .returned (.tuple #[vb, .int .i64 0]) ∧ Own w' w5.heap.size vb bd ∧ Below w5.heap.size w5 w') := by
        intro w5 hb5
        have := bytes_any pn _ ps w5 (RdL.below HRL.out hb5) HPC.out
        rw [HPI.out] at this
        exact this
      subst hpe
      go_wp2_with fail
      refine Calls.mono (HBP.out _ ?_) ?_
      · first | exact Below.refl _ _ | go_grown
      rintro e w5 ⟨zv, rfl, oz, hb5⟩
      have HB5 : Hid (Below W.heap.size W w5) := below_call HB4.out (by first | exact hb5 | exact Below.trans (by go_grown) (hb5.mono (by simp)))
      obtain ⟨za, zc, hzv, -⟩ := id oz.rd
      rw [← HLC.out] at hzv
      subst hzv
      have hzr := same_any _ _ _ _ w5 oz.rd (HR.out w5 HB5.out).2.2.1
      rw [decide_eq_true rfl] at hzr
      have HZR : Hid (Calls Tryz.prog 44 #[.slice za lc zc, .slice co lc cc] w5 fun e w' => e = .returned (.bool true) ∧ w' = w5) := hzr
      clear hzr oz hb5
      go_wp2_with fail
      refine Calls.mono HZR.out ?_
      rintro e w6 ⟨rfl, hw6⟩
      rw [hw6]
      clear hw6
      have HBZ : Hid (Below W.heap.size W w5) := HB5.out
      cases hnum : isNum first with
      | true =>
        have hfb : 1 ≤ first ∧ first ≤ 1152921504606846976 := by simpa [isNum] using hnum
        obtain ⟨hf1, hf2⟩ := hfb
        have HFE : Hid (firstB (nameB first) = (first, true)) := by show _ = _; rw [first_name, if_pos hnum]
        clear hnum
        go_wp2_with fail
        refine Calls.mono (HF.out _ (by first | exact HBZ.out | exact HBZ.out.alloc HBZ.out.size _)) ?_
        rintro e w7 ⟨rfl, hb7⟩
        have HB7 : Hid _ := hb7
        clear hb7
        go_wp2_with fail
        refine Calls.mono (HF2.out _ HB7.out) ?_
        rintro e w8 ⟨rfl, hb8⟩
        have HB8 : Hid _ := hb8
        clear hb8
        rw [HFE.out]
        go_wp2_with fail
        refine Calls.mono (HAW.out _ HB8.out) ?_
        rintro e w9 ⟨rfl, hb9⟩
        go_wp2_with fail
        go_ret
        exact ⟨rfl, hb9⟩
      | false =>
        have HFE : Hid (firstB (nameB first) = (0, false)) := by show _ = _; rw [first_name, if_neg (by rw [hnum]; simp)]
        by_cases hf1 : 1 ≤ first
        · have hf2 : ¬ first ≤ 1152921504606846976 := by
            intro h
            simp [isNum, hf1, h] at hnum
          have HQ : Hid ((!decide (first ≤ 1152921504606846976)) = true) := by show _ = _; simp [hf2]
          clear hnum
          go_wp2_with fail
          refine Calls.mono (HF.out _ (by first | exact HBZ.out | exact HBZ.out.alloc HBZ.out.size _)) ?_
          rintro e w7 ⟨rfl, hb7⟩
          have HB7 : Hid _ := hb7
          clear hb7
          go_wp2_with fail
          refine Calls.mono (HF2.out _ HB7.out) ?_
          rintro e w8 ⟨rfl, hb8⟩
          have HB8 : Hid _ := hb8
          clear hb8
          rw [HFE.out]
          go_wp2_with fail
          refine Calls.mono (HAW.out _ HB8.out) ?_
          rintro e w9 ⟨rfl, hb9⟩
          go_wp2_with fail
          go_ret
          exact ⟨congrArg (fun b => Ending.returned (Value.bool b)) HQ.out, hb9⟩
        · clear hnum
          go_wp2_with fail
          refine Calls.mono (HF.out _ (by first | exact HBZ.out | exact HBZ.out.alloc HBZ.out.size _)) ?_
          rintro e w7 ⟨rfl, hb7⟩
          have HB7 : Hid _ := hb7
          clear hb7
          go_wp2_with fail
          refine Calls.mono (HF2.out _ HB7.out) ?_
          rintro e w8 ⟨rfl, hb8⟩
          have HB8 : Hid _ := hb8
          clear hb8
          rw [HFE.out]
          go_wp2_with fail
          refine Calls.mono (HAW.out _ HB8.out) ?_
          rintro e w9 ⟨rfl, hb9⟩
          go_wp2_with fail
          go_ret
          exact ⟨rfl, hb9⟩
    · have hpe' : ((pe : Int) == 0) = false := by simp only [beq_eq_false_iff_ne]; omega
      have HBZ : Hid (Below W.heap.size W w4) := HB4.out
      cases hnum : isNum first with
      | true =>
        have hfb : 1 ≤ first ∧ first ≤ 1152921504606846976 := by simpa [isNum] using hnum
        obtain ⟨hf1, hf2⟩ := hfb
        have HFE : Hid (firstB (nameB first) = (first, true)) := by show _ = _; rw [first_name, if_pos hnum]
        clear hnum
        go_wp2_with fail
        refine Calls.mono (HF.out _ (by first | exact HBZ.out | exact HBZ.out.alloc HBZ.out.size _)) ?_
        rintro e w7 ⟨rfl, hb7⟩
        have HB7 : Hid _ := hb7
        clear hb7
        go_wp2_with fail
        refine Calls.mono (HF2.out _ HB7.out) ?_
        rintro e w8 ⟨rfl, hb8⟩
        have HB8 : Hid _ := hb8
        clear hb8
        rw [HFE.out]
        go_wp2_with fail
        refine Calls.mono (HAW.out _ HB8.out) ?_
        rintro e w9 ⟨rfl, hb9⟩
        go_wp2_with fail
        go_ret
        exact ⟨rfl, hb9⟩
      | false =>
        have HFE : Hid (firstB (nameB first) = (0, false)) := by show _ = _; rw [first_name, if_neg (by rw [hnum]; simp)]
        by_cases hf1 : 1 ≤ first
        · have hf2 : ¬ first ≤ 1152921504606846976 := by
            intro h
            simp [isNum, hf1, h] at hnum
          have HQ : Hid ((!decide (first ≤ 1152921504606846976)) = true) := by show _ = _; simp [hf2]
          clear hnum
          go_wp2_with fail
          refine Calls.mono (HF.out _ (by first | exact HBZ.out | exact HBZ.out.alloc HBZ.out.size _)) ?_
          rintro e w7 ⟨rfl, hb7⟩
          have HB7 : Hid _ := hb7
          clear hb7
          go_wp2_with fail
          refine Calls.mono (HF2.out _ HB7.out) ?_
          rintro e w8 ⟨rfl, hb8⟩
          have HB8 : Hid _ := hb8
          clear hb8
          rw [HFE.out]
          go_wp2_with fail
          refine Calls.mono (HAW.out _ HB8.out) ?_
          rintro e w9 ⟨rfl, hb9⟩
          go_wp2_with fail
          go_ret
          exact ⟨congrArg (fun b => Ending.returned (Value.bool b)) HQ.out, hb9⟩
        · clear hnum
          go_wp2_with fail
          refine Calls.mono (HF.out _ (by first | exact HBZ.out | exact HBZ.out.alloc HBZ.out.size _)) ?_
          rintro e w7 ⟨rfl, hb7⟩
          have HB7 : Hid _ := hb7
          clear hb7
          go_wp2_with fail
          refine Calls.mono (HF2.out _ HB7.out) ?_
          rintro e w8 ⟨rfl, hb8⟩
          have HB8 : Hid _ := hb8
          clear hb8
          rw [HFE.out]
          go_wp2_with fail
          refine Calls.mono (HAW.out _ HB8.out) ?_
          rintro e w9 ⟨rfl, hb9⟩
          go_wp2_with fail
          go_ret
          exact ⟨rfl, hb9⟩
end Go.Proofs.YtomhkjacngmnhaaGreatDoor
