/-
  The contract of Rename's closure. Own work.
-/
import Derived.Test.YtloigepmmhcibaaDo
namespace Go.Proofs.Ytloigepmmhcibaa
open Go.RowKit

set_option maxRecDepth 100000 in
set_option maxHeartbeats 4000000 in
theorem rename1 {w : World} {bd bs bc : Nat} {fv : Value} {ps : List (AF × Value)} {most : Nat} {fuse : Int} {dark : Bool} (h : St w bd bs bc fv ps most fuse dark) (hs : sorted (ps.map Prod.fst)) (hmax : ps.length ≤ 999) (cD cA cT k : Nat) (hk : k < ps.length) (n : ByteArray) (hn : n.size ≤ 1000)
    (hD : w.heap[cD]? = some (.cells #[.pointer (some ⟨bd, 0, none⟩)] 23 (0, 0))) (hA : w.heap[cA]? = some (.cells #[.int .i64 k] 3 (0, 0))) (hT : w.heap[cT]? = some (.cells #[.string n] 9 (0, 0))) :
    Calls Try.prog 56 #[.pointer (some ⟨cD, 0, none⟩), .pointer (some ⟨cA, 0, none⟩), .pointer (some ⟨cT, 0, none⟩)] w fun e w' => e = .returned (.tuple #[]) ∧
      Did w w' bd bs bc fv ps most fuse dark (putF (dropF (ps.map Prod.fst) k) ⟨n, ps[k].1.bytes, ps[k].1.safe⟩) := by
  have mixed : Try.prog.follows Departure.mixedOrders = true := by kernel_rfl
  have dD : w.cell? ⟨cD, 0, none⟩ = some (.pointer (some ⟨bd, 0, none⟩)) := by rw [cell_of hD]; rfl
  have dA : w.cell? ⟨cA, 0, none⟩ = some (.int .i64 k) := by rw [cell_of hA]; rfl
  have d0 := h.d0
  have s0 := h.s0
  have HST : Hid _ := h
  have hmem : ps[k] ∈ ps := List.getElem_mem hk
  obtain ⟨ao, cp, hsl, -⟩ := Own.rd (h.hb _ hmem)
  rcases fr_of h.hf with ⟨_, hx⟩ | ⟨g, cap, hfv, hbl, hnc, hcm, hc⟩
  · rw [hx] at hk; simp at hk
  obtain ⟨c0, c1, c2⟩ := hc k hk
  rw [hsl] at c1
  subst hfv
  have l1 : cD < w.heap.size := (Array.getElem?_eq_some_iff.1 hD).1
  have l2 : cA < w.heap.size := (Array.getElem?_eq_some_iff.1 hA).1
  have l3 := h.ltd
  have l4 : cT < w.heap.size := (Array.getElem?_eq_some_iff.1 hT).1
  have l5 := h.lts
  have HD : Hid _ := hD
  have HA : Hid _ := hA
  have HT : Hid _ := hT
  obtain ⟨nm, HNM⟩ := named ps[k].1.name
  obtain ⟨sl, HSL⟩ := named ps[k].1.bytes.length
  obtain ⟨sf, HSF⟩ := named ps[k].1.safe
  have HSV : Hid (ps[k].2 = .slice ao sl cp) := by rw [HSL.out]; exact hsl
  rw [← HNM.out] at c0
  rw [← HSL.out] at c1
  rw [← HSF.out] at c2
  have hs0 : w.drew.cell? ⟨cD, 0, none⟩ = some (.pointer (some ⟨bd, 0, none⟩)) ∧ w.drew.cell? ⟨cA, 0, none⟩ = some (.int .i64 k) ∧ w.drew.cell? ⟨bd, 0, none⟩ = some (.pointer (some ⟨bs, 0, none⟩)) ∧ w.drew.cell? ⟨bs, 0, none⟩ = some (.slice (some ⟨g, 0, none⟩) ps.length cap) ∧ w.drew.cell? ⟨g, k * 3, none⟩ = some (.string nm) ∧ w.drew.cell? ⟨g, k * 3 + 1, none⟩ = some (.slice ao sl cp) ∧ w.drew.cell? ⟨g, k * 3 + 2, none⟩ = some (.int .i64 sf) := ⟨dD, dA, d0, s0, c0, c1, c2⟩
  have HSB : Hid (∀ o : Obj, (w.alloc o).drew.cell? ⟨cD, 0, none⟩ = some (.pointer (some ⟨bd, 0, none⟩)) ∧ (w.alloc o).drew.cell? ⟨cA, 0, none⟩ = some (.int .i64 k) ∧ (w.alloc o).drew.cell? ⟨bd, 0, none⟩ = some (.pointer (some ⟨bs, 0, none⟩)) ∧ (w.alloc o).drew.cell? ⟨bs, 0, none⟩ = some (.slice (some ⟨g, 0, none⟩) ps.length cap) ∧ (w.alloc o).drew.cell? ⟨g, k * 3, none⟩ = some (.string nm) ∧ (w.alloc o).drew.cell? ⟨g, k * 3 + 1, none⟩ = some (.slice ao sl cp) ∧ (w.alloc o).drew.cell? ⟨g, k * 3 + 2, none⟩ = some (.int .i64 sf)) := fun o => by
    have hbo : Below w.heap.size w (w.alloc o).drew := ((Below.refl w.heap.size w).alloc (Nat.le_refl _) o).drew
    exact ⟨(hbo.cell (p := ⟨cD, 0, none⟩) l1).trans dD, (hbo.cell (p := ⟨cA, 0, none⟩) l2).trans dA, (hbo.cell (p := ⟨bd, 0, none⟩) l3).trans d0, (hbo.cell (p := ⟨bs, 0, none⟩) l5).trans s0, (hbo.cell (p := ⟨g, k * 3, none⟩) hbl).trans c0, (hbo.cell (p := ⟨g, k * 3 + 1, none⟩) hbl).trans c1, (hbo.cell (p := ⟨g, k * 3 + 2, none⟩) hbl).trans c2⟩
  obtain ⟨f, HFF⟩ := named (⟨n, ps[k].1.bytes, ps[k].1.safe⟩ : AF)
  rw [← HFF.out]
  obtain ⟨R, HR⟩ := named (putF (dropF (ps.map Prod.fst) k) f)
  rw [← HR.out]
  have HMX : Hid _ := hmax
  have HKK : Hid _ := hk
  have HSO : Hid _ := hs
  have HN : Hid _ := hn
  have hkI : (k : Int) < (ps.length : Int) := by omega
  clear h hc hsl hD hA hT hs hn hcm
  go_enter Try.func56, Try.ntmps56
  go_wp2_with fail
  go_region_held3 (fun w' => w'.cell? ⟨cD, 0, none⟩ = some (.pointer (some ⟨bd, 0, none⟩)) ∧ w'.cell? ⟨cA, 0, none⟩ = some (.int .i64 k) ∧ w'.cell? ⟨bd, 0, none⟩ = some (.pointer (some ⟨bs, 0, none⟩)) ∧ w'.cell? ⟨bs, 0, none⟩ = some (.slice (some ⟨g, 0, none⟩) ps.length cap) ∧ w'.cell? ⟨g, k * 3, none⟩ = some (.string nm) ∧ w'.cell? ⟨g, k * 3 + 1, none⟩ = some (.slice ao sl cp) ∧ w'.cell? ⟨g, k * 3 + 2, none⟩ = some (.int .i64 sf)) (first | exact HSB.out _ | exact hs0) (fail)
  clear hs0 HSB c0 c1 c2
  obtain ⟨w1, HW1⟩ := named (w.alloc (Obj.cells #[Value.string nm, Value.slice ao sl cp, Value.int IntKind.i64 sf] 83)).drew
  rw [← HW1.out]
  have hB1 : Below w.heap.size w w1 := by rw [HW1.out]; exact ((Below.refl w.heap.size w).alloc (Nat.le_refl _) _).drew
  have HX1 : Hid (w1.heap[w.heap.size]? = some (.cells #[Value.string nm, Value.slice ao sl cp, Value.int IntKind.i64 sf] 83 (0, 0))) := by rw [HW1.out]; exact heap_alloc_new w _
  have HS1 : Hid _ := HST.out.below hB1
  have hlx : w.heap.size < w1.heap.size := (Array.getElem?_eq_some_iff.1 HX1.out).1
  have d1D := (hB1.cell (p := ⟨cD, 0, none⟩) l1).trans dD
  have d1A := (hB1.cell (p := ⟨cA, 0, none⟩) l2).trans dA
  have d10 := (hB1.cell (p := ⟨bd, 0, none⟩) l3).trans d0
  have HB1 : Hid _ := hB1
  have HDR : Hid _ := drop_st (w := w1.drew) (HS1.out.heap fun _ _ => rfl) (Nat.le_trans HMX.out (by omega)) k HKK.out
  obtain ⟨ps2, HP2⟩ := named (ps.take k ++ ps.drop (k + 1))
  rw [← HP2.out] at HDR
  have HFAR : Hid (¬ (fun b => b = bs ∨ (Value.slice (some ⟨g, 0, none⟩) ps.length cap).ownBlock = some b) cD ∧ ¬ (fun b => b = bs ∨ (Value.slice (some ⟨g, 0, none⟩) ps.length cap).ownBlock = some b) cA ∧ ¬ (fun b => b = bs ∨ (Value.slice (some ⟨g, 0, none⟩) ps.length cap).ownBlock = some b) bd ∧ ¬ (fun b => b = bs ∨ (Value.slice (some ⟨g, 0, none⟩) ps.length cap).ownBlock = some b) cT ∧ ¬ (fun b => b = bs ∨ (Value.slice (some ⟨g, 0, none⟩) ps.length cap).ownBlock = some b) w.heap.size) :=
    ⟨elem_far HST.out HD.out (by decide) (by decide), elem_far HST.out HA.out (by decide) (by decide), elem_far HST.out HST.out.hd (by decide) (by decide), elem_far HST.out HT.out (by decide) (by decide), fun h => by
      rcases h with h | h
      · omega
      · have hh : g = w.heap.size := Option.some.inj h
        omega⟩
  have hz1 := hB1.size
  have L1 : cD < w1.heap.size := by omega
  have L2 : cA < w1.heap.size := by omega
  have L3 : bd < w1.heap.size := by omega
  have L4 : cT < w1.heap.size := by omega
  clear hB1 dD dA d0 s0
  go_wp2_with fail
  go_region_held3 (fun w' => w'.cell? ⟨cD, 0, none⟩ = some (.pointer (some ⟨bd, 0, none⟩)) ∧ w'.cell? ⟨cA, 0, none⟩ = some (.int .i64 k) ∧ w'.cell? ⟨bd, 0, none⟩ = some (.pointer (some ⟨bs, 0, none⟩))) (first | exact HSX.out | exact ⟨d1D, d1A, d10⟩)
    (first | (go_at_call 57; refine Calls.mono HDR.out ?_; rintro e w2 ⟨rfl, fv2, hS, hfb, hC⟩; have HSX : Hid (w2.cell? ⟨cD, 0, none⟩ = some (.pointer (some ⟨bd, 0, none⟩)) ∧ w2.cell? ⟨cA, 0, none⟩ = some (.int .i64 k) ∧ w2.cell? ⟨bd, 0, none⟩ = some (.pointer (some ⟨bs, 0, none⟩))) := ⟨(Chg.cell hC L1 HFAR.out.1 0).trans d1D, (Chg.cell hC L2 HFAR.out.2.1 0).trans d1A, (Chg.cell hC L3 HFAR.out.2.2.1 0).trans d10⟩; have HS2 : Hid _ := hS; have HF2 : Hid _ := hfb; have HC2 : Hid _ := hC; clear hS hfb hC))
  have hC2 : Chg (fun b => b = bs ∨ (Value.slice (some ⟨g, 0, none⟩) ps.length cap).ownBlock = some b) w1 w2 := ⟨HC2.out.os, HC2.out.tape, HC2.out.output, HC2.out.size, HC2.out.block⟩
  have HX2 : Hid (w2.heap[w.heap.size]? = some (.cells #[Value.string nm, Value.slice ao sl cp, Value.int IntKind.i64 sf] 83 (0, 0))) := (hC2.block _ hlx HFAR.out.2.2.2.2).trans HX1.out
  have HT2 : Hid (w2.heap[cT]? = some (.cells #[.string n] 9 (0, 0))) := ((hC2.block _ L4 HFAR.out.2.2.2.1).trans (HB1.out.block _ l4)).trans HT.out
  have hz2 := hC2.size
  have dT2 : w2.cell? ⟨cT, 0, none⟩ = some (.string n) := by rw [cell_of HT2.out]; rfl
  have x20 : w2.cell? ⟨w.heap.size, 0, none⟩ = some (.string nm) := by rw [cell_of HX2.out]; rfl
  have z20 : w2.frozen? ⟨w.heap.size, 0, none⟩ = false := frozen_of HX2.out 0
  have HNX : Hid (∀ b, Blk bd bs bc fv2 ps2 b → b ≠ w.heap.size) := by
    rintro b hb rfl
    have hlt : ∀ x, Blk bd bs bc (.slice (some ⟨g, 0, none⟩) ps.length cap) ps x → x < w.heap.size := fun x hx => HST.out.lt x hx
    rcases hb with h | h | h | h | ⟨p, hp, h⟩
    · have := hlt _ (.inl h); omega
    · have := hlt _ (.inr (.inl h)); omega
    · have := hlt _ (.inr (.inr (.inl h))); omega
    · have := hlt _ (.inr (.inr (.inr (.inl (HF2.out.symm.trans h))))); omega
    · rw [HP2.out] at hp
      have := hlt _ (.inr (.inr (.inr (.inr ⟨p, (List.mem_append.1 hp).elim List.mem_of_mem_take List.mem_of_mem_drop, h⟩)))); omega
  have HOW2 : Hid (Own w2 0 (.slice ao sl cp) f.bytes) := by
    have h0 : Own w 0 (.slice ao sl cp) f.bytes := by
      have := HST.out.hb _ (List.getElem_mem HKK.out)
      rw [HSV.out] at this
      rw [HFF.out]
      exact this
    refine Own.heap h0 fun a ha => ?_
    have hlt := (World.ownsRow.lt h0 a ha).2
    have hne := HST.out.by_ne h0 ha
    rw [hC2.block a (by omega) (fun h => by
      rcases h with h | h
      · exact hne.2.1 h
      · exact hne.2.2.2 h), HB1.out.block a hlt]
  have HAP2 : Hid (∀ p ∈ ps2, Apart p.2 (.slice ao sl cp)) := by
    rw [HP2.out, ← HSV.out]
    exact apart_at HST.out.hp k HKK.out
  have HSO2 : Hid (sorted (ps2.map Prod.fst)) := by rw [HP2.out, map_dropF]; exact sorted_dropF HSO.out k
  have HL2 : Hid (ps2.length ≤ 999) := by
    rw [HP2.out]
    have := HMX.out
    simp only [Hid, List.length_append, List.length_take, List.length_drop]
    omega
  have HR2 : Hid (R = putF (ps2.map Prod.fst) f) := by rw [HR.out, HP2.out, map_dropF]; rfl
  have HCC : Hid (Chg (Blk bd bs bc (.slice (some ⟨g, 0, none⟩) ps.length cap) ps) w w2) := (Chg.ofBelow HB1.out _).trans hC2 (fun i _ hi => hi.elim (fun h => .inr (.inl h)) (fun h => .inr (.inr (.inr (.inl h)))))
  clear hC2 d1D d1A d10
  go_upto_region 3 with fail
  obtain ⟨w3, HW3⟩ := named (w2.setCell ⟨w.heap.size, 0, none⟩ (.string n))
  rw [← HW3.out]
  have HS3 : Hid (St w3 bd bs bc fv2 ps2 most fuse dark) := by
    rw [HW3.out]
    exact HS2.out.heap fun b hb => Below.heap_setCell _ _ _ _ (HNX.out b hb)
  have HX3 : Hid (w3.heap[w.heap.size]? = some (.cells #[Value.string n, Value.slice ao sl cp, Value.int IntKind.i64 sf] 83 (0, 0))) := by rw [HW3.out, heap_set HX2.out]; rfl
  have HO3 : Hid (Own w3 0 (.slice ao sl cp) f.bytes) := by
    rw [HW3.out]
    exact Own.heap HOW2.out fun a ha => Below.heap_setCell _ _ _ _ (by
      obtain ⟨c, hc⟩ := row_elem HOW2.out ha
      exact ne_of_elem hc HX2.out (by decide))
  have HC3 : Hid (Chg (Blk bd bs bc (.slice (some ⟨g, 0, none⟩) ps.length cap) ps) w w3) := by rw [HW3.out]; exact HCC.out.setCell (.inr (Nat.le_refl _)) _
  have e3D : w3.cell? ⟨cD, 0, none⟩ = some (.pointer (some ⟨bd, 0, none⟩)) := by rw [HW3.out, cell_other _ _ _ _ _ _ (.inl (by omega))]; exact HSX.out.1
  have e30 : w3.cell? ⟨bd, 0, none⟩ = some (.pointer (some ⟨bs, 0, none⟩)) := HS3.out.d0
  have x30 : w3.cell? ⟨w.heap.size, 0, none⟩ = some (.string n) := by rw [cell_of HX3.out]; rfl
  have x31 : w3.cell? ⟨w.heap.size, 1, none⟩ = some (.slice ao sl cp) := by rw [cell_of HX3.out]; rfl
  have x32 : w3.cell? ⟨w.heap.size, 2, none⟩ = some (.int .i64 sf) := by rw [cell_of HX3.out]; rfl
  have HPUT : Hid _ := put_st (w := w3.drew) (HS3.out.heap fun _ _ => rfl) HSO2.out HL2.out f (.slice ao sl cp) HO3.out HAP2.out (by rw [HFF.out]; exact HN.out)
  have HM : Hid _ := map_putF ps2 f (.slice ao sl cp)
  rw [← HR2.out] at HM
  have hfn : f.name = n := by rw [HFF.out]
  have hfs : f.safe = sf := by rw [HFF.out, HSF.out]
  rw [hfs] at HPUT
  rw [show (Value.string f.name) = .string n by rw [hfn]] at HPUT
  have L5 : cD < w3.heap.size := World.block_lt_of_cell? _ _ e3D
  have L6 : bd < w3.heap.size := World.block_lt_of_cell? _ _ e30
  have L7 : w.heap.size < w3.heap.size := World.block_lt_of_cell? _ _ x30
  have HFR : Hid (¬ (fun b => b = bs ∨ fv2.ownBlock = some b) cD ∧ ¬ (fun b => b = bs ∨ fv2.ownBlock = some b) bd ∧ ¬ (fun b => b = bs ∨ fv2.ownBlock = some b) w.heap.size) := by
    rw [HF2.out]
    exact ⟨HFAR.out.1, HFAR.out.2.2.1, HFAR.out.2.2.2.2⟩
  clear dT2 x20 z20 hfn hfs
  go_region_held3 (fun w' => w'.cell? ⟨cD, 0, none⟩ = some (.pointer (some ⟨bd, 0, none⟩)) ∧ w'.cell? ⟨bd, 0, none⟩ = some (.pointer (some ⟨bs, 0, none⟩)) ∧ w'.cell? ⟨w.heap.size, 0, none⟩ = some (.string n) ∧ w'.cell? ⟨w.heap.size, 1, none⟩ = some (.slice ao sl cp) ∧ w'.cell? ⟨w.heap.size, 2, none⟩ = some (.int .i64 sf)) (first | exact HSY.out | exact ⟨e3D, e30, x30, x31, x32⟩)
    (first | (go_at_call 53; refine Calls.mono HPUT.out ?_; rintro e w4 ⟨rfl, fv4, hS, hfb, hC⟩; have HSY : Hid (w4.cell? ⟨cD, 0, none⟩ = some (.pointer (some ⟨bd, 0, none⟩)) ∧ w4.cell? ⟨bd, 0, none⟩ = some (.pointer (some ⟨bs, 0, none⟩)) ∧ w4.cell? ⟨w.heap.size, 0, none⟩ = some (.string n) ∧ w4.cell? ⟨w.heap.size, 1, none⟩ = some (.slice ao sl cp) ∧ w4.cell? ⟨w.heap.size, 2, none⟩ = some (.int .i64 sf)) := ⟨(Chg.cell hC L5 HFR.out.1 0).trans e3D, (Chg.cell hC L6 HFR.out.2.1 0).trans e30, (Chg.cell hC L7 HFR.out.2.2 0).trans x30, (Chg.cell hC L7 HFR.out.2.2 1).trans x31, (Chg.cell hC L7 HFR.out.2.2 2).trans x32⟩; have HS4 : Hid _ := hS; have HF4 : Hid _ := hfb; have HC4 : Hid _ := hC; clear hS hfb hC))
  go_wp2
  go_returns
  have hb2 : ∀ b, Blk bd bs bc fv2 ps2 b → Blk bd bs bc (.slice (some ⟨g, 0, none⟩) ps.length cap) ps b := by
    rintro b (h | h | h | h | ⟨p, hp, h⟩)
    · exact .inl h
    · exact .inr (.inl h)
    · exact .inr (.inr (.inl h))
    · exact .inr (.inr (.inr (.inl (HF2.out.symm.trans h))))
    · rw [HP2.out] at hp
      exact .inr (.inr (.inr (.inr ⟨p, (List.mem_append.1 hp).elim List.mem_of_mem_take List.mem_of_mem_drop, h⟩)))
  have hC4 : Chg (fun b => b = bs ∨ fv2.ownBlock = some b) w3 w4 := ⟨HC4.out.os, HC4.out.tape, HC4.out.output, HC4.out.size, HC4.out.block⟩
  refine ⟨rfl, fv4, _, HS4.out, HM.out, fun b hb => ?_, HC3.out.trans hC4 (fun i _ hi => hb2 i (hi.elim (fun h => .inr (.inl h)) (fun h => .inr (.inr (.inr (.inl h))))))⟩
  have hz3 := HC3.out.size
  rcases hb with h | h | h | h | ⟨p, hp, h⟩
  · exact .inl (.inl h)
  · exact .inl (.inr (.inl h))
  · exact .inl (.inr (.inr (.inl h)))
  · rcases HF4.out b h with h | h
    · exact .inl (hb2 b (.inr (.inr (.inr (.inl h)))))
    · exact .inr (Nat.le_trans hz3 h)
  · rcases mem_put hp with rfl | hp
    · exact .inl (.inr (.inr (.inr (.inr ⟨_, List.getElem_mem HKK.out, by rw [HSV.out]; exact h⟩))))
    · exact .inl (hb2 b (.inr (.inr (.inr (.inr ⟨p, hp, h⟩)))))
end Go.Proofs.Ytloigepmmhcibaa
