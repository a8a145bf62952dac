/-
  The contract of put. The contracts of drop, leave, sectorEnd, told, crash. The contract of do, for each deed. The contracts of leave, sectorEnd, told, crash. The contracts of the deeds' closures. Own work.
-/
import Derived.Test.YtffgbjojngnebaaDoorQm
import Derived.Test.YtffgbjojngnebaaDoorQh
import Derived.Deep.RegionHeld3
import Derived.Deep.Cut
import Derived.Deep.CutRange
namespace Go.Proofs.YtffgbjojngnebaaDoor
open Go.RowKit

theorem row_pos {w : World} {v : Value} {e k n : Nat} {xs : List Value} (h : w.ownsRow 0 e k v n xs) (hn : 0 < n) : ∃ g cap, v = .slice (some ⟨g, 0, none⟩) n cap ∧ n ≤ cap ∧ cap ≤ 9223372036854775807 := by
  rcases h.2 with ⟨_, h0⟩ | ⟨g, cap, cur, hv, _, _, h1, h2, _⟩
  · omega
  · exact ⟨g, cap, hv, h1, by unfold maxLen at h2; omega⟩
theorem row_frozen {w : World} {e k n g cap : Nat} {xs : List Value} (h : w.ownsRow 0 e k (.slice (some ⟨g, 0, none⟩) n cap) n xs) (i : Nat) : w.frozen? ⟨g, i, none⟩ = false := by
  obtain ⟨c, hc⟩ := row_elem h (a := g) rfl
  exact frozen_of hc i

set_option maxRecDepth 100000 in
set_option maxHeartbeats 2000000 in
theorem put_st {w : World} {bd bs bc : Nat} {fv : Value} {ps : List (AF × Value)} {most : Nat} {fuse : Int} {dark : Bool} (h : St w bd bs bc fv ps most fuse dark) (hs : sorted (ps.map Prod.fst)) (hmax : ps.length ≤ 999)
    (f : AF) (sv : Value) (hsv : Own w 0 sv f.bytes) (hap : ∀ p ∈ ps, Apart p.2 sv) (hn : f.name.size ≤ 1000) :
    Calls Tryd.prog 50 #[.pointer (some ⟨bs, 0, none⟩), .agg #[.string f.name, sv, .int .i64 f.safe]] w fun e w' => e = .returned (.tuple #[]) ∧
      ∃ fv', St w' bd bs bc fv' (ps.take (posF (ps.map Prod.fst) f.name) ++ (f, sv) :: ps.drop (if isF (ps.map Prod.fst) f.name then posF (ps.map Prod.fst) f.name + 1 else posF (ps.map Prod.fst) f.name)) most fuse dark ∧
        (∀ b, fv'.ownBlock = some b → fv.ownBlock = some b ∨ w.heap.size ≤ b) ∧ Chg (fun b => b = bs ∨ fv.ownBlock = some b) w w' := by
  have mixed : Tryd.prog.follows Departure.mixedOrders = true := by kernel_rfl
  obtain ⟨ao, cp, hsl, -⟩ := Own.rd hsv
  have s1 := h.s1
  have hlts := h.lts
  have HST : Hid _ := h
  have HS : Hid _ := hs
  have HSV : Hid _ := hsv
  have HAP : Hid _ := hap
  obtain ⟨sl, HSL⟩ := named f.bytes.length
  rw [← HSL.out] at hsl
  subst hsl
  clear h hs hsv hap
  obtain ⟨fs, HF⟩ := named (ps.map Prod.fst)
  have HLEN : Hid (ps.length = fs.length) := by rw [HF.out]; simp [Hid]
  rw [← HF.out]
  have HS' : Hid (sorted fs) := by rw [HF.out]; exact HS.out
  have hpl := posF_le fs f.name
  rw [← HLEN.out] at hpl
  have HPB : Hid _ := fun h : isF fs f.name = true => (isF_lt h).1
  rw [← HLEN.out] at HPB
  obtain ⟨k, HK⟩ := named (posF fs f.name)
  rw [← HK.out] at hpl HPB ⊢
  obtain ⟨j, HJ⟩ := named (if isF fs f.name = true then k + 1 else k)
  rw [← HJ.out]
  obtain ⟨RR, HRR⟩ := named (ps.take k ++ (f, Value.slice ao sl cp) :: ps.drop j)
  rw [← HRR.out]
  go_enter Tryd.func50, Tryd.ntmps50
  go_wp2_with fail
  have hs0 : (w.alloc (Obj.cells #[Value.string f.name, Value.slice ao sl cp, Value.int IntKind.i64 f.safe] 84)).drew.cell? ⟨bs, 1, none⟩ = some (.func (.func 41) #[] #[.pointer (some ⟨bc, 0, none⟩)]) ∧ (w.alloc (Obj.cells #[Value.string f.name, Value.slice ao sl cp, Value.int IntKind.i64 f.safe] 84)).drew.cell? ⟨w.heap.size, 0, none⟩ = some (.string f.name) := ⟨(HST.out.below (((Below.refl _ _).alloc (Nat.le_refl _) _).drew)).s1, by simp⟩
  go_region_held3 (fun w' => w'.cell? ⟨bs, 1, none⟩ = some (.func (.func 41) #[] #[.pointer (some ⟨bc, 0, none⟩)]) ∧ w'.cell? ⟨w.heap.size, 0, none⟩ = some (.string f.name)) (first | exact hs1 | exact hs0) (first | (go_at_call 41; refine (place_any (HST.out.below (((Below.refl _ _).alloc (Nat.le_refl _) _).drew)) HS.out (by omega) f.name).mono ?_; rintro e w1 ⟨rfl, hb1⟩; have hs1 : w1.cell? ⟨bs, 1, none⟩ = some (.func (.func 41) #[] #[.pointer (some ⟨bc, 0, none⟩)]) ∧ w1.cell? ⟨w.heap.size, 0, none⟩ = some (.string f.name) := ⟨(hb1.cell (p := ⟨bs, 1, none⟩) (by simp; omega)).trans hs0.1, (hb1.cell (p := ⟨w.heap.size, 0, none⟩) (by simp)).trans hs0.2⟩))
  clear hs0 hs1
  have hB : Below w.heap.size w w1 := (((Below.refl w.heap.size w).alloc (Nat.le_refl _) (Obj.cells #[Value.string f.name, Value.slice ao sl cp, Value.int IntKind.i64 f.safe] 84)).drew).trans (hb1.mono (by simp))
  have hx1 : w1.heap[w.heap.size]? = some (.cells #[Value.string f.name, Value.slice ao sl cp, Value.int IntKind.i64 f.safe] 84 (0, 0)) := by
    rw [hb1.block _ (by simp)]
    exact heap_alloc_new w _
  have HST1 : Hid _ := HST.out.below hB
  have HX1 : Hid _ := hx1
  have HB : Hid _ := hB
  have hz1 : w.heap.size < w1.heap.size := (Array.getElem?_eq_some_iff.1 hx1).1
  rw [← HF.out, ← HK.out]
  clear hb1 hx1 hB s1
  have hone : ∀ p ∈ ps, p.2.oneCell' = true := fun p hp => by
    obtain ⟨a, c, e, -⟩ := Own.rd (HST1.out.hb p hp)
    rw [e]
    rfl
  have HONE : Hid _ := hone
  clear hone
  cases hi : isF fs f.name with
  | true =>
    have HJE : Hid (j = k + 1) := by rw [HJ.out, hi]; rfl
    have hkA : k < ps.length := HPB.out hi
    obtain ⟨g', cap', hfv, hnc', hcm'⟩ := row_pos HST.out.hf (by omega)
    subst hfv
    have HPE : Hid (ps.take k ++ (f, Value.slice ao sl cp) :: ps.drop (k + 1) = ps.take k ++ (f, Value.slice ao sl cp) :: ps.drop j) := by
      rw [HJE.out]
      rfl
    have HPAP : Hid (∀ p ∈ ps.take k ++ ps.drop (k + 1), Apart p.2 (.slice ao sl cp)) := by
      intro p hp
      rcases List.mem_append.1 hp with h | h
      · exact HAP.out p (List.mem_of_mem_take h)
      · exact HAP.out p (List.mem_of_mem_drop h)
    have HA : Hid _ := HST1.out
    have HXA : Hid _ := HX1.out
    have HCH : Hid (Chg (fun b => b = bs ∨ (Value.slice (some ⟨g', 0, none⟩) ps.length cap').ownBlock = some b) w w1) := Chg.ofBelow HB.out _
    have HFB : Hid (∀ b, (Value.slice (some ⟨g', 0, none⟩) ps.length cap').ownBlock = some b → (Value.slice (some ⟨g', 0, none⟩) ps.length cap').ownBlock = some b ∨ w.heap.size < b) := fun b hb => .inl hb
    have s0 := HST1.out.s0
    have sz := HST1.out.sz 0
    go_upto_region 4 with fail
    obtain ⟨wA, HWA⟩ : ∃ wA, wA = w1 := ⟨_, rfl⟩
    subst HWA
    clear s0 sz
    have hxl : w.heap.size < wA.heap.size := (Array.getElem?_eq_some_iff.1 HXA.out).1
    have xc0 : wA.cell? ⟨w.heap.size, 0, none⟩ = some (.string f.name) := by rw [cell_of HXA.out]; rfl
    go_wp2_with fail
    refine (clone_any _ _ (by omega)).mono ?_
    rintro e wB ⟨rfl, hbB⟩
    have HXB : Hid (wB.heap[w.heap.size]? = some (.cells #[Value.string f.name, Value.slice ao sl cp, Value.int IntKind.i64 f.safe] 84 (0, 0))) := (hbB.block _ hxl).trans HXA.out
    have HSB : Hid _ := HA.out.below hbB
    have HCB : Hid _ := Chg.trans HCH.out (Chg.ofBelow hbB (fun b => b = bs ∨ (Value.slice (some ⟨g', 0, none⟩) ps.length cap').ownBlock = some b)) (fun _ _ h => h)
    have HOB : Hid (Own wB 0 (.slice ao sl cp) f.bytes) := Own.heap HSV.out fun a ha => by
      have hlt := (World.ownsRow.lt HSV.out a ha).2
      have hn := HST.out.by_ne HSV.out ha
      exact HCB.out.block a hlt (fun h => by
        rcases h with rfl | h
        · exact hn.2.1 rfl
        · exact hn.2.2.2 h)
    have xb0 : wB.cell? ⟨w.heap.size, 0, none⟩ = some (.string f.name) := by rw [cell_of HXB.out]; rfl
    have xz0 : wB.frozen? ⟨w.heap.size, 0, none⟩ = false := frozen_of HXB.out 0
    have hszB := hbB.size
    clear hbB xc0 HA HCH HXA
    go_upto_region 5 with fail
    obtain ⟨wC, HWC⟩ := named (wB.setCell ⟨w.heap.size, 0, none⟩ (.string f.name))
    have HNX : Hid (∀ b, Blk bd bs bc (.slice (some ⟨g', 0, none⟩) ps.length cap') ps b → b ≠ w.heap.size) := by
      intro b hb e
      subst e
      rcases hb with rfl | rfl | rfl | hb | ⟨p, hp, hb⟩
      · have := HST.out.ltd; omega
      · have := HST.out.lts; omega
      · have := HST.out.ltc; omega
      · rcases HFB.out _ hb with h | h
        · have := HST.out.lt _ (.inr (.inr (.inr (.inl h)))); omega
        · omega
      · obtain ⟨c, hc⟩ := row_elem (HSB.out.hb p hp) hb
        rw [HXB.out] at hc
        cases hc
    have HSC : Hid (St wC bd bs bc (.slice (some ⟨g', 0, none⟩) ps.length cap') ps most fuse dark) := by
      rw [HWC.out]
      exact HSB.out.heap fun b hb => Below.heap_setCell _ _ _ _ (HNX.out b hb)
    have HXC : Hid (wC.heap[w.heap.size]? = some (.cells #[Value.string f.name, Value.slice ao sl cp, Value.int IntKind.i64 f.safe] 84 (0, 0))) := by
      rw [HWC.out, heap_set HXB.out]; rfl
    have HCC : Hid (Chg (fun b => b = bs ∨ (Value.slice (some ⟨g', 0, none⟩) ps.length cap').ownBlock = some b) w wC) := by
      rw [HWC.out]
      exact HCB.out.setCell (.inr (Nat.le_refl _)) _
    have HOC : Hid (Own wC 0 (.slice ao sl cp) f.bytes) := by
      rw [HWC.out]
      exact Own.heap HOB.out fun a ha => Below.heap_setCell _ _ _ _ (by have := (World.ownsRow.lt HSV.out a ha).2; show a ≠ w.heap.size; omega)
    rw [← HWC.out]
    have c0 : wC.cell? ⟨bs, 0, none⟩ = some (.slice (some ⟨g', 0, none⟩) ps.length cap') := HSC.out.s0
    have x0 : wC.cell? ⟨w.heap.size, 0, none⟩ = some (.string f.name) := by rw [cell_of HXC.out]; rfl
    have x1 : wC.cell? ⟨w.heap.size, 1, none⟩ = some (.slice ao sl cp) := by rw [cell_of HXC.out]; rfl
    have x2 : wC.cell? ⟨w.heap.size, 2, none⟩ = some (.int .i64 f.safe) := by rw [cell_of HXC.out]; rfl
    obtain ⟨y0, y1, y2⟩ : (∃ v, wC.cell? ⟨g', k * 3, none⟩ = some v) ∧ (∃ v, wC.cell? ⟨g', k * 3 + 1, none⟩ = some v) ∧ (∃ v, wC.cell? ⟨g', k * 3 + 2, none⟩ = some v) := by
      rcases fr_of HSC.out.hf with ⟨h, _⟩ | ⟨bf, cap, h, _, _, _, hc⟩
      · cases h
      · cases h
        obtain ⟨a, b, c⟩ := hc k hkA
        exact ⟨⟨_, a⟩, ⟨_, b⟩, ⟨_, c⟩⟩
    obtain ⟨y0v, y0⟩ := y0
    obtain ⟨y1v, y1⟩ := y1
    obtain ⟨y2v, y2⟩ := y2
    have z0 := row_frozen HSC.out.hf (k * 3)
    have z1 := row_frozen HSC.out.hf (k * 3 + 1)
    have z2 := row_frozen HSC.out.hf (k * 3 + 2)
    obtain ⟨N, HN⟩ := named ps.length
    rw [← HN.out] at c0 hkA hnc'
    have hkI : (k : Int) < (N : Int) := by omega
    clear xb0 xz0
    go_region
    go_wp2
    go_returns
    refine ⟨rfl, .slice (some ⟨g', 0, none⟩) N cap', ?_, ?_, ?_⟩
    · rw [HRR.out, HN.out]
      have hSF := HSC.out.setFile k (by rw [← HN.out]; exact hkA) f (.slice ao sl cp) HOC.out HPAP.out
      rw [HPE.out] at hSF
      exact hSF.heap fun _ _ => rfl
    · intro b hb
      rcases HFB.out b hb with h | h
      · exact .inl h
      · exact .inr (by omega)
    · have hgF : (fun b => b = bs ∨ (Value.slice (some ⟨g', 0, none⟩) ps.length cap').ownBlock = some b) g' ∨ w.heap.size ≤ g' := by
        rcases HFB.out g' rfl with h | h
        · exact .inl (.inr h)
        · exact .inr (by omega)
      exact (((HCC.out.setCell (p := ⟨g', k * 3, none⟩) hgF _).setCell (p := ⟨g', k * 3 + 1, none⟩) hgF _).setCell (p := ⟨g', k * 3 + 2, none⟩) hgF _).drew
  | false =>
    have HJE : Hid (j = k) := by rw [HJ.out, hi]; rfl
    have s0 := HST1.out.s0
    have sz := HST1.out.sz 0
    have hlt1 := HST1.out.lts
    go_wp2_with fail
    have HAL : Hid _ := HST1.out.below ((Below.refl _ w1).alloc (Nat.le_refl _) (Obj.cells #[Value.string ⟨#[]⟩, Value.slice none 0 0, Value.int IntKind.i64 0] 84))
    refine (insert_any HAL.out.hf HONE.out (by omega) (vb := w1.heap.size) (i := k) (by omega) (heap_alloc_new w1 _) (fun e => by have := HST1.out.lt _ (.inr (.inr (.inr (.inl e)))); omega)).mono ?_
    rintro e w2 ⟨fv', rfl, hrow, hg, hblk⟩
    obtain ⟨g', cap', rfl, hnc', hcm'⟩ := row_pos hrow (by omega)
    have hsz2 := hg.size
    rw [World.size_alloc] at hsz2
    have hnb : some bs ≠ fv.ownBlock := fun e => (HST1.out.fv_ne e.symm).2.1 rfl
    have hgs : w2.heap[bs]? = w1.heap[bs]? := (hg.block bs (by rw [World.size_alloc]; omega) hnb).trans (Below.heap_alloc _ _ _ hlt1)
    have sz2 : w2.frozen? ⟨bs, 0, none⟩ = false := by rw [World.frozen?_of_block (w := w1) (w' := w2) (a := ⟨bs, 0, none⟩) hgs]; exact sz
    have s02 : w2.cell? ⟨bs, 0, none⟩ = some fv := by rw [World.cell?_of_block (w := w1) (w' := w2) (a := ⟨bs, 0, none⟩) hgs]; exact s0
    have hxne : some w.heap.size ≠ fv.ownBlock := fun e => by have := HST.out.lt _ (.inr (.inr (.inr (.inl e.symm)))); omega
    have hx2 : w2.heap[w.heap.size]? = w1.heap[w.heap.size]? := (hg.block _ (by rw [World.size_alloc]; omega) hxne).trans (Below.heap_alloc _ _ _ hz1)
    have HA : Hid _ := HAL.out.files (ps' := ps.take k ++ (noF, .slice none 0 0) :: ps.drop k) hg (by
        have : (ps.take k ++ (noF, Value.slice none 0 0) :: ps.drop k).length = ps.length + 1 := by simp only [List.length_append, List.length_take, List.length_cons, List.length_drop]; omega
        rw [this]; exact hrow) (fun p hp => by
          rcases mem_put hp with rfl | hp
          · exact Own.nil _ _
          · exact HAL.out.hb p hp) (pair_put HAL.out.hp k k (Nat.le_refl _) _ (fun p _ a _ h => by cases h))
    have HCH : Hid (Chg (fun b => b = bs ∨ fv.ownBlock = some b) w (w2.setCell ⟨bs, 0, none⟩ (.slice (some ⟨g', 0, none⟩) (ps.length + 1) cap'))) :=
      (((Chg.ofBelow HB.out _).alloc _).grown hg (fun k hk => .inl (.inr hk))).setCell (.inl (.inl rfl)) _
    have HXA : Hid ((w2.setCell ⟨bs, 0, none⟩ (.slice (some ⟨g', 0, none⟩) (ps.length + 1) cap')).heap[w.heap.size]? = some (.cells #[Value.string f.name, Value.slice ao sl cp, Value.int IntKind.i64 f.safe] 84 (0, 0))) := by
      rw [Below.heap_setCell _ _ _ _ (by show w.heap.size ≠ bs; omega), hx2]; exact HX1.out
    have HFB : Hid (∀ b, (Value.slice (some ⟨g', 0, none⟩) (ps.length + 1) cap').ownBlock = some b → fv.ownBlock = some b ∨ w.heap.size < b) := by
      intro b hb
      rcases hblk with h | h
      · exact .inl (h.symm.trans hb)
      · rw [h] at hb; cases hb; right; rw [World.size_alloc]; omega
    clear hblk hrow hg hx2 HAL
    go_upto_region 4 with fail
    obtain ⟨wA, HWA⟩ := named (w2.setCell ⟨bs, 0, none⟩ (.slice (some ⟨g', 0, none⟩) (ps.length + 1) cap'))
    rw [← HWA.out] at HA HCH HXA ⊢
    obtain ⟨psA, HPA⟩ := named (ps.take k ++ (noF, Value.slice none 0 0) :: ps.drop k)
    have hLA : ps.length + 1 = psA.length := by rw [HPA.out]; simp only [List.length_append, List.length_take, List.length_cons, List.length_drop]; omega
    rw [← HPA.out, hLA] at HA
    rw [hLA] at HFB hnc'
    have hkA : k < psA.length := by omega
    have hkt : (ps.take k).length = k := by rw [List.length_take]; omega
    have HPE : Hid (psA.take k ++ (f, Value.slice ao sl cp) :: psA.drop (k + 1) = ps.take k ++ (f, Value.slice ao sl cp) :: ps.drop j) := by
      have e1 : psA.take k = ps.take k := by rw [HPA.out, List.take_append_of_le_length (by omega), List.take_take, Nat.min_self]
      have e2 : psA.drop (k + 1) = ps.drop k := by rw [HPA.out, List.drop_append, hkt, List.drop_eq_nil_of_le (by omega), show k + 1 - k = 1 by omega]; rfl
      rw [e1, e2, HJE.out]
      rfl
    have HPAP : Hid (∀ p ∈ psA.take k ++ psA.drop (k + 1), Apart p.2 (.slice ao sl cp)) := by
      have e1 : psA.take k = ps.take k := by rw [HPA.out, List.take_append_of_le_length (by omega), List.take_take, Nat.min_self]
      have e2 : psA.drop (k + 1) = ps.drop k := by rw [HPA.out, List.drop_append, hkt, List.drop_eq_nil_of_le (by omega), show k + 1 - k = 1 by omega]; rfl
      rw [e1, e2]
      intro p hp
      rcases List.mem_append.1 hp with h | h
      · exact HAP.out p (List.mem_of_mem_take h)
      · exact HAP.out p (List.mem_of_mem_drop h)
    clear hkt
    clear s02 sz2 hgs hLA HWA hsz2
    clear s0 sz
    have hxl : w.heap.size < wA.heap.size := (Array.getElem?_eq_some_iff.1 HXA.out).1
    have xc0 : wA.cell? ⟨w.heap.size, 0, none⟩ = some (.string f.name) := by rw [cell_of HXA.out]; rfl
    go_wp2_with fail
    refine (clone_any _ _ (by omega)).mono ?_
    rintro e wB ⟨rfl, hbB⟩
    have HXB : Hid (wB.heap[w.heap.size]? = some (.cells #[Value.string f.name, Value.slice ao sl cp, Value.int IntKind.i64 f.safe] 84 (0, 0))) := (hbB.block _ hxl).trans HXA.out
    have HSB : Hid _ := HA.out.below hbB
    have HCB : Hid _ := Chg.trans HCH.out (Chg.ofBelow hbB (fun b => b = bs ∨ fv.ownBlock = some b)) (fun _ _ h => h)
    have HOB : Hid (Own wB 0 (.slice ao sl cp) f.bytes) := Own.heap HSV.out fun a ha => by
      have hlt := (World.ownsRow.lt HSV.out a ha).2
      have hn := HST.out.by_ne HSV.out ha
      exact HCB.out.block a hlt (fun h => by
        rcases h with rfl | h
        · exact hn.2.1 rfl
        · exact hn.2.2.2 h)
    have xb0 : wB.cell? ⟨w.heap.size, 0, none⟩ = some (.string f.name) := by rw [cell_of HXB.out]; rfl
    have xz0 : wB.frozen? ⟨w.heap.size, 0, none⟩ = false := frozen_of HXB.out 0
    have hszB := hbB.size
    clear hbB xc0 HA HCH HXA
    go_upto_region 5 with fail
    obtain ⟨wC, HWC⟩ := named (wB.setCell ⟨w.heap.size, 0, none⟩ (.string f.name))
    have HNX : Hid (∀ b, Blk bd bs bc (.slice (some ⟨g', 0, none⟩) psA.length cap') psA b → b ≠ w.heap.size) := by
      intro b hb e
      subst e
      rcases hb with rfl | rfl | rfl | hb | ⟨p, hp, hb⟩
      · have := HST.out.ltd; omega
      · have := HST.out.lts; omega
      · have := HST.out.ltc; omega
      · rcases HFB.out _ hb with h | h
        · have := HST.out.lt _ (.inr (.inr (.inr (.inl h)))); omega
        · omega
      · obtain ⟨c, hc⟩ := row_elem (HSB.out.hb p hp) hb
        rw [HXB.out] at hc
        cases hc
    have HSC : Hid (St wC bd bs bc (.slice (some ⟨g', 0, none⟩) psA.length cap') psA most fuse dark) := by
      rw [HWC.out]
      exact HSB.out.heap fun b hb => Below.heap_setCell _ _ _ _ (HNX.out b hb)
    have HXC : Hid (wC.heap[w.heap.size]? = some (.cells #[Value.string f.name, Value.slice ao sl cp, Value.int IntKind.i64 f.safe] 84 (0, 0))) := by
      rw [HWC.out, heap_set HXB.out]; rfl
    have HCC : Hid (Chg (fun b => b = bs ∨ fv.ownBlock = some b) w wC) := by
      rw [HWC.out]
      exact HCB.out.setCell (.inr (Nat.le_refl _)) _
    have HOC : Hid (Own wC 0 (.slice ao sl cp) f.bytes) := by
      rw [HWC.out]
      exact Own.heap HOB.out fun a ha => Below.heap_setCell _ _ _ _ (by have := (World.ownsRow.lt HSV.out a ha).2; show a ≠ w.heap.size; omega)
    rw [← HWC.out]
    have c0 : wC.cell? ⟨bs, 0, none⟩ = some (.slice (some ⟨g', 0, none⟩) psA.length cap') := HSC.out.s0
    have x0 : wC.cell? ⟨w.heap.size, 0, none⟩ = some (.string f.name) := by rw [cell_of HXC.out]; rfl
    have x1 : wC.cell? ⟨w.heap.size, 1, none⟩ = some (.slice ao sl cp) := by rw [cell_of HXC.out]; rfl
    have x2 : wC.cell? ⟨w.heap.size, 2, none⟩ = some (.int .i64 f.safe) := by rw [cell_of HXC.out]; rfl
    obtain ⟨y0, y1, y2⟩ : (∃ v, wC.cell? ⟨g', k * 3, none⟩ = some v) ∧ (∃ v, wC.cell? ⟨g', k * 3 + 1, none⟩ = some v) ∧ (∃ v, wC.cell? ⟨g', k * 3 + 2, none⟩ = some v) := by
      rcases fr_of HSC.out.hf with ⟨h, _⟩ | ⟨bf, cap, h, _, _, _, hc⟩
      · cases h
      · cases h
        obtain ⟨a, b, c⟩ := hc k hkA
        exact ⟨⟨_, a⟩, ⟨_, b⟩, ⟨_, c⟩⟩
    obtain ⟨y0v, y0⟩ := y0
    obtain ⟨y1v, y1⟩ := y1
    obtain ⟨y2v, y2⟩ := y2
    have z0 := row_frozen HSC.out.hf (k * 3)
    have z1 := row_frozen HSC.out.hf (k * 3 + 1)
    have z2 := row_frozen HSC.out.hf (k * 3 + 2)
    obtain ⟨N, HN⟩ := named psA.length
    rw [← HN.out] at c0 hkA hnc'
    have hkI : (k : Int) < (N : Int) := by omega
    clear xb0 xz0
    go_region
    go_wp2
    go_returns
    refine ⟨rfl, .slice (some ⟨g', 0, none⟩) N cap', ?_, ?_, ?_⟩
    · rw [HRR.out, HN.out]
      have hSF := HSC.out.setFile k (by rw [← HN.out]; exact hkA) f (.slice ao sl cp) HOC.out HPAP.out
      rw [HPE.out] at hSF
      exact hSF.heap fun _ _ => rfl
    · intro b hb
      rcases HFB.out b hb with h | h
      · exact .inl h
      · exact .inr (by omega)
    · have hgF : (fun b => b = bs ∨ fv.ownBlock = some b) g' ∨ w.heap.size ≤ g' := by
        rcases HFB.out g' rfl with h | h
        · exact .inl (.inr h)
        · exact .inr (by omega)
      exact (((HCC.out.setCell (p := ⟨g', k * 3, none⟩) hgF _).setCell (p := ⟨g', k * 3 + 1, none⟩) hgF _).setCell (p := ⟨g', k * 3 + 2, none⟩) hgF _).drew
end Go.Proofs.YtffgbjojngnebaaDoor
namespace Go.Proofs.YtffgbjojngnebaaDoor
open Go.RowKit

set_option maxRecDepth 100000 in
set_option maxHeartbeats 1000000 in
theorem drop_st {w : World} {bd bs bc : Nat} {fv : Value} {ps : List (AF × Value)} {most : Nat} {fuse : Int} {dark : Bool} (h : St w bd bs bc fv ps most fuse dark) (hmax : ps.length ≤ 1000) (i : Nat) (hi : i < ps.length) :
    Calls Tryd.prog 68 #[.pointer (some ⟨bs, 0, none⟩), .int .i64 i] w fun e w' => e = .returned (.tuple #[]) ∧
      ∃ fv', St w' bd bs bc fv' (ps.take i ++ ps.drop (i + 1)) most fuse dark ∧ fv'.ownBlock = fv.ownBlock ∧ Chg (fun b => b = bs ∨ fv.ownBlock = some b) w w' := by
  rcases h.hf.2 with ⟨_, h0⟩ | ⟨g, cap, cur, hv, hbg, hgg, hnc, hcm, hcs, htake⟩
  · omega
  · subst hv
    obtain ⟨m, hm⟩ : ∃ m, ps.length = m + 1 := ⟨ps.length - 1, by omega⟩
    have hone : ∀ p ∈ ps, p.2.oneCell' = true := fun p hp => by
      obtain ⟨a, c, e, -⟩ := Own.rd (h.hb p hp)
      rw [e]
      rfl
    have HD : Hid _ := delete_one (w := w) (i := i) hm hgg (by omega) hcm hcs htake hone (by omega) (by omega)
    have HST : Hid _ := h
    have s0 := h.s0
    have sz := h.sz 0
    have hnb : bs ≠ g := fun e => (h.fv_ne (a := g) rfl).2.1 e.symm
    have hlts := h.lts
    rw [hm] at s0
    have HM : Hid _ := hm
    clear h hm hone hgg hcs htake
    obtain ⟨R, HR⟩ := named (ps.take i ++ ps.drop (i + 1))
    have HRL : Hid (R.length = m) := by
      rw [HR.out]
      have := HM.out
      simp only [Hid, List.length_append, List.length_take, List.length_drop]
      omega
    rw [← HR.out] at HD ⊢
    go_enter Tryd.func68, Tryd.ntmps68
    go_wp2_with fail
    refine Calls.mono HD.out ?_
    rintro e w1 ⟨rfl, hrow, hg⟩
    have hs1 : w1.heap[bs]? = w.heap[bs]? := hg.block bs hlts (fun e => hnb (by cases e; rfl))
    have c1 : w1.cell? ⟨bs, 0, none⟩ = w.cell? ⟨bs, 0, none⟩ := World.cell?_of_block (w := w) (w' := w1) (a := ⟨bs, 0, none⟩) hs1
    have z1 : w1.frozen? ⟨bs, 0, none⟩ = w.frozen? ⟨bs, 0, none⟩ := World.frozen?_of_block (w := w) (w' := w1) (a := ⟨bs, 0, none⟩) hs1
    rw [s0] at c1
    rw [sz] at z1
    have HROW : Hid _ := hrow
    have HG : Hid _ := hg
    clear hrow hg hs1
    go_wp2
    go_returns
    have hG : w.grownBy w1 (Value.slice (some ⟨g, 0, none⟩) ps.length cap).ownBlock := HG.out
    refine ⟨rfl, .slice (some ⟨g, 0, none⟩) m cap, HST.out.files hG (by rw [HRL.out]; exact HROW.out) (fun p hp => HST.out.hb p ?_) ?_, rfl, ?_⟩
    · rw [HR.out] at hp
      rcases List.mem_append.1 hp with h | h
      · exact List.mem_of_mem_take h
      · exact List.mem_of_mem_drop h
    · rw [HR.out, ← List.eraseIdx_eq_take_drop_succ]
      exact HST.out.hp.sublist (List.eraseIdx_sublist ..)
    · exact ((Chg.refl _ w).grown hG (fun k hk => .inl (.inr hk))).setCell (.inl (.inl rfl)) _
end Go.Proofs.YtffgbjojngnebaaDoor
namespace Go.Proofs.YtffgbjojngnebaaDoor
open Go.RowKit

/-- what a deed has done: the files are those, in memory of the disk's or new -/
def Did (w w' : World) (bd bs bc : Nat) (fv : Value) (ps : List (AF × Value)) (most : Nat) (fuse : Int) (dark : Bool) (fs' : List AF) : Prop :=
  ∃ fv' ps', St w' bd bs bc fv' ps' most fuse dark ∧ ps'.map Prod.fst = fs' ∧ (∀ b, Blk bd bs bc fv' ps' b → Blk bd bs bc fv ps b ∨ w.heap.size ≤ b) ∧ Chg (Blk bd bs bc fv ps) w w'
/-- how do ends -/
def Done (e : Ending) (w w' : World) (bd bs bc : Nat) (fv : Value) (ps : List (AF × Value)) (most : Nat) (fuse : Int) (dark : Bool) (fs' : List AF) : Prop :=
  (fuse = 0 ∧ e = .returned (.int .i64 15) ∧ Did w w' bd bs bc fv ps most (-1) true (ps.map Prod.fst)) ∨
  (fuse ≠ 0 ∧ e = .returned (.int .i64 0) ∧ Did w w' bd bs bc fv ps most (if 0 < fuse then fuse - 1 else fuse) dark fs')

theorem Did.of {w w1 w' : World} {bd bs bc : Nat} {fv : Value} {ps : List (AF × Value)} {most : Nat} {fuse : Int} {dark : Bool} {fs' : List AF} (h : Did w1 w' bd bs bc fv ps most fuse dark fs') (hc : Chg (Blk bd bs bc fv ps) w w1) : Did w w' bd bs bc fv ps most fuse dark fs' := by
  obtain ⟨fv', ps', h1, h2, h3, h4⟩ := h
  exact ⟨fv', ps', h1, h2, fun b hb => (h3 b hb).imp id (fun h => Nat.le_trans hc.size h), hc.trans h4 (fun _ _ h => h)⟩

set_option maxRecDepth 100000 in
set_option maxHeartbeats 1000000 in
theorem do_52 {w : World} {bd bs bc : Nat} {fv : Value} {ps : List (AF × Value)} {most : Nat} {fuse : Int} {dark : Bool} (h : St w bd bs bc fv ps most fuse dark) (hf : -1 ≤ fuse ∧ fuse ≤ 9223372036854775807) (c0 c1 c2 c3 c4 : Nat) (fs' : List AF)
    (hcall : ∀ w1 fz, St w1 bd bs bc fv ps most fz dark → (∀ k, k ≠ bs → w1.heap[k]? = w.heap[k]?) → Calls Tryd.prog 49 #[.pointer (some ⟨c0, 0, none⟩), .pointer (some ⟨c1, 0, none⟩), .pointer (some ⟨c2, 0, none⟩), .pointer (some ⟨c3, 0, none⟩), .pointer (some ⟨c4, 0, none⟩)] w1 fun e w' => e = .returned (.tuple #[]) ∧ Did w1 w' bd bs bc fv ps most fz dark fs') :
    Calls Tryd.prog 48 #[.pointer (some ⟨bs, 0, none⟩), .func (.func 49) #[] #[.pointer (some ⟨c0, 0, none⟩), .pointer (some ⟨c1, 0, none⟩), .pointer (some ⟨c2, 0, none⟩), .pointer (some ⟨c3, 0, none⟩), .pointer (some ⟨c4, 0, none⟩)]] w fun e w' => Done e w w' bd bs bc fv ps most fuse dark fs' := by
  have s3 := h.s3
  have s4 := h.s4
  have z3 := h.sz 3
  have z4 := h.sz 4
  have hlts := h.lts
  have HST : Hid _ := h
  have HC : Hid _ := hcall
  obtain ⟨hf1, hf2⟩ := hf
  clear h hcall
  by_cases h0 : fuse = 0
  · subst h0
    go_enter Tryd.func48, Tryd.ntmps48
    go_wp2
    go_ret
    refine .inl ⟨rfl, rfl, fv, ps, (HST.out.setDark true).setFuse (-1), rfl, fun b hb => .inl hb, ?_⟩
    exact ((Chg.refl _ w).setCell (p := ⟨bs, 4, none⟩) (.inl (.inr (.inl rfl))) _).setCell (p := ⟨bs, 3, none⟩) (.inl (.inr (.inl rfl))) _
  · have h0b : (fuse == 0) = false := by simpa using h0
    by_cases h1 : 0 < fuse
    · go_enter Tryd.func48, Tryd.ntmps48
      go_wp2_with fail
      refine Calls.mono (HC.out _ _ (HST.out.setFuse (fuse - 1)) (fun k hk => Below.heap_setCell _ _ _ _ hk)) ?_
      rintro e w1 ⟨rfl, hd⟩
      have HD : Hid _ := hd
      clear hd
      go_wp2
      go_ret
      refine .inr ⟨h0, rfl, ?_⟩
      rw [if_pos h1]
      exact Did.of HD.out ((Chg.refl _ w).setCell (p := ⟨bs, 3, none⟩) (.inl (.inr (.inl rfl))) _)
    · go_enter Tryd.func48, Tryd.ntmps48
      go_wp2_with fail
      refine Calls.mono (HC.out _ _ HST.out (fun _ _ => rfl)) ?_
      rintro e w1 ⟨rfl, hd⟩
      have HD : Hid _ := hd
      clear hd
      go_wp2
      go_ret
      refine .inr ⟨h0, rfl, ?_⟩
      rw [if_neg (by omega)]
      exact HD.out

set_option maxRecDepth 100000 in
set_option maxHeartbeats 1000000 in
theorem do_60 {w : World} {bd bs bc : Nat} {fv : Value} {ps : List (AF × Value)} {most : Nat} {fuse : Int} {dark : Bool} (h : St w bd bs bc fv ps most fuse dark) (hf : -1 ≤ fuse ∧ fuse ≤ 9223372036854775807) (c0 c1 : Nat) (fs' : List AF)
    (hcall : ∀ w1 fz, St w1 bd bs bc fv ps most fz dark → (∀ k, k ≠ bs → w1.heap[k]? = w.heap[k]?) → Calls Tryd.prog 52 #[.pointer (some ⟨c0, 0, none⟩), .pointer (some ⟨c1, 0, none⟩)] w1 fun e w' => e = .returned (.tuple #[]) ∧ Did w1 w' bd bs bc fv ps most fz dark fs') :
    Calls Tryd.prog 48 #[.pointer (some ⟨bs, 0, none⟩), .func (.func 52) #[] #[.pointer (some ⟨c0, 0, none⟩), .pointer (some ⟨c1, 0, none⟩)]] w fun e w' => Done e w w' bd bs bc fv ps most fuse dark fs' := by
  have s3 := h.s3
  have s4 := h.s4
  have z3 := h.sz 3
  have z4 := h.sz 4
  have hlts := h.lts
  have HST : Hid _ := h
  have HC : Hid _ := hcall
  obtain ⟨hf1, hf2⟩ := hf
  clear h hcall
  by_cases h0 : fuse = 0
  · subst h0
    go_enter Tryd.func48, Tryd.ntmps48
    go_wp2
    go_ret
    refine .inl ⟨rfl, rfl, fv, ps, (HST.out.setDark true).setFuse (-1), rfl, fun b hb => .inl hb, ?_⟩
    exact ((Chg.refl _ w).setCell (p := ⟨bs, 4, none⟩) (.inl (.inr (.inl rfl))) _).setCell (p := ⟨bs, 3, none⟩) (.inl (.inr (.inl rfl))) _
  · have h0b : (fuse == 0) = false := by simpa using h0
    by_cases h1 : 0 < fuse
    · go_enter Tryd.func48, Tryd.ntmps48
      go_wp2_with fail
      refine Calls.mono (HC.out _ _ (HST.out.setFuse (fuse - 1)) (fun k hk => Below.heap_setCell _ _ _ _ hk)) ?_
      rintro e w1 ⟨rfl, hd⟩
      have HD : Hid _ := hd
      clear hd
      go_wp2
      go_ret
      refine .inr ⟨h0, rfl, ?_⟩
      rw [if_pos h1]
      exact Did.of HD.out ((Chg.refl _ w).setCell (p := ⟨bs, 3, none⟩) (.inl (.inr (.inl rfl))) _)
    · go_enter Tryd.func48, Tryd.ntmps48
      go_wp2_with fail
      refine Calls.mono (HC.out _ _ HST.out (fun _ _ => rfl)) ?_
      rintro e w1 ⟨rfl, hd⟩
      have HD : Hid _ := hd
      clear hd
      go_wp2
      go_ret
      refine .inr ⟨h0, rfl, ?_⟩
      rw [if_neg (by omega)]
      exact HD.out

set_option maxRecDepth 100000 in
set_option maxHeartbeats 1000000 in
theorem do_56 {w : World} {bd bs bc : Nat} {fv : Value} {ps : List (AF × Value)} {most : Nat} {fuse : Int} {dark : Bool} (h : St w bd bs bc fv ps most fuse dark) (hf : -1 ≤ fuse ∧ fuse ≤ 9223372036854775807) (c0 c1 c2 : Nat) (fs' : List AF)
    (hcall : ∀ w1 fz, St w1 bd bs bc fv ps most fz dark → (∀ k, k ≠ bs → w1.heap[k]? = w.heap[k]?) → Calls Tryd.prog 94 #[.pointer (some ⟨c0, 0, none⟩), .pointer (some ⟨c1, 0, none⟩), .pointer (some ⟨c2, 0, none⟩)] w1 fun e w' => e = .returned (.tuple #[]) ∧ Did w1 w' bd bs bc fv ps most fz dark fs') :
    Calls Tryd.prog 48 #[.pointer (some ⟨bs, 0, none⟩), .func (.func 94) #[] #[.pointer (some ⟨c0, 0, none⟩), .pointer (some ⟨c1, 0, none⟩), .pointer (some ⟨c2, 0, none⟩)]] w fun e w' => Done e w w' bd bs bc fv ps most fuse dark fs' := by
  have s3 := h.s3
  have s4 := h.s4
  have z3 := h.sz 3
  have z4 := h.sz 4
  have hlts := h.lts
  have HST : Hid _ := h
  have HC : Hid _ := hcall
  obtain ⟨hf1, hf2⟩ := hf
  clear h hcall
  by_cases h0 : fuse = 0
  · subst h0
    go_enter Tryd.func48, Tryd.ntmps48
    go_wp2
    go_ret
    refine .inl ⟨rfl, rfl, fv, ps, (HST.out.setDark true).setFuse (-1), rfl, fun b hb => .inl hb, ?_⟩
    exact ((Chg.refl _ w).setCell (p := ⟨bs, 4, none⟩) (.inl (.inr (.inl rfl))) _).setCell (p := ⟨bs, 3, none⟩) (.inl (.inr (.inl rfl))) _
  · have h0b : (fuse == 0) = false := by simpa using h0
    by_cases h1 : 0 < fuse
    · go_enter Tryd.func48, Tryd.ntmps48
      go_wp2_with fail
      refine Calls.mono (HC.out _ _ (HST.out.setFuse (fuse - 1)) (fun k hk => Below.heap_setCell _ _ _ _ hk)) ?_
      rintro e w1 ⟨rfl, hd⟩
      have HD : Hid _ := hd
      clear hd
      go_wp2
      go_ret
      refine .inr ⟨h0, rfl, ?_⟩
      rw [if_pos h1]
      exact Did.of HD.out ((Chg.refl _ w).setCell (p := ⟨bs, 3, none⟩) (.inl (.inr (.inl rfl))) _)
    · go_enter Tryd.func48, Tryd.ntmps48
      go_wp2_with fail
      refine Calls.mono (HC.out _ _ HST.out (fun _ _ => rfl)) ?_
      rintro e w1 ⟨rfl, hd⟩
      have HD : Hid _ := hd
      clear hd
      go_wp2
      go_ret
      refine .inr ⟨h0, rfl, ?_⟩
      rw [if_neg (by omega)]
      exact HD.out

set_option maxRecDepth 100000 in
set_option maxHeartbeats 1000000 in
theorem do_61 {w : World} {bd bs bc : Nat} {fv : Value} {ps : List (AF × Value)} {most : Nat} {fuse : Int} {dark : Bool} (h : St w bd bs bc fv ps most fuse dark) (hf : -1 ≤ fuse ∧ fuse ≤ 9223372036854775807) (c0 c1 : Nat) (fs' : List AF)
    (hcall : ∀ w1 fz, St w1 bd bs bc fv ps most fz dark → (∀ k, k ≠ bs → w1.heap[k]? = w.heap[k]?) → Calls Tryd.prog 67 #[.pointer (some ⟨c0, 0, none⟩), .pointer (some ⟨c1, 0, none⟩)] w1 fun e w' => e = .returned (.tuple #[]) ∧ Did w1 w' bd bs bc fv ps most fz dark fs') :
    Calls Tryd.prog 48 #[.pointer (some ⟨bs, 0, none⟩), .func (.func 67) #[] #[.pointer (some ⟨c0, 0, none⟩), .pointer (some ⟨c1, 0, none⟩)]] w fun e w' => Done e w w' bd bs bc fv ps most fuse dark fs' := by
  have s3 := h.s3
  have s4 := h.s4
  have z3 := h.sz 3
  have z4 := h.sz 4
  have hlts := h.lts
  have HST : Hid _ := h
  have HC : Hid _ := hcall
  obtain ⟨hf1, hf2⟩ := hf
  clear h hcall
  by_cases h0 : fuse = 0
  · subst h0
    go_enter Tryd.func48, Tryd.ntmps48
    go_wp2
    go_ret
    refine .inl ⟨rfl, rfl, fv, ps, (HST.out.setDark true).setFuse (-1), rfl, fun b hb => .inl hb, ?_⟩
    exact ((Chg.refl _ w).setCell (p := ⟨bs, 4, none⟩) (.inl (.inr (.inl rfl))) _).setCell (p := ⟨bs, 3, none⟩) (.inl (.inr (.inl rfl))) _
  · have h0b : (fuse == 0) = false := by simpa using h0
    by_cases h1 : 0 < fuse
    · go_enter Tryd.func48, Tryd.ntmps48
      go_wp2_with fail
      refine Calls.mono (HC.out _ _ (HST.out.setFuse (fuse - 1)) (fun k hk => Below.heap_setCell _ _ _ _ hk)) ?_
      rintro e w1 ⟨rfl, hd⟩
      have HD : Hid _ := hd
      clear hd
      go_wp2
      go_ret
      refine .inr ⟨h0, rfl, ?_⟩
      rw [if_pos h1]
      exact Did.of HD.out ((Chg.refl _ w).setCell (p := ⟨bs, 3, none⟩) (.inl (.inr (.inl rfl))) _)
    · go_enter Tryd.func48, Tryd.ntmps48
      go_wp2_with fail
      refine Calls.mono (HC.out _ _ HST.out (fun _ _ => rfl)) ?_
      rintro e w1 ⟨rfl, hd⟩
      have HD : Hid _ := hd
      clear hd
      go_wp2
      go_ret
      refine .inr ⟨h0, rfl, ?_⟩
      rw [if_neg (by omega)]
      exact HD.out

set_option maxRecDepth 100000 in
set_option maxHeartbeats 1000000 in
theorem do_58 {w : World} {bd bs bc : Nat} {fv : Value} {ps : List (AF × Value)} {most : Nat} {fuse : Int} {dark : Bool} (h : St w bd bs bc fv ps most fuse dark) (hf : -1 ≤ fuse ∧ fuse ≤ 9223372036854775807) (c0 c1 c2 : Nat) (fs' : List AF)
    (hcall : ∀ w1 fz, St w1 bd bs bc fv ps most fz dark → (∀ k, k ≠ bs → w1.heap[k]? = w.heap[k]?) → Calls Tryd.prog 69 #[.pointer (some ⟨c0, 0, none⟩), .pointer (some ⟨c1, 0, none⟩), .pointer (some ⟨c2, 0, none⟩)] w1 fun e w' => e = .returned (.tuple #[]) ∧ Did w1 w' bd bs bc fv ps most fz dark fs') :
    Calls Tryd.prog 48 #[.pointer (some ⟨bs, 0, none⟩), .func (.func 69) #[] #[.pointer (some ⟨c0, 0, none⟩), .pointer (some ⟨c1, 0, none⟩), .pointer (some ⟨c2, 0, none⟩)]] w fun e w' => Done e w w' bd bs bc fv ps most fuse dark fs' := by
  have s3 := h.s3
  have s4 := h.s4
  have z3 := h.sz 3
  have z4 := h.sz 4
  have hlts := h.lts
  have HST : Hid _ := h
  have HC : Hid _ := hcall
  obtain ⟨hf1, hf2⟩ := hf
  clear h hcall
  by_cases h0 : fuse = 0
  · subst h0
    go_enter Tryd.func48, Tryd.ntmps48
    go_wp2
    go_ret
    refine .inl ⟨rfl, rfl, fv, ps, (HST.out.setDark true).setFuse (-1), rfl, fun b hb => .inl hb, ?_⟩
    exact ((Chg.refl _ w).setCell (p := ⟨bs, 4, none⟩) (.inl (.inr (.inl rfl))) _).setCell (p := ⟨bs, 3, none⟩) (.inl (.inr (.inl rfl))) _
  · have h0b : (fuse == 0) = false := by simpa using h0
    by_cases h1 : 0 < fuse
    · go_enter Tryd.func48, Tryd.ntmps48
      go_wp2_with fail
      refine Calls.mono (HC.out _ _ (HST.out.setFuse (fuse - 1)) (fun k hk => Below.heap_setCell _ _ _ _ hk)) ?_
      rintro e w1 ⟨rfl, hd⟩
      have HD : Hid _ := hd
      clear hd
      go_wp2
      go_ret
      refine .inr ⟨h0, rfl, ?_⟩
      rw [if_pos h1]
      exact Did.of HD.out ((Chg.refl _ w).setCell (p := ⟨bs, 3, none⟩) (.inl (.inr (.inl rfl))) _)
    · go_enter Tryd.func48, Tryd.ntmps48
      go_wp2_with fail
      refine Calls.mono (HC.out _ _ HST.out (fun _ _ => rfl)) ?_
      rintro e w1 ⟨rfl, hd⟩
      have HD : Hid _ := hd
      clear hd
      go_wp2
      go_ret
      refine .inr ⟨h0, rfl, ?_⟩
      rw [if_neg (by omega)]
      exact HD.out
end Go.Proofs.YtffgbjojngnebaaDoor
namespace Go.Proofs.YtffgbjojngnebaaDoor
open Go.RowKit

theorem cellsOf_set12 (ps : List (AF × Value)) (i : Nat) (hi : i < ps.length) (f : AF) (v : Value) (hf : f.name = ps[i].1.name) :
    ((cellsOf ps).set (i * 3 + 1) v).set (i * 3 + 2) (.int .i64 f.safe) = cellsOf (ps.take i ++ (f, v) :: ps.drop (i + 1)) := by
  rw [← cellsOf_set ps i hi]
  have h1 := (cellsOf_get ps i hi).1
  have hl := cellsOf_length ps
  have e : (cellsOf ps).set (i * 3) (.string f.name) = cellsOf ps := by
    rw [hf]
    apply List.ext_getElem?
    intro j
    rw [List.getElem?_set]
    by_cases e0 : i * 3 = j
    · subst e0
      rw [if_pos rfl, if_pos (by omega), h1]
    · rw [if_neg e0]
  rw [e]

theorem St.setTwo {w : World} {bd bs bc g cap : Nat} {ps : List (AF × Value)} {most : Nat} {fuse : Int} {dark : Bool} (h : St w bd bs bc (.slice (some ⟨g, 0, none⟩) ps.length cap) ps most fuse dark) (i : Nat) (hi : i < ps.length) (f : AF) (v : Value) (hf : f.name = ps[i].1.name) (hv : Own w 0 v f.bytes) (hap : ∀ p ∈ ps.take i ++ ps.drop (i + 1), Apart p.2 v) :
    St ((w.setCell ⟨g, i * 3 + 1, none⟩ v).setCell ⟨g, i * 3 + 2, none⟩ (.int .i64 f.safe)) bd bs bc (.slice (some ⟨g, 0, none⟩) ps.length cap) (ps.take i ++ (f, v) :: ps.drop (i + 1)) most fuse dark := by
  obtain ⟨o2, g2⟩ := World.ownsRow.stored h.hf (i * 3 + 1) v
  obtain ⟨o3, g3⟩ := World.ownsRow.stored o2 (i * 3 + 2) (.int .i64 f.safe)
  rw [cellsOf_set12 ps i hi f v hf] at o3
  refine h.row (gtrans g2 g3) ?_ (fun p hp => ?_) (pair_put h.hp i (i + 1) (by omega) (f, v) hap)
  · rw [put_len ps i hi]; exact o3
  · rcases mem_put hp with rfl | hp
    · exact hv
    · exact h.hb p hp

theorem noughts_rd (w : World) (z : Nat) (M : Array Value) (hM : M = (BV (List.replicate z 0)).toArray) (hz : z ≤ 140737488355328) : Rd (w.alloc (.cells M 5)) (.slice (some ⟨w.heap.size, 0, none⟩) z z) (List.replicate z 0) := by
  subst hM
  have h := Rd.new w (List.replicate z 0) 5 (by rw [List.length_replicate]; unfold maxLen; omega)
  rw [List.length_replicate] at h
  exact h
theorem made_noughts (z : Nat) : madeCells (Value.int .u8 0).cells z = (BV (List.replicate z 0)).toArray := by
  apply Array.ext
  · rw [size_madeCells]; simp [BV]
  · intro i h1 h2
    simp [madeCells, BV, Value.cells, Nat.mod_one]

set_option maxRecDepth 100000 in
set_option maxHeartbeats 2000000 in
theorem leave_st {w : World} {bd bs bc g cap : Nat} {ps : List (AF × Value)} {most : Nat} {fuse : Int} {dark : Bool} (h : St w bd bs bc (.slice (some ⟨g, 0, none⟩) ps.length cap) ps most fuse dark) (i : Nat) (hi : i < ps.length)
    (n z : Nat) (hn : n ≤ ps[i].1.bytes.length) (hsm : ps[i].1.bytes.length ≤ 16777216) (hz : z ≤ 16777216) :
    Calls Tryd.prog 70 #[.pointer (some ⟨g, i * 3, none⟩), .int .i64 n, .int .i64 z] w fun e w' => e = .returned (.tuple #[]) ∧
      ∃ v', St w' bd bs bc (.slice (some ⟨g, 0, none⟩) ps.length cap) (ps.take i ++ (⟨ps[i].1.name, ps[i].1.bytes.take n ++ List.replicate z 0, n + z⟩, v') :: ps.drop (i + 1)) most fuse dark ∧ (∀ b, v'.ownBlock = some b → w.heap.size ≤ b) ∧ Chg (fun b => b = g) w w' := by
  have mixed : Tryd.prog.follows Departure.mixedOrders = true := by kernel_rfl
  obtain ⟨i0, hinf, hz0, hz1, hz2⟩ := info_parts Tryd.info5
  obtain ⟨M, HM⟩ := named (BV (List.replicate z (0 : UInt8))).toArray
  have hmk : ∀ W : World, (Instr.makeSlice 22 (.int .i64 (z : Int)) (.int .i64 (z : Int))).run Tryd.prog W = .ok (.slice (some ⟨W.heap.size, 0, none⟩) z z) (W.alloc (.cells M 5)) := fun W => by
    have h := run_make (P := Tryd.prog) W 22 5 i0 (.int .u8 0) Tryd.underlying22 hinf hz0 .i64 .i64 (z : Int) (z : Int) (by omega) (by omega) (by rw [hz2]; omega) (by omega)
    rw [hz1, Nat.mul_one, show ((z : Nat) : Int).toNat = z by omega, made_noughts, ← HM.out] at h
    exact h
  clear hinf hz0 hz1 hz2
  obtain ⟨f, HF⟩ := named ps[i].1
  have hrd := Own.rd (h.hb _ (List.getElem_mem hi))
  rw [← HF.out] at hrd hn hsm ⊢
  obtain ⟨ao, cp, hsl, hrl, hrc, -⟩ := id hrd
  rw [hsl] at hrd
  obtain ⟨l, HL⟩ := named f.bytes.length
  rw [← HL.out] at hn hsm hrl hrd
  have HOW : Hid _ := hrd
  clear hrd
  have hfr := fr_of h.hf
  rcases hfr with ⟨hx, _⟩ | ⟨bf, cap2, hx, hbl, hnc, hcm, hc⟩
  · cases hx
  cases hx
  obtain ⟨c0, c1, c2⟩ := hc i hi
  rw [hsl, ← HL.out] at c1
  rw [← HF.out] at c0 c2
  have z1 := row_frozen h.hf (i * 3 + 1)
  have z2 := row_frozen h.hf (i * 3 + 2)
  have HST : Hid _ := h
  unfold maxLen at hrc
  obtain ⟨f', HF'⟩ := named (⟨f.name, f.bytes.take n ++ List.replicate z 0, n + z⟩ : AF)
  rw [← HF'.out]
  clear h hc hsl
  have hnl : (n : Int) ≤ (cp : Int) := by omega
  obtain ⟨nb, HNB⟩ := named (f.bytes.take n ++ List.replicate z 0)
  have HNL : Hid (nb.length = n + z) := by rw [HNB.out]; simp only [Hid, List.length_append, List.length_take, List.length_replicate]; rw [← HL.out]; omega
  have HCC : Hid (Calls Tryd.prog 45 #[.slice (some ⟨w.heap.size + 1, 0, none⟩) 2 2] ((w.alloc (.cells M 5)).alloc (.cells #[.slice ao n cp, .slice (some ⟨w.heap.size, 0, none⟩) z z] 22)).drew fun e w' => ∃ v, e = .returned v ∧ Own w' w.heap.size v nb ∧ Below w.heap.size w w') := by
    rw [HNB.out]
    have hc := concat2 ((w.alloc (.cells M 5)).drew) (.slice ao n cp) (.slice (some ⟨w.heap.size, 0, none⟩) z z) (f.bytes.take n) (List.replicate z 0) (Rd.drew (Rd.alloc (Rd.take HOW.out n (by rw [← HL.out]; exact hn)) _)) (Rd.drew (noughts_rd w z M HM.out (by omega))) (by rw [List.length_take, List.length_replicate]; omega)
    have e : ((w.alloc (.cells M 5)).drew).heap.size = w.heap.size + 1 := by simp
    rw [e] at hc
    refine Calls.mono (show Calls _ _ _ _ _ from hc) ?_
    rintro e w' ⟨v, rfl, ho, hb⟩
    exact ⟨v, rfl, ho.mono (by omega), ((((Below.refl w.heap.size w).alloc (Nat.le_refl _) _).drew)).trans (hb.mono (by omega))⟩
  go_enter Tryd.func70, Tryd.ntmps70
  go_wp2_with fail
  go_region_with (go_at_call 45; refine Calls.mono HCC.out ?_; rintro e w1 ⟨v1, rfl, hown1, hb1⟩; have HO1 : Hid _ := hown1; have HB1 : Hid _ := hb1; obtain ⟨a1, k1, hv1, -⟩ := Own.rd hown1; subst hv1; have d1 := (hb1.cell (p := ⟨g, i * 3 + 1, none⟩) hbl).trans c1; have y1 := (hb1.frozen (p := ⟨g, i * 3 + 1, none⟩) hbl).trans z1; have d2 := (hb1.cell (p := ⟨g, i * 3 + 2, none⟩) hbl).trans c2; have y2 := (hb1.frozen (p := ⟨g, i * 3 + 2, none⟩) hbl).trans z2; clear hown1 hb1)
  all_goals
    go_wp2
    go_returns
    refine ⟨rfl, .slice a1 nb.length k1, ?_, fun b hb => (World.ownsRow.lt HO1.out b hb).1, ((Chg.ofBelow HB1.out (fun b => b = g)).setCell (p := ⟨g, i * 3 + 1, none⟩) (.inl rfl) _).setCell (p := ⟨g, i * 3 + 2, none⟩) (.inl rfl) _⟩
    have hS := St.setTwo (HST.out.below HB1.out) i hi f' (.slice a1 nb.length k1) (by rw [HF'.out, ← HF.out]) (by
      have e : f'.bytes = nb := by rw [HF'.out, HNB.out]
      rw [e]; exact Own.mono HO1.out (Nat.zero_le _)) (fun p hp a ha hv => by
        have h1 := (World.ownsRow.lt HO1.out a hv).1
        have h2 := HST.out.lt a (.inr (.inr (.inr (.inr ⟨p, (List.mem_append.1 hp).elim List.mem_of_mem_take List.mem_of_mem_drop, ha⟩))))
        omega)
    have e2 : f'.safe = nb.length := by rw [HF'.out, HNL.out]
    rw [e2] at hS
    exact hS
set_option maxRecDepth 100000 in
set_option maxHeartbeats 400000 in
theorem sectorEnd_any (n : Nat) (hn : n ≤ 16777216) (w : World) : Calls Tryd.prog 87 #[.int .i64 n] w fun e w' => e = .returned (.int .i64 ((n + 63) / 64 * 64 : Nat)) ∧ w' = w := by
  have HE : Hid (((n : Int) + 64 - 1) / 64 * 64 = (((n + 63) / 64 * 64 : Nat) : Int)) := by unfold Hid; omega
  go_enter Tryd.func87, Tryd.ntmps87
  go_wp2
  go_ret
  exact ⟨ret_int HE.out, rfl⟩
/-- numbers that are read -/
def RdI (w : World) (v : Value) (l : List Int) : Prop :=
  ∃ ao cap, v = .slice ao l.length cap ∧ l.length ≤ cap ∧ cap ≤ maxLen ∧ (ao = none → cap = 0) ∧ ∀ a, ao = some a → ∀ i (h : i < l.length), w.cell? (a.add i) = some (.int .i64 l[i])
theorem RdI.below {w w' : World} {v : Value} {l : List Int} (h : RdI w v l) (hb : Below w.heap.size w w') : RdI w' v l := by
  obtain ⟨ao, cap, hv, h1, h2, h3, h4⟩ := h
  refine ⟨ao, cap, hv, h1, h2, h3, fun a ha i hi => ?_⟩
  have hc := h4 a ha i hi
  rw [hb.cell (World.block_lt_of_cell? w _ hc)]
  exact hc
theorem RdI.chg {w w' : World} {v : Value} {l : List Int} {F : Nat → Prop} (h : RdI w v l) (hb : Chg F w w') (hF : ∀ a, v.ownBlock = some a → l ≠ [] → ¬ F a) : RdI w' v l := by
  obtain ⟨ao, cap, hv, h1, h2, h3, h4⟩ := h
  refine ⟨ao, cap, hv, h1, h2, h3, fun a ha i hi => ?_⟩
  have hc := h4 a ha i hi
  have hlt := World.block_lt_of_cell? w _ hc
  have hbk : (a.add i).block = a.block := by unfold Addr.add; split <;> rfl
  rw [World.cell?_of_block (w := w) (hb.block _ hlt (by rw [hbk]; exact hF _ (by rw [hv, ha]; rfl) (by intro e; subst e; simp at hi)))]
  exact hc
theorem RdI.nil (w : World) : RdI w (.slice none 0 0) [] := ⟨none, 0, rfl, Nat.le_refl _, by simp [maxLen], fun _ => rfl, fun a h => by cases h⟩

set_option maxRecDepth 100000 in
set_option maxHeartbeats 400000 in
theorem told_any (v : Value) (l : List Int) (i : Nat) (w : World) (h : RdI w v l) (hi : i ≤ 1000) : Calls Tryd.prog 66 #[v, .int .i64 i] w fun e w' => e = .returned (.int .i64 (toldL l i)) ∧ w' = w := by
  obtain ⟨ao, cap, rfl, h1, h2, h3, h4⟩ := h
  unfold maxLen at h2
  by_cases hlt : i < l.length
  · cases ao with
    | none => have := h3 rfl; omega
    | some a =>
      have hc := h4 a rfl i hlt
      have HT : Hid (toldL l i = max l[i] 0) := by
        unfold toldL
        rw [if_pos hlt, List.getD_eq_getElem?_getD, List.getElem?_eq_getElem hlt]
        rfl
      obtain ⟨x, HX⟩ := named l[i]
      rw [← HX.out] at hc HT
      have hsp : a.spot = none := by
        have h0 := h4 a rfl 0 (by omega)
        cases hs : a.spot with
        | none => rfl
        | some y =>
          simp [Addr.add, World.cell?, hs] at h0
          split at h0 <;> simp at h0
      obtain ⟨ab, aof, asp⟩ := a
      simp only at hsp
      subst hsp
      rw [Addr.add_lit] at hc
      clear h4 h3
      obtain ⟨n, HN⟩ := named l.length
      rw [← HN.out] at hlt h1 ⊢
      have hlt' : ¬ ((n : Int) ≤ (i : Int)) := by omega
      go_enter Tryd.func66, Tryd.ntmps66
      go_wp2
      all_goals go_ret
      all_goals exact ⟨ret_int (by rw [HT.out]), rfl⟩
  · have HT : Hid (toldL l i = 0) := by unfold toldL; rw [if_neg hlt]; rfl
    obtain ⟨n, HN⟩ := named l.length
    rw [← HN.out] at hlt h1 ⊢
    have hlt' : (n : Int) ≤ (i : Int) := by omega
    clear h4 h3
    go_enter Tryd.func66, Tryd.ntmps66
    go_wp2
    go_ret
    exact ⟨ret_int HT.out.symm, rfl⟩

set_option maxRecDepth 100000 in
set_option maxHeartbeats 4000000 in
theorem crash_st {w : World} {bd bs bc g cap : Nat} {ps : List (AF × Value)} {most : Nat} {fuse : Int} {dark : Bool} (h : St w bd bs bc (.slice (some ⟨g, 0, none⟩) ps.length cap) ps most fuse dark) (i : Nat) (hi : i < ps.length)
    (keep tear : Int) (hk0 : 0 ≤ keep) (hk1 : keep ≤ 9223372036854775807) (ht0 : 0 ≤ tear) (ht1 : tear ≤ 9223372036854775807) (hsm : ps[i].1.bytes.length ≤ 16777216) (hsf : ps[i].1.safe ≤ ps[i].1.bytes.length) :
    Calls Tryd.prog 65 #[.pointer (some ⟨g, i * 3, none⟩), .int .i64 keep, .int .i64 tear] w fun e w' => e = .returned (.tuple #[]) ∧
      ∃ v', St w' bd bs bc (.slice (some ⟨g, 0, none⟩) ps.length cap) (ps.take i ++ (crashF ps[i].1 keep tear, v') :: ps.drop (i + 1)) most fuse dark ∧ (∀ b, v'.ownBlock = some b → w.heap.size ≤ b) ∧ Chg (fun b => b = g) w w' := by
  have mixed : Tryd.prog.follows Departure.mixedOrders = true := by kernel_rfl
  have HST : Hid _ := h
  obtain ⟨ao, cp, hsl, -⟩ := Own.rd (h.hb _ (List.getElem_mem hi))
  have hfr := fr_of h.hf
  rcases hfr with ⟨hx, _⟩ | ⟨bf, cap2, hx, hbl, hnc, hcm, hc⟩
  · cases hx
  cases hx
  obtain ⟨c0, c1, c2⟩ := hc i hi
  rw [hsl] at c1
  clear h hc hsl c0 hcm
  obtain ⟨f, HF⟩ := named ps[i].1
  have HSM : Hid _ := hsm
  rw [← HF.out] at c1 c2 hsm hsf ⊢
  obtain ⟨l, HL⟩ := named f.bytes.length
  obtain ⟨s, HS⟩ := named f.safe
  obtain ⟨K, HK⟩ := named (keptN f keep)
  obtain ⟨E, HE⟩ := named ((K + 63) / 64 * 64)
  obtain ⟨Z, HZ⟩ := named (noughtsN f keep tear)
  have hKI : (K : Int) = s + min keep ((l : Int) - s) := by
    rw [HK.out]; unfold keptN; rw [← HL.out, ← HS.out]; rw [← HL.out, ← HS.out] at hsf; omega
  have hZI : (Z : Int) = min tear (min (E : Int) l - K) := by
    rw [HZ.out]; unfold noughtsN; rw [← HK.out, ← HL.out, ← HE.out]
    have hKl : K ≤ l := by rw [← HL.out, ← HS.out] at hsf; omega
    have hKE : K ≤ E := by rw [HE.out]; omega
    omega
  rw [← HL.out] at c1 hsm hsf
  rw [← HS.out] at c2 hsf
  have HLV : Hid _ := fun W (hW : St W bd bs bc (.slice (some ⟨g, 0, none⟩) ps.length cap) ps most fuse dark) => leave_st hW i hi K Z (by rw [← HF.out, ← HL.out]; omega) HSM.out (by omega)
  rw [← HF.out] at HLV
  have HCF : Hid (crashF f keep tear = ⟨f.name, f.bytes.take K ++ List.replicate Z 0, K + Z⟩) := by unfold crashF; rw [← HK.out, ← HZ.out]; rfl
  rw [HCF.out]
  have HKI : Hid _ := hKI
  have HZI : Hid _ := hZI
  have hEb : E ≤ 20000000 := by rw [HE.out]; omega
  have hKb : K ≤ 16777216 := by omega
  clear hKI hZI
  go_enter Tryd.func65, Tryd.ntmps65
  go_wp2_with fail
  go_region_held3 (fun w' => w'.cell? ⟨g, i * 3 + 1, none⟩ = some (.slice ao l cp) ∧ w'.cell? ⟨g, i * 3 + 2, none⟩ = some (.int .i64 s)) (exact ⟨c1, c2⟩) (fail)
  have hq : IntKind.i64.wrap ((s : Int) + min keep (IntKind.i64.wrap ((l : Int) - s))) = K := by
    rw [IntKind.wrap_i64, IntKind.wrap_i64]
    have := HKI.out
    omega
  rw [hq]
  clear hq
  go_wp2_with fail
  have HSE : Hid _ := sectorEnd_any K hKb w.drew.drew
  rw [← HE.out] at HSE
  go_region_held3 (fun w' => w'.cell? ⟨g, i * 3 + 1, none⟩ = some (.slice ao l cp) ∧ w'.cell? ⟨g, i * 3 + 2, none⟩ = some (.int .i64 s)) (exact ⟨c1, c2⟩) (first | (go_at_call 87; refine Calls.mono HSE.out ?_; rintro e w1 ⟨rfl, rfl⟩))
  have hm : min (E : Int) l - K = ((min E l - K : Nat) : Int) := by
    have h1 := HKI.out
    have h2 : K ≤ E := by rw [HE.out]; omega
    omega
  have hz : min tear ((min E l - K : Nat) : Int) = Z := by
    have := HZI.out
    rw [hm] at this
    exact this.symm
  have hz2 : min tear (min (E : Int) l - K) = Z := HZI.out.symm
  clear hm hz
  go_wp2_with fail
  refine Calls.mono (HLV.out w.drew.drew (HST.out.heap fun _ _ => rfl)) ?_
  rintro e w2 ⟨rfl, v', hS, hv, hC⟩
  have HS2 : Hid _ := hS
  have HV2 : Hid _ := hv
  have HC2 : Hid _ := hC
  clear hS hv hC
  go_wp2
  go_returns
  exact ⟨rfl, v', HS2.out, HV2.out, ⟨HC2.out.os, HC2.out.tape, HC2.out.output, HC2.out.size, HC2.out.block⟩⟩
end Go.Proofs.YtffgbjojngnebaaDoor
namespace Go.Proofs.YtffgbjojngnebaaDoor
open Go.RowKit

/-- a file laid down at a place, in the stead of that which was there -/
def atF (fs : List AF) (k : Nat) (f : AF) : List AF := fs.take k ++ f :: fs.drop (k + 1)
theorem map_atF (ps : List (AF × Value)) (k : Nat) (f : AF) (v : Value) : (ps.take k ++ (f, v) :: ps.drop (k + 1)).map Prod.fst = atF (ps.map Prod.fst) k f := by
  simp [atF, List.map_take, List.map_drop]

theorem blk_put {bd bs bc : Nat} {fv fv' : Value} {ps : List (AF × Value)} {i j : Nat} {x : AF × Value} {N : Nat} (hf : ∀ b, fv'.ownBlock = some b → fv.ownBlock = some b ∨ N ≤ b) (hx : ∀ b, x.2.ownBlock = some b → (∃ p ∈ ps, p.2.ownBlock = some b) ∨ N ≤ b) :
    ∀ b, Blk bd bs bc fv' (ps.take i ++ x :: ps.drop j) b → Blk bd bs bc fv ps b ∨ N ≤ b := by
  rintro b (h | h | h | h | ⟨p, hp, h⟩)
  · exact .inl (.inl h)
  · exact .inl (.inr (.inl h))
  · exact .inl (.inr (.inr (.inl h)))
  · exact (hf b h).imp (fun h => .inr (.inr (.inr (.inl h)))) id
  · rcases mem_put hp with rfl | hp
    · exact (hx b h).imp (fun h => .inr (.inr (.inr (.inr h)))) id
    · exact .inl (.inr (.inr (.inr (.inr ⟨p, hp, h⟩))))

theorem cell_other (w : World) (g o : Nat) (u : Value) (b o' : Nat) (h : b ≠ g ∨ o' ≠ o) : (w.setCell ⟨g, o, none⟩ u).cell? ⟨b, o', none⟩ = w.cell? ⟨b, o', none⟩ := by
  rw [World.cell?_setCell_other]
  simp
  intro e
  rcases h with h | h
  · exact absurd e (by first | exact h | exact fun x => h x.symm)
  · first | exact h | exact fun x => h x.symm

set_option maxRecDepth 100000 in
set_option maxHeartbeats 2000000 in
theorem sync1 {w : World} {bd bs bc : Nat} {fv : Value} {ps : List (AF × Value)} {most : Nat} {fuse : Int} {dark : Bool} (h : St w bd bs bc fv ps most fuse dark) (cD cA k : Nat) (hk : k < ps.length)
    (hD : w.heap[cD]? = some (.cells #[.pointer (some ⟨bd, 0, none⟩)] 33 (0, 0))) (hA : w.heap[cA]? = some (.cells #[.int .i64 k] 3 (0, 0))) :
    Calls Tryd.prog 52 #[.pointer (some ⟨cD, 0, none⟩), .pointer (some ⟨cA, 0, none⟩)] w fun e w' => e = .returned (.tuple #[]) ∧
      Did w w' bd bs bc fv ps most fuse dark (atF (ps.map Prod.fst) k ⟨ps[k].1.name, ps[k].1.bytes, ps[k].1.bytes.length⟩) := by
  have mixed : Tryd.prog.follows Departure.mixedOrders = true := by kernel_rfl
  have dD : w.cell? ⟨cD, 0, none⟩ = some (.pointer (some ⟨bd, 0, none⟩)) := by rw [cell_of hD]; rfl
  have dA : w.cell? ⟨cA, 0, none⟩ = some (.int .i64 k) := by rw [cell_of hA]; rfl
  have d0 := h.d0
  have s0 := h.s0
  have HST : Hid _ := h
  obtain ⟨ao, cp, hsl, -⟩ := Own.rd (h.hb _ (List.getElem_mem hk))
  rcases fr_of h.hf with ⟨_, hx⟩ | ⟨g, cap, hfv, hbl, hnc, hcm, hc⟩
  · rw [hx] at hk; simp at hk
  obtain ⟨c0, c1, c2⟩ := hc k hk
  rw [hsl] at c1
  subst hfv
  have z2 := row_frozen h.hf (k * 3 + 2)
  obtain ⟨cur, hgg⟩ := row_elem h.hf (a := g) rfl
  have n1 : bs ≠ g := fun e => (h.fv_ne (a := g) rfl).2.1 e.symm
  have n2 : bd ≠ g := fun e => (h.fv_ne (a := g) rfl).1 e.symm
  have n3 : cD ≠ g := ne_of_elem hD hgg (by decide)
  have n4 : cA ≠ g := ne_of_elem hA hgg (by decide)
  obtain ⟨l, HL⟩ := named ps[k].1.bytes.length
  rw [← HL.out] at c1
  obtain ⟨s, HS⟩ := named ps[k].1.safe
  rw [← HS.out] at c2
  have HE : Hid _ := HST.out.setSafe k hk l
  have HM : Hid (((ps.take k ++ (⟨ps[k].1.name, ps[k].1.bytes, l⟩, ps[k].2) :: ps.drop (k + 1)).map Prod.fst) = atF (ps.map Prod.fst) k ⟨ps[k].1.name, ps[k].1.bytes, ps[k].1.bytes.length⟩) := by rw [map_atF, HL.out]; rfl
  obtain ⟨R, HR⟩ := named (atF (ps.map Prod.fst) k ⟨ps[k].1.name, ps[k].1.bytes, ps[k].1.bytes.length⟩)
  rw [← HR.out] at HM ⊢
  have HKL : Hid (k < ps.length) := hk
  obtain ⟨N, HN⟩ := named ps.length
  rw [← HN.out] at s0 hk hnc
  clear h hc hsl c0 hcm hgg hD hA
  have hs1 : (w.setCell ⟨g, k * 3 + 2, none⟩ (.int .i64 l)).drew.cell? ⟨cD, 0, none⟩ = some (.pointer (some ⟨bd, 0, none⟩)) ∧ (w.setCell ⟨g, k * 3 + 2, none⟩ (.int .i64 l)).drew.cell? ⟨cA, 0, none⟩ = some (.int .i64 k) ∧ (w.setCell ⟨g, k * 3 + 2, none⟩ (.int .i64 l)).drew.cell? ⟨bd, 0, none⟩ = some (.pointer (some ⟨bs, 0, none⟩)) ∧ (w.setCell ⟨g, k * 3 + 2, none⟩ (.int .i64 l)).drew.cell? ⟨bs, 0, none⟩ = some (.slice (some ⟨g, 0, none⟩) N cap) ∧ (w.setCell ⟨g, k * 3 + 2, none⟩ (.int .i64 l)).drew.cell? ⟨g, k * 3 + 1, none⟩ = some (.slice ao l cp) :=
    ⟨(cell_other w g _ _ _ _ (.inl n3)).trans dD, (cell_other w g _ _ _ _ (.inl n4)).trans dA, (cell_other w g _ _ _ _ (.inl n2)).trans d0, (cell_other w g _ _ _ _ (.inl n1)).trans s0, (cell_other w g _ _ _ _ (.inr (by omega))).trans c1⟩
  have HS1 : Hid _ := hs1
  clear hs1
  go_enter Tryd.func52, Tryd.ntmps52
  go_wp2_with fail
  go_region_held3 (fun w' => w'.cell? ⟨cD, 0, none⟩ = some (.pointer (some ⟨bd, 0, none⟩)) ∧ w'.cell? ⟨cA, 0, none⟩ = some (.int .i64 k) ∧ w'.cell? ⟨bd, 0, none⟩ = some (.pointer (some ⟨bs, 0, none⟩)) ∧ w'.cell? ⟨bs, 0, none⟩ = some (.slice (some ⟨g, 0, none⟩) N cap) ∧ w'.cell? ⟨g, k * 3 + 1, none⟩ = some (.slice ao l cp)) (first | exact HS1.out | exact ⟨dD, dA, d0, s0, c1⟩) (fail)
  go_wp2
  go_returns
  refine ⟨rfl, _, _, HE.out.heap fun _ _ => rfl, HM.out, blk_put (fun b hb => .inl hb) (fun b hb => .inl ⟨_, List.getElem_mem HKL.out, hb⟩), ?_⟩
  exact ((Chg.refl _ w).setCell (p := ⟨g, k * 3 + 2, none⟩) (.inl (.inr (.inr (.inr (.inl rfl))))) _).drew

theorem map_dropF (ps : List (AF × Value)) (k : Nat) : (ps.take k ++ ps.drop (k + 1)).map Prod.fst = dropF (ps.map Prod.fst) k := by
  simp [dropF, List.map_take, List.map_drop]
theorem Chg.cell {F : Nat → Prop} {w w' : World} (h : Chg F w w') {b : Nat} (hl : b < w.heap.size) (hb : ¬ F b) (o : Nat) : w'.cell? ⟨b, o, none⟩ = w.cell? ⟨b, o, none⟩ := World.cell?_of_block (w := w) (a := ⟨b, o, none⟩) (h.block b hl hb)
theorem Chg.frozen {F : Nat → Prop} {w w' : World} (h : Chg F w w') {b : Nat} (hl : b < w.heap.size) (hb : ¬ F b) (o : Nat) : w'.frozen? ⟨b, o, none⟩ = w.frozen? ⟨b, o, none⟩ := World.frozen?_of_block (w := w) (a := ⟨b, o, none⟩) (h.block b hl hb)

set_option maxRecDepth 100000 in
set_option maxHeartbeats 2000000 in
theorem remove1 {w : World} {bd bs bc : Nat} {fv : Value} {ps : List (AF × Value)} {most : Nat} {fuse : Int} {dark : Bool} (h : St w bd bs bc fv ps most fuse dark) (cD cA k : Nat) (hk : k < ps.length) (hmax : ps.length ≤ 1000)
    (hD : w.heap[cD]? = some (.cells #[.pointer (some ⟨bd, 0, none⟩)] 33 (0, 0))) (hA : w.heap[cA]? = some (.cells #[.int .i64 k] 3 (0, 0))) :
    Calls Tryd.prog 67 #[.pointer (some ⟨cD, 0, none⟩), .pointer (some ⟨cA, 0, none⟩)] w fun e w' => e = .returned (.tuple #[]) ∧
      Did w w' bd bs bc fv ps most fuse dark (dropF (ps.map Prod.fst) k) := by
  have mixed : Tryd.prog.follows Departure.mixedOrders = true := by kernel_rfl
  have dD : w.cell? ⟨cD, 0, none⟩ = some (.pointer (some ⟨bd, 0, none⟩)) := by rw [cell_of hD]; rfl
  have dA : w.cell? ⟨cA, 0, none⟩ = some (.int .i64 k) := by rw [cell_of hA]; rfl
  have d0 := h.d0
  have HST : Hid _ := h
  have nF : ∀ b (c : Array Value) (e : TypeId), w.heap[b]? = some (.cells c e (0, 0)) → e ≠ 80 → e ≠ 84 → ¬ (fun b => b = bs ∨ fv.ownBlock = some b) b := by
    rintro b c e hb h1 h2 (rfl | hb2)
    · exact ne_of_elem hb h.hs h1 rfl
    · obtain ⟨c', hc'⟩ := row_elem h.hf hb2
      exact ne_of_elem hb hc' h2 rfl
  have n1 := nF cD _ _ hD (by decide) (by decide)
  have n2 := nF cA _ _ hA (by decide) (by decide)
  have n3 := nF bd _ _ h.hd (by decide) (by decide)
  have l1 : cD < w.heap.size := (Array.getElem?_eq_some_iff.1 hD).1
  have l2 : cA < w.heap.size := (Array.getElem?_eq_some_iff.1 hA).1
  have l3 := h.ltd
  have HN : Hid _ := And.intro n1 (And.intro n2 n3)
  have HDR : Hid _ := drop_st (w := w.drew) (h.heap fun _ _ => rfl) hmax k hk
  have HM : Hid _ := map_dropF ps k
  obtain ⟨R, HR⟩ := named (dropF (ps.map Prod.fst) k)
  rw [← HR.out] at HM ⊢
  clear h nF n1 n2 n3 hD hA
  go_enter Tryd.func67, Tryd.ntmps67
  go_wp2_with fail
  go_region_held3 (fun w' => w'.cell? ⟨cD, 0, none⟩ = some (.pointer (some ⟨bd, 0, none⟩)) ∧ w'.cell? ⟨cA, 0, none⟩ = some (.int .i64 k) ∧ w'.cell? ⟨bd, 0, none⟩ = some (.pointer (some ⟨bs, 0, none⟩))) (first | exact HS1.out | exact ⟨dD, dA, d0⟩)
    (first | (go_at_call 68; refine Calls.mono HDR.out ?_; rintro e w1 ⟨rfl, fv', hS, hfb, hC⟩; have HS1 : Hid (w1.cell? ⟨cD, 0, none⟩ = some (.pointer (some ⟨bd, 0, none⟩)) ∧ w1.cell? ⟨cA, 0, none⟩ = some (.int .i64 k) ∧ w1.cell? ⟨bd, 0, none⟩ = some (.pointer (some ⟨bs, 0, none⟩))) := ⟨(Chg.cell hC l1 HN.out.1 0).trans dD, (Chg.cell hC l2 HN.out.2.1 0).trans dA, (Chg.cell hC l3 HN.out.2.2 0).trans d0⟩; have HS2 : Hid _ := hS; have HF2 : Hid _ := hfb; have HC2 : Hid _ := hC; clear hS hfb hC))
  go_wp2
  go_returns
  refine ⟨rfl, _, _, HS2.out, HM.out, ?_, Chg.mono ⟨HC2.out.os, HC2.out.tape, HC2.out.output, HC2.out.size, HC2.out.block⟩ ?_⟩
  · rintro b (h | h | h | h | ⟨p, hp, h⟩)
    · exact .inl (.inl h)
    · exact .inl (.inr (.inl h))
    · exact .inl (.inr (.inr (.inl h)))
    · exact .inl (.inr (.inr (.inr (.inl (HF2.out.symm.trans h)))))
    · exact .inl (.inr (.inr (.inr (.inr ⟨p, (List.mem_append.1 hp).elim List.mem_of_mem_take List.mem_of_mem_drop, h⟩))))
  · rintro b _ (h | h)
    · exact .inr (.inl h)
    · exact .inr (.inr (.inr (.inl h)))

set_option maxRecDepth 100000 in
set_option maxHeartbeats 2000000 in
theorem cut1 {w : World} {bd bs bc : Nat} {fv : Value} {ps : List (AF × Value)} {most : Nat} {fuse : Int} {dark : Bool} (h : St w bd bs bc fv ps most fuse dark) (cD cA cN k n : Nat) (hk : k < ps.length) (hn : n ≤ ps[k].1.bytes.length) (hsm : ps[k].1.bytes.length ≤ 16777216)
    (hD : w.heap[cD]? = some (.cells #[.pointer (some ⟨bd, 0, none⟩)] 33 (0, 0))) (hA : w.heap[cA]? = some (.cells #[.int .i64 k] 3 (0, 0))) (hN : w.heap[cN]? = some (.cells #[.int .i64 n] 3 (0, 0))) :
    Calls Tryd.prog 69 #[.pointer (some ⟨cD, 0, none⟩), .pointer (some ⟨cA, 0, none⟩), .pointer (some ⟨cN, 0, none⟩)] w fun e w' => e = .returned (.tuple #[]) ∧
      Did w w' bd bs bc fv ps most fuse dark (atF (ps.map Prod.fst) k ⟨ps[k].1.name, ps[k].1.bytes.take n, n⟩) := by
  have mixed : Tryd.prog.follows Departure.mixedOrders = true := by kernel_rfl
  have dD : w.cell? ⟨cD, 0, none⟩ = some (.pointer (some ⟨bd, 0, none⟩)) := by rw [cell_of hD]; rfl
  have dA : w.cell? ⟨cA, 0, none⟩ = some (.int .i64 k) := by rw [cell_of hA]; rfl
  have dN : w.cell? ⟨cN, 0, none⟩ = some (.int .i64 n) := by rw [cell_of hN]; rfl
  have d0 := h.d0
  have s0 := h.s0
  have HST : Hid _ := h
  obtain ⟨g, cap, hfv, hnc, hcm⟩ := row_pos h.hf (by omega)
  subst hfv
  obtain ⟨cur, hgg⟩ := row_elem h.hf (a := g) rfl
  have l1 : cD < w.heap.size := (Array.getElem?_eq_some_iff.1 hD).1
  have l2 : cA < w.heap.size := (Array.getElem?_eq_some_iff.1 hA).1
  have l3 := h.ltd
  have l4 : cN < w.heap.size := (Array.getElem?_eq_some_iff.1 hN).1
  have l5 := h.lts
  have HNE : Hid (cD ≠ g ∧ cA ≠ g ∧ bd ≠ g ∧ cN ≠ g ∧ bs ≠ g) := ⟨ne_of_elem hD hgg (by decide), ne_of_elem hA hgg (by decide), ne_of_elem h.hd hgg (by decide), ne_of_elem hN hgg (by decide), ne_of_elem h.hs hgg (by decide)⟩
  have HLV : Hid _ := leave_st (w := w.drew) (h.heap fun _ _ => rfl) k hk n 0 hn hsm (by omega)
  have HM : Hid (∀ v, (ps.take k ++ ((⟨ps[k].1.name, ps[k].1.bytes.take n ++ List.replicate 0 0, n + 0⟩ : AF), v) :: ps.drop (k + 1)).map Prod.fst = atF (ps.map Prod.fst) k ⟨ps[k].1.name, ps[k].1.bytes.take n, n⟩) := fun v => by rw [map_atF]; simp
  obtain ⟨R, HR⟩ := named (atF (ps.map Prod.fst) k ⟨ps[k].1.name, ps[k].1.bytes.take n, n⟩)
  rw [← HR.out] at HM ⊢
  obtain ⟨N, HNN⟩ := named ps.length
  have hkI : (k : Int) < (N : Int) := by rw [HNN.out]; omega
  rw [← HNN.out] at s0
  clear h hD hA hN hgg hn hsm hnc
  go_enter Tryd.func69, Tryd.ntmps69
  go_wp2_with fail
  go_region_held3 (fun w' => w'.cell? ⟨cD, 0, none⟩ = some (.pointer (some ⟨bd, 0, none⟩)) ∧ w'.cell? ⟨cA, 0, none⟩ = some (.int .i64 k) ∧ w'.cell? ⟨bd, 0, none⟩ = some (.pointer (some ⟨bs, 0, none⟩)) ∧ w'.cell? ⟨cN, 0, none⟩ = some (.int .i64 n) ∧ w'.cell? ⟨bs, 0, none⟩ = some (.slice (some ⟨g, 0, none⟩) N cap)) (first | exact HS1.out | exact ⟨dD, dA, d0, dN, s0⟩)
    (first | (go_at_call 70; refine Calls.mono HLV.out ?_; rintro e w1 ⟨rfl, v', hS, hvb, hC⟩; have HS1 : Hid (w1.cell? ⟨cD, 0, none⟩ = some (.pointer (some ⟨bd, 0, none⟩)) ∧ w1.cell? ⟨cA, 0, none⟩ = some (.int .i64 k) ∧ w1.cell? ⟨bd, 0, none⟩ = some (.pointer (some ⟨bs, 0, none⟩)) ∧ w1.cell? ⟨cN, 0, none⟩ = some (.int .i64 n) ∧ w1.cell? ⟨bs, 0, none⟩ = some (.slice (some ⟨g, 0, none⟩) N cap)) := ⟨(Chg.cell hC l1 HNE.out.1 0).trans dD, (Chg.cell hC l2 HNE.out.2.1 0).trans dA, (Chg.cell hC l3 HNE.out.2.2.1 0).trans d0, (Chg.cell hC l4 HNE.out.2.2.2.1 0).trans dN, (Chg.cell hC l5 HNE.out.2.2.2.2 0).trans s0⟩; have HS2 : Hid _ := hS; have HF2 : Hid _ := hvb; have HC2 : Hid _ := hC; clear hS hvb hC))
  go_wp2
  go_returns
  refine ⟨rfl, _, _, HS2.out, HM.out _, blk_put (fun b hb => .inl hb) (fun b hb => .inr (HF2.out b hb)), Chg.mono ⟨HC2.out.os, HC2.out.tape, HC2.out.output, HC2.out.size, HC2.out.block⟩ ?_⟩
  rintro b _ rfl
  exact .inr (.inr (.inr (.inl rfl)))
end Go.Proofs.YtffgbjojngnebaaDoor
