/-
  The contract of put. Own work.
-/
import Derived.Test.YtloigepmmhcibaaDh
import Derived.Test.YtloigepmmhcibaaMemb
import Derived.Deep.RegionHeld3
import Derived.Deep.Cut
import Derived.Deep.CutRange
namespace Go.Proofs.Ytloigepmmhcibaa
open Go.RowKit

theorem row_pos {w : World} {v : Value} {e k n : Nat} {xs : List Value} (h : w.ownsRow 0 e k v n xs) (hn : 0 < n) : ∃ g cap, v = .slice (some ⟨g, 0, none⟩) n cap ∧ n ≤ cap ∧ cap ≤ 9223372036854775807 := by
  rcases h.2 with ⟨_, h0⟩ | ⟨g, cap, cur, hv, _, _, h1, h2, _⟩
  · omega
  · exact ⟨g, cap, hv, h1, by unfold maxLen at h2; omega⟩
theorem row_frozen {w : World} {e k n g cap : Nat} {xs : List Value} (h : w.ownsRow 0 e k (.slice (some ⟨g, 0, none⟩) n cap) n xs) (i : Nat) : w.frozen? ⟨g, i, none⟩ = false := by
  obtain ⟨c, hc⟩ := row_elem h (a := g) rfl
  exact frozen_of hc i

set_option maxRecDepth 100000 in
set_option maxHeartbeats 2000000 in
theorem put_st {w : World} {bd bs bc : Nat} {fv : Value} {ps : List (AF × Value)} {most : Nat} {fuse : Int} {dark : Bool} (h : St w bd bs bc fv ps most fuse dark) (hs : sorted (ps.map Prod.fst)) (hmax : ps.length ≤ 999)
    (f : AF) (sv : Value) (hsv : Own w 0 sv f.bytes) (hap : ∀ p ∈ ps, Apart p.2 sv) (hn : f.name.size ≤ 1000) :
    Calls Try.prog 53 #[.pointer (some ⟨bs, 0, none⟩), .agg #[.string f.name, sv, .int .i64 f.safe]] w fun e w' => e = .returned (.tuple #[]) ∧
      ∃ fv', St w' bd bs bc fv' (ps.take (posF (ps.map Prod.fst) f.name) ++ (f, sv) :: ps.drop (if isF (ps.map Prod.fst) f.name then posF (ps.map Prod.fst) f.name + 1 else posF (ps.map Prod.fst) f.name)) most fuse dark ∧
        (∀ b, fv'.ownBlock = some b → fv.ownBlock = some b ∨ w.heap.size ≤ b) ∧ Chg (fun b => b = bs ∨ fv.ownBlock = some b) w w' := by
  have mixed : Try.prog.follows Departure.mixedOrders = true := by kernel_rfl
  obtain ⟨ao, cp, hsl, -⟩ := Own.rd hsv
  have s1 := h.s1
  have hlts := h.lts
  have HST : Hid _ := h
  have HS : Hid _ := hs
  have HSV : Hid _ := hsv
  have HAP : Hid _ := hap
  obtain ⟨sl, HSL⟩ := named f.bytes.length
  rw [← HSL.out] at hsl
  subst hsl
  clear h hs hsv hap
  obtain ⟨fs, HF⟩ := named (ps.map Prod.fst)
  have HLEN : Hid (ps.length = fs.length) := by rw [HF.out]; simp [Hid]
  rw [← HF.out]
  have HS' : Hid (sorted fs) := by rw [HF.out]; exact HS.out
  have hpl := posF_le fs f.name
  rw [← HLEN.out] at hpl
  have HPB : Hid _ := fun h : isF fs f.name = true => (isF_lt h).1
  rw [← HLEN.out] at HPB
  obtain ⟨k, HK⟩ := named (posF fs f.name)
  rw [← HK.out] at hpl HPB ⊢
  obtain ⟨j, HJ⟩ := named (if isF fs f.name = true then k + 1 else k)
  rw [← HJ.out]
  obtain ⟨RR, HRR⟩ := named (ps.take k ++ (f, Value.slice ao sl cp) :: ps.drop j)
  rw [← HRR.out]
  go_enter Try.func53, Try.ntmps53
  go_wp2_with fail
  have hs0 : (w.alloc (Obj.cells #[Value.string f.name, Value.slice ao sl cp, Value.int IntKind.i64 f.safe] 83)).drew.cell? ⟨bs, 1, none⟩ = some (.func (.func 40) #[] #[.pointer (some ⟨bc, 0, none⟩)]) ∧ (w.alloc (Obj.cells #[Value.string f.name, Value.slice ao sl cp, Value.int IntKind.i64 f.safe] 83)).drew.cell? ⟨w.heap.size, 0, none⟩ = some (.string f.name) := ⟨(HST.out.below (((Below.refl _ _).alloc (Nat.le_refl _) _).drew)).s1, by simp⟩
  go_region_held3 (fun w' => w'.cell? ⟨bs, 1, none⟩ = some (.func (.func 40) #[] #[.pointer (some ⟨bc, 0, none⟩)]) ∧ w'.cell? ⟨w.heap.size, 0, none⟩ = some (.string f.name)) (first | exact hs1 | exact hs0) (first | (go_at_call 40; refine (place_any (HST.out.below (((Below.refl _ _).alloc (Nat.le_refl _) _).drew)) HS.out (by omega) f.name).mono ?_; rintro e w1 ⟨rfl, hb1⟩; have hs1 : w1.cell? ⟨bs, 1, none⟩ = some (.func (.func 40) #[] #[.pointer (some ⟨bc, 0, none⟩)]) ∧ w1.cell? ⟨w.heap.size, 0, none⟩ = some (.string f.name) := ⟨(hb1.cell (p := ⟨bs, 1, none⟩) (by simp; omega)).trans hs0.1, (hb1.cell (p := ⟨w.heap.size, 0, none⟩) (by simp)).trans hs0.2⟩))
  clear hs0 hs1
  have hB : Below w.heap.size w w1 := (((Below.refl w.heap.size w).alloc (Nat.le_refl _) (Obj.cells #[Value.string f.name, Value.slice ao sl cp, Value.int IntKind.i64 f.safe] 83)).drew).trans (hb1.mono (by simp))
  have hx1 : w1.heap[w.heap.size]? = some (.cells #[Value.string f.name, Value.slice ao sl cp, Value.int IntKind.i64 f.safe] 83 (0, 0)) := by
    rw [hb1.block _ (by simp)]
    exact heap_alloc_new w _
  have HST1 : Hid _ := HST.out.below hB
  have HX1 : Hid _ := hx1
  have HB : Hid _ := hB
  have hz1 : w.heap.size < w1.heap.size := (Array.getElem?_eq_some_iff.1 hx1).1
  rw [← HF.out, ← HK.out]
  clear hb1 hx1 hB s1
  have hone : ∀ p ∈ ps, p.2.oneCell' = true := fun p hp => by
    obtain ⟨a, c, e, -⟩ := Own.rd (HST1.out.hb p hp)
    rw [e]
    rfl
  have HONE : Hid _ := hone
  clear hone
  cases hi : isF fs f.name with
  | true =>
    have HJE : Hid (j = k + 1) := by rw [HJ.out, hi]; rfl
    have hkA : k < ps.length := HPB.out hi
    obtain ⟨g', cap', hfv, hnc', hcm'⟩ := row_pos HST.out.hf (by omega)
    subst hfv
    have HPE : Hid (ps.take k ++ (f, Value.slice ao sl cp) :: ps.drop (k + 1) = ps.take k ++ (f, Value.slice ao sl cp) :: ps.drop j) := by
      rw [HJE.out]
      rfl
    have HPAP : Hid (∀ p ∈ ps.take k ++ ps.drop (k + 1), Apart p.2 (.slice ao sl cp)) := by
      intro p hp
      rcases List.mem_append.1 hp with h | h
      · exact HAP.out p (List.mem_of_mem_take h)
      · exact HAP.out p (List.mem_of_mem_drop h)
    have HA : Hid _ := HST1.out
    have HXA : Hid _ := HX1.out
    have HCH : Hid (Chg (fun b => b = bs ∨ (Value.slice (some ⟨g', 0, none⟩) ps.length cap').ownBlock = some b) w w1) := Chg.ofBelow HB.out _
    have HFB : Hid (∀ b, (Value.slice (some ⟨g', 0, none⟩) ps.length cap').ownBlock = some b → (Value.slice (some ⟨g', 0, none⟩) ps.length cap').ownBlock = some b ∨ w.heap.size < b) := fun b hb => .inl hb
    have s0 := HST1.out.s0
    have sz := HST1.out.sz 0
    go_upto_region 4 with fail
    obtain ⟨wA, HWA⟩ : ∃ wA, wA = w1 := ⟨_, rfl⟩
    subst HWA
    clear s0 sz
    have hxl : w.heap.size < wA.heap.size := (Array.getElem?_eq_some_iff.1 HXA.out).1
    have xc0 : wA.cell? ⟨w.heap.size, 0, none⟩ = some (.string f.name) := by rw [cell_of HXA.out]; rfl
    go_wp2_with fail
    refine (clone_any _ _ (by omega)).mono ?_
    rintro e wB ⟨rfl, hbB⟩
    have HXB : Hid (wB.heap[w.heap.size]? = some (.cells #[Value.string f.name, Value.slice ao sl cp, Value.int IntKind.i64 f.safe] 83 (0, 0))) := (hbB.block _ hxl).trans HXA.out
    have HSB : Hid _ := HA.out.below hbB
    have HCB : Hid _ := Chg.trans HCH.out (Chg.ofBelow hbB (fun b => b = bs ∨ (Value.slice (some ⟨g', 0, none⟩) ps.length cap').ownBlock = some b)) (fun _ _ h => h)
    have HOB : Hid (Own wB 0 (.slice ao sl cp) f.bytes) := Own.heap HSV.out fun a ha => by
      have hlt := (World.ownsRow.lt HSV.out a ha).2
      have hn := HST.out.by_ne HSV.out ha
      exact HCB.out.block a hlt (fun h => by
        rcases h with rfl | h
        · exact hn.2.1 rfl
        · exact hn.2.2.2 h)
    have xb0 : wB.cell? ⟨w.heap.size, 0, none⟩ = some (.string f.name) := by rw [cell_of HXB.out]; rfl
    have xz0 : wB.frozen? ⟨w.heap.size, 0, none⟩ = false := frozen_of HXB.out 0
    have hszB := hbB.size
    clear hbB xc0 HA HCH HXA
    go_upto_region 5 with fail
    obtain ⟨wC, HWC⟩ := named (wB.setCell ⟨w.heap.size, 0, none⟩ (.string f.name))
    have HNX : Hid (∀ b, Blk bd bs bc (.slice (some ⟨g', 0, none⟩) ps.length cap') ps b → b ≠ w.heap.size) := by
      intro b hb e
      subst e
      rcases hb with rfl | rfl | rfl | hb | ⟨p, hp, hb⟩
      · have := HST.out.ltd; omega
      · have := HST.out.lts; omega
      · have := HST.out.ltc; omega
      · rcases HFB.out _ hb with h | h
        · have := HST.out.lt _ (.inr (.inr (.inr (.inl h)))); omega
        · omega
      · obtain ⟨c, hc⟩ := row_elem (HSB.out.hb p hp) hb
        rw [HXB.out] at hc
        cases hc
    have HSC : Hid (St wC bd bs bc (.slice (some ⟨g', 0, none⟩) ps.length cap') ps most fuse dark) := by
      rw [HWC.out]
      exact HSB.out.heap fun b hb => Below.heap_setCell _ _ _ _ (HNX.out b hb)
    have HXC : Hid (wC.heap[w.heap.size]? = some (.cells #[Value.string f.name, Value.slice ao sl cp, Value.int IntKind.i64 f.safe] 83 (0, 0))) := by
      rw [HWC.out, heap_set HXB.out]; rfl
    have HCC : Hid (Chg (fun b => b = bs ∨ (Value.slice (some ⟨g', 0, none⟩) ps.length cap').ownBlock = some b) w wC) := by
      rw [HWC.out]
      exact HCB.out.setCell (.inr (Nat.le_refl _)) _
    have HOC : Hid (Own wC 0 (.slice ao sl cp) f.bytes) := by
      rw [HWC.out]
      exact Own.heap HOB.out fun a ha => Below.heap_setCell _ _ _ _ (by have := (World.ownsRow.lt HSV.out a ha).2; show a ≠ w.heap.size; omega)
    rw [← HWC.out]
    have c0 : wC.cell? ⟨bs, 0, none⟩ = some (.slice (some ⟨g', 0, none⟩) ps.length cap') := HSC.out.s0
    have x0 : wC.cell? ⟨w.heap.size, 0, none⟩ = some (.string f.name) := by rw [cell_of HXC.out]; rfl
    have x1 : wC.cell? ⟨w.heap.size, 1, none⟩ = some (.slice ao sl cp) := by rw [cell_of HXC.out]; rfl
    have x2 : wC.cell? ⟨w.heap.size, 2, none⟩ = some (.int .i64 f.safe) := by rw [cell_of HXC.out]; rfl
    obtain ⟨y0, y1, y2⟩ : (∃ v, wC.cell? ⟨g', k * 3, none⟩ = some v) ∧ (∃ v, wC.cell? ⟨g', k * 3 + 1, none⟩ = some v) ∧ (∃ v, wC.cell? ⟨g', k * 3 + 2, none⟩ = some v) := by
      rcases fr_of HSC.out.hf with ⟨h, _⟩ | ⟨bf, cap, h, _, _, _, hc⟩
      · cases h
      · cases h
        obtain ⟨a, b, c⟩ := hc k hkA
        exact ⟨⟨_, a⟩, ⟨_, b⟩, ⟨_, c⟩⟩
    obtain ⟨y0v, y0⟩ := y0
    obtain ⟨y1v, y1⟩ := y1
    obtain ⟨y2v, y2⟩ := y2
    have z0 := row_frozen HSC.out.hf (k * 3)
    have z1 := row_frozen HSC.out.hf (k * 3 + 1)
    have z2 := row_frozen HSC.out.hf (k * 3 + 2)
    obtain ⟨N, HN⟩ := named ps.length
    rw [← HN.out] at c0 hkA hnc'
    have hkI : (k : Int) < (N : Int) := by omega
    clear xb0 xz0
    go_region
    go_wp2
    go_returns
    refine ⟨rfl, .slice (some ⟨g', 0, none⟩) N cap', ?_, ?_, ?_⟩
    · rw [HRR.out, HN.out]
      have hSF := HSC.out.setFile k (by rw [← HN.out]; exact hkA) f (.slice ao sl cp) HOC.out HPAP.out
      rw [HPE.out] at hSF
      exact hSF.heap fun _ _ => rfl
    · intro b hb
      rcases HFB.out b hb with h | h
      · exact .inl h
      · exact .inr (by omega)
    · have hgF : (fun b => b = bs ∨ (Value.slice (some ⟨g', 0, none⟩) ps.length cap').ownBlock = some b) g' ∨ w.heap.size ≤ g' := by
        rcases HFB.out g' rfl with h | h
        · exact .inl (.inr h)
        · exact .inr (by omega)
      exact (((HCC.out.setCell (p := ⟨g', k * 3, none⟩) hgF _).setCell (p := ⟨g', k * 3 + 1, none⟩) hgF _).setCell (p := ⟨g', k * 3 + 2, none⟩) hgF _).drew
  | false =>
    have HJE : Hid (j = k) := by rw [HJ.out, hi]; rfl
    have s0 := HST1.out.s0
    have sz := HST1.out.sz 0
    have hlt1 := HST1.out.lts
    go_wp2_with fail
    have HAL : Hid _ := HST1.out.below ((Below.refl _ w1).alloc (Nat.le_refl _) (Obj.cells #[Value.string ⟨#[]⟩, Value.slice none 0 0, Value.int IntKind.i64 0] 83))
    refine (insert_any HAL.out.hf HONE.out (by omega) (vb := w1.heap.size) (i := k) (by omega) (heap_alloc_new w1 _) (fun e => by have := HST1.out.lt _ (.inr (.inr (.inr (.inl e)))); omega)).mono ?_
    rintro e w2 ⟨fv', rfl, hrow, hg, hblk⟩
    obtain ⟨g', cap', rfl, hnc', hcm'⟩ := row_pos hrow (by omega)
    have hsz2 := hg.size
    rw [World.size_alloc] at hsz2
    have hnb : some bs ≠ fv.ownBlock := fun e => (HST1.out.fv_ne e.symm).2.1 rfl
    have hgs : w2.heap[bs]? = w1.heap[bs]? := (hg.block bs (by rw [World.size_alloc]; omega) hnb).trans (Below.heap_alloc _ _ _ hlt1)
    have sz2 : w2.frozen? ⟨bs, 0, none⟩ = false := by rw [World.frozen?_of_block (w := w1) (w' := w2) (a := ⟨bs, 0, none⟩) hgs]; exact sz
    have s02 : w2.cell? ⟨bs, 0, none⟩ = some fv := by rw [World.cell?_of_block (w := w1) (w' := w2) (a := ⟨bs, 0, none⟩) hgs]; exact s0
    have hxne : some w.heap.size ≠ fv.ownBlock := fun e => by have := HST.out.lt _ (.inr (.inr (.inr (.inl e.symm)))); omega
    have hx2 : w2.heap[w.heap.size]? = w1.heap[w.heap.size]? := (hg.block _ (by rw [World.size_alloc]; omega) hxne).trans (Below.heap_alloc _ _ _ hz1)
    have HA : Hid _ := HAL.out.files (ps' := ps.take k ++ (noF, .slice none 0 0) :: ps.drop k) hg (by
        have : (ps.take k ++ (noF, Value.slice none 0 0) :: ps.drop k).length = ps.length + 1 := by simp only [List.length_append, List.length_take, List.length_cons, List.length_drop]; omega
        rw [this]; exact hrow) (fun p hp => by
          rcases mem_put hp with rfl | hp
          · exact Own.nil _ _
          · exact HAL.out.hb p hp) (pair_put HAL.out.hp k k (Nat.le_refl _) _ (fun p _ a _ h => by cases h))
    have HCH : Hid (Chg (fun b => b = bs ∨ fv.ownBlock = some b) w (w2.setCell ⟨bs, 0, none⟩ (.slice (some ⟨g', 0, none⟩) (ps.length + 1) cap'))) :=
      (((Chg.ofBelow HB.out _).alloc _).grown hg (fun k hk => .inl (.inr hk))).setCell (.inl (.inl rfl)) _
    have HXA : Hid ((w2.setCell ⟨bs, 0, none⟩ (.slice (some ⟨g', 0, none⟩) (ps.length + 1) cap')).heap[w.heap.size]? = some (.cells #[Value.string f.name, Value.slice ao sl cp, Value.int IntKind.i64 f.safe] 83 (0, 0))) := by
      rw [Below.heap_setCell _ _ _ _ (by show w.heap.size ≠ bs; omega), hx2]; exact HX1.out
    have HFB : Hid (∀ b, (Value.slice (some ⟨g', 0, none⟩) (ps.length + 1) cap').ownBlock = some b → fv.ownBlock = some b ∨ w.heap.size < b) := by
      intro b hb
      rcases hblk with h | h
      · exact .inl (h.symm.trans hb)
      · rw [h] at hb; cases hb; right; rw [World.size_alloc]; omega
    clear hblk hrow hg hx2 HAL
    go_upto_region 4 with fail
    obtain ⟨wA, HWA⟩ := named (w2.setCell ⟨bs, 0, none⟩ (.slice (some ⟨g', 0, none⟩) (ps.length + 1) cap'))
    rw [← HWA.out] at HA HCH HXA ⊢
    obtain ⟨psA, HPA⟩ := named (ps.take k ++ (noF, Value.slice none 0 0) :: ps.drop k)
    have hLA : ps.length + 1 = psA.length := by rw [HPA.out]; simp only [List.length_append, List.length_take, List.length_cons, List.length_drop]; omega
    rw [← HPA.out, hLA] at HA
    rw [hLA] at HFB hnc'
    have hkA : k < psA.length := by omega
    have hkt : (ps.take k).length = k := by rw [List.length_take]; omega
    have HPE : Hid (psA.take k ++ (f, Value.slice ao sl cp) :: psA.drop (k + 1) = ps.take k ++ (f, Value.slice ao sl cp) :: ps.drop j) := by
      have e1 : psA.take k = ps.take k := by rw [HPA.out, List.take_append_of_le_length (by omega), List.take_take, Nat.min_self]
      have e2 : psA.drop (k + 1) = ps.drop k := by rw [HPA.out, List.drop_append, hkt, List.drop_eq_nil_of_le (by omega), show k + 1 - k = 1 by omega]; rfl
      rw [e1, e2, HJE.out]
      rfl
    have HPAP : Hid (∀ p ∈ psA.take k ++ psA.drop (k + 1), Apart p.2 (.slice ao sl cp)) := by
      have e1 : psA.take k = ps.take k := by rw [HPA.out, List.take_append_of_le_length (by omega), List.take_take, Nat.min_self]
      have e2 : psA.drop (k + 1) = ps.drop k := by rw [HPA.out, List.drop_append, hkt, List.drop_eq_nil_of_le (by omega), show k + 1 - k = 1 by omega]; rfl
      rw [e1, e2]
      intro p hp
      rcases List.mem_append.1 hp with h | h
      · exact HAP.out p (List.mem_of_mem_take h)
      · exact HAP.out p (List.mem_of_mem_drop h)
    clear hkt
    clear s02 sz2 hgs hLA HWA hsz2
    clear s0 sz
    have hxl : w.heap.size < wA.heap.size := (Array.getElem?_eq_some_iff.1 HXA.out).1
    have xc0 : wA.cell? ⟨w.heap.size, 0, none⟩ = some (.string f.name) := by rw [cell_of HXA.out]; rfl
    go_wp2_with fail
    refine (clone_any _ _ (by omega)).mono ?_
    rintro e wB ⟨rfl, hbB⟩
    have HXB : Hid (wB.heap[w.heap.size]? = some (.cells #[Value.string f.name, Value.slice ao sl cp, Value.int IntKind.i64 f.safe] 83 (0, 0))) := (hbB.block _ hxl).trans HXA.out
    have HSB : Hid _ := HA.out.below hbB
    have HCB : Hid _ := Chg.trans HCH.out (Chg.ofBelow hbB (fun b => b = bs ∨ fv.ownBlock = some b)) (fun _ _ h => h)
    have HOB : Hid (Own wB 0 (.slice ao sl cp) f.bytes) := Own.heap HSV.out fun a ha => by
      have hlt := (World.ownsRow.lt HSV.out a ha).2
      have hn := HST.out.by_ne HSV.out ha
      exact HCB.out.block a hlt (fun h => by
        rcases h with rfl | h
        · exact hn.2.1 rfl
        · exact hn.2.2.2 h)
    have xb0 : wB.cell? ⟨w.heap.size, 0, none⟩ = some (.string f.name) := by rw [cell_of HXB.out]; rfl
    have xz0 : wB.frozen? ⟨w.heap.size, 0, none⟩ = false := frozen_of HXB.out 0
    have hszB := hbB.size
    clear hbB xc0 HA HCH HXA
    go_upto_region 5 with fail
    obtain ⟨wC, HWC⟩ := named (wB.setCell ⟨w.heap.size, 0, none⟩ (.string f.name))
    have HNX : Hid (∀ b, Blk bd bs bc (.slice (some ⟨g', 0, none⟩) psA.length cap') psA b → b ≠ w.heap.size) := by
      intro b hb e
      subst e
      rcases hb with rfl | rfl | rfl | hb | ⟨p, hp, hb⟩
      · have := HST.out.ltd; omega
      · have := HST.out.lts; omega
      · have := HST.out.ltc; omega
      · rcases HFB.out _ hb with h | h
        · have := HST.out.lt _ (.inr (.inr (.inr (.inl h)))); omega
        · omega
      · obtain ⟨c, hc⟩ := row_elem (HSB.out.hb p hp) hb
        rw [HXB.out] at hc
        cases hc
    have HSC : Hid (St wC bd bs bc (.slice (some ⟨g', 0, none⟩) psA.length cap') psA most fuse dark) := by
      rw [HWC.out]
      exact HSB.out.heap fun b hb => Below.heap_setCell _ _ _ _ (HNX.out b hb)
    have HXC : Hid (wC.heap[w.heap.size]? = some (.cells #[Value.string f.name, Value.slice ao sl cp, Value.int IntKind.i64 f.safe] 83 (0, 0))) := by
      rw [HWC.out, heap_set HXB.out]; rfl
    have HCC : Hid (Chg (fun b => b = bs ∨ fv.ownBlock = some b) w wC) := by
      rw [HWC.out]
      exact HCB.out.setCell (.inr (Nat.le_refl _)) _
    have HOC : Hid (Own wC 0 (.slice ao sl cp) f.bytes) := by
      rw [HWC.out]
      exact Own.heap HOB.out fun a ha => Below.heap_setCell _ _ _ _ (by have := (World.ownsRow.lt HSV.out a ha).2; show a ≠ w.heap.size; omega)
    rw [← HWC.out]
    have c0 : wC.cell? ⟨bs, 0, none⟩ = some (.slice (some ⟨g', 0, none⟩) psA.length cap') := HSC.out.s0
    have x0 : wC.cell? ⟨w.heap.size, 0, none⟩ = some (.string f.name) := by rw [cell_of HXC.out]; rfl
    have x1 : wC.cell? ⟨w.heap.size, 1, none⟩ = some (.slice ao sl cp) := by rw [cell_of HXC.out]; rfl
    have x2 : wC.cell? ⟨w.heap.size, 2, none⟩ = some (.int .i64 f.safe) := by rw [cell_of HXC.out]; rfl
    obtain ⟨y0, y1, y2⟩ : (∃ v, wC.cell? ⟨g', k * 3, none⟩ = some v) ∧ (∃ v, wC.cell? ⟨g', k * 3 + 1, none⟩ = some v) ∧ (∃ v, wC.cell? ⟨g', k * 3 + 2, none⟩ = some v) := by
      rcases fr_of HSC.out.hf with ⟨h, _⟩ | ⟨bf, cap, h, _, _, _, hc⟩
      · cases h
      · cases h
        obtain ⟨a, b, c⟩ := hc k hkA
        exact ⟨⟨_, a⟩, ⟨_, b⟩, ⟨_, c⟩⟩
    obtain ⟨y0v, y0⟩ := y0
    obtain ⟨y1v, y1⟩ := y1
    obtain ⟨y2v, y2⟩ := y2
    have z0 := row_frozen HSC.out.hf (k * 3)
    have z1 := row_frozen HSC.out.hf (k * 3 + 1)
    have z2 := row_frozen HSC.out.hf (k * 3 + 2)
    obtain ⟨N, HN⟩ := named psA.length
    rw [← HN.out] at c0 hkA hnc'
    have hkI : (k : Int) < (N : Int) := by omega
    clear xb0 xz0
    go_region
    go_wp2
    go_returns
    refine ⟨rfl, .slice (some ⟨g', 0, none⟩) N cap', ?_, ?_, ?_⟩
    · rw [HRR.out, HN.out]
      have hSF := HSC.out.setFile k (by rw [← HN.out]; exact hkA) f (.slice ao sl cp) HOC.out HPAP.out
      rw [HPE.out] at hSF
      exact hSF.heap fun _ _ => rfl
    · intro b hb
      rcases HFB.out b hb with h | h
      · exact .inl h
      · exact .inr (by omega)
    · have hgF : (fun b => b = bs ∨ fv.ownBlock = some b) g' ∨ w.heap.size ≤ g' := by
        rcases HFB.out g' rfl with h | h
        · exact .inl (.inr h)
        · exact .inr (by omega)
      exact (((HCC.out.setCell (p := ⟨g', k * 3, none⟩) hgF _).setCell (p := ⟨g', k * 3 + 1, none⟩) hgF _).setCell (p := ⟨g', k * 3 + 2, none⟩) hgF _).drew
end Go.Proofs.Ytloigepmmhcibaa
