/-
  The contracts of a log's closures. The contracts of Sync, Write. Own work.
-/
import Derived.Test.YtomhkjacngmnhaaGreatDoorQs
import Derived.Deep.QuietTactic
import Derived.BigQuiet
namespace Go.Proofs.YtomhkjacngmnhaaGreatDoor
open Go.RowKit

section
variable {w : World} {F : Nat → Prop} {bl bs : Nat} {d : Value} {L : AL} {D : AD}
set_option maxRecDepth 100000 in
set_option maxHeartbeats 400000 in
theorem room1 (h : Lk w F bl bs d L D) (hw : Laid w) (cS : Nat) (hc : w.heap[cS]? = some (.cells #[.pointer (some ⟨bs, 0, none⟩)] 91 (0, 0))) : Calls Tryz.prog 126 #[.pointer (some ⟨cS, 0, none⟩)] w fun e w' => LDeed e w w' F bl bs d (ackL L D) := by
  have c0 : w.cell? ⟨cS, 0, none⟩ = some (.pointer (some ⟨bs, 0, none⟩)) := by rw [cell_of hc]; rfl
  have hk := ack_any h hw
  obtain ⟨r, HR⟩ := named (ackL L D)
  rw [← HR.out] at hk ⊢
  go_enter Tryz.func126, Tryz.ntmps126
  go_wp2_with fail
  refine hk.mono ?_
  rintro e w1 ⟨rfl, k1, k2⟩
  go_wp2_with fail
  go_ret
  exact ⟨rfl, k1, k2⟩
set_option maxRecDepth 100000 in
set_option maxHeartbeats 400000 in
theorem room2 (h : Lk w F bl bs d L D) (hw : Laid w) (n : Int) (hm : L.firsts.length < 1000000) (cS cN : Nat) (hc : w.heap[cS]? = some (.cells #[.pointer (some ⟨bs, 0, none⟩)] 91 (0, 0))) (hc2 : w.heap[cN]? = some (.cells #[.int .i64 n] 3 (0, 0))) : Calls Tryz.prog 127 #[.pointer (some ⟨cS, 0, none⟩), .pointer (some ⟨cN, 0, none⟩)] w fun e w' => LDeed e w w' F bl bs d (beginG L D n) := by
  have c0 : w.cell? ⟨cS, 0, none⟩ = some (.pointer (some ⟨bs, 0, none⟩)) := by rw [cell_of hc]; rfl
  have c1 : w.cell? ⟨cN, 0, none⟩ = some (.int .i64 n) := by rw [cell_of hc2]; rfl
  have hk := begin_log h hw n hm
  obtain ⟨r, HR⟩ := named (beginG L D n)
  rw [← HR.out] at hk ⊢
  go_enter Tryz.func127, Tryz.ntmps127
  go_wp2_with fail
  refine hk.mono ?_
  rintro e w1 ⟨rfl, k1, k2⟩
  go_wp2_with fail
  go_ret
  exact ⟨rfl, k1, k2⟩
set_option maxRecDepth 100000 in
set_option maxHeartbeats 400000 in
theorem sync1_log (h : Lk w F bl bs d L D) (hw : Laid w) (cL : Nat) (hc : w.heap[cL]? = some (.cells #[.pointer (some ⟨bl, 0, none⟩)] 28 (0, 0))) : Calls Tryz.prog 77 #[.pointer (some ⟨cL, 0, none⟩)] w fun e w' => LDeed e w w' F bl bs d (ackL L D) := by
  have c0 : w.cell? ⟨cL, 0, none⟩ = some (.pointer (some ⟨bl, 0, none⟩)) := by rw [cell_of hc]; rfl
  obtain ⟨c1, -⟩ := h.s
  have hk := ack_any h hw
  obtain ⟨r, HR⟩ := named (ackL L D)
  rw [← HR.out] at hk ⊢
  go_enter Tryz.func77, Tryz.ntmps77
  go_wp2_with fail
  refine hk.mono ?_
  rintro e w1 ⟨rfl, k1, k2⟩
  go_wp2_with fail
  go_ret
  exact ⟨rfl, k1, k2⟩
theorem Chg.cellN {F : Nat → Prop} {w w' : World} (h : Chg F w w') {b i : Nat} {c : Array Value} {e : TypeId} (hb : w.heap[b]? = some (.cells c e (0, 0))) (hF : ¬ F b) : w'.cell? ⟨b, i, none⟩ = c[i]? := by
  have : w'.heap[b]? = some (.cells c e (0, 0)) := by rw [h.block b (lt_of_heap hb) hF]; exact hb
  rw [cell_of this]
set_option maxRecDepth 100000 in
set_option maxHeartbeats 400000 in
theorem write2 (h : Lk w F bl bs d L D) (hw : Laid w) (hne : L.firsts ≠ []) (cL cB : Nat) (sb : Value) (b : List UInt8) (hr : Rd w sb b) (hc : w.heap[cL]? = some (.cells #[.pointer (some ⟨bl, 0, none⟩)] 28 (0, 0))) (hc2 : w.heap[cB]? = some (.cells #[sb] 37 (0, 0))) (hcF : ¬ F cL) (hc2F : ¬ F cB) : Calls Tryz.prog 75 #[.pointer (some ⟨cL, 0, none⟩), .pointer (some ⟨cB, 0, none⟩)] w fun e w' => LDeed e w w' F bl bs d (putG L D b) := by
  obtain ⟨ao, k, c, rfl⟩ : ∃ ao k c, sb = .slice ao k c := by
    obtain ⟨ao, c, rfl, -⟩ := id hr
    exact ⟨ao, _, c, rfl⟩
  have S0 : w.drew.cell? ⟨cL, 0, none⟩ = some (.pointer (some ⟨bl, 0, none⟩)) ∧ w.drew.cell? ⟨cB, 0, none⟩ = some (.slice ao k c) ∧ w.drew.cell? ⟨bl, 0, none⟩ = some (.pointer (some ⟨bs, 0, none⟩)) := ⟨by show w.cell? _ = _; rw [cell_of hc]; rfl, by show w.cell? _ = _; rw [cell_of hc2]; rfl, h.s.1⟩
  have hk : Calls Tryz.prog 76 #[.pointer (some ⟨bs, 0, none⟩), .slice ao k c] w.drew fun e w' => e = .returned (.int .i64 (putG L D b).2.2) ∧ Hid (Lk w' (grow F w w') bl bs d (putG L D b).1 (putG L D b).2.1) ∧ Hid (Chg F w w') ∧ (w'.cell? ⟨cL, 0, none⟩ = some (.pointer (some ⟨bl, 0, none⟩)) ∧ w'.cell? ⟨cB, 0, none⟩ = some (.slice ao k c) ∧ w'.cell? ⟨bl, 0, none⟩ = some (.pointer (some ⟨bs, 0, none⟩))) := by
    refine (put_log (w := w.drew) (h.below (Below.refl _ _).drew) hw.drew hne _ b hr).mono ?_
    rintro e w' ⟨rfl, k1, k2⟩
    have k3 : Chg F w w' := ⟨k2.os, k2.tape, k2.output, k2.size, k2.block⟩
    exact ⟨rfl, k1, k3, k3.cellN hc hcF, k3.cellN hc2 hc2F, k1.s.1⟩
  have HLD : Hid (∀ e w', (e = .returned (.int .i64 (putG L D b).2.2) ∧ Lk w' (grow F w w') bl bs d (putG L D b).1 (putG L D b).2.1 ∧ Chg F w w') → LDeed e w w' F bl bs d (putG L D b)) := fun e w' hh => hh
  obtain ⟨r, HR⟩ := named (putG L D b)
  rw [← HR.out] at hk HLD ⊢
  go_enter Tryz.func75, Tryz.ntmps75
  go_wp2_with fail
  go_region_held3 (fun w' => w'.cell? ⟨cL, 0, none⟩ = some (.pointer (some ⟨bl, 0, none⟩)) ∧ w'.cell? ⟨cB, 0, none⟩ = some (.slice ao k c) ∧ w'.cell? ⟨bl, 0, none⟩ = some (.pointer (some ⟨bs, 0, none⟩))) (assumption) (first | (go_at_call 76; refine Calls.mono hk ?_; rintro e w1 ⟨rfl, k1, k2, S1⟩))
  go_wp2_with fail
  go_ret
  exact ⟨rfl, k1.out, k2.out⟩

def roomG (n : Int) : Act3 := fun L D => if L.firsts ≠ [] ∧ (lookF D.files (fileB L)).bytes.length < L.size then (L, D, 0) else doG [ackL, fun L D => beginG L D n] L D
theorem ackL_firsts (L : AL) (D : AD) : (ackL L D).1.firsts = L.firsts := by
  unfold ackL
  split
  · rfl
  · split <;> rfl

set_option maxRecDepth 100000 in
set_option maxHeartbeats 800000 in
theorem room_any (h : Lk w F bl bs d L D) (hF : Fok F w) (hw : Laid w) (n : Int) (hm : L.firsts.length < 1000000) : Calls Tryz.prog 74 #[.pointer (some ⟨bs, 0, none⟩), .int .i64 n] w fun e w' => LDeed e w w' F bl bs d (roomG n L D) := by
  obtain ⟨W, HW⟩ := named ((w.alloc (Obj.cells #[Value.pointer (some ⟨bs, 0, none⟩)] 91)).alloc (Obj.cells #[Value.int IntKind.i64 n] 3))
  have HBW : Hid (Below w.heap.size w W) := by show Below _ _ _; rw [HW.out]; exact ((Below.refl _ _).alloc (Nat.le_refl _) _).alloc (by simp) _
  have hS : W.heap[w.heap.size]? = some (.cells #[.pointer (some ⟨bs, 0, none⟩)] 91 (0, 0)) := by rw [HW.out, Below.heap_alloc _ _ _ (by simp)]; exact heap_alloc_new w _
  have hN : W.heap[w.heap.size + 1]? = some (.cells #[.int .i64 n] 3 (0, 0)) := by rw [HW.out]; have := heap_alloc_new (w.alloc (Obj.cells #[Value.pointer (some ⟨bs, 0, none⟩)] 91)) (Obj.cells #[Value.int IntKind.i64 n] 3); simpa using this
  have hL := h.below HBW.out
  have hWl := hw.below HBW.out
  have hFW := hF.below HBW.out
  obtain ⟨bd, rfl⟩ := hL.dptr
  obtain ⟨-, c0, c1, -, -, -⟩ := hL.s
  obtain ⟨ao, cap, hc, h1, h2, h3⟩ := hL.row
  have cS : W.cell? ⟨w.heap.size, 0, none⟩ = some (.pointer (some ⟨bs, 0, none⟩)) := by rw [cell_of hS]; rfl
  have hlt := hL.lt.2
  -- what the deeds come to
  have HDO : Hid (∀ (w2 : World), Below W.heap.size W w2 → Calls Tryz.prog 72 #[.pointer (some ⟨bs, 0, none⟩), .slice (some ⟨w2.heap.size, 0, none⟩) 2 2] (w2.alloc (.cells #[.func (.func 126) #[] #[.pointer (some ⟨w.heap.size, 0, none⟩)], .func (.func 127) #[] #[.pointer (some ⟨w.heap.size, 0, none⟩), .pointer (some ⟨w.heap.size + 1, 0, none⟩)]] 48)) fun e w' => LDeed e w w' F bl bs (.pointer (some ⟨bd, 0, none⟩)) (doG [ackL, fun L D => beginG L D n] L D) ∧ w'.cell? ⟨w.heap.size, 0, none⟩ = some (.pointer (some ⟨bs, 0, none⟩))) := by
    intro w2 hb2
    have hb3 : Below W.heap.size W (w2.alloc (.cells #[.func (.func 126) #[] #[.pointer (some ⟨w.heap.size, 0, none⟩)], .func (.func 127) #[] #[.pointer (some ⟨w.heap.size, 0, none⟩), .pointer (some ⟨w.heap.size + 1, 0, none⟩)]] 48)) := hb2.alloc hb2.size _
    have hnF : ∀ b, w.heap.size ≤ b → ¬ F b := fun b hb hFb => by have := (hF.2 b hFb).2; omega
    have hlS := lt_of_heap hS
    have hlN := lt_of_heap hN
    have hs2 := hb2.size
    have hsW := HBW.out.size
    refine (do_deeds (hL.below hb3) (hFW.below hb3) (hWl.below hb3) w2.heap.size [ackL, fun L D => beginG L D n] (fun i => if i = 0 then 126 else 127) (fun i => if i = 0 then #[.pointer (some ⟨w.heap.size, 0, none⟩)] else #[.pointer (some ⟨w.heap.size, 0, none⟩), .pointer (some ⟨w.heap.size + 1, 0, none⟩)]) _ (heap_alloc_new w2 _) (hnF _ (by omega)) ?_ (by simp) ?_ ?_).mono ?_
    · intro i hi
      have : i = 0 ∨ i = 1 := by simp at hi; omega
      rcases this with rfl | rfl <;> rfl
    · intro i w hi
      have : i = 0 ∨ i = 1 := by simp at hi; omega
      rcases this with rfl | rfl
      · exact Go.Proofs.enters_of Tryz.func126 (by kernel_rfl) rfl _ _
      · exact Go.Proofs.enters_of Tryz.func127 (by kernel_rfl) rfl _ _
    · intro i hi w1 F1 hok hk hf hl hkeep
      have e1 := (hkeep w.heap.size (by simp; omega) (hnF _ (Nat.le_refl _))).1
      have e2 := (hkeep (w.heap.size + 1) (by simp; omega) (hnF _ (by omega))).1
      rw [hb3.block _ hlS, hS] at e1
      rw [hb3.block _ hlN, hN] at e2
      have : i = 0 ∨ i = 1 := by simp at hi; omega
      rcases this with rfl | rfl
      · exact room1 hk hl _ e1
      · refine room2 hk hl n ?_ _ _ e1 e2
        show (ackL L D).1.firsts.length < _
        rw [ackL_firsts]
        exact hm
    · rintro e w' ⟨rfl, k1, k2⟩
      obtain ⟨k3, k4⟩ := ldeed_of (HBW.out.trans (hb3.mono hsW)) k1 k2
      exact ⟨⟨rfl, k3, k4⟩, k2.cellN (c := #[.pointer (some ⟨bs, 0, none⟩)]) (e := 91) (by rw [hb3.block _ hlS]; exact hS) (hnF _ (Nat.le_refl _))⟩
  obtain ⟨R, HR⟩ := named (doG [ackL, fun L D => beginG L D n] L D)
  rw [← HR.out] at HDO
  obtain ⟨LR, DR, xR⟩ := R
  by_cases hne : L.firsts = []
  · have HE : Hid (roomG n L D = (LR, DR, xR)) := by show roomG n L D = _; unfold roomG; rw [if_neg (by rintro ⟨hh, -⟩; exact hh hne), HR.out]
    have h0 : L.firsts.length = 0 := by rw [hne]; rfl
    rw [h0] at hc
    rw [HE.out]
    clear h3 h1 h2 h0
    go_enter Tryz.func74, Tryz.ntmps74
    go_wp2_with fail
    rw [← HW.out]
    go_quiet (fail)
    obtain ⟨V, HV⟩ := named (W.drewN nq)
    have hBV : Below W.heap.size W V := by rw [HV.out]; exact ⟨rfl, rfl, rfl, Nat.le_refl _, fun _ _ => rfl⟩
    have cSV : V.cell? ⟨w.heap.size, 0, none⟩ = some (.pointer (some ⟨bs, 0, none⟩)) := by rw [HV.out]; exact cS
    rw [← HV.out]
    clear cS c0 c1 hc hS hN
    go_wp2_with fail
    refine (HDO.out V hBV).mono ?_
    rintro e w3 ⟨⟨rfl, k1, k2⟩, -⟩
    go_wp2_with fail
    go_ret
    exact ⟨rfl, k1, k2⟩
  · have hp : 0 < L.firsts.length := by
      rcases Nat.eq_zero_or_pos L.firsts.length with h0 | h0
      · exact absurd (List.eq_nil_of_length_eq_zero h0) hne
      · exact h0
    obtain ⟨SZ, HSZ⟩ := named ((lookF D.files (fileB L)).bytes.length)
    have hF2 : ∀ (w1 : World), Below W.heap.size W w1 → Calls Tryz.prog 125 #[.pointer (some ⟨bs, 0, none⟩)] w1 fun e w2 => e = .returned (.string (fileB L)) ∧ Below W.heap.size W w2 ∧ (w2.cell? ⟨w.heap.size, 0, none⟩ = some (.pointer (some ⟨bs, 0, none⟩)) ∧ w2.cell? ⟨bs, 0, none⟩ = some (.pointer (some ⟨bd, 0, none⟩)) ∧ w2.cell? ⟨bs, 1, none⟩ = some (.int .i64 L.size) ∧ w2.cell? ⟨bs, 2, none⟩ = some (.slice ao L.firsts.length cap)) := by
      intro w1 hb
      refine (file_any (hL.below hb) (hWl.below hb) hne).mono ?_
      rintro e w2 ⟨rfl, hb2⟩
      have hb3 := below_call hb hb2
      exact ⟨rfl, hb3, (hb3.cell (p := ⟨w.heap.size, 0, none⟩) (lt_of_heap hS)).trans cS, (hb3.cell (p := ⟨bs, 0, none⟩) hlt).trans c0, (hb3.cell (p := ⟨bs, 1, none⟩) hlt).trans c1, (hb3.cell (p := ⟨bs, 2, none⟩) hlt).trans hc⟩
    have hZ2 : ∀ (w1 : World), Below W.heap.size W w1 → Calls Tryz.prog 56 #[.pointer (some ⟨bd, 0, none⟩), .string (fileB L)] w1 fun e w2 => e = .returned (.int .i64 SZ) ∧ Below W.heap.size W w2 ∧ (w2.cell? ⟨w.heap.size, 0, none⟩ = some (.pointer (some ⟨bs, 0, none⟩)) ∧ w2.cell? ⟨bs, 0, none⟩ = some (.pointer (some ⟨bd, 0, none⟩)) ∧ w2.cell? ⟨bs, 1, none⟩ = some (.int .i64 L.size) ∧ w2.cell? ⟨bs, 2, none⟩ = some (.slice ao L.firsts.length cap)) := by
      intro w1 hb
      refine (size_any (hL.dk.below hb) (fileB L)).mono ?_
      rintro e w2 ⟨rfl, hb2⟩
      have hb3 := below_call hb hb2
      rw [HSZ.out]
      exact ⟨rfl, hb3, (hb3.cell (p := ⟨w.heap.size, 0, none⟩) (lt_of_heap hS)).trans cS, (hb3.cell (p := ⟨bs, 0, none⟩) hlt).trans c0, (hb3.cell (p := ⟨bs, 1, none⟩) hlt).trans c1, (hb3.cell (p := ⟨bs, 2, none⟩) hlt).trans hc⟩
    obtain ⟨m, HM⟩ := named L.firsts.length
    rw [← HM.out] at hc hp hF2 hZ2
    have hp' : (0 : Int) < (m : Int) := by omega
    have B0 : Below W.heap.size W W.drew := (Below.refl _ _).drew
    have S0 : W.drew.cell? ⟨w.heap.size, 0, none⟩ = some (.pointer (some ⟨bs, 0, none⟩)) ∧ W.drew.cell? ⟨bs, 0, none⟩ = some (.pointer (some ⟨bd, 0, none⟩)) ∧ W.drew.cell? ⟨bs, 1, none⟩ = some (.int .i64 L.size) ∧ W.drew.cell? ⟨bs, 2, none⟩ = some (.slice ao m cap) := ⟨cS, c0, c1, hc⟩
    have HRG : Hid (roomG n L D = if L.firsts ≠ [] ∧ SZ < L.size then (L, D, 0) else (LR, DR, xR)) := by show roomG n L D = _; unfold roomG; rw [HSZ.out, HR.out]
    clear h3 h1 h2 cS c0 c1 hc hS hN
    go_enter Tryz.func74, Tryz.ntmps74
    go_wp2_with fail
    rw [← HW.out]
    have hp2 : (0 : Int) < (m : Int) := by omega
    go_region_held3 (fun w' => w'.cell? ⟨w.heap.size, 0, none⟩ = some (.pointer (some ⟨bs, 0, none⟩)) ∧ w'.cell? ⟨bs, 0, none⟩ = some (.pointer (some ⟨bd, 0, none⟩)) ∧ w'.cell? ⟨bs, 1, none⟩ = some (.int .i64 L.size) ∧ w'.cell? ⟨bs, 2, none⟩ = some (.slice ao m cap)) (assumption) (first | (go_at_call 125; refine Calls.mono (hF2 _ ?_) ?_; assumption; rintro e w1 ⟨rfl, B1, S1⟩) | (go_at_call 56; refine Calls.mono (hZ2 _ ?_) ?_; assumption; rintro e w2 ⟨rfl, B2, S2⟩))
    clear hF2 hZ2 S0
    obtain ⟨cSV, -⟩ := S2
    by_cases hsz : SZ < L.size
    · rw [if_pos ⟨hne, hsz⟩] at HRG
      go_wp2_with fail
      go_ret
      rw [HRG.out]
      have hb := below_call HBW.out B2
      exact ⟨rfl, (h.below hb).mono fun b _ hb => .inl hb, Chg.ofBelow hb _⟩
    · rw [if_neg (fun hh => hsz hh.2)] at HRG
      go_wp2_with fail
      refine (HDO.out w2 B2).mono ?_
      rintro e w3 ⟨⟨rfl, k1, k2⟩, -⟩
      go_wp2_with fail
      go_ret
      rw [HRG.out]
      exact ⟨rfl, k1, k2⟩

set_option maxRecDepth 100000 in
set_option maxHeartbeats 400000 in
theorem write1 (h : Lk w F bl bs d L D) (hF : Fok F w) (hw : Laid w) (n : Int) (hm : L.firsts.length < 1000000) (cL cN : Nat) (hc : w.heap[cL]? = some (.cells #[.pointer (some ⟨bl, 0, none⟩)] 28 (0, 0))) (hc2 : w.heap[cN]? = some (.cells #[.int .i64 n] 3 (0, 0))) (hcF : ¬ F cL) (hc2F : ¬ F cN) : Calls Tryz.prog 73 #[.pointer (some ⟨cL, 0, none⟩), .pointer (some ⟨cN, 0, none⟩)] w fun e w' => LDeed e w w' F bl bs d (roomG n L D) := by
  have S0 : w.drew.cell? ⟨cL, 0, none⟩ = some (.pointer (some ⟨bl, 0, none⟩)) ∧ w.drew.cell? ⟨cN, 0, none⟩ = some (.int .i64 n) ∧ w.drew.cell? ⟨bl, 0, none⟩ = some (.pointer (some ⟨bs, 0, none⟩)) := ⟨by show w.cell? _ = _; rw [cell_of hc]; rfl, by show w.cell? _ = _; rw [cell_of hc2]; rfl, h.s.1⟩
  have hk : Calls Tryz.prog 74 #[.pointer (some ⟨bs, 0, none⟩), .int .i64 n] w.drew fun e w' => e = .returned (.int .i64 (roomG n L D).2.2) ∧ Hid (Lk w' (grow F w w') bl bs d (roomG n L D).1 (roomG n L D).2.1) ∧ Hid (Chg F w w') ∧ (w'.cell? ⟨cL, 0, none⟩ = some (.pointer (some ⟨bl, 0, none⟩)) ∧ w'.cell? ⟨cN, 0, none⟩ = some (.int .i64 n) ∧ w'.cell? ⟨bl, 0, none⟩ = some (.pointer (some ⟨bs, 0, none⟩))) := by
    refine (room_any (w := w.drew) (h.below (Below.refl _ _).drew) (hF.below (Below.refl _ _).drew) hw.drew n hm).mono ?_
    rintro e w' ⟨rfl, k1, k2⟩
    have k3 : Chg F w w' := ⟨k2.os, k2.tape, k2.output, k2.size, k2.block⟩
    exact ⟨rfl, k1, k3, k3.cellN hc hcF, k3.cellN hc2 hc2F, k1.s.1⟩
  obtain ⟨r, HR⟩ := named (roomG n L D)
  rw [← HR.out] at hk ⊢
  go_enter Tryz.func73, Tryz.ntmps73
  go_wp2_with fail
  go_region_held3 (fun w' => w'.cell? ⟨cL, 0, none⟩ = some (.pointer (some ⟨bl, 0, none⟩)) ∧ w'.cell? ⟨cN, 0, none⟩ = some (.int .i64 n) ∧ w'.cell? ⟨bl, 0, none⟩ = some (.pointer (some ⟨bs, 0, none⟩))) (assumption) (first | (go_at_call 74; refine Calls.mono hk ?_; rintro e w1 ⟨rfl, k1, k2, S1⟩))
  go_wp2_with fail
  go_ret
  exact ⟨rfl, k1.out, k2.out⟩
end
end Go.Proofs.YtomhkjacngmnhaaGreatDoor
namespace Go.Proofs.YtomhkjacngmnhaaGreatDoor
open Go.RowKit

def syncG (L : AL) (D : AD) : AL × AD × Nat := if L.over then (L, D, 17) else doG [ackL] L D

section
variable {w : World} {F : Nat → Prop} {bl bs : Nat} {d : Value} {L : AL} {D : AD}
set_option maxRecDepth 100000 in
set_option maxHeartbeats 400000 in
theorem sync_log (h : Lk w F bl bs d L D) (hF : Fok F w) (hw : Laid w) : Calls Tryz.prog 20 #[.pointer (some ⟨bl, 0, none⟩)] w fun e w' => LDeed e w w' F bl bs d (syncG L D) := by
  obtain ⟨W, HW⟩ := named (w.alloc (Obj.cells #[Value.pointer (some ⟨bl, 0, none⟩)] 28))
  have HBW : Hid (Below w.heap.size w W) := by show Below _ _ _; rw [HW.out]; exact (Below.refl _ _).alloc (Nat.le_refl _) _
  have hS : W.heap[w.heap.size]? = some (.cells #[.pointer (some ⟨bl, 0, none⟩)] 28 (0, 0)) := by rw [HW.out]; exact heap_alloc_new w _
  have hnF : ∀ b, w.heap.size ≤ b → ¬ F b := fun b hb hFb => by have := (hF.2 b hFb).2; omega
  have hL := h.below HBW.out
  have hfl := lfails_any hL
  have HSG : Hid (syncG L D = if L.over then (L, D, 17) else doG [ackL] L D) := rfl
  have HFL : Hid (failsL L = if L.over then 17 else 0) := rfl
  have hlS := lt_of_heap hS
  cases ho : L.over with
  | true =>
    rw [ho, if_pos rfl] at HSG HFL
    rw [HFL.out] at hfl
    go_enter Tryz.func20, Tryz.ntmps20
    go_wp2_with fail
    rw [← HW.out]
    refine hfl.mono ?_
    rintro e w1 ⟨rfl, hb1⟩
    go_wp2_with fail
    go_ret
    rw [HSG.out]
    have hb := below_call HBW.out hb1
    exact ⟨rfl, (h.below hb).mono fun b _ hb => .inl hb, Chg.ofBelow hb _⟩
  | false =>
    rw [ho, if_neg (by simp)] at HSG HFL
    rw [HFL.out] at hfl
    have HDO : Hid (∀ (w2 : World), Below W.heap.size W w2 → Calls Tryz.prog 72 #[.pointer (some ⟨bs, 0, none⟩), .slice (some ⟨w2.heap.size, 0, none⟩) 1 1] (w2.alloc (.cells #[.func (.func 77) #[] #[.pointer (some ⟨w.heap.size, 0, none⟩)]] 48)) fun e w' => LDeed e w w' F bl bs d (doG [ackL] L D)) := by
      intro w2 hb2
      have hb3 := hb2.alloc hb2.size (.cells #[.func (.func 77) #[] #[.pointer (some ⟨w.heap.size, 0, none⟩)]] 48)
      have hs2 := hb2.size
      have hsW := HBW.out.size
      refine (do_deeds (hL.below hb3) ((hF.below HBW.out).below hb3) ((hw.below HBW.out).below hb3) w2.heap.size [ackL] (fun _ => 77) (fun _ => #[.pointer (some ⟨w.heap.size, 0, none⟩)]) _ (heap_alloc_new w2 _) (hnF _ (by omega)) ?_ (by simp) ?_ ?_).mono ?_
      · intro i hi
        have : i = 0 := by simpa using hi
        subst this
        rfl
      · intro i w hi
        exact Go.Proofs.enters_of Tryz.func77 (by kernel_rfl) rfl _ _
      · intro i hi w1 F1 hok hk hf hl hkeep
        have e1 := (hkeep w.heap.size (by simp; omega) (hnF _ (Nat.le_refl _))).1
        rw [hb3.block _ hlS, hS] at e1
        have : i = 0 := by simpa using hi
        subst this
        exact sync1_log hk hl _ e1
      · rintro e w' ⟨rfl, k1, k2⟩
        obtain ⟨k3, k4⟩ := ldeed_of (HBW.out.trans (hb3.mono hsW)) k1 k2
        exact ⟨rfl, k3, k4⟩
    obtain ⟨R, HR⟩ := named (doG [ackL] L D)
    rw [← HR.out] at HDO HSG
    obtain ⟨LR, DR, xR⟩ := R
    obtain ⟨c1, -⟩ := hL.s
    have cS : W.cell? ⟨w.heap.size, 0, none⟩ = some (.pointer (some ⟨bl, 0, none⟩)) := by rw [cell_of hS]; rfl
    have hlb := hL.lt.1
    rw [HSG.out]
    go_enter Tryz.func20, Tryz.ntmps20
    go_wp2_with fail
    rw [← HW.out]
    refine hfl.mono ?_
    rintro e w1 ⟨rfl, hb1⟩
    have cS1 := (hb1.cell (p := ⟨w.heap.size, 0, none⟩) hlS).trans cS
    have c11 := (hb1.cell (p := ⟨bl, 0, none⟩) hlb).trans c1
    clear cS c1 hS
    go_wp2_with fail
    refine (HDO.out w1 hb1).mono ?_
    rintro e w3 ⟨rfl, k1, k2⟩
    go_wp2_with fail
    go_ret
    exact ⟨rfl, k1, k2⟩
end
end Go.Proofs.YtomhkjacngmnhaaGreatDoor
