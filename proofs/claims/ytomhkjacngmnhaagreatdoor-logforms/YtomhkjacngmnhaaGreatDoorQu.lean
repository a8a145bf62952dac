/-
  The contract of Write. The contracts of Begin, Last, Acked, Over, Files. Own work.
-/
import Derived.Test.YtomhkjacngmnhaaGreatDoorQt
import Derived.RegionTactic
import Derived.ChangeAlike
namespace Go.Proofs.YtomhkjacngmnhaaGreatDoor
open Go.RowKit

def writeR (n : Int) (b : List UInt8) (L : AL) (D : AD) : AL × AD × Nat := doG [roomG n, fun L D => putG L D b] L D
def writeB (n : Int) (B : List UInt8 × Nat) (L : AL) (D : AD) : AL × AD × Int × Nat :=
  if B.2 = 0 then (if (writeR n B.1 L D).2.2 = 0 then ({ (writeR n B.1 L D).1 with last := n }, (writeR n B.1 L D).2.1, n, 0) else ((writeR n B.1 L D).1, (writeR n B.1 L D).2.1, 0, (writeR n B.1 L D).2.2)) else (L, D, 0, B.2)
/-- what Write does -/
def writeG (ps : List (List UInt8)) (L : AL) (D : AD) : AL × AD × Int × Nat := if L.over then (L, D, 0, 17) else writeB (L.last + 1) (bytesL (L.last + 1) ps) L D

theorem bytesL_ok {n : Int} {ps : List (List UInt8)} (h : (bytesL n ps).2 = 0) : isNum n = true := by
  unfold bytesL at h
  split at h
  · rename_i h1; exact h1.1
  · simp at h
theorem doG2 {f g : Act3} {L : AL} {D : AD} (h : (doG [f, g] L D).2.2 = 0) : (f L D).2.2 = 0 ∧ (g (f L D).1 (f L D).2.1).2.2 = 0 ∧ doG [f, g] L D = ((g (f L D).1 (f L D).2.1).1, (g (f L D).1 (f L D).2.1).2.1, 0) := by
  by_cases h1 : (f L D).2.2 = 0
  · by_cases h2 : (g (f L D).1 (f L D).2.1).2.2 = 0
    · refine ⟨h1, h2, ?_⟩
      simp only [doG, if_pos h1, if_pos h2]
    · simp only [doG, if_pos h1, if_neg h2] at h
      exact absurd h h2
  · simp only [doG, if_neg h1] at h
    exact absurd h h1
theorem begin_some {n : Int} {L : AL} {D : AD} (h : (beginG L D n).2.2 = 0) : (beginG L D n).1.firsts ≠ [] := by
  unfold beginG at h ⊢
  by_cases h1 : isNum n = true
  · rw [if_pos h1] at h ⊢
    by_cases h2 : (appendD D (nameB n) (headL n).1).2 = 0
    · rw [if_pos h2]
      simp
    · rw [if_neg h2] at h
      exact absurd h h2
  · rw [if_neg h1] at h
    simp at h
theorem room_some (n : Int) (L : AL) (D : AD) (h : (roomG n L D).2.2 = 0) : (roomG n L D).1.firsts ≠ [] := by
  unfold roomG at h ⊢
  by_cases h1 : L.firsts ≠ [] ∧ (lookF D.files (fileB L)).bytes.length < L.size
  · rw [if_pos h1]
    exact h1.1
  · rw [if_neg h1] at h ⊢
    obtain ⟨-, h3, h4⟩ := doG2 h
    rw [h4]
    exact begin_some h3

section
variable {w : World} {F : Nat → Prop} {bl bs : Nat} {d : Value} {L : AL} {D : AD}
theorem Lk.setLast (h : Lk w F bl bs d L D) (n : Int) (hn : isNum n = true) : Lk (w.setCell ⟨bs, 3, none⟩ (.int .i64 n)) F bl bs d { L with last := n } D ∧ Chg F w (w.setCell ⟨bs, 3, none⟩ (.int .i64 n)) :=
  h.set 3 _ (fun _ _ => ⟨rfl, rfl⟩) ⟨h.ok.size, h.ok.firsts, h.ok.many, by
    have : 1 ≤ n ∧ n ≤ 1152921504606846976 := by simpa [isNum] using hn
    show 0 ≤ n ∧ n ≤ _
    omega, h.ok.acked⟩

set_option maxRecDepth 100000 in
set_option maxHeartbeats 800000 in
theorem write_log (h : Lk w F bl bs d L D) (hF : Fok F w) (hw : Laid w) (hm : L.firsts.length < 1000000) (v : Value) (ps : List (Value × List UInt8)) (hv : RdL w v ps) (hsmall : ∀ i (h : i < ps.length), ps[i].2.length ≤ 281474976700000) :
    Calls Tryz.prog 19 #[.pointer (some ⟨bl, 0, none⟩), v] w fun e w' => e = .returned (.tuple #[.int .i64 (writeG (ps.map Prod.snd) L D).2.2.1, .int .i64 (writeG (ps.map Prod.snd) L D).2.2.2]) ∧ Lk w' (grow F w w') bl bs d (writeG (ps.map Prod.snd) L D).1 (writeG (ps.map Prod.snd) L D).2.1 ∧ Chg F w w' := by
  obtain ⟨W, HW⟩ := named (w.alloc (Obj.cells #[Value.pointer (some ⟨bl, 0, none⟩)] 28))
  have HBW : Hid (Below w.heap.size w W) := by show Below _ _ _; rw [HW.out]; exact (Below.refl _ _).alloc (Nat.le_refl _) _
  have hS : W.heap[w.heap.size]? = some (.cells #[.pointer (some ⟨bl, 0, none⟩)] 28 (0, 0)) := by rw [HW.out]; exact heap_alloc_new w _
  have hnF : ∀ b, w.heap.size ≤ b → ¬ F b := fun b hb hFb => by have := (hF.2 b hFb).2; omega
  have hL := h.below HBW.out
  have hfl := lfails_any hL
  have HFL : Hid (failsL L = if L.over then 17 else 0) := rfl
  have hlS := lt_of_heap hS
  obtain ⟨QS, HQS⟩ := named (ps.map Prod.snd)
  rw [← HQS.out]
  have HWG : Hid (writeG QS L D = if L.over then (L, D, 0, 17) else writeB (L.last + 1) (bytesL (L.last + 1) QS) L D) := rfl
  obtain ⟨va, vk, vc, hvf⟩ : ∃ va vk vc, v = .slice va vk vc := by
    obtain ⟨a, c, e, -⟩ := hv.1
    exact ⟨a, _, c, e⟩
  cases ho : L.over with
  | true =>
    rw [ho, if_pos rfl] at HWG HFL
    rw [HFL.out] at hfl
    subst hvf
    go_enter Tryz.func19, Tryz.ntmps19
    go_wp2_with fail
    rw [← HW.out]
    refine hfl.mono ?_
    rintro e w1 ⟨rfl, hb1⟩
    go_wp2_with fail
    go_ret2
    rw [HWG.out]
    have hb := below_call HBW.out hb1
    exact ⟨rfl, (h.below hb).mono fun b _ hb => .inl hb, Chg.ofBelow hb _⟩
  | false =>
    rw [ho, if_neg (by simp)] at HWG HFL
    rw [HFL.out] at hfl
    have hlast := h.ok.last
    obtain ⟨n, HN⟩ := named (L.last + 1)
    have hn0 : 0 ≤ n ∧ n ≤ 1152921504606846977 := by rw [HN.out]; omega
    obtain ⟨c1, -⟩ := hL.s
    obtain ⟨-, -, -, c3, -⟩ := hL.s
    have cS : W.cell? ⟨w.heap.size, 0, none⟩ = some (.pointer (some ⟨bl, 0, none⟩)) := by rw [cell_of hS]; rfl
    have hlb := hL.lt
    have hby := fun (w' : World) (hb : Below w.heap.size w w') => bytes_any n v ps w' (hv.below hb) hsmall
    rw [← HQS.out] at hby
    rw [← HN.out] at HWG
    obtain ⟨BB, HBB⟩ := named (bytesL n QS)
    rw [← HBB.out] at hby HWG
    obtain ⟨body, xb⟩ := BB
    simp only at hby HWG
    subst hvf
    go_enter Tryz.func19, Tryz.ntmps19
    go_wp2_with fail
    rw [← HW.out]
    refine hfl.mono ?_
    rintro e w1 ⟨rfl, hb1⟩
    have cS1 := (hb1.cell (p := ⟨w.heap.size, 0, none⟩) hlS).trans cS
    have c11 := (hb1.cell (p := ⟨bl, 0, none⟩) hlb.1).trans c1
    have c31 := (hb1.cell (p := ⟨bs, 3, none⟩) hlb.2).trans c3
    have hadd : IntKind.i64.wrap (L.last + 1) = L.last + 1 := IntWalk.i64_in _ (by omega)
    go_wp2_with fail
    rw [← HN.out]
    have HB2 : Hid (Below w.heap.size w (w1.alloc (Obj.cells #[Value.int IntKind.i64 n] 3))) := (below_call HBW.out hb1).alloc (below_call HBW.out hb1).size _
    refine (hby _ HB2.out).mono ?_
    rintro e w3 ⟨vb, rfl, ho3, hb3⟩
    have HB3 : Hid (Below w.heap.size w w3) := below_call HB2.out hb3
    by_cases hxb : xb = 0
    · subst hxb
      have HNUM : Hid (isNum n = true) := bytesL_ok (n := n) (ps := QS) (by rw [← HBB.out])
      obtain ⟨a3, c3', hv3, -⟩ := id ho3.rd
      obtain ⟨k3, HK3⟩ := named body.length
      rw [← HK3.out] at hv3
      subst hv3
      obtain ⟨W4, HW4⟩ := named (w3.alloc (Obj.cells #[Value.slice a3 k3 c3'] 37))
      have hs1 := hb1.size
      have hs3 : w1.heap.size < w3.heap.size := by have := hb3.size; simp at this; omega
      have hb34 : Below w3.heap.size w3 W4 := by rw [HW4.out]; exact (Below.refl _ _).alloc (Nat.le_refl _) _
      have HB4 : Hid (Below w.heap.size w W4) := below_call HB3.out hb34
      have eL : W4.heap[w.heap.size]? = some (.cells #[.pointer (some ⟨bl, 0, none⟩)] 28 (0, 0)) := by
        rw [hb34.block _ (by omega), hb3.block _ (by simp; omega), Below.heap_alloc _ _ _ (by omega), hb1.block _ hlS]
        exact hS
      have eN : W4.heap[w1.heap.size]? = some (.cells #[.int .i64 n] 3 (0, 0)) := by
        rw [hb34.block _ hs3, hb3.block _ (by simp)]
        exact heap_alloc_new w1 _
      have eB : W4.heap[w3.heap.size]? = some (.cells #[.slice a3 k3 c3'] 37 (0, 0)) := by rw [HW4.out]; exact heap_alloc_new w3 _
      have ho4 : Own W4 w.heap.size (.slice a3 k3 c3') body := (ho3.below hb34).mono HB2.out.size
      have hwW : w.heap.size ≤ w1.heap.size := (below_call HBW.out hb1).size
      have HDO : Hid (∀ (w5 : World), Below W4.heap.size W4 w5 → Calls Tryz.prog 72 #[.pointer (some ⟨bs, 0, none⟩), .slice (some ⟨w5.heap.size, 0, none⟩) 2 2] (w5.alloc (.cells #[.func (.func 73) #[] #[.pointer (some ⟨w.heap.size, 0, none⟩), .pointer (some ⟨w1.heap.size, 0, none⟩)], .func (.func 75) #[] #[.pointer (some ⟨w.heap.size, 0, none⟩), .pointer (some ⟨w3.heap.size, 0, none⟩)]] 48)) fun e w' => LDeed e w w' F bl bs d (writeR n body L D) ∧ w'.cell? ⟨w.heap.size, 0, none⟩ = some (.pointer (some ⟨bl, 0, none⟩)) ∧ w'.cell? ⟨w1.heap.size, 0, none⟩ = some (.int .i64 n)) := by
        intro w5 hb5
        have hb6 := hb5.alloc hb5.size (.cells #[.func (.func 73) #[] #[.pointer (some ⟨w.heap.size, 0, none⟩), .pointer (some ⟨w1.heap.size, 0, none⟩)], .func (.func 75) #[] #[.pointer (some ⟨w.heap.size, 0, none⟩), .pointer (some ⟨w3.heap.size, 0, none⟩)]] 48)
        have hs5 := hb5.size
        have hsW := HB4.out.size
        have hlN := lt_of_heap eN
        have hlB := lt_of_heap eB
        have hlL := lt_of_heap eL
        refine (do_deeds ((h.below HB4.out).below hb6) ((hF.below HB4.out).below hb6) ((hw.below HB4.out).below hb6) w5.heap.size [roomG n, fun L D => putG L D body] (fun i => if i = 0 then 73 else 75) (fun i => if i = 0 then #[.pointer (some ⟨w.heap.size, 0, none⟩), .pointer (some ⟨w1.heap.size, 0, none⟩)] else #[.pointer (some ⟨w.heap.size, 0, none⟩), .pointer (some ⟨w3.heap.size, 0, none⟩)]) _ (heap_alloc_new w5 _) (hnF _ (by omega)) ?_ (by simp) ?_ ?_).mono ?_
        · intro i hi
          have : i = 0 ∨ i = 1 := by simp at hi; omega
          rcases this with rfl | rfl <;> rfl
        · intro i w hi
          have : i = 0 ∨ i = 1 := by simp at hi; omega
          rcases this with rfl | rfl
          · exact Go.Proofs.enters_of Tryz.func73 (by kernel_rfl) rfl _ _
          · exact Go.Proofs.enters_of Tryz.func75 (by kernel_rfl) rfl _ _
        · intro i hi w7 F1 hok hk hf hl hkeep
          obtain ⟨e1, f1⟩ := hkeep w.heap.size (by simp; omega) (hnF _ (Nat.le_refl _))
          obtain ⟨e2, f2⟩ := hkeep w1.heap.size (by simp; omega) (hnF _ (by omega))
          obtain ⟨e3, f3⟩ := hkeep w3.heap.size (by simp; omega) (hnF _ (by omega))
          rw [hb6.block _ hlL, eL] at e1
          rw [hb6.block _ hlN, eN] at e2
          rw [hb6.block _ hlB, eB] at e3
          have : i = 0 ∨ i = 1 := by simp at hi; omega
          rcases this with rfl | rfl
          · exact write1 hk hf hl n hm _ _ e1 e2 f1 f2
          · refine write2 hk hl (room_some n L D hok.1) _ _ _ body ?_ e1 e3 f1 f3
            refine (Own.heap (w := W4) (ho4.mono (Nat.zero_le _)) fun a ha => ?_).rd
            have hal := World.ownsRow.lt ho4 a ha
            rw [(hkeep a (by simp; omega) (hnF _ hal.1)).1, hb6.block a hal.2]
        · rintro e w' ⟨rfl, k1, k2⟩
          obtain ⟨k3, k4⟩ := ldeed_of (HB4.out.trans (hb6.mono hsW)) k1 k2
          exact ⟨⟨rfl, k3, k4⟩, k2.cellN (c := #[.pointer (some ⟨bl, 0, none⟩)]) (e := 28) (by rw [hb6.block _ hlL]; exact eL) (hnF _ (Nat.le_refl _)), k2.cellN (c := #[.int .i64 n]) (e := 3) (by rw [hb6.block _ hlN]; exact eN) (hnF _ (by omega))⟩
      have HWG2 : Hid (writeG QS L D = if (writeR n body L D).2.2 = 0 then ({ (writeR n body L D).1 with last := n }, (writeR n body L D).2.1, n, 0) else ((writeR n body L D).1, (writeR n body L D).2.1, 0, (writeR n body L D).2.2)) := by show writeG QS L D = _; rw [HWG.out]; unfold writeB; rw [if_pos rfl]
      obtain ⟨R, HR⟩ := named (writeR n body L D)
      rw [← HR.out] at HDO HWG2
      obtain ⟨LR, DR, xR⟩ := R
      simp only at HWG2
      have cL4 : W4.cell? ⟨w.heap.size, 0, none⟩ = some (.pointer (some ⟨bl, 0, none⟩)) := by rw [cell_of eL]; rfl
      have cl4 := (HB4.out.cell (p := ⟨bl, 0, none⟩) h.lt.1).trans h.s.1
      rw [HW4.out] at cL4 cl4
      clear ho3 ho4 hby cS1 c11 c31 c1 c3 cS eL eN eB
      go_wp2_with fail
      rw [← HW4.out]
      have hD := HDO.out W4 (Below.refl _ _)
      rw [show W4.heap.size = w3.heap.size + 1 by rw [HW4.out]; simp] at hD
      refine hD.mono ?_
      clear hD
      rintro e w6 ⟨⟨rfl, k1, k2⟩, d1, d2⟩
      have HK1 : Hid _ := k1
      have HK2 : Hid _ := k2
      obtain ⟨l1, -, -, l3, -⟩ := k1.s
      have hfz : w6.frozen? ⟨bs, 3, none⟩ = false := by
        obtain ⟨fv, hh, -⟩ := k1.hs
        exact Go.Joins.unfrozen_of_block hh 3
      clear k1 k2
      by_cases hxR : xR = 0
      · subst hxR
        rw [if_pos rfl] at HWG2
        have hne1 : bs ≠ w1.heap.size := by have := h.lt.2; omega
        have hne2 : ¬ w1.heap.size = bs := fun e => hne1 e.symm
        go_wp2_with fail
        go_region
        obtain ⟨V, HV⟩ := named (w6.setCell ⟨bs, 3, none⟩ (Value.int IntKind.i64 n)).drew
        have dV : V.cell? ⟨w1.heap.size, 0, none⟩ = some (.int .i64 n) := by
          rw [HV.out]
          show (w6.setCell ⟨bs, 3, none⟩ (Value.int IntKind.i64 n)).cell? _ = _
          rw [World.cell?_setCell_far _ _ _ _ (fun e => hne2 e.symm)]
          exact d2
        rw [← HV.out]
        clear d1 d2 l1 l3 hfz
        go_wp2_with fail
        go_ret2
        rw [HWG2.out]
        obtain ⟨k1, k2⟩ := Lk.setLast HK1.out n HNUM.out
        obtain ⟨k3, k4⟩ := ldeed_trans (w' := w6.setCell ⟨bs, 3, none⟩ (Value.int IntKind.i64 n)) HK2.out (k1.mono fun b _ hb => .inl hb) k2
        refine ⟨rfl, ?_, ?_⟩
        · rw [HV.out]
          exact k3.below (Below.refl _ _).drew
        · rw [HV.out]
          exact ⟨k4.os, k4.tape, k4.output, k4.size, k4.block⟩
      · rw [if_neg hxR] at HWG2
        have hx' : ((xR : Int) == 0) = false := by simp only [beq_eq_false_iff_ne]; omega
        go_wp2_with fail
        go_ret2
        rw [HWG2.out]
        exact ⟨rfl, HK1.out, HK2.out⟩
    · have hx' : ((xb : Int) == 0) = false := by simp only [beq_eq_false_iff_ne]; omega
      have HWG2 : Hid (writeG QS L D = (L, D, 0, xb)) := by show writeG QS L D = _; rw [HWG.out]; unfold writeB; rw [if_neg hxb]
      obtain ⟨a3, c3', hv3, -⟩ := id ho3.rd
      obtain ⟨k3, HK3⟩ := named body.length
      rw [← HK3.out] at hv3
      subst hv3
      clear ho3 hby cS1 c11 c31 c1 c3 cS
      go_wp2_with fail
      go_ret2
      rw [HWG2.out]
      have HB4 := HB3.out.alloc HB3.out.size (Obj.cells #[Value.slice a3 k3 c3'] 37)
      exact ⟨rfl, (h.below HB4).mono fun b _ hb => .inl hb, Chg.ofBelow HB4 _⟩
end
end Go.Proofs.YtomhkjacngmnhaaGreatDoor
namespace Go.Proofs.YtomhkjacngmnhaaGreatDoor
open Go.RowKit

def beginOk (size last : Int) : Prop := 64 ≤ size ∧ size ≤ 16777216 ∧ 0 ≤ last ∧ last ≤ 576460752303423488
theorem read_empty (D : AD) : (readD D ⟨#[]⟩).2 ≠ 1 := by
  unfold readD
  split
  · simp
  · split <;> simp

section
variable {w : World} {F : Nat → Prop} {bl bs : Nat} {d : Value} {L : AL} {D : AD}
set_option maxRecDepth 100000 in
set_option maxHeartbeats 400000 in
theorem dmade_any (h : Dk w F d D) : Calls Tryz.prog 62 #[d] w fun e w' => e = .returned (.bool true) ∧ Below w.heap.size w w' := by
  have hr := read_any h ⟨#[]⟩
  have hx := read_empty D
  obtain ⟨r, HR⟩ := named (readD D ⟨#[]⟩)
  rw [← HR.out] at hr hx
  obtain ⟨l, x⟩ := r
  simp only at hr hx
  have hx' : ((x : Int) != 1) = true := by simp only [bne_iff_ne]; omega
  obtain ⟨bd, _, _, _, _, rfl, -⟩ := id h
  go_enter Tryz.func62, Tryz.ntmps62
  go_wp2_with fail
  refine hr.mono ?_
  rintro e w1 ⟨v, rfl, ho, hb⟩
  go_wp2_with fail
  go_ret
  exact ⟨rfl, hb⟩

set_option maxRecDepth 100000 in
set_option maxHeartbeats 400000 in
theorem begin_bad (h : Dk w F d D) (size last : Int) (hb : ¬ beginOk size last) : Calls Tryz.prog 13 #[d, .int .i64 size, .int .i64 last] w fun e w' => e = .returned (.tuple #[.pointer none, .int .i64 2]) ∧ Below w.heap.size w w' := by
  have hm := dmade_any h
  obtain ⟨bd, _, _, _, _, rfl, -⟩ := id h
  unfold beginOk at hb
  have hcase : size < 64 ∨ (¬ size < 64 ∧ 16777216 < size) ∨ (¬ size < 64 ∧ ¬ 16777216 < size ∧ last < 0) ∨ (¬ size < 64 ∧ ¬ 16777216 < size ∧ ¬ last < 0 ∧ 576460752303423488 < last) := by omega
  clear hb
  rcases hcase with h1 | ⟨h1, h2⟩ | ⟨h1, h2, h3⟩ | ⟨h1, h2, h3, h4⟩
  all_goals
    go_enter Tryz.func13, Tryz.ntmps13
    go_wp2_with fail
    refine hm.mono ?_
    rintro e w1 ⟨rfl, hb⟩
    go_wp2_with fail
    go_ret2
    exact ⟨rfl, hb⟩

set_option maxRecDepth 100000 in
set_option maxHeartbeats 400000 in
theorem begin_ok (h : Dk w F d D) (size : Nat) (last : Int) (hb : beginOk size last) : Calls Tryz.prog 13 #[d, .int .i64 size, .int .i64 last] w fun e w' => ∃ bl bs, e = .returned (.tuple #[.pointer (some ⟨bl, 0, none⟩), .int .i64 0]) ∧ Lk w' (grow F w w') bl bs d ⟨size, [], last, last, false⟩ D ∧ Below w.heap.size w w' := by
  have hm := dmade_any h
  have HD : Hid _ := h
  obtain ⟨bd, _, _, _, _, rfl, -⟩ := id h
  obtain ⟨b1, b2, b3, b4⟩ := hb
  have h1 : ¬ (size : Int) < 64 := by omega
  have h2 : ¬ (16777216 : Int) < size := by omega
  have h3 : ¬ last < 0 := by omega
  have h4 : ¬ 576460752303423488 < last := by omega
  go_enter Tryz.func13, Tryz.ntmps13
  go_wp2_with fail
  refine hm.mono ?_
  rintro e w1 ⟨rfl, hb⟩
  go_wp2_with fail
  go_ret2
  obtain ⟨W, HW⟩ := named ((w1.alloc (Obj.cells #[Value.pointer (some ⟨bd, 0, none⟩), Value.int IntKind.i64 (size : Int), Value.slice none 0 0, Value.int IntKind.i64 last, Value.int IntKind.i64 last, Value.bool false] 120)).alloc (Obj.cells #[Value.pointer (some ⟨w1.heap.size, 0, none⟩)] 93))
  have hB1 : Below w1.heap.size w1 W := by rw [HW.out]; exact ((Below.refl _ _).alloc (Nat.le_refl _) _).alloc (by simp) _
  have hB : Below w.heap.size w W := below_call hb hB1
  have hs := hb.size
  have hsz : W.heap.size = w1.heap.size + 1 + 1 := by rw [HW.out]; simp
  rw [← HW.out]
  refine ⟨w1.heap.size + 1, w1.heap.size, rfl, ⟨?_, ⟨.slice none 0 0, ?_, OwnV.nil _ _ _, by simp [Value.ownBlock]⟩, ⟨.inr ⟨by omega, by omega⟩, .inr ⟨by omega, by omega⟩⟩, (Dk.below (show Dk w F _ D from HD.out) hB).mono fun b _ hb => .inl hb, ?_⟩, hB⟩
  · rw [HW.out]
    have := heap_alloc_new (w1.alloc (Obj.cells #[Value.pointer (some ⟨bd, 0, none⟩), Value.int IntKind.i64 (size : Int), Value.slice none 0 0, Value.int IntKind.i64 last, Value.int IntKind.i64 last, Value.bool false] 120)) (Obj.cells #[Value.pointer (some ⟨w1.heap.size, 0, none⟩)] 93)
    simpa using this
  · rw [HW.out, Below.heap_alloc _ _ _ (by simp)]
    exact heap_alloc_new w1 _
  · exact ⟨by show size ≤ _; omega, by simp, by simp, (show 0 ≤ last ∧ last ≤ 1152921504606846976 from by omega), (show 0 ≤ last ∧ last ≤ 1152921504606846976 from by omega)⟩

set_option maxRecDepth 100000 in
set_option maxHeartbeats 400000 in
theorem last_any (h : Lk w F bl bs d L D) : Calls Tryz.prog 23 #[.pointer (some ⟨bl, 0, none⟩)] w fun e w' => e = .returned (.int .i64 L.last) ∧ Below w.heap.size w w' := by
  go_enter Tryz.func23, Tryz.ntmps23
  go_wp2_with fail
  refine (lmade_any h).mono ?_
  rintro e w1 ⟨rfl, hb⟩
  obtain ⟨c0, -, -, c3, -, -⟩ := (h.below hb).s
  go_wp2_with fail
  go_ret
  exact ⟨rfl, hb⟩
set_option maxRecDepth 100000 in
set_option maxHeartbeats 400000 in
theorem acked_any (h : Lk w F bl bs d L D) : Calls Tryz.prog 24 #[.pointer (some ⟨bl, 0, none⟩)] w fun e w' => e = .returned (.int .i64 L.acked) ∧ Below w.heap.size w w' := by
  go_enter Tryz.func24, Tryz.ntmps24
  go_wp2_with fail
  refine (lmade_any h).mono ?_
  rintro e w1 ⟨rfl, hb⟩
  obtain ⟨c0, -, -, -, c3, -⟩ := (h.below hb).s
  go_wp2_with fail
  go_ret
  exact ⟨rfl, hb⟩
set_option maxRecDepth 100000 in
set_option maxHeartbeats 400000 in
theorem over_any (h : Lk w F bl bs d L D) : Calls Tryz.prog 22 #[.pointer (some ⟨bl, 0, none⟩)] w fun e w' => e = .returned (.bool L.over) ∧ Below w.heap.size w w' := by
  go_enter Tryz.func22, Tryz.ntmps22
  go_wp2_with fail
  refine (lmade_any h).mono ?_
  rintro e w1 ⟨rfl, hb⟩
  obtain ⟨c0, -, -, -, -, c3⟩ := (h.below hb).s
  go_wp2_with fail
  go_ret
  exact ⟨rfl, hb⟩

def filesB (L : AL) : List ByteArray := L.firsts.map nameB
set_option maxRecDepth 100000 in
set_option maxHeartbeats 800000 in
theorem files_any (h : Lk w F bl bs d L D) (hw : Laid w) : Calls Tryz.prog 26 #[.pointer (some ⟨bl, 0, none⟩)] w fun e w' => ∃ v, e = .returned v ∧ OwnV w' w.heap.size 9 v ((filesB L).map .string) ∧ Below w.heap.size w w' := by
  obtain ⟨ao, cap, hc, h1, h2, h3⟩ := h.row
  obtain ⟨i9, hi9, hz90, hz91, hz92⟩ := info_parts Tryz.info9
  obtain ⟨c0, -⟩ := h.s
  have HL : Hid _ := h
  have hlt := h.lt
  obtain ⟨n, HN⟩ := named L.firsts.length
  rw [← HN.out] at hc h1
  unfold maxLen at h2
  go_enter Tryz.func26, Tryz.ntmps26
  go_wp2_with fail
  refine (lmade_any h).mono ?_
  rintro e w1 ⟨rfl, hb⟩
  have c0' := (hb.cell (p := ⟨bl, 0, none⟩) hlt.1).trans c0
  have hc' := (hb.cell (p := ⟨bs, 2, none⟩) hlt.2).trans hc
  have hmany := h.ok.many
  clear hc c0
  go_wp2
  go_loopw [3, 17] (fun nv iv wr => ∃ k : Nat, k ≤ n ∧ iv = .int .i64 k ∧ Hid (OwnV wr w.heap.size 9 nv (((filesB L).take k).map .string)) ∧ Hid (Below w.heap.size w wr)) (fun _ iv _ => n - (intOf iv).toNat)
  case atStart => exact ⟨0, by omega, rfl, OwnV.nil _ _ _, hb⟩
  case round =>
    obtain ⟨k, hk, rfl, HO, HB⟩ := hrel
    by_cases hlt' : k < n
    · have hkl : k < L.firsts.length := by rw [← HN.out]; exact hlt'
      obtain ⟨g, hao, hg, hcs⟩ := h3 (by intro e; rw [e] at hkl; simp at hkl)
      subst hao
      have hck := (HB.out.cell (p := ⟨g, k, none⟩) hg).trans (hcs k hkl)
      have HTK : Hid (((filesB L).take (k + 1)).map Value.string = ((filesB L).take k).map Value.string ++ [.string (nameB (L.firsts[k]'hkl))]) := by
        show _ = _
        have hfl : k < (filesB L).length := by unfold filesB; rw [List.length_map]; exact hkl
        have hg : (filesB L)[k]'hfl = nameB (L.firsts[k]'hkl) := by simp [filesB]
        rw [List.take_succ_eq_append_getElem hfl, List.map_append, List.map_cons, List.map_nil, hg]
      have hlen : (((filesB L).take k).map Value.string).length ≤ 1000000 := by rw [List.length_map, List.length_take]; omega
      obtain ⟨x, HX⟩ := named (L.firsts[k]'hkl)
      rw [← HX.out] at hck HTK
      obtain ⟨xs, HXS⟩ := named (((filesB L).take k).map Value.string)
      rw [← HXS.out] at HO HTK hlen
      have hlt2 : (k : Int) < n := by omega
      clear hcs HX
      go_wp2_with fail
      refine (name_any x wr (hw.below HB.out)).mono ?_
      rintro e w2 ⟨rfl, hb2⟩
      have hB2 : Below w.heap.size w w2 := below_call HB.out hb2
      have hs2 := hB2.size
      obtain ⟨nv', w3, hr3, ho3, hg3⟩ := run_append_v (P := Tryz.prog) (w2.alloc (.cells #[.string (nameB x)] 9)) 49 49 9 i9 (.string ⟨#[]⟩) 16 Tryz.underlying49 hi9 hz90 hz91 hz92 rfl (by omega) w.heap.size u3 (.string (nameB x)) ⟨w2.heap.size, 0, none⟩ 1 xs rfl (by simp) ((OwnV.below HO.out hb2).alloc _) hlen (by simp; omega)
      have HB3 : Hid (Below w.heap.size w w3) := (hB2.alloc hs2 _).grown hg3 (by simp; omega) (fun k hk => (World.ownsRow.lt HO.out k hk).1)
      have HO3 : Hid _ := ho3
      clear ho3 hg3 hB2 hb2
      go_wp2_with (at_builtin; refine Lib.wpList_append_run _ rfl (.tmp 21) (.tmp 24) 49 49 rfl _ _ rfl rfl _ _ hr3 ?_)
      go_roundw
      case rel => exact ⟨k + 1, by omega, by go_num, by rw [HTK.out]; exact HO3, HB3⟩
      case measure => simp [intOf]; omega
    · have hlt2 : ¬ (k : Int) < n := by omega
      have HK : Hid ((filesB L).take k = filesB L) := by
        show _ = _
        rw [List.take_of_length_le]
        unfold filesB
        rw [List.length_map, ← HN.out]
        omega
      rw [HK.out] at HO
      go_wp2
      go_ret
      exact ⟨_, rfl, HO.out, HB.out⟩
end
end Go.Proofs.YtomhkjacngmnhaaGreatDoor
