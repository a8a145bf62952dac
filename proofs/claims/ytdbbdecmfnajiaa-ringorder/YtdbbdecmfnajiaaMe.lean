/-
  The contracts of gather: from nothing, and into places made for the numbers. Own work.
-/
import Derived.Test.YtdbbdecmfnajiaaMd
namespace Go.Proofs.Ytdbbdecmfnajiaa
open Go.RowKit

set_option maxRecDepth 100000 in
set_option maxHeartbeats 1600000 in
theorem gather_nil {w : World} {qb n first count : Nat} {pv : Value} {most : Int} {f : Nat → Int} (h : Qm w qb pv most n first count f) :
    Calls Try.prog 53 #[.slice none 0 0, pv, .func (.func 54) #[.pointer (some ⟨qb, 0, none⟩)] #[]] w fun e w' => ∃ v, e = .returned v ∧ OwnI w' w.heap.size v (qL f first n count) ∧ Below w.heap.size w w' := by
  obtain ⟨hn2, hsh⟩ := h.pl.shape
  obtain ⟨W, HW⟩ := named ((w.alloc (.cells #[.slice none 0 0] 22)).alloc (.cells #[pv] 22))
  have hb : Below w.heap.size w W := by rw [HW.out]; exact ((Below.refl _ _).alloc (Nat.le_refl _) _).alloc (by simp) _
  have ha : W.heap[w.heap.size]? = some (.cells #[.slice none 0 0] 22 (0, 0)) := by rw [HW.out, Below.heap_alloc _ _ _ (by simp)]; exact heap_new w _
  have hp : W.heap[w.heap.size + 1]? = some (.cells #[pv] 22 (0, 0)) := by
    rw [HW.out]
    have := heap_new (w.alloc (.cells #[.slice none 0 0] 22)) (.cells #[pv] 22)
    simpa using this
  have hq := h.below hb
  have hgi : GI w qb (w.heap.size + 1) n first pv (.cells #[.int .i64 most, pv, .int .i64 first, .int .i64 count] 93 (0, 0)) f w.heap.size 0 W :=
    ⟨hb, hq.pl, hq.cs, hp, Nat.le_refl _, _, ha, OwnI.nil _ _⟩
  have kr := round67 w.heap.size (w.heap.size + 1) (GI w qb (w.heap.size + 1) n first pv (.cells #[.int .i64 most, pv, .int .i64 first, .int .i64 count] 93 (0, 0)) f w.heap.size)
    ⟨h.le, fun h0 => by rcases h.fi with h1 | ⟨h1, h2⟩; exact h1; have := h.le; omega⟩ hn2 h.cm hsh hgi (fun k u hk => hk.qh) (fun k u j hk => ⟨hk.be.trans (drewN_below u j |>.mono hk.be.size), hk.pl.heap fun _ _ => rfl, hk.qh, hk.hp, hk.al, by obtain ⟨v, e1, e2⟩ := hk.ha; exact ⟨v, e1, e2.heap fun _ _ => rfl⟩⟩)
    (fun k u hk hI => hI.step (by have := h.le; omega) (by have := h.cm; omega) h.row_ne (lt_of h.cs) (fun a e => h.pl.lt a e) (by omega))
  obtain ⟨ao, rfl⟩ := hsh
  clear hb ha hp hq hgi h
  go_enter Try.func53, Try.ntmps53
  go_wp2_with (rw [← HW.out])
  (with_reducible refine Calls.mono kr ?_)
  clear kr
  rintro e u ⟨rfl, hI⟩
  obtain ⟨v, hv, ho⟩ := hI.ha
  obtain ⟨ao', c', rfl⟩ := ho.shape
  have hB := hide hI.be
  have hO := hide ho
  have c0 : u.cell? ⟨w.heap.size, 0, none⟩ = some (.slice ao' (qL f first n count).length c') := by rw [cell_of hv]; rfl
  clear hI hv ho
  go_wp2_with fail
  go_ret
  exact ⟨_, rfl, hO.out, hB.out⟩

set_option maxRecDepth 100000 in
set_option maxHeartbeats 1600000 in
theorem gather_into {w0 w : World} {qb n first count g2 m : Nat} {pv : Value} {most : Int} {f z : Nat → Int} (h : Qm w0 qb pv most n first count f) (hb0 : Below w0.heap.size w0 w) (hm : count ≤ m) (hz : Pl w (.slice (some ⟨g2, 0, none⟩) m m) m z) (hg2 : w0.heap.size ≤ g2) :
    Calls Try.prog 53 #[.slice (some ⟨g2, 0, none⟩) 0 m, pv, .func (.func 54) #[.pointer (some ⟨qb, 0, none⟩)] #[]] w fun e w' => e = .returned (.slice (some ⟨g2, 0, none⟩) count m) ∧ Below w0.heap.size w0 w' ∧ ∃ k, Pl w' (.slice (some ⟨g2, 0, none⟩) m m) m k ∧ ∀ i, i < count → k i = f ((first + i) % n) := by
  obtain ⟨hn2, hsh⟩ := h.pl.shape
  obtain ⟨W, HW⟩ := named ((w.alloc (.cells #[.slice (some ⟨g2, 0, none⟩) 0 m] 22)).alloc (.cells #[pv] 22))
  have hb : Below w.heap.size w W := by rw [HW.out]; exact ((Below.refl _ _).alloc (Nat.le_refl _) _).alloc (by simp) _
  have ha : W.heap[w.heap.size]? = some (.cells #[.slice (some ⟨g2, 0, none⟩) 0 m] 22 (0, 0)) := by rw [HW.out, Below.heap_alloc _ _ _ (by simp)]; exact heap_new w _
  have hp : W.heap[w.heap.size + 1]? = some (.cells #[pv] 22 (0, 0)) := by
    rw [HW.out]
    have := heap_new (w.alloc (.cells #[.slice (some ⟨g2, 0, none⟩) 0 m] 22)) (.cells #[pv] 22)
    simpa using this
  have hbw := hb0.trans (hb.mono hb0.size)
  have hq := h.below hbw
  have hlg := hz.lt g2 rfl
  have hgr : GR w0 qb (w.heap.size + 1) n first m g2 pv (.cells #[.int .i64 most, pv, .int .i64 first, .int .i64 count] 93 (0, 0)) f w.heap.size 0 W :=
    ⟨hbw, hq.pl, hq.cs, hp, hb0.size, hg2, ha, z, hz.heap (fun a e => by cases e; exact hb.block g2 hlg), fun i hi => by omega⟩
  have kr := round67 w.heap.size (w.heap.size + 1) (GR w0 qb (w.heap.size + 1) n first m g2 pv (.cells #[.int .i64 most, pv, .int .i64 first, .int .i64 count] 93 (0, 0)) f w.heap.size)
    ⟨h.le, fun h0 => by rcases h.fi with h1 | ⟨h1, h2⟩; exact h1; have := h.le; omega⟩ hn2 h.cm hsh hgr (fun k u hk => hk.qh) (fun k u j hk => ⟨hk.be.trans (drewN_below u j |>.mono hk.be.size), hk.pl.heap fun _ _ => rfl, hk.qh, hk.hp, hk.al, hk.gl, hk.ha, by obtain ⟨v, e1, e2⟩ := hk.ne; exact ⟨v, e1.heap fun _ _ => rfl, e2⟩⟩)
    (fun k u hk hI => hI.step (by have := h.le; omega) (by omega) (lt_of h.cs) (fun a e => h.pl.lt a e) (by omega))
  obtain ⟨ao, rfl⟩ := hsh
  clear hb ha hp hq hgr h hbw hlg hz hb0
  go_enter Try.func53, Try.ntmps53
  go_wp2_with (rw [← HW.out])
  (with_reducible refine Calls.mono kr ?_)
  clear kr
  rintro e u ⟨rfl, hI⟩
  have hB := hide hI.be
  have hN := hide hI.ne
  have c0 : u.cell? ⟨w.heap.size, 0, none⟩ = some (.slice (some ⟨g2, 0, none⟩) count m) := by rw [cell_of hI.ha]; rfl
  clear hI
  go_wp2_with fail
  go_ret
  exact ⟨rfl, hB.out, hN.out⟩
end Go.Proofs.Ytdbbdecmfnajiaa
