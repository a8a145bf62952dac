/-
  Rings that New made, as a function of the names; the contracts of made, nameMayBe, capMayBe, find, Clone, keep. Own work.
-/
import Derived.Test.YtdbbdecmfnajiaaMj
import Derived.Test.YtdbbdecmfnajiaaSh
namespace Go.Proofs.Ytdbbdecmfnajiaa
open Go.RowKit

def right (s : ByteArray) : Prop := 1 ≤ s.size ∧ s.size ≤ 40
instance (s : ByteArray) : Decidable (right s) := by unfold right; infer_instance
theorem right.max {s : ByteArray} (h : right s) : s.size ≤ maxLen := by have := h.2; unfold maxLen; omega
/-- a cap that may be -/
def capOk (c : Int) : Prop := 1 ≤ c ∧ c ≤ 65536
instance (c : Int) : Decidable (capOk c) := by unfold capOk; infer_instance

set_option maxRecDepth 100000 in
set_option maxHeartbeats 800000 in
theorem name_any (s : ByteArray) (w : World) (hs : s.size ≤ maxLen) : Calls Try.prog 42 #[.string s] w fun e w' => e = .returned (.bool (decide (right s))) ∧ w' = w := by
  unfold maxLen at hs
  by_cases h1 : 1 ≤ s.size
  · have h1I : (1 : Int) ≤ (s.size : Int) := by omega
    by_cases h2 : s.size ≤ 40
    · have h2I : (s.size : Int) ≤ 40 := by omega
      rw [decide_eq_true (show right s from ⟨h1, h2⟩)]
      go_enter Try.func42, Try.ntmps42
      go_wp2
      go_ret
      exact ⟨rfl, rfl⟩
    · have h2I : ¬ (s.size : Int) ≤ 40 := by omega
      rw [decide_eq_false (show ¬ right s from fun h => h2 h.2)]
      go_enter Try.func42, Try.ntmps42
      go_wp2
      go_ret
      exact ⟨rfl, rfl⟩
  · have h1I : ¬ (1 : Int) ≤ (s.size : Int) := by omega
    rw [decide_eq_false (show ¬ right s from fun h => h1 h.1)]
    go_enter Try.func42, Try.ntmps42
    go_wp2
    go_ret
    exact ⟨rfl, rfl⟩
set_option maxRecDepth 100000 in
set_option maxHeartbeats 800000 in
theorem cap_any (c : Int) (w : World) : Calls Try.prog 34 #[.int .i64 c] w fun e w' => e = .returned (.bool (decide (capOk c))) ∧ w' = w := by
  by_cases h1 : 1 ≤ c
  · by_cases h2 : c ≤ 65536
    · rw [decide_eq_true (show capOk c from ⟨h1, h2⟩)]
      go_enter Try.func34, Try.ntmps34
      go_wp2
      go_ret
      exact ⟨rfl, rfl⟩
    · rw [decide_eq_false (show ¬ capOk c from fun h => h2 h.2)]
      go_enter Try.func34, Try.ntmps34
      go_wp2
      go_ret
      exact ⟨rfl, rfl⟩
  · rw [decide_eq_false (show ¬ capOk c from fun h => h1 h.1)]
    go_enter Try.func34, Try.ntmps34
    go_wp2
    go_ret
    exact ⟨rfl, rfl⟩
set_option maxRecDepth 100000 in
set_option maxHeartbeats 800000 in
theorem clone_any (s : ByteArray) (w : World) (hs : right s) : Calls Try.prog 62 #[.string s] w fun e w' => e = .returned (.string s) ∧ Below w.heap.size w w' := by
  have kc := Try.stringslite_Clone s w (by have := hs.2; omega)
  go_enter Try.func62, Try.ntmps62
  go_wp2_with fail
  (with_reducible refine Calls.mono kc ?_)
  clear kc
  rintro e u ⟨rfl, hb⟩
  have HB := hide hb
  clear hb
  go_wp2_with fail
  go_ret
  exact ⟨rfl, HB.out⟩

/-- what stands by a name -/
abbrev EM := ByteArray → Option Qd
def ptrs (E : EM) : MF := fun s => (E s).map fun q => .pointer (some ⟨q.qb, 0, none⟩)
/-- rings in memory: their block, their state's, their map's; the queues by their names -/
structure Rs (w : World) (rb sb mb : Nat) (most : Int) (m : Nat) (E : EM) : Prop where
  hr : w.heap[rb]? = some (.cells #[.pointer (some ⟨sb, 0, none⟩)] 60 (0, 0))
  hs : w.heap[sb]? = some (.cells #[.int .i64 most, .map (some mb)] 72 (0, 0))
  hm : Mp w mb m (ptrs E)
  hq : ∀ s q, E s = some q → QM w q
  ap : ∀ s t q r, s ≠ t → E s = some q → E t = some r → ∀ b, q.bk b → ¬ r.bk b
  mo : capOk most
  rt : ∀ s q, E s = some q → right s
  many : m ≤ 1000
/-- their blocks -/
def Rb (rb sb mb : Nat) (E : EM) (b : Nat) : Prop := b = rb ∨ b = sb ∨ b = mb ∨ ∃ s q, E s = some q ∧ q.bk b
section
variable {w w' : World} {rb sb mb m : Nat} {most : Int} {E : EM}
theorem Rs.lt (h : Rs w rb sb mb most m E) (b : Nat) (hb : Rb rb sb mb E b) : b < w.heap.size := by
  rcases hb with rfl | rfl | rfl | ⟨s, q, h1, h2⟩
  · exact lt_of h.hr
  · exact lt_of h.hs
  · exact h.hm.lt
  · exact (h.hq s q h1).lt b h2
theorem Rs.heap (h : Rs w rb sb mb most m E) (hk : ∀ b, Rb rb sb mb E b → w'.heap[b]? = w.heap[b]?) : Rs w' rb sb mb most m E :=
  ⟨(hk _ (.inl rfl)).trans h.hr, (hk _ (.inr (.inl rfl))).trans h.hs, h.hm.heap (hk _ (.inr (.inr (.inl rfl)))), fun s q hq => (h.hq s q hq).heap fun b hb => hk b (.inr (.inr (.inr ⟨s, q, hq, hb⟩))), h.ap, h.mo, h.rt, h.many⟩
theorem Rs.below (h : Rs w rb sb mb most m E) (hb : Below w.heap.size w w') : Rs w' rb sb mb most m E := h.heap fun b hB => hb.block b (h.lt b hB)
theorem Rs.r0 (h : Rs w rb sb mb most m E) : w.cell? ⟨rb, 0, none⟩ = some (.pointer (some ⟨sb, 0, none⟩)) := by rw [cell_of h.hr]; rfl
theorem Rs.s0 (h : Rs w rb sb mb most m E) : w.cell? ⟨sb, 0, none⟩ = some (.int .i64 most) := by rw [cell_of h.hs]; rfl
theorem Rs.s1 (h : Rs w rb sb mb most m E) : w.cell? ⟨sb, 1, none⟩ = some (.map (some mb)) := by rw [cell_of h.hs]; rfl
/-- no queue's block is the map's -/
theorem QM.not_map {q : Qd} (h : QM w q) {es : Array MapEntry} {c : Nat} (hm : w.heap[mb]? = some (.map es c)) : ¬ q.bk mb := by
  rintro (rfl | hb)
  · have := h.1.cs; rw [hm] at this; cases this
  · obtain ⟨cur, hc⟩ := h.1.pl.elem _ hb; rw [hm] at hc; cases hc
theorem QM.not_cells {q : Qd} (h : QM w q) {cs : Array Value} {t : TypeId} {b : Nat} (hb : w.heap[b]? = some (.cells cs t (0, 0))) (h1 : t ≠ 93) (h2 : t ≠ 3) : ¬ q.bk b := by
  rintro (rfl | hq)
  · exact ne_of_elem hb h.1.cs h1 rfl
  · obtain ⟨cur, hc⟩ := h.1.pl.elem _ hq
    exact ne_of_elem hb hc h2 rfl
end

set_option maxRecDepth 100000 in
set_option maxHeartbeats 800000 in
theorem made_yes (w : World) (rb sb : Nat) (hc : w.cell? ⟨rb, 0, none⟩ = some (.pointer (some ⟨sb, 0, none⟩))) :
    Calls Try.prog 41 #[.pointer (some ⟨rb, 0, none⟩)] w fun e w' => e = .returned (.bool true) ∧ w' = w := by
  go_enter Try.func41, Try.ntmps41
  go_wp2
  go_ret
  exact ⟨rfl, rfl⟩
/-- no rings, or some that New did not make -/
def NoneR (w : World) (v : Value) : Prop := v = .pointer none ∨ ∃ b, v = .pointer (some ⟨b, 0, none⟩) ∧ w.cell? ⟨b, 0, none⟩ = some (.pointer none)
set_option maxRecDepth 100000 in
set_option maxHeartbeats 800000 in
theorem made_no (w : World) (v : Value) (h : NoneR w v) : Calls Try.prog 41 #[v] w fun e w' => e = .returned (.bool false) ∧ w' = w := by
  rcases h with rfl | ⟨b, rfl, hc⟩
  · go_enter Try.func41, Try.ntmps41
    go_wp2
    go_ret
    exact ⟨rfl, rfl⟩
  · go_enter Try.func41, Try.ntmps41
    go_wp2
    go_ret
    exact ⟨rfl, rfl⟩

/-- a queue that has nothing -/
def noQ (b : Nat) (most : Int) : Qd := ⟨b, .slice none 0 0, most, 0, 0, fun _ => 0, []⟩
theorem noQ_new (w : World) (most : Int) (hm : 0 ≤ most ∧ most ≤ 65536) : QM (w.alloc (.cells #[.int .i64 most, .slice none 0 0, .int .i64 0, .int .i64 0] 93)) (noQ w.heap.size most) :=
  ⟨⟨heap_new w _, .inl ⟨rfl, rfl⟩, .inr ⟨rfl, rfl⟩, Nat.le_refl _, hm, Nat.zero_le _⟩, rfl⟩
theorem noQ_bk {b k : Nat} {most : Int} (h : (noQ k most).bk b) : b = k := by
  rcases h with h | h
  · exact h
  · cases h

set_option maxRecDepth 100000 in
set_option maxHeartbeats 1600000 in
/-- find where none may be -/
theorem find_none (w : World) (v : Value) (s : ByteArray) (hs : s.size ≤ maxLen) (h : NoneR w v ∨ (¬ right s ∧ ∃ rb sb, v = .pointer (some ⟨rb, 0, none⟩) ∧ w.cell? ⟨rb, 0, none⟩ = some (.pointer (some ⟨sb, 0, none⟩)))) :
    Calls Try.prog 43 #[v, .string s] w fun e w' => e = .returned (.pointer (some ⟨w.heap.size, 0, none⟩)) ∧ Below w.heap.size w w' ∧ QM w' (noQ w.heap.size 0) := by
  have hend : Below w.heap.size w (w.alloc (.cells #[.int .i64 0, .slice none 0 0, .int .i64 0, .int .i64 0] 93)) ∧ QM (w.alloc (.cells #[.int .i64 0, .slice none 0 0, .int .i64 0, .int .i64 0] 93)) (noQ w.heap.size 0) :=
    ⟨(Below.refl _ _).alloc (Nat.le_refl _) _, noQ_new w 0 (by omega)⟩
  have HE := hide hend
  rcases h with h | ⟨hr, rb, sb, rfl, hc⟩
  · have km := made_no w v h
    obtain ⟨po, rfl⟩ : ∃ po, v = .pointer po := by rcases h with rfl | ⟨b, rfl, _⟩ <;> exact ⟨_, rfl⟩
    clear h hend
    go_enter Try.func43, Try.ntmps43
    go_wp2_with fail
    (with_reducible refine Calls.mono km ?_)
    clear km
    rintro e u ⟨rfl, rfl⟩
    go_wp2_with fail
    go_ret
    exact ⟨rfl, HE.out⟩
  · have km := made_yes w rb sb hc
    have kn := name_any s w hs
    rw [decide_eq_false hr] at kn
    clear hend
    go_enter Try.func43, Try.ntmps43
    go_wp2_with fail
    (with_reducible refine Calls.mono km ?_)
    clear km
    rintro e u ⟨rfl, rfl⟩
    go_wp2_with fail
    (with_reducible refine Calls.mono kn ?_)
    clear kn
    rintro e u ⟨rfl, rfl⟩
    go_wp2_with fail
    go_ret
    exact ⟨rfl, HE.out⟩

set_option maxRecDepth 100000 in
set_option maxHeartbeats 1600000 in
theorem find_yes {w : World} {rb sb mb m : Nat} {most : Int} {E : EM} (h : Rs w rb sb mb most m E) {s : ByteArray} (hs : right s) {q : Qd} (hq : E s = some q) :
    Calls Try.prog 43 #[.pointer (some ⟨rb, 0, none⟩), .string s] w fun e w' => e = .returned (.pointer (some ⟨q.qb, 0, none⟩)) ∧ w' = w := by
  have km := made_yes w rb sb h.r0
  have kn := name_any s w hs.max
  rw [decide_eq_true hs] at kn
  have r0 := h.r0
  have s1 := h.s1
  have hl := h.hm.look_ok mt70 hs.max
  have e1 : ptrs E s = some (.pointer (some ⟨q.qb, 0, none⟩)) := by unfold ptrs; rw [hq]; rfl
  rw [e1] at hl
  simp only [Option.getD_some, Option.isSome_some] at hl
  clear h
  go_enter Try.func43, Try.ntmps43
  go_wp2_with fail
  (with_reducible refine Calls.mono km ?_)
  clear km
  rintro e u ⟨rfl, rfl⟩
  go_wp2_with fail
  (with_reducible refine Calls.mono kn ?_)
  clear kn
  rintro e u ⟨rfl, rfl⟩
  go_wp2_with fail
  go_ret
  exact ⟨rfl, rfl⟩
set_option maxRecDepth 100000 in
set_option maxHeartbeats 1600000 in
theorem find_new {w : World} {rb sb mb m : Nat} {most : Int} {E : EM} (h : Rs w rb sb mb most m E) {s : ByteArray} (hs : right s) (hq : E s = none) :
    Calls Try.prog 43 #[.pointer (some ⟨rb, 0, none⟩), .string s] w fun e w' => e = .returned (.pointer (some ⟨w.heap.size, 0, none⟩)) ∧ Below w.heap.size w w' ∧ QM w' (noQ w.heap.size most) := by
  have km := made_yes w rb sb h.r0
  have kn := name_any s w hs.max
  rw [decide_eq_true hs] at kn
  have r0 := h.r0
  have s0 := h.s0
  have s1 := h.s1
  have hl := h.hm.look_ok mt70 hs.max
  have e1 : ptrs E s = none := by unfold ptrs; rw [hq]; rfl
  rw [e1] at hl
  simp only [Option.getD_none, Option.isSome_none] at hl
  have hend : Below w.heap.size w (w.alloc (.cells #[.int .i64 most, .slice none 0 0, .int .i64 0, .int .i64 0] 93)) ∧ QM (w.alloc (.cells #[.int .i64 most, .slice none 0 0, .int .i64 0, .int .i64 0] 93)) (noQ w.heap.size most) :=
    ⟨(Below.refl _ _).alloc (Nat.le_refl _) _, noQ_new w most (by have := h.mo; unfold capOk at this; omega)⟩
  have HE := hide hend
  clear h hend
  go_enter Try.func43, Try.ntmps43
  go_wp2_with fail
  (with_reducible refine Calls.mono km ?_)
  clear km
  rintro e u ⟨rfl, rfl⟩
  go_wp2_with fail
  (with_reducible refine Calls.mono kn ?_)
  clear kn
  rintro e u ⟨rfl, rfl⟩
  go_wp2_with fail
  go_ret
  exact ⟨rfl, HE.out⟩
end Go.Proofs.Ytdbbdecmfnajiaa
