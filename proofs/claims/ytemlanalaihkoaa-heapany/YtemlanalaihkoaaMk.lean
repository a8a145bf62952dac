/-
  A heap that New made, as a list in order; what is done to it leaves all else as it is. The contracts of New, made, Len, Get, Next, Drop, Pop. Own work.
-/
import Derived.Test.YtemlanalaihkoaaMj
namespace Go.Proofs.Ytemlanalaihkoaa
open Go.RowKit Go.Sort

/-- what lay outside of F is as it was, and outside of G -/
structure Step (F : Nat → Prop) (w w' : World) (G : Nat → Prop) : Prop where
  chg : Chg F w w'
  new : ∀ b, G b → F b ∨ w.heap.size ≤ b
theorem Step.below {F : Nat → Prop} {w w' : World} (hb : Below w.heap.size w w') : Step F w w' F := ⟨Chg.ofBelow hb F, fun _ h => .inl h⟩
theorem Step.trans {F G H : Nat → Prop} {w w' w'' : World} (h : Step F w w' G) (k : Step G w' w'' H) : Step F w w'' H :=
  ⟨h.chg.trans k.chg fun i hi hG => (h.new i hG).elim id fun h' => by omega, fun b hH => (k.new b hH).elim (h.new b) fun h' => .inr (by have := h.chg.size; omega)⟩

/-- h is a heap that New made, of that most; it has the timers of L, in the blocks of F -/
def Hp (w : World) (h : Value) (most : Nat) (L : List Tm) (F : Nat → Prop) : Prop :=
  ∃ hb sb mb tv f l, h = .pointer (some ⟨hb, 0, none⟩) ∧ w.heap[hb]? = some (.cells #[.pointer (some ⟨sb, 0, none⟩)] 62 (0, 0)) ∧ Sm w sb mb tv most L.length f ∧ Mp w mb L.length 3 (LI l) ∧ PL l f L.length ∧ HO f L.length ∧ SL L f L.length ∧
    F hb ∧ (∀ b, Blk sb mb tv b → F b) ∧ ∀ b, F b → b < w.heap.size
theorem Hp.heap {w w' : World} {h : Value} {most : Nat} {L : List Tm} {F : Nat → Prop} (hp : Hp w h most L F) (hs : w.heap.size ≤ w'.heap.size) (hk : ∀ b, F b → w'.heap[b]? = w.heap[b]?) : Hp w' h most L F := by
  obtain ⟨hb, sb, mb, tv, f, l, h1, h2, h3, h4, h5, h6, h7, h8, h9, h10⟩ := hp
  exact ⟨hb, sb, mb, tv, f, l, h1, (hk _ h8).trans h2, h3.heap (hk _ (h9 _ (.inl rfl))) (fun a ha => hk _ (h9 _ (.inr (.inr ha)))), h4.heap (hk _ (h9 _ (.inr (.inl rfl)))), h5, h6, h7, h8, h9, fun b hF => Nat.lt_of_lt_of_le (h10 b hF) hs⟩
theorem Hp.sub {w : World} {h : Value} {most : Nat} {L : List Tm} {F : Nat → Prop} (hp : Hp w h most L F) (b : Nat) (hb : F b) : b < w.heap.size := by
  obtain ⟨hb, sb, mb, tv, f, l, h1, h2, h3, h4, h5, h6, h7, h8, h9, h10⟩ := hp
  exact h10 b ‹_›
theorem Hp.below {w w' : World} {h : Value} {most : Nat} {L : List Tm} {F : Nat → Prop} (hp : Hp w h most L F) (hb : Below w.heap.size w w') : Hp w' h most L F :=
  hp.heap hb.size fun b hF => hb.block b (hp.sub b hF)
/-- another heap stays as it is -/
theorem Hp.keep {w w' : World} {h : Value} {most : Nat} {L : List Tm} {F G G' : Nat → Prop} (hp : Hp w h most L F) (hs : Step G w w' G') (hd : ∀ b, F b → ¬ G b) : Hp w' h most L F ∧ ∀ b, F b → ¬ G' b := by
  refine ⟨hp.heap hs.chg.size fun b hF => hs.chg.block b (hp.sub b hF) (hd b hF), fun b hF hG => ?_⟩
  rcases hs.new b hG with h' | h'
  · exact hd b hF h'
  · have := hp.sub b hF; omega
theorem Hp.srt {w : World} {h : Value} {most : Nat} {L : List Tm} {F : Nat → Prop} (hp : Hp w h most L F) : Srt L := by
  obtain ⟨hb, sb, mb, tv, f, l, h1, h2, h3, h4, h5, h6, h7, h8, h9, h10⟩ := hp
  exact h7.srt
theorem Hp.len {w : World} {h : Value} {most : Nat} {L : List Tm} {F : Nat → Prop} (hp : Hp w h most L F) : L.length ≤ most ∧ most ≤ 65536 := by
  obtain ⟨hb, sb, mb, tv, f, l, h1, h2, h3, h4, h5, h6, h7, h8, h9, h10⟩ := hp
  exact ⟨h3.le, h3.mx⟩
theorem Hp.rng {w : World} {h : Value} {most : Nat} {L : List Tm} {F : Nat → Prop} (hp : Hp w h most L F) : ∀ x ∈ L, I64 x.1 ∧ I64 x.2 := by
  obtain ⟨hb, sb, mb, tv, f, l, h1, h2, h3, h4, h5, h6, h7, h8, h9, h10⟩ := hp
  intro x hx
  obtain ⟨i, hi, rfl⟩ := (h7.mem x).1 hx
  exact h3.rg i hi
theorem Hp.ne {w : World} {h : Value} {most : Nat} {L : List Tm} {F : Nat → Prop} (hp : Hp w h most L F) : ∃ hb, h = .pointer (some ⟨hb, 0, none⟩) ∧ F hb := by
  obtain ⟨hb, sb, mb, tv, f, l, h1, h2, h3, h4, h5, h6, h7, h8, h9, h10⟩ := hp
  exact ⟨hb, h1, h8⟩

/-- no heap, or one that New did not make -/
def NoneH (w : World) (v : Value) : Prop := v = .pointer none ∨ ∃ b, v = .pointer (some ⟨b, 0, none⟩) ∧ w.cell? ⟨b, 0, none⟩ = some (.pointer none)

set_option maxRecDepth 100000 in
set_option maxHeartbeats 800000 in
theorem made_yes (w : World) (hb sb : Nat) (hc : w.cell? ⟨hb, 0, none⟩ = some (.pointer (some ⟨sb, 0, none⟩))) :
    Calls Try.prog 33 #[.pointer (some ⟨hb, 0, none⟩)] w fun e w' => e = .returned (.bool true) ∧ w' = w := by
  go_enter Try.func33, Try.ntmps33
  go_wp2
  go_ret
  exact ⟨rfl, rfl⟩
set_option maxRecDepth 100000 in
set_option maxHeartbeats 800000 in
theorem made_no (w : World) (v : Value) (h : NoneH w v) : Calls Try.prog 33 #[v] w fun e w' => e = .returned (.bool false) ∧ w' = w := by
  rcases h with rfl | ⟨b, rfl, hc⟩
  · go_enter Try.func33, Try.ntmps33
    go_wp2
    go_ret
    exact ⟨rfl, rfl⟩
  · go_enter Try.func33, Try.ntmps33
    go_wp2
    go_ret
    exact ⟨rfl, rfl⟩
set_option maxRecDepth 100000 in
set_option maxHeartbeats 800000 in
theorem len_any {w : World} {h : Value} {most : Nat} {L : List Tm} {F : Nat → Prop} (hp : Hp w h most L F) : Calls Try.prog 15 #[h] w fun e w' => e = .returned (.int .i64 L.length) ∧ w' = w := by
  obtain ⟨hb, sb, mb, tv, f, l, rfl, h2, h3, h4, h5, h6, h7, h8, h9, h10⟩ := hp
  have c0 : w.cell? ⟨hb, 0, none⟩ = some (.pointer (some ⟨sb, 0, none⟩)) := by rw [cell_of h2]; rfl
  have km := made_yes w hb sb c0
  have s1 := h3.s1
  obtain ⟨ao, cap, htv, -⟩ := h3.tr.shape
  rw [htv] at s1
  obtain ⟨N, HN⟩ := named L.length
  rw [← HN.out] at s1 ⊢
  clear h2 h3 h4 h5 h6 h7 h8 h9 h10 htv
  go_enter Try.func15, Try.ntmps15
  go_wp2_with fail
  (with_reducible refine Calls.mono km ?_)
  rintro e w' ⟨rfl, rfl⟩
  go_wp2
  go_ret
  exact ⟨rfl, rfl⟩
set_option maxRecDepth 100000 in
set_option maxHeartbeats 800000 in
theorem new_any (w : World) (m : Nat) (h1 : 1 ≤ m) (h2 : m ≤ 65536) : Calls Try.prog 11 #[.int .i64 m] w fun e w' => ∃ h, e = .returned (.tuple #[h, .int .i64 0]) ∧ ∃ F, Hp w' h m [] F ∧ (∀ b, F b → w.heap.size ≤ b) ∧ Below w.heap.size w w' := by
  have hmm := @run_makeMap Try.prog
  have e1 : ¬ (m : Int) < 1 := by omega
  have e2 : ¬ 65536 < (m : Int) := by omega
  obtain ⟨W1, HW1⟩ := named (w.alloc (.map #[] 0))
  obtain ⟨W2, HW2⟩ := named (W1.alloc (.cells #[.int .i64 m, .slice none 0 0, .map (some w.heap.size)] 79))
  obtain ⟨W3, HW3⟩ := named (W2.alloc (.cells #[.pointer (some ⟨w.heap.size + 1, 0, none⟩)] 62))
  have z1 : W1.heap.size = w.heap.size + 1 := by rw [HW1.out]; simp
  have z2 : W2.heap.size = w.heap.size + 1 + 1 := by rw [HW2.out]; simp [z1]
  have z3 : W3.heap.size = w.heap.size + 1 + 1 + 1 := by rw [HW3.out]; simp [z2]
  have b1 : Below w.heap.size w W1 := by rw [HW1.out]; exact (Below.refl _ _).alloc (Nat.le_refl _) _
  have b2 : Below W1.heap.size W1 W2 := by rw [HW2.out]; exact (Below.refl _ _).alloc (Nat.le_refl _) _
  have b3 : Below W2.heap.size W2 W3 := by rw [HW3.out]; exact (Below.refl _ _).alloc (Nat.le_refl _) _
  have HE : Hid (∃ F, Hp W3 (.pointer (some ⟨w.heap.size + 1 + 1, 0, none⟩)) m [] F ∧ (∀ b, F b → w.heap.size ≤ b) ∧ Below w.heap.size w W3) := by
    refine ⟨fun b => b = w.heap.size + 1 + 1 ∨ b = w.heap.size + 1 ∨ b = w.heap.size, ⟨w.heap.size + 1 + 1, w.heap.size + 1, w.heap.size, .slice none 0 0, fun _ => (0, 0), fun _ => none, rfl, ?_, ⟨?_, .inl ⟨rfl, rfl⟩, Nat.zero_le _, h2, fun i hi => absurd hi (Nat.not_lt_zero _)⟩, ?_, ?_, ?_, ⟨Srt.nil, rfl, ?_⟩, .inl rfl, ?_, ?_⟩, ?_, below_call (below_call b1 b2) b3⟩
    · rw [HW3.out, ← z2]; exact heap_new _ _
    · rw [b3.block _ (by omega), HW2.out, ← z1]; exact heap_new _ _
    · have hk : W3.heap[w.heap.size]? = W1.heap[w.heap.size]? := by rw [b3.block _ (by omega), b2.block _ (by omega)]
      refine Mp.heap ?_ hk
      rw [HW1.out]
      exact Mp.made w 3
    · intro id i
      constructor
      · intro h; cases h
      · rintro ⟨h, -⟩; exact absurd h (Nat.not_lt_zero _)
    · intro i _ hi; exact absurd hi (Nat.not_lt_zero _)
    · intro x
      constructor
      · intro h; cases h
      · rintro ⟨i, h, -⟩; exact absurd h (Nat.not_lt_zero _)
    · rintro b (rfl | rfl | h)
      · exact .inr (.inl rfl)
      · exact .inr (.inr rfl)
      · cases h
    · rintro b (rfl | rfl | rfl) <;> omega
    · rintro b (rfl | rfl | rfl) <;> omega
  clear b1 b2 b3
  go_enter Try.func11, Try.ntmps11
  go_wp2_with fail
  rw [← HW1.out, ← HW2.out, ← HW3.out]
  clear HW1 HW2 HW3 hmm
  go_ret2
  obtain ⟨F, k1, k2, k3⟩ := HE.out
  exact ⟨_, rfl, F, k1, k2, k3⟩
theorem hb_not {w : World} {hb sb mb most n : Nat} {tv : Value} {f : Nat → Tm} {l : Int → Option Int} (h2 : w.heap[hb]? = some (.cells #[.pointer (some ⟨sb, 0, none⟩)] 62 (0, 0))) (h3 : Sm w sb mb tv most n f) {m : Nat} (h4 : Mp w mb m 3 l) : ¬ Blk sb mb tv hb := by
  rintro (e | e | e)
  · exact ne_of_elem h2 h3.cs (by decide) e
  · obtain ⟨es, c, hm⟩ := h4.isMap
    rw [e, hm] at h2; cases h2
  · obtain ⟨cur, hc⟩ := h3.tr.elem _ e
    exact ne_of_elem h2 hc (by decide) rfl
/-- struck out of the state, so struck out of the heap -/
theorem Struck.hp {w w' : World} {hb sb mb most n p : Nat} {tv : Value} {f : Nat → Tm} {l : Int → Option Nat} {L : List Tm} {F : Nat → Prop} (h2 : w.heap[hb]? = some (.cells #[.pointer (some ⟨sb, 0, none⟩)] 62 (0, 0))) (h3 : Sm w sb mb tv most (n + 1) f) (h4 : Mp w mb (n + 1) 3 (LI l)) (h5 : PL l f (n + 1)) (h7 : SL L f (n + 1))
    (h8 : F hb) (h9 : ∀ b, Blk sb mb tv b → F b) (h10 : ∀ b, F b → b < w.heap.size) (hp : p ≤ n) (h : Struck w sb mb tv most n f p w') : Hp w' (.pointer (some ⟨hb, 0, none⟩)) most (delL (f p).2 L) F ∧ Step F w w' F := by
  obtain ⟨tv', f', l', k1, k2, k3, k4, k5, k6, k7⟩ := h
  have hs := h7.strike hp h5
  have hs' := hs.congr k5
  have hlen := hs.len
  refine ⟨⟨hb, sb, mb, tv', f', l', rfl, (k6.block _ (lt_of h2) (hb_not h2 h3 h4)).trans h2, by rw [hlen]; exact k1, by rw [hlen]; exact k2, by rw [hlen]; exact k3, by rw [hlen]; exact k4, by rw [hlen]; exact hs', h8, fun b hb => h9 b ((blk_same k7 b).1 hb), fun b hF => Nat.lt_of_lt_of_le (h10 b hF) k6.size⟩, ⟨k6.mono fun i _ h => h9 i h, fun _ h => .inl h⟩⟩

/-- the timer of an Id, or nothing -/
def getV (id : Int) (L : List Tm) : Tm := (getL id L).getD (0, 0)
theorem getV_of {L : List Tm} (h : Srt L) {x : Tm} (hx : x ∈ L) : getV x.2 L = x := by unfold getV; rw [getL_of h hx]; rfl
theorem getV_none {id : Int} {L : List Tm} (h : hasL id L = false) : getV id L = (0, 0) := by unfold getV; rw [getL_none h]; rfl

set_option maxRecDepth 100000 in
set_option maxHeartbeats 1600000 in
theorem get_any {w : World} {h : Value} {most : Nat} {L : List Tm} {F : Nat → Prop} (hp : Hp w h most L F) (id : Int) (hi : I64 id) :
    Calls Try.prog 17 #[h, .int .i64 id] w fun e w' => e = .returned (.tuple #[.agg #[.int .i64 (getV id L).1, .int .i64 (getV id L).2], .bool (hasL id L)]) ∧ Below w.heap.size w w' := by
  have hsrt := hp.srt
  obtain ⟨hb, sb, mb, tv, f, l, rfl, h2, h3, h4, h5, h6, h7, h8, h9, h10⟩ := hp
  obtain ⟨W, HW⟩ := named (w.alloc (.cells #[.int .i64 0, .int .i64 0] 30))
  have hB : Below w.heap.size w W := by rw [HW.out]; exact (Below.refl _ _).alloc (Nat.le_refl _) _
  have hC := C2.new w (.int .i64 0) (.int .i64 0) 30
  rw [← HW.out] at hC
  obtain ⟨-, r0, r1, r2, r3⟩ := hC
  have HB := hide hB
  have c0 : W.cell? ⟨hb, 0, none⟩ = some (.pointer (some ⟨sb, 0, none⟩)) := by rw [cell_of ((hB.block _ (lt_of h2)).trans h2)]; rfl
  have km := made_yes W hb sb c0
  have h3' := h3.below hB
  have s1 := h3'.s1
  have s2 := h3'.s2
  have hlook := (h4.heap (hB.block _ h4.lt)).look_ok mt76 hi
  have hhas := h7.has h5 id
  cases hl : l id with
  | none =>
    have e1 : LI l id = none := by unfold LI; rw [hl]
    rw [e1] at hlook
    rw [hl] at hhas
    rw [getV_none hhas.symm, ← hhas]
    obtain ⟨ao, cap, htv, -⟩ := h3'.tr.shape
    rw [htv] at s1
    clear h2 h3 h3' h4 h5 h6 h7 h8 h9 h10 hB hl e1 hhas htv
    go_enter Try.func17, Try.ntmps17
    go_wp2_with (rw [← HW.out])
    (with_reducible refine Calls.mono km ?_)
    rintro e w' ⟨rfl, rfl⟩
    go_wp2_with fail
    refine bodyPost_ret (v := .tuple #[.agg #[.int .i64 0, .int .i64 0], .bool false]) (by simp [results, Try.results17, go_sem, r0, r1]) rfl ⟨rfl, ?_⟩
    exact (HB.out.setCell (p := ⟨w.heap.size, 0, none⟩) (Nat.le_refl _) _).setCell (p := ⟨w.heap.size, 1, none⟩) (Nat.le_refl _) _
  | some i =>
    have e1 : LI l id = some (i : Int) := by unfold LI; rw [hl]
    rw [e1] at hlook
    rw [hl] at hhas
    obtain ⟨hin, hid⟩ := (h5 id i).1 hl
    have hx := h7.at hin
    have hgv : getV id L = f i := by rw [← hid]; exact getV_of hsrt hx
    rw [← hhas, hgv]
    obtain ⟨g, cap, htv, hcap, -, -, -, hcc⟩ := h3'.rows (by omega)
    rw [htv] at s1
    obtain ⟨g0, g1⟩ := hcc i hin
    obtain ⟨x0, HX0⟩ := named (f i).1
    obtain ⟨x1, HX1⟩ := named (f i).2
    obtain ⟨N, HN⟩ := named L.length
    rw [← HN.out] at s1 hin
    have hinI : (i : Int) < (N : Int) := by omega
    simp only [← HX0.out, ← HX1.out] at g0 g1 ⊢
    clear h2 h3 h3' h4 h5 h6 h7 h8 h9 h10 hB hl e1 hhas htv hcc hgv hx hid
    go_enter Try.func17, Try.ntmps17
    go_wp2_with (rw [← HW.out])
    (with_reducible refine Calls.mono km ?_)
    rintro e w' ⟨rfl, rfl⟩
    go_wp2_with fail
    refine bodyPost_ret (v := .tuple #[.agg #[.int .i64 x0, .int .i64 x1], .bool true]) (by simp [results, Try.results17, go_sem, r0, r1]) rfl ⟨rfl, ?_⟩
    exact (HB.out.setCell (p := ⟨w.heap.size, 0, none⟩) (Nat.le_refl _) _).setCell (p := ⟨w.heap.size, 1, none⟩) (Nat.le_refl _) _

set_option maxRecDepth 100000 in
set_option maxHeartbeats 1600000 in
theorem drop_no {w : World} {h : Value} {most : Nat} {L : List Tm} {F : Nat → Prop} (hp : Hp w h most L F) (id : Int) (hi : I64 id) (hno : hasL id L = false) :
    Calls Try.prog 16 #[h, .int .i64 id] w fun e w' => e = .returned (.tuple #[.agg #[.int .i64 0, .int .i64 0], .int .i64 40]) ∧ Below w.heap.size w w' := by
  obtain ⟨hb, sb, mb, tv, f, l, rfl, h2, h3, h4, h5, h6, h7, h8, h9, h10⟩ := hp
  obtain ⟨W, HW⟩ := named (w.alloc (.cells #[.int .i64 0, .int .i64 0] 30))
  have hB : Below w.heap.size w W := by rw [HW.out]; exact (Below.refl _ _).alloc (Nat.le_refl _) _
  have hC := C2.new w (.int .i64 0) (.int .i64 0) 30
  rw [← HW.out] at hC
  obtain ⟨-, r0, r1, r2, r3⟩ := hC
  have HB := hide hB
  have c0 : W.cell? ⟨hb, 0, none⟩ = some (.pointer (some ⟨sb, 0, none⟩)) := by rw [cell_of ((hB.block _ (lt_of h2)).trans h2)]; rfl
  have km := made_yes W hb sb c0
  have s2 := (h3.below hB).s2
  have hlook := (h4.heap (hB.block _ h4.lt)).look_ok mt76 hi
  have hl : l id = none := by
    have := h7.has h5 id
    rw [hno] at this
    simpa using this
  have e1 : LI l id = none := by unfold LI; rw [hl]
  rw [e1] at hlook
  clear h2 h3 h4 h5 h6 h7 h8 h9 h10 hB hl e1
  go_enter Try.func16, Try.ntmps16
  go_wp2_with (rw [← HW.out])
  (with_reducible refine Calls.mono km ?_)
  rintro e w' ⟨rfl, rfl⟩
  go_wp2_with fail
  refine bodyPost_ret (v := .tuple #[.agg #[.int .i64 0, .int .i64 0], .int .i64 40]) (by simp [results, Try.results16, go_sem, r0, r1]) rfl ⟨rfl, ?_⟩
  exact (HB.out.setCell (p := ⟨w.heap.size, 0, none⟩) (Nat.le_refl _) _).setCell (p := ⟨w.heap.size, 1, none⟩) (Nat.le_refl _) _
set_option maxRecDepth 100000 in
set_option maxHeartbeats 1600000 in
theorem drop_yes {w : World} {h : Value} {most : Nat} {L : List Tm} {F : Nat → Prop} (hp : Hp w h most L F) (x : Tm) (hx : x ∈ L) :
    Calls Try.prog 16 #[h, .int .i64 x.2] w fun e w' => e = .returned (.tuple #[.agg #[.int .i64 x.1, .int .i64 x.2], .int .i64 0]) ∧ Hp w' h most (delL x.2 L) F ∧ Step F w w' F := by
  have hi := (hp.rng x hx).2
  have hsub := hide hp.sub
  obtain ⟨hb, sb, mb, tv, f, l, rfl, h2, h3, h4, h5, h6, h7, h8, h9, h10⟩ := hp
  obtain ⟨i, hin, hfi⟩ := (h7.mem x).1 hx
  obtain ⟨n, hn⟩ : ∃ n, L.length = n + 1 := ⟨L.length - 1, by omega⟩
  rw [hn] at h3 h4 h5 h6 h7 hin
  obtain ⟨W, HW⟩ := named (w.alloc (.cells #[.int .i64 0, .int .i64 0] 30))
  have hB : Below w.heap.size w W := by rw [HW.out]; exact (Below.refl _ _).alloc (Nat.le_refl _) _
  have hC := heap_new w (.cells #[.int .i64 0, .int .i64 0] 30)
  rw [← HW.out] at hC
  have HB := hide hB
  have h2' : W.heap[hb]? = some (.cells #[.pointer (some ⟨sb, 0, none⟩)] 62 (0, 0)) := (hB.block _ (lt_of h2)).trans h2
  have c0 : W.cell? ⟨hb, 0, none⟩ = some (.pointer (some ⟨sb, 0, none⟩)) := by rw [cell_of h2']; rfl
  have km := made_yes W hb sb c0
  have h3' := h3.below hB
  have h4' := h4.heap (hB.block _ h4.lt)
  have s2 := h3'.s2
  have hlook := h4'.look_ok mt76 hi
  have hl : l x.2 = some i := (h5 _ _).2 ⟨hin, by rw [hfi]⟩
  have e1 : LI l x.2 = some (i : Int) := by unfold LI; rw [hl]
  rw [e1] at hlook
  have hst := strike_any h3' h4' h5 h6 i (by omega)
  have HE : Hid (∀ w', Struck W sb mb tv most n f i w' → (w'.cell? ⟨w.heap.size, 0, none⟩ = some (.int .i64 0) ∧ w'.cell? ⟨w.heap.size, 1, none⟩ = some (.int .i64 0) ∧ w'.frozen? ⟨w.heap.size, 0, none⟩ = false ∧ w'.frozen? ⟨w.heap.size, 1, none⟩ = false) ∧
      Hp ((w'.setCell ⟨w.heap.size, 0, none⟩ (.int .i64 x.1)).setCell ⟨w.heap.size, 1, none⟩ (.int .i64 x.2)) (.pointer (some ⟨hb, 0, none⟩)) most (delL x.2 L) F ∧ Step F w ((w'.setCell ⟨w.heap.size, 0, none⟩ (.int .i64 x.1)).setCell ⟨w.heap.size, 1, none⟩ (.int .i64 x.2)) F) := by
    intro w' hk
    obtain ⟨k1, k2⟩ := hk.hp h2' h3' h4' h5 h7 h8 h9 (fun b hF => Nat.lt_of_lt_of_le (h10 b hF) hB.size) (by omega)
    rw [hfi] at k1
    have hnF : ¬ F w.heap.size := fun hF => by have := h10 _ hF; omega
    have hh := (k2.chg.block _ (lt_of hC) hnF).trans hC
    refine ⟨⟨?_, ?_, frozen_of hh _, frozen_of hh _⟩, k1.heap (by simp [World.setCell]) (fun b hF => two_heap w' w.heap.size 0 _ _ b (by rintro rfl; exact hnF hF)), ?_, fun _ h => .inl h⟩
    · rw [cell_of hh]; rfl
    · rw [cell_of hh]; rfl
    · exact (((Chg.ofBelow hB F).trans k2.chg (fun _ _ h => h)).setCell (p := ⟨w.heap.size, 0, none⟩) (.inr (Nat.le_refl _)) _).setCell (p := ⟨w.heap.size, 1, none⟩) (.inr (Nat.le_refl _)) _
  rw [hfi] at hst
  obtain ⟨x0, x1⟩ := x
  clear h2 h2' h3 h3' h4 h4' h5 h6 h7 h8 h9 h10 hB hl e1 hn hsub hx hfi
  go_enter Try.func16, Try.ntmps16
  go_wp2_with (rw [← HW.out])
  (with_reducible refine Calls.mono km ?_)
  rintro e w' ⟨rfl, rfl⟩
  go_wp2_with fail
  (with_reducible refine Calls.mono hst ?_)
  clear hst
  rintro e w1 ⟨rfl, hk⟩
  obtain ⟨⟨r0, r1, r2, r3⟩, k1, k2⟩ := HE.out w1 hk
  have K1 := hide k1
  have K2 := hide k2
  clear k1 k2 hk HE
  go_wp2_with fail
  refine bodyPost_ret (v := .tuple #[.agg #[.int .i64 x0, .int .i64 x1], .int .i64 0]) (by simp [results, Try.results16, go_sem, r0, r1]) rfl ⟨rfl, ?_⟩
  exact ⟨K1.out, K2.out⟩
end Go.Proofs.Ytemlanalaihkoaa
