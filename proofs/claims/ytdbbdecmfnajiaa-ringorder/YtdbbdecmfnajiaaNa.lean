/-
  Rows of numbers appended, and cut; one queue beside a row of the call's own. Own work.
-/
import Derived.Test.YtdbbdecmfnajiaaLApart
namespace Go.Proofs.Ytdbbdecmfnajiaa
open Go.RowKit Go.Sort

theorem OwnI.empty (u : World) : OwnI (u.alloc (.cells #[] 3)) u.heap.size (.slice (some ⟨u.heap.size, 0, none⟩) 0 0) [] :=
  ⟨rfl, .inr ⟨u.heap.size, 0, #[], rfl, Nat.le_refl _, heap_new u _, Nat.le_refl _, by unfold maxLen; omega, rfl, rfl⟩⟩
theorem add_off (b off j : Nat) : (⟨b, off, none⟩ : Addr).add j = ⟨b, off + j, none⟩ := by unfold Addr.add; split <;> simp_all
theorem OwnI.appendRd {w : World} {base : Nat} {v u : Value} {l m : List Int} (h : OwnI w base v l) (hu : RdI w u m) (hl : l.length + m.length ≤ 1000000) (hb : base ≤ w.heap.size) (ty : TypeId) :
    ∃ v' w', (Builtin.append_ #[22, 22] ty #[v, u]).run Try.prog w = .ok v' w' ∧ OwnI w' base v' (l ++ m) ∧ w.grownBy w' v.ownBlock ∧ (v'.ownBlock = v.ownBlock ∨ v'.ownBlock = some w.heap.size) := by
  obtain ⟨i0, hinf, hz0, hz1, hz2⟩ := info_parts Try.info3
  obtain ⟨ao, cap, rfl, h1, h2, h3, h4⟩ := hu
  cases ao with
  | none =>
    have hc := h3 rfl
    subst hc
    have hm : m = [] := List.eq_nil_of_length_eq_zero (by omega)
    subst hm
    exact ⟨v, w, run_append_owned_none (P := Try.prog) (w := w) base 22 ty 3 i0 1 Try.underlying22 hinf v l.length (l.map (Value.int .i64)) h, by simpa using h, World.grownBy.refl _ _, .inl rfl⟩
  | some a =>
    obtain ⟨v', w', hr, ho, hg', hblk⟩ := run_append_own' (P := Try.prog) w base 22 ty 3 i0 (.int .i64 0) 1 8 Try.underlying22 hinf hz0 hz1 hz2 rfl (by decide) v l.length (l.map (Value.int .i64)) h
      a m.length cap (m.map (Value.int .i64)) (by simp) (fun j x hj => by
        have hjm : j < m.length := by
          have := (List.getElem?_eq_some_iff.1 hj).1
          simpa using this
        obtain ⟨b, off, e, c⟩ := h4 j hjm
        cases e
        rw [add_off, c]
        rw [List.getElem?_map, List.getElem?_eq_getElem hjm] at hj
        exact hj) (fun x hx => by
        obtain ⟨y, _, rfl⟩ := List.mem_map.1 hx
        rfl) (by unfold maxLen; omega) (by omega) hb
    refine ⟨v', w', hr, ?_, hg', hblk⟩
    unfold OwnI
    rw [List.map_append, List.length_append]
    exact ho
theorem RdI.cut1 {w : World} {ao : Option Addr} {cap p : Nat} {T : List Int} (h : RdI w (.slice ao T.length cap) T) (hp : p ≤ T.length) : RdI w (.slice ao p cap) (T.take p) := by
  obtain ⟨ao', c, hv, h1, h2, h3, h4⟩ := h
  cases hv
  have hlen : (T.take p).length = p := by rw [List.length_take]; omega
  refine ⟨_, _, by rw [hlen], by omega, h2, h3, fun j hj => ?_⟩
  rw [hlen] at hj
  obtain ⟨b', off', e, c0⟩ := h4 j (by omega)
  exact ⟨b', off', e, by rw [c0, List.getElem_take]⟩
theorem RdI.cut2 {w : World} {g cap : Nat} {T : List Int} (h : RdI w (.slice (some ⟨g, 0, none⟩) T.length cap) T) (p : Nat) : RdI w (.slice (if cap = p then some ⟨g, 0, none⟩ else some ⟨g, p, none⟩) (T.length - p) (cap - p)) (T.drop p) := by
  obtain ⟨ao, c, hv, h1, h2, h3, h4⟩ := h
  cases hv
  have hlen : (T.drop p).length = T.length - p := List.length_drop
  refine ⟨_, _, by rw [hlen], by omega, by omega, fun e => ?_, fun j hj => ?_⟩
  · split at e <;> cases e
  · rw [hlen] at hj
    obtain ⟨b', off', e, c0⟩ := h4 (p + j) (by omega)
    cases e
    rw [if_neg (by omega)]
    refine ⟨g, p, rfl, ?_⟩
    rw [List.getElem_drop, ← c0]; congr 2; omega
theorem OwnI.place {w : World} {base : Nat} {v : Value} {l : List Int} (h : OwnI w base v l) (hl : 0 < l.length) : ∃ g cap, v = .slice (some ⟨g, 0, none⟩) l.length cap ∧ l.length ≤ cap ∧ cap ≤ maxLen := by
  rcases h.2 with ⟨rfl, e⟩ | ⟨g, cap, cur, rfl, _, hg, h1, h2, _⟩
  · omega
  · exact ⟨_, _, rfl, h1, h2⟩

abbrev nQ : ByteArray := ⟨#[113]⟩
theorem right_nQ : right nQ := by decide
/-- one queue alone, with the numbers L; a row of the call's own with the numbers M -/
def DI (w0 w : World) (r : Value) (L M : List Int) (mv : Value) : Prop :=
  ∃ F, Rq w0.heap.size w0 w r 100 (m1 100 100 L) (A1 100 nQ 100 L) F ∧ OwnI w w0.heap.size mv M ∧ ∀ a, mv.ownBlock = some a → ¬ F a
section
variable {w0 w : World} {r : Value} {L M : List Int} {mv : Value}
theorem DI.below {w' : World} (h : DI w0 w r L M mv) (hb : Below w.heap.size w w') : DI w0 w' r L M mv := by
  obtain ⟨F, h1, h3, h4⟩ := h
  exact ⟨F, h1.below hb, h3.below hb, h4⟩
theorem DI.bel (h : DI w0 w r L M mv) : Below w0.heap.size w0 w := by obtain ⟨F, h1, h3, h4⟩ := h; exact h1.bel
theorem DI.own (h : DI w0 w r L M mv) : OwnI w w0.heap.size mv M := by obtain ⟨F, h1, h3, h4⟩ := h; exact h3
theorem DI.put (h : DI w0 w r L M mv) (x : Int) (hl : L.length < 100) :
    Calls Try.prog 12 #[r, .string nQ, .int .i64 x] w fun e w' => e = .returned (.int .i64 0) ∧ DI w0 w' r (L ++ [x]) M mv := by
  obtain ⟨F, h1, h3, h4⟩ := h
  have hp : putR 100 (m1 100 100 L) (A1 100 nQ 100 L) nQ x = (0, A1 100 nQ 100 (L ++ [x]), m1 100 100 (L ++ [x])) := by
    unfold putR
    rw [if_neg (fun h => h right_nQ), A1_l, A1_cap 100 nQ right_nQ, if_neg (by omega), if_neg (A1_none 100 nQ 100 L), A1_set, A1_m]
    rfl
  have k := put_r h1.rg nQ right_nQ.max x
  rw [hp] at k
  refine k.mono ?_
  rintro e w' ⟨rfl, G, k1, k2⟩
  obtain ⟨o1, o2⟩ := own_step h3 h4 k2
  exact ⟨rfl, G, h1.step k1 k2, o1, o2⟩
theorem DI.take (h : DI w0 w r L M mv) {x : Int} {t : List Int} (hl : L = x :: t) :
    Calls Try.prog 23 #[r, .string nQ] w fun e w' => e = .returned (.tuple #[.int .i64 x, .bool true]) ∧ DI w0 w' r t M mv := by
  obtain ⟨F, h1, h3, h4⟩ := h
  have hp : takeR 100 (m1 100 100 L) (A1 100 nQ 100 L) nQ = (A1 100 nQ 100 t, m1 100 100 t) := by
    unfold takeR
    rw [A1_l, hl]
    simp only
    rw [← hl, A1_cap 100 nQ right_nQ, A1_set, A1_m]
    rfl
  have hh : headA (A1 100 nQ 100 L) nQ = (x, true) := by unfold headA; rw [A1_l, hl]
  have k := take_r h1.rg nQ right_nQ.max
  rw [hp, hh] at k
  refine k.mono ?_
  rintro e w' ⟨rfl, G, k1, k2⟩
  obtain ⟨o1, o2⟩ := own_step h3 h4 k2
  exact ⟨rfl, G, h1.step k1 k2, o1, o2⟩
theorem DI.drop (h : DI w0 w r L M mv) (x : Int) :
    Calls Try.prog 25 #[r, .string nQ, .int .i64 x] w fun e w' => e = .returned (.bool (decide (x ∈ L))) ∧ DI w0 w' r (L.erase x) M mv := by
  obtain ⟨F, h1, h3, h4⟩ := h
  have k := drop_r h1.rg nQ right_nQ.max x
  rw [A1_l] at k
  refine k.mono ?_
  rintro e w' ⟨rfl, G, k1, k2⟩
  obtain ⟨o1, o2⟩ := own_step h3 h4 k2
  refine ⟨rfl, G, h1.step ?_ k2, o1, o2⟩
  unfold dropR at k1
  rw [A1_l, A1_cap 100 nQ right_nQ] at k1
  by_cases hx : x ∈ L
  · rw [if_pos hx, A1_set, A1_m] at k1
    exact k1
  · rw [if_neg hx] at k1
    rw [List.erase_of_not_mem hx]
    exact k1
theorem DI.has (h : DI w0 w r L M mv) (he : L = M) (hl : M.length ≤ 1000) : Calls Try.prog 29 #[r, .string nQ, mv] w fun e w' => e = .returned (.bool true) ∧ DI w0 w' r L M mv := by
  have hh := h
  obtain ⟨F, h1, h3, h4⟩ := h
  refine (has_r h1.rg nQ right_nQ.max h3.rd (by omega)).mono ?_
  rintro e w' ⟨rfl, hb⟩
  rw [A1_l, decide_eq_true he]
  exact ⟨rfl, hh.below hb⟩
theorem DI.all (h : DI w0 w r L M mv) : Calls Try.prog 32 #[r, .string nQ] w fun e w' => ∃ v, e = .returned v ∧ OwnI w' w.heap.size v L ∧ DI w0 w' r L M mv ∧ Below w.heap.size w w' := by
  have hh := h
  obtain ⟨F, h1, h3, h4⟩ := h
  refine (all_r h1.rg nQ right_nQ.max).mono ?_
  rintro e w' ⟨v, rfl, ho, hb⟩
  rw [A1_l] at ho
  exact ⟨v, rfl, ho, hh.below hb, hb⟩
/-- another row of the call's own in its place -/
theorem DI.swap {M' : List Int} {mv' : Value} {B : Nat} (h : DI w0 w r L M mv) {w' : World} (hb : Below w.heap.size w w') (ho : OwnI w' B mv' M') (hB : w.heap.size ≤ B) : DI w0 w' r L M' mv' := by
  obtain ⟨F, h1, h3, h4⟩ := h
  refine ⟨F, h1.below hb, ho.mono (Nat.le_trans h1.le hB), fun a ha hF => ?_⟩
  have := (ho.lt a ha).1
  have := h1.rg.sub a hF
  omega
/-- one number more in the row -/
theorem DI.row (h : DI w0 w r L M mv) (x : Int) (hl : M.length ≤ 1000) : ∃ mv' w2, (Builtin.append_ #[22, 22] 22 #[mv, .slice (some ⟨w.heap.size, 0, none⟩) 1 1]).run Try.prog (w.alloc (.cells #[.int .i64 x] 3)) = .ok mv' w2 ∧ DI w0 w2 r L (M ++ [x]) mv' := by
  obtain ⟨F, h1, h3, h4⟩ := h
  have hb : Below w.heap.size w (w.alloc (.cells #[.int .i64 x] 3)) := (Below.refl _ _).alloc (Nat.le_refl _) _
  obtain ⟨mv', w2, hr, ho, hg, hblk⟩ := (h3.below hb).append1 x (by omega) (Nat.le_trans h1.le hb.size) w.heap.size 0 (by rw [cell_of (heap_new w _)]; rfl) rfl 22
  refine ⟨mv', w2, hr, F, ⟨(h1.rg.below hb).heap hg.size fun b hF => hg.block b ((h1.rg.below hb).sub b hF) (fun e => h4 b e.symm hF), h1.new, ?_, ?_⟩, ho, fun a ha hF => ?_⟩
  · exact (h1.bel.trans (hb.mono h1.le)).grown hg (Nat.le_trans h1.le hb.size) fun k e => (h3.lt k e).1
  · exact Nat.le_trans h1.le (Nat.le_trans hb.size hg.size)
  · rcases hblk with e | e
    · exact h4 a (by rw [← e]; exact ha) hF
    · rw [e] at ha
      cases ha
      have := h1.rg.sub _ hF
      have := hb.size
      omega
end
/-- a row whose numbers may be written over, beside: told -/
structure TI (w0 w : World) (r : Value) (L : List Int) (mv : Value) (g n : Nat) : Prop where
  di : ∃ F, Rq w0.heap.size w0 w r 100 (m1 100 100 L) (A1 100 nQ 100 L) F ∧ OwnI w w0.heap.size mv L ∧ (∀ a, mv.ownBlock = some a → ¬ F a) ∧ ¬ F g
  ne : mv.ownBlock ≠ some g
  ge : w0.heap.size ≤ g
  hc : ∃ cur, w.heap[g]? = some (.cells cur 3 (0, 0)) ∧ ∀ i, i < n → ∃ z, cur[i]? = some (.int .i64 z)
theorem TI.out {w0 w : World} {r : Value} {L : List Int} {mv : Value} {g n : Nat} (h : TI w0 w r L mv g n) : DI w0 w r L L mv := by
  obtain ⟨F, h1, h2, h3, _⟩ := h.di
  exact ⟨F, h1, h2, h3⟩
theorem TI.set {w0 w : World} {r : Value} {L : List Int} {mv : Value} {g n : Nat} (h : TI w0 w r L mv g n) (i : Nat) (hi : i < n) (z : Int) : TI w0 (w.setCell ⟨g, i, none⟩ (.int .i64 z)) r L mv g n := by
  obtain ⟨⟨F, h1, h2, h3, h4⟩, h5, h6, cur, h7, h8⟩ := h
  have hs : ∀ b, b ≠ g → (w.setCell ⟨g, i, none⟩ (.int .i64 z)).heap[b]? = w.heap[b]? := fun b hb => Below.heap_setCell _ _ _ _ hb
  have hz : w.heap.size ≤ (w.setCell ⟨g, i, none⟩ (.int .i64 z)).heap.size := by simp [World.setCell]
  refine ⟨⟨F, ⟨h1.rg.heap hz fun b hF => hs b fun e => h4 (by rw [← e]; exact hF), h1.new, h1.bel.setCell h6 _, Nat.le_trans h1.le hz⟩, h2.heap fun a ha => hs a fun e => h5 (by rw [ha, e]), h3, h4⟩, h5, h6, _, heap_setCell_same w g i cur 3 _ h7, fun j hj => ?_⟩
  rw [Array.getElem?_setIfInBounds]
  by_cases e : i = j
  · subst e
    obtain ⟨z', hz'⟩ := h8 i hi
    have := (Array.getElem?_eq_some_iff.1 hz').1
    rw [if_pos rfl, if_pos this]
    exact ⟨z, rfl⟩
  · rw [if_neg e]
    exact h8 j hj
end Go.Proofs.Ytdbbdecmfnajiaa
