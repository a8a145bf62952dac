/-
  Rows of timers as lists; the contract of Due. Own work.
-/
import Derived.Test.YtemlanalaihkoaaMm
import Derived.Lib.AppendZerosOnto
namespace Go.Proofs.Ytemlanalaihkoaa
open Go.RowKit Go.Sort

def cellsL (l : List Tm) : List Value := l.flatMap fun x => [.int .i64 x.1, .int .i64 x.2]
theorem cellsL_len (l : List Tm) : (cellsL l).length = l.length * 2 := by
  induction l with
  | nil => rfl
  | cons x r ih => simp only [cellsL, List.flatMap_cons, List.length_append, List.length_cons, List.length_nil] at ih ⊢; omega
theorem cellsL_append (l m : List Tm) : cellsL (l ++ m) = cellsL l ++ cellsL m := by simp [cellsL]
theorem cellsL_get (l : List Tm) (k : Nat) (h : k < l.length) : (cellsL l)[k * 2]? = some (.int .i64 l[k].1) ∧ (cellsL l)[k * 2 + 1]? = some (.int .i64 l[k].2) := by
  induction l generalizing k with
  | nil => simp at h
  | cons x r ih =>
    cases k with
    | zero => simp [cellsL]
    | succ k =>
      have := ih k (by simpa using h)
      have e1 : (k + 1) * 2 = k * 2 + 1 + 1 := by omega
      rw [e1]
      simpa [cellsL] using this
theorem cellsL_one (l : List Tm) : ∀ u ∈ cellsL l, u.oneCell' = true := by
  intro u hu
  unfold cellsL at hu
  obtain ⟨x, _, hu⟩ := List.mem_flatMap.1 hu
  simp at hu
  rcases hu with rfl | rfl <;> rfl
/-- a slice of the call's own that holds these timers -/
def OwnT (w : World) (base : Nat) (v : Value) (l : List Tm) : Prop := w.ownsRow base 30 2 v l.length (cellsL l)
theorem OwnT.nil (w : World) (base : Nat) : OwnT w base (.slice none 0 0) [] := World.ownsRow_nil _ _ _ _
theorem OwnT.lt {w : World} {base : Nat} {v : Value} {l : List Tm} (h : OwnT w base v l) (k : Nat) (hk : v.ownBlock = some k) : base ≤ k ∧ k < w.heap.size := World.ownsRow.lt h k hk
theorem OwnT.heap {w w' : World} {base : Nat} {v : Value} {l : List Tm} (h : OwnT w base v l) (hk : ∀ a, v.ownBlock = some a → w'.heap[a]? = w.heap[a]?) : OwnT w' base v l := by
  refine ⟨h.1, ?_⟩
  rcases h.2 with h2 | ⟨g, cap, cur, hv, hb2, hg, r⟩
  · exact .inl h2
  · exact .inr ⟨g, cap, cur, hv, hb2, by rw [hk g (by rw [hv]; rfl)]; exact hg, r⟩
theorem OwnT.mono {w : World} {base base' : Nat} {v : Value} {l : List Tm} (h : OwnT w base v l) (hb : base' ≤ base) : OwnT w base' v l := by
  refine ⟨h.1, ?_⟩
  rcases h.2 with h2 | ⟨g, cap, cur, hv, hb2, hg, r⟩
  · exact .inl h2
  · exact .inr ⟨g, cap, cur, hv, Nat.le_trans hb hb2, hg, r⟩
theorem OwnT.below {w w' : World} {base : Nat} {v : Value} {l : List Tm} (h : OwnT w base v l) (hb : Below w.heap.size w w') : OwnT w' base v l := h.heap fun a ha => hb.block a (h.lt a ha).2
theorem OwnT.chg {w w' : World} {base : Nat} {F : Nat → Prop} {v : Value} {l : List Tm} (h : OwnT w base v l) (hb : Chg F w w') (hF : ∀ a, v.ownBlock = some a → ¬ F a) : OwnT w' base v l := h.heap fun a ha => hb.block a (h.lt a ha).2 (hF a ha)
theorem OwnT.elem {w : World} {base : Nat} {v : Value} {l : List Tm} (h : OwnT w base v l) (a : Nat) (ha : v.ownBlock = some a) : ∃ cur, w.heap[a]? = some (.cells cur 30 (0, 0)) := by
  rcases h.2 with ⟨rfl, _⟩ | ⟨g, cap, cur, rfl, _, hg, _⟩
  · cases ha
  · cases ha; exact ⟨cur, hg⟩
theorem OwnT.shape {w : World} {base : Nat} {v : Value} {l : List Tm} (h : OwnT w base v l) : ∃ ao cap, v = .slice ao l.length cap := by
  rcases h.2 with ⟨rfl, e⟩ | ⟨g, cap, cur, rfl, _, hg, _⟩
  · exact ⟨none, 0, by rw [e]⟩
  · exact ⟨_, _, rfl⟩
/-- one more is laid behind them -/
theorem OwnT.append1 {w : World} {base : Nat} {v : Value} {l : List Tm} (h : OwnT w base v l) (x : Tm) (hl : l.length ≤ 1000000) (hb : base ≤ w.heap.size) (g : Nat) (hg : w.heap[g]? = some (.cells #[.int .i64 x.1, .int .i64 x.2] 30 (0, 0))) (ty : TypeId) :
    ∃ v' w', (Builtin.append_ #[38, 38] ty #[v, .slice (some ⟨g, 0, none⟩) 1 1]).run Try.prog w = .ok v' w' ∧ OwnT w' base v' (l ++ [x]) ∧ w.grownBy w' v.ownBlock ∧ (v'.ownBlock = v.ownBlock ∨ v'.ownBlock = some w.heap.size) := by
  obtain ⟨i0, hinf, hz0, hz1, hz2⟩ := info_parts Try.info30
  obtain ⟨v', w', hr, ho, hg', hblk⟩ := run_append_own' (P := Try.prog) w base 38 ty 30 i0 (.agg #[.int .i64 0, .int .i64 0]) 2 16 Try.underlying38 hinf hz0 hz1 hz2 rfl (by decide) v l.length (cellsL l) h
    ⟨g, 0, none⟩ 1 1 [.int .i64 x.1, .int .i64 x.2] rfl (fun j u hj => by
      have e : (⟨g, 0, none⟩ : Addr).add j = ⟨g, j, none⟩ := by unfold Addr.add; split <;> simp_all
      rw [e, cell_of hg]
      simpa using hj) (by intro u hu; simp at hu; rcases hu with rfl | rfl <;> rfl) (by unfold maxLen; omega) (by omega) hb
  refine ⟨v', w', hr, ?_, hg', hblk⟩
  unfold OwnT
  rw [cellsL_append, List.length_append]
  exact ho

theorem due_take (now : Int) (L : List Tm) (k : Nat) (h : ∀ x ∈ L.take k, x.1 ≤ now) (hk : L.drop k = [] ∨ ∃ x r, L.drop k = x :: r ∧ ¬ x.1 ≤ now) : dueL now L = L.take k ∧ restL now L = L.drop k := by
  have h1 : ∀ (a b : List Tm), (∀ x ∈ a, x.1 ≤ now) → (b = [] ∨ ∃ x r, b = x :: r ∧ ¬ x.1 ≤ now) → dueL now (a ++ b) = a ∧ restL now (a ++ b) = b := by
    intro a b ha hb
    induction a with
    | nil =>
      rcases hb with rfl | ⟨x, r, rfl, hx⟩
      · exact ⟨rfl, rfl⟩
      · simp [dueL, restL, hx]
    | cons y t ih =>
      have hy := ha y List.mem_cons_self
      obtain ⟨i1, i2⟩ := ih fun x hx => ha x (List.mem_cons_of_mem _ hx)
      unfold dueL at i1 ⊢
      unfold restL at i2 ⊢
      rw [List.cons_append, List.takeWhile_cons_of_pos (by simpa using hy), List.dropWhile_cons_of_pos (by simpa using hy), i1, i2]
      exact ⟨rfl, rfl⟩
  have := h1 (L.take k) (L.drop k) h hk
  rwa [List.take_append_drop] at this

set_option maxRecDepth 100000 in
set_option maxHeartbeats 3200000 in
theorem due_any {w : World} {h : Value} {most : Nat} {L : List Tm} {F : Nat → Prop} (hp : Hp w h most L F) (now : Int) :
    Calls Try.prog 18 #[h, .int .i64 now] w fun e w' => ∃ v, e = .returned v ∧ OwnT w' w.heap.size v (dueL now L) ∧ Hp w' h most (restL now L) F ∧ Step F w w' F := by
  have hsub := hide hp.sub
  have hlen := hp.len
  obtain ⟨hb, rfl, -⟩ := hp.ne
  have HP := hide hp
  obtain ⟨w0, HW0⟩ := named w.heap.size
  rw [← HW0.out]
  clear hp
  go_enter Try.func18, Try.ntmps18
  go_wp2_with fail
  go_loopw [5] (fun due wr => ∃ k ao cap, due = .slice ao k cap ∧ k ≤ L.length ∧ Hid (OwnT wr w0 (.slice ao k cap) (L.take k)) ∧ Hid (Hp wr (.pointer (some ⟨hb, 0, none⟩)) most (L.drop k) F) ∧ Hid (Step F w wr F) ∧ Hid (∀ x ∈ L.take k, x.1 ≤ now)) (fun due _ => L.length - (match due with | .slice _ n _ => n | _ => 0))
  case atStart => exact ⟨0, none, 0, rfl, Nat.zero_le _, OwnT.nil _ _, HP.out, Step.below (Below.refl _ _), by intro x hx; simp at hx⟩
  case round =>
    obtain ⟨k, ao, cp, rfl, hk, HO1, HP1, HS1, HA1⟩ := hrel
    clear HP
    have kl := len_any HP1.out
    have hsz : w0 ≤ wr.heap.size := by have := HS1.out.chg.size; rw [HW0.out]; exact this
    have hl := List.length_take_le k L
    have hlk : (L.take k).length = k := by rw [List.length_take]; omega
    cases hd : L.drop k with
    | nil =>
      rw [hd] at kl
      have he := due_take now L k HA1.out (.inl hd)
      have HE := hide he
      have HD := hide hd
      clear he hd
      go_wp2_with fail
      (with_reducible refine Calls.mono kl ?_)
      rintro e w' ⟨rfl, rfl⟩
      go_wp2_with fail
      go_ret
      exact ⟨_, rfl, by rw [HE.out.1]; exact HO1.out, by rw [HE.out.2]; exact HP1.out, HS1.out⟩
    | cons x r =>
      rw [hd] at kl
      have hlen2 : 0 < (x :: r).length := by simp
      obtain ⟨N, HN⟩ := named (x :: r).length
      rw [← HN.out] at kl hlen2
      have hNI : 0 < (N : Int) := by omega
      have HP2 := hide (hd ▸ HP1.out)
      obtain ⟨hb', sb, hbe, c0, hst⟩ := first_struck HP2.out
      cases hbe
      -- its first timer
      obtain ⟨g, cap, M, hM, s1, g0⟩ : ∃ g cap M, 0 < M ∧ wr.cell? ⟨sb, 1, none⟩ = some (.slice (some ⟨g, 0, none⟩) M cap) ∧ wr.cell? ⟨g, 0, none⟩ = some (.int .i64 x.1) := by
        obtain ⟨hb2, sb2, mb, tv, f, l, e2, h2, h3, h4, h5, h6, h7, h8, h9, h10⟩ := HP2.out
        cases e2
        rw [cell_of h2] at c0
        have e3 : sb2 = sb := by simpa using c0
        subst e3
        have hf := h7.first h6
        obtain ⟨g, cap, htv, hcap, -, -, -, hcc⟩ := h3.rows (by simp)
        have s1 := h3.s1
        rw [htv] at s1
        obtain ⟨g0, -⟩ := hcc 0 (by simp)
        rw [hf, Nat.zero_mul] at g0
        exact ⟨g, cap, _, by simp, s1, g0⟩
      have hMI : 0 < (M : Int) := by omega
      obtain ⟨x0, x1⟩ := x
      by_cases hdue : x0 ≤ now
      · have hk1 : k < L.length := by
          rcases Nat.lt_or_ge k L.length with h | h
          · exact h
          · rw [List.drop_eq_nil_of_le h] at hd; cases hd
        have hLk : L[k] = (x0, x1) := by
          have := List.drop_eq_getElem_cons hk1
          rw [hd] at this
          exact (List.cons.inj this).1.symm
        have hr1 : r = L.drop (k + 1) := by
          have := List.drop_eq_getElem_cons hk1
          rw [hd] at this
          exact (List.cons.inj this).2
        have ht1 : L.take (k + 1) = L.take k ++ [(x0, x1)] := by rw [List.take_succ_eq_append_getElem hk1, hLk]
        have HT1 := hide ht1
        have HR1 := hide hr1
        have HA2 : Hid (∀ x ∈ L.take (k + 1), x.1 ≤ now) := by
          intro y hy
          rw [ht1] at hy
          rcases List.mem_append.1 hy with hy | hy
          · exact HA1.out y hy
          · simp at hy; rw [hy]; exact hdue
        clear ht1 hr1 hLk hd
        go_wp2_with fail
        (with_reducible refine Calls.mono kl ?_)
        rintro e w' ⟨rfl, rfl⟩
        go_wp2_with fail
        (with_reducible refine Calls.mono hst ?_)
        clear hst kl s1 g0 c0
        rintro e w1 ⟨rfl, k1, k2⟩
        have hown1 : OwnT w1 w0 (.slice ao k cp) (L.take k) := HO1.out.chg k2.chg fun a ha hF => by
          have h1 := (HO1.out.lt a ha).1
          have h2 := hsub.out a hF
          rw [HW0.out] at h1; omega
        have hs1 : w0 ≤ w1.heap.size := Nat.le_trans hsz k2.chg.size
        obtain ⟨w2, HW2⟩ := named (w1.alloc (.cells #[.int .i64 x0, .int .i64 x1] 30))
        have b2 : Below w1.heap.size w1 w2 := by rw [HW2.out]; exact (Below.refl _ _).alloc (Nat.le_refl _) _
        obtain ⟨v', w3, hr, ho, hg, hblk⟩ := (hown1.below b2).append1 (x0, x1) (by rw [hlk]; omega) (Nat.le_trans hs1 b2.size) w1.heap.size (by rw [HW2.out]; exact heap_new _ _) 38
        have hnF : ∀ a, (Value.slice ao k cp).ownBlock = some a → ¬ F a := fun a ha hF => by
          have h1 := (HO1.out.lt a ha).1
          have h2 := hsub.out a hF
          rw [HW0.out] at h1; omega
        have HP3 : Hid (Hp w3 (.pointer (some ⟨hb, 0, none⟩)) most (L.drop (k + 1)) F) := by
          show Hp _ _ _ _ _
          rw [← HR1.out]
          have kk := k1.below b2
          exact kk.heap hg.size fun b hF => hg.block b (kk.sub b hF) (fun e => hnF b e.symm hF)
        have HS3 : Hid (Step F w w3 F) := by
          refine ⟨((HS1.out.trans k2).chg.trans (Chg.ofBelow b2 F) (fun _ _ h => h)).grown hg fun b hb' => .inr ?_, fun _ h => .inl h⟩
          have := (HO1.out.lt b hb').1
          rw [HW0.out] at this
          exact this
        rw [← HT1.out] at ho
        have hlk1 : (L.take (k + 1)).length = k + 1 := by rw [List.length_take]; omega
        obtain ⟨ao', cp', hsh⟩ := ho.shape
        rw [hlk1] at hsh
        subst hsh
        have HO3 := hide ho
        have HHR := hide hr
        rw [HW2.out] at HHR
        clear hr ho hg hblk k1 k2 b2 hown1 HP2
        go_wp2_with (at_builtin; refine Lib.wpList_append_run _ rfl _ _ _ _ rfl _ _ rfl rfl _ _ HHR.out ?_)
        go_roundw
        case rel => exact ⟨k + 1, _, _, rfl, hk1, HO3, HP3, HS3, HA2⟩
        case measure => simp; omega
      · have he := due_take now L k HA1.out (.inr ⟨_, _, hd, hdue⟩)
        have HE := hide he
        clear he hd hst HP2
        go_wp2_with fail
        (with_reducible refine Calls.mono kl ?_)
        rintro e w' ⟨rfl, rfl⟩
        go_wp2_with fail
        go_ret
        exact ⟨_, rfl, by rw [HE.out.1]; exact HO1.out, by rw [HE.out.2]; exact HP1.out, HS1.out⟩
end Go.Proofs.Ytemlanalaihkoaa
