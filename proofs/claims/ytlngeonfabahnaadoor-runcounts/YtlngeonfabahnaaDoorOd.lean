/-
  A region that draws its order, whose last operation (number n) writes a cell that an elder one reads: that elder one may be taken first all the same, since number n waits for it. Own work, on the notions of Derived/OrdersHeld.lean.
-/
import Derived.Deep.RegionHeld3
namespace Go.Proofs.YtlngeonfabahnaaDoor
open Go

section
variable {P : Program} {ops : Array Oper} {Q : Exit → Act → World → Prop} {md : Region.Mode} {S : World → Prop} {n : Nat}

/-- every order from here on comes to Q; behind each operation other than number n the world meets S -/
def wpAnyE (P : Program) (md : Region.Mode) (ops : Array Oper) (Q : Exit → Act → World → Prop) (S : World → Prop) (n : Nat) (fuel : Nat) (listed : Array Bool) (a : Act) (w : World) : Prop :=
  match fuel with
  | 0 => Region.ready md ops listed = [] ∧ Q .normal a w
  | k + 1 => (Region.ready md ops listed = [] → Q .normal a w) ∧ ∀ j ∈ Region.ready md ops listed, wpOp P ops Q j (fun b u => wpAnyE P md ops Q S n k (listed.setIfInBounds j true) b u ∧ (j ≠ n → S u)) a w

theorem wpAny_of_E (fuel : Nat) : ∀ (listed : Array Bool) (a : Act) (w : World), wpAnyE P md ops Q S n fuel listed a w → wpAny P md ops Q fuel listed a w := by
  induction fuel with
  | zero => exact fun _ _ _ h => h
  | succ k ih => exact fun _ _ _ h => ⟨h.1, fun j hj => wpOp_mono (fun b u hb => ih _ b u hb.1) (h.2 j hj)⟩

/-- who may come up does not wait for one that has not come up -/
theorem ready_waits {listed : Array Bool} {i j : Nat} {oj : Oper} (hi : i ∈ Region.ready md ops listed) (hj : j ∈ Region.ready md ops listed) (hoj : ops[j]? = some oj) :
    ∀ e ∈ oj.after, Region.binds md e = true → e.on ≠ i := by
  rintro e he hb rfl
  obtain ⟨_, o, ho, hall⟩ := mem_ready.1 hj
  rw [hoj] at ho
  obtain rfl := Option.some.inj ho
  have hdone := hall e he hb
  have hopen := (mem_ready.1 hi).1
  by_cases hl : e.on < listed.size
  · simp [hl] at hopen hdone
    rw [hopen] at hdone
    cases hdone
  · simp [Array.getElem?_eq_none (Nat.le_of_not_lt hl)] at hdone

/-- what has not come up behind one more had not come up ahead of it -/
theorem open_ahead {listed : Array Bool} {i j : Nat} (hj : j ∈ Region.ready md ops listed) (oi : Oper)
    (hfree : ∀ j oj, ops[j]? = some oj → j ≠ i → listed.getD j true = false → (∀ e ∈ oj.after, Region.binds md e = true → e.on ≠ i) → oi.apart ops oj = true) :
    ∀ k ok, ops[k]? = some ok → k ≠ i → (listed.setIfInBounds j true).getD k true = false → (∀ e ∈ ok.after, Region.binds md e = true → e.on ≠ i) → oi.apart ops ok = true := by
  intro k ok hk hki hun hno
  by_cases hjk : j = k
  · subst hjk
    exact hfree j ok hk hki (mem_ready.1 hj).1 hno
  · exact hfree k ok hk hki (by rwa [getD_set_ne true hjk] at hun) hno

/-- who waits, by way of others that have not come up, for one that has not come up, may not come up -/
def chainE (md : Region.Mode) (ops : Array Oper) (ch : List Nat) (i : Nat) : Bool := ch.all fun c => match ops[c]? with
  | none => false
  | some oc => oc.after.any fun e => Region.binds md e && (e.on == i || ch.contains e.on)
theorem wpAnyE_first {i : Nat} {oi : Oper} {v : Value} (ch : List Nat) (hi : ops[i]? = some oi) (hsel : ∀ (j : Nat) (o : Oper) cs b, ops[j]? = some o → o.op ≠ .select cs b)
    (hQ : ∀ c a w, Q (.panic c) (a.put oi.dst v) w → Q (.panic c) a w) (hn : n ∈ ch) (hch : chainE md ops ch i = true) (fuel : Nat) :
    ∀ (listed : Array Bool) (a : Act) (w : World), (∀ c ∈ ch, listed.getD c true = false) →
      (∀ j oj, ops[j]? = some oj → j ≠ i → listed.getD j true = false → (∀ e ∈ oj.after, Region.binds md e = true → e.on ≠ i) → oi.apart ops oj = true) →
      i ∈ Region.ready md ops listed → YieldsIf P ops S oi v a → S w →
      wpAnyE P md ops Q S n fuel (listed.setIfInBounds i true) (a.put oi.dst v) w → wpAnyE P md ops Q S n (fuel + 1) listed a w := by
  have notCh : ∀ (listed : Array Bool) (j : Nat), (∀ c ∈ ch, listed.getD c true = false) → i ∈ Region.ready md ops listed → j ∈ Region.ready md ops listed → j ∉ ch := by
    intro listed j hop hr hj hm
    have h1 := List.all_eq_true.1 hch j hm
    obtain ⟨_, o, ho, hall⟩ := mem_ready.1 hj
    rw [ho] at h1
    simp only [Array.any_eq_true, Bool.and_eq_true, Bool.or_eq_true, beq_iff_eq, List.contains_iff_mem] at h1
    obtain ⟨x, hx, hb, he⟩ := h1
    have hd := hall o.after[x] (Array.getElem_mem _) hb
    have hopen : listed.getD (o.after[x]).on true = false := by
      rcases he with he | he
      · rw [he]; exact (mem_ready.1 hr).1
      · exact hop _ he
    by_cases hl : (o.after[x]).on < listed.size
    · simp [hl] at hopen hd
      rw [hopen] at hd
      cases hd
    · simp [Array.getElem?_eq_none (Nat.le_of_not_lt hl)] at hd
  induction fuel with
  | zero =>
    intro listed a w _ _ hr hy hS H
    have hone : ∀ j ∈ Region.ready md ops listed, j = i := fun j hj => Decidable.byContradiction fun hji => by
      have hm := ready_mono hj hji
      rw [H.1] at hm
      exact absurd hm List.not_mem_nil
    exact ⟨fun h => absurd (h ▸ hr) List.not_mem_nil, fun j hj => by
      obtain rfl := hone j hj
      exact hy.wpOp hi hS ⟨H, fun _ => hS⟩⟩
  | succ k ih =>
    intro listed a w hop hfree hr hy hS H
    refine ⟨fun h => absurd (h ▸ hr) List.not_mem_nil, fun j hj => ?_⟩
    by_cases hji : j = i
    · subst hji
      exact hy.wpOp hi hS ⟨H, fun _ => hS⟩
    · obtain ⟨oj, hoj⟩ : ∃ oj, ops[j]? = some oj := by
        obtain ⟨_, o, ho, _⟩ := mem_ready.1 hj
        exact ⟨o, ho⟩
      have hno := ready_waits hr hj hoj
      have hjc := notCh listed j hop hr hj
      have hjn : j ≠ n := by
        rintro rfl
        exact hjc hn
      have hstep := wpOp_putIf hoj (hfree j oj hoj hji (mem_ready.1 hj).1 hno) (hsel i oi · · hi) (hsel j oj · · hoj) hQ hy (H.2 j (ready_mono hj hji))
      refine wpOp_mono (fun b u hb => ⟨?_, hb.2.2⟩) hstep
      refine ih _ b u (fun c hc => ?_) (open_ahead hj oi hfree) (ready_mono hr (Ne.symm hji)) hb.1 (hb.2.2 hjn) ?_
      · rw [getD_set_ne true (fun e => hjc (by rw [e]; exact hc))]
        exact hop c hc
      · have hbu := hb.2.1
        rwa [Array.setIfInBounds_comm _ _ (Ne.symm hji)] at hbu

theorem wpAnyE_take (i : Nat) (ch : List Nat) {oi : Oper} {v : Value} {fuel : Nat} {listed : Array Bool} {a : Act} {w : World} (hi : ops[i]? = some oi)
    (hs : Region.noSelect ops = true) (hf : Region.free md ops listed i = true) (hr : (Region.ready md ops listed).contains i = true)
    (hn : (ch.contains n && chainE md ops ch i && ch.all fun c => !listed.getD c true) = true)
    (hQ : ∀ c a w, Q (.panic c) (a.put oi.dst v) w → Q (.panic c) a w) (hy : YieldsIf P ops S oi v a) (hS : S w)
    (h : wpAnyE P md ops Q S n fuel (listed.setIfInBounds i true) (a.put oi.dst v) w) : wpAnyE P md ops Q S n (fuel + 1) listed a w := by
  rw [Bool.and_eq_true, Bool.and_eq_true] at hn
  refine wpAnyE_first ch hi (Region.noSelect_spec hs) hQ (by simpa using hn.1.1) hn.1.2 fuel listed a w (fun c hc => ?_) (Region.free_spec hi hf) (by simpa using hr) hy hS h
  have := List.all_eq_true.1 hn.2 c hc
  simpa using this

theorem wpAnyE_one {i : Nat} {fuel : Nat} {listed : Array Bool} {a : Act} {w : World} (hr : Region.ready md ops listed = [i]) {o : Oper} (ho : ops[i]? = some o)
    (h : ∀ K : Act → World → Prop, (∀ b u, (i ≠ n → S u) → wpAnyE P md ops Q S n fuel (listed.setIfInBounds i true) b u → K b u) → if Region.wanted o (yielded ops a.tmps) = true then Oper.wp P o a w K Q else K (a.put o.dst undef) w) :
    wpAnyE P md ops Q S n (fuel + 1) listed a w := by
  refine ⟨fun h0 => ?_, fun j hj => ?_⟩
  · rw [hr] at h0
    cases h0
  · rw [hr, List.mem_singleton] at hj
    subst hj
    exact wpOp_step ho fun K hK => h K fun b u h1 h2 => hK b u ⟨h2, h1⟩

theorem wpAnyE_done {fuel : Nat} {listed : Array Bool} {a : Act} {w : World} (hr : Region.ready md ops listed = []) (h : Q .normal a w) : wpAnyE P md ops Q S n fuel listed a w := by
  cases fuel with
  | zero => exact ⟨hr, h⟩
  | succ k => exact ⟨fun _ => h, fun j hj => by rw [hr] at hj; cases hj⟩

theorem wp_region_E (n : Nat) (S : World → Prop) {id : Nat} {a : Act} {w : World} (hm : P.follows .mixedOrders = true)
    (h : wpAnyE P .any ops Q S n ops.size (Array.replicate ops.size false) a w.drew) : (Code.region id ops true).wp P Q a w :=
  wp_region_any hm (wpAny_of_E _ _ _ _ h)
end
theorem step_append_runI {P : Program} {ops : Array Oper} {o : Oper} {a : Act} {w : World} {K : Act → World → Prop} {Q : Exit → Act → World → Prop} {E : Prop}
    (hg : o.guard = none) (d x : Operand) (dT sT : TypeId) (hop : o.op = Op.call { callee := Callee.builtin Builtin.append, args := #[d, x], argTypes := #[dT, sT] })
    (v u : Value) (hd : a.eval d = v) (hx : a.eval x = u) {v' : Value} {w' : World} (hr : (Builtin.append_ #[dT, sT] o.type #[v, u]).run P w = .ok v' w') (hK : K (a.put o.dst v') w') :
    if Region.wanted o (yielded ops a.tmps) = true then Oper.wp P o a w K Q else E := by
  have hw : Region.wanted o (yielded ops a.tmps) = true := by simp [Region.wanted, hg]
  rw [if_pos hw]
  unfold Oper.wp
  simp [execOp, hop, resolve, invoke, builtin, hd, hx, hr, Result.andThen]
  exact hK
end Go.Proofs.YtlngeonfabahnaaDoor
