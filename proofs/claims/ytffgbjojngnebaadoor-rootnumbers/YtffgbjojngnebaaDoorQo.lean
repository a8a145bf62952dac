/-
  A region that draws its order, whose last operation (number n) writes a cell that an elder one reads: that elder one may be taken first all the same, since number n waits for it. Own work, on the notions of Derived/OrdersHeld.lean. The contracts of Rename's and Append's closures. The contracts of Append's closure, where the file is new, and of Rename's. The contract of Rename's closure. Own work.
-/
import Derived.Deep.RegionHeld3
import Derived.Test.YtffgbjojngnebaaDoorQn
namespace Go.Proofs.YtffgbjojngnebaaDoor
open Go

section
variable {P : Program} {ops : Array Oper} {Q : Exit → Act → World → Prop} {md : Region.Mode} {S : World → Prop} {n : Nat}

/-- every order from here on comes to Q; behind each operation other than number n the world meets S -/
def wpAnyE (P : Program) (md : Region.Mode) (ops : Array Oper) (Q : Exit → Act → World → Prop) (S : World → Prop) (n : Nat) (fuel : Nat) (listed : Array Bool) (a : Act) (w : World) : Prop :=
  match fuel with
  | 0 => Region.ready md ops listed = [] ∧ Q .normal a w
  | k + 1 => (Region.ready md ops listed = [] → Q .normal a w) ∧ ∀ j ∈ Region.ready md ops listed, wpOp P ops Q j (fun b u => wpAnyE P md ops Q S n k (listed.setIfInBounds j true) b u ∧ (j ≠ n → S u)) a w

theorem wpAny_of_E (fuel : Nat) : ∀ (listed : Array Bool) (a : Act) (w : World), wpAnyE P md ops Q S n fuel listed a w → wpAny P md ops Q fuel listed a w := by
  induction fuel with
  | zero => exact fun _ _ _ h => h
  | succ k ih => exact fun _ _ _ h => ⟨h.1, fun j hj => wpOp_mono (fun b u hb => ih _ b u hb.1) (h.2 j hj)⟩

/-- who may come up does not wait for one that has not come up -/
theorem ready_waits {listed : Array Bool} {i j : Nat} {oj : Oper} (hi : i ∈ Region.ready md ops listed) (hj : j ∈ Region.ready md ops listed) (hoj : ops[j]? = some oj) :
    ∀ e ∈ oj.after, Region.binds md e = true → e.on ≠ i := by
  rintro e he hb rfl
  obtain ⟨_, o, ho, hall⟩ := mem_ready.1 hj
  rw [hoj] at ho
  obtain rfl := Option.some.inj ho
  have hdone := hall e he hb
  have hopen := (mem_ready.1 hi).1
  by_cases hl : e.on < listed.size
  · simp [hl] at hopen hdone
    rw [hopen] at hdone
    cases hdone
  · simp [Array.getElem?_eq_none (Nat.le_of_not_lt hl)] at hdone

/-- what has not come up behind one more had not come up ahead of it -/
theorem open_ahead {listed : Array Bool} {i j : Nat} (hj : j ∈ Region.ready md ops listed) (oi : Oper)
    (hfree : ∀ j oj, ops[j]? = some oj → j ≠ i → listed.getD j true = false → (∀ e ∈ oj.after, Region.binds md e = true → e.on ≠ i) → oi.apart ops oj = true) :
    ∀ k ok, ops[k]? = some ok → k ≠ i → (listed.setIfInBounds j true).getD k true = false → (∀ e ∈ ok.after, Region.binds md e = true → e.on ≠ i) → oi.apart ops ok = true := by
  intro k ok hk hki hun hno
  by_cases hjk : j = k
  · subst hjk
    exact hfree j ok hk hki (mem_ready.1 hj).1 hno
  · exact hfree k ok hk hki (by rwa [getD_set_ne true hjk] at hun) hno

theorem wpAnyE_first {i : Nat} {oi : Oper} {v : Value} (hi : ops[i]? = some oi) (hsel : ∀ (j : Nat) (o : Oper) cs b, ops[j]? = some o → o.op ≠ .select cs b)
    (hQ : ∀ c a w, Q (.panic c) (a.put oi.dst v) w → Q (.panic c) a w) (hn : ∀ on, ops[n]? = some on → ∃ e ∈ on.after, Region.binds md e = true ∧ e.on = i) (fuel : Nat) :
    ∀ (listed : Array Bool) (a : Act) (w : World),
      (∀ j oj, ops[j]? = some oj → j ≠ i → listed.getD j true = false → (∀ e ∈ oj.after, Region.binds md e = true → e.on ≠ i) → oi.apart ops oj = true) →
      i ∈ Region.ready md ops listed → YieldsIf P ops S oi v a → S w →
      wpAnyE P md ops Q S n fuel (listed.setIfInBounds i true) (a.put oi.dst v) w → wpAnyE P md ops Q S n (fuel + 1) listed a w := by
  induction fuel with
  | zero =>
    intro listed a w _ hr hy hS H
    have hone : ∀ j ∈ Region.ready md ops listed, j = i := fun j hj => Decidable.byContradiction fun hji => by
      have hm := ready_mono hj hji
      rw [H.1] at hm
      exact absurd hm List.not_mem_nil
    exact ⟨fun h => absurd (h ▸ hr) List.not_mem_nil, fun j hj => by
      obtain rfl := hone j hj
      exact hy.wpOp hi hS ⟨H, fun _ => hS⟩⟩
  | succ k ih =>
    intro listed a w hfree hr hy hS H
    refine ⟨fun h => absurd (h ▸ hr) List.not_mem_nil, fun j hj => ?_⟩
    by_cases hji : j = i
    · subst hji
      exact hy.wpOp hi hS ⟨H, fun _ => hS⟩
    · obtain ⟨oj, hoj⟩ : ∃ oj, ops[j]? = some oj := by
        obtain ⟨_, o, ho, _⟩ := mem_ready.1 hj
        exact ⟨o, ho⟩
      have hno := ready_waits hr hj hoj
      have hjn : j ≠ n := by
        rintro rfl
        obtain ⟨x, hx, hb, hxi⟩ := hn oj hoj
        exact hno x hx hb hxi
      have hstep := wpOp_putIf hoj (hfree j oj hoj hji (mem_ready.1 hj).1 hno) (hsel i oi · · hi) (hsel j oj · · hoj) hQ hy (H.2 j (ready_mono hj hji))
      refine wpOp_mono (fun b u hb => ⟨?_, hb.2.2⟩) hstep
      refine ih _ b u (open_ahead hj oi hfree) (ready_mono hr (Ne.symm hji)) hb.1 (hb.2.2 hjn) ?_
      have hbu := hb.2.1
      rwa [Array.setIfInBounds_comm _ _ (Ne.symm hji)] at hbu

theorem wpAnyE_take (i : Nat) {oi : Oper} {v : Value} {fuel : Nat} {listed : Array Bool} {a : Act} {w : World} (hi : ops[i]? = some oi)
    (hs : Region.noSelect ops = true) (hf : Region.free md ops listed i = true) (hr : (Region.ready md ops listed).contains i = true)
    (hn : ((ops[n]?).map fun on => on.after.any fun e => Region.binds md e && e.on == i) = some true)
    (hQ : ∀ c a w, Q (.panic c) (a.put oi.dst v) w → Q (.panic c) a w) (hy : YieldsIf P ops S oi v a) (hS : S w)
    (h : wpAnyE P md ops Q S n fuel (listed.setIfInBounds i true) (a.put oi.dst v) w) : wpAnyE P md ops Q S n (fuel + 1) listed a w := by
  refine wpAnyE_first hi (Region.noSelect_spec hs) hQ (fun on hon => ?_) fuel listed a w (Region.free_spec hi hf) (by simpa using hr) hy hS h
  rw [hon] at hn
  simp only [Option.map_some, Option.some.injEq, Array.any_eq_true, Bool.and_eq_true, beq_iff_eq] at hn
  obtain ⟨j, hj, hb, he⟩ := hn
  exact ⟨on.after[j], Array.getElem_mem _, hb, he⟩

theorem wpAnyE_one {i : Nat} {fuel : Nat} {listed : Array Bool} {a : Act} {w : World} (hr : Region.ready md ops listed = [i]) {o : Oper} (ho : ops[i]? = some o)
    (h : ∀ K : Act → World → Prop, (∀ b u, (i ≠ n → S u) → wpAnyE P md ops Q S n fuel (listed.setIfInBounds i true) b u → K b u) → if Region.wanted o (yielded ops a.tmps) = true then Oper.wp P o a w K Q else K (a.put o.dst undef) w) :
    wpAnyE P md ops Q S n (fuel + 1) listed a w := by
  refine ⟨fun h0 => ?_, fun j hj => ?_⟩
  · rw [hr] at h0
    cases h0
  · rw [hr, List.mem_singleton] at hj
    subst hj
    exact wpOp_step ho fun K hK => h K fun b u h1 h2 => hK b u ⟨h2, h1⟩

theorem wpAnyE_done {fuel : Nat} {listed : Array Bool} {a : Act} {w : World} (hr : Region.ready md ops listed = []) (h : Q .normal a w) : wpAnyE P md ops Q S n fuel listed a w := by
  cases fuel with
  | zero => exact ⟨hr, h⟩
  | succ k => exact ⟨fun _ => h, fun j hj => by rw [hr] at hj; cases hj⟩

theorem wp_region_E (n : Nat) (S : World → Prop) {id : Nat} {a : Act} {w : World} (hm : P.follows .mixedOrders = true)
    (h : wpAnyE P .any ops Q S n ops.size (Array.replicate ops.size false) a w.drew) : (Code.region id ops true).wp P Q a w :=
  wp_region_any hm (wpAny_of_E _ _ _ _ h)
end
end Go.Proofs.YtffgbjojngnebaaDoor
namespace Go.Proofs.YtffgbjojngnebaaDoor
open Go.RowKit

theorem run_append_rd' {P : Program} (w : World) (t ty : TypeId) (i : TypeInfo) (ht : P.underlying t = some (.slice 5)) (hi : P.info? 5 = some i) (hz : i.zero = some (.int .u8 0)) (h1 : i.size = 1) (h2 : i.bytes = 1)
    (base : Nat) (v s : Value) (l m : List UInt8) (hown : Own w base v l) (hs : Rd w s m) (hlen : l.length + m.length ≤ 140737488355328) (hbase : base ≤ w.heap.size) :
    ∃ v' w', (Builtin.append_ #[t, t] ty #[v, s]).run P w = .ok v' w' ∧ Own w' base v' (l ++ m) ∧ w.grownBy w' v.ownBlock ∧ (v'.ownBlock = v.ownBlock ∨ v'.ownBlock = some w.heap.size) := by
  have hmax : l.length + m.length ≤ maxLen := by unfold maxLen; omega
  obtain ⟨ao, cap, rfl, h3, h4, h5, h6⟩ := hs
  cases ao with
  | none =>
    have hc := h5 rfl
    subst hc
    have hm : m = [] := List.eq_nil_of_length_eq_zero (by omega)
    subst hm
    refine ⟨v, w, run_append_owned_none (P := P) (w := w) base t ty 5 i 1 ht hi v l.length (BV l) hown, by simpa using hown, World.grownBy.refl _ _, .inl rfl⟩
  | some a =>
    obtain ⟨v', w', hr, ho, hg, hb⟩ := run_append_own' (P := P) w base t ty 5 i (.int .u8 0) 1 1 ht hi hz h1 h2 rfl (by decide) v l.length (BV l) hown a m.length cap (BV m) (by simp [BV_length])
      (fun j u hj => by obtain ⟨hj', rfl⟩ := BV_get hj; exact h6 a rfl j hj') (BV_one m) hmax (by omega) hbase
    refine ⟨v', w', hr, ?_, hg, hb⟩
    unfold Own
    rw [BV_append, List.length_append]
    exact ho

/-- a file's bytes are others, in the same block or in a new one -/
theorem St.bytes {w w' : World} {bd bs bc g cap : Nat} {ps : List (AF × Value)} {most : Nat} {fuse : Int} {dark : Bool} (h : St w bd bs bc (.slice (some ⟨g, 0, none⟩) ps.length cap) ps most fuse dark) (k : Nat) (hk : k < ps.length) (v' : Value) (b' : List UInt8)
    (hg : w.grownBy w' ps[k].2.ownBlock) (ho : Own w' 0 v' b') (hb : v'.ownBlock = ps[k].2.ownBlock ∨ v'.ownBlock = some w.heap.size) :
    St (w'.setCell ⟨g, k * 3 + 1, none⟩ v') bd bs bc (.slice (some ⟨g, 0, none⟩) ps.length cap) (ps.take k ++ (⟨ps[k].1.name, b', ps[k].1.safe⟩, v') :: ps.drop (k + 1)) most fuse dark := by
  have hmem : ps[k] ∈ ps := List.getElem_mem hk
  have hne : ∀ a, (a = bd ∨ a = bs ∨ a = bc ∨ a = g) → some a ≠ ps[k].2.ownBlock := by
    rintro a ha e
    obtain ⟨m1, m2, m3, m4⟩ := h.by_ne (h.hb _ hmem) e.symm
    rcases ha with rfl | rfl | rfl | rfl
    · exact m1 rfl
    · exact m2 rfl
    · exact m3 rfl
    · exact m4 rfl
  have hoth : ∀ p ∈ ps.take k ++ ps.drop (k + 1), ∀ a, p.2.ownBlock = some a → some a ≠ ps[k].2.ownBlock := fun p hp a ha e => apart_at h.hp k hk p hp a ha e.symm
  have hmo : ∀ p ∈ ps.take k ++ ps.drop (k + 1), p ∈ ps := fun p hp => (List.mem_append.1 hp).elim List.mem_of_mem_take List.mem_of_mem_drop
  have hgl : g < w.heap.size := h.lt g (.inr (.inr (.inr (.inl rfl))))
  have hrow : w'.ownsRow 0 84 3 (.slice (some ⟨g, 0, none⟩) ps.length cap) ps.length (cellsOf ps) := rowHeap h.hf fun a ha => by
    cases ha
    exact hg.block g hgl (hne g (.inr (.inr (.inr rfl))))
  obtain ⟨o1, g1⟩ := World.ownsRow.stored hrow (k * 3 + 1) v'
  rw [cellsOf_set1 ps k hk v' b'] at o1
  have hx : ∀ a, a ≠ g → (w'.setCell ⟨g, k * 3 + 1, none⟩ v').heap[a]? = w'.heap[a]? := fun a ha => Below.heap_setCell _ _ _ _ ha
  obtain ⟨f1, f2, f3, _⟩ := h.fv_ne (a := g) rfl
  obtain ⟨c', hc'⟩ := row_elem hrow (a := g) rfl
  refine ⟨?_, ?_, ?_, ?_, fun p hp => ?_, ?_⟩
  · rw [hx _ (Ne.symm f1), hg.block bd h.ltd (hne bd (.inl rfl))]; exact h.hd
  · rw [hx _ (Ne.symm f2), hg.block bs h.lts (hne bs (.inr (.inl rfl)))]; exact h.hs
  · rw [hx _ (Ne.symm f3), hg.block bc h.ltc (hne bc (.inr (.inr (.inl rfl))))]; exact h.hc
  · rw [put_len ps k hk]; exact o1
  · have key : p = (⟨ps[k].1.name, b', ps[k].1.safe⟩, v') ∨ p ∈ ps.take k ++ ps.drop (k + 1) := by
      rcases List.mem_append.1 hp with h | h
      · exact .inr (List.mem_append_left _ h)
      · rcases List.mem_cons.1 h with h | h
        · exact .inl h
        · exact .inr (List.mem_append_right _ h)
    rcases key with rfl | hp
    · exact Own.heap ho fun a ha => hx a (by
        obtain ⟨c, hc⟩ := row_elem ho ha
        exact ne_of_elem hc hc' (by decide))
    · refine Own.heap (h.hb p (hmo p hp)) fun a ha => ?_
      obtain ⟨m1, m2, m3, m4⟩ := h.by_ne (h.hb p (hmo p hp)) ha
      rw [hx a (fun e => m4 (by rw [e]; rfl)), hg.block a (World.ownsRow.lt (h.hb p (hmo p hp)) a ha).2 (hoth p hp a ha)]
  · refine pair_put h.hp k (k + 1) (by omega) _ fun p hp a ha hv => ?_
    rcases hb with e | e
    · exact hoth p hp a ha (hv.symm.trans e)
    · rw [e] at hv
      cases hv
      have := (World.ownsRow.lt (h.hb p (hmo p hp)) _ ha).2
      omega

theorem map_putF (ps : List (AF × Value)) (f : AF) (v : Value) :
    (ps.take (posF (ps.map Prod.fst) f.name) ++ (f, v) :: ps.drop (if isF (ps.map Prod.fst) f.name then posF (ps.map Prod.fst) f.name + 1 else posF (ps.map Prod.fst) f.name)).map Prod.fst = putF (ps.map Prod.fst) f := by
  simp [putF, List.map_take, List.map_drop]

theorem app_pre {w : World} {bd bs bc : Nat} {fv : Value} {ps : List (AF × Value)} {most : Nat} {fuse : Int} {dark : Bool} (h : St w bd bs bc fv ps most fuse dark) (cD cA cB k : Nat) (hk : k < ps.length) (sb : Value) (b : List UInt8) (hb : Rd w sb b) (hsm : ps[k].1.bytes.length + b.length ≤ 100000000)
    (hD : w.heap[cD]? = some (.cells #[.pointer (some ⟨bd, 0, none⟩)] 33 (0, 0))) (hA : w.heap[cA]? = some (.cells #[.int .i64 k] 3 (0, 0))) (hB : w.heap[cB]? = some (.cells #[sb] 22 (0, 0))) :
    ∃ (g cap : Nat) (ao : Option Addr) (l cp : Nat) (bo : Option Addr) (bl bcp : Nat) (ao' : Option Addr) (L cp' : Nat) (w' : World), (fv = .slice (some ⟨g, 0, none⟩) ps.length cap ∧ ps.length ≤ cap ∧ sb = .slice bo bl bcp) ∧
      (w.cell? ⟨cD, 0, none⟩ = some (.pointer (some ⟨bd, 0, none⟩)) ∧ w.cell? ⟨cA, 0, none⟩ = some (.int .i64 k) ∧ w.cell? ⟨cB, 0, none⟩ = some (.slice bo bl bcp) ∧ w.cell? ⟨bd, 0, none⟩ = some (.pointer (some ⟨bs, 0, none⟩)) ∧ w.cell? ⟨bs, 0, none⟩ = some (.slice (some ⟨g, 0, none⟩) ps.length cap) ∧ w.cell? ⟨g, k * 3 + 1, none⟩ = some (.slice ao l cp)) ∧
      (w'.cell? ⟨cD, 0, none⟩ = some (.pointer (some ⟨bd, 0, none⟩)) ∧ w'.cell? ⟨cA, 0, none⟩ = some (.int .i64 k) ∧ w'.cell? ⟨cB, 0, none⟩ = some (.slice bo bl bcp) ∧ w'.cell? ⟨bd, 0, none⟩ = some (.pointer (some ⟨bs, 0, none⟩)) ∧ w'.cell? ⟨bs, 0, none⟩ = some (.slice (some ⟨g, 0, none⟩) ps.length cap) ∧ w'.cell? ⟨g, k * 3 + 1, none⟩ = some (.slice ao l cp)) ∧
      w'.frozen? ⟨g, k * 3 + 1, none⟩ = false ∧
      (Builtin.append_ #[22, 22] 22 #[.slice ao l cp, .slice bo bl bcp]).run Tryd.prog w.drew = .ok (.slice ao' L cp') w' ∧
      Did w (w'.setCell ⟨g, k * 3 + 1, none⟩ (.slice ao' L cp')) bd bs bc fv ps most fuse dark (atF (ps.map Prod.fst) k ⟨ps[k].1.name, ps[k].1.bytes ++ b, ps[k].1.safe⟩) := by
  obtain ⟨i0, hinf, hz0, hz1, hz2⟩ := info_parts Tryd.info5
  have hmem : ps[k] ∈ ps := List.getElem_mem hk
  obtain ⟨ao, cp, hsl, -⟩ := Own.rd (h.hb _ hmem)
  obtain ⟨bo, bcp, hsb, -⟩ := id hb
  obtain ⟨v', w', hr, ho, hg, hblk⟩ := run_append_rd' (P := Tryd.prog) w.drew 22 22 i0 Tryd.underlying22 hinf hz0 hz1 hz2 0 ps[k].2 sb ps[k].1.bytes b (h.hb _ hmem) hb (by omega) (Nat.zero_le _)
  rcases fr_of h.hf with ⟨_, hx⟩ | ⟨g, cap, hfv, hbl, hnc, hcm, hc⟩
  · rw [hx] at hk; simp at hk
  obtain ⟨c0, c1, c2⟩ := hc k hk
  subst hfv
  have hgrow : w.grownBy w' ps[k].2.ownBlock := ⟨hg.os, hg.tape, hg.output, hg.size, hg.block⟩
  have hS2 := h.bytes k hk v' (ps[k].1.bytes ++ b) hgrow ho hblk
  obtain ⟨cur, hgg⟩ := row_elem h.hf (a := g) rfl
  have hnel : ∀ (x : Nat) (c : Array Value) (e : TypeId), w.heap[x]? = some (Obj.cells c e (0, 0)) → e ≠ 5 → w'.heap[x]? = w.heap[x]? := fun x c e hx he => hgrow.block x (Array.getElem?_eq_some_iff.1 hx).1 (fun e2 => by
    obtain ⟨c', hc'⟩ := row_elem (h.hb _ hmem) e2.symm
    exact ne_of_elem hx hc' he rfl)
  obtain ⟨ao', cp', hv', -⟩ := Own.rd ho
  rw [hsl] at c1 hr
  rw [hsb] at hr
  rw [hv'] at hr hS2
  have eg := hnel g _ _ hgg (by decide)
  refine ⟨g, cap, ao, ps[k].1.bytes.length, cp, bo, b.length, bcp, ao', (ps[k].1.bytes ++ b).length, cp', w', ⟨rfl, hnc, hsb⟩, ⟨?_, ?_, ?_, h.d0, h.s0, c1⟩, ⟨?_, ?_, ?_, ?_, ?_, ?_⟩, ?_, hr, _, _, hS2, map_atF ps k _ _, blk_put (fun b hb => .inl hb) ?_, ?_⟩
  · rw [cell_of hD]; rfl
  · rw [cell_of hA]; rfl
  · rw [cell_of hB, hsb]; rfl
  · rw [cell_of ((hnel cD _ _ hD (by decide)).trans hD)]; rfl
  · rw [cell_of ((hnel cA _ _ hA (by decide)).trans hA)]; rfl
  · rw [cell_of ((hnel cB _ _ hB (by decide)).trans hB), hsb]; rfl
  · rw [cell_of ((hnel bd _ _ h.hd (by decide)).trans h.hd)]; rfl
  · rw [cell_of ((hnel bs _ _ h.hs (by decide)).trans h.hs)]; rfl
  · exact (World.cell?_of_block (w := w) (a := ⟨g, k * 3 + 1, none⟩) eg).trans c1
  · exact frozen_of (eg.trans hgg) _
  · intro x hx
    rw [← hv'] at hx
    rcases hblk with e | e
    · exact .inl ⟨_, hmem, e.symm.trans hx⟩
    · rw [e] at hx; cases hx; exact .inr (Nat.le_refl _)
  · exact ((Chg.refl _ w).grown hgrow fun x hx => .inl (.inr (.inr (.inr (.inr ⟨_, hmem, hx⟩))))).setCell (p := ⟨g, k * 3 + 1, none⟩) (.inl (.inr (.inr (.inr (.inl rfl))))) _

set_option maxRecDepth 100000 in
set_option maxHeartbeats 4000000 in
theorem append1_at {w : World} {bd bs bc : Nat} {fv : Value} {ps : List (AF × Value)} {most : Nat} {fuse : Int} {dark : Bool} (h : St w bd bs bc fv ps most fuse dark) (cT cD cN cA cB k : Nat) (hk : k < ps.length) (sb : Value) (b : List UInt8) (hb : Rd w sb b) (hsm : ps[k].1.bytes.length + b.length ≤ 100000000)
    (hT : w.heap[cT]? = some (.cells #[.bool true] 4 (0, 0))) (hD : w.heap[cD]? = some (.cells #[.pointer (some ⟨bd, 0, none⟩)] 33 (0, 0))) (hA : w.heap[cA]? = some (.cells #[.int .i64 k] 3 (0, 0))) (hB : w.heap[cB]? = some (.cells #[sb] 22 (0, 0))) :
    Calls Tryd.prog 49 #[.pointer (some ⟨cT, 0, none⟩), .pointer (some ⟨cD, 0, none⟩), .pointer (some ⟨cN, 0, none⟩), .pointer (some ⟨cA, 0, none⟩), .pointer (some ⟨cB, 0, none⟩)] w fun e w' => e = .returned (.tuple #[]) ∧
      Did w w' bd bs bc fv ps most fuse dark (atF (ps.map Prod.fst) k ⟨ps[k].1.name, ps[k].1.bytes ++ b, ps[k].1.safe⟩) := by
  have mixed : Tryd.prog.follows Departure.mixedOrders = true := by kernel_rfl
  have dT : w.cell? ⟨cT, 0, none⟩ = some (.bool true) := by rw [cell_of hT]; rfl
  obtain ⟨g, cap, ao, l, cp, bo, bl, bcp, ao', L, cp', w', ⟨hfv, hnc, hsb⟩, ⟨dD, dA, dB, d0, s0, c1⟩, ⟨kD, kA, kB, kd, ks, kg⟩, kz, hr, hdid⟩ := app_pre h cD cA cB k hk sb b hb hsm hD hA hB
  have HHR : Hid _ := hr
  have HDID : Hid _ := hdid
  obtain ⟨R, HR⟩ := named (atF (ps.map Prod.fst) k ⟨ps[k].1.name, ps[k].1.bytes ++ b, ps[k].1.safe⟩)
  rw [← HR.out] at HDID ⊢
  have hkI : (k : Int) < (ps.length : Int) := by omega
  clear h hb hsm hT hD hA hB hr hdid hfv hsb
  go_enter Tryd.func49, Tryd.ntmps49
  go_wp2_with fail
  have hs0 : (fun w' => w'.cell? ⟨cD, 0, none⟩ = some (.pointer (some ⟨bd, 0, none⟩)) ∧ w'.cell? ⟨cA, 0, none⟩ = some (.int .i64 k) ∧ w'.cell? ⟨cB, 0, none⟩ = some (.slice bo bl bcp) ∧ w'.cell? ⟨bd, 0, none⟩ = some (.pointer (some ⟨bs, 0, none⟩)) ∧ w'.cell? ⟨bs, 0, none⟩ = some (.slice (some ⟨g, 0, none⟩) ps.length cap) ∧ w'.cell? ⟨g, k * 3 + 1, none⟩ = some (.slice ao l cp)) w.drew := ⟨dD, dA, dB, d0, s0, c1⟩
  refine wp_region_E 23 (fun w' => w'.cell? ⟨cD, 0, none⟩ = some (.pointer (some ⟨bd, 0, none⟩)) ∧ w'.cell? ⟨cA, 0, none⟩ = some (.int .i64 k) ∧ w'.cell? ⟨cB, 0, none⟩ = some (.slice bo bl bcp) ∧ w'.cell? ⟨bd, 0, none⟩ = some (.pointer (some ⟨bs, 0, none⟩)) ∧ w'.cell? ⟨bs, 0, none⟩ = some (.slice (some ⟨g, 0, none⟩) ps.length cap) ∧ w'.cell? ⟨g, k * 3 + 1, none⟩ = some (.slice ao l cp)) mixed ?_
  refine wpAnyE_take 0 (oi := { dst := some 14, op := Go.Op.load 33 (Go.Operand.tmp 1), type := 33, pos := "disk.go:61", after := #[], guard := none }) (v := ?_) rfl (by kernel_rfl) (by kernel_rfl) (by kernel_rfl) (by kernel_rfl) (fun _ _ _ h => h) (Or.inl ⟨by rfl, ?_⟩) hs0 ?_
  rotate_left
  · intro u hu
    obtain ⟨u1, u2, u3, u4, u5, u6⟩ := hu
    go_simp
    try with_reducible rfl
  simp only [Act.put, List.setIfInBounds_toArray, List.set_cons_zero, List.set_cons_succ]
  refine wpAnyE_take 1 (oi := { dst := some 15, op := Go.Op.nilCheck (Go.Operand.tmp 14), type := 0, pos := "disk.go:61", after := #[{ on := 0, ground := Go.Ground.data }], guard := none }) (v := ?_) rfl (by kernel_rfl) (by kernel_rfl) (by kernel_rfl) (by kernel_rfl) (fun _ _ _ h => h) (Or.inl ⟨by rfl, ?_⟩) hs0 ?_
  rotate_left
  · intro u hu
    obtain ⟨u1, u2, u3, u4, u5, u6⟩ := hu
    go_simp
    try with_reducible rfl
  simp only [Act.put, List.setIfInBounds_toArray, List.set_cons_zero, List.set_cons_succ]
  refine wpAnyE_take 2 (oi := { dst := some 16, op := Go.Op.fieldAddr 49 (Go.Operand.tmp 15) 0, type := 0, pos := "disk.go:61", after := #[{ on := 1, ground := Go.Ground.data }], guard := none }) (v := ?_) rfl (by kernel_rfl) (by kernel_rfl) (by kernel_rfl) (by kernel_rfl) (fun _ _ _ h => h) (Or.inl ⟨by rfl, ?_⟩) hs0 ?_
  rotate_left
  · intro u hu
    obtain ⟨u1, u2, u3, u4, u5, u6⟩ := hu
    go_simp
    try with_reducible rfl
  simp only [Act.put, List.setIfInBounds_toArray, List.set_cons_zero, List.set_cons_succ]
  refine wpAnyE_take 3 (oi := { dst := some 17, op := Go.Op.load 47 (Go.Operand.tmp 16), type := 47, pos := "disk.go:61", after := #[{ on := 2, ground := Go.Ground.data }], guard := none }) (v := ?_) rfl (by kernel_rfl) (by kernel_rfl) (by kernel_rfl) (by kernel_rfl) (fun _ _ _ h => h) (Or.inl ⟨by rfl, ?_⟩) hs0 ?_
  rotate_left
  · intro u hu
    obtain ⟨u1, u2, u3, u4, u5, u6⟩ := hu
    go_simp
    try with_reducible rfl
  simp only [Act.put, List.setIfInBounds_toArray, List.set_cons_zero, List.set_cons_succ]
  refine wpAnyE_take 4 (oi := { dst := some 18, op := Go.Op.nilCheck (Go.Operand.tmp 17), type := 0, pos := "disk.go:61", after := #[{ on := 3, ground := Go.Ground.data }], guard := none }) (v := ?_) rfl (by kernel_rfl) (by kernel_rfl) (by kernel_rfl) (by kernel_rfl) (fun _ _ _ h => h) (Or.inl ⟨by rfl, ?_⟩) hs0 ?_
  rotate_left
  · intro u hu
    obtain ⟨u1, u2, u3, u4, u5, u6⟩ := hu
    go_simp
    try with_reducible rfl
  simp only [Act.put, List.setIfInBounds_toArray, List.set_cons_zero, List.set_cons_succ]
  refine wpAnyE_take 5 (oi := { dst := some 19, op := Go.Op.fieldAddr 80 (Go.Operand.tmp 18) 0, type := 0, pos := "disk.go:61", after := #[{ on := 4, ground := Go.Ground.data }], guard := none }) (v := ?_) rfl (by kernel_rfl) (by kernel_rfl) (by kernel_rfl) (by kernel_rfl) (fun _ _ _ h => h) (Or.inl ⟨by rfl, ?_⟩) hs0 ?_
  rotate_left
  · intro u hu
    obtain ⟨u1, u2, u3, u4, u5, u6⟩ := hu
    go_simp
    try with_reducible rfl
  simp only [Act.put, List.setIfInBounds_toArray, List.set_cons_zero, List.set_cons_succ]
  refine wpAnyE_take 6 (oi := { dst := some 20, op := Go.Op.load 77 (Go.Operand.tmp 19), type := 77, pos := "disk.go:61", after := #[{ on := 5, ground := Go.Ground.data }], guard := none }) (v := ?_) rfl (by kernel_rfl) (by kernel_rfl) (by kernel_rfl) (by kernel_rfl) (fun _ _ _ h => h) (Or.inl ⟨by rfl, ?_⟩) hs0 ?_
  rotate_left
  · intro u hu
    obtain ⟨u1, u2, u3, u4, u5, u6⟩ := hu
    go_simp
    try with_reducible rfl
  simp only [Act.put, List.setIfInBounds_toArray, List.set_cons_zero, List.set_cons_succ]
  refine wpAnyE_take 7 (oi := { dst := some 21, op := Go.Op.load 3 (Go.Operand.tmp 3), type := 3, pos := "disk.go:61", after := #[], guard := none }) (v := ?_) rfl (by kernel_rfl) (by kernel_rfl) (by kernel_rfl) (by kernel_rfl) (fun _ _ _ h => h) (Or.inl ⟨by rfl, ?_⟩) hs0 ?_
  rotate_left
  · intro u hu
    obtain ⟨u1, u2, u3, u4, u5, u6⟩ := hu
    go_simp
    try with_reducible rfl
  simp only [Act.put, List.setIfInBounds_toArray, List.set_cons_zero, List.set_cons_succ]
  refine wpAnyE_take 8 (oi := { dst := some 22, op := Go.Op.load 33 (Go.Operand.tmp 1), type := 33, pos := "disk.go:61", after := #[], guard := none }) (v := ?_) rfl (by kernel_rfl) (by kernel_rfl) (by kernel_rfl) (by kernel_rfl) (fun _ _ _ h => h) (Or.inl ⟨by rfl, ?_⟩) hs0 ?_
  rotate_left
  · intro u hu
    obtain ⟨u1, u2, u3, u4, u5, u6⟩ := hu
    go_simp
    try with_reducible rfl
  simp only [Act.put, List.setIfInBounds_toArray, List.set_cons_zero, List.set_cons_succ]
  refine wpAnyE_take 9 (oi := { dst := some 23, op := Go.Op.nilCheck (Go.Operand.tmp 22), type := 0, pos := "disk.go:61", after := #[{ on := 8, ground := Go.Ground.data }], guard := none }) (v := ?_) rfl (by kernel_rfl) (by kernel_rfl) (by kernel_rfl) (by kernel_rfl) (fun _ _ _ h => h) (Or.inl ⟨by rfl, ?_⟩) hs0 ?_
  rotate_left
  · intro u hu
    obtain ⟨u1, u2, u3, u4, u5, u6⟩ := hu
    go_simp
    try with_reducible rfl
  simp only [Act.put, List.setIfInBounds_toArray, List.set_cons_zero, List.set_cons_succ]
  refine wpAnyE_take 10 (oi := { dst := some 24, op := Go.Op.fieldAddr 49 (Go.Operand.tmp 23) 0, type := 0, pos := "disk.go:61", after := #[{ on := 9, ground := Go.Ground.data }], guard := none }) (v := ?_) rfl (by kernel_rfl) (by kernel_rfl) (by kernel_rfl) (by kernel_rfl) (fun _ _ _ h => h) (Or.inl ⟨by rfl, ?_⟩) hs0 ?_
  rotate_left
  · intro u hu
    obtain ⟨u1, u2, u3, u4, u5, u6⟩ := hu
    go_simp
    try with_reducible rfl
  simp only [Act.put, List.setIfInBounds_toArray, List.set_cons_zero, List.set_cons_succ]
  refine wpAnyE_take 11 (oi := { dst := some 25, op := Go.Op.load 47 (Go.Operand.tmp 24), type := 47, pos := "disk.go:61", after := #[{ on := 10, ground := Go.Ground.data }], guard := none }) (v := ?_) rfl (by kernel_rfl) (by kernel_rfl) (by kernel_rfl) (by kernel_rfl) (fun _ _ _ h => h) (Or.inl ⟨by rfl, ?_⟩) hs0 ?_
  rotate_left
  · intro u hu
    obtain ⟨u1, u2, u3, u4, u5, u6⟩ := hu
    go_simp
    try with_reducible rfl
  simp only [Act.put, List.setIfInBounds_toArray, List.set_cons_zero, List.set_cons_succ]
  refine wpAnyE_take 12 (oi := { dst := some 26, op := Go.Op.nilCheck (Go.Operand.tmp 25), type := 0, pos := "disk.go:61", after := #[{ on := 11, ground := Go.Ground.data }], guard := none }) (v := ?_) rfl (by kernel_rfl) (by kernel_rfl) (by kernel_rfl) (by kernel_rfl) (fun _ _ _ h => h) (Or.inl ⟨by rfl, ?_⟩) hs0 ?_
  rotate_left
  · intro u hu
    obtain ⟨u1, u2, u3, u4, u5, u6⟩ := hu
    go_simp
    try with_reducible rfl
  simp only [Act.put, List.setIfInBounds_toArray, List.set_cons_zero, List.set_cons_succ]
  refine wpAnyE_take 13 (oi := { dst := some 27, op := Go.Op.fieldAddr 80 (Go.Operand.tmp 26) 0, type := 0, pos := "disk.go:61", after := #[{ on := 12, ground := Go.Ground.data }], guard := none }) (v := ?_) rfl (by kernel_rfl) (by kernel_rfl) (by kernel_rfl) (by kernel_rfl) (fun _ _ _ h => h) (Or.inl ⟨by rfl, ?_⟩) hs0 ?_
  rotate_left
  · intro u hu
    obtain ⟨u1, u2, u3, u4, u5, u6⟩ := hu
    go_simp
    try with_reducible rfl
  simp only [Act.put, List.setIfInBounds_toArray, List.set_cons_zero, List.set_cons_succ]
  refine wpAnyE_take 14 (oi := { dst := some 28, op := Go.Op.load 77 (Go.Operand.tmp 27), type := 77, pos := "disk.go:61", after := #[{ on := 13, ground := Go.Ground.data }], guard := none }) (v := ?_) rfl (by kernel_rfl) (by kernel_rfl) (by kernel_rfl) (by kernel_rfl) (fun _ _ _ h => h) (Or.inl ⟨by rfl, ?_⟩) hs0 ?_
  rotate_left
  · intro u hu
    obtain ⟨u1, u2, u3, u4, u5, u6⟩ := hu
    go_simp
    try with_reducible rfl
  simp only [Act.put, List.setIfInBounds_toArray, List.set_cons_zero, List.set_cons_succ]
  refine wpAnyE_take 15 (oi := { dst := some 29, op := Go.Op.load 3 (Go.Operand.tmp 3), type := 3, pos := "disk.go:61", after := #[], guard := none }) (v := ?_) rfl (by kernel_rfl) (by kernel_rfl) (by kernel_rfl) (by kernel_rfl) (fun _ _ _ h => h) (Or.inl ⟨by rfl, ?_⟩) hs0 ?_
  rotate_left
  · intro u hu
    obtain ⟨u1, u2, u3, u4, u5, u6⟩ := hu
    go_simp
    try with_reducible rfl
  simp only [Act.put, List.setIfInBounds_toArray, List.set_cons_zero, List.set_cons_succ]
  refine wpAnyE_take 16 (oi := { dst := some 30, op := Go.Op.indexAddr 77 (Go.Operand.tmp 28) (Go.Operand.tmp 29), type := 0, pos := "disk.go:61", after := #[{ on := 14, ground := Go.Ground.data }, { on := 15, ground := Go.Ground.data }], guard := none }) (v := ?_) rfl (by kernel_rfl) (by kernel_rfl) (by kernel_rfl) (by kernel_rfl) (fun _ _ _ h => h) (Or.inl ⟨by rfl, ?_⟩) hs0 ?_
  rotate_left
  · intro u hu
    obtain ⟨u1, u2, u3, u4, u5, u6⟩ := hu
    go_simp
    try with_reducible rfl
  simp only [Act.put, List.setIfInBounds_toArray, List.set_cons_zero, List.set_cons_succ]
  refine wpAnyE_take 17 (oi := { dst := some 31, op := Go.Op.fieldAddr 84 (Go.Operand.tmp 30) 1, type := 0, pos := "disk.go:61", after := #[{ on := 16, ground := Go.Ground.data }], guard := none }) (v := ?_) rfl (by kernel_rfl) (by kernel_rfl) (by kernel_rfl) (by kernel_rfl) (fun _ _ _ h => h) (Or.inl ⟨by rfl, ?_⟩) hs0 ?_
  rotate_left
  · intro u hu
    obtain ⟨u1, u2, u3, u4, u5, u6⟩ := hu
    go_simp
    try with_reducible rfl
  simp only [Act.put, List.setIfInBounds_toArray, List.set_cons_zero, List.set_cons_succ]
  refine wpAnyE_take 18 (oi := { dst := some 32, op := Go.Op.load 22 (Go.Operand.tmp 31), type := 22, pos := "disk.go:61", after := #[{ on := 17, ground := Go.Ground.data }], guard := none }) (v := ?_) rfl (by kernel_rfl) (by kernel_rfl) (by kernel_rfl) (by kernel_rfl) (fun _ _ _ h => h) (Or.inl ⟨by rfl, ?_⟩) hs0 ?_
  rotate_left
  · intro u hu
    obtain ⟨u1, u2, u3, u4, u5, u6⟩ := hu
    go_simp
    try with_reducible rfl
  simp only [Act.put, List.setIfInBounds_toArray, List.set_cons_zero, List.set_cons_succ]
  refine wpAnyE_take 19 (oi := { dst := some 33, op := Go.Op.load 22 (Go.Operand.tmp 4), type := 22, pos := "disk.go:61", after := #[], guard := none }) (v := ?_) rfl (by kernel_rfl) (by kernel_rfl) (by kernel_rfl) (by kernel_rfl) (fun _ _ _ h => h) (Or.inl ⟨by rfl, ?_⟩) hs0 ?_
  rotate_left
  · intro u hu
    obtain ⟨u1, u2, u3, u4, u5, u6⟩ := hu
    go_simp
    try with_reducible rfl
  simp only [Act.put, List.setIfInBounds_toArray, List.set_cons_zero, List.set_cons_succ]
  refine wpAnyE_one (i := 20) (o := { dst := some 34, op := Go.Op.call { callee := Go.Callee.builtin Go.Builtin.append, args := #[Go.Operand.tmp 32, Go.Operand.tmp 33], argTypes := #[22, 22] }, type := 22, pos := "disk.go:61", after := #[{ on := 18, ground := Go.Ground.data }, { on := 19, ground := Go.Ground.data }], guard := none }) (by kernel_rfl) rfl (fun K hK => ?_)
  refine step_append_runI rfl (.tmp 32) (.tmp 33) 22 22 rfl (.slice ao l cp) (.slice bo bl bcp) (by simp [Act.eval]) (by simp [Act.eval]) HHR.out ?_
  refine hK _ _ (fun _ => ⟨kD, kA, kB, kd, ks, kg⟩) ?_
  clear hK K
  simp only [Act.put, List.setIfInBounds_toArray, List.set_cons_zero, List.set_cons_succ]
  refine wpAnyE_one (i := 21) (o := { dst := some 35, op := Go.Op.indexAddr 77 (Go.Operand.tmp 20) (Go.Operand.tmp 21), type := 0, pos := "disk.go:61", after := #[{ on := 6, ground := Go.Ground.data }, { on := 7, ground := Go.Ground.data }, { on := 0, ground := Go.Ground.phase }, { on := 1, ground := Go.Ground.phase }, { on := 2, ground := Go.Ground.phase }, { on := 3, ground := Go.Ground.phase }, { on := 4, ground := Go.Ground.phase }, { on := 5, ground := Go.Ground.phase }, { on := 6, ground := Go.Ground.phase }, { on := 7, ground := Go.Ground.phase }, { on := 8, ground := Go.Ground.phase }, { on := 9, ground := Go.Ground.phase }, { on := 10, ground := Go.Ground.phase }, { on := 11, ground := Go.Ground.phase }, { on := 12, ground := Go.Ground.phase }, { on := 13, ground := Go.Ground.phase }, { on := 14, ground := Go.Ground.phase }, { on := 15, ground := Go.Ground.phase }, { on := 16, ground := Go.Ground.phase }, { on := 17, ground := Go.Ground.phase }, { on := 18, ground := Go.Ground.phase }, { on := 19, ground := Go.Ground.phase }, { on := 20, ground := Go.Ground.phase }], guard := none }) (by kernel_rfl) rfl (fun K hK => ?_)
  go_simp
  refine hK _ _ (fun _ => ⟨kD, kA, kB, kd, ks, kg⟩) ?_
  clear hK K
  refine wpAnyE_take 22 (oi := { dst := some 36, op := Go.Op.fieldAddr 84 (Go.Operand.tmp 35) 1, type := 0, pos := "disk.go:61", after := #[{ on := 21, ground := Go.Ground.data }, { on := 0, ground := Go.Ground.phase }, { on := 1, ground := Go.Ground.phase }, { on := 2, ground := Go.Ground.phase }, { on := 3, ground := Go.Ground.phase }, { on := 4, ground := Go.Ground.phase }, { on := 5, ground := Go.Ground.phase }, { on := 6, ground := Go.Ground.phase }, { on := 7, ground := Go.Ground.phase }, { on := 8, ground := Go.Ground.phase }, { on := 9, ground := Go.Ground.phase }, { on := 10, ground := Go.Ground.phase }, { on := 11, ground := Go.Ground.phase }, { on := 12, ground := Go.Ground.phase }, { on := 13, ground := Go.Ground.phase }, { on := 14, ground := Go.Ground.phase }, { on := 15, ground := Go.Ground.phase }, { on := 16, ground := Go.Ground.phase }, { on := 17, ground := Go.Ground.phase }, { on := 18, ground := Go.Ground.phase }, { on := 19, ground := Go.Ground.phase }, { on := 20, ground := Go.Ground.phase }], guard := none }) (v := ?_) rfl (by kernel_rfl) (by kernel_rfl) (by kernel_rfl) (by kernel_rfl) (fun _ _ _ h => h) (Or.inl ⟨by rfl, ?_⟩) ⟨kD, kA, kB, kd, ks, kg⟩ ?_
  rotate_left
  · intro u hu
    obtain ⟨u1, u2, u3, u4, u5, u6⟩ := hu
    go_simp
    try with_reducible rfl
  simp only [Act.put, List.setIfInBounds_toArray, List.set_cons_zero, List.set_cons_succ]
  refine wpAnyE_one (i := 23) (o := { dst := none, op := Go.Op.store 22 (Go.Operand.tmp 36) (Go.Operand.tmp 34), type := 0, pos := "disk.go:61", after := #[{ on := 22, ground := Go.Ground.data }, { on := 20, ground := Go.Ground.data }, { on := 20, ground := Go.Ground.chain }, { on := 0, ground := Go.Ground.phase }, { on := 1, ground := Go.Ground.phase }, { on := 2, ground := Go.Ground.phase }, { on := 3, ground := Go.Ground.phase }, { on := 4, ground := Go.Ground.phase }, { on := 5, ground := Go.Ground.phase }, { on := 6, ground := Go.Ground.phase }, { on := 7, ground := Go.Ground.phase }, { on := 8, ground := Go.Ground.phase }, { on := 9, ground := Go.Ground.phase }, { on := 10, ground := Go.Ground.phase }, { on := 11, ground := Go.Ground.phase }, { on := 12, ground := Go.Ground.phase }, { on := 13, ground := Go.Ground.phase }, { on := 14, ground := Go.Ground.phase }, { on := 15, ground := Go.Ground.phase }, { on := 16, ground := Go.Ground.phase }, { on := 17, ground := Go.Ground.phase }, { on := 18, ground := Go.Ground.phase }, { on := 19, ground := Go.Ground.phase }, { on := 20, ground := Go.Ground.phase }], guard := none }) (by kernel_rfl) rfl (fun K hK => ?_)
  go_simp
  refine hK _ _ (fun h => absurd rfl h) ?_
  clear hK K
  refine wpAnyE_done (by kernel_rfl) ?_
  go_wp2
  go_returns
  exact ⟨rfl, HDID.out⟩
end Go.Proofs.YtffgbjojngnebaaDoor
namespace Go.Proofs.YtffgbjojngnebaaDoor
open Go.RowKit

theorem Did.trans {w w2 w' : World} {bd bs bc : Nat} {fv fv2 : Value} {ps ps2 : List (AF × Value)} {most : Nat} {fuse : Int} {dark : Bool} {fs' : List AF} (hb : ∀ b, Blk bd bs bc fv2 ps2 b → Blk bd bs bc fv ps b ∨ w.heap.size ≤ b) (hc : Chg (Blk bd bs bc fv ps) w w2)
    (h : Did w2 w' bd bs bc fv2 ps2 most fuse dark fs') : Did w w' bd bs bc fv ps most fuse dark fs' := by
  obtain ⟨fv', ps', h1, h2, h3, h4⟩ := h
  refine ⟨fv', ps', h1, h2, fun b hb' => ?_, hc.trans h4 (fun i hi hB => ?_)⟩
  · rcases h3 b hb' with h | h
    · exact hb b h
    · exact .inr (Nat.le_trans hc.size h)
  · rcases hb i hB with h | h
    · exact h
    · omega
theorem Rd.chg {w w' : World} {v : Value} {l : List UInt8} {F : Nat → Prop} (h : Rd w v l) (hb : Chg F w w') (hF : ∀ a, v.ownBlock = some a → l ≠ [] → ¬ F a) : Rd w' v l := by
  obtain ⟨ao, cap, hv, h1, h2, h3, h4⟩ := h
  refine ⟨ao, cap, hv, h1, h2, h3, fun a ha i hi => ?_⟩
  have hc := h4 a ha i hi
  have hlt := World.block_lt_of_cell? w _ hc
  have hbk : (a.add i).block = a.block := by unfold Addr.add; split <;> rfl
  rw [World.cell?_of_block (w := w) (hb.block _ hlt (by rw [hbk]; exact hF _ (by rw [hv, ha]; rfl) (by intro e; subst e; simp at hi)))]
  exact hc
theorem elem_far {w : World} {bd bs bc : Nat} {fv : Value} {ps : List (AF × Value)} {most : Nat} {fuse : Int} {dark : Bool} (h : St w bd bs bc fv ps most fuse dark) {b : Nat} {c : Array Value} {e : TypeId} {x : Nat × Nat} (hb : w.heap[b]? = some (.cells c e x)) (h1 : e ≠ 80) (h2 : e ≠ 84) : ¬ (fun b => b = bs ∨ fv.ownBlock = some b) b := by
  rintro (rfl | hb2)
  · exact ne_of_elem hb h.hs h1 rfl
  · obtain ⟨c', hc'⟩ := row_elem h.hf hb2
    exact ne_of_elem hb hc' h2 rfl

set_option maxRecDepth 100000 in
set_option maxHeartbeats 4000000 in
theorem append1_new {w : World} {bd bs bc : Nat} {fv : Value} {ps : List (AF × Value)} {most : Nat} {fuse : Int} {dark : Bool} (h : St w bd bs bc fv ps most fuse dark) (hs : sorted (ps.map Prod.fst)) (hmax : ps.length ≤ 999) (cT cD cN cA cB : Nat) (n : ByteArray) (hn : n.size ≤ 1000) (hi : isF (ps.map Prod.fst) n = false)
    (sb : Value) (b : List UInt8) (hb : Rd w sb b) (hsm : b.length ≤ 100000000) (hsa : ∀ a, sb.ownBlock = some a → b ≠ [] → ¬ (fun b => b = bs ∨ fv.ownBlock = some b) a)
    (hT : w.heap[cT]? = some (.cells #[.bool false] 4 (0, 0))) (hD : w.heap[cD]? = some (.cells #[.pointer (some ⟨bd, 0, none⟩)] 33 (0, 0))) (hN : w.heap[cN]? = some (.cells #[.string n] 9 (0, 0))) (hA : w.heap[cA]? = some (.cells #[.int .i64 (posF (ps.map Prod.fst) n)] 3 (0, 0))) (hB : w.heap[cB]? = some (.cells #[sb] 22 (0, 0))) :
    Calls Tryd.prog 49 #[.pointer (some ⟨cT, 0, none⟩), .pointer (some ⟨cD, 0, none⟩), .pointer (some ⟨cN, 0, none⟩), .pointer (some ⟨cA, 0, none⟩), .pointer (some ⟨cB, 0, none⟩)] w fun e w' => e = .returned (.tuple #[]) ∧
      Did w w' bd bs bc fv ps most fuse dark (putF (ps.map Prod.fst) ⟨n, b, 0⟩) := by
  have mixed : Tryd.prog.follows Departure.mixedOrders = true := by kernel_rfl
  have dT : w.cell? ⟨cT, 0, none⟩ = some (.bool false) := by rw [cell_of hT]; rfl
  have eD : w.cell? ⟨cD, 0, none⟩ = some (.pointer (some ⟨bd, 0, none⟩)) := by rw [cell_of hD]; rfl
  have eN : w.cell? ⟨cN, 0, none⟩ = some (.string n) := by rw [cell_of hN]; rfl
  have e0 := h.d0
  have HPUT : Hid _ := put_st (w := w.drew) (h.heap fun _ _ => rfl) hs hmax ⟨n, [], 0⟩ (.slice none 0 0) (Own.nil _ _) (fun p _ a _ hx => by cases hx) hn
  have HST : Hid _ := h
  have HFAR : Hid _ := And.intro (elem_far h hD (by decide) (by decide)) (And.intro (elem_far h hN (by decide) (by decide)) (And.intro (elem_far h h.hd (by decide) (by decide)) (And.intro (elem_far h hA (by decide) (by decide)) (elem_far h hB (by decide) (by decide)))))
  have l1 : cD < w.heap.size := (Array.getElem?_eq_some_iff.1 hD).1
  have l2 : cN < w.heap.size := (Array.getElem?_eq_some_iff.1 hN).1
  have l3 := h.ltd
  have HA : Hid _ := hA
  have HB : Hid _ := hB
  have HD : Hid _ := hD
  have HRB : Hid _ := hb
  have HSA : Hid _ := hsa
  have hpl := posF_le (ps.map Prod.fst) n
  rw [List.length_map] at hpl
  obtain ⟨fs, HF⟩ := named (ps.map Prod.fst)
  rw [← HF.out] at hi hpl HA HPUT ⊢
  obtain ⟨k, HK⟩ := named (posF fs n)
  have HJ : Hid (putF fs ⟨n, b, 0⟩ = fs.take k ++ ⟨n, b, 0⟩ :: fs.drop k) := by
    unfold putF
    simp only [hi]
    rw [HK.out]
    rfl
  rw [hi] at HPUT
  rw [← HK.out] at hpl HA HPUT
  simp only [Bool.false_eq_true, ↓reduceIte] at HPUT
  obtain ⟨R, HR⟩ := named (putF fs ⟨n, b, 0⟩)
  rw [← HR.out] at HJ ⊢
  obtain ⟨ps2, HP2⟩ := named (ps.take k ++ ((⟨n, [], 0⟩ : AF), Value.slice none 0 0) :: ps.drop k)
  rw [← HP2.out] at HPUT
  have hkt : (ps.take k).length = k := by rw [List.length_take]; omega
  have hl2 : ps2.length = ps.length + 1 := by rw [HP2.out]; simp only [List.length_append, List.length_take, List.length_cons, List.length_drop]; omega
  have hk2 : k < ps2.length := by omega
  have HG2 : Hid (ps2[k] = ((⟨n, [], 0⟩ : AF), Value.slice none 0 0)) := by
    have : ps2[k]? = some ((⟨n, [], 0⟩ : AF), Value.slice none 0 0) := by
      rw [HP2.out, List.getElem?_append_right (by omega), hkt, Nat.sub_self]; rfl
    exact (List.getElem?_eq_some_iff.1 this).2
  have HM2 : Hid (ps2.map Prod.fst = fs.take k ++ ⟨n, [], 0⟩ :: fs.drop k) := by rw [HP2.out, HF.out]; simp [Hid, List.map_take, List.map_drop]
  have HAT : Hid (atF (ps2.map Prod.fst) k ⟨ps2[k].1.name, ps2[k].1.bytes ++ b, ps2[k].1.safe⟩ = R) := by
    have hft : (fs.take k).length = k := by rw [List.length_take, HF.out, List.length_map]; omega
    rw [HM2.out, HG2.out, HJ.out]
    unfold atF
    rw [List.take_append_of_le_length (by omega), List.take_take, Nat.min_self, List.drop_append, hft, List.drop_eq_nil_of_le (by omega), show k + 1 - k = 1 by omega]
    rfl
  have HBL : Hid (∀ fv2 : Value, (∀ x, fv2.ownBlock = some x → fv.ownBlock = some x ∨ w.heap.size ≤ x) → ∀ x, Blk bd bs bc fv2 ps2 x → Blk bd bs bc fv ps x ∨ w.heap.size ≤ x) := fun fv2 hf x hx => by
    rw [HP2.out] at hx
    exact blk_put hf (fun y hy => by cases hy) x hx
  clear h hb hsa hT hD hN hA hB hs hi hkt hl2 hpl
  go_enter Tryd.func49, Tryd.ntmps49
  go_wp2_with fail
  go_region_held3 (fun w' => w'.cell? ⟨cD, 0, none⟩ = some (.pointer (some ⟨bd, 0, none⟩)) ∧ w'.cell? ⟨cN, 0, none⟩ = some (.string n) ∧ w'.cell? ⟨bd, 0, none⟩ = some (.pointer (some ⟨bs, 0, none⟩))) (first | exact HS1.out | exact ⟨eD, eN, e0⟩)
    (first | (go_at_call 50; refine Calls.mono HPUT.out ?_; rintro e w2 ⟨rfl, fv2, hS, hfb, hC⟩; have HS1 : Hid (w2.cell? ⟨cD, 0, none⟩ = some (.pointer (some ⟨bd, 0, none⟩)) ∧ w2.cell? ⟨cN, 0, none⟩ = some (.string n) ∧ w2.cell? ⟨bd, 0, none⟩ = some (.pointer (some ⟨bs, 0, none⟩))) := ⟨(Chg.cell hC l1 HFAR.out.1 0).trans eD, (Chg.cell hC l2 HFAR.out.2.1 0).trans eN, (Chg.cell hC l3 HFAR.out.2.2.1 0).trans e0⟩; have HS2 : Hid _ := hS; have HF2 : Hid _ := hfb; have HC2 : Hid _ := hC; clear hS hfb hC))
  have hCC : Chg (fun b => b = bs ∨ fv.ownBlock = some b) w w2 := ⟨HC2.out.os, HC2.out.tape, HC2.out.output, HC2.out.size, HC2.out.block⟩
  obtain ⟨g, cap, ao, l, cp, bo, bl, bcp, ao', L, cp', w', ⟨hfv, hnc, hsb⟩, ⟨dD, dA, dB, d0, s0, c1⟩, ⟨kD, kA, kB, kd, ks, kg⟩, kz, hr, hdid⟩ := app_pre HS2.out cD cA cB k hk2 sb b (Rd.chg HRB.out hCC HSA.out) (by rw [HG2.out]; simp; omega)
    ((hCC.block _ l1 HFAR.out.1).trans HD.out) ((hCC.block _ (Array.getElem?_eq_some_iff.1 HA.out).1 HFAR.out.2.2.2.1).trans HA.out) ((hCC.block _ (Array.getElem?_eq_some_iff.1 HB.out).1 HFAR.out.2.2.2.2).trans HB.out)
  have HHR : Hid _ := hr
  rw [HAT.out] at hdid
  have HDID : Hid _ := Did.trans (HBL.out fv2 HF2.out) (hCC.mono (fun i _ hi => hi.elim (fun h => .inr (.inl h)) (fun h => .inr (.inr (.inr (.inl h)))))) hdid
  have hkI : (k : Int) < (ps2.length : Int) := by omega
  clear hr hdid hfv hsb hCC
  go_wp2_with fail
  have hs0 : (fun w' => w'.cell? ⟨cD, 0, none⟩ = some (.pointer (some ⟨bd, 0, none⟩)) ∧ w'.cell? ⟨cA, 0, none⟩ = some (.int .i64 k) ∧ w'.cell? ⟨cB, 0, none⟩ = some (.slice bo bl bcp) ∧ w'.cell? ⟨bd, 0, none⟩ = some (.pointer (some ⟨bs, 0, none⟩)) ∧ w'.cell? ⟨bs, 0, none⟩ = some (.slice (some ⟨g, 0, none⟩) ps2.length cap) ∧ w'.cell? ⟨g, k * 3 + 1, none⟩ = some (.slice ao l cp)) w2.drew := ⟨dD, dA, dB, d0, s0, c1⟩
  refine wp_region_E 23 (fun w' => w'.cell? ⟨cD, 0, none⟩ = some (.pointer (some ⟨bd, 0, none⟩)) ∧ w'.cell? ⟨cA, 0, none⟩ = some (.int .i64 k) ∧ w'.cell? ⟨cB, 0, none⟩ = some (.slice bo bl bcp) ∧ w'.cell? ⟨bd, 0, none⟩ = some (.pointer (some ⟨bs, 0, none⟩)) ∧ w'.cell? ⟨bs, 0, none⟩ = some (.slice (some ⟨g, 0, none⟩) ps2.length cap) ∧ w'.cell? ⟨g, k * 3 + 1, none⟩ = some (.slice ao l cp)) mixed ?_
  refine wpAnyE_take 0 (oi := { dst := some 14, op := Go.Op.load 33 (Go.Operand.tmp 1), type := 33, pos := "disk.go:61", after := #[], guard := none }) (v := ?_) rfl (by kernel_rfl) (by kernel_rfl) (by kernel_rfl) (by kernel_rfl) (fun _ _ _ h => h) (Or.inl ⟨by rfl, ?_⟩) hs0 ?_
  rotate_left
  · intro u hu
    obtain ⟨u1, u2, u3, u4, u5, u6⟩ := hu
    go_simp
    try with_reducible rfl
  simp only [Act.put, List.setIfInBounds_toArray, List.set_cons_zero, List.set_cons_succ]
  refine wpAnyE_take 1 (oi := { dst := some 15, op := Go.Op.nilCheck (Go.Operand.tmp 14), type := 0, pos := "disk.go:61", after := #[{ on := 0, ground := Go.Ground.data }], guard := none }) (v := ?_) rfl (by kernel_rfl) (by kernel_rfl) (by kernel_rfl) (by kernel_rfl) (fun _ _ _ h => h) (Or.inl ⟨by rfl, ?_⟩) hs0 ?_
  rotate_left
  · intro u hu
    obtain ⟨u1, u2, u3, u4, u5, u6⟩ := hu
    go_simp
    try with_reducible rfl
  simp only [Act.put, List.setIfInBounds_toArray, List.set_cons_zero, List.set_cons_succ]
  refine wpAnyE_take 2 (oi := { dst := some 16, op := Go.Op.fieldAddr 49 (Go.Operand.tmp 15) 0, type := 0, pos := "disk.go:61", after := #[{ on := 1, ground := Go.Ground.data }], guard := none }) (v := ?_) rfl (by kernel_rfl) (by kernel_rfl) (by kernel_rfl) (by kernel_rfl) (fun _ _ _ h => h) (Or.inl ⟨by rfl, ?_⟩) hs0 ?_
  rotate_left
  · intro u hu
    obtain ⟨u1, u2, u3, u4, u5, u6⟩ := hu
    go_simp
    try with_reducible rfl
  simp only [Act.put, List.setIfInBounds_toArray, List.set_cons_zero, List.set_cons_succ]
  refine wpAnyE_take 3 (oi := { dst := some 17, op := Go.Op.load 47 (Go.Operand.tmp 16), type := 47, pos := "disk.go:61", after := #[{ on := 2, ground := Go.Ground.data }], guard := none }) (v := ?_) rfl (by kernel_rfl) (by kernel_rfl) (by kernel_rfl) (by kernel_rfl) (fun _ _ _ h => h) (Or.inl ⟨by rfl, ?_⟩) hs0 ?_
  rotate_left
  · intro u hu
    obtain ⟨u1, u2, u3, u4, u5, u6⟩ := hu
    go_simp
    try with_reducible rfl
  simp only [Act.put, List.setIfInBounds_toArray, List.set_cons_zero, List.set_cons_succ]
  refine wpAnyE_take 4 (oi := { dst := some 18, op := Go.Op.nilCheck (Go.Operand.tmp 17), type := 0, pos := "disk.go:61", after := #[{ on := 3, ground := Go.Ground.data }], guard := none }) (v := ?_) rfl (by kernel_rfl) (by kernel_rfl) (by kernel_rfl) (by kernel_rfl) (fun _ _ _ h => h) (Or.inl ⟨by rfl, ?_⟩) hs0 ?_
  rotate_left
  · intro u hu
    obtain ⟨u1, u2, u3, u4, u5, u6⟩ := hu
    go_simp
    try with_reducible rfl
  simp only [Act.put, List.setIfInBounds_toArray, List.set_cons_zero, List.set_cons_succ]
  refine wpAnyE_take 5 (oi := { dst := some 19, op := Go.Op.fieldAddr 80 (Go.Operand.tmp 18) 0, type := 0, pos := "disk.go:61", after := #[{ on := 4, ground := Go.Ground.data }], guard := none }) (v := ?_) rfl (by kernel_rfl) (by kernel_rfl) (by kernel_rfl) (by kernel_rfl) (fun _ _ _ h => h) (Or.inl ⟨by rfl, ?_⟩) hs0 ?_
  rotate_left
  · intro u hu
    obtain ⟨u1, u2, u3, u4, u5, u6⟩ := hu
    go_simp
    try with_reducible rfl
  simp only [Act.put, List.setIfInBounds_toArray, List.set_cons_zero, List.set_cons_succ]
  refine wpAnyE_take 6 (oi := { dst := some 20, op := Go.Op.load 77 (Go.Operand.tmp 19), type := 77, pos := "disk.go:61", after := #[{ on := 5, ground := Go.Ground.data }], guard := none }) (v := ?_) rfl (by kernel_rfl) (by kernel_rfl) (by kernel_rfl) (by kernel_rfl) (fun _ _ _ h => h) (Or.inl ⟨by rfl, ?_⟩) hs0 ?_
  rotate_left
  · intro u hu
    obtain ⟨u1, u2, u3, u4, u5, u6⟩ := hu
    go_simp
    try with_reducible rfl
  simp only [Act.put, List.setIfInBounds_toArray, List.set_cons_zero, List.set_cons_succ]
  refine wpAnyE_take 7 (oi := { dst := some 21, op := Go.Op.load 3 (Go.Operand.tmp 3), type := 3, pos := "disk.go:61", after := #[], guard := none }) (v := ?_) rfl (by kernel_rfl) (by kernel_rfl) (by kernel_rfl) (by kernel_rfl) (fun _ _ _ h => h) (Or.inl ⟨by rfl, ?_⟩) hs0 ?_
  rotate_left
  · intro u hu
    obtain ⟨u1, u2, u3, u4, u5, u6⟩ := hu
    go_simp
    try with_reducible rfl
  simp only [Act.put, List.setIfInBounds_toArray, List.set_cons_zero, List.set_cons_succ]
  refine wpAnyE_take 8 (oi := { dst := some 22, op := Go.Op.load 33 (Go.Operand.tmp 1), type := 33, pos := "disk.go:61", after := #[], guard := none }) (v := ?_) rfl (by kernel_rfl) (by kernel_rfl) (by kernel_rfl) (by kernel_rfl) (fun _ _ _ h => h) (Or.inl ⟨by rfl, ?_⟩) hs0 ?_
  rotate_left
  · intro u hu
    obtain ⟨u1, u2, u3, u4, u5, u6⟩ := hu
    go_simp
    try with_reducible rfl
  simp only [Act.put, List.setIfInBounds_toArray, List.set_cons_zero, List.set_cons_succ]
  refine wpAnyE_take 9 (oi := { dst := some 23, op := Go.Op.nilCheck (Go.Operand.tmp 22), type := 0, pos := "disk.go:61", after := #[{ on := 8, ground := Go.Ground.data }], guard := none }) (v := ?_) rfl (by kernel_rfl) (by kernel_rfl) (by kernel_rfl) (by kernel_rfl) (fun _ _ _ h => h) (Or.inl ⟨by rfl, ?_⟩) hs0 ?_
  rotate_left
  · intro u hu
    obtain ⟨u1, u2, u3, u4, u5, u6⟩ := hu
    go_simp
    try with_reducible rfl
  simp only [Act.put, List.setIfInBounds_toArray, List.set_cons_zero, List.set_cons_succ]
  refine wpAnyE_take 10 (oi := { dst := some 24, op := Go.Op.fieldAddr 49 (Go.Operand.tmp 23) 0, type := 0, pos := "disk.go:61", after := #[{ on := 9, ground := Go.Ground.data }], guard := none }) (v := ?_) rfl (by kernel_rfl) (by kernel_rfl) (by kernel_rfl) (by kernel_rfl) (fun _ _ _ h => h) (Or.inl ⟨by rfl, ?_⟩) hs0 ?_
  rotate_left
  · intro u hu
    obtain ⟨u1, u2, u3, u4, u5, u6⟩ := hu
    go_simp
    try with_reducible rfl
  simp only [Act.put, List.setIfInBounds_toArray, List.set_cons_zero, List.set_cons_succ]
  refine wpAnyE_take 11 (oi := { dst := some 25, op := Go.Op.load 47 (Go.Operand.tmp 24), type := 47, pos := "disk.go:61", after := #[{ on := 10, ground := Go.Ground.data }], guard := none }) (v := ?_) rfl (by kernel_rfl) (by kernel_rfl) (by kernel_rfl) (by kernel_rfl) (fun _ _ _ h => h) (Or.inl ⟨by rfl, ?_⟩) hs0 ?_
  rotate_left
  · intro u hu
    obtain ⟨u1, u2, u3, u4, u5, u6⟩ := hu
    go_simp
    try with_reducible rfl
  simp only [Act.put, List.setIfInBounds_toArray, List.set_cons_zero, List.set_cons_succ]
  refine wpAnyE_take 12 (oi := { dst := some 26, op := Go.Op.nilCheck (Go.Operand.tmp 25), type := 0, pos := "disk.go:61", after := #[{ on := 11, ground := Go.Ground.data }], guard := none }) (v := ?_) rfl (by kernel_rfl) (by kernel_rfl) (by kernel_rfl) (by kernel_rfl) (fun _ _ _ h => h) (Or.inl ⟨by rfl, ?_⟩) hs0 ?_
  rotate_left
  · intro u hu
    obtain ⟨u1, u2, u3, u4, u5, u6⟩ := hu
    go_simp
    try with_reducible rfl
  simp only [Act.put, List.setIfInBounds_toArray, List.set_cons_zero, List.set_cons_succ]
  refine wpAnyE_take 13 (oi := { dst := some 27, op := Go.Op.fieldAddr 80 (Go.Operand.tmp 26) 0, type := 0, pos := "disk.go:61", after := #[{ on := 12, ground := Go.Ground.data }], guard := none }) (v := ?_) rfl (by kernel_rfl) (by kernel_rfl) (by kernel_rfl) (by kernel_rfl) (fun _ _ _ h => h) (Or.inl ⟨by rfl, ?_⟩) hs0 ?_
  rotate_left
  · intro u hu
    obtain ⟨u1, u2, u3, u4, u5, u6⟩ := hu
    go_simp
    try with_reducible rfl
  simp only [Act.put, List.setIfInBounds_toArray, List.set_cons_zero, List.set_cons_succ]
  refine wpAnyE_take 14 (oi := { dst := some 28, op := Go.Op.load 77 (Go.Operand.tmp 27), type := 77, pos := "disk.go:61", after := #[{ on := 13, ground := Go.Ground.data }], guard := none }) (v := ?_) rfl (by kernel_rfl) (by kernel_rfl) (by kernel_rfl) (by kernel_rfl) (fun _ _ _ h => h) (Or.inl ⟨by rfl, ?_⟩) hs0 ?_
  rotate_left
  · intro u hu
    obtain ⟨u1, u2, u3, u4, u5, u6⟩ := hu
    go_simp
    try with_reducible rfl
  simp only [Act.put, List.setIfInBounds_toArray, List.set_cons_zero, List.set_cons_succ]
  refine wpAnyE_take 15 (oi := { dst := some 29, op := Go.Op.load 3 (Go.Operand.tmp 3), type := 3, pos := "disk.go:61", after := #[], guard := none }) (v := ?_) rfl (by kernel_rfl) (by kernel_rfl) (by kernel_rfl) (by kernel_rfl) (fun _ _ _ h => h) (Or.inl ⟨by rfl, ?_⟩) hs0 ?_
  rotate_left
  · intro u hu
    obtain ⟨u1, u2, u3, u4, u5, u6⟩ := hu
    go_simp
    try with_reducible rfl
  simp only [Act.put, List.setIfInBounds_toArray, List.set_cons_zero, List.set_cons_succ]
  refine wpAnyE_take 16 (oi := { dst := some 30, op := Go.Op.indexAddr 77 (Go.Operand.tmp 28) (Go.Operand.tmp 29), type := 0, pos := "disk.go:61", after := #[{ on := 14, ground := Go.Ground.data }, { on := 15, ground := Go.Ground.data }], guard := none }) (v := ?_) rfl (by kernel_rfl) (by kernel_rfl) (by kernel_rfl) (by kernel_rfl) (fun _ _ _ h => h) (Or.inl ⟨by rfl, ?_⟩) hs0 ?_
  rotate_left
  · intro u hu
    obtain ⟨u1, u2, u3, u4, u5, u6⟩ := hu
    go_simp
    try with_reducible rfl
  simp only [Act.put, List.setIfInBounds_toArray, List.set_cons_zero, List.set_cons_succ]
  refine wpAnyE_take 17 (oi := { dst := some 31, op := Go.Op.fieldAddr 84 (Go.Operand.tmp 30) 1, type := 0, pos := "disk.go:61", after := #[{ on := 16, ground := Go.Ground.data }], guard := none }) (v := ?_) rfl (by kernel_rfl) (by kernel_rfl) (by kernel_rfl) (by kernel_rfl) (fun _ _ _ h => h) (Or.inl ⟨by rfl, ?_⟩) hs0 ?_
  rotate_left
  · intro u hu
    obtain ⟨u1, u2, u3, u4, u5, u6⟩ := hu
    go_simp
    try with_reducible rfl
  simp only [Act.put, List.setIfInBounds_toArray, List.set_cons_zero, List.set_cons_succ]
  refine wpAnyE_take 18 (oi := { dst := some 32, op := Go.Op.load 22 (Go.Operand.tmp 31), type := 22, pos := "disk.go:61", after := #[{ on := 17, ground := Go.Ground.data }], guard := none }) (v := ?_) rfl (by kernel_rfl) (by kernel_rfl) (by kernel_rfl) (by kernel_rfl) (fun _ _ _ h => h) (Or.inl ⟨by rfl, ?_⟩) hs0 ?_
  rotate_left
  · intro u hu
    obtain ⟨u1, u2, u3, u4, u5, u6⟩ := hu
    go_simp
    try with_reducible rfl
  simp only [Act.put, List.setIfInBounds_toArray, List.set_cons_zero, List.set_cons_succ]
  refine wpAnyE_take 19 (oi := { dst := some 33, op := Go.Op.load 22 (Go.Operand.tmp 4), type := 22, pos := "disk.go:61", after := #[], guard := none }) (v := ?_) rfl (by kernel_rfl) (by kernel_rfl) (by kernel_rfl) (by kernel_rfl) (fun _ _ _ h => h) (Or.inl ⟨by rfl, ?_⟩) hs0 ?_
  rotate_left
  · intro u hu
    obtain ⟨u1, u2, u3, u4, u5, u6⟩ := hu
    go_simp
    try with_reducible rfl
  simp only [Act.put, List.setIfInBounds_toArray, List.set_cons_zero, List.set_cons_succ]
  refine wpAnyE_one (i := 20) (o := { dst := some 34, op := Go.Op.call { callee := Go.Callee.builtin Go.Builtin.append, args := #[Go.Operand.tmp 32, Go.Operand.tmp 33], argTypes := #[22, 22] }, type := 22, pos := "disk.go:61", after := #[{ on := 18, ground := Go.Ground.data }, { on := 19, ground := Go.Ground.data }], guard := none }) (by kernel_rfl) rfl (fun K hK => ?_)
  refine step_append_runI rfl (.tmp 32) (.tmp 33) 22 22 rfl (.slice ao l cp) (.slice bo bl bcp) (by simp [Act.eval]) (by simp [Act.eval]) HHR.out ?_
  refine hK _ _ (fun _ => ⟨kD, kA, kB, kd, ks, kg⟩) ?_
  clear hK K
  simp only [Act.put, List.setIfInBounds_toArray, List.set_cons_zero, List.set_cons_succ]
  refine wpAnyE_one (i := 21) (o := { dst := some 35, op := Go.Op.indexAddr 77 (Go.Operand.tmp 20) (Go.Operand.tmp 21), type := 0, pos := "disk.go:61", after := #[{ on := 6, ground := Go.Ground.data }, { on := 7, ground := Go.Ground.data }, { on := 0, ground := Go.Ground.phase }, { on := 1, ground := Go.Ground.phase }, { on := 2, ground := Go.Ground.phase }, { on := 3, ground := Go.Ground.phase }, { on := 4, ground := Go.Ground.phase }, { on := 5, ground := Go.Ground.phase }, { on := 6, ground := Go.Ground.phase }, { on := 7, ground := Go.Ground.phase }, { on := 8, ground := Go.Ground.phase }, { on := 9, ground := Go.Ground.phase }, { on := 10, ground := Go.Ground.phase }, { on := 11, ground := Go.Ground.phase }, { on := 12, ground := Go.Ground.phase }, { on := 13, ground := Go.Ground.phase }, { on := 14, ground := Go.Ground.phase }, { on := 15, ground := Go.Ground.phase }, { on := 16, ground := Go.Ground.phase }, { on := 17, ground := Go.Ground.phase }, { on := 18, ground := Go.Ground.phase }, { on := 19, ground := Go.Ground.phase }, { on := 20, ground := Go.Ground.phase }], guard := none }) (by kernel_rfl) rfl (fun K hK => ?_)
  go_simp
  refine hK _ _ (fun _ => ⟨kD, kA, kB, kd, ks, kg⟩) ?_
  clear hK K
  refine wpAnyE_take 22 (oi := { dst := some 36, op := Go.Op.fieldAddr 84 (Go.Operand.tmp 35) 1, type := 0, pos := "disk.go:61", after := #[{ on := 21, ground := Go.Ground.data }, { on := 0, ground := Go.Ground.phase }, { on := 1, ground := Go.Ground.phase }, { on := 2, ground := Go.Ground.phase }, { on := 3, ground := Go.Ground.phase }, { on := 4, ground := Go.Ground.phase }, { on := 5, ground := Go.Ground.phase }, { on := 6, ground := Go.Ground.phase }, { on := 7, ground := Go.Ground.phase }, { on := 8, ground := Go.Ground.phase }, { on := 9, ground := Go.Ground.phase }, { on := 10, ground := Go.Ground.phase }, { on := 11, ground := Go.Ground.phase }, { on := 12, ground := Go.Ground.phase }, { on := 13, ground := Go.Ground.phase }, { on := 14, ground := Go.Ground.phase }, { on := 15, ground := Go.Ground.phase }, { on := 16, ground := Go.Ground.phase }, { on := 17, ground := Go.Ground.phase }, { on := 18, ground := Go.Ground.phase }, { on := 19, ground := Go.Ground.phase }, { on := 20, ground := Go.Ground.phase }], guard := none }) (v := ?_) rfl (by kernel_rfl) (by kernel_rfl) (by kernel_rfl) (by kernel_rfl) (fun _ _ _ h => h) (Or.inl ⟨by rfl, ?_⟩) ⟨kD, kA, kB, kd, ks, kg⟩ ?_
  rotate_left
  · intro u hu
    obtain ⟨u1, u2, u3, u4, u5, u6⟩ := hu
    go_simp
    try with_reducible rfl
  simp only [Act.put, List.setIfInBounds_toArray, List.set_cons_zero, List.set_cons_succ]
  refine wpAnyE_one (i := 23) (o := { dst := none, op := Go.Op.store 22 (Go.Operand.tmp 36) (Go.Operand.tmp 34), type := 0, pos := "disk.go:61", after := #[{ on := 22, ground := Go.Ground.data }, { on := 20, ground := Go.Ground.data }, { on := 20, ground := Go.Ground.chain }, { on := 0, ground := Go.Ground.phase }, { on := 1, ground := Go.Ground.phase }, { on := 2, ground := Go.Ground.phase }, { on := 3, ground := Go.Ground.phase }, { on := 4, ground := Go.Ground.phase }, { on := 5, ground := Go.Ground.phase }, { on := 6, ground := Go.Ground.phase }, { on := 7, ground := Go.Ground.phase }, { on := 8, ground := Go.Ground.phase }, { on := 9, ground := Go.Ground.phase }, { on := 10, ground := Go.Ground.phase }, { on := 11, ground := Go.Ground.phase }, { on := 12, ground := Go.Ground.phase }, { on := 13, ground := Go.Ground.phase }, { on := 14, ground := Go.Ground.phase }, { on := 15, ground := Go.Ground.phase }, { on := 16, ground := Go.Ground.phase }, { on := 17, ground := Go.Ground.phase }, { on := 18, ground := Go.Ground.phase }, { on := 19, ground := Go.Ground.phase }, { on := 20, ground := Go.Ground.phase }], guard := none }) (by kernel_rfl) rfl (fun K hK => ?_)
  go_simp
  refine hK _ _ (fun h => absurd rfl h) ?_
  clear hK K
  refine wpAnyE_done (by kernel_rfl) ?_
  go_wp2
  go_returns
  exact ⟨rfl, HDID.out⟩
end Go.Proofs.YtffgbjojngnebaaDoor
namespace Go.Proofs.YtffgbjojngnebaaDoor
open Go.RowKit

set_option maxRecDepth 100000 in
set_option maxHeartbeats 4000000 in
theorem rename1 {w : World} {bd bs bc : Nat} {fv : Value} {ps : List (AF × Value)} {most : Nat} {fuse : Int} {dark : Bool} (h : St w bd bs bc fv ps most fuse dark) (hs : sorted (ps.map Prod.fst)) (hmax : ps.length ≤ 999) (cD cA cT k : Nat) (hk : k < ps.length) (n : ByteArray) (hn : n.size ≤ 1000)
    (hD : w.heap[cD]? = some (.cells #[.pointer (some ⟨bd, 0, none⟩)] 33 (0, 0))) (hA : w.heap[cA]? = some (.cells #[.int .i64 k] 3 (0, 0))) (hT : w.heap[cT]? = some (.cells #[.string n] 9 (0, 0))) :
    Calls Tryd.prog 94 #[.pointer (some ⟨cD, 0, none⟩), .pointer (some ⟨cA, 0, none⟩), .pointer (some ⟨cT, 0, none⟩)] w fun e w' => e = .returned (.tuple #[]) ∧
      Did w w' bd bs bc fv ps most fuse dark (putF (dropF (ps.map Prod.fst) k) ⟨n, ps[k].1.bytes, ps[k].1.safe⟩) := by
  have mixed : Tryd.prog.follows Departure.mixedOrders = true := by kernel_rfl
  have dD : w.cell? ⟨cD, 0, none⟩ = some (.pointer (some ⟨bd, 0, none⟩)) := by rw [cell_of hD]; rfl
  have dA : w.cell? ⟨cA, 0, none⟩ = some (.int .i64 k) := by rw [cell_of hA]; rfl
  have d0 := h.d0
  have s0 := h.s0
  have HST : Hid _ := h
  have hmem : ps[k] ∈ ps := List.getElem_mem hk
  obtain ⟨ao, cp, hsl, -⟩ := Own.rd (h.hb _ hmem)
  rcases fr_of h.hf with ⟨_, hx⟩ | ⟨g, cap, hfv, hbl, hnc, hcm, hc⟩
  · rw [hx] at hk; simp at hk
  obtain ⟨c0, c1, c2⟩ := hc k hk
  rw [hsl] at c1
  subst hfv
  have l1 : cD < w.heap.size := (Array.getElem?_eq_some_iff.1 hD).1
  have l2 : cA < w.heap.size := (Array.getElem?_eq_some_iff.1 hA).1
  have l3 := h.ltd
  have l4 : cT < w.heap.size := (Array.getElem?_eq_some_iff.1 hT).1
  have l5 := h.lts
  have HD : Hid _ := hD
  have HA : Hid _ := hA
  have HT : Hid _ := hT
  obtain ⟨nm, HNM⟩ := named ps[k].1.name
  obtain ⟨sl, HSL⟩ := named ps[k].1.bytes.length
  obtain ⟨sf, HSF⟩ := named ps[k].1.safe
  have HSV : Hid (ps[k].2 = .slice ao sl cp) := by rw [HSL.out]; exact hsl
  rw [← HNM.out] at c0
  rw [← HSL.out] at c1
  rw [← HSF.out] at c2
  have hs0 : w.drew.cell? ⟨cD, 0, none⟩ = some (.pointer (some ⟨bd, 0, none⟩)) ∧ w.drew.cell? ⟨cA, 0, none⟩ = some (.int .i64 k) ∧ w.drew.cell? ⟨bd, 0, none⟩ = some (.pointer (some ⟨bs, 0, none⟩)) ∧ w.drew.cell? ⟨bs, 0, none⟩ = some (.slice (some ⟨g, 0, none⟩) ps.length cap) ∧ w.drew.cell? ⟨g, k * 3, none⟩ = some (.string nm) ∧ w.drew.cell? ⟨g, k * 3 + 1, none⟩ = some (.slice ao sl cp) ∧ w.drew.cell? ⟨g, k * 3 + 2, none⟩ = some (.int .i64 sf) := ⟨dD, dA, d0, s0, c0, c1, c2⟩
  have HSB : Hid (∀ o : Obj, (w.alloc o).drew.cell? ⟨cD, 0, none⟩ = some (.pointer (some ⟨bd, 0, none⟩)) ∧ (w.alloc o).drew.cell? ⟨cA, 0, none⟩ = some (.int .i64 k) ∧ (w.alloc o).drew.cell? ⟨bd, 0, none⟩ = some (.pointer (some ⟨bs, 0, none⟩)) ∧ (w.alloc o).drew.cell? ⟨bs, 0, none⟩ = some (.slice (some ⟨g, 0, none⟩) ps.length cap) ∧ (w.alloc o).drew.cell? ⟨g, k * 3, none⟩ = some (.string nm) ∧ (w.alloc o).drew.cell? ⟨g, k * 3 + 1, none⟩ = some (.slice ao sl cp) ∧ (w.alloc o).drew.cell? ⟨g, k * 3 + 2, none⟩ = some (.int .i64 sf)) := fun o => by
    have hbo : Below w.heap.size w (w.alloc o).drew := ((Below.refl w.heap.size w).alloc (Nat.le_refl _) o).drew
    exact ⟨(hbo.cell (p := ⟨cD, 0, none⟩) l1).trans dD, (hbo.cell (p := ⟨cA, 0, none⟩) l2).trans dA, (hbo.cell (p := ⟨bd, 0, none⟩) l3).trans d0, (hbo.cell (p := ⟨bs, 0, none⟩) l5).trans s0, (hbo.cell (p := ⟨g, k * 3, none⟩) hbl).trans c0, (hbo.cell (p := ⟨g, k * 3 + 1, none⟩) hbl).trans c1, (hbo.cell (p := ⟨g, k * 3 + 2, none⟩) hbl).trans c2⟩
  obtain ⟨f, HFF⟩ := named (⟨n, ps[k].1.bytes, ps[k].1.safe⟩ : AF)
  rw [← HFF.out]
  obtain ⟨R, HR⟩ := named (putF (dropF (ps.map Prod.fst) k) f)
  rw [← HR.out]
  have HMX : Hid _ := hmax
  have HKK : Hid _ := hk
  have HSO : Hid _ := hs
  have HN : Hid _ := hn
  have hkI : (k : Int) < (ps.length : Int) := by omega
  clear h hc hsl hD hA hT hs hn hcm
  go_enter Tryd.func94, Tryd.ntmps94
  go_wp2_with fail
  go_region_held3 (fun w' => w'.cell? ⟨cD, 0, none⟩ = some (.pointer (some ⟨bd, 0, none⟩)) ∧ w'.cell? ⟨cA, 0, none⟩ = some (.int .i64 k) ∧ w'.cell? ⟨bd, 0, none⟩ = some (.pointer (some ⟨bs, 0, none⟩)) ∧ w'.cell? ⟨bs, 0, none⟩ = some (.slice (some ⟨g, 0, none⟩) ps.length cap) ∧ w'.cell? ⟨g, k * 3, none⟩ = some (.string nm) ∧ w'.cell? ⟨g, k * 3 + 1, none⟩ = some (.slice ao sl cp) ∧ w'.cell? ⟨g, k * 3 + 2, none⟩ = some (.int .i64 sf)) (first | exact HSB.out _ | exact hs0) (fail)
  clear hs0 HSB c0 c1 c2
  obtain ⟨w1, HW1⟩ := named (w.alloc (Obj.cells #[Value.string nm, Value.slice ao sl cp, Value.int IntKind.i64 sf] 84)).drew
  rw [← HW1.out]
  have hB1 : Below w.heap.size w w1 := by rw [HW1.out]; exact ((Below.refl w.heap.size w).alloc (Nat.le_refl _) _).drew
  have HX1 : Hid (w1.heap[w.heap.size]? = some (.cells #[Value.string nm, Value.slice ao sl cp, Value.int IntKind.i64 sf] 84 (0, 0))) := by rw [HW1.out]; exact heap_alloc_new w _
  have HS1 : Hid _ := HST.out.below hB1
  have hlx : w.heap.size < w1.heap.size := (Array.getElem?_eq_some_iff.1 HX1.out).1
  have d1D := (hB1.cell (p := ⟨cD, 0, none⟩) l1).trans dD
  have d1A := (hB1.cell (p := ⟨cA, 0, none⟩) l2).trans dA
  have d10 := (hB1.cell (p := ⟨bd, 0, none⟩) l3).trans d0
  have HB1 : Hid _ := hB1
  have HDR : Hid _ := drop_st (w := w1.drew) (HS1.out.heap fun _ _ => rfl) (Nat.le_trans HMX.out (by omega)) k HKK.out
  obtain ⟨ps2, HP2⟩ := named (ps.take k ++ ps.drop (k + 1))
  rw [← HP2.out] at HDR
  have HFAR : Hid (¬ (fun b => b = bs ∨ (Value.slice (some ⟨g, 0, none⟩) ps.length cap).ownBlock = some b) cD ∧ ¬ (fun b => b = bs ∨ (Value.slice (some ⟨g, 0, none⟩) ps.length cap).ownBlock = some b) cA ∧ ¬ (fun b => b = bs ∨ (Value.slice (some ⟨g, 0, none⟩) ps.length cap).ownBlock = some b) bd ∧ ¬ (fun b => b = bs ∨ (Value.slice (some ⟨g, 0, none⟩) ps.length cap).ownBlock = some b) cT ∧ ¬ (fun b => b = bs ∨ (Value.slice (some ⟨g, 0, none⟩) ps.length cap).ownBlock = some b) w.heap.size) :=
    ⟨elem_far HST.out HD.out (by decide) (by decide), elem_far HST.out HA.out (by decide) (by decide), elem_far HST.out HST.out.hd (by decide) (by decide), elem_far HST.out HT.out (by decide) (by decide), fun h => by
      rcases h with h | h
      · omega
      · have hh : g = w.heap.size := Option.some.inj h
        omega⟩
  have hz1 := hB1.size
  have L1 : cD < w1.heap.size := by omega
  have L2 : cA < w1.heap.size := by omega
  have L3 : bd < w1.heap.size := by omega
  have L4 : cT < w1.heap.size := by omega
  clear hB1 dD dA d0 s0
  go_wp2_with fail
  go_region_held3 (fun w' => w'.cell? ⟨cD, 0, none⟩ = some (.pointer (some ⟨bd, 0, none⟩)) ∧ w'.cell? ⟨cA, 0, none⟩ = some (.int .i64 k) ∧ w'.cell? ⟨bd, 0, none⟩ = some (.pointer (some ⟨bs, 0, none⟩))) (first | exact HSX.out | exact ⟨d1D, d1A, d10⟩)
    (first | (go_at_call 68; refine Calls.mono HDR.out ?_; rintro e w2 ⟨rfl, fv2, hS, hfb, hC⟩; have HSX : Hid (w2.cell? ⟨cD, 0, none⟩ = some (.pointer (some ⟨bd, 0, none⟩)) ∧ w2.cell? ⟨cA, 0, none⟩ = some (.int .i64 k) ∧ w2.cell? ⟨bd, 0, none⟩ = some (.pointer (some ⟨bs, 0, none⟩))) := ⟨(Chg.cell hC L1 HFAR.out.1 0).trans d1D, (Chg.cell hC L2 HFAR.out.2.1 0).trans d1A, (Chg.cell hC L3 HFAR.out.2.2.1 0).trans d10⟩; have HS2 : Hid _ := hS; have HF2 : Hid _ := hfb; have HC2 : Hid _ := hC; clear hS hfb hC))
  have hC2 : Chg (fun b => b = bs ∨ (Value.slice (some ⟨g, 0, none⟩) ps.length cap).ownBlock = some b) w1 w2 := ⟨HC2.out.os, HC2.out.tape, HC2.out.output, HC2.out.size, HC2.out.block⟩
  have HX2 : Hid (w2.heap[w.heap.size]? = some (.cells #[Value.string nm, Value.slice ao sl cp, Value.int IntKind.i64 sf] 84 (0, 0))) := (hC2.block _ hlx HFAR.out.2.2.2.2).trans HX1.out
  have HT2 : Hid (w2.heap[cT]? = some (.cells #[.string n] 9 (0, 0))) := ((hC2.block _ L4 HFAR.out.2.2.2.1).trans (HB1.out.block _ l4)).trans HT.out
  have hz2 := hC2.size
  have dT2 : w2.cell? ⟨cT, 0, none⟩ = some (.string n) := by rw [cell_of HT2.out]; rfl
  have x20 : w2.cell? ⟨w.heap.size, 0, none⟩ = some (.string nm) := by rw [cell_of HX2.out]; rfl
  have z20 : w2.frozen? ⟨w.heap.size, 0, none⟩ = false := frozen_of HX2.out 0
  have HNX : Hid (∀ b, Blk bd bs bc fv2 ps2 b → b ≠ w.heap.size) := by
    rintro b hb rfl
    have hlt : ∀ x, Blk bd bs bc (.slice (some ⟨g, 0, none⟩) ps.length cap) ps x → x < w.heap.size := fun x hx => HST.out.lt x hx
    rcases hb with h | h | h | h | ⟨p, hp, h⟩
    · have := hlt _ (.inl h); omega
    · have := hlt _ (.inr (.inl h)); omega
    · have := hlt _ (.inr (.inr (.inl h))); omega
    · have := hlt _ (.inr (.inr (.inr (.inl (HF2.out.symm.trans h))))); omega
    · rw [HP2.out] at hp
      have := hlt _ (.inr (.inr (.inr (.inr ⟨p, (List.mem_append.1 hp).elim List.mem_of_mem_take List.mem_of_mem_drop, h⟩)))); omega
  have HOW2 : Hid (Own w2 0 (.slice ao sl cp) f.bytes) := by
    have h0 : Own w 0 (.slice ao sl cp) f.bytes := by
      have := HST.out.hb _ (List.getElem_mem HKK.out)
      rw [HSV.out] at this
      rw [HFF.out]
      exact this
    refine Own.heap h0 fun a ha => ?_
    have hlt := (World.ownsRow.lt h0 a ha).2
    have hne := HST.out.by_ne h0 ha
    rw [hC2.block a (by omega) (fun h => by
      rcases h with h | h
      · exact hne.2.1 h
      · exact hne.2.2.2 h), HB1.out.block a hlt]
  have HAP2 : Hid (∀ p ∈ ps2, Apart p.2 (.slice ao sl cp)) := by
    rw [HP2.out, ← HSV.out]
    exact apart_at HST.out.hp k HKK.out
  have HSO2 : Hid (sorted (ps2.map Prod.fst)) := by rw [HP2.out, map_dropF]; exact sorted_dropF HSO.out k
  have HL2 : Hid (ps2.length ≤ 999) := by
    rw [HP2.out]
    have := HMX.out
    simp only [Hid, List.length_append, List.length_take, List.length_drop]
    omega
  have HR2 : Hid (R = putF (ps2.map Prod.fst) f) := by rw [HR.out, HP2.out, map_dropF]; rfl
  have HCC : Hid (Chg (Blk bd bs bc (.slice (some ⟨g, 0, none⟩) ps.length cap) ps) w w2) := (Chg.ofBelow HB1.out _).trans hC2 (fun i _ hi => hi.elim (fun h => .inr (.inl h)) (fun h => .inr (.inr (.inr (.inl h)))))
  clear hC2 d1D d1A d10
  go_upto_region 3 with fail
  obtain ⟨w3, HW3⟩ := named (w2.setCell ⟨w.heap.size, 0, none⟩ (.string n))
  rw [← HW3.out]
  have HS3 : Hid (St w3 bd bs bc fv2 ps2 most fuse dark) := by
    rw [HW3.out]
    exact HS2.out.heap fun b hb => Below.heap_setCell _ _ _ _ (HNX.out b hb)
  have HX3 : Hid (w3.heap[w.heap.size]? = some (.cells #[Value.string n, Value.slice ao sl cp, Value.int IntKind.i64 sf] 84 (0, 0))) := by rw [HW3.out, heap_set HX2.out]; rfl
  have HO3 : Hid (Own w3 0 (.slice ao sl cp) f.bytes) := by
    rw [HW3.out]
    exact Own.heap HOW2.out fun a ha => Below.heap_setCell _ _ _ _ (by
      obtain ⟨c, hc⟩ := row_elem HOW2.out ha
      exact ne_of_elem hc HX2.out (by decide))
  have HC3 : Hid (Chg (Blk bd bs bc (.slice (some ⟨g, 0, none⟩) ps.length cap) ps) w w3) := by rw [HW3.out]; exact HCC.out.setCell (.inr (Nat.le_refl _)) _
  have e3D : w3.cell? ⟨cD, 0, none⟩ = some (.pointer (some ⟨bd, 0, none⟩)) := by rw [HW3.out, cell_other _ _ _ _ _ _ (.inl (by omega))]; exact HSX.out.1
  have e30 : w3.cell? ⟨bd, 0, none⟩ = some (.pointer (some ⟨bs, 0, none⟩)) := HS3.out.d0
  have x30 : w3.cell? ⟨w.heap.size, 0, none⟩ = some (.string n) := by rw [cell_of HX3.out]; rfl
  have x31 : w3.cell? ⟨w.heap.size, 1, none⟩ = some (.slice ao sl cp) := by rw [cell_of HX3.out]; rfl
  have x32 : w3.cell? ⟨w.heap.size, 2, none⟩ = some (.int .i64 sf) := by rw [cell_of HX3.out]; rfl
  have HPUT : Hid _ := put_st (w := w3.drew) (HS3.out.heap fun _ _ => rfl) HSO2.out HL2.out f (.slice ao sl cp) HO3.out HAP2.out (by rw [HFF.out]; exact HN.out)
  have HM : Hid _ := map_putF ps2 f (.slice ao sl cp)
  rw [← HR2.out] at HM
  have hfn : f.name = n := by rw [HFF.out]
  have hfs : f.safe = sf := by rw [HFF.out, HSF.out]
  rw [hfs] at HPUT
  rw [show (Value.string f.name) = .string n by rw [hfn]] at HPUT
  have L5 : cD < w3.heap.size := World.block_lt_of_cell? _ _ e3D
  have L6 : bd < w3.heap.size := World.block_lt_of_cell? _ _ e30
  have L7 : w.heap.size < w3.heap.size := World.block_lt_of_cell? _ _ x30
  have HFR : Hid (¬ (fun b => b = bs ∨ fv2.ownBlock = some b) cD ∧ ¬ (fun b => b = bs ∨ fv2.ownBlock = some b) bd ∧ ¬ (fun b => b = bs ∨ fv2.ownBlock = some b) w.heap.size) := by
    rw [HF2.out]
    exact ⟨HFAR.out.1, HFAR.out.2.2.1, HFAR.out.2.2.2.2⟩
  clear dT2 x20 z20 hfn hfs
  go_region_held3 (fun w' => w'.cell? ⟨cD, 0, none⟩ = some (.pointer (some ⟨bd, 0, none⟩)) ∧ w'.cell? ⟨bd, 0, none⟩ = some (.pointer (some ⟨bs, 0, none⟩)) ∧ w'.cell? ⟨w.heap.size, 0, none⟩ = some (.string n) ∧ w'.cell? ⟨w.heap.size, 1, none⟩ = some (.slice ao sl cp) ∧ w'.cell? ⟨w.heap.size, 2, none⟩ = some (.int .i64 sf)) (first | exact HSY.out | exact ⟨e3D, e30, x30, x31, x32⟩)
    (first | (go_at_call 50; refine Calls.mono HPUT.out ?_; rintro e w4 ⟨rfl, fv4, hS, hfb, hC⟩; have HSY : Hid (w4.cell? ⟨cD, 0, none⟩ = some (.pointer (some ⟨bd, 0, none⟩)) ∧ w4.cell? ⟨bd, 0, none⟩ = some (.pointer (some ⟨bs, 0, none⟩)) ∧ w4.cell? ⟨w.heap.size, 0, none⟩ = some (.string n) ∧ w4.cell? ⟨w.heap.size, 1, none⟩ = some (.slice ao sl cp) ∧ w4.cell? ⟨w.heap.size, 2, none⟩ = some (.int .i64 sf)) := ⟨(Chg.cell hC L5 HFR.out.1 0).trans e3D, (Chg.cell hC L6 HFR.out.2.1 0).trans e30, (Chg.cell hC L7 HFR.out.2.2 0).trans x30, (Chg.cell hC L7 HFR.out.2.2 1).trans x31, (Chg.cell hC L7 HFR.out.2.2 2).trans x32⟩; have HS4 : Hid _ := hS; have HF4 : Hid _ := hfb; have HC4 : Hid _ := hC; clear hS hfb hC))
  go_wp2
  go_returns
  have hb2 : ∀ b, Blk bd bs bc fv2 ps2 b → Blk bd bs bc (.slice (some ⟨g, 0, none⟩) ps.length cap) ps b := by
    rintro b (h | h | h | h | ⟨p, hp, h⟩)
    · exact .inl h
    · exact .inr (.inl h)
    · exact .inr (.inr (.inl h))
    · exact .inr (.inr (.inr (.inl (HF2.out.symm.trans h))))
    · rw [HP2.out] at hp
      exact .inr (.inr (.inr (.inr ⟨p, (List.mem_append.1 hp).elim List.mem_of_mem_take List.mem_of_mem_drop, h⟩)))
  have hC4 : Chg (fun b => b = bs ∨ fv2.ownBlock = some b) w3 w4 := ⟨HC4.out.os, HC4.out.tape, HC4.out.output, HC4.out.size, HC4.out.block⟩
  refine ⟨rfl, fv4, _, HS4.out, HM.out, fun b hb => ?_, HC3.out.trans hC4 (fun i _ hi => hb2 i (hi.elim (fun h => .inr (.inl h)) (fun h => .inr (.inr (.inr (.inl h))))))⟩
  have hz3 := HC3.out.size
  rcases hb with h | h | h | h | ⟨p, hp, h⟩
  · exact .inl (.inl h)
  · exact .inl (.inr (.inl h))
  · exact .inl (.inr (.inr (.inl h)))
  · rcases HF4.out b h with h | h
    · exact .inl (hb2 b (.inr (.inr (.inr (.inl h)))))
    · exact .inr (Nat.le_trans hz3 h)
  · rcases mem_put hp with rfl | hp
    · exact .inl (.inr (.inr (.inr (.inr ⟨_, List.getElem_mem HKK.out, by rw [HSV.out]; exact h⟩))))
    · exact .inl (hb2 b (.inr (.inr (.inr (.inr ⟨p, hp, h⟩)))))
end Go.Proofs.YtffgbjojngnebaaDoor
