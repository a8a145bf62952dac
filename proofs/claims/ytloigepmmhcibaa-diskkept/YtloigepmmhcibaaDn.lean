/-
  The contracts of Rename's and Append's closures. Own work.
-/
import Derived.Test.YtloigepmmhcibaaDm
import Derived.Test.YtloigepmmhcibaaOrd
namespace Go.Proofs.Ytloigepmmhcibaa
open Go.RowKit

theorem run_append_rd' {P : Program} (w : World) (t ty : TypeId) (i : TypeInfo) (ht : P.underlying t = some (.slice 5)) (hi : P.info? 5 = some i) (hz : i.zero = some (.int .u8 0)) (h1 : i.size = 1) (h2 : i.bytes = 1)
    (base : Nat) (v s : Value) (l m : List UInt8) (hown : Own w base v l) (hs : Rd w s m) (hlen : l.length + m.length ≤ 140737488355328) (hbase : base ≤ w.heap.size) :
    ∃ v' w', (Builtin.append_ #[t, t] ty #[v, s]).run P w = .ok v' w' ∧ Own w' base v' (l ++ m) ∧ w.grownBy w' v.ownBlock ∧ (v'.ownBlock = v.ownBlock ∨ v'.ownBlock = some w.heap.size) := by
  have hmax : l.length + m.length ≤ maxLen := by unfold maxLen; omega
  obtain ⟨ao, cap, rfl, h3, h4, h5, h6⟩ := hs
  cases ao with
  | none =>
    have hc := h5 rfl
    subst hc
    have hm : m = [] := List.eq_nil_of_length_eq_zero (by omega)
    subst hm
    refine ⟨v, w, run_append_owned_none (P := P) (w := w) base t ty 5 i 1 ht hi v l.length (BV l) hown, by simpa using hown, World.grownBy.refl _ _, .inl rfl⟩
  | some a =>
    obtain ⟨v', w', hr, ho, hg, hb⟩ := run_append_own' (P := P) w base t ty 5 i (.int .u8 0) 1 1 ht hi hz h1 h2 rfl (by decide) v l.length (BV l) hown a m.length cap (BV m) (by simp [BV_length])
      (fun j u hj => by obtain ⟨hj', rfl⟩ := BV_get hj; exact h6 a rfl j hj') (BV_one m) hmax (by omega) hbase
    refine ⟨v', w', hr, ?_, hg, hb⟩
    unfold Own
    rw [BV_append, List.length_append]
    exact ho

/-- a file's bytes are others, in the same block or in a new one -/
theorem St.bytes {w w' : World} {bd bs bc g cap : Nat} {ps : List (AF × Value)} {most : Nat} {fuse : Int} {dark : Bool} (h : St w bd bs bc (.slice (some ⟨g, 0, none⟩) ps.length cap) ps most fuse dark) (k : Nat) (hk : k < ps.length) (v' : Value) (b' : List UInt8)
    (hg : w.grownBy w' ps[k].2.ownBlock) (ho : Own w' 0 v' b') (hb : v'.ownBlock = ps[k].2.ownBlock ∨ v'.ownBlock = some w.heap.size) :
    St (w'.setCell ⟨g, k * 3 + 1, none⟩ v') bd bs bc (.slice (some ⟨g, 0, none⟩) ps.length cap) (ps.take k ++ (⟨ps[k].1.name, b', ps[k].1.safe⟩, v') :: ps.drop (k + 1)) most fuse dark := by
  have hmem : ps[k] ∈ ps := List.getElem_mem hk
  have hne : ∀ a, (a = bd ∨ a = bs ∨ a = bc ∨ a = g) → some a ≠ ps[k].2.ownBlock := by
    rintro a ha e
    obtain ⟨m1, m2, m3, m4⟩ := h.by_ne (h.hb _ hmem) e.symm
    rcases ha with rfl | rfl | rfl | rfl
    · exact m1 rfl
    · exact m2 rfl
    · exact m3 rfl
    · exact m4 rfl
  have hoth : ∀ p ∈ ps.take k ++ ps.drop (k + 1), ∀ a, p.2.ownBlock = some a → some a ≠ ps[k].2.ownBlock := fun p hp a ha e => apart_at h.hp k hk p hp a ha e.symm
  have hmo : ∀ p ∈ ps.take k ++ ps.drop (k + 1), p ∈ ps := fun p hp => (List.mem_append.1 hp).elim List.mem_of_mem_take List.mem_of_mem_drop
  have hgl : g < w.heap.size := h.lt g (.inr (.inr (.inr (.inl rfl))))
  have hrow : w'.ownsRow 0 83 3 (.slice (some ⟨g, 0, none⟩) ps.length cap) ps.length (cellsOf ps) := rowHeap h.hf fun a ha => by
    cases ha
    exact hg.block g hgl (hne g (.inr (.inr (.inr rfl))))
  obtain ⟨o1, g1⟩ := World.ownsRow.stored hrow (k * 3 + 1) v'
  rw [cellsOf_set1 ps k hk v' b'] at o1
  have hx : ∀ a, a ≠ g → (w'.setCell ⟨g, k * 3 + 1, none⟩ v').heap[a]? = w'.heap[a]? := fun a ha => Below.heap_setCell _ _ _ _ ha
  obtain ⟨f1, f2, f3, _⟩ := h.fv_ne (a := g) rfl
  obtain ⟨c', hc'⟩ := row_elem hrow (a := g) rfl
  refine ⟨?_, ?_, ?_, ?_, fun p hp => ?_, ?_⟩
  · rw [hx _ (Ne.symm f1), hg.block bd h.ltd (hne bd (.inl rfl))]; exact h.hd
  · rw [hx _ (Ne.symm f2), hg.block bs h.lts (hne bs (.inr (.inl rfl)))]; exact h.hs
  · rw [hx _ (Ne.symm f3), hg.block bc h.ltc (hne bc (.inr (.inr (.inl rfl))))]; exact h.hc
  · rw [put_len ps k hk]; exact o1
  · have key : p = (⟨ps[k].1.name, b', ps[k].1.safe⟩, v') ∨ p ∈ ps.take k ++ ps.drop (k + 1) := by
      rcases List.mem_append.1 hp with h | h
      · exact .inr (List.mem_append_left _ h)
      · rcases List.mem_cons.1 h with h | h
        · exact .inl h
        · exact .inr (List.mem_append_right _ h)
    rcases key with rfl | hp
    · exact Own.heap ho fun a ha => hx a (by
        obtain ⟨c, hc⟩ := row_elem ho ha
        exact ne_of_elem hc hc' (by decide))
    · refine Own.heap (h.hb p (hmo p hp)) fun a ha => ?_
      obtain ⟨m1, m2, m3, m4⟩ := h.by_ne (h.hb p (hmo p hp)) ha
      rw [hx a (fun e => m4 (by rw [e]; rfl)), hg.block a (World.ownsRow.lt (h.hb p (hmo p hp)) a ha).2 (hoth p hp a ha)]
  · refine pair_put h.hp k (k + 1) (by omega) _ fun p hp a ha hv => ?_
    rcases hb with e | e
    · exact hoth p hp a ha (hv.symm.trans e)
    · rw [e] at hv
      cases hv
      have := (World.ownsRow.lt (h.hb p (hmo p hp)) _ ha).2
      omega

theorem map_putF (ps : List (AF × Value)) (f : AF) (v : Value) :
    (ps.take (posF (ps.map Prod.fst) f.name) ++ (f, v) :: ps.drop (if isF (ps.map Prod.fst) f.name then posF (ps.map Prod.fst) f.name + 1 else posF (ps.map Prod.fst) f.name)).map Prod.fst = putF (ps.map Prod.fst) f := by
  simp [putF, List.map_take, List.map_drop]

theorem app_pre {w : World} {bd bs bc : Nat} {fv : Value} {ps : List (AF × Value)} {most : Nat} {fuse : Int} {dark : Bool} (h : St w bd bs bc fv ps most fuse dark) (cD cA cB k : Nat) (hk : k < ps.length) (sb : Value) (b : List UInt8) (hb : Rd w sb b) (hsm : ps[k].1.bytes.length + b.length ≤ 100000000)
    (hD : w.heap[cD]? = some (.cells #[.pointer (some ⟨bd, 0, none⟩)] 23 (0, 0))) (hA : w.heap[cA]? = some (.cells #[.int .i64 k] 3 (0, 0))) (hB : w.heap[cB]? = some (.cells #[sb] 30 (0, 0))) :
    ∃ (g cap : Nat) (ao : Option Addr) (l cp : Nat) (bo : Option Addr) (bl bcp : Nat) (ao' : Option Addr) (L cp' : Nat) (w' : World), (fv = .slice (some ⟨g, 0, none⟩) ps.length cap ∧ ps.length ≤ cap ∧ sb = .slice bo bl bcp) ∧
      (w.cell? ⟨cD, 0, none⟩ = some (.pointer (some ⟨bd, 0, none⟩)) ∧ w.cell? ⟨cA, 0, none⟩ = some (.int .i64 k) ∧ w.cell? ⟨cB, 0, none⟩ = some (.slice bo bl bcp) ∧ w.cell? ⟨bd, 0, none⟩ = some (.pointer (some ⟨bs, 0, none⟩)) ∧ w.cell? ⟨bs, 0, none⟩ = some (.slice (some ⟨g, 0, none⟩) ps.length cap) ∧ w.cell? ⟨g, k * 3 + 1, none⟩ = some (.slice ao l cp)) ∧
      (w'.cell? ⟨cD, 0, none⟩ = some (.pointer (some ⟨bd, 0, none⟩)) ∧ w'.cell? ⟨cA, 0, none⟩ = some (.int .i64 k) ∧ w'.cell? ⟨cB, 0, none⟩ = some (.slice bo bl bcp) ∧ w'.cell? ⟨bd, 0, none⟩ = some (.pointer (some ⟨bs, 0, none⟩)) ∧ w'.cell? ⟨bs, 0, none⟩ = some (.slice (some ⟨g, 0, none⟩) ps.length cap) ∧ w'.cell? ⟨g, k * 3 + 1, none⟩ = some (.slice ao l cp)) ∧
      w'.frozen? ⟨g, k * 3 + 1, none⟩ = false ∧
      (Builtin.append_ #[30, 30] 30 #[.slice ao l cp, .slice bo bl bcp]).run Try.prog w.drew = .ok (.slice ao' L cp') w' ∧
      Did w (w'.setCell ⟨g, k * 3 + 1, none⟩ (.slice ao' L cp')) bd bs bc fv ps most fuse dark (atF (ps.map Prod.fst) k ⟨ps[k].1.name, ps[k].1.bytes ++ b, ps[k].1.safe⟩) := by
  obtain ⟨i0, hinf, hz0, hz1, hz2⟩ := info_parts Try.info5
  have hmem : ps[k] ∈ ps := List.getElem_mem hk
  obtain ⟨ao, cp, hsl, -⟩ := Own.rd (h.hb _ hmem)
  obtain ⟨bo, bcp, hsb, -⟩ := id hb
  obtain ⟨v', w', hr, ho, hg, hblk⟩ := run_append_rd' (P := Try.prog) w.drew 30 30 i0 Try.underlying30 hinf hz0 hz1 hz2 0 ps[k].2 sb ps[k].1.bytes b (h.hb _ hmem) hb (by omega) (Nat.zero_le _)
  rcases fr_of h.hf with ⟨_, hx⟩ | ⟨g, cap, hfv, hbl, hnc, hcm, hc⟩
  · rw [hx] at hk; simp at hk
  obtain ⟨c0, c1, c2⟩ := hc k hk
  subst hfv
  have hgrow : w.grownBy w' ps[k].2.ownBlock := ⟨hg.os, hg.tape, hg.output, hg.size, hg.block⟩
  have hS2 := h.bytes k hk v' (ps[k].1.bytes ++ b) hgrow ho hblk
  obtain ⟨cur, hgg⟩ := row_elem h.hf (a := g) rfl
  have hnel : ∀ (x : Nat) (c : Array Value) (e : TypeId), w.heap[x]? = some (Obj.cells c e (0, 0)) → e ≠ 5 → w'.heap[x]? = w.heap[x]? := fun x c e hx he => hgrow.block x (Array.getElem?_eq_some_iff.1 hx).1 (fun e2 => by
    obtain ⟨c', hc'⟩ := row_elem (h.hb _ hmem) e2.symm
    exact ne_of_elem hx hc' he rfl)
  obtain ⟨ao', cp', hv', -⟩ := Own.rd ho
  rw [hsl] at c1 hr
  rw [hsb] at hr
  rw [hv'] at hr hS2
  have eg := hnel g _ _ hgg (by decide)
  refine ⟨g, cap, ao, ps[k].1.bytes.length, cp, bo, b.length, bcp, ao', (ps[k].1.bytes ++ b).length, cp', w', ⟨rfl, hnc, hsb⟩, ⟨?_, ?_, ?_, h.d0, h.s0, c1⟩, ⟨?_, ?_, ?_, ?_, ?_, ?_⟩, ?_, hr, _, _, hS2, map_atF ps k _ _, blk_put (fun b hb => .inl hb) ?_, ?_⟩
  · rw [cell_of hD]; rfl
  · rw [cell_of hA]; rfl
  · rw [cell_of hB, hsb]; rfl
  · rw [cell_of ((hnel cD _ _ hD (by decide)).trans hD)]; rfl
  · rw [cell_of ((hnel cA _ _ hA (by decide)).trans hA)]; rfl
  · rw [cell_of ((hnel cB _ _ hB (by decide)).trans hB), hsb]; rfl
  · rw [cell_of ((hnel bd _ _ h.hd (by decide)).trans h.hd)]; rfl
  · rw [cell_of ((hnel bs _ _ h.hs (by decide)).trans h.hs)]; rfl
  · exact (World.cell?_of_block (w := w) (a := ⟨g, k * 3 + 1, none⟩) eg).trans c1
  · exact frozen_of (eg.trans hgg) _
  · intro x hx
    rw [← hv'] at hx
    rcases hblk with e | e
    · exact .inl ⟨_, hmem, e.symm.trans hx⟩
    · rw [e] at hx; cases hx; exact .inr (Nat.le_refl _)
  · exact ((Chg.refl _ w).grown hgrow fun x hx => .inl (.inr (.inr (.inr (.inr ⟨_, hmem, hx⟩))))).setCell (p := ⟨g, k * 3 + 1, none⟩) (.inl (.inr (.inr (.inr (.inl rfl))))) _

set_option maxRecDepth 100000 in
set_option maxHeartbeats 4000000 in
theorem append1_at {w : World} {bd bs bc : Nat} {fv : Value} {ps : List (AF × Value)} {most : Nat} {fuse : Int} {dark : Bool} (h : St w bd bs bc fv ps most fuse dark) (cT cD cN cA cB k : Nat) (hk : k < ps.length) (sb : Value) (b : List UInt8) (hb : Rd w sb b) (hsm : ps[k].1.bytes.length + b.length ≤ 100000000)
    (hT : w.heap[cT]? = some (.cells #[.bool true] 4 (0, 0))) (hD : w.heap[cD]? = some (.cells #[.pointer (some ⟨bd, 0, none⟩)] 23 (0, 0))) (hA : w.heap[cA]? = some (.cells #[.int .i64 k] 3 (0, 0))) (hB : w.heap[cB]? = some (.cells #[sb] 30 (0, 0))) :
    Calls Try.prog 52 #[.pointer (some ⟨cT, 0, none⟩), .pointer (some ⟨cD, 0, none⟩), .pointer (some ⟨cN, 0, none⟩), .pointer (some ⟨cA, 0, none⟩), .pointer (some ⟨cB, 0, none⟩)] w fun e w' => e = .returned (.tuple #[]) ∧
      Did w w' bd bs bc fv ps most fuse dark (atF (ps.map Prod.fst) k ⟨ps[k].1.name, ps[k].1.bytes ++ b, ps[k].1.safe⟩) := by
  have mixed : Try.prog.follows Departure.mixedOrders = true := by kernel_rfl
  have dT : w.cell? ⟨cT, 0, none⟩ = some (.bool true) := by rw [cell_of hT]; rfl
  obtain ⟨g, cap, ao, l, cp, bo, bl, bcp, ao', L, cp', w', ⟨hfv, hnc, hsb⟩, ⟨dD, dA, dB, d0, s0, c1⟩, ⟨kD, kA, kB, kd, ks, kg⟩, kz, hr, hdid⟩ := app_pre h cD cA cB k hk sb b hb hsm hD hA hB
  have HHR : Hid _ := hr
  have HDID : Hid _ := hdid
  obtain ⟨R, HR⟩ := named (atF (ps.map Prod.fst) k ⟨ps[k].1.name, ps[k].1.bytes ++ b, ps[k].1.safe⟩)
  rw [← HR.out] at HDID ⊢
  have hkI : (k : Int) < (ps.length : Int) := by omega
  clear h hb hsm hT hD hA hB hr hdid hfv hsb
  go_enter Try.func52, Try.ntmps52
  go_wp2_with fail
  have hs0 : (fun w' => w'.cell? ⟨cD, 0, none⟩ = some (.pointer (some ⟨bd, 0, none⟩)) ∧ w'.cell? ⟨cA, 0, none⟩ = some (.int .i64 k) ∧ w'.cell? ⟨cB, 0, none⟩ = some (.slice bo bl bcp) ∧ w'.cell? ⟨bd, 0, none⟩ = some (.pointer (some ⟨bs, 0, none⟩)) ∧ w'.cell? ⟨bs, 0, none⟩ = some (.slice (some ⟨g, 0, none⟩) ps.length cap) ∧ w'.cell? ⟨g, k * 3 + 1, none⟩ = some (.slice ao l cp)) w.drew := ⟨dD, dA, dB, d0, s0, c1⟩
  refine wp_region_E 23 (fun w' => w'.cell? ⟨cD, 0, none⟩ = some (.pointer (some ⟨bd, 0, none⟩)) ∧ w'.cell? ⟨cA, 0, none⟩ = some (.int .i64 k) ∧ w'.cell? ⟨cB, 0, none⟩ = some (.slice bo bl bcp) ∧ w'.cell? ⟨bd, 0, none⟩ = some (.pointer (some ⟨bs, 0, none⟩)) ∧ w'.cell? ⟨bs, 0, none⟩ = some (.slice (some ⟨g, 0, none⟩) ps.length cap) ∧ w'.cell? ⟨g, k * 3 + 1, none⟩ = some (.slice ao l cp)) mixed ?_
  refine wpAnyE_take 0 (oi := { dst := some 14, op := Go.Op.load 23 (Go.Operand.tmp 1), type := 23, pos := "disk.go:61", after := #[], guard := none }) (v := ?_) rfl (by kernel_rfl) (by kernel_rfl) (by kernel_rfl) (by kernel_rfl) (fun _ _ _ h => h) (Or.inl ⟨by rfl, ?_⟩) hs0 ?_
  rotate_left
  · intro u hu
    obtain ⟨u1, u2, u3, u4, u5, u6⟩ := hu
    go_simp
    try with_reducible rfl
  simp only [Act.put, List.setIfInBounds_toArray, List.set_cons_zero, List.set_cons_succ]
  refine wpAnyE_take 1 (oi := { dst := some 15, op := Go.Op.nilCheck (Go.Operand.tmp 14), type := 0, pos := "disk.go:61", after := #[{ on := 0, ground := Go.Ground.data }], guard := none }) (v := ?_) rfl (by kernel_rfl) (by kernel_rfl) (by kernel_rfl) (by kernel_rfl) (fun _ _ _ h => h) (Or.inl ⟨by rfl, ?_⟩) hs0 ?_
  rotate_left
  · intro u hu
    obtain ⟨u1, u2, u3, u4, u5, u6⟩ := hu
    go_simp
    try with_reducible rfl
  simp only [Act.put, List.setIfInBounds_toArray, List.set_cons_zero, List.set_cons_succ]
  refine wpAnyE_take 2 (oi := { dst := some 16, op := Go.Op.fieldAddr 57 (Go.Operand.tmp 15) 0, type := 0, pos := "disk.go:61", after := #[{ on := 1, ground := Go.Ground.data }], guard := none }) (v := ?_) rfl (by kernel_rfl) (by kernel_rfl) (by kernel_rfl) (by kernel_rfl) (fun _ _ _ h => h) (Or.inl ⟨by rfl, ?_⟩) hs0 ?_
  rotate_left
  · intro u hu
    obtain ⟨u1, u2, u3, u4, u5, u6⟩ := hu
    go_simp
    try with_reducible rfl
  simp only [Act.put, List.setIfInBounds_toArray, List.set_cons_zero, List.set_cons_succ]
  refine wpAnyE_take 3 (oi := { dst := some 17, op := Go.Op.load 55 (Go.Operand.tmp 16), type := 55, pos := "disk.go:61", after := #[{ on := 2, ground := Go.Ground.data }], guard := none }) (v := ?_) rfl (by kernel_rfl) (by kernel_rfl) (by kernel_rfl) (by kernel_rfl) (fun _ _ _ h => h) (Or.inl ⟨by rfl, ?_⟩) hs0 ?_
  rotate_left
  · intro u hu
    obtain ⟨u1, u2, u3, u4, u5, u6⟩ := hu
    go_simp
    try with_reducible rfl
  simp only [Act.put, List.setIfInBounds_toArray, List.set_cons_zero, List.set_cons_succ]
  refine wpAnyE_take 4 (oi := { dst := some 18, op := Go.Op.nilCheck (Go.Operand.tmp 17), type := 0, pos := "disk.go:61", after := #[{ on := 3, ground := Go.Ground.data }], guard := none }) (v := ?_) rfl (by kernel_rfl) (by kernel_rfl) (by kernel_rfl) (by kernel_rfl) (fun _ _ _ h => h) (Or.inl ⟨by rfl, ?_⟩) hs0 ?_
  rotate_left
  · intro u hu
    obtain ⟨u1, u2, u3, u4, u5, u6⟩ := hu
    go_simp
    try with_reducible rfl
  simp only [Act.put, List.setIfInBounds_toArray, List.set_cons_zero, List.set_cons_succ]
  refine wpAnyE_take 5 (oi := { dst := some 19, op := Go.Op.fieldAddr 79 (Go.Operand.tmp 18) 0, type := 0, pos := "disk.go:61", after := #[{ on := 4, ground := Go.Ground.data }], guard := none }) (v := ?_) rfl (by kernel_rfl) (by kernel_rfl) (by kernel_rfl) (by kernel_rfl) (fun _ _ _ h => h) (Or.inl ⟨by rfl, ?_⟩) hs0 ?_
  rotate_left
  · intro u hu
    obtain ⟨u1, u2, u3, u4, u5, u6⟩ := hu
    go_simp
    try with_reducible rfl
  simp only [Act.put, List.setIfInBounds_toArray, List.set_cons_zero, List.set_cons_succ]
  refine wpAnyE_take 6 (oi := { dst := some 20, op := Go.Op.load 76 (Go.Operand.tmp 19), type := 76, pos := "disk.go:61", after := #[{ on := 5, ground := Go.Ground.data }], guard := none }) (v := ?_) rfl (by kernel_rfl) (by kernel_rfl) (by kernel_rfl) (by kernel_rfl) (fun _ _ _ h => h) (Or.inl ⟨by rfl, ?_⟩) hs0 ?_
  rotate_left
  · intro u hu
    obtain ⟨u1, u2, u3, u4, u5, u6⟩ := hu
    go_simp
    try with_reducible rfl
  simp only [Act.put, List.setIfInBounds_toArray, List.set_cons_zero, List.set_cons_succ]
  refine wpAnyE_take 7 (oi := { dst := some 21, op := Go.Op.load 3 (Go.Operand.tmp 3), type := 3, pos := "disk.go:61", after := #[], guard := none }) (v := ?_) rfl (by kernel_rfl) (by kernel_rfl) (by kernel_rfl) (by kernel_rfl) (fun _ _ _ h => h) (Or.inl ⟨by rfl, ?_⟩) hs0 ?_
  rotate_left
  · intro u hu
    obtain ⟨u1, u2, u3, u4, u5, u6⟩ := hu
    go_simp
    try with_reducible rfl
  simp only [Act.put, List.setIfInBounds_toArray, List.set_cons_zero, List.set_cons_succ]
  refine wpAnyE_take 8 (oi := { dst := some 22, op := Go.Op.load 23 (Go.Operand.tmp 1), type := 23, pos := "disk.go:61", after := #[], guard := none }) (v := ?_) rfl (by kernel_rfl) (by kernel_rfl) (by kernel_rfl) (by kernel_rfl) (fun _ _ _ h => h) (Or.inl ⟨by rfl, ?_⟩) hs0 ?_
  rotate_left
  · intro u hu
    obtain ⟨u1, u2, u3, u4, u5, u6⟩ := hu
    go_simp
    try with_reducible rfl
  simp only [Act.put, List.setIfInBounds_toArray, List.set_cons_zero, List.set_cons_succ]
  refine wpAnyE_take 9 (oi := { dst := some 23, op := Go.Op.nilCheck (Go.Operand.tmp 22), type := 0, pos := "disk.go:61", after := #[{ on := 8, ground := Go.Ground.data }], guard := none }) (v := ?_) rfl (by kernel_rfl) (by kernel_rfl) (by kernel_rfl) (by kernel_rfl) (fun _ _ _ h => h) (Or.inl ⟨by rfl, ?_⟩) hs0 ?_
  rotate_left
  · intro u hu
    obtain ⟨u1, u2, u3, u4, u5, u6⟩ := hu
    go_simp
    try with_reducible rfl
  simp only [Act.put, List.setIfInBounds_toArray, List.set_cons_zero, List.set_cons_succ]
  refine wpAnyE_take 10 (oi := { dst := some 24, op := Go.Op.fieldAddr 57 (Go.Operand.tmp 23) 0, type := 0, pos := "disk.go:61", after := #[{ on := 9, ground := Go.Ground.data }], guard := none }) (v := ?_) rfl (by kernel_rfl) (by kernel_rfl) (by kernel_rfl) (by kernel_rfl) (fun _ _ _ h => h) (Or.inl ⟨by rfl, ?_⟩) hs0 ?_
  rotate_left
  · intro u hu
    obtain ⟨u1, u2, u3, u4, u5, u6⟩ := hu
    go_simp
    try with_reducible rfl
  simp only [Act.put, List.setIfInBounds_toArray, List.set_cons_zero, List.set_cons_succ]
  refine wpAnyE_take 11 (oi := { dst := some 25, op := Go.Op.load 55 (Go.Operand.tmp 24), type := 55, pos := "disk.go:61", after := #[{ on := 10, ground := Go.Ground.data }], guard := none }) (v := ?_) rfl (by kernel_rfl) (by kernel_rfl) (by kernel_rfl) (by kernel_rfl) (fun _ _ _ h => h) (Or.inl ⟨by rfl, ?_⟩) hs0 ?_
  rotate_left
  · intro u hu
    obtain ⟨u1, u2, u3, u4, u5, u6⟩ := hu
    go_simp
    try with_reducible rfl
  simp only [Act.put, List.setIfInBounds_toArray, List.set_cons_zero, List.set_cons_succ]
  refine wpAnyE_take 12 (oi := { dst := some 26, op := Go.Op.nilCheck (Go.Operand.tmp 25), type := 0, pos := "disk.go:61", after := #[{ on := 11, ground := Go.Ground.data }], guard := none }) (v := ?_) rfl (by kernel_rfl) (by kernel_rfl) (by kernel_rfl) (by kernel_rfl) (fun _ _ _ h => h) (Or.inl ⟨by rfl, ?_⟩) hs0 ?_
  rotate_left
  · intro u hu
    obtain ⟨u1, u2, u3, u4, u5, u6⟩ := hu
    go_simp
    try with_reducible rfl
  simp only [Act.put, List.setIfInBounds_toArray, List.set_cons_zero, List.set_cons_succ]
  refine wpAnyE_take 13 (oi := { dst := some 27, op := Go.Op.fieldAddr 79 (Go.Operand.tmp 26) 0, type := 0, pos := "disk.go:61", after := #[{ on := 12, ground := Go.Ground.data }], guard := none }) (v := ?_) rfl (by kernel_rfl) (by kernel_rfl) (by kernel_rfl) (by kernel_rfl) (fun _ _ _ h => h) (Or.inl ⟨by rfl, ?_⟩) hs0 ?_
  rotate_left
  · intro u hu
    obtain ⟨u1, u2, u3, u4, u5, u6⟩ := hu
    go_simp
    try with_reducible rfl
  simp only [Act.put, List.setIfInBounds_toArray, List.set_cons_zero, List.set_cons_succ]
  refine wpAnyE_take 14 (oi := { dst := some 28, op := Go.Op.load 76 (Go.Operand.tmp 27), type := 76, pos := "disk.go:61", after := #[{ on := 13, ground := Go.Ground.data }], guard := none }) (v := ?_) rfl (by kernel_rfl) (by kernel_rfl) (by kernel_rfl) (by kernel_rfl) (fun _ _ _ h => h) (Or.inl ⟨by rfl, ?_⟩) hs0 ?_
  rotate_left
  · intro u hu
    obtain ⟨u1, u2, u3, u4, u5, u6⟩ := hu
    go_simp
    try with_reducible rfl
  simp only [Act.put, List.setIfInBounds_toArray, List.set_cons_zero, List.set_cons_succ]
  refine wpAnyE_take 15 (oi := { dst := some 29, op := Go.Op.load 3 (Go.Operand.tmp 3), type := 3, pos := "disk.go:61", after := #[], guard := none }) (v := ?_) rfl (by kernel_rfl) (by kernel_rfl) (by kernel_rfl) (by kernel_rfl) (fun _ _ _ h => h) (Or.inl ⟨by rfl, ?_⟩) hs0 ?_
  rotate_left
  · intro u hu
    obtain ⟨u1, u2, u3, u4, u5, u6⟩ := hu
    go_simp
    try with_reducible rfl
  simp only [Act.put, List.setIfInBounds_toArray, List.set_cons_zero, List.set_cons_succ]
  refine wpAnyE_take 16 (oi := { dst := some 30, op := Go.Op.indexAddr 76 (Go.Operand.tmp 28) (Go.Operand.tmp 29), type := 0, pos := "disk.go:61", after := #[{ on := 14, ground := Go.Ground.data }, { on := 15, ground := Go.Ground.data }], guard := none }) (v := ?_) rfl (by kernel_rfl) (by kernel_rfl) (by kernel_rfl) (by kernel_rfl) (fun _ _ _ h => h) (Or.inl ⟨by rfl, ?_⟩) hs0 ?_
  rotate_left
  · intro u hu
    obtain ⟨u1, u2, u3, u4, u5, u6⟩ := hu
    go_simp
    try with_reducible rfl
  simp only [Act.put, List.setIfInBounds_toArray, List.set_cons_zero, List.set_cons_succ]
  refine wpAnyE_take 17 (oi := { dst := some 31, op := Go.Op.fieldAddr 83 (Go.Operand.tmp 30) 1, type := 0, pos := "disk.go:61", after := #[{ on := 16, ground := Go.Ground.data }], guard := none }) (v := ?_) rfl (by kernel_rfl) (by kernel_rfl) (by kernel_rfl) (by kernel_rfl) (fun _ _ _ h => h) (Or.inl ⟨by rfl, ?_⟩) hs0 ?_
  rotate_left
  · intro u hu
    obtain ⟨u1, u2, u3, u4, u5, u6⟩ := hu
    go_simp
    try with_reducible rfl
  simp only [Act.put, List.setIfInBounds_toArray, List.set_cons_zero, List.set_cons_succ]
  refine wpAnyE_take 18 (oi := { dst := some 32, op := Go.Op.load 30 (Go.Operand.tmp 31), type := 30, pos := "disk.go:61", after := #[{ on := 17, ground := Go.Ground.data }], guard := none }) (v := ?_) rfl (by kernel_rfl) (by kernel_rfl) (by kernel_rfl) (by kernel_rfl) (fun _ _ _ h => h) (Or.inl ⟨by rfl, ?_⟩) hs0 ?_
  rotate_left
  · intro u hu
    obtain ⟨u1, u2, u3, u4, u5, u6⟩ := hu
    go_simp
    try with_reducible rfl
  simp only [Act.put, List.setIfInBounds_toArray, List.set_cons_zero, List.set_cons_succ]
  refine wpAnyE_take 19 (oi := { dst := some 33, op := Go.Op.load 30 (Go.Operand.tmp 4), type := 30, pos := "disk.go:61", after := #[], guard := none }) (v := ?_) rfl (by kernel_rfl) (by kernel_rfl) (by kernel_rfl) (by kernel_rfl) (fun _ _ _ h => h) (Or.inl ⟨by rfl, ?_⟩) hs0 ?_
  rotate_left
  · intro u hu
    obtain ⟨u1, u2, u3, u4, u5, u6⟩ := hu
    go_simp
    try with_reducible rfl
  simp only [Act.put, List.setIfInBounds_toArray, List.set_cons_zero, List.set_cons_succ]
  refine wpAnyE_one (i := 20) (o := { dst := some 34, op := Go.Op.call { callee := Go.Callee.builtin Go.Builtin.append, args := #[Go.Operand.tmp 32, Go.Operand.tmp 33], argTypes := #[30, 30] }, type := 30, pos := "disk.go:61", after := #[{ on := 18, ground := Go.Ground.data }, { on := 19, ground := Go.Ground.data }], guard := none }) (by kernel_rfl) rfl (fun K hK => ?_)
  refine step_append_runI rfl (.tmp 32) (.tmp 33) 30 30 rfl (.slice ao l cp) (.slice bo bl bcp) (by simp [Act.eval]) (by simp [Act.eval]) HHR.out ?_
  refine hK _ _ (fun _ => ⟨kD, kA, kB, kd, ks, kg⟩) ?_
  clear hK K
  simp only [Act.put, List.setIfInBounds_toArray, List.set_cons_zero, List.set_cons_succ]
  refine wpAnyE_one (i := 21) (o := { dst := some 35, op := Go.Op.indexAddr 76 (Go.Operand.tmp 20) (Go.Operand.tmp 21), type := 0, pos := "disk.go:61", after := #[{ on := 6, ground := Go.Ground.data }, { on := 7, ground := Go.Ground.data }, { on := 0, ground := Go.Ground.phase }, { on := 1, ground := Go.Ground.phase }, { on := 2, ground := Go.Ground.phase }, { on := 3, ground := Go.Ground.phase }, { on := 4, ground := Go.Ground.phase }, { on := 5, ground := Go.Ground.phase }, { on := 6, ground := Go.Ground.phase }, { on := 7, ground := Go.Ground.phase }, { on := 8, ground := Go.Ground.phase }, { on := 9, ground := Go.Ground.phase }, { on := 10, ground := Go.Ground.phase }, { on := 11, ground := Go.Ground.phase }, { on := 12, ground := Go.Ground.phase }, { on := 13, ground := Go.Ground.phase }, { on := 14, ground := Go.Ground.phase }, { on := 15, ground := Go.Ground.phase }, { on := 16, ground := Go.Ground.phase }, { on := 17, ground := Go.Ground.phase }, { on := 18, ground := Go.Ground.phase }, { on := 19, ground := Go.Ground.phase }, { on := 20, ground := Go.Ground.phase }], guard := none }) (by kernel_rfl) rfl (fun K hK => ?_)
  go_simp
  refine hK _ _ (fun _ => ⟨kD, kA, kB, kd, ks, kg⟩) ?_
  clear hK K
  refine wpAnyE_take 22 (oi := { dst := some 36, op := Go.Op.fieldAddr 83 (Go.Operand.tmp 35) 1, type := 0, pos := "disk.go:61", after := #[{ on := 21, ground := Go.Ground.data }, { on := 0, ground := Go.Ground.phase }, { on := 1, ground := Go.Ground.phase }, { on := 2, ground := Go.Ground.phase }, { on := 3, ground := Go.Ground.phase }, { on := 4, ground := Go.Ground.phase }, { on := 5, ground := Go.Ground.phase }, { on := 6, ground := Go.Ground.phase }, { on := 7, ground := Go.Ground.phase }, { on := 8, ground := Go.Ground.phase }, { on := 9, ground := Go.Ground.phase }, { on := 10, ground := Go.Ground.phase }, { on := 11, ground := Go.Ground.phase }, { on := 12, ground := Go.Ground.phase }, { on := 13, ground := Go.Ground.phase }, { on := 14, ground := Go.Ground.phase }, { on := 15, ground := Go.Ground.phase }, { on := 16, ground := Go.Ground.phase }, { on := 17, ground := Go.Ground.phase }, { on := 18, ground := Go.Ground.phase }, { on := 19, ground := Go.Ground.phase }, { on := 20, ground := Go.Ground.phase }], guard := none }) (v := ?_) rfl (by kernel_rfl) (by kernel_rfl) (by kernel_rfl) (by kernel_rfl) (fun _ _ _ h => h) (Or.inl ⟨by rfl, ?_⟩) ⟨kD, kA, kB, kd, ks, kg⟩ ?_
  rotate_left
  · intro u hu
    obtain ⟨u1, u2, u3, u4, u5, u6⟩ := hu
    go_simp
    try with_reducible rfl
  simp only [Act.put, List.setIfInBounds_toArray, List.set_cons_zero, List.set_cons_succ]
  refine wpAnyE_one (i := 23) (o := { dst := none, op := Go.Op.store 30 (Go.Operand.tmp 36) (Go.Operand.tmp 34), type := 0, pos := "disk.go:61", after := #[{ on := 22, ground := Go.Ground.data }, { on := 20, ground := Go.Ground.data }, { on := 20, ground := Go.Ground.chain }, { on := 0, ground := Go.Ground.phase }, { on := 1, ground := Go.Ground.phase }, { on := 2, ground := Go.Ground.phase }, { on := 3, ground := Go.Ground.phase }, { on := 4, ground := Go.Ground.phase }, { on := 5, ground := Go.Ground.phase }, { on := 6, ground := Go.Ground.phase }, { on := 7, ground := Go.Ground.phase }, { on := 8, ground := Go.Ground.phase }, { on := 9, ground := Go.Ground.phase }, { on := 10, ground := Go.Ground.phase }, { on := 11, ground := Go.Ground.phase }, { on := 12, ground := Go.Ground.phase }, { on := 13, ground := Go.Ground.phase }, { on := 14, ground := Go.Ground.phase }, { on := 15, ground := Go.Ground.phase }, { on := 16, ground := Go.Ground.phase }, { on := 17, ground := Go.Ground.phase }, { on := 18, ground := Go.Ground.phase }, { on := 19, ground := Go.Ground.phase }, { on := 20, ground := Go.Ground.phase }], guard := none }) (by kernel_rfl) rfl (fun K hK => ?_)
  go_simp
  refine hK _ _ (fun h => absurd rfl h) ?_
  clear hK K
  refine wpAnyE_done (by kernel_rfl) ?_
  go_wp2
  go_returns
  exact ⟨rfl, HDID.out⟩
end Go.Proofs.Ytloigepmmhcibaa
