/-
  The contracts of the deeds' closures. Own work.
-/
import Derived.Test.YtloigepmmhcibaaDl
import Derived.Test.YtloigepmmhcibaaDk
namespace Go.Proofs.Ytloigepmmhcibaa
open Go.RowKit

/-- a file laid down at a place, in the stead of that which was there -/
def atF (fs : List AF) (k : Nat) (f : AF) : List AF := fs.take k ++ f :: fs.drop (k + 1)
theorem map_atF (ps : List (AF × Value)) (k : Nat) (f : AF) (v : Value) : (ps.take k ++ (f, v) :: ps.drop (k + 1)).map Prod.fst = atF (ps.map Prod.fst) k f := by
  simp [atF, List.map_take, List.map_drop]

theorem blk_put {bd bs bc : Nat} {fv fv' : Value} {ps : List (AF × Value)} {i j : Nat} {x : AF × Value} {N : Nat} (hf : ∀ b, fv'.ownBlock = some b → fv.ownBlock = some b ∨ N ≤ b) (hx : ∀ b, x.2.ownBlock = some b → (∃ p ∈ ps, p.2.ownBlock = some b) ∨ N ≤ b) :
    ∀ b, Blk bd bs bc fv' (ps.take i ++ x :: ps.drop j) b → Blk bd bs bc fv ps b ∨ N ≤ b := by
  rintro b (h | h | h | h | ⟨p, hp, h⟩)
  · exact .inl (.inl h)
  · exact .inl (.inr (.inl h))
  · exact .inl (.inr (.inr (.inl h)))
  · exact (hf b h).imp (fun h => .inr (.inr (.inr (.inl h)))) id
  · rcases mem_put hp with rfl | hp
    · exact (hx b h).imp (fun h => .inr (.inr (.inr (.inr h)))) id
    · exact .inl (.inr (.inr (.inr (.inr ⟨p, hp, h⟩))))

theorem cell_other (w : World) (g o : Nat) (u : Value) (b o' : Nat) (h : b ≠ g ∨ o' ≠ o) : (w.setCell ⟨g, o, none⟩ u).cell? ⟨b, o', none⟩ = w.cell? ⟨b, o', none⟩ := by
  rw [World.cell?_setCell_other]
  simp
  intro e
  rcases h with h | h
  · exact absurd e (by first | exact h | exact fun x => h x.symm)
  · first | exact h | exact fun x => h x.symm

set_option maxRecDepth 100000 in
set_option maxHeartbeats 2000000 in
theorem sync1 {w : World} {bd bs bc : Nat} {fv : Value} {ps : List (AF × Value)} {most : Nat} {fuse : Int} {dark : Bool} (h : St w bd bs bc fv ps most fuse dark) (cD cA k : Nat) (hk : k < ps.length)
    (hD : w.heap[cD]? = some (.cells #[.pointer (some ⟨bd, 0, none⟩)] 23 (0, 0))) (hA : w.heap[cA]? = some (.cells #[.int .i64 k] 3 (0, 0))) :
    Calls Try.prog 60 #[.pointer (some ⟨cD, 0, none⟩), .pointer (some ⟨cA, 0, none⟩)] w fun e w' => e = .returned (.tuple #[]) ∧
      Did w w' bd bs bc fv ps most fuse dark (atF (ps.map Prod.fst) k ⟨ps[k].1.name, ps[k].1.bytes, ps[k].1.bytes.length⟩) := by
  have mixed : Try.prog.follows Departure.mixedOrders = true := by kernel_rfl
  have dD : w.cell? ⟨cD, 0, none⟩ = some (.pointer (some ⟨bd, 0, none⟩)) := by rw [cell_of hD]; rfl
  have dA : w.cell? ⟨cA, 0, none⟩ = some (.int .i64 k) := by rw [cell_of hA]; rfl
  have d0 := h.d0
  have s0 := h.s0
  have HST : Hid _ := h
  obtain ⟨ao, cp, hsl, -⟩ := Own.rd (h.hb _ (List.getElem_mem hk))
  rcases fr_of h.hf with ⟨_, hx⟩ | ⟨g, cap, hfv, hbl, hnc, hcm, hc⟩
  · rw [hx] at hk; simp at hk
  obtain ⟨c0, c1, c2⟩ := hc k hk
  rw [hsl] at c1
  subst hfv
  have z2 := row_frozen h.hf (k * 3 + 2)
  obtain ⟨cur, hgg⟩ := row_elem h.hf (a := g) rfl
  have n1 : bs ≠ g := fun e => (h.fv_ne (a := g) rfl).2.1 e.symm
  have n2 : bd ≠ g := fun e => (h.fv_ne (a := g) rfl).1 e.symm
  have n3 : cD ≠ g := ne_of_elem hD hgg (by decide)
  have n4 : cA ≠ g := ne_of_elem hA hgg (by decide)
  obtain ⟨l, HL⟩ := named ps[k].1.bytes.length
  rw [← HL.out] at c1
  obtain ⟨s, HS⟩ := named ps[k].1.safe
  rw [← HS.out] at c2
  have HE : Hid _ := HST.out.setSafe k hk l
  have HM : Hid (((ps.take k ++ (⟨ps[k].1.name, ps[k].1.bytes, l⟩, ps[k].2) :: ps.drop (k + 1)).map Prod.fst) = atF (ps.map Prod.fst) k ⟨ps[k].1.name, ps[k].1.bytes, ps[k].1.bytes.length⟩) := by rw [map_atF, HL.out]; rfl
  obtain ⟨R, HR⟩ := named (atF (ps.map Prod.fst) k ⟨ps[k].1.name, ps[k].1.bytes, ps[k].1.bytes.length⟩)
  rw [← HR.out] at HM ⊢
  have HKL : Hid (k < ps.length) := hk
  obtain ⟨N, HN⟩ := named ps.length
  rw [← HN.out] at s0 hk hnc
  clear h hc hsl c0 hcm hgg hD hA
  have hs1 : (w.setCell ⟨g, k * 3 + 2, none⟩ (.int .i64 l)).drew.cell? ⟨cD, 0, none⟩ = some (.pointer (some ⟨bd, 0, none⟩)) ∧ (w.setCell ⟨g, k * 3 + 2, none⟩ (.int .i64 l)).drew.cell? ⟨cA, 0, none⟩ = some (.int .i64 k) ∧ (w.setCell ⟨g, k * 3 + 2, none⟩ (.int .i64 l)).drew.cell? ⟨bd, 0, none⟩ = some (.pointer (some ⟨bs, 0, none⟩)) ∧ (w.setCell ⟨g, k * 3 + 2, none⟩ (.int .i64 l)).drew.cell? ⟨bs, 0, none⟩ = some (.slice (some ⟨g, 0, none⟩) N cap) ∧ (w.setCell ⟨g, k * 3 + 2, none⟩ (.int .i64 l)).drew.cell? ⟨g, k * 3 + 1, none⟩ = some (.slice ao l cp) :=
    ⟨(cell_other w g _ _ _ _ (.inl n3)).trans dD, (cell_other w g _ _ _ _ (.inl n4)).trans dA, (cell_other w g _ _ _ _ (.inl n2)).trans d0, (cell_other w g _ _ _ _ (.inl n1)).trans s0, (cell_other w g _ _ _ _ (.inr (by omega))).trans c1⟩
  have HS1 : Hid _ := hs1
  clear hs1
  go_enter Try.func60, Try.ntmps60
  go_wp2_with fail
  go_region_held3 (fun w' => w'.cell? ⟨cD, 0, none⟩ = some (.pointer (some ⟨bd, 0, none⟩)) ∧ w'.cell? ⟨cA, 0, none⟩ = some (.int .i64 k) ∧ w'.cell? ⟨bd, 0, none⟩ = some (.pointer (some ⟨bs, 0, none⟩)) ∧ w'.cell? ⟨bs, 0, none⟩ = some (.slice (some ⟨g, 0, none⟩) N cap) ∧ w'.cell? ⟨g, k * 3 + 1, none⟩ = some (.slice ao l cp)) (first | exact HS1.out | exact ⟨dD, dA, d0, s0, c1⟩) (fail)
  go_wp2
  go_returns
  refine ⟨rfl, _, _, HE.out.heap fun _ _ => rfl, HM.out, blk_put (fun b hb => .inl hb) (fun b hb => .inl ⟨_, List.getElem_mem HKL.out, hb⟩), ?_⟩
  exact ((Chg.refl _ w).setCell (p := ⟨g, k * 3 + 2, none⟩) (.inl (.inr (.inr (.inr (.inl rfl))))) _).drew

theorem map_dropF (ps : List (AF × Value)) (k : Nat) : (ps.take k ++ ps.drop (k + 1)).map Prod.fst = dropF (ps.map Prod.fst) k := by
  simp [dropF, List.map_take, List.map_drop]
theorem Chg.cell {F : Nat → Prop} {w w' : World} (h : Chg F w w') {b : Nat} (hl : b < w.heap.size) (hb : ¬ F b) (o : Nat) : w'.cell? ⟨b, o, none⟩ = w.cell? ⟨b, o, none⟩ := World.cell?_of_block (w := w) (a := ⟨b, o, none⟩) (h.block b hl hb)
theorem Chg.frozen {F : Nat → Prop} {w w' : World} (h : Chg F w w') {b : Nat} (hl : b < w.heap.size) (hb : ¬ F b) (o : Nat) : w'.frozen? ⟨b, o, none⟩ = w.frozen? ⟨b, o, none⟩ := World.frozen?_of_block (w := w) (a := ⟨b, o, none⟩) (h.block b hl hb)

set_option maxRecDepth 100000 in
set_option maxHeartbeats 2000000 in
theorem remove1 {w : World} {bd bs bc : Nat} {fv : Value} {ps : List (AF × Value)} {most : Nat} {fuse : Int} {dark : Bool} (h : St w bd bs bc fv ps most fuse dark) (cD cA k : Nat) (hk : k < ps.length) (hmax : ps.length ≤ 1000)
    (hD : w.heap[cD]? = some (.cells #[.pointer (some ⟨bd, 0, none⟩)] 23 (0, 0))) (hA : w.heap[cA]? = some (.cells #[.int .i64 k] 3 (0, 0))) :
    Calls Try.prog 61 #[.pointer (some ⟨cD, 0, none⟩), .pointer (some ⟨cA, 0, none⟩)] w fun e w' => e = .returned (.tuple #[]) ∧
      Did w w' bd bs bc fv ps most fuse dark (dropF (ps.map Prod.fst) k) := by
  have mixed : Try.prog.follows Departure.mixedOrders = true := by kernel_rfl
  have dD : w.cell? ⟨cD, 0, none⟩ = some (.pointer (some ⟨bd, 0, none⟩)) := by rw [cell_of hD]; rfl
  have dA : w.cell? ⟨cA, 0, none⟩ = some (.int .i64 k) := by rw [cell_of hA]; rfl
  have d0 := h.d0
  have HST : Hid _ := h
  have nF : ∀ b (c : Array Value) (e : TypeId), w.heap[b]? = some (.cells c e (0, 0)) → e ≠ 79 → e ≠ 83 → ¬ (fun b => b = bs ∨ fv.ownBlock = some b) b := by
    rintro b c e hb h1 h2 (rfl | hb2)
    · exact ne_of_elem hb h.hs h1 rfl
    · obtain ⟨c', hc'⟩ := row_elem h.hf hb2
      exact ne_of_elem hb hc' h2 rfl
  have n1 := nF cD _ _ hD (by decide) (by decide)
  have n2 := nF cA _ _ hA (by decide) (by decide)
  have n3 := nF bd _ _ h.hd (by decide) (by decide)
  have l1 : cD < w.heap.size := (Array.getElem?_eq_some_iff.1 hD).1
  have l2 : cA < w.heap.size := (Array.getElem?_eq_some_iff.1 hA).1
  have l3 := h.ltd
  have HN : Hid _ := And.intro n1 (And.intro n2 n3)
  have HDR : Hid _ := drop_st (w := w.drew) (h.heap fun _ _ => rfl) hmax k hk
  have HM : Hid _ := map_dropF ps k
  obtain ⟨R, HR⟩ := named (dropF (ps.map Prod.fst) k)
  rw [← HR.out] at HM ⊢
  clear h nF n1 n2 n3 hD hA
  go_enter Try.func61, Try.ntmps61
  go_wp2_with fail
  go_region_held3 (fun w' => w'.cell? ⟨cD, 0, none⟩ = some (.pointer (some ⟨bd, 0, none⟩)) ∧ w'.cell? ⟨cA, 0, none⟩ = some (.int .i64 k) ∧ w'.cell? ⟨bd, 0, none⟩ = some (.pointer (some ⟨bs, 0, none⟩))) (first | exact HS1.out | exact ⟨dD, dA, d0⟩)
    (first | (go_at_call 57; refine Calls.mono HDR.out ?_; rintro e w1 ⟨rfl, fv', hS, hfb, hC⟩; have HS1 : Hid (w1.cell? ⟨cD, 0, none⟩ = some (.pointer (some ⟨bd, 0, none⟩)) ∧ w1.cell? ⟨cA, 0, none⟩ = some (.int .i64 k) ∧ w1.cell? ⟨bd, 0, none⟩ = some (.pointer (some ⟨bs, 0, none⟩))) := ⟨(Chg.cell hC l1 HN.out.1 0).trans dD, (Chg.cell hC l2 HN.out.2.1 0).trans dA, (Chg.cell hC l3 HN.out.2.2 0).trans d0⟩; have HS2 : Hid _ := hS; have HF2 : Hid _ := hfb; have HC2 : Hid _ := hC; clear hS hfb hC))
  go_wp2
  go_returns
  refine ⟨rfl, _, _, HS2.out, HM.out, ?_, Chg.mono ⟨HC2.out.os, HC2.out.tape, HC2.out.output, HC2.out.size, HC2.out.block⟩ ?_⟩
  · rintro b (h | h | h | h | ⟨p, hp, h⟩)
    · exact .inl (.inl h)
    · exact .inl (.inr (.inl h))
    · exact .inl (.inr (.inr (.inl h)))
    · exact .inl (.inr (.inr (.inr (.inl (HF2.out.symm.trans h)))))
    · exact .inl (.inr (.inr (.inr (.inr ⟨p, (List.mem_append.1 hp).elim List.mem_of_mem_take List.mem_of_mem_drop, h⟩))))
  · rintro b _ (h | h)
    · exact .inr (.inl h)
    · exact .inr (.inr (.inr (.inl h)))

set_option maxRecDepth 100000 in
set_option maxHeartbeats 2000000 in
theorem cut1 {w : World} {bd bs bc : Nat} {fv : Value} {ps : List (AF × Value)} {most : Nat} {fuse : Int} {dark : Bool} (h : St w bd bs bc fv ps most fuse dark) (cD cA cN k n : Nat) (hk : k < ps.length) (hn : n ≤ ps[k].1.bytes.length) (hsm : ps[k].1.bytes.length ≤ 16777216)
    (hD : w.heap[cD]? = some (.cells #[.pointer (some ⟨bd, 0, none⟩)] 23 (0, 0))) (hA : w.heap[cA]? = some (.cells #[.int .i64 k] 3 (0, 0))) (hN : w.heap[cN]? = some (.cells #[.int .i64 n] 3 (0, 0))) :
    Calls Try.prog 58 #[.pointer (some ⟨cD, 0, none⟩), .pointer (some ⟨cA, 0, none⟩), .pointer (some ⟨cN, 0, none⟩)] w fun e w' => e = .returned (.tuple #[]) ∧
      Did w w' bd bs bc fv ps most fuse dark (atF (ps.map Prod.fst) k ⟨ps[k].1.name, ps[k].1.bytes.take n, n⟩) := by
  have mixed : Try.prog.follows Departure.mixedOrders = true := by kernel_rfl
  have dD : w.cell? ⟨cD, 0, none⟩ = some (.pointer (some ⟨bd, 0, none⟩)) := by rw [cell_of hD]; rfl
  have dA : w.cell? ⟨cA, 0, none⟩ = some (.int .i64 k) := by rw [cell_of hA]; rfl
  have dN : w.cell? ⟨cN, 0, none⟩ = some (.int .i64 n) := by rw [cell_of hN]; rfl
  have d0 := h.d0
  have s0 := h.s0
  have HST : Hid _ := h
  obtain ⟨g, cap, hfv, hnc, hcm⟩ := row_pos h.hf (by omega)
  subst hfv
  obtain ⟨cur, hgg⟩ := row_elem h.hf (a := g) rfl
  have l1 : cD < w.heap.size := (Array.getElem?_eq_some_iff.1 hD).1
  have l2 : cA < w.heap.size := (Array.getElem?_eq_some_iff.1 hA).1
  have l3 := h.ltd
  have l4 : cN < w.heap.size := (Array.getElem?_eq_some_iff.1 hN).1
  have l5 := h.lts
  have HNE : Hid (cD ≠ g ∧ cA ≠ g ∧ bd ≠ g ∧ cN ≠ g ∧ bs ≠ g) := ⟨ne_of_elem hD hgg (by decide), ne_of_elem hA hgg (by decide), ne_of_elem h.hd hgg (by decide), ne_of_elem hN hgg (by decide), ne_of_elem h.hs hgg (by decide)⟩
  have HLV : Hid _ := leave_st (w := w.drew) (h.heap fun _ _ => rfl) k hk n 0 hn hsm (by omega)
  have HM : Hid (∀ v, (ps.take k ++ ((⟨ps[k].1.name, ps[k].1.bytes.take n ++ List.replicate 0 0, n + 0⟩ : AF), v) :: ps.drop (k + 1)).map Prod.fst = atF (ps.map Prod.fst) k ⟨ps[k].1.name, ps[k].1.bytes.take n, n⟩) := fun v => by rw [map_atF]; simp
  obtain ⟨R, HR⟩ := named (atF (ps.map Prod.fst) k ⟨ps[k].1.name, ps[k].1.bytes.take n, n⟩)
  rw [← HR.out] at HM ⊢
  obtain ⟨N, HNN⟩ := named ps.length
  have hkI : (k : Int) < (N : Int) := by rw [HNN.out]; omega
  rw [← HNN.out] at s0
  clear h hD hA hN hgg hn hsm hnc
  go_enter Try.func58, Try.ntmps58
  go_wp2_with fail
  go_region_held3 (fun w' => w'.cell? ⟨cD, 0, none⟩ = some (.pointer (some ⟨bd, 0, none⟩)) ∧ w'.cell? ⟨cA, 0, none⟩ = some (.int .i64 k) ∧ w'.cell? ⟨bd, 0, none⟩ = some (.pointer (some ⟨bs, 0, none⟩)) ∧ w'.cell? ⟨cN, 0, none⟩ = some (.int .i64 n) ∧ w'.cell? ⟨bs, 0, none⟩ = some (.slice (some ⟨g, 0, none⟩) N cap)) (first | exact HS1.out | exact ⟨dD, dA, d0, dN, s0⟩)
    (first | (go_at_call 59; refine Calls.mono HLV.out ?_; rintro e w1 ⟨rfl, v', hS, hvb, hC⟩; have HS1 : Hid (w1.cell? ⟨cD, 0, none⟩ = some (.pointer (some ⟨bd, 0, none⟩)) ∧ w1.cell? ⟨cA, 0, none⟩ = some (.int .i64 k) ∧ w1.cell? ⟨bd, 0, none⟩ = some (.pointer (some ⟨bs, 0, none⟩)) ∧ w1.cell? ⟨cN, 0, none⟩ = some (.int .i64 n) ∧ w1.cell? ⟨bs, 0, none⟩ = some (.slice (some ⟨g, 0, none⟩) N cap)) := ⟨(Chg.cell hC l1 HNE.out.1 0).trans dD, (Chg.cell hC l2 HNE.out.2.1 0).trans dA, (Chg.cell hC l3 HNE.out.2.2.1 0).trans d0, (Chg.cell hC l4 HNE.out.2.2.2.1 0).trans dN, (Chg.cell hC l5 HNE.out.2.2.2.2 0).trans s0⟩; have HS2 : Hid _ := hS; have HF2 : Hid _ := hvb; have HC2 : Hid _ := hC; clear hS hvb hC))
  go_wp2
  go_returns
  refine ⟨rfl, _, _, HS2.out, HM.out _, blk_put (fun b hb => .inl hb) (fun b hb => .inr (HF2.out b hb)), Chg.mono ⟨HC2.out.os, HC2.out.tape, HC2.out.output, HC2.out.size, HC2.out.block⟩ ?_⟩
  rintro b _ rfl
  exact .inr (.inr (.inr (.inl rfl)))
end Go.Proofs.Ytloigepmmhcibaa
