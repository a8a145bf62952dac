/-
  The contracts of Append's closure, where the file is new, and of Rename's. Own work.
-/
import Derived.Test.YtloigepmmhcibaaDn
namespace Go.Proofs.Ytloigepmmhcibaa
open Go.RowKit

theorem Did.trans {w w2 w' : World} {bd bs bc : Nat} {fv fv2 : Value} {ps ps2 : List (AF × Value)} {most : Nat} {fuse : Int} {dark : Bool} {fs' : List AF} (hb : ∀ b, Blk bd bs bc fv2 ps2 b → Blk bd bs bc fv ps b ∨ w.heap.size ≤ b) (hc : Chg (Blk bd bs bc fv ps) w w2)
    (h : Did w2 w' bd bs bc fv2 ps2 most fuse dark fs') : Did w w' bd bs bc fv ps most fuse dark fs' := by
  obtain ⟨fv', ps', h1, h2, h3, h4⟩ := h
  refine ⟨fv', ps', h1, h2, fun b hb' => ?_, hc.trans h4 (fun i hi hB => ?_)⟩
  · rcases h3 b hb' with h | h
    · exact hb b h
    · exact .inr (Nat.le_trans hc.size h)
  · rcases hb i hB with h | h
    · exact h
    · omega
theorem Rd.chg {w w' : World} {v : Value} {l : List UInt8} {F : Nat → Prop} (h : Rd w v l) (hb : Chg F w w') (hF : ∀ a, v.ownBlock = some a → l ≠ [] → ¬ F a) : Rd w' v l := by
  obtain ⟨ao, cap, hv, h1, h2, h3, h4⟩ := h
  refine ⟨ao, cap, hv, h1, h2, h3, fun a ha i hi => ?_⟩
  have hc := h4 a ha i hi
  have hlt := World.block_lt_of_cell? w _ hc
  have hbk : (a.add i).block = a.block := by unfold Addr.add; split <;> rfl
  rw [World.cell?_of_block (w := w) (hb.block _ hlt (by rw [hbk]; exact hF _ (by rw [hv, ha]; rfl) (by intro e; subst e; simp at hi)))]
  exact hc
theorem elem_far {w : World} {bd bs bc : Nat} {fv : Value} {ps : List (AF × Value)} {most : Nat} {fuse : Int} {dark : Bool} (h : St w bd bs bc fv ps most fuse dark) {b : Nat} {c : Array Value} {e : TypeId} {x : Nat × Nat} (hb : w.heap[b]? = some (.cells c e x)) (h1 : e ≠ 79) (h2 : e ≠ 83) : ¬ (fun b => b = bs ∨ fv.ownBlock = some b) b := by
  rintro (rfl | hb2)
  · exact ne_of_elem hb h.hs h1 rfl
  · obtain ⟨c', hc'⟩ := row_elem h.hf hb2
    exact ne_of_elem hb hc' h2 rfl

set_option maxRecDepth 100000 in
set_option maxHeartbeats 4000000 in
theorem append1_new {w : World} {bd bs bc : Nat} {fv : Value} {ps : List (AF × Value)} {most : Nat} {fuse : Int} {dark : Bool} (h : St w bd bs bc fv ps most fuse dark) (hs : sorted (ps.map Prod.fst)) (hmax : ps.length ≤ 999) (cT cD cN cA cB : Nat) (n : ByteArray) (hn : n.size ≤ 1000) (hi : isF (ps.map Prod.fst) n = false)
    (sb : Value) (b : List UInt8) (hb : Rd w sb b) (hsm : b.length ≤ 100000000) (hsa : ∀ a, sb.ownBlock = some a → b ≠ [] → ¬ (fun b => b = bs ∨ fv.ownBlock = some b) a)
    (hT : w.heap[cT]? = some (.cells #[.bool false] 4 (0, 0))) (hD : w.heap[cD]? = some (.cells #[.pointer (some ⟨bd, 0, none⟩)] 23 (0, 0))) (hN : w.heap[cN]? = some (.cells #[.string n] 9 (0, 0))) (hA : w.heap[cA]? = some (.cells #[.int .i64 (posF (ps.map Prod.fst) n)] 3 (0, 0))) (hB : w.heap[cB]? = some (.cells #[sb] 30 (0, 0))) :
    Calls Try.prog 52 #[.pointer (some ⟨cT, 0, none⟩), .pointer (some ⟨cD, 0, none⟩), .pointer (some ⟨cN, 0, none⟩), .pointer (some ⟨cA, 0, none⟩), .pointer (some ⟨cB, 0, none⟩)] w fun e w' => e = .returned (.tuple #[]) ∧
      Did w w' bd bs bc fv ps most fuse dark (putF (ps.map Prod.fst) ⟨n, b, 0⟩) := by
  have mixed : Try.prog.follows Departure.mixedOrders = true := by kernel_rfl
  have dT : w.cell? ⟨cT, 0, none⟩ = some (.bool false) := by rw [cell_of hT]; rfl
  have eD : w.cell? ⟨cD, 0, none⟩ = some (.pointer (some ⟨bd, 0, none⟩)) := by rw [cell_of hD]; rfl
  have eN : w.cell? ⟨cN, 0, none⟩ = some (.string n) := by rw [cell_of hN]; rfl
  have e0 := h.d0
  have HPUT : Hid _ := put_st (w := w.drew) (h.heap fun _ _ => rfl) hs hmax ⟨n, [], 0⟩ (.slice none 0 0) (Own.nil _ _) (fun p _ a _ hx => by cases hx) hn
  have HST : Hid _ := h
  have HFAR : Hid _ := And.intro (elem_far h hD (by decide) (by decide)) (And.intro (elem_far h hN (by decide) (by decide)) (And.intro (elem_far h h.hd (by decide) (by decide)) (And.intro (elem_far h hA (by decide) (by decide)) (elem_far h hB (by decide) (by decide)))))
  have l1 : cD < w.heap.size := (Array.getElem?_eq_some_iff.1 hD).1
  have l2 : cN < w.heap.size := (Array.getElem?_eq_some_iff.1 hN).1
  have l3 := h.ltd
  have HA : Hid _ := hA
  have HB : Hid _ := hB
  have HD : Hid _ := hD
  have HRB : Hid _ := hb
  have HSA : Hid _ := hsa
  have hpl := posF_le (ps.map Prod.fst) n
  rw [List.length_map] at hpl
  obtain ⟨fs, HF⟩ := named (ps.map Prod.fst)
  rw [← HF.out] at hi hpl HA HPUT ⊢
  obtain ⟨k, HK⟩ := named (posF fs n)
  have HJ : Hid (putF fs ⟨n, b, 0⟩ = fs.take k ++ ⟨n, b, 0⟩ :: fs.drop k) := by
    unfold putF
    simp only [hi]
    rw [HK.out]
    rfl
  rw [hi] at HPUT
  rw [← HK.out] at hpl HA HPUT
  simp only [Bool.false_eq_true, ↓reduceIte] at HPUT
  obtain ⟨R, HR⟩ := named (putF fs ⟨n, b, 0⟩)
  rw [← HR.out] at HJ ⊢
  obtain ⟨ps2, HP2⟩ := named (ps.take k ++ ((⟨n, [], 0⟩ : AF), Value.slice none 0 0) :: ps.drop k)
  rw [← HP2.out] at HPUT
  have hkt : (ps.take k).length = k := by rw [List.length_take]; omega
  have hl2 : ps2.length = ps.length + 1 := by rw [HP2.out]; simp only [List.length_append, List.length_take, List.length_cons, List.length_drop]; omega
  have hk2 : k < ps2.length := by omega
  have HG2 : Hid (ps2[k] = ((⟨n, [], 0⟩ : AF), Value.slice none 0 0)) := by
    have : ps2[k]? = some ((⟨n, [], 0⟩ : AF), Value.slice none 0 0) := by
      rw [HP2.out, List.getElem?_append_right (by omega), hkt, Nat.sub_self]; rfl
    exact (List.getElem?_eq_some_iff.1 this).2
  have HM2 : Hid (ps2.map Prod.fst = fs.take k ++ ⟨n, [], 0⟩ :: fs.drop k) := by rw [HP2.out, HF.out]; simp [Hid, List.map_take, List.map_drop]
  have HAT : Hid (atF (ps2.map Prod.fst) k ⟨ps2[k].1.name, ps2[k].1.bytes ++ b, ps2[k].1.safe⟩ = R) := by
    have hft : (fs.take k).length = k := by rw [List.length_take, HF.out, List.length_map]; omega
    rw [HM2.out, HG2.out, HJ.out]
    unfold atF
    rw [List.take_append_of_le_length (by omega), List.take_take, Nat.min_self, List.drop_append, hft, List.drop_eq_nil_of_le (by omega), show k + 1 - k = 1 by omega]
    rfl
  have HBL : Hid (∀ fv2 : Value, (∀ x, fv2.ownBlock = some x → fv.ownBlock = some x ∨ w.heap.size ≤ x) → ∀ x, Blk bd bs bc fv2 ps2 x → Blk bd bs bc fv ps x ∨ w.heap.size ≤ x) := fun fv2 hf x hx => by
    rw [HP2.out] at hx
    exact blk_put hf (fun y hy => by cases hy) x hx
  clear h hb hsa hT hD hN hA hB hs hi hkt hl2 hpl
  go_enter Try.func52, Try.ntmps52
  go_wp2_with fail
  go_region_held3 (fun w' => w'.cell? ⟨cD, 0, none⟩ = some (.pointer (some ⟨bd, 0, none⟩)) ∧ w'.cell? ⟨cN, 0, none⟩ = some (.string n) ∧ w'.cell? ⟨bd, 0, none⟩ = some (.pointer (some ⟨bs, 0, none⟩))) (first | exact HS1.out | exact ⟨eD, eN, e0⟩)
    (first | (go_at_call 53; refine Calls.mono HPUT.out ?_; rintro e w2 ⟨rfl, fv2, hS, hfb, hC⟩; have HS1 : Hid (w2.cell? ⟨cD, 0, none⟩ = some (.pointer (some ⟨bd, 0, none⟩)) ∧ w2.cell? ⟨cN, 0, none⟩ = some (.string n) ∧ w2.cell? ⟨bd, 0, none⟩ = some (.pointer (some ⟨bs, 0, none⟩))) := ⟨(Chg.cell hC l1 HFAR.out.1 0).trans eD, (Chg.cell hC l2 HFAR.out.2.1 0).trans eN, (Chg.cell hC l3 HFAR.out.2.2.1 0).trans e0⟩; have HS2 : Hid _ := hS; have HF2 : Hid _ := hfb; have HC2 : Hid _ := hC; clear hS hfb hC))
  have hCC : Chg (fun b => b = bs ∨ fv.ownBlock = some b) w w2 := ⟨HC2.out.os, HC2.out.tape, HC2.out.output, HC2.out.size, HC2.out.block⟩
  obtain ⟨g, cap, ao, l, cp, bo, bl, bcp, ao', L, cp', w', ⟨hfv, hnc, hsb⟩, ⟨dD, dA, dB, d0, s0, c1⟩, ⟨kD, kA, kB, kd, ks, kg⟩, kz, hr, hdid⟩ := app_pre HS2.out cD cA cB k hk2 sb b (Rd.chg HRB.out hCC HSA.out) (by rw [HG2.out]; simp; omega)
    ((hCC.block _ l1 HFAR.out.1).trans HD.out) ((hCC.block _ (Array.getElem?_eq_some_iff.1 HA.out).1 HFAR.out.2.2.2.1).trans HA.out) ((hCC.block _ (Array.getElem?_eq_some_iff.1 HB.out).1 HFAR.out.2.2.2.2).trans HB.out)
  have HHR : Hid _ := hr
  rw [HAT.out] at hdid
  have HDID : Hid _ := Did.trans (HBL.out fv2 HF2.out) (hCC.mono (fun i _ hi => hi.elim (fun h => .inr (.inl h)) (fun h => .inr (.inr (.inr (.inl h)))))) hdid
  have hkI : (k : Int) < (ps2.length : Int) := by omega
  clear hr hdid hfv hsb hCC
  go_wp2_with fail
  have hs0 : (fun w' => w'.cell? ⟨cD, 0, none⟩ = some (.pointer (some ⟨bd, 0, none⟩)) ∧ w'.cell? ⟨cA, 0, none⟩ = some (.int .i64 k) ∧ w'.cell? ⟨cB, 0, none⟩ = some (.slice bo bl bcp) ∧ w'.cell? ⟨bd, 0, none⟩ = some (.pointer (some ⟨bs, 0, none⟩)) ∧ w'.cell? ⟨bs, 0, none⟩ = some (.slice (some ⟨g, 0, none⟩) ps2.length cap) ∧ w'.cell? ⟨g, k * 3 + 1, none⟩ = some (.slice ao l cp)) w2.drew := ⟨dD, dA, dB, d0, s0, c1⟩
  refine wp_region_E 23 (fun w' => w'.cell? ⟨cD, 0, none⟩ = some (.pointer (some ⟨bd, 0, none⟩)) ∧ w'.cell? ⟨cA, 0, none⟩ = some (.int .i64 k) ∧ w'.cell? ⟨cB, 0, none⟩ = some (.slice bo bl bcp) ∧ w'.cell? ⟨bd, 0, none⟩ = some (.pointer (some ⟨bs, 0, none⟩)) ∧ w'.cell? ⟨bs, 0, none⟩ = some (.slice (some ⟨g, 0, none⟩) ps2.length cap) ∧ w'.cell? ⟨g, k * 3 + 1, none⟩ = some (.slice ao l cp)) mixed ?_
  refine wpAnyE_take 0 (oi := { dst := some 14, op := Go.Op.load 23 (Go.Operand.tmp 1), type := 23, pos := "disk.go:61", after := #[], guard := none }) (v := ?_) rfl (by kernel_rfl) (by kernel_rfl) (by kernel_rfl) (by kernel_rfl) (fun _ _ _ h => h) (Or.inl ⟨by rfl, ?_⟩) hs0 ?_
  rotate_left
  · intro u hu
    obtain ⟨u1, u2, u3, u4, u5, u6⟩ := hu
    go_simp
    try with_reducible rfl
  simp only [Act.put, List.setIfInBounds_toArray, List.set_cons_zero, List.set_cons_succ]
  refine wpAnyE_take 1 (oi := { dst := some 15, op := Go.Op.nilCheck (Go.Operand.tmp 14), type := 0, pos := "disk.go:61", after := #[{ on := 0, ground := Go.Ground.data }], guard := none }) (v := ?_) rfl (by kernel_rfl) (by kernel_rfl) (by kernel_rfl) (by kernel_rfl) (fun _ _ _ h => h) (Or.inl ⟨by rfl, ?_⟩) hs0 ?_
  rotate_left
  · intro u hu
    obtain ⟨u1, u2, u3, u4, u5, u6⟩ := hu
    go_simp
    try with_reducible rfl
  simp only [Act.put, List.setIfInBounds_toArray, List.set_cons_zero, List.set_cons_succ]
  refine wpAnyE_take 2 (oi := { dst := some 16, op := Go.Op.fieldAddr 57 (Go.Operand.tmp 15) 0, type := 0, pos := "disk.go:61", after := #[{ on := 1, ground := Go.Ground.data }], guard := none }) (v := ?_) rfl (by kernel_rfl) (by kernel_rfl) (by kernel_rfl) (by kernel_rfl) (fun _ _ _ h => h) (Or.inl ⟨by rfl, ?_⟩) hs0 ?_
  rotate_left
  · intro u hu
    obtain ⟨u1, u2, u3, u4, u5, u6⟩ := hu
    go_simp
    try with_reducible rfl
  simp only [Act.put, List.setIfInBounds_toArray, List.set_cons_zero, List.set_cons_succ]
  refine wpAnyE_take 3 (oi := { dst := some 17, op := Go.Op.load 55 (Go.Operand.tmp 16), type := 55, pos := "disk.go:61", after := #[{ on := 2, ground := Go.Ground.data }], guard := none }) (v := ?_) rfl (by kernel_rfl) (by kernel_rfl) (by kernel_rfl) (by kernel_rfl) (fun _ _ _ h => h) (Or.inl ⟨by rfl, ?_⟩) hs0 ?_
  rotate_left
  · intro u hu
    obtain ⟨u1, u2, u3, u4, u5, u6⟩ := hu
    go_simp
    try with_reducible rfl
  simp only [Act.put, List.setIfInBounds_toArray, List.set_cons_zero, List.set_cons_succ]
  refine wpAnyE_take 4 (oi := { dst := some 18, op := Go.Op.nilCheck (Go.Operand.tmp 17), type := 0, pos := "disk.go:61", after := #[{ on := 3, ground := Go.Ground.data }], guard := none }) (v := ?_) rfl (by kernel_rfl) (by kernel_rfl) (by kernel_rfl) (by kernel_rfl) (fun _ _ _ h => h) (Or.inl ⟨by rfl, ?_⟩) hs0 ?_
  rotate_left
  · intro u hu
    obtain ⟨u1, u2, u3, u4, u5, u6⟩ := hu
    go_simp
    try with_reducible rfl
  simp only [Act.put, List.setIfInBounds_toArray, List.set_cons_zero, List.set_cons_succ]
  refine wpAnyE_take 5 (oi := { dst := some 19, op := Go.Op.fieldAddr 79 (Go.Operand.tmp 18) 0, type := 0, pos := "disk.go:61", after := #[{ on := 4, ground := Go.Ground.data }], guard := none }) (v := ?_) rfl (by kernel_rfl) (by kernel_rfl) (by kernel_rfl) (by kernel_rfl) (fun _ _ _ h => h) (Or.inl ⟨by rfl, ?_⟩) hs0 ?_
  rotate_left
  · intro u hu
    obtain ⟨u1, u2, u3, u4, u5, u6⟩ := hu
    go_simp
    try with_reducible rfl
  simp only [Act.put, List.setIfInBounds_toArray, List.set_cons_zero, List.set_cons_succ]
  refine wpAnyE_take 6 (oi := { dst := some 20, op := Go.Op.load 76 (Go.Operand.tmp 19), type := 76, pos := "disk.go:61", after := #[{ on := 5, ground := Go.Ground.data }], guard := none }) (v := ?_) rfl (by kernel_rfl) (by kernel_rfl) (by kernel_rfl) (by kernel_rfl) (fun _ _ _ h => h) (Or.inl ⟨by rfl, ?_⟩) hs0 ?_
  rotate_left
  · intro u hu
    obtain ⟨u1, u2, u3, u4, u5, u6⟩ := hu
    go_simp
    try with_reducible rfl
  simp only [Act.put, List.setIfInBounds_toArray, List.set_cons_zero, List.set_cons_succ]
  refine wpAnyE_take 7 (oi := { dst := some 21, op := Go.Op.load 3 (Go.Operand.tmp 3), type := 3, pos := "disk.go:61", after := #[], guard := none }) (v := ?_) rfl (by kernel_rfl) (by kernel_rfl) (by kernel_rfl) (by kernel_rfl) (fun _ _ _ h => h) (Or.inl ⟨by rfl, ?_⟩) hs0 ?_
  rotate_left
  · intro u hu
    obtain ⟨u1, u2, u3, u4, u5, u6⟩ := hu
    go_simp
    try with_reducible rfl
  simp only [Act.put, List.setIfInBounds_toArray, List.set_cons_zero, List.set_cons_succ]
  refine wpAnyE_take 8 (oi := { dst := some 22, op := Go.Op.load 23 (Go.Operand.tmp 1), type := 23, pos := "disk.go:61", after := #[], guard := none }) (v := ?_) rfl (by kernel_rfl) (by kernel_rfl) (by kernel_rfl) (by kernel_rfl) (fun _ _ _ h => h) (Or.inl ⟨by rfl, ?_⟩) hs0 ?_
  rotate_left
  · intro u hu
    obtain ⟨u1, u2, u3, u4, u5, u6⟩ := hu
    go_simp
    try with_reducible rfl
  simp only [Act.put, List.setIfInBounds_toArray, List.set_cons_zero, List.set_cons_succ]
  refine wpAnyE_take 9 (oi := { dst := some 23, op := Go.Op.nilCheck (Go.Operand.tmp 22), type := 0, pos := "disk.go:61", after := #[{ on := 8, ground := Go.Ground.data }], guard := none }) (v := ?_) rfl (by kernel_rfl) (by kernel_rfl) (by kernel_rfl) (by kernel_rfl) (fun _ _ _ h => h) (Or.inl ⟨by rfl, ?_⟩) hs0 ?_
  rotate_left
  · intro u hu
    obtain ⟨u1, u2, u3, u4, u5, u6⟩ := hu
    go_simp
    try with_reducible rfl
  simp only [Act.put, List.setIfInBounds_toArray, List.set_cons_zero, List.set_cons_succ]
  refine wpAnyE_take 10 (oi := { dst := some 24, op := Go.Op.fieldAddr 57 (Go.Operand.tmp 23) 0, type := 0, pos := "disk.go:61", after := #[{ on := 9, ground := Go.Ground.data }], guard := none }) (v := ?_) rfl (by kernel_rfl) (by kernel_rfl) (by kernel_rfl) (by kernel_rfl) (fun _ _ _ h => h) (Or.inl ⟨by rfl, ?_⟩) hs0 ?_
  rotate_left
  · intro u hu
    obtain ⟨u1, u2, u3, u4, u5, u6⟩ := hu
    go_simp
    try with_reducible rfl
  simp only [Act.put, List.setIfInBounds_toArray, List.set_cons_zero, List.set_cons_succ]
  refine wpAnyE_take 11 (oi := { dst := some 25, op := Go.Op.load 55 (Go.Operand.tmp 24), type := 55, pos := "disk.go:61", after := #[{ on := 10, ground := Go.Ground.data }], guard := none }) (v := ?_) rfl (by kernel_rfl) (by kernel_rfl) (by kernel_rfl) (by kernel_rfl) (fun _ _ _ h => h) (Or.inl ⟨by rfl, ?_⟩) hs0 ?_
  rotate_left
  · intro u hu
    obtain ⟨u1, u2, u3, u4, u5, u6⟩ := hu
    go_simp
    try with_reducible rfl
  simp only [Act.put, List.setIfInBounds_toArray, List.set_cons_zero, List.set_cons_succ]
  refine wpAnyE_take 12 (oi := { dst := some 26, op := Go.Op.nilCheck (Go.Operand.tmp 25), type := 0, pos := "disk.go:61", after := #[{ on := 11, ground := Go.Ground.data }], guard := none }) (v := ?_) rfl (by kernel_rfl) (by kernel_rfl) (by kernel_rfl) (by kernel_rfl) (fun _ _ _ h => h) (Or.inl ⟨by rfl, ?_⟩) hs0 ?_
  rotate_left
  · intro u hu
    obtain ⟨u1, u2, u3, u4, u5, u6⟩ := hu
    go_simp
    try with_reducible rfl
  simp only [Act.put, List.setIfInBounds_toArray, List.set_cons_zero, List.set_cons_succ]
  refine wpAnyE_take 13 (oi := { dst := some 27, op := Go.Op.fieldAddr 79 (Go.Operand.tmp 26) 0, type := 0, pos := "disk.go:61", after := #[{ on := 12, ground := Go.Ground.data }], guard := none }) (v := ?_) rfl (by kernel_rfl) (by kernel_rfl) (by kernel_rfl) (by kernel_rfl) (fun _ _ _ h => h) (Or.inl ⟨by rfl, ?_⟩) hs0 ?_
  rotate_left
  · intro u hu
    obtain ⟨u1, u2, u3, u4, u5, u6⟩ := hu
    go_simp
    try with_reducible rfl
  simp only [Act.put, List.setIfInBounds_toArray, List.set_cons_zero, List.set_cons_succ]
  refine wpAnyE_take 14 (oi := { dst := some 28, op := Go.Op.load 76 (Go.Operand.tmp 27), type := 76, pos := "disk.go:61", after := #[{ on := 13, ground := Go.Ground.data }], guard := none }) (v := ?_) rfl (by kernel_rfl) (by kernel_rfl) (by kernel_rfl) (by kernel_rfl) (fun _ _ _ h => h) (Or.inl ⟨by rfl, ?_⟩) hs0 ?_
  rotate_left
  · intro u hu
    obtain ⟨u1, u2, u3, u4, u5, u6⟩ := hu
    go_simp
    try with_reducible rfl
  simp only [Act.put, List.setIfInBounds_toArray, List.set_cons_zero, List.set_cons_succ]
  refine wpAnyE_take 15 (oi := { dst := some 29, op := Go.Op.load 3 (Go.Operand.tmp 3), type := 3, pos := "disk.go:61", after := #[], guard := none }) (v := ?_) rfl (by kernel_rfl) (by kernel_rfl) (by kernel_rfl) (by kernel_rfl) (fun _ _ _ h => h) (Or.inl ⟨by rfl, ?_⟩) hs0 ?_
  rotate_left
  · intro u hu
    obtain ⟨u1, u2, u3, u4, u5, u6⟩ := hu
    go_simp
    try with_reducible rfl
  simp only [Act.put, List.setIfInBounds_toArray, List.set_cons_zero, List.set_cons_succ]
  refine wpAnyE_take 16 (oi := { dst := some 30, op := Go.Op.indexAddr 76 (Go.Operand.tmp 28) (Go.Operand.tmp 29), type := 0, pos := "disk.go:61", after := #[{ on := 14, ground := Go.Ground.data }, { on := 15, ground := Go.Ground.data }], guard := none }) (v := ?_) rfl (by kernel_rfl) (by kernel_rfl) (by kernel_rfl) (by kernel_rfl) (fun _ _ _ h => h) (Or.inl ⟨by rfl, ?_⟩) hs0 ?_
  rotate_left
  · intro u hu
    obtain ⟨u1, u2, u3, u4, u5, u6⟩ := hu
    go_simp
    try with_reducible rfl
  simp only [Act.put, List.setIfInBounds_toArray, List.set_cons_zero, List.set_cons_succ]
  refine wpAnyE_take 17 (oi := { dst := some 31, op := Go.Op.fieldAddr 83 (Go.Operand.tmp 30) 1, type := 0, pos := "disk.go:61", after := #[{ on := 16, ground := Go.Ground.data }], guard := none }) (v := ?_) rfl (by kernel_rfl) (by kernel_rfl) (by kernel_rfl) (by kernel_rfl) (fun _ _ _ h => h) (Or.inl ⟨by rfl, ?_⟩) hs0 ?_
  rotate_left
  · intro u hu
    obtain ⟨u1, u2, u3, u4, u5, u6⟩ := hu
    go_simp
    try with_reducible rfl
  simp only [Act.put, List.setIfInBounds_toArray, List.set_cons_zero, List.set_cons_succ]
  refine wpAnyE_take 18 (oi := { dst := some 32, op := Go.Op.load 30 (Go.Operand.tmp 31), type := 30, pos := "disk.go:61", after := #[{ on := 17, ground := Go.Ground.data }], guard := none }) (v := ?_) rfl (by kernel_rfl) (by kernel_rfl) (by kernel_rfl) (by kernel_rfl) (fun _ _ _ h => h) (Or.inl ⟨by rfl, ?_⟩) hs0 ?_
  rotate_left
  · intro u hu
    obtain ⟨u1, u2, u3, u4, u5, u6⟩ := hu
    go_simp
    try with_reducible rfl
  simp only [Act.put, List.setIfInBounds_toArray, List.set_cons_zero, List.set_cons_succ]
  refine wpAnyE_take 19 (oi := { dst := some 33, op := Go.Op.load 30 (Go.Operand.tmp 4), type := 30, pos := "disk.go:61", after := #[], guard := none }) (v := ?_) rfl (by kernel_rfl) (by kernel_rfl) (by kernel_rfl) (by kernel_rfl) (fun _ _ _ h => h) (Or.inl ⟨by rfl, ?_⟩) hs0 ?_
  rotate_left
  · intro u hu
    obtain ⟨u1, u2, u3, u4, u5, u6⟩ := hu
    go_simp
    try with_reducible rfl
  simp only [Act.put, List.setIfInBounds_toArray, List.set_cons_zero, List.set_cons_succ]
  refine wpAnyE_one (i := 20) (o := { dst := some 34, op := Go.Op.call { callee := Go.Callee.builtin Go.Builtin.append, args := #[Go.Operand.tmp 32, Go.Operand.tmp 33], argTypes := #[30, 30] }, type := 30, pos := "disk.go:61", after := #[{ on := 18, ground := Go.Ground.data }, { on := 19, ground := Go.Ground.data }], guard := none }) (by kernel_rfl) rfl (fun K hK => ?_)
  refine step_append_runI rfl (.tmp 32) (.tmp 33) 30 30 rfl (.slice ao l cp) (.slice bo bl bcp) (by simp [Act.eval]) (by simp [Act.eval]) HHR.out ?_
  refine hK _ _ (fun _ => ⟨kD, kA, kB, kd, ks, kg⟩) ?_
  clear hK K
  simp only [Act.put, List.setIfInBounds_toArray, List.set_cons_zero, List.set_cons_succ]
  refine wpAnyE_one (i := 21) (o := { dst := some 35, op := Go.Op.indexAddr 76 (Go.Operand.tmp 20) (Go.Operand.tmp 21), type := 0, pos := "disk.go:61", after := #[{ on := 6, ground := Go.Ground.data }, { on := 7, ground := Go.Ground.data }, { on := 0, ground := Go.Ground.phase }, { on := 1, ground := Go.Ground.phase }, { on := 2, ground := Go.Ground.phase }, { on := 3, ground := Go.Ground.phase }, { on := 4, ground := Go.Ground.phase }, { on := 5, ground := Go.Ground.phase }, { on := 6, ground := Go.Ground.phase }, { on := 7, ground := Go.Ground.phase }, { on := 8, ground := Go.Ground.phase }, { on := 9, ground := Go.Ground.phase }, { on := 10, ground := Go.Ground.phase }, { on := 11, ground := Go.Ground.phase }, { on := 12, ground := Go.Ground.phase }, { on := 13, ground := Go.Ground.phase }, { on := 14, ground := Go.Ground.phase }, { on := 15, ground := Go.Ground.phase }, { on := 16, ground := Go.Ground.phase }, { on := 17, ground := Go.Ground.phase }, { on := 18, ground := Go.Ground.phase }, { on := 19, ground := Go.Ground.phase }, { on := 20, ground := Go.Ground.phase }], guard := none }) (by kernel_rfl) rfl (fun K hK => ?_)
  go_simp
  refine hK _ _ (fun _ => ⟨kD, kA, kB, kd, ks, kg⟩) ?_
  clear hK K
  refine wpAnyE_take 22 (oi := { dst := some 36, op := Go.Op.fieldAddr 83 (Go.Operand.tmp 35) 1, type := 0, pos := "disk.go:61", after := #[{ on := 21, ground := Go.Ground.data }, { on := 0, ground := Go.Ground.phase }, { on := 1, ground := Go.Ground.phase }, { on := 2, ground := Go.Ground.phase }, { on := 3, ground := Go.Ground.phase }, { on := 4, ground := Go.Ground.phase }, { on := 5, ground := Go.Ground.phase }, { on := 6, ground := Go.Ground.phase }, { on := 7, ground := Go.Ground.phase }, { on := 8, ground := Go.Ground.phase }, { on := 9, ground := Go.Ground.phase }, { on := 10, ground := Go.Ground.phase }, { on := 11, ground := Go.Ground.phase }, { on := 12, ground := Go.Ground.phase }, { on := 13, ground := Go.Ground.phase }, { on := 14, ground := Go.Ground.phase }, { on := 15, ground := Go.Ground.phase }, { on := 16, ground := Go.Ground.phase }, { on := 17, ground := Go.Ground.phase }, { on := 18, ground := Go.Ground.phase }, { on := 19, ground := Go.Ground.phase }, { on := 20, ground := Go.Ground.phase }], guard := none }) (v := ?_) rfl (by kernel_rfl) (by kernel_rfl) (by kernel_rfl) (by kernel_rfl) (fun _ _ _ h => h) (Or.inl ⟨by rfl, ?_⟩) ⟨kD, kA, kB, kd, ks, kg⟩ ?_
  rotate_left
  · intro u hu
    obtain ⟨u1, u2, u3, u4, u5, u6⟩ := hu
    go_simp
    try with_reducible rfl
  simp only [Act.put, List.setIfInBounds_toArray, List.set_cons_zero, List.set_cons_succ]
  refine wpAnyE_one (i := 23) (o := { dst := none, op := Go.Op.store 30 (Go.Operand.tmp 36) (Go.Operand.tmp 34), type := 0, pos := "disk.go:61", after := #[{ on := 22, ground := Go.Ground.data }, { on := 20, ground := Go.Ground.data }, { on := 20, ground := Go.Ground.chain }, { on := 0, ground := Go.Ground.phase }, { on := 1, ground := Go.Ground.phase }, { on := 2, ground := Go.Ground.phase }, { on := 3, ground := Go.Ground.phase }, { on := 4, ground := Go.Ground.phase }, { on := 5, ground := Go.Ground.phase }, { on := 6, ground := Go.Ground.phase }, { on := 7, ground := Go.Ground.phase }, { on := 8, ground := Go.Ground.phase }, { on := 9, ground := Go.Ground.phase }, { on := 10, ground := Go.Ground.phase }, { on := 11, ground := Go.Ground.phase }, { on := 12, ground := Go.Ground.phase }, { on := 13, ground := Go.Ground.phase }, { on := 14, ground := Go.Ground.phase }, { on := 15, ground := Go.Ground.phase }, { on := 16, ground := Go.Ground.phase }, { on := 17, ground := Go.Ground.phase }, { on := 18, ground := Go.Ground.phase }, { on := 19, ground := Go.Ground.phase }, { on := 20, ground := Go.Ground.phase }], guard := none }) (by kernel_rfl) rfl (fun K hK => ?_)
  go_simp
  refine hK _ _ (fun h => absurd rfl h) ?_
  clear hK K
  refine wpAnyE_done (by kernel_rfl) ?_
  go_wp2
  go_returns
  exact ⟨rfl, HDID.out⟩
end Go.Proofs.Ytloigepmmhcibaa
