/-
  awake: the chapter's examples come out as written. Own work.
-/
import Derived.Test.YtpiiehenmkinaaaDoorCj
namespace Go.Proofs.YtpiiehenmkinaaaDoor
open Go.RowKit

theorem show1 : showB ⟨3, 2, 0, 1, 0, ⟨#[]⟩⟩ = ⟨#[97, 100, 100, 32, 50, 32, 48, 32, 49, 32, 48]⟩ := by decide +kernel
theorem show2 : showB ⟨10, 1, 0, 2, 0, ⟨#[112, 97, 121]⟩⟩ = ⟨#[97, 99, 116, 32, 49, 32, 48, 32, 50, 32, 48, 32, 112, 97, 121]⟩ := by decide +kernel
/-- three cells of a block that may be written -/
def C3 (w : World) (g : Nat) (a b c : Value) : Prop := g < w.heap.size ∧ w.cell? ⟨g, 0, none⟩ = some a ∧ w.cell? ⟨g, 1, none⟩ = some b ∧ w.cell? ⟨g, 2, none⟩ = some c ∧ w.frozen? ⟨g, 0, none⟩ = false ∧ w.frozen? ⟨g, 1, none⟩ = false ∧ w.frozen? ⟨g, 2, none⟩ = false
theorem C3.of {w : World} {g : Nat} {a b c : Value} {t : TypeId} (h : w.heap[g]? = some (.cells #[a, b, c] t (0, 0))) : C3 w g a b c :=
  ⟨(Array.getElem?_eq_some_iff.1 h).1, by simp [World.cell?, h], by simp [World.cell?, h], by simp [World.cell?, h], by simp [World.frozen?, h], by simp [World.frozen?, h], by simp [World.frozen?, h]⟩
theorem C3.new (w : World) (a b c : Value) (t : TypeId) : C3 (w.alloc (.cells #[a, b, c] t)) w.heap.size a b c := C3.of (heap_alloc_new w _)
theorem C3.below {w w' : World} {g : Nat} {a b c : Value} (h : C3 w g a b c) (hb : Below w.heap.size w w') : C3 w' g a b c := by
  obtain ⟨h0, h1, h2, h3, h4, h5, h6⟩ := h
  exact ⟨Nat.lt_of_lt_of_le h0 hb.size, (hb.cell (p := ⟨g, 0, none⟩) h0).trans h1, (hb.cell (p := ⟨g, 1, none⟩) h0).trans h2, (hb.cell (p := ⟨g, 2, none⟩) h0).trans h3, (hb.frozen (p := ⟨g, 0, none⟩) h0).trans h4, (hb.frozen (p := ⟨g, 1, none⟩) h0).trans h5, (hb.frozen (p := ⟨g, 2, none⟩) h0).trans h6⟩
theorem C3.alloc {w : World} {g : Nat} {a b c : Value} (h : C3 w g a b c) (o : Obj) : C3 (w.alloc o) g a b c := h.below ((Below.refl _ _).alloc (Nat.le_refl _) _)

def set3 (w : World) (g : Nat) (a b c : Value) : World := ((w.setCell ⟨g, 0, none⟩ a).setCell ⟨g, 1, none⟩ b).setCell ⟨g, 2, none⟩ c
theorem set3_size (w : World) (g : Nat) (a b c : Value) : (set3 w g a b c).heap.size = w.heap.size := by simp [set3, World.setCell]
theorem below_set3 {B g : Nat} {w w' : World} (h : Below B w w') (a b c : Value) (hg : B ≤ g) : Below B w (set3 w' g a b c) := ((h.setCell hg _).setCell hg _).setCell hg _
theorem cell_other (w : World) (g o g' o' : Nat) (x : Value) (h : g ≠ g' ∨ o ≠ o') : (w.setCell ⟨g', o', none⟩ x).cell? ⟨g, o, none⟩ = w.cell? ⟨g, o, none⟩ :=
  World.cell?_setCell_other w _ _ x (fun e => by cases e; rcases h with h | h <;> exact h rfl)
theorem C3.other {w : World} {g g' : Nat} {a b c : Value} (x y z : Value) (h : C3 w g a b c) (hg : g ≠ g') : C3 (set3 w g' x y z) g a b c := by
  obtain ⟨h0, h1, h2, h3, h4, h5, h6⟩ := h
  have e : ∀ o, (set3 w g' x y z).cell? ⟨g, o, none⟩ = w.cell? ⟨g, o, none⟩ := fun o => by
    unfold set3
    rw [cell_other _ _ _ _ _ _ (.inl hg), cell_other _ _ _ _ _ _ (.inl hg), cell_other _ _ _ _ _ _ (.inl hg)]
  have f : ∀ o, (set3 w g' x y z).frozen? ⟨g, o, none⟩ = w.frozen? ⟨g, o, none⟩ := fun o => by simp [set3]
  exact ⟨by rw [set3_size]; exact h0, (e 0).trans h1, (e 1).trans h2, (e 2).trans h3, (f 0).trans h4, (f 1).trans h5, (f 2).trans h6⟩
theorem C3.set {w : World} {g : Nat} {a b c : Value} (x y z : Value) (h : C3 w g a b c) : C3 (set3 w g x y z) g x y z := by
  obtain ⟨h0, h1, h2, h3, h4, h5, h6⟩ := h
  have f : ∀ o, (set3 w g x y z).frozen? ⟨g, o, none⟩ = w.frozen? ⟨g, o, none⟩ := fun o => by simp [set3]
  refine ⟨by rw [set3_size]; exact h0, ?_, ?_, ?_, (f 0).trans h4, (f 1).trans h5, (f 2).trans h6⟩
  · unfold set3
    rw [cell_other _ _ _ _ _ _ (.inr (by omega)), cell_other _ _ _ _ _ _ (.inr (by omega))]
    exact World.cell?_setCell_same _ _ _ h1
  · unfold set3
    rw [cell_other _ _ _ _ _ _ (.inr (by omega))]
    exact World.cell?_setCell_same _ _ _ ((cell_other _ _ _ _ _ _ (.inr (by omega))).trans h2)
  · unfold set3
    exact World.cell?_setCell_same _ _ _ ((cell_other _ _ _ _ _ _ (.inr (by omega))).trans ((cell_other _ _ _ _ _ _ (.inr (by omega))).trans h3))
theorem C3.one {w : World} {g g' o : Nat} {a b c : Value} (x : Value) (h : C3 w g a b c) (hg : g ≠ g') : C3 (w.setCell ⟨g', o, none⟩ x) g a b c := by
  obtain ⟨h0, h1, h2, h3, h4, h5, h6⟩ := h
  exact ⟨by simpa [World.setCell] using h0, (cell_other _ _ _ _ _ _ (.inl hg)).trans h1, (cell_other _ _ _ _ _ _ (.inl hg)).trans h2, (cell_other _ _ _ _ _ _ (.inl hg)).trans h3, by simpa using h4, by simpa using h5, by simpa using h6⟩
theorem C3.third {w : World} {g : Nat} {a b c : Value} (x : Value) (h : C3 w g a b c) : C3 (w.setCell ⟨g, 2, none⟩ x) g a b x := by
  obtain ⟨h0, h1, h2, h3, h4, h5, h6⟩ := h
  exact ⟨by simpa [World.setCell] using h0, (cell_other _ _ _ _ _ _ (.inr (by omega))).trans h1, (cell_other _ _ _ _ _ _ (.inr (by omega))).trans h2, World.cell?_setCell_same _ _ _ h3, by simpa using h4, by simpa using h5, by simpa using h6⟩
theorem RdC.far {w : World} {g off n cap b o : Nat} {l : List Ins} (u : Value) (h : RdC w (.slice (some ⟨g, off, none⟩) n cap) l) (hg : g ≠ b) : RdC (w.setCell ⟨b, o, none⟩ u) (.slice (some ⟨g, off, none⟩) n cap) l := by
  obtain ⟨ao, c, hv, h1, h2, h3, h4⟩ := h
  refine ⟨ao, c, hv, h1, h2, h3, fun k hk => ?_⟩
  obtain ⟨b', off', e, hc⟩ := h4 k hk
  subst e
  cases hv
  exact ⟨_, _, rfl, fun j x hx => (cell_other _ _ _ _ _ _ (.inl hg)).trans (hc j x hx)⟩
theorem RdC.one (w : World) (i : Ins) : RdC (w.alloc (.cells #[.int .u8 (i.op : Int), .int .i64 i.a, .int .i64 i.b, .int .i64 i.c, .int .i64 i.n, .string i.s] 28)) (.slice (some ⟨w.heap.size, 0, none⟩) 1 1) [i] := by
  refine ⟨_, 1, rfl, Nat.le_refl _, by decide, by simp, fun k hk => ⟨_, _, rfl, fun j u hu => ?_⟩⟩
  have h0 : k = 0 := by simpa using hk
  subst h0
  rw [show 0 + 0 * 6 + j = j by omega, cell_of_row _ w.heap.size j _ 28 (0, 0) (heap_alloc_new w _)]
  rw [← hu]
  simp [insC]
def oneI (o : Nat) : Ins := ⟨o, 0, 0, 0, 0, ⟨#[]⟩⟩
theorem oneI_wf (o : Nat) (h : o < 256) : ∀ i ∈ [oneI o], i.wf := by
  intro i hi
  rw [List.mem_singleton.1 hi]
  exact ⟨h, by unfold IR oneI; simp, by unfold IR oneI; simp, by unfold IR oneI; simp, by unfold IR oneI; simp, by show (⟨#[]⟩ : ByteArray).size ≤ maxLen; decide⟩
theorem wf_small (op : Nat) (a b c n : Int) (s : ByteArray) (h : op < 256) (ha : 0 ≤ a ∧ a ≤ 100) (hb : 0 ≤ b ∧ b ≤ 100) (hc : 0 ≤ c ∧ c ≤ 100) (hn : 0 ≤ n ∧ n ≤ 100) (hs : s.size ≤ 100) : (⟨op, a, b, c, n, s⟩ : Ins).wf :=
  ⟨h, by unfold IR; simp only; omega, by unfold IR; simp only; omega, by unfold IR; simp only; omega, by unfold IR; simp only; omega, by unfold maxLen; simp only; omega⟩
theorem err15 : errP ⟨⟨#[112]⟩, 1, [oneI 15]⟩ 0 = 0 := by decide +kernel
theorem err1 : errP ⟨⟨#[112]⟩, 1, [oneI 1]⟩ 0 = 100 := by decide +kernel
theorem err8 : errP ⟨⟨#[112]⟩, 1, [oneI 8]⟩ 0 = 0 := by decide +kernel
set_option maxRecDepth 100000 in
set_option maxHeartbeats 3200000 in
theorem awake_true (w : World) (hl : Laid w) : Calls Tryd.prog 9 #[] w fun e w' => e = .returned (.bool true) ∧ Below w.heap.size w w' := by
  obtain ⟨pb, HPB⟩ := named (w.heap.size + 1)
  obtain ⟨W, HW⟩ := named ((w.alloc (.cells #[.int .u8 15, .int .i64 0, .int .i64 0, .int .i64 0, .int .i64 0, .string ⟨#[]⟩] 28)).alloc (.cells #[.string ⟨#[112]⟩, .int .i64 1, .slice (some ⟨w.heap.size, 0, none⟩) 1 1] 24))
  have hc : C3 W pb (.string ⟨#[112]⟩) (.int .i64 1) (.slice (some ⟨w.heap.size, 0, none⟩) 1 1) := by
    rw [HW.out, HPB.out]
    have := C3.new (w.alloc (.cells #[.int .u8 15, .int .i64 0, .int .i64 0, .int .i64 0, .int .i64 0, .string ⟨#[]⟩] 28)) (.string ⟨#[112]⟩) (.int .i64 1) (.slice (some ⟨w.heap.size, 0, none⟩) 1 1) 24
    simpa using this
  have HCP := hide hc
  have hwW : Below w.heap.size w W := by rw [HW.out]; exact ((Below.refl _ _).alloc (Nat.le_refl _) _).alloc (by simp) _
  have hrp : RdC W (.slice (some ⟨w.heap.size, 0, none⟩) 1 1) [oneI 15] := by rw [HW.out]; exact (RdC.one w (oneI 15)).alloc _
  have hzW : W.heap.size = w.heap.size + 2 := by rw [HW.out]; simp
  have HPW := hide (show pb < W.heap.size from hc.1)
  have hs0 : W.drew.cell? ⟨pb, 0, none⟩ = some (.string ⟨#[112]⟩) ∧ W.drew.cell? ⟨pb, 1, none⟩ = some (.int .i64 1) ∧ W.drew.cell? ⟨pb, 2, none⟩ = some (.slice (some ⟨w.heap.size, 0, none⟩) 1 1) := ⟨hc.2.1, hc.2.2.1, hc.2.2.2.1⟩
  obtain ⟨V1, HV1⟩ := named ((W.alloc (.cells #[.string ⟨#[]⟩, .int .i64 0, .slice none 0 0] 24)).drew)
  obtain ⟨V2, HV2⟩ := named (V1.alloc (.cells #[.string ⟨#[]⟩, .int .i64 0, .slice none 0 0] 24))
  have bV1 : Below W.heap.size W V1 := by rw [HV1.out]; exact ((Below.refl _ _).alloc (Nat.le_refl _) _).drew
  have bV2 : Below V1.heap.size V1 V2 := by rw [HV2.out]; exact (Below.refl _ _).alloc (Nat.le_refl _) _
  have zV1 : V1.heap.size = W.heap.size + 1 := by rw [HV1.out]; simp
  have zV2 : V2.heap.size = W.heap.size + 2 := by rw [HV2.out]; simp [zV1]
  have cA1 : C3 V1 W.heap.size (.string ⟨#[]⟩) (.int .i64 0) (.slice none 0 0) := by rw [HV1.out]; exact C3.new _ _ _ _ _
  have cB2 : C3 V2 V1.heap.size (.string ⟨#[]⟩) (.int .i64 0) (.slice none 0 0) := by rw [HV2.out]; exact C3.new _ _ _ _ _
  have cA2 := cA1.below bV2
  have HP1 := hide (hc.below bV1)
  have HP2 := hide (HP1.out.below bV2)
  have HS1 := hide (show V1.cell? ⟨pb, 0, none⟩ = some (.string ⟨#[112]⟩) ∧ V1.cell? ⟨pb, 1, none⟩ = some (.int .i64 1) ∧ V1.cell? ⟨pb, 2, none⟩ = some (.slice (some ⟨w.heap.size, 0, none⟩) 1 1) from ⟨HP1.out.2.1, HP1.out.2.2.1, HP1.out.2.2.2.1⟩)
  have HS2 := hide (show V2.cell? ⟨pb, 0, none⟩ = some (.string ⟨#[112]⟩) ∧ V2.cell? ⟨pb, 1, none⟩ = some (.int .i64 1) ∧ V2.cell? ⟨pb, 2, none⟩ = some (.slice (some ⟨w.heap.size, 0, none⟩) 1 1) from ⟨HP2.out.2.1, HP2.out.2.2.1, HP2.out.2.2.2.1⟩)
  obtain ⟨lA, a0, a1, a2, f0, f1, f2⟩ := id cA2
  obtain ⟨lB, b0, b1, b2, e0, e1, e2⟩ := id cB2
  have hB2z : C3 V2 (W.heap.size + 1) (.string ⟨#[]⟩) (.int .i64 0) (.slice none 0 0) := by rw [← zV1]; exact cB2
  rw [zV1] at b0 b1 b2 e0 e1 e2
  have HBV := hide (below_call (below_call hwW bV1) bV2)
  have HRP := hide ((hrp.below bV1).below bV2)
  have HZW := hide hzW
  have HZ2 := hide zV2
  have HA2 := hide cA2
  have HB2 := hide hB2z
  clear hc cA1 cA2 cB2 hB2z hwW hrp hzW zV2 bV1 bV2 lA lB
  go_enter Tryd.func9, Tryd.ntmps9
  go_wp2_with fail
  rw [← HW.out, ← HPB.out]
  refine wp_region_held_drew (S := (fun u => u.cell? ⟨pb, 0, none⟩ = some (.string ⟨#[112]⟩) ∧ u.cell? ⟨pb, 1, none⟩ = some (.int .i64 1) ∧ u.cell? ⟨pb, 2, none⟩ = some (.slice (some ⟨w.heap.size, 0, none⟩) 1 1))) (by kernel_rfl) hs0 (fun _ => ?_)
  refine wpAnyH_take (i := 0) (oi := { dst := some 7, op := Go.Op.load 24 (Go.Operand.tmp 1), type := 24, pos := "law.go:15", after := #[], guard := none }) (v := ?_) rfl (by kernel_rfl) (by kernel_rfl) (by kernel_rfl) (fun _ _ _ h => h) (Or.inl ⟨by rfl, ?hy1⟩) hs0 ?_
  case hy1 =>
    intro u hu
    obtain ⟨u0, u1, u2⟩ := hu
    go_simp
    try with_reducible rfl
  simp only [Act.put, List.setIfInBounds_toArray, List.set_cons_zero, List.set_cons_succ]
  refine wpAnyH_take (i := 1) (oi := { dst := some 8, op := Go.Op.load 24 (Go.Operand.tmp 1), type := 24, pos := "law.go:15", after := #[{ on := 4, ground := Go.Ground.gcOnly Go.Departure.lateStores }], guard := none }) (v := ?_) rfl (by kernel_rfl) (by kernel_rfl) (by kernel_rfl) (fun _ _ _ h => h) (Or.inl ⟨by rfl, ?hy2⟩) hs0 ?_
  case hy2 =>
    intro u hu
    obtain ⟨u0, u1, u2⟩ := hu
    go_simp
    try with_reducible rfl
  simp only [Act.put, List.setIfInBounds_toArray, List.set_cons_zero, List.set_cons_succ]
  refine wpAnyH_ready (rs := [2, 3]) (by kernel_rfl) (by simp) ?_
  refine AllReadyH.cons (o := { dst := some 2, op := Go.Op.alloc 24, type := 0, pos := "law.go:15", after := #[], guard := none }) rfl (fun K hK => ?b3_2) (AllReadyH.cons (o := { dst := some 3, op := Go.Op.alloc 24, type := 0, pos := "law.go:15", after := #[], guard := none }) rfl (fun K hK => ?b3_3) AllReadyH.nil)
  case' b3_2 =>
    go_simp
    rw [← HV1.out]
    refine hK.out _ _ HS1.out (fun _ => ?_)
    clear hK K
    try simp only [Act.put, List.setIfInBounds_toArray, List.set_cons_zero, List.set_cons_succ]
    refine wpAnyH_ready (rs := [3]) (by kernel_rfl) (by simp) ?_
    refine AllReadyH.cons (o := { dst := some 3, op := Go.Op.alloc 24, type := 0, pos := "law.go:15", after := #[], guard := none }) rfl (fun K hK => ?_) AllReadyH.nil
    go_simp
    rw [← HV2.out]
    refine hK.out _ _ HS2.out (fun _ => ?_)
    clear hK K
    try simp only [Act.put, List.setIfInBounds_toArray, List.set_cons_zero, List.set_cons_succ]
    refine wpAnyH_ready (rs := [4]) (by kernel_rfl) (by simp) ?_
    refine AllReadyH.cons (o := { dst := none, op := Go.Op.store 24 (Go.Operand.tmp 2) (Go.Operand.tmp 7), type := 0, pos := "law.go:15", after := #[{ on := 2, ground := Go.Ground.data }, { on := 0, ground := Go.Ground.data }, { on := 0, ground := Go.Ground.phase }, { on := 1, ground := Go.Ground.textOnly Go.Departure.lateStores }, { on := 2, ground := Go.Ground.phase }, { on := 3, ground := Go.Ground.phase }], guard := none }) rfl (fun K hK => ?_) AllReadyH.nil
    go_simp
    obtain ⟨V3, HV3⟩ := named (set3 V2 (W.heap.size) (.string ⟨#[112]⟩) (.int .i64 1) (.slice (some ⟨w.heap.size, 0, none⟩) 1 1))
    show K _ (set3 V2 (W.heap.size) (.string ⟨#[112]⟩) (.int .i64 1) (.slice (some ⟨w.heap.size, 0, none⟩) 1 1))
    rw [← HV3.out]
    have HQ3 := hide (show C3 V3 (W.heap.size) (.string ⟨#[112]⟩) (.int .i64 1) (.slice (some ⟨w.heap.size, 0, none⟩) 1 1) by rw [HV3.out]; exact HA2.out.set _ _ _)
    have HR3 := hide (show C3 V3 (W.heap.size + 1) (.string ⟨#[]⟩) (.int .i64 0) (.slice none 0 0) by rw [HV3.out]; exact HB2.out.other _ _ _ (by omega))
    have HP3 := hide (show C3 V3 pb (.string ⟨#[112]⟩) (.int .i64 1) (.slice (some ⟨w.heap.size, 0, none⟩) 1 1) by rw [HV3.out]; exact HP2.out.other _ _ _ (by have := HPW.out; omega))
    have HBV3 := hide (show Below w.heap.size w V3 by rw [HV3.out]; exact below_set3 HBV.out _ _ _ (by have := HZW.out; omega))
    have HRP3 := hide (show RdC V3 (.slice (some ⟨w.heap.size, 0, none⟩) 1 1) [oneI 15] by rw [HV3.out]; exact ((HRP.out.far _ (by have := HZW.out; omega)).far _ (by have := HZW.out; omega)).far _ (by have := HZW.out; omega))
    have hz3 : V3.heap.size = W.heap.size + 2 := by rw [HV3.out, set3_size]; exact HZ2.out
    have hs3 : V3.cell? ⟨pb, 0, none⟩ = some (.string ⟨#[112]⟩) ∧ V3.cell? ⟨pb, 1, none⟩ = some (.int .i64 1) ∧ V3.cell? ⟨pb, 2, none⟩ = some (.slice (some ⟨w.heap.size, 0, none⟩) 1 1) := ⟨HP3.out.2.1, HP3.out.2.2.1, HP3.out.2.2.2.1⟩
    obtain ⟨-, k0, k1, k2, m0, m1, m2⟩ := id HR3.out
    refine hK.out _ _ hs3 (fun _ => ?_)
    clear hK K
    try simp only [Act.put, List.setIfInBounds_toArray, List.set_cons_zero, List.set_cons_succ]
    refine wpAnyH_ready (rs := [5]) (by kernel_rfl) (by simp) ?_
    refine AllReadyH.cons (o := { dst := none, op := Go.Op.store 24 (Go.Operand.tmp 3) (Go.Operand.tmp 8), type := 0, pos := "law.go:15", after := #[{ on := 3, ground := Go.Ground.data }, { on := 1, ground := Go.Ground.data }, { on := 4, ground := Go.Ground.chain }, { on := 0, ground := Go.Ground.phase }, { on := 1, ground := Go.Ground.phase }, { on := 2, ground := Go.Ground.phase }, { on := 3, ground := Go.Ground.phase }, { on := 4, ground := Go.Ground.phase }], guard := none }) rfl (fun K hK => ?_) AllReadyH.nil
    go_simp
    obtain ⟨V4, HV4⟩ := named (set3 V3 (W.heap.size + 1) (.string ⟨#[112]⟩) (.int .i64 1) (.slice (some ⟨w.heap.size, 0, none⟩) 1 1))
    show K _ (set3 V3 (W.heap.size + 1) (.string ⟨#[112]⟩) (.int .i64 1) (.slice (some ⟨w.heap.size, 0, none⟩) 1 1))
    rw [← HV4.out]
    have HQ4 := hide (show C3 V4 (W.heap.size) (.string ⟨#[112]⟩) (.int .i64 1) (.slice (some ⟨w.heap.size, 0, none⟩) 1 1) by rw [HV4.out]; exact HQ3.out.other _ _ _ (by omega))
    have HR4 := hide (show C3 V4 (W.heap.size + 1) (.string ⟨#[112]⟩) (.int .i64 1) (.slice (some ⟨w.heap.size, 0, none⟩) 1 1) by rw [HV4.out]; exact HR3.out.set _ _ _)
    have HP4 := hide (show C3 V4 pb (.string ⟨#[112]⟩) (.int .i64 1) (.slice (some ⟨w.heap.size, 0, none⟩) 1 1) by rw [HV4.out]; exact HP3.out.other _ _ _ (by have := HPW.out; omega))
    have HBV4 := hide (show Below w.heap.size w V4 by rw [HV4.out]; exact below_set3 HBV3.out _ _ _ (by have := HZW.out; omega))
    have HRP4 := hide (show RdC V4 (.slice (some ⟨w.heap.size, 0, none⟩) 1 1) [oneI 15] by rw [HV4.out]; exact ((HRP3.out.far _ (by have := HZW.out; omega)).far _ (by have := HZW.out; omega)).far _ (by have := HZW.out; omega))
    have hz4 : V4.heap.size = W.heap.size + 2 := by rw [HV4.out, set3_size]; exact hz3
    have hs4 : V4.cell? ⟨pb, 0, none⟩ = some (.string ⟨#[112]⟩) ∧ V4.cell? ⟨pb, 1, none⟩ = some (.int .i64 1) ∧ V4.cell? ⟨pb, 2, none⟩ = some (.slice (some ⟨w.heap.size, 0, none⟩) 1 1) := ⟨HP4.out.2.1, HP4.out.2.2.1, HP4.out.2.2.2.1⟩
    refine hK.out _ _ hs4 (fun _ => ?_)
    clear hK K
    try simp only [Act.put, List.setIfInBounds_toArray, List.set_cons_zero, List.set_cons_succ]
    refine wpAnyH_done (by kernel_rfl) ?_ _
    clear hs0 a0 a1 a2 f0 f1 f2 b0 b1 b2 e0 e1 e2 k0 k1 k2 m0 m1 m2 hs3 hs4 hz3
    have hq1 := HQ4.out.alloc (.cells #[.int .u8 1, .int .i64 0, .int .i64 0, .int .i64 0, .int .i64 0, .string ⟨#[]⟩] 28)
    have hp1 := HP4.out.alloc (.cells #[.int .u8 1, .int .i64 0, .int .i64 0, .int .i64 0, .int .i64 0, .string ⟨#[]⟩] 28)
    have hr1 := HR4.out.alloc (.cells #[.int .u8 1, .int .i64 0, .int .i64 0, .int .i64 0, .int .i64 0, .string ⟨#[]⟩] 28)
    have hb1 := HBV4.out.alloc HBV4.out.size (.cells #[.int .u8 1, .int .i64 0, .int .i64 0, .int .i64 0, .int .i64 0, .string ⟨#[]⟩] 28)
    have hcp1 := HRP4.out.alloc (.cells #[.int .u8 1, .int .i64 0, .int .i64 0, .int .i64 0, .int .i64 0, .string ⟨#[]⟩] 28)
    have hcq1 := RdC.one V4 (oneI 1)
    have hq2 := hq1.third (.slice (some ⟨V4.heap.size, 0, none⟩) 1 1)
    have hp2 := hp1.one (o := 2) (g' := W.heap.size) (.slice (some ⟨V4.heap.size, 0, none⟩) 1 1) (by have := HPW.out; omega)
    have hr2 := hr1.one (o := 2) (g' := W.heap.size) (.slice (some ⟨V4.heap.size, 0, none⟩) 1 1) (by omega)
    have hb2 := hb1.setCell (p := ⟨W.heap.size, 2, none⟩) (by have := HZW.out; show w.heap.size ≤ W.heap.size; omega) (.slice (some ⟨V4.heap.size, 0, none⟩) 1 1)
    have hcp2 := hcp1.far (b := W.heap.size) (o := 2) (.slice (some ⟨V4.heap.size, 0, none⟩) 1 1) (by have := HZW.out; omega)
    have hcq2 := hcq1.far (b := W.heap.size) (o := 2) (.slice (some ⟨V4.heap.size, 0, none⟩) 1 1) (by omega)
    have hz5 : ((V4.alloc (.cells #[.int .u8 1, .int .i64 0, .int .i64 0, .int .i64 0, .int .i64 0, .string ⟨#[]⟩] 28)).setCell ⟨W.heap.size, 2, none⟩ (.slice (some ⟨V4.heap.size, 0, none⟩) 1 1)).heap.size = V4.heap.size + 1 := by simp [World.setCell]
    have hq3 := hq2.alloc (.cells #[.int .u8 8, .int .i64 0, .int .i64 0, .int .i64 0, .int .i64 0, .string ⟨#[]⟩] 28)
    have hp3 := hp2.alloc (.cells #[.int .u8 8, .int .i64 0, .int .i64 0, .int .i64 0, .int .i64 0, .string ⟨#[]⟩] 28)
    have hr3 := hr2.alloc (.cells #[.int .u8 8, .int .i64 0, .int .i64 0, .int .i64 0, .int .i64 0, .string ⟨#[]⟩] 28)
    have hb3 := hb2.alloc hb2.size (.cells #[.int .u8 8, .int .i64 0, .int .i64 0, .int .i64 0, .int .i64 0, .string ⟨#[]⟩] 28)
    have hcp3 := hcp2.alloc (.cells #[.int .u8 8, .int .i64 0, .int .i64 0, .int .i64 0, .int .i64 0, .string ⟨#[]⟩] 28)
    have hcq3 := hcq2.alloc (.cells #[.int .u8 8, .int .i64 0, .int .i64 0, .int .i64 0, .int .i64 0, .string ⟨#[]⟩] 28)
    have hcr3 := RdC.one ((V4.alloc (.cells #[.int .u8 1, .int .i64 0, .int .i64 0, .int .i64 0, .int .i64 0, .string ⟨#[]⟩] 28)).setCell ⟨W.heap.size, 2, none⟩ (.slice (some ⟨V4.heap.size, 0, none⟩) 1 1)) (oneI 8)
    rw [hz5] at hcr3
    have hr4 := hr3.third (.slice (some ⟨V4.heap.size + 1, 0, none⟩) 1 1)
    have hp4 := hp3.one (o := 2) (g' := W.heap.size + 1) (.slice (some ⟨V4.heap.size + 1, 0, none⟩) 1 1) (by have := HPW.out; omega)
    have hq4 := hq3.one (o := 2) (g' := W.heap.size + 1) (.slice (some ⟨V4.heap.size + 1, 0, none⟩) 1 1) (by omega)
    have hb4 := hb3.setCell (p := ⟨W.heap.size + 1, 2, none⟩) (by have := HZW.out; show w.heap.size ≤ W.heap.size + 1; omega) (.slice (some ⟨V4.heap.size + 1, 0, none⟩) 1 1)
    have hcp4 := hcp3.far (b := W.heap.size + 1) (o := 2) (.slice (some ⟨V4.heap.size + 1, 0, none⟩) 1 1) (by have := HZW.out; omega)
    have hcq4 := hcq3.far (b := W.heap.size + 1) (o := 2) (.slice (some ⟨V4.heap.size + 1, 0, none⟩) 1 1) (by omega)
    have hcr4 := hcr3.far (b := W.heap.size + 1) (o := 2) (.slice (some ⟨V4.heap.size + 1, 0, none⟩) 1 1) (by omega)
    obtain ⟨-, x0, x1, x2, y0, y1, y2⟩ := id hq1
    obtain ⟨-, x3, x4, x5, y3, y4, y5⟩ := id hr3
    obtain ⟨Z, HZ⟩ := named ((((V4.alloc (.cells #[.int .u8 1, .int .i64 0, .int .i64 0, .int .i64 0, .int .i64 0, .string ⟨#[]⟩] 28)).setCell ⟨W.heap.size, 2, none⟩ (.slice (some ⟨V4.heap.size, 0, none⟩) 1 1)).alloc (.cells #[.int .u8 8, .int .i64 0, .int .i64 0, .int .i64 0, .int .i64 0, .string ⟨#[]⟩] 28)).setCell ⟨W.heap.size + 1, 2, none⟩ (.slice (some ⟨V4.heap.size + 1, 0, none⟩) 1 1))
    have HZP := hide (show C3 Z pb _ _ _ by rw [HZ.out]; exact hp4)
    have HZQ := hide (show C3 Z (W.heap.size) _ _ _ by rw [HZ.out]; exact hq4)
    have HZR := hide (show C3 Z (W.heap.size + 1) _ _ _ by rw [HZ.out]; exact hr4)
    have HZB := hide (show Below w.heap.size w Z by rw [HZ.out]; exact hb4)
    have HZCP := hide (show RdC Z _ _ by rw [HZ.out]; exact hcp4)
    have HZCQ := hide (show RdC Z _ _ by rw [HZ.out]; exact hcq4)
    have HZCR := hide (show RdC Z _ _ by rw [HZ.out]; exact hcr4)
    clear hz4 hz5 hq1 hp1 hr1 hb1 hcp1 hcq1 hq2 hp2 hr2 hb2 hcp2 hcq2 hq3 hp3 hr3 hb3 hcp3 hcq3 hcr3 hr4 hp4 hq4 hb4 hcp4 hcq4 hcr4
    go_wp2_with fail
    rw [← HZ.out]
    refine (show_any ⟨3, 2, 0, 1, 0, ⟨#[]⟩⟩ (wf_small _ _ _ _ _ _ (by omega) (by omega) (by omega) (by omega) (by omega) (by decide)) Z (hl.below HZB.out) (by decide)).mono ?_
    rintro e Z1 ⟨rfl, hz1⟩
    rw [show1]
    have HB1 := hide (below_call HZB.out hz1)
    have HZ1 := hide hz1
    clear x0 x1 x2 x3 x4 x5 y0 y1 y2 y3 y4 y5 hz1
    go_wp2_with fail
    refine (show_any ⟨10, 1, 0, 2, 0, ⟨#[112, 97, 121]⟩⟩ (wf_small _ _ _ _ _ _ (by omega) (by omega) (by omega) (by omega) (by omega) (by decide)) Z1 (hl.below HB1.out) (by decide)).mono ?_
    rintro e Z2 ⟨rfl, hz2⟩
    rw [show2]
    have HB2 := hide (below_call HB1.out hz2)
    have HZ2' := hide (below_call HZ1.out hz2)
    obtain ⟨-, x0, x1, x2, -⟩ := id (HZP.out.below HZ2'.out)
    clear hz2
    go_wp2_with fail
    refine (check_any ⟨⟨#[112]⟩, 1, [oneI 15]⟩ (.slice (some ⟨w.heap.size, 0, none⟩) 1 1) 0 Z2 (hl.below HB2.out).kinds (HZCP.out.below HZ2'.out) (oneI_wf 15 (by omega))).mono ?_
    rintro e Z3 ⟨rfl, hz3⟩
    rw [err15]
    have HB3 := hide (below_call HB2.out hz3)
    have HZ3' := hide (below_call HZ2'.out hz3)
    clear x0 x1 x2 hz3
    obtain ⟨-, x0, x1, x2, -⟩ := id (HZQ.out.below HZ3'.out)
    go_wp2_with fail
    refine (check_any ⟨⟨#[112]⟩, 1, [oneI 1]⟩ (.slice (some ⟨V4.heap.size, 0, none⟩) 1 1) 0 Z3 (hl.below HB3.out).kinds (HZCQ.out.below HZ3'.out) (oneI_wf 1 (by omega))).mono ?_
    rintro e Z4 ⟨rfl, hz4⟩
    rw [err1]
    have HB4 := hide (below_call HB3.out hz4)
    have HZ4' := hide (below_call HZ3'.out hz4)
    clear x0 x1 x2 hz4
    obtain ⟨-, x0, x1, x2, -⟩ := id (HZR.out.below HZ4'.out)
    go_wp2_with fail
    refine (check_any ⟨⟨#[112]⟩, 1, [oneI 8]⟩ (.slice (some ⟨V4.heap.size + 1, 0, none⟩) 1 1) 0 Z4 (hl.below HB4.out).kinds (HZCR.out.below HZ4'.out) (oneI_wf 8 (by omega))).mono ?_
    rintro e Z5 ⟨rfl, hz5⟩
    rw [err8]
    have HB5 := hide (below_call HB4.out hz5)
    clear x0 x1 x2 hz5
    go_wp2
    go_ret
    exact ⟨rfl, HB5.out⟩
  case' b3_3 =>
    go_simp
    rw [← HV1.out]
    refine hK.out _ _ HS1.out (fun _ => ?_)
    clear hK K
    try simp only [Act.put, List.setIfInBounds_toArray, List.set_cons_zero, List.set_cons_succ]
    refine wpAnyH_ready (rs := [2]) (by kernel_rfl) (by simp) ?_
    refine AllReadyH.cons (o := { dst := some 2, op := Go.Op.alloc 24, type := 0, pos := "law.go:15", after := #[], guard := none }) rfl (fun K hK => ?_) AllReadyH.nil
    go_simp
    rw [← HV2.out]
    refine hK.out _ _ HS2.out (fun _ => ?_)
    clear hK K
    try simp only [Act.put, List.setIfInBounds_toArray, List.set_cons_zero, List.set_cons_succ]
    refine wpAnyH_ready (rs := [4]) (by kernel_rfl) (by simp) ?_
    refine AllReadyH.cons (o := { dst := none, op := Go.Op.store 24 (Go.Operand.tmp 2) (Go.Operand.tmp 7), type := 0, pos := "law.go:15", after := #[{ on := 2, ground := Go.Ground.data }, { on := 0, ground := Go.Ground.data }, { on := 0, ground := Go.Ground.phase }, { on := 1, ground := Go.Ground.textOnly Go.Departure.lateStores }, { on := 2, ground := Go.Ground.phase }, { on := 3, ground := Go.Ground.phase }], guard := none }) rfl (fun K hK => ?_) AllReadyH.nil
    go_simp
    obtain ⟨V3, HV3⟩ := named (set3 V2 (W.heap.size + 1) (.string ⟨#[112]⟩) (.int .i64 1) (.slice (some ⟨w.heap.size, 0, none⟩) 1 1))
    show K _ (set3 V2 (W.heap.size + 1) (.string ⟨#[112]⟩) (.int .i64 1) (.slice (some ⟨w.heap.size, 0, none⟩) 1 1))
    rw [← HV3.out]
    have HQ3 := hide (show C3 V3 (W.heap.size + 1) (.string ⟨#[112]⟩) (.int .i64 1) (.slice (some ⟨w.heap.size, 0, none⟩) 1 1) by rw [HV3.out]; exact HB2.out.set _ _ _)
    have HR3 := hide (show C3 V3 (W.heap.size) (.string ⟨#[]⟩) (.int .i64 0) (.slice none 0 0) by rw [HV3.out]; exact HA2.out.other _ _ _ (by omega))
    have HP3 := hide (show C3 V3 pb (.string ⟨#[112]⟩) (.int .i64 1) (.slice (some ⟨w.heap.size, 0, none⟩) 1 1) by rw [HV3.out]; exact HP2.out.other _ _ _ (by have := HPW.out; omega))
    have HBV3 := hide (show Below w.heap.size w V3 by rw [HV3.out]; exact below_set3 HBV.out _ _ _ (by have := HZW.out; omega))
    have HRP3 := hide (show RdC V3 (.slice (some ⟨w.heap.size, 0, none⟩) 1 1) [oneI 15] by rw [HV3.out]; exact ((HRP.out.far _ (by have := HZW.out; omega)).far _ (by have := HZW.out; omega)).far _ (by have := HZW.out; omega))
    have hz3 : V3.heap.size = W.heap.size + 2 := by rw [HV3.out, set3_size]; exact HZ2.out
    have hs3 : V3.cell? ⟨pb, 0, none⟩ = some (.string ⟨#[112]⟩) ∧ V3.cell? ⟨pb, 1, none⟩ = some (.int .i64 1) ∧ V3.cell? ⟨pb, 2, none⟩ = some (.slice (some ⟨w.heap.size, 0, none⟩) 1 1) := ⟨HP3.out.2.1, HP3.out.2.2.1, HP3.out.2.2.2.1⟩
    obtain ⟨-, k0, k1, k2, m0, m1, m2⟩ := id HR3.out
    refine hK.out _ _ hs3 (fun _ => ?_)
    clear hK K
    try simp only [Act.put, List.setIfInBounds_toArray, List.set_cons_zero, List.set_cons_succ]
    refine wpAnyH_ready (rs := [5]) (by kernel_rfl) (by simp) ?_
    refine AllReadyH.cons (o := { dst := none, op := Go.Op.store 24 (Go.Operand.tmp 3) (Go.Operand.tmp 8), type := 0, pos := "law.go:15", after := #[{ on := 3, ground := Go.Ground.data }, { on := 1, ground := Go.Ground.data }, { on := 4, ground := Go.Ground.chain }, { on := 0, ground := Go.Ground.phase }, { on := 1, ground := Go.Ground.phase }, { on := 2, ground := Go.Ground.phase }, { on := 3, ground := Go.Ground.phase }, { on := 4, ground := Go.Ground.phase }], guard := none }) rfl (fun K hK => ?_) AllReadyH.nil
    go_simp
    obtain ⟨V4, HV4⟩ := named (set3 V3 (W.heap.size) (.string ⟨#[112]⟩) (.int .i64 1) (.slice (some ⟨w.heap.size, 0, none⟩) 1 1))
    show K _ (set3 V3 (W.heap.size) (.string ⟨#[112]⟩) (.int .i64 1) (.slice (some ⟨w.heap.size, 0, none⟩) 1 1))
    rw [← HV4.out]
    have HQ4 := hide (show C3 V4 (W.heap.size + 1) (.string ⟨#[112]⟩) (.int .i64 1) (.slice (some ⟨w.heap.size, 0, none⟩) 1 1) by rw [HV4.out]; exact HQ3.out.other _ _ _ (by omega))
    have HR4 := hide (show C3 V4 (W.heap.size) (.string ⟨#[112]⟩) (.int .i64 1) (.slice (some ⟨w.heap.size, 0, none⟩) 1 1) by rw [HV4.out]; exact HR3.out.set _ _ _)
    have HP4 := hide (show C3 V4 pb (.string ⟨#[112]⟩) (.int .i64 1) (.slice (some ⟨w.heap.size, 0, none⟩) 1 1) by rw [HV4.out]; exact HP3.out.other _ _ _ (by have := HPW.out; omega))
    have HBV4 := hide (show Below w.heap.size w V4 by rw [HV4.out]; exact below_set3 HBV3.out _ _ _ (by have := HZW.out; omega))
    have HRP4 := hide (show RdC V4 (.slice (some ⟨w.heap.size, 0, none⟩) 1 1) [oneI 15] by rw [HV4.out]; exact ((HRP3.out.far _ (by have := HZW.out; omega)).far _ (by have := HZW.out; omega)).far _ (by have := HZW.out; omega))
    have hz4 : V4.heap.size = W.heap.size + 2 := by rw [HV4.out, set3_size]; exact hz3
    have hs4 : V4.cell? ⟨pb, 0, none⟩ = some (.string ⟨#[112]⟩) ∧ V4.cell? ⟨pb, 1, none⟩ = some (.int .i64 1) ∧ V4.cell? ⟨pb, 2, none⟩ = some (.slice (some ⟨w.heap.size, 0, none⟩) 1 1) := ⟨HP4.out.2.1, HP4.out.2.2.1, HP4.out.2.2.2.1⟩
    refine hK.out _ _ hs4 (fun _ => ?_)
    clear hK K
    try simp only [Act.put, List.setIfInBounds_toArray, List.set_cons_zero, List.set_cons_succ]
    refine wpAnyH_done (by kernel_rfl) ?_ _
    clear hs0 a0 a1 a2 f0 f1 f2 b0 b1 b2 e0 e1 e2 k0 k1 k2 m0 m1 m2 hs3 hs4 hz3
    have hq1 := HQ4.out.alloc (.cells #[.int .u8 1, .int .i64 0, .int .i64 0, .int .i64 0, .int .i64 0, .string ⟨#[]⟩] 28)
    have hp1 := HP4.out.alloc (.cells #[.int .u8 1, .int .i64 0, .int .i64 0, .int .i64 0, .int .i64 0, .string ⟨#[]⟩] 28)
    have hr1 := HR4.out.alloc (.cells #[.int .u8 1, .int .i64 0, .int .i64 0, .int .i64 0, .int .i64 0, .string ⟨#[]⟩] 28)
    have hb1 := HBV4.out.alloc HBV4.out.size (.cells #[.int .u8 1, .int .i64 0, .int .i64 0, .int .i64 0, .int .i64 0, .string ⟨#[]⟩] 28)
    have hcp1 := HRP4.out.alloc (.cells #[.int .u8 1, .int .i64 0, .int .i64 0, .int .i64 0, .int .i64 0, .string ⟨#[]⟩] 28)
    have hcq1 := RdC.one V4 (oneI 1)
    have hq2 := hq1.third (.slice (some ⟨V4.heap.size, 0, none⟩) 1 1)
    have hp2 := hp1.one (o := 2) (g' := W.heap.size + 1) (.slice (some ⟨V4.heap.size, 0, none⟩) 1 1) (by have := HPW.out; omega)
    have hr2 := hr1.one (o := 2) (g' := W.heap.size + 1) (.slice (some ⟨V4.heap.size, 0, none⟩) 1 1) (by omega)
    have hb2 := hb1.setCell (p := ⟨W.heap.size + 1, 2, none⟩) (by have := HZW.out; show w.heap.size ≤ W.heap.size + 1; omega) (.slice (some ⟨V4.heap.size, 0, none⟩) 1 1)
    have hcp2 := hcp1.far (b := W.heap.size + 1) (o := 2) (.slice (some ⟨V4.heap.size, 0, none⟩) 1 1) (by have := HZW.out; omega)
    have hcq2 := hcq1.far (b := W.heap.size + 1) (o := 2) (.slice (some ⟨V4.heap.size, 0, none⟩) 1 1) (by omega)
    have hz5 : ((V4.alloc (.cells #[.int .u8 1, .int .i64 0, .int .i64 0, .int .i64 0, .int .i64 0, .string ⟨#[]⟩] 28)).setCell ⟨W.heap.size + 1, 2, none⟩ (.slice (some ⟨V4.heap.size, 0, none⟩) 1 1)).heap.size = V4.heap.size + 1 := by simp [World.setCell]
    have hq3 := hq2.alloc (.cells #[.int .u8 8, .int .i64 0, .int .i64 0, .int .i64 0, .int .i64 0, .string ⟨#[]⟩] 28)
    have hp3 := hp2.alloc (.cells #[.int .u8 8, .int .i64 0, .int .i64 0, .int .i64 0, .int .i64 0, .string ⟨#[]⟩] 28)
    have hr3 := hr2.alloc (.cells #[.int .u8 8, .int .i64 0, .int .i64 0, .int .i64 0, .int .i64 0, .string ⟨#[]⟩] 28)
    have hb3 := hb2.alloc hb2.size (.cells #[.int .u8 8, .int .i64 0, .int .i64 0, .int .i64 0, .int .i64 0, .string ⟨#[]⟩] 28)
    have hcp3 := hcp2.alloc (.cells #[.int .u8 8, .int .i64 0, .int .i64 0, .int .i64 0, .int .i64 0, .string ⟨#[]⟩] 28)
    have hcq3 := hcq2.alloc (.cells #[.int .u8 8, .int .i64 0, .int .i64 0, .int .i64 0, .int .i64 0, .string ⟨#[]⟩] 28)
    have hcr3 := RdC.one ((V4.alloc (.cells #[.int .u8 1, .int .i64 0, .int .i64 0, .int .i64 0, .int .i64 0, .string ⟨#[]⟩] 28)).setCell ⟨W.heap.size + 1, 2, none⟩ (.slice (some ⟨V4.heap.size, 0, none⟩) 1 1)) (oneI 8)
    rw [hz5] at hcr3
    have hr4 := hr3.third (.slice (some ⟨V4.heap.size + 1, 0, none⟩) 1 1)
    have hp4 := hp3.one (o := 2) (g' := W.heap.size) (.slice (some ⟨V4.heap.size + 1, 0, none⟩) 1 1) (by have := HPW.out; omega)
    have hq4 := hq3.one (o := 2) (g' := W.heap.size) (.slice (some ⟨V4.heap.size + 1, 0, none⟩) 1 1) (by omega)
    have hb4 := hb3.setCell (p := ⟨W.heap.size, 2, none⟩) (by have := HZW.out; show w.heap.size ≤ W.heap.size; omega) (.slice (some ⟨V4.heap.size + 1, 0, none⟩) 1 1)
    have hcp4 := hcp3.far (b := W.heap.size) (o := 2) (.slice (some ⟨V4.heap.size + 1, 0, none⟩) 1 1) (by have := HZW.out; omega)
    have hcq4 := hcq3.far (b := W.heap.size) (o := 2) (.slice (some ⟨V4.heap.size + 1, 0, none⟩) 1 1) (by omega)
    have hcr4 := hcr3.far (b := W.heap.size) (o := 2) (.slice (some ⟨V4.heap.size + 1, 0, none⟩) 1 1) (by omega)
    obtain ⟨-, x0, x1, x2, y0, y1, y2⟩ := id hq1
    obtain ⟨-, x3, x4, x5, y3, y4, y5⟩ := id hr3
    obtain ⟨Z, HZ⟩ := named ((((V4.alloc (.cells #[.int .u8 1, .int .i64 0, .int .i64 0, .int .i64 0, .int .i64 0, .string ⟨#[]⟩] 28)).setCell ⟨W.heap.size + 1, 2, none⟩ (.slice (some ⟨V4.heap.size, 0, none⟩) 1 1)).alloc (.cells #[.int .u8 8, .int .i64 0, .int .i64 0, .int .i64 0, .int .i64 0, .string ⟨#[]⟩] 28)).setCell ⟨W.heap.size, 2, none⟩ (.slice (some ⟨V4.heap.size + 1, 0, none⟩) 1 1))
    have HZP := hide (show C3 Z pb _ _ _ by rw [HZ.out]; exact hp4)
    have HZQ := hide (show C3 Z (W.heap.size + 1) _ _ _ by rw [HZ.out]; exact hq4)
    have HZR := hide (show C3 Z (W.heap.size) _ _ _ by rw [HZ.out]; exact hr4)
    have HZB := hide (show Below w.heap.size w Z by rw [HZ.out]; exact hb4)
    have HZCP := hide (show RdC Z _ _ by rw [HZ.out]; exact hcp4)
    have HZCQ := hide (show RdC Z _ _ by rw [HZ.out]; exact hcq4)
    have HZCR := hide (show RdC Z _ _ by rw [HZ.out]; exact hcr4)
    clear hz4 hz5 hq1 hp1 hr1 hb1 hcp1 hcq1 hq2 hp2 hr2 hb2 hcp2 hcq2 hq3 hp3 hr3 hb3 hcp3 hcq3 hcr3 hr4 hp4 hq4 hb4 hcp4 hcq4 hcr4
    go_wp2_with fail
    rw [← HZ.out]
    refine (show_any ⟨3, 2, 0, 1, 0, ⟨#[]⟩⟩ (wf_small _ _ _ _ _ _ (by omega) (by omega) (by omega) (by omega) (by omega) (by decide)) Z (hl.below HZB.out) (by decide)).mono ?_
    rintro e Z1 ⟨rfl, hz1⟩
    rw [show1]
    have HB1 := hide (below_call HZB.out hz1)
    have HZ1 := hide hz1
    clear x0 x1 x2 x3 x4 x5 y0 y1 y2 y3 y4 y5 hz1
    go_wp2_with fail
    refine (show_any ⟨10, 1, 0, 2, 0, ⟨#[112, 97, 121]⟩⟩ (wf_small _ _ _ _ _ _ (by omega) (by omega) (by omega) (by omega) (by omega) (by decide)) Z1 (hl.below HB1.out) (by decide)).mono ?_
    rintro e Z2 ⟨rfl, hz2⟩
    rw [show2]
    have HB2 := hide (below_call HB1.out hz2)
    have HZ2' := hide (below_call HZ1.out hz2)
    obtain ⟨-, x0, x1, x2, -⟩ := id (HZP.out.below HZ2'.out)
    clear hz2
    go_wp2_with fail
    refine (check_any ⟨⟨#[112]⟩, 1, [oneI 15]⟩ (.slice (some ⟨w.heap.size, 0, none⟩) 1 1) 0 Z2 (hl.below HB2.out).kinds (HZCP.out.below HZ2'.out) (oneI_wf 15 (by omega))).mono ?_
    rintro e Z3 ⟨rfl, hz3⟩
    rw [err15]
    have HB3 := hide (below_call HB2.out hz3)
    have HZ3' := hide (below_call HZ2'.out hz3)
    clear x0 x1 x2 hz3
    obtain ⟨-, x0, x1, x2, -⟩ := id (HZQ.out.below HZ3'.out)
    go_wp2_with fail
    refine (check_any ⟨⟨#[112]⟩, 1, [oneI 1]⟩ (.slice (some ⟨V4.heap.size, 0, none⟩) 1 1) 0 Z3 (hl.below HB3.out).kinds (HZCQ.out.below HZ3'.out) (oneI_wf 1 (by omega))).mono ?_
    rintro e Z4 ⟨rfl, hz4⟩
    rw [err1]
    have HB4 := hide (below_call HB3.out hz4)
    have HZ4' := hide (below_call HZ3'.out hz4)
    clear x0 x1 x2 hz4
    obtain ⟨-, x0, x1, x2, -⟩ := id (HZR.out.below HZ4'.out)
    go_wp2_with fail
    refine (check_any ⟨⟨#[112]⟩, 1, [oneI 8]⟩ (.slice (some ⟨V4.heap.size + 1, 0, none⟩) 1 1) 0 Z4 (hl.below HB4.out).kinds (HZCR.out.below HZ4'.out) (oneI_wf 8 (by omega))).mono ?_
    rintro e Z5 ⟨rfl, hz5⟩
    rw [err8]
    have HB5 := hide (below_call HB4.out hz5)
    clear x0 x1 x2 hz5
    go_wp2
    go_ret
    exact ⟨rfl, HB5.out⟩

end Go.Proofs.YtpiiehenmkinaaaDoor
