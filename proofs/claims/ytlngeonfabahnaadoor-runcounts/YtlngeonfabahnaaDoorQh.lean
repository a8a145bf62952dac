/-
  The contract of an instruction, Op by Op (4, 5, 6, 7). Own work.
-/
import Derived.Test.YtlngeonfabahnaaDoorQc
import Derived.Test.YtlngeonfabahnaaDoorQe
import Derived.Test.YtlngeonfabahnaaDoorQf
import Derived.Test.YtlngeonfabahnaaDoorQv
import Derived.Test.YtlngeonfabahnaaDoorOe
namespace Go.Proofs.YtlngeonfabahnaaDoor
open Go Go.RowKit
set_option linter.unusedSimpArgs false
set_option linter.unusedVariables false

set_option maxRecDepth 100000 in
set_option maxHeartbeats 1600000 in
theorem do_4 {W : World} {b mb : Nat} {cv sv : Value} {w : World} {s : St} {kn : Int → Option Oc} {sg : List Int} (E : Ev W b mb sv kn sg) (h : Rn W b cv (.map (some mb)) sv w s) (hp : Plc s.place) (hsg : s.sig ≤ sg.length) (a k c n : Int) (t : ByteArray) (ha0 : 0 ≤ a) (ha : a < 16) (hb0 : 0 ≤ k) (hb : k < 16) (hc0 : 0 ≤ c) (hc : c < 16) :
    Calls Tryd.prog 31 #[.pointer (some ⟨b, 0, none⟩), .agg #[.int .u8 4, .int .i64 a, .int .i64 k, .int .i64 c, .int .i64 n, .string t]] w fun e w' => e = .returned (.bool (doI kn sg ⟨4, a, k, c, n, t⟩ s).2) ∧ Rn W b cv (.map (some mb)) sv w' (doI kn sg ⟨4, a, k, c, n, t⟩ s).1 := by
  have hbl : b < w.heap.size := h.lt
  obtain ⟨hp0, hp1⟩ := hp
  obtain ⟨pl, HPL⟩ := named s.place
  rw [← HPL.out] at hp0 hp1
  have hwr : IntKind.i64.wrap (pl + 1) = pl + 1 := wrap_in _ (by omega) (by omega)
  have d19 : w.cell? ⟨b, 19, none⟩ = some (.int .i64 pl) := by rw [HPL.out]; exact h.cell.2.2.2.1
  have f19 := h.free 19
  obtain ⟨wg, HWG⟩ := named (w.setCell ⟨b, 19, none⟩ (.int .i64 (pl + 1)))
  obtain ⟨s1, HS1⟩ := named (s.go (s.place + 1))
  have hg : Rn W b cv (.map (some mb)) sv wg s1 := by rw [HWG.out, HS1.out, ← HPL.out]; exact h.go _
  have hzg : wg.heap.size = w.heap.size := by rw [HWG.out]; simp [World.setCell]
  obtain ⟨pb, HPB⟩ := named w.heap.size
  have hpb : b < pb := by rw [HPB.out]; exact hbl
  obtain ⟨W1, HW⟩ := named (wg.alloc (.cells #[.int .u8 4, .int .i64 a, .int .i64 k, .int .i64 c, .int .i64 n, .string t] 52))
  have h1 : Rn W b cv (.map (some mb)) sv W1 s1 := by rw [HW.out]; exact hg.alloc _
  have xb : RC 6 W1 pb (fun k' => ([.int .u8 4, .int .i64 a, .int .i64 k, .int .i64 c, .int .i64 n, .string t] : List Value).getD k' undef) := by
    rw [HW.out, HPB.out, ← hzg]
    refine RC.new wg _ 52 _ (fun k hk => ?_)
    rcases (show k = 0 ∨ k = 1 ∨ k = 2 ∨ k = 3 ∨ k = 4 ∨ k = 5 by omega) with rfl | rfl | rfl | rfl | rfl | rfl <;> rfl
  have y0 : W1.cell? ⟨pb, 0, none⟩ = some (.int .u8 4) := xb.2.1 0 (by omega)
  have y1 : W1.cell? ⟨pb, 1, none⟩ = some (.int .i64 a) := xb.2.1 1 (by omega)
  have y2 : W1.cell? ⟨pb, 2, none⟩ = some (.int .i64 k) := xb.2.1 2 (by omega)
  have y3 : W1.cell? ⟨pb, 3, none⟩ = some (.int .i64 c) := xb.2.1 3 (by omega)
  have y4 : W1.cell? ⟨pb, 4, none⟩ = some (.int .i64 n) := xb.2.1 4 (by omega)
  have y5 : W1.cell? ⟨pb, 5, none⟩ = some (.string t) := xb.2.1 5 (by omega)
  have hsg1 : s1.sig ≤ sg.length := by rw [HS1.out]; exact hsg
  have e : doI kn sg ⟨4, a, k, c, n, t⟩ s = (s1.put a (signB 4 (getR s1 k) (getR s1 c)), true) := by rw [HS1.out]; rfl
  rw [e]
  have hcl := sign_any_4 h1 4 a k c n t ha0 ha hb0 hb hc0 hc
  clear h hg h1 xb hzg
  go_enter Tryd.func31, Tryd.ntmps31
  go_wp2_with fail
  rw [← HWG.out, ← HW.out]
  (with_reducible refine Calls.mono hcl ?_)
  rintro e w2 ⟨rfl, h2⟩
  have H := hide h2
  clear h2 hcl
  go_wp2
  go_ret
  exact ⟨rfl, H.out⟩
set_option maxRecDepth 100000 in
set_option maxHeartbeats 1600000 in
theorem do_5 {W : World} {b mb : Nat} {cv sv : Value} {w : World} {s : St} {kn : Int → Option Oc} {sg : List Int} (E : Ev W b mb sv kn sg) (h : Rn W b cv (.map (some mb)) sv w s) (hp : Plc s.place) (hsg : s.sig ≤ sg.length) (a k c n : Int) (t : ByteArray) (ha0 : 0 ≤ a) (ha : a < 16) (hb0 : 0 ≤ k) (hb : k < 16) (hc0 : 0 ≤ c) (hc : c < 16) :
    Calls Tryd.prog 31 #[.pointer (some ⟨b, 0, none⟩), .agg #[.int .u8 5, .int .i64 a, .int .i64 k, .int .i64 c, .int .i64 n, .string t]] w fun e w' => e = .returned (.bool (doI kn sg ⟨5, a, k, c, n, t⟩ s).2) ∧ Rn W b cv (.map (some mb)) sv w' (doI kn sg ⟨5, a, k, c, n, t⟩ s).1 := by
  have hbl : b < w.heap.size := h.lt
  obtain ⟨hp0, hp1⟩ := hp
  obtain ⟨pl, HPL⟩ := named s.place
  rw [← HPL.out] at hp0 hp1
  have hwr : IntKind.i64.wrap (pl + 1) = pl + 1 := wrap_in _ (by omega) (by omega)
  have d19 : w.cell? ⟨b, 19, none⟩ = some (.int .i64 pl) := by rw [HPL.out]; exact h.cell.2.2.2.1
  have f19 := h.free 19
  obtain ⟨wg, HWG⟩ := named (w.setCell ⟨b, 19, none⟩ (.int .i64 (pl + 1)))
  obtain ⟨s1, HS1⟩ := named (s.go (s.place + 1))
  have hg : Rn W b cv (.map (some mb)) sv wg s1 := by rw [HWG.out, HS1.out, ← HPL.out]; exact h.go _
  have hzg : wg.heap.size = w.heap.size := by rw [HWG.out]; simp [World.setCell]
  obtain ⟨pb, HPB⟩ := named w.heap.size
  have hpb : b < pb := by rw [HPB.out]; exact hbl
  obtain ⟨W1, HW⟩ := named (wg.alloc (.cells #[.int .u8 5, .int .i64 a, .int .i64 k, .int .i64 c, .int .i64 n, .string t] 52))
  have h1 : Rn W b cv (.map (some mb)) sv W1 s1 := by rw [HW.out]; exact hg.alloc _
  have xb : RC 6 W1 pb (fun k' => ([.int .u8 5, .int .i64 a, .int .i64 k, .int .i64 c, .int .i64 n, .string t] : List Value).getD k' undef) := by
    rw [HW.out, HPB.out, ← hzg]
    refine RC.new wg _ 52 _ (fun k hk => ?_)
    rcases (show k = 0 ∨ k = 1 ∨ k = 2 ∨ k = 3 ∨ k = 4 ∨ k = 5 by omega) with rfl | rfl | rfl | rfl | rfl | rfl <;> rfl
  have y0 : W1.cell? ⟨pb, 0, none⟩ = some (.int .u8 5) := xb.2.1 0 (by omega)
  have y1 : W1.cell? ⟨pb, 1, none⟩ = some (.int .i64 a) := xb.2.1 1 (by omega)
  have y2 : W1.cell? ⟨pb, 2, none⟩ = some (.int .i64 k) := xb.2.1 2 (by omega)
  have y3 : W1.cell? ⟨pb, 3, none⟩ = some (.int .i64 c) := xb.2.1 3 (by omega)
  have y4 : W1.cell? ⟨pb, 4, none⟩ = some (.int .i64 n) := xb.2.1 4 (by omega)
  have y5 : W1.cell? ⟨pb, 5, none⟩ = some (.string t) := xb.2.1 5 (by omega)
  have hsg1 : s1.sig ≤ sg.length := by rw [HS1.out]; exact hsg
  have e : doI kn sg ⟨5, a, k, c, n, t⟩ s = (s1.put a (signB 5 (getR s1 k) (getR s1 c)), true) := by rw [HS1.out]; rfl
  rw [e]
  have hcl := sign_any_5 h1 5 a k c n t ha0 ha hb0 hb hc0 hc
  clear h hg h1 xb hzg
  go_enter Tryd.func31, Tryd.ntmps31
  go_wp2_with fail
  rw [← HWG.out, ← HW.out]
  (with_reducible refine Calls.mono hcl ?_)
  rintro e w2 ⟨rfl, h2⟩
  have H := hide h2
  clear h2 hcl
  go_wp2
  go_ret
  exact ⟨rfl, H.out⟩
set_option maxRecDepth 100000 in
set_option maxHeartbeats 1600000 in
theorem do_6 {W : World} {b mb : Nat} {cv sv : Value} {w : World} {s : St} {kn : Int → Option Oc} {sg : List Int} (E : Ev W b mb sv kn sg) (h : Rn W b cv (.map (some mb)) sv w s) (hp : Plc s.place) (hsg : s.sig ≤ sg.length) (a k c n : Int) (t : ByteArray) (ha0 : 0 ≤ a) (ha : a < 16) (hb0 : 0 ≤ k) (hb : k < 16) (hc0 : 0 ≤ c) (hc : c < 16) :
    Calls Tryd.prog 31 #[.pointer (some ⟨b, 0, none⟩), .agg #[.int .u8 6, .int .i64 a, .int .i64 k, .int .i64 c, .int .i64 n, .string t]] w fun e w' => e = .returned (.bool (doI kn sg ⟨6, a, k, c, n, t⟩ s).2) ∧ Rn W b cv (.map (some mb)) sv w' (doI kn sg ⟨6, a, k, c, n, t⟩ s).1 := by
  have hbl : b < w.heap.size := h.lt
  obtain ⟨hp0, hp1⟩ := hp
  obtain ⟨pl, HPL⟩ := named s.place
  rw [← HPL.out] at hp0 hp1
  have hwr : IntKind.i64.wrap (pl + 1) = pl + 1 := wrap_in _ (by omega) (by omega)
  have d19 : w.cell? ⟨b, 19, none⟩ = some (.int .i64 pl) := by rw [HPL.out]; exact h.cell.2.2.2.1
  have f19 := h.free 19
  obtain ⟨wg, HWG⟩ := named (w.setCell ⟨b, 19, none⟩ (.int .i64 (pl + 1)))
  obtain ⟨s1, HS1⟩ := named (s.go (s.place + 1))
  have hg : Rn W b cv (.map (some mb)) sv wg s1 := by rw [HWG.out, HS1.out, ← HPL.out]; exact h.go _
  have hzg : wg.heap.size = w.heap.size := by rw [HWG.out]; simp [World.setCell]
  obtain ⟨pb, HPB⟩ := named w.heap.size
  have hpb : b < pb := by rw [HPB.out]; exact hbl
  obtain ⟨W1, HW⟩ := named (wg.alloc (.cells #[.int .u8 6, .int .i64 a, .int .i64 k, .int .i64 c, .int .i64 n, .string t] 52))
  have h1 : Rn W b cv (.map (some mb)) sv W1 s1 := by rw [HW.out]; exact hg.alloc _
  have xb : RC 6 W1 pb (fun k' => ([.int .u8 6, .int .i64 a, .int .i64 k, .int .i64 c, .int .i64 n, .string t] : List Value).getD k' undef) := by
    rw [HW.out, HPB.out, ← hzg]
    refine RC.new wg _ 52 _ (fun k hk => ?_)
    rcases (show k = 0 ∨ k = 1 ∨ k = 2 ∨ k = 3 ∨ k = 4 ∨ k = 5 by omega) with rfl | rfl | rfl | rfl | rfl | rfl <;> rfl
  have y0 : W1.cell? ⟨pb, 0, none⟩ = some (.int .u8 6) := xb.2.1 0 (by omega)
  have y1 : W1.cell? ⟨pb, 1, none⟩ = some (.int .i64 a) := xb.2.1 1 (by omega)
  have y2 : W1.cell? ⟨pb, 2, none⟩ = some (.int .i64 k) := xb.2.1 2 (by omega)
  have y3 : W1.cell? ⟨pb, 3, none⟩ = some (.int .i64 c) := xb.2.1 3 (by omega)
  have y4 : W1.cell? ⟨pb, 4, none⟩ = some (.int .i64 n) := xb.2.1 4 (by omega)
  have y5 : W1.cell? ⟨pb, 5, none⟩ = some (.string t) := xb.2.1 5 (by omega)
  have hsg1 : s1.sig ≤ sg.length := by rw [HS1.out]; exact hsg
  have e : doI kn sg ⟨6, a, k, c, n, t⟩ s = (s1.put a (signB 6 (getR s1 k) (getR s1 c)), true) := by rw [HS1.out]; rfl
  rw [e]
  have hcl := sign_any_6 h1 6 a k c n t ha0 ha hb0 hb hc0 hc
  clear h hg h1 xb hzg
  go_enter Tryd.func31, Tryd.ntmps31
  go_wp2_with fail
  rw [← HWG.out, ← HW.out]
  (with_reducible refine Calls.mono hcl ?_)
  rintro e w2 ⟨rfl, h2⟩
  have H := hide h2
  clear h2 hcl
  go_wp2
  go_ret
  exact ⟨rfl, H.out⟩
set_option maxRecDepth 100000 in
set_option maxHeartbeats 1600000 in
theorem do_7 {W : World} {b mb : Nat} {cv sv : Value} {w : World} {s : St} {kn : Int → Option Oc} {sg : List Int} (E : Ev W b mb sv kn sg) (h : Rn W b cv (.map (some mb)) sv w s) (hp : Plc s.place) (hsg : s.sig ≤ sg.length) (a k c n : Int) (t : ByteArray) (ha0 : 0 ≤ a) (ha : a < 16) (hb0 : 0 ≤ k) (hb : k < 16) (hc0 : 0 ≤ c) (hc : c < 16) :
    Calls Tryd.prog 31 #[.pointer (some ⟨b, 0, none⟩), .agg #[.int .u8 7, .int .i64 a, .int .i64 k, .int .i64 c, .int .i64 n, .string t]] w fun e w' => e = .returned (.bool (doI kn sg ⟨7, a, k, c, n, t⟩ s).2) ∧ Rn W b cv (.map (some mb)) sv w' (doI kn sg ⟨7, a, k, c, n, t⟩ s).1 := by
  have hbl : b < w.heap.size := h.lt
  obtain ⟨hp0, hp1⟩ := hp
  obtain ⟨pl, HPL⟩ := named s.place
  rw [← HPL.out] at hp0 hp1
  have hwr : IntKind.i64.wrap (pl + 1) = pl + 1 := wrap_in _ (by omega) (by omega)
  have d19 : w.cell? ⟨b, 19, none⟩ = some (.int .i64 pl) := by rw [HPL.out]; exact h.cell.2.2.2.1
  have f19 := h.free 19
  obtain ⟨wg, HWG⟩ := named (w.setCell ⟨b, 19, none⟩ (.int .i64 (pl + 1)))
  obtain ⟨s1, HS1⟩ := named (s.go (s.place + 1))
  have hg : Rn W b cv (.map (some mb)) sv wg s1 := by rw [HWG.out, HS1.out, ← HPL.out]; exact h.go _
  have hzg : wg.heap.size = w.heap.size := by rw [HWG.out]; simp [World.setCell]
  obtain ⟨pb, HPB⟩ := named w.heap.size
  have hpb : b < pb := by rw [HPB.out]; exact hbl
  obtain ⟨W1, HW⟩ := named (wg.alloc (.cells #[.int .u8 7, .int .i64 a, .int .i64 k, .int .i64 c, .int .i64 n, .string t] 52))
  have h1 : Rn W b cv (.map (some mb)) sv W1 s1 := by rw [HW.out]; exact hg.alloc _
  have xb : RC 6 W1 pb (fun k' => ([.int .u8 7, .int .i64 a, .int .i64 k, .int .i64 c, .int .i64 n, .string t] : List Value).getD k' undef) := by
    rw [HW.out, HPB.out, ← hzg]
    refine RC.new wg _ 52 _ (fun k hk => ?_)
    rcases (show k = 0 ∨ k = 1 ∨ k = 2 ∨ k = 3 ∨ k = 4 ∨ k = 5 by omega) with rfl | rfl | rfl | rfl | rfl | rfl <;> rfl
  have y0 : W1.cell? ⟨pb, 0, none⟩ = some (.int .u8 7) := xb.2.1 0 (by omega)
  have y1 : W1.cell? ⟨pb, 1, none⟩ = some (.int .i64 a) := xb.2.1 1 (by omega)
  have y2 : W1.cell? ⟨pb, 2, none⟩ = some (.int .i64 k) := xb.2.1 2 (by omega)
  have y3 : W1.cell? ⟨pb, 3, none⟩ = some (.int .i64 c) := xb.2.1 3 (by omega)
  have y4 : W1.cell? ⟨pb, 4, none⟩ = some (.int .i64 n) := xb.2.1 4 (by omega)
  have y5 : W1.cell? ⟨pb, 5, none⟩ = some (.string t) := xb.2.1 5 (by omega)
  have hsg1 : s1.sig ≤ sg.length := by rw [HS1.out]; exact hsg
  have e : doI kn sg ⟨7, a, k, c, n, t⟩ s = (s1.put a (signB 7 (getR s1 k) (getR s1 c)), true) := by rw [HS1.out]; rfl
  rw [e]
  have hcl := sign_any_7 h1 7 a k c n t ha0 ha hb0 hb hc0 hc
  clear h hg h1 xb hzg
  go_enter Tryd.func31, Tryd.ntmps31
  go_wp2_with fail
  rw [← HWG.out, ← HW.out]
  (with_reducible refine Calls.mono hcl ?_)
  rintro e w2 ⟨rfl, h2⟩
  have H := hide h2
  clear h2 hcl
  go_wp2
  go_ret
  exact ⟨rfl, H.out⟩
end Go.Proofs.YtlngeonfabahnaaDoor
