/-
  The contract of is; awake: the chapter's examples come out as written. Own work.
-/
import Derived.Test.YtffgbjojngnebaaDoorKk
import Derived.Lib.ConvBytes
import Derived.Lib.SlBytesConst
namespace Go.Proofs.YtffgbjojngnebaaDoor
open Go.RowKit

theorem rd_bytesWorld (w : World) (s : ByteArray) (hs : s.size ≤ 1000) : Rd (Lib.bytesWorld w 5 s) (.slice (some ⟨w.heap.size, 0, none⟩) s.size (grownCap w s.size 0 5)) s.data.toList := by
  have hm : (1000 : Nat) ≤ maxLen := by simp [maxLen]
  refine rd_new w _ _ _ s.data.toList (grownCap w s.size 0 5) (Lib.bytesWorld_at_new w 5 s) ?_ ?_ ?_
  · intro i hi
    have hi' : i < s.size := hi
    simp [Lib.bytesCells, Array.getElem?_append, hi']
  · exact grownCap_ge _ _ _ _
  · exact grownCap_le_maxLen _ _ _ _ (by omega)

set_option maxRecDepth 100000 in
set_option maxHeartbeats 1600000 in
theorem is_true {w : World} {F : Nat → Prop} {d : Value} {D : AD} (h : Dk w F d D) (hw : Laid w) (s b : Int) (t : ByteArray) (ht : t.size ≤ 1000) (hr : readR D = (⟨s, b, t.data.toList⟩, decide (0 < s), 0)) :
    Calls Tryd.prog 20 #[d, .int .i64 s, .int .i64 b, .string t] w fun e w' => e = .returned (.bool true) ∧ Below w.heap.size w w' := by
  have hrd := read_root h hw
  rw [hr] at hrd
  have kb := fun (w : World) => Lib.run_convert_string_bytes (P := Tryd.prog) w 9 22 5 t Tryd.underlying9 Tryd.underlying22 Tryd.underlying5
  have HT : Hid _ := ht
  obtain ⟨l, HLL⟩ := named t.data.toList
  rw [← HLL.out] at hrd
  clear h hw hr ht
  by_cases hps : 0 < s
  · rw [decide_eq_true hps] at hrd
    go_enter Tryd.func20, Tryd.ntmps20
    go_wp2_with fail
    refine hrd.mono ?_
    clear hrd
    rintro e w1 ⟨v1, rfl, hown1, hb1⟩
    obtain ⟨a1, p1, hv1, -⟩ := id hown1.rd
    obtain ⟨k1, HK1⟩ := named l.length
    rw [← HK1.out] at hv1
    subst hv1
    obtain ⟨X, HX⟩ := named (w1.alloc (Obj.cells #[.int .i64 s, .int .i64 b, .slice a1 k1 p1] 24))
    have HBX : Hid (Below w1.heap.size w1 X) := by show Below _ _ _; rw [HX.out]; exact (Below.refl _ _).alloc (Nat.le_refl _) _
    have HCX : Hid (C3 X w1.heap.size (.int .i64 s) (.int .i64 b) (.slice a1 k1 p1)) := by show C3 _ _ _ _ _; rw [HX.out]; exact C3.new _ _ _ _ _
    have HB2 : Hid _ := below_call hb1 HBX.out
    have HO2 : Hid _ := Own.below hown1 HBX.out
    obtain ⟨x0, y0, y1, y2, -⟩ := HCX.out
    have hsr := sameRoot_any ⟨s, b, l⟩ ⟨s, b, l⟩ (.slice a1 k1 p1) (.slice (some ⟨X.heap.size, 0, none⟩) t.size (grownCap X t.size 0 5)) (Lib.bytesWorld X 5 t) (Rd.below (Own.rd HO2.out) (below_bytesWorld X t)) (by show Rd _ _ l; rw [HLL.out]; exact rd_bytesWorld X t HT.out)
    rw [sameR_self] at hsr
    simp only at hsr
    clear hown1 hb1
    go_wp2_with (rw [← HX.out])
    refine hsr.mono ?_
    rintro e w3 ⟨rfl, hb3⟩
    go_wp2_with fail
    go_ret
    exact ⟨rfl, below_call (below_call HB2.out (below_bytesWorld X t)) hb3⟩
  · rw [decide_eq_false hps] at hrd
    go_enter Tryd.func20, Tryd.ntmps20
    go_wp2_with fail
    refine hrd.mono ?_
    clear hrd
    rintro e w1 ⟨v1, rfl, hown1, hb1⟩
    obtain ⟨a1, p1, hv1, -⟩ := id hown1.rd
    obtain ⟨k1, HK1⟩ := named l.length
    rw [← HK1.out] at hv1
    subst hv1
    obtain ⟨X, HX⟩ := named (w1.alloc (Obj.cells #[.int .i64 s, .int .i64 b, .slice a1 k1 p1] 24))
    have HBX : Hid (Below w1.heap.size w1 X) := by show Below _ _ _; rw [HX.out]; exact (Below.refl _ _).alloc (Nat.le_refl _) _
    have HCX : Hid (C3 X w1.heap.size (.int .i64 s) (.int .i64 b) (.slice a1 k1 p1)) := by show C3 _ _ _ _ _; rw [HX.out]; exact C3.new _ _ _ _ _
    have HB2 : Hid _ := below_call hb1 HBX.out
    have HO2 : Hid _ := Own.below hown1 HBX.out
    obtain ⟨x0, y0, y1, y2, -⟩ := HCX.out
    have hsr := sameRoot_any ⟨s, b, l⟩ ⟨s, b, l⟩ (.slice a1 k1 p1) (.slice (some ⟨X.heap.size, 0, none⟩) t.size (grownCap X t.size 0 5)) (Lib.bytesWorld X 5 t) (Rd.below (Own.rd HO2.out) (below_bytesWorld X t)) (by show Rd _ _ l; rw [HLL.out]; exact rd_bytesWorld X t HT.out)
    rw [sameR_self] at hsr
    simp only at hsr
    clear hown1 hb1
    go_wp2_with (rw [← HX.out])
    refine hsr.mono ?_
    rintro e w3 ⟨rfl, hb3⟩
    go_wp2_with fail
    go_ret
    have hn : ¬ 0 < s := by omega
    exact ⟨by show Ending.returned (.bool (!decide (0 < s))) = _; rw [decide_eq_false hn]; rfl, below_call (below_call HB2.out (below_bytesWorld X t)) hb3⟩
end Go.Proofs.YtffgbjojngnebaaDoor
