/-
  The contract of none; what the numbers of the chapter come to: plain facts. Own work.
-/
import Derived.Test.YtffgbjojngnebaaDoorKn
import Derived.Test.YtffgbjojngnebaaDoorFo
namespace Go.Proofs.YtffgbjojngnebaaDoor
open Go.RowKit

/-- so many noughts -/
def zs (n : Nat) : List UInt8 := List.replicate n 0
theorem zs_length (n : Nat) : (zs n).length = n := by simp [zs]
theorem zs_made (n : Nat) : (madeCells #[.int .u8 0] n).toList = BV (zs n) := by
  rw [toList_madeCells_one]
  simp [BV, zs]
theorem Own.made {w' : World} {B g n : Nat} (h : w'.ownsRow B 5 1 (.slice (some ⟨g, 0, none⟩) n n) n (madeCells #[.int .u8 0] n).toList) : Own w' B (.slice (some ⟨g, 0, none⟩) n n) (zs n) := by
  unfold Own
  rw [zs_length, ← zs_made]
  exact h
/-- a root's bytes with a byte behind are none's -/
theorem parse_more (r : AR) (h : isR r = true) (x : UInt8) : parseR (frameL (bodyR r) ++ [x]) = (noR, 10) := by
  obtain ⟨h1, h2, h3, h4, h5⟩ := (isRt_iff _ _ _).1 h
  have hs := body_size r
  have e0 : getF (frameL (bodyR r) ++ [x]) 0 = (bodyR r, (frameL (bodyR r)).length, 0) := by
    have := getF_frame (bodyR r) [] [x] hs.1 (by omega)
    simpa using this
  unfold parseR
  rw [e0]
  simp only
  rw [if_pos (.inr (by simp))]

set_option maxRecDepth 100000 in
set_option maxHeartbeats 800000 in
theorem none_true (v : Value) (l : List UInt8) (w : World) (hr : Rd w v l) (h0 : 0 < l.length) (h1 : l.length ≤ 1000) (hp : parseR (frameL l) = (noR, 10)) :
    Calls Tryd.prog 13 #[v] w fun e w' => e = .returned (.bool true) ∧ Below w.heap.size w w' := by
  have hpu := put_any (.slice none 0 0) v [] l w (Rd.nil _) hr (by decide)
  have hq : putL [] l = (frameL l, 0) := by
    unfold putL
    rw [if_neg (by omega), if_neg (by omega)]
    rfl
  rw [hq] at hpu
  have HFL : Hid ((frameL l).length ≤ 2000) := by
    show _ ≤ _
    have := U_len l.length
    rw [frameL_length]
    omega
  have HP : Hid _ := hp
  obtain ⟨ao, cap, hv, -⟩ := id hr
  obtain ⟨n, HN⟩ := named l.length
  rw [← HN.out] at hv
  subst hv
  obtain ⟨FL, HFF⟩ := named (frameL l)
  rw [← HFF.out] at hpu HFL HP
  clear hr h0 h1 hp hq
  go_enter Tryd.func13, Tryd.ntmps13
  go_wp2_with fail
  refine hpu.mono ?_
  clear hpu
  rintro e w1 ⟨v1, rfl, ho1, hb1⟩
  obtain ⟨a1, p1, hv1, -⟩ := id ho1.rd
  obtain ⟨k1, HK1⟩ := named FL.length
  rw [← HK1.out] at hv1
  subst hv1
  have hpa := parse_any _ FL w1 ho1.rd (by have := HFL.out; omega)
  rw [HP.out] at hpa
  have HB1 : Hid _ := hb1
  clear ho1 hb1
  go_wp2_with fail
  refine hpa.mono ?_
  clear hpa
  rintro e w2 ⟨v2, rfl, ho2, hb2⟩
  obtain ⟨a2, p2, hv2, -⟩ := id ho2.rd
  have hz2 : (noR.blob.length : Nat) = 0 := rfl
  rw [hz2] at hv2
  subst hv2
  obtain ⟨X, HX⟩ := named (w2.alloc (Obj.cells #[.int .i64 noR.serial, .int .i64 noR.batch, .slice a2 0 p2] 24))
  have HBX : Hid (Below w2.heap.size w2 X) := by show Below _ _ _; rw [HX.out]; exact (Below.refl _ _).alloc (Nat.le_refl _) _
  have HCX : Hid (C3 X w2.heap.size (.int .i64 noR.serial) (.int .i64 noR.batch) (.slice a2 0 p2)) := by show C3 _ _ _ _ _; rw [HX.out]; exact C3.new _ _ _ _ _
  have HB2 : Hid _ := below_call (below_call HB1.out hb2) HBX.out
  have hsr := sameRoot_any noR noR (.slice a2 0 p2) (.slice none 0 0) X (Rd.below (Own.rd ho2) HBX.out) (Rd.nil _)
  rw [sameR_self] at hsr
  clear ho2 hb2
  obtain ⟨x0, y0, y1, y2, -⟩ := HCX.out
  go_wp2_with (rw [← HX.out])
  refine hsr.mono ?_
  rintro e w3 ⟨rfl, hb3⟩
  go_wp2_with fail
  go_ret
  exact ⟨rfl, below_call HB2.out hb3⟩
end Go.Proofs.YtffgbjojngnebaaDoor
