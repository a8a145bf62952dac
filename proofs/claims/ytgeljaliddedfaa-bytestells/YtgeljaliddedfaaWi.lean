/-
  The contract of awake: it answers true, and changes nothing that was there. Own work.
-/
import Derived.Test.YtgeljaliddedfaaWh
import Derived.Lib.SlBytesConst
namespace Go.Proofs.Ytgeljaliddedfaa
open Go.RowKit

theorem Rd.lit (w : World) (cs : Array Value) (l : List UInt8) (n : Nat) (e : TypeId) (m : Nat × Nat) (h : cs = (BV l).toArray) (hn : n = l.length) (hl : n ≤ maxLen) : Rd (w.alloc (.cells cs e m)) (.slice (some ⟨w.heap.size, 0, none⟩) n n) l := by
  subst h
  subst hn
  refine ⟨_, _, rfl, Nat.le_refl _, hl, by simp, fun a ha i hi => ?_⟩
  obtain rfl := Option.some.inj ha
  have : (⟨w.heap.size, 0, none⟩ : Addr).add i = ⟨w.heap.size, i, none⟩ := by unfold Addr.add; split <;> simp_all
  rw [this, cell_of_row _ w.heap.size i (BV l).toArray e m (heap_alloc_new w _)]
  simp [BV, hi]
theorem below_alloc_call {w w1 w2 : World} {o : Obj} (h : Below w.heap.size w w1) (hb : Below (w1.alloc o).heap.size (w1.alloc o) w2) : Below w.heap.size w w2 :=
  (h.alloc h.size o).trans (hb.mono (by have := h.size; simp; omega))
theorem below_call {w w1 w2 : World} (h : Below w.heap.size w w1) (hb : Below w1.heap.size w1 w2) : Below w.heap.size w w2 := h.trans (hb.mono h.size)

set_option maxRecDepth 100000 in
set_option maxHeartbeats 2000000 in
theorem awake_true (w : World) : Calls Try.prog 18 #[] w fun e w' => e = .returned (.bool true) ∧ Below w.heap.size w w' := by
  have kc := fun (w : World) (C : Array Value) (n c : Nat) => Lib.run_convert_bytes_const (P := Try.prog) w 22 5 C n c Try.underlying22 Try.underlying5
  have hT := run_toStr
  have hB0 : Below w.heap.size w w := Below.refl _ _
  go_enter Try.func18, Try.ntmps18
  go_wp2_with fail
  refine (writes_true 0 _ [0] _ (by decide) (Rd.lit _ _ [0] _ _ _ rfl rfl (by decide)) (by decide) (by decide +kernel) (by decide +kernel)).mono ?_
  rintro e w1 ⟨rfl, hb1⟩
  have hB1 : Below w.heap.size w w1 := below_alloc_call hB0 hb1
  clear hb1 hB0
  go_wp2_with fail
  refine (writes_true 127 _ [127] _ (by decide) (Rd.lit _ _ [127] _ _ _ rfl rfl (by decide)) (by decide) (by decide +kernel) (by decide +kernel)).mono ?_
  rintro e w2 ⟨rfl, hb2⟩
  have hB2 : Below w.heap.size w w2 := below_alloc_call hB1 hb2
  clear hb2 hB1
  go_wp2_with fail
  refine (writes_true 128 _ [128, 1] _ (by decide) (Rd.lit _ _ [128, 1] _ _ _ rfl rfl (by decide)) (by decide) (by decide +kernel) (by decide +kernel)).mono ?_
  rintro e w3 ⟨rfl, hb3⟩
  have hB3 : Below w.heap.size w w3 := below_alloc_call hB2 hb3
  clear hb3 hB2
  go_wp2_with fail
  refine (writes_true 300 _ [172, 2] _ (by decide) (Rd.lit _ _ [172, 2] _ _ _ rfl rfl (by decide)) (by decide) (by decide +kernel) (by decide +kernel)).mono ?_
  rintro e w4 ⟨rfl, hb4⟩
  have hB4 : Below w.heap.size w w4 := below_alloc_call hB3 hb4
  clear hb4 hB3
  go_wp2_with fail
  refine (signed_true (-1) 1 _ [1] _ (by decide) (by decide) (Rd.lit _ _ [1] _ _ _ rfl rfl (by decide)) (by decide) (by decide +kernel) (by decide +kernel) (by decide +kernel)).mono ?_
  rintro e w5 ⟨rfl, hb5⟩
  have hB5 : Below w.heap.size w w5 := below_alloc_call hB4 hb5
  clear hb5 hB4
  go_wp2_with fail
  refine (signed_true (1) 2 _ [2] _ (by decide) (by decide) (Rd.lit _ _ [2] _ _ _ rfl rfl (by decide)) (by decide) (by decide +kernel) (by decide +kernel) (by decide +kernel)).mono ?_
  rintro e w6 ⟨rfl, hb6⟩
  have hB6 : Below w.heap.size w w6 := below_alloc_call hB5 hb6
  clear hb6 hB5
  go_wp2_with fail
  refine (signed_true (-64) 127 _ [127] _ (by decide) (by decide) (Rd.lit _ _ [127] _ _ _ rfl rfl (by decide)) (by decide) (by decide +kernel) (by decide +kernel) (by decide +kernel)).mono ?_
  rintro e w7 ⟨rfl, hb7⟩
  have hB7 : Below w.heap.size w w7 := below_alloc_call hB6 hb7
  clear hb7 hB6
  go_wp2_with fail
  refine (blob_any _ _ [] [97, 98] _ (Rd.nil _) (Rd.lit _ _ [97, 98] _ _ _ rfl rfl (by decide)) (by decide)).mono ?_
  rintro e w8 ⟨v8, rfl, hown8, hb8⟩
  have hB8 : Below w.heap.size w w8 := below_alloc_call hB7 hb8
  have ho8 : Own w8 (w7.heap.size + 1) v8 [2, 97, 98] := by
    have e8 : [] ++ (U (([97, 98] : List UInt8).length : Int) ++ [97, 98]) = [2, 97, 98] := by decide +kernel
    rw [e8] at hown8
    simpa using hown8
  clear hb8 hB7 hown8
  obtain ⟨a8, c8, hv8, -⟩ := id ho8.rd
  subst hv8
  have hs8 : Sem.run Try.prog (toStr (.slice a8 3 c8)) w8 = .ok (.string ⟨#[2, 97, 98]⟩) w8 := run_str w8 _ [2, 97, 98] ho8.rd
  clear ho8
  go_wp2_with fail
  refine (refused_true 10 0 _ [128, 0] _ (Rd.lit _ _ [128, 0] _ _ _ rfl rfl (by decide)) (by decide) (by decide +kernel)).mono ?_
  rintro e w9 ⟨rfl, hb9⟩
  have hB9 : Below w.heap.size w w9 := below_alloc_call hB8 hb9
  clear hb9 hB8
  go_wp2_with fail
  refine (refused_true 11 0 _ [128] _ (Rd.lit _ _ [128] _ _ _ rfl rfl (by decide)) (by decide) (by decide +kernel)).mono ?_
  rintro e w10 ⟨rfl, hb10⟩
  have hB10 : Below w.heap.size w w10 := below_alloc_call hB9 hb10
  clear hb10 hB9
  go_wp2_with fail
  have hcr : (crc [49, 50, 51, 52, 53, 54, 55, 56, 57]).toNat = 3421780262 := by decide +kernel
  have hc := crc_any (.slice (some ⟨w10.heap.size, 0, none⟩) 9 9) [49, 50, 51, 52, 53, 54, 55, 56, 57] (w10.alloc (.cells (BV [49, 50, 51, 52, 53, 54, 55, 56, 57]).toArray 5 (9, 10))) (Rd.lit _ _ _ _ _ _ rfl rfl (by decide))
  rw [hcr] at hc
  refine hc.mono ?_
  clear hc hcr
  rintro e w11 ⟨rfl, hw11⟩
  have hB11 : Below w.heap.size w w11 := by rw [← hw11]; exact hB10.alloc hB10.size _
  clear hw11 hB10 hs8
  go_wp2_with fail
  refine (seal_any _ [] _ (Rd.nil _) (by decide)).mono ?_
  rintro e w12 ⟨v12, rfl, hown12, hb12⟩
  have hB12 : Below w.heap.size w w12 := below_call hB11 hb12
  have ho12 : Own w12 w11.heap.size v12 [0, 0, 0, 0] := by
    have e12 : [] ++ be4 (crc []) = [0, 0, 0, 0] := by decide +kernel
    rw [e12] at hown12
    exact hown12
  clear hb12 hB11 hown12
  obtain ⟨a12, c12, hv12, -⟩ := id ho12.rd
  subst hv12
  have hs12 : Sem.run Try.prog (toStr (.slice a12 4 c12)) w12 = .ok (.string ⟨#[0, 0, 0, 0]⟩) w12 := run_str w12 _ [0, 0, 0, 0] ho12.rd
  clear ho12
  go_wp2_with fail
  go_ret
  exact ⟨rfl, hB12⟩
end Go.Proofs.Ytgeljaliddedfaa
