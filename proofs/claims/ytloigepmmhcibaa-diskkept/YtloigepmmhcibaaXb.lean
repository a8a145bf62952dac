/-
  The contract of does upon no disk. Own work.
-/
import Derived.Test.YtloigepmmhcibaaXa
namespace Go.Proofs.Ytloigepmmhcibaa
open Go.RowKit

theorem xbelow {w w2 : World} {o : Obj} (hb : Below (w.alloc o).heap.size (w.alloc o) w2) : Below w.heap.size w w2 :=
  ((Below.refl _ _).alloc (Nat.le_refl _) o).trans (hb.mono (by simp))
theorem xcall {w w1 w2 : World} (h : Below w.heap.size w w1) (hb : Below w1.heap.size w1 w2) : Below w.heap.size w w2 := h.trans (hb.mono h.size)

set_option maxRecDepth 100000 in
set_option maxHeartbeats 1600000 in
theorem does_none (w : World) (v : Value) (dn : Nat) (A To : ByteArray) (bo : Option Addr) (bl bc : Nat) (N : Int) (K T : Value) (h : NoneV w v) (hdn : dn < 7) :
    Calls Try.prog 30 #[v, .agg #[.int .u8 dn, .string A, .string To, .slice bo bl bc, .int .i64 N, K, T]] w fun e w' => e = .returned (.int .i64 1) ∧ Below w.heap.size w w' := by
  obtain ⟨a, rfl⟩ := h.shape
  obtain rfl | rfl | rfl | rfl | rfl | rfl | rfl : dn = 0 ∨ dn = 1 ∨ dn = 2 ∨ dn = 3 ∨ dn = 4 ∨ dn = 5 ∨ dn = 6 := by omega
  · go_enter Try.func30, Try.ntmps30
    go_wp2_with fail
    refine (append_none _ _ A bo bl bc (h.alloc _)).mono ?_
    rintro e w1 ⟨rfl, hb⟩
    go_wp2
    go_ret
    exact ⟨rfl, xbelow hb⟩
  · go_enter Try.func30, Try.ntmps30
    go_wp2_with fail
    refine (append_none _ _ A bo bl bc (h.alloc _)).mono ?_
    rintro e w1 ⟨rfl, hb⟩
    go_wp2
    go_ret
    exact ⟨rfl, xbelow hb⟩
  · go_enter Try.func30, Try.ntmps30
    go_wp2_with fail
    refine (append_none _ _ A bo bl bc (h.alloc _)).mono ?_
    rintro e w1 ⟨rfl, hb⟩
    go_wp2
    go_ret
    exact ⟨rfl, xbelow hb⟩
  · go_enter Try.func30, Try.ntmps30
    go_wp2_with fail
    refine (sync_none _ _ A (h.alloc _)).mono ?_
    rintro e w1 ⟨rfl, hb⟩
    go_wp2
    go_ret
    exact ⟨rfl, xbelow hb⟩
  · go_enter Try.func30, Try.ntmps30
    go_wp2_with fail
    refine (rename_none _ _ A To (h.alloc _)).mono ?_
    rintro e w1 ⟨rfl, hb⟩
    go_wp2
    go_ret
    exact ⟨rfl, xbelow hb⟩
  · go_enter Try.func30, Try.ntmps30
    go_wp2_with fail
    refine (remove_none _ _ A (h.alloc _)).mono ?_
    rintro e w1 ⟨rfl, hb⟩
    go_wp2
    go_ret
    exact ⟨rfl, xbelow hb⟩
  · go_enter Try.func30, Try.ntmps30
    go_wp2_with fail
    refine (cut_none _ _ A N (h.alloc _)).mono ?_
    rintro e w1 ⟨rfl, hb⟩
    go_wp2
    go_ret
    exact ⟨rfl, xbelow hb⟩
end Go.Proofs.Ytloigepmmhcibaa
