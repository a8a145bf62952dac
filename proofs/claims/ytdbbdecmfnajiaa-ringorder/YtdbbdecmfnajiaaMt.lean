/-
  The chapter's examples hold. Own work.
-/
import Derived.Test.YtdbbdecmfnajiaaMs
namespace Go.Proofs.Ytdbbdecmfnajiaa
open Go.RowKit Go.Sort

abbrev nA : ByteArray := ⟨#[97]⟩
theorem right_nA : right nA := by decide
theorem rd_built1 (w : World) (a : Int) : RdI (w.alloc (.cells #[.int .i64 a] 3)) (.slice (some ⟨w.heap.size, 0, none⟩) 1 1) [a] :=
  ⟨_, _, rfl, Nat.le_refl _, by simp [maxLen], (by simp), fun k hk => ⟨w.heap.size, 0, rfl, by
    rw [Nat.zero_add, cell_of (heap_new w _)]
    have : k = 0 := by simp at hk; exact hk
    subst this; rfl⟩⟩
theorem rd_built2 (w : World) (a b : Int) : RdI (w.alloc (.cells #[.int .i64 a, .int .i64 b] 3)) (.slice (some ⟨w.heap.size, 0, none⟩) 2 2) [a, b] :=
  ⟨_, _, rfl, Nat.le_refl _, by simp [maxLen], (by simp), fun k hk => ⟨w.heap.size, 0, rfl, by
    rw [Nat.zero_add, cell_of (heap_new w _)]
    have : k = 0 ∨ k = 1 := by simp at hk; omega
    rcases this with rfl | rfl <;> rfl⟩⟩
theorem rs_built1 (w : World) (s : ByteArray) : RdS (w.alloc (.cells #[.string s] 9)) (.slice (some ⟨w.heap.size, 0, none⟩) 1 1) [s.data.toList] :=
  ⟨_, _, rfl, fun k hk => ⟨w.heap.size, 0, rfl, by
    rw [Nat.zero_add, cell_of (heap_new w _)]
    have : k = 0 := by simp at hk; exact hk
    subst this
    show some (Value.string s) = some (encStr s.data.toList)
    rw [enc_of]⟩⟩

set_option maxRecDepth 100000 in
set_option maxHeartbeats 6400000 in
theorem awake_any (w : World) : Calls Try.prog 20 #[] w fun e w' => e = .returned (.bool true) ∧ Below w.heap.size w w' := by
  have k := new_any w 2 (by decide)
  go_enter Try.func20, Try.ntmps20
  go_wp2_with fail
  (with_reducible refine Calls.mono k ?_)
  clear k
  rintro e u0 ⟨r, F, rfl, h1, h2, h3⟩
  have HS : Hid (S1 w u0 r 2 nA 2 []) := S1.new h1 h2 h3 nA
  obtain ⟨rb, rfl⟩ := h1.ptr
  clear h1 h2 h3
  have k := HS.out.put right_nA 5 (by simp)
  go_wp2_with fail
  (with_reducible refine Calls.mono k ?_)
  clear k HS
  rintro e u1 ⟨rfl, h⟩
  have HS := hide h
  clear h
  have k := HS.out.put right_nA 6 (by simp)
  go_wp2_with fail
  (with_reducible refine Calls.mono k ?_)
  clear k HS
  rintro e u2 ⟨rfl, h⟩
  have HS := hide h
  clear h
  have k := HS.out.busy right_nA 7 (by simp)
  go_wp2_with fail
  (with_reducible refine Calls.mono k ?_)
  clear k HS
  rintro e u3 ⟨rfl, h⟩
  have HS := hide h
  clear h
  have k := HS.out.takes right_nA rfl
  go_wp2_with fail
  (with_reducible refine Calls.mono k ?_)
  clear k HS
  rintro e u4 ⟨rfl, h⟩
  have HS := hide h
  clear h
  have k := HS.out.put right_nA 7 (by simp)
  go_wp2_with fail
  (with_reducible refine Calls.mono k ?_)
  clear k HS
  rintro e u5 ⟨rfl, h⟩
  have HS := hide h
  clear h
  have hbx : Below u5.heap.size u5 (u5.alloc (.cells #[.int .i64 6, .int .i64 7] 3)) := (Below.refl _ _).alloc (Nat.le_refl _) _
  have k := (HS.out.below hbx).has right_nA (rd_built2 u5 6 7) (by simp)
  clear hbx
  go_wp2_with fail
  (with_reducible refine Calls.mono k ?_)
  clear k HS
  rintro e v1 ⟨rfl, h, -⟩
  have HS := hide h
  clear h
  have k := HS.out.room right_nA
  go_wp2_with fail
  (with_reducible refine Calls.mono k ?_)
  clear k HS
  rintro e u6 ⟨rfl, h⟩
  have HS := hide h
  clear h
  have k := HS.out.drop right_nA 6
  go_wp2_with fail
  (with_reducible refine Calls.mono k ?_)
  clear k HS
  rintro e u7 ⟨rfl, h⟩
  have HS := hide h
  clear h
  have k := HS.out.cap right_nA 1 (by decide)
  go_wp2_with fail
  (with_reducible refine Calls.mono k ?_)
  clear k HS
  rintro e u8 ⟨rfl, h⟩
  have HS := hide h
  clear h
  have k := HS.out.busy right_nA 8 (by simp)
  go_wp2_with fail
  (with_reducible refine Calls.mono k ?_)
  clear k HS
  rintro e u9 ⟨rfl, h⟩
  have HS := hide h
  clear h
  have k := HS.out.names
  go_wp2_with fail
  (with_reducible refine Calls.mono k ?_)
  clear k HS
  rintro e x1 ⟨v, rfl, ho, h, -⟩
  have ho : OwnS x1 u9.heap.size v [nA.data.toList] := ho
  have HS := hide h
  clear h
  have hbx : Below x1.heap.size x1 (x1.alloc (.cells #[.string nA] 9)) := (Below.refl _ _).alloc (Nat.le_refl _) _
  have k := sameTexts_true (ho.below hbx).rd (rs_built1 x1 nA) (by simp)
  have HS1 := hide (HS.out.below hbx)
  obtain ⟨ao, cap, rfl⟩ := ho.shape
  clear ho hbx HS
  go_wp2_with fail
  (with_reducible refine Calls.mono k ?_)
  clear k
  rintro e x2 ⟨rfl, hb⟩
  have HS := hide (HS1.out.below hb)
  clear hb HS1
  have k := HS.out.takes right_nA rfl
  go_wp2_with fail
  (with_reducible refine Calls.mono k ?_)
  clear k HS
  rintro e u10 ⟨rfl, h⟩
  have HS := hide h
  clear h
  have k := HS.out.names
  go_wp2_with fail
  (with_reducible refine Calls.mono k ?_)
  clear k HS
  rintro e x3 ⟨v, rfl, ho, h, -⟩
  have ho : OwnS x3 u10.heap.size v [] := ho
  have HS := hide h
  clear h
  obtain ⟨ao, cap, rfl⟩ := ho.shape
  clear ho
  go_wp2_with fail
  go_ret
  exact ⟨rfl, HS.out.bel⟩
end Go.Proofs.Ytdbbdecmfnajiaa
