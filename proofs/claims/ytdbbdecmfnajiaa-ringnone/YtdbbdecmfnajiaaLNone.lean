/-
  Rings that New did not make: each call's contract, and the law. Own work.
-/
import Derived.Test.YtdbbdecmfnajiaaMt
namespace Go.Proofs.Ytdbbdecmfnajiaa
open Go.RowKit Go.Sort

theorem NoneR.below {w w' : World} {v : Value} (h : NoneR w v) (hb : Below w.heap.size w w') : NoneR w' v := by
  rcases h with rfl | ⟨b, rfl, hc⟩
  · exact .inl rfl
  · exact .inr ⟨b, rfl, by rw [hb.cell (World.block_lt_of_cell? w _ hc)]; exact hc⟩
theorem NoneR.ptr {w : World} {v : Value} (h : NoneR w v) : ∃ po, v = .pointer po := by
  rcases h with rfl | ⟨b, rfl, hc⟩ <;> exact ⟨_, rfl⟩

set_option maxRecDepth 100000 in
set_option maxHeartbeats 1600000 in
theorem none_take {w : World} {v : Value} (h : NoneR w v) (s : ByteArray) (hs : s.size ≤ maxLen) :
    Calls Try.prog 23 #[v, .string s] w fun e w' => e = .returned (.tuple #[.int .i64 0, .bool false]) ∧ Below w.heap.size w w' := by
  have kf := find_none w v s hs (.inl h)
  obtain ⟨po, rfl⟩ := h.ptr
  clear h
  go_enter Try.func23, Try.ntmps23
  go_wp2_with fail
  (with_reducible refine Calls.mono kf ?_)
  clear kf
  rintro e u ⟨rfl, hb, hq⟩
  have q3 : u.cell? ⟨w.heap.size, 3, none⟩ = some (.int .i64 0) := hq.1.s3
  have HB := hide hb
  clear hb hq
  go_wp2_with fail
  go_ret2
  exact ⟨rfl, HB.out⟩

set_option maxRecDepth 100000 in
set_option maxHeartbeats 1600000 in
theorem none_look {w : World} {v : Value} (h : NoneR w v) (s : ByteArray) (hs : s.size ≤ maxLen) :
    Calls Try.prog 31 #[v, .string s] w fun e w' => e = .returned (.tuple #[.int .i64 0, .bool false]) ∧ Below w.heap.size w w' := by
  have kf := find_none w v s hs (.inl h)
  obtain ⟨po, rfl⟩ := h.ptr
  clear h
  go_enter Try.func31, Try.ntmps31
  go_wp2_with fail
  (with_reducible refine Calls.mono kf ?_)
  clear kf
  rintro e u ⟨rfl, hb, hq⟩
  have q3 : u.cell? ⟨w.heap.size, 3, none⟩ = some (.int .i64 0) := hq.1.s3
  have HB := hide hb
  clear hb hq
  go_wp2_with fail
  go_ret2
  exact ⟨rfl, HB.out⟩

set_option maxRecDepth 100000 in
set_option maxHeartbeats 1600000 in
theorem none_len {w : World} {v : Value} (h : NoneR w v) (s : ByteArray) (hs : s.size ≤ maxLen) :
    Calls Try.prog 18 #[v, .string s] w fun e w' => e = .returned (.int .i64 0) ∧ Below w.heap.size w w' := by
  have kf := find_none w v s hs (.inl h)
  obtain ⟨po, rfl⟩ := h.ptr
  clear h
  go_enter Try.func18, Try.ntmps18
  go_wp2_with fail
  (with_reducible refine Calls.mono kf ?_)
  clear kf
  rintro e u ⟨rfl, hb, hq⟩
  have q3 : u.cell? ⟨w.heap.size, 3, none⟩ = some (.int .i64 0) := hq.1.s3
  have HB := hide hb
  clear hb hq
  go_wp2_with fail
  go_ret
  exact ⟨rfl, HB.out⟩

set_option maxRecDepth 100000 in
set_option maxHeartbeats 1600000 in
theorem none_room {w : World} {v : Value} (h : NoneR w v) (s : ByteArray) (hs : s.size ≤ maxLen) :
    Calls Try.prog 14 #[v, .string s] w fun e w' => e = .returned (.int .i64 0) ∧ Below w.heap.size w w' := by
  have kf := find_none w v s hs (.inl h)
  obtain ⟨po, rfl⟩ := h.ptr
  clear h
  go_enter Try.func14, Try.ntmps14
  go_wp2_with fail
  (with_reducible refine Calls.mono kf ?_)
  clear kf
  rintro e u ⟨rfl, hb, hq⟩
  have kr := room_any hq
  have e0 : max ((noQ w.heap.size 0).most - ((noQ w.heap.size 0).L.length : Int)) 0 = 0 := by simp [noQ]
  rw [e0] at kr
  have HB := hide hb
  have kr' : Calls Try.prog 44 #[.pointer (some ⟨w.heap.size, 0, none⟩)] u _ := kr
  clear hb hq kr e0
  go_wp2_with fail
  (with_reducible refine Calls.mono kr' ?_)
  clear kr'
  rintro e u2 ⟨rfl, hb⟩
  have HB2 := hide (below_call HB.out hb)
  clear hb
  go_wp2_with fail
  go_ret
  exact ⟨rfl, HB2.out⟩

set_option maxRecDepth 100000 in
set_option maxHeartbeats 1600000 in
theorem none_drop {w : World} {v : Value} (h : NoneR w v) (s : ByteArray) (hs : s.size ≤ maxLen) (x : Int) :
    Calls Try.prog 25 #[v, .string s, .int .i64 x] w fun e w' => e = .returned (.bool false) ∧ Below w.heap.size w w' := by
  have kf := find_none w v s hs (.inl h)
  obtain ⟨po, rfl⟩ := h.ptr
  clear h
  go_enter Try.func25, Try.ntmps25
  go_wp2_with fail
  (with_reducible refine Calls.mono kf ?_)
  clear kf
  rintro e u ⟨rfl, hb, hq⟩
  have kr := drop_any hq x
  rw [decide_eq_false (show x ∉ (noQ w.heap.size 0).L from by simp [noQ])] at kr
  have hx : x ∉ (noQ w.heap.size 0).L := by simp [noQ]
  have HX := hide hx
  have HB := hide hb
  have kr' : Calls Try.prog 52 #[.pointer (some ⟨w.heap.size, 0, none⟩), .int .i64 x] u _ := kr
  clear hb hq kr hx
  go_wp2_with fail
  (with_reducible refine Calls.mono kr' ?_)
  clear kr'
  rintro e u2 ⟨rfl, hb, -⟩
  have HB2 := hide (below_call HB.out (hb HX.out))
  clear hb
  go_wp2_with fail
  go_ret
  exact ⟨rfl, HB2.out⟩

set_option maxRecDepth 100000 in
set_option maxHeartbeats 1600000 in
theorem none_all {w : World} {v : Value} (h : NoneR w v) (s : ByteArray) (hs : s.size ≤ maxLen) :
    Calls Try.prog 32 #[v, .string s] w fun e w' => ∃ v, e = .returned v ∧ OwnI w' w.heap.size v [] ∧ Below w.heap.size w w' := by
  have kf := find_none w v s hs (.inl h)
  obtain ⟨po, rfl⟩ := h.ptr
  clear h
  go_enter Try.func32, Try.ntmps32
  go_wp2_with fail
  (with_reducible refine Calls.mono kf ?_)
  clear kf
  rintro e u ⟨rfl, hb, hq⟩
  have kr := gather_nil hq.1
  rw [hq.2] at kr
  have q1 : u.cell? ⟨w.heap.size, 1, none⟩ = some (.slice none 0 0) := hq.1.s1
  have HB := hide hb
  have kr' : Calls Try.prog 53 #[.slice none 0 0, .slice none 0 0, .func (.func 54) #[.pointer (some ⟨w.heap.size, 0, none⟩)] #[]] u _ := kr
  clear hb hq kr
  go_wp2_with fail
  (with_reducible refine Calls.mono kr' ?_)
  clear kr'
  rintro e u2 ⟨v, rfl, ho, hb⟩
  have HB2 := hide (below_call HB.out hb)
  have HO : Hid (OwnI u2 w.heap.size v []) := ho.mono HB.out.size
  obtain ⟨ao, c, rfl⟩ := ho.shape
  clear hb ho
  go_wp2_with fail
  go_ret
  exact ⟨_, rfl, HO.out, HB2.out⟩

set_option maxRecDepth 100000 in
set_option maxHeartbeats 1600000 in
theorem none_put {w : World} {v : Value} (h : NoneR w v) (s : ByteArray) (x : Int) :
    Calls Try.prog 12 #[v, .string s, .int .i64 x] w fun e w' => e = .returned (.int .i64 1) ∧ w' = w := by
  have km := made_no w v h
  obtain ⟨po, rfl⟩ := h.ptr
  clear h
  go_enter Try.func12, Try.ntmps12
  go_wp2_with fail
  (with_reducible refine Calls.mono km ?_)
  clear km
  rintro e u ⟨rfl, rfl⟩
  go_wp2_with fail
  go_ret
  exact ⟨rfl, rfl⟩

set_option maxRecDepth 100000 in
set_option maxHeartbeats 1600000 in
theorem none_cap {w : World} {v : Value} (h : NoneR w v) (s : ByteArray) (x : Int) :
    Calls Try.prog 13 #[v, .string s, .int .i64 x] w fun e w' => e = .returned (.int .i64 1) ∧ w' = w := by
  have km := made_no w v h
  obtain ⟨po, rfl⟩ := h.ptr
  clear h
  go_enter Try.func13, Try.ntmps13
  go_wp2_with fail
  (with_reducible refine Calls.mono km ?_)
  clear km
  rintro e u ⟨rfl, rfl⟩
  go_wp2_with fail
  go_ret
  exact ⟨rfl, rfl⟩

set_option maxRecDepth 100000 in
set_option maxHeartbeats 1600000 in
theorem none_names {w : World} {v : Value} (h : NoneR w v) :
    Calls Try.prog 16 #[v] w fun e w' => e = .returned (.slice none 0 0) ∧ w' = w := by
  have km := made_no w v h
  obtain ⟨po, rfl⟩ := h.ptr
  clear h
  go_enter Try.func16, Try.ntmps16
  go_wp2_with fail
  (with_reducible refine Calls.mono km ?_)
  clear km
  rintro e u ⟨rfl, rfl⟩
  go_wp2_with fail
  go_ret
  exact ⟨rfl, rfl⟩

set_option maxRecDepth 100000 in
set_option maxHeartbeats 6400000 in
theorem none_walk (w : World) (s : ByteArray) (hs : s.size ≤ maxLen) (x : Int) :
    Calls Try.prog 5 #[.string s, .int .i64 x] w fun e w' => e = .returned (.bool true) ∧ Below w.heap.size w w' := by
  obtain ⟨b, HBB⟩ := named w.heap.size
  obtain ⟨W, HW⟩ := named ((w.alloc (.cells #[.pointer none] 60)).alloc (.cells #[.pointer none, .pointer (some ⟨w.heap.size, 0, none⟩)] 23))
  have hb0 : Below w.heap.size w W := by rw [HW.out]; exact ((Below.refl _ _).alloc (Nat.le_refl _) _).alloc (by simp) _
  have hc0 : W.heap[w.heap.size]? = some (.cells #[.pointer none] 60 (0, 0)) := by rw [HW.out, Below.heap_alloc _ _ _ (by simp)]; exact heap_new w _
  have hc1 : W.heap[w.heap.size + 1]? = some (.cells #[.pointer none, .pointer (some ⟨w.heap.size, 0, none⟩)] 23 (0, 0)) := by
    rw [HW.out]
    have := heap_new (w.alloc (.cells #[.pointer none] 60)) (.cells #[.pointer none, .pointer (some ⟨w.heap.size, 0, none⟩)] 23)
    simpa using this
  have hat : ∀ k, k < 2 → ∃ po, W.cell? ⟨w.heap.size + 1, k, none⟩ = some (.pointer po) ∧ NoneR W (.pointer po) := fun k hk => by
    rw [cell_of hc1]
    rcases (show k = 0 ∨ k = 1 by omega) with rfl | rfl
    · exact ⟨_, rfl, .inl rfl⟩
    · exact ⟨_, rfl, .inr ⟨_, rfl, by rw [cell_of hc0]; rfl⟩⟩
  have HAT := hide hat
  have HB0 := hide hb0
  have HLT := hide (lt_of hc1)
  clear hat hb0 hc0 hc1
  go_enter Try.func5, Try.ntmps5
  go_wp2_with fail
  rw [← HW.out]
  go_loopw [17] (fun iv wr => ∃ k : Nat, k ≤ 2 ∧ iv = .int .i64 k ∧ Hid (Below W.heap.size W wr)) (fun iv _ => 2 - (intOf iv).toNat)
  case atStart => exact ⟨0, Nat.zero_le _, rfl, Below.refl _ _⟩
  case round =>
    obtain ⟨k, hk, rfl, HB⟩ := hrel
    by_cases hlt : k < 2
    · obtain ⟨po, hc, hn⟩ := HAT.out k hlt
      have c0 : wr.cell? ⟨w.heap.size + 1, k, none⟩ = some (.pointer po) := by rw [HB.out.cell HLT.out]; exact hc
      have HN := hide hn
      have k1 := none_take (hn.below HB.out) s hs
      have hkI : (k : Int) < 2 := by omega
      clear hc hn
      go_wp2_with fail
      (with_reducible refine Calls.mono k1 ?_)
      clear k1
      rintro e u1 ⟨rfl, hb⟩
      have HB1 := hide (below_call HB.out hb)
      have k2 := none_look (HN.out.below HB1.out) s hs
      clear hb
      go_wp2_with fail
      (with_reducible refine Calls.mono k2 ?_)
      clear k2
      rintro e u2 ⟨rfl, hb⟩
      have HB2 := hide (below_call HB1.out hb)
      have k3 := none_put (HN.out.below HB2.out) s x
      have k4 := none_cap (HN.out.below HB2.out) s x
      have k5 := none_drop (HN.out.below HB2.out) s hs x
      clear hb
      go_wp2_with fail
      (with_reducible refine Calls.mono k3 ?_)
      clear k3
      rintro e u3 ⟨rfl, hu⟩
      subst hu
      go_wp2_with fail
      (with_reducible refine Calls.mono k4 ?_)
      clear k4
      rintro e u4 ⟨rfl, hu⟩
      subst hu
      go_wp2_with fail
      (with_reducible refine Calls.mono k5 ?_)
      clear k5
      rintro e u5 ⟨rfl, hb⟩
      have HB5 := hide (below_call HB2.out hb)
      have k6 := none_len (HN.out.below HB5.out) s hs
      clear hb
      go_wp2_with fail
      (with_reducible refine Calls.mono k6 ?_)
      clear k6
      rintro e u6 ⟨rfl, hb⟩
      have HB6 := hide (below_call HB5.out hb)
      have k7 := none_room (HN.out.below HB6.out) s hs
      clear hb
      go_wp2_with fail
      (with_reducible refine Calls.mono k7 ?_)
      clear k7
      rintro e u7 ⟨rfl, hb⟩
      have HB7 := hide (below_call HB6.out hb)
      have k8 := none_names (HN.out.below HB7.out)
      have k9 := none_all (HN.out.below HB7.out) s hs
      clear hb
      go_wp2_with fail
      (with_reducible refine Calls.mono k8 ?_)
      clear k8
      rintro e u8 ⟨rfl, hu⟩
      subst hu
      go_wp2_with fail
      (with_reducible refine Calls.mono k9 ?_)
      clear k9
      rintro e u9 ⟨v, rfl, ho, hb⟩
      have HB9 := hide (below_call HB7.out hb)
      obtain ⟨ao, c, rfl⟩ := ho.shape
      clear hb ho
      go_wp2_with fail
      go_roundw
      case rel => exact ⟨k + 1, hlt, by go_num, HB9⟩
      case measure => simp [intOf]; omega
    · obtain rfl : k = 2 := by omega
      have ka := awake_any wr
      go_wp2_with fail
      (with_reducible refine Calls.mono ka ?_)
      clear ka
      rintro e u ⟨rfl, hb⟩
      have HE := hide (below_call HB0.out (below_call HB.out hb))
      clear hb
      go_wp2_with fail
      go_ret
      exact ⟨rfl, HE.out⟩
end Go.Proofs.Ytdbbdecmfnajiaa
