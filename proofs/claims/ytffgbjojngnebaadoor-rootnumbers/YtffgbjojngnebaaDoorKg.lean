/-
  The contract of root's stands. Own work.
-/
import Derived.Test.YtffgbjojngnebaaDoorKf
import Derived.Test.YtffgbjojngnebaaDoorKb
import Derived.Test.YtffgbjojngnebaaDoorQr
namespace Go.Proofs.YtffgbjojngnebaaDoor
open Go.RowKit

/-- the two names stand in the package's variable -/
structure Laid (w : World) : Prop where
  lt : 0 < w.heap.size
  n0 : w.cell? ⟨0, 0, none⟩ = some (.string nR0)
  n1 : w.cell? ⟨0, 1, none⟩ = some (.string nR1)
theorem Laid.below {w w' : World} (h : Laid w) (hb : Below w.heap.size w w') : Laid w' :=
  ⟨Nat.lt_of_lt_of_le h.lt hb.size, (hb.cell (p := ⟨0, 0, none⟩) h.lt).trans h.n0, (hb.cell (p := ⟨0, 1, none⟩) h.lt).trans h.n1⟩

theorem readD_cases (D : AD) (n : ByteArray) : D.dark = true ∧ readD D n = ([], 15) ∨ D.dark = false ∧ ((readD D n).2 = 0 ∨ (readD D n).2 = 16) := by
  unfold readD
  cases h : D.dark with
  | true => left; simp
  | false =>
    right
    refine ⟨rfl, ?_⟩
    rw [if_neg (by simp)]
    split
    · exact .inr rfl
    · exact .inl rfl
theorem readD_len {D : AD} (h : D.ok) (n : ByteArray) : (readD D n).1.length ≤ 16777216 := by
  unfold readD
  split
  · simp
  · split
    · simp
    · have h1 := look_used (fs := D.files) n
      have h2 := h.room
      have h3 := h.most
      simp only
      omega

set_option maxRecDepth 100000 in
set_option maxHeartbeats 800000 in
theorem stands_any {w : World} {F : Nat → Prop} {d : Value} {D : AD} (h : Dk w F d D) (n : ByteArray) :
    Calls Tryd.prog 53 #[d, .string n] w fun e w' => ∃ v, e = .returned (.tuple #[.agg #[.int .i64 (standR D n).serial, .int .i64 (standR D n).batch, v], .int .i64 (fails D)]) ∧ Own w' w.heap.size v (standR D n).blob ∧ Below w.heap.size w w' := by
  obtain ⟨W, HW⟩ := named (w.alloc (Obj.cells #[.int .i64 0, .int .i64 0, .slice none 0 0] 24))
  have HBW : Hid (Below w.heap.size w W) := by show Below _ _ _; rw [HW.out]; exact (Below.refl _ _).alloc (Nat.le_refl _) _
  have HC : Hid (C3 W w.heap.size (.int .i64 0) (.int .i64 0) (.slice none 0 0)) := by show C3 _ _ _ _ _; rw [HW.out]; exact C3.new _ _ _ _ _
  have hrd := read_any (h.below HBW.out) n
  have HLEN : Hid _ := readD_len h.ok n
  have hcs := readD_cases D n
  have HS : Hid (standR D n = (parseR (readD D n).1).1) := rfl
  have HF : Hid (fails D = if D.dark then 15 else 0) := rfl
  obtain ⟨R, HR⟩ := named (readD D n)
  rw [← HR.out] at hrd hcs HS HLEN
  obtain ⟨rl, rx⟩ := R
  simp only at hrd hcs HS HLEN
  obtain ⟨d, HD⟩ := (⟨d, rfl⟩ : ∃ d', d' = d)
  subst HD
  clear h
  rcases hcs with ⟨hd, he⟩ | ⟨hd, he⟩
  · simp only [Prod.mk.injEq] at he
    obtain ⟨rfl, rfl⟩ := he
    rw [parse_nil] at HS
    rw [hd, if_pos rfl] at HF
    go_enter Tryd.func53, Tryd.ntmps53
    go_wp2_with fail
    rw [← HW.out]
    refine hrd.mono ?_
    rintro e w1 ⟨v1, rfl, ho, hb⟩
    have HB3 : Hid _ := below_call HBW.out hb
    have HC3 : Hid _ := C3.below HC.out hb
    clear ho hb hrd
    obtain ⟨g0, c0, c1, c2, f0, f1, f2⟩ := HC3.out
    go_wp2_with fail
    refine bodyPost_ret (v := .tuple #[.agg #[.int .i64 0, .int .i64 0, .slice none 0 0], .int .i64 15]) (by simp [results, Tryd.results53, go_sem, c0, c1, c2]) rfl ?_
    rw [HS.out, HF.out]
    exact ⟨_, rfl, Own.nil _ _, by first | exact HB3.out | exact below_set3 HB3.out _ _ _ (Nat.le_refl _)⟩
  · rw [hd, if_neg (by simp)] at HF
    rcases he with rfl | rfl
    all_goals
      go_enter Tryd.func53, Tryd.ntmps53
      go_wp2_with fail
      rw [← HW.out]
      refine hrd.mono ?_
      rintro e w1 ⟨v1, rfl, ho, hb⟩
      have hpa := parse_any v1 rl w1 ho.rd (by have := HLEN.out; omega)
      have HB1 : Hid _ := below_call HBW.out hb
      have HC1 : Hid _ := C3.below HC.out hb
      clear ho hb hrd
      go_wp2_with fail
      refine hpa.mono ?_
      rintro e w2 ⟨v2, rfl, ho2, hb2⟩
      obtain ⟨a2, p2, hv2, -⟩ := id ho2.rd
      rw [← HS.out] at ho2 hv2
      rw [← HS.out]
      obtain ⟨k2, HK2⟩ := named (standR D n).blob.length
      rw [← HK2.out] at hv2
      subst hv2
      obtain ⟨Z, HZ⟩ := named (standR D n)
      rw [← HZ.out] at ho2
      rw [← HZ.out]
      obtain ⟨zs, zb, zl⟩ := Z
      simp only at ho2 ⊢
      have HBX : Hid (Below w2.heap.size w2 (w2.alloc (Obj.cells #[.int .i64 zs, .int .i64 zb, .slice a2 k2 p2] 24))) := (Below.refl _ _).alloc (Nat.le_refl _) _
      have HB3 : Hid _ := below_call (below_call HB1.out hb2) HBX.out
      have HC3 : Hid _ := C3.below (C3.below HC1.out hb2) HBX.out
      have HO3 : Hid _ := Own.below ho2 HBX.out
      have HLT : Hid (w.heap.size < w1.heap.size) := HC1.out.1
      clear ho2 hb2 hpa
      obtain ⟨g0, c0, c1, c2, f0, f1, f2⟩ := HC3.out
      go_wp2_with fail
      refine bodyPost_ret (v := .tuple #[.agg #[.int .i64 zs, .int .i64 zb, .slice a2 k2 p2], .int .i64 0]) (by simp [results, Tryd.results53, go_sem, c0, c1, c2]) rfl ?_
      rw [HF.out, ← HZ.out]
      exact ⟨_, rfl, (Own.set3 _ _ _ HO3.out HLT.out).mono (Nat.le_of_lt HLT.out), below_set3 HB3.out _ _ _ (Nat.le_refl _)⟩
end Go.Proofs.YtffgbjojngnebaaDoor
