/-
  The law FrameSpares answers true, whatever the body: what is got shares no memory with the bytes it was got of. No condition.
-/
import Derived.Test.YtlpjfcfajagobaaFe
import Derived.Test.YtlpjfcfajagobaaKeep
namespace Go.Proofs.Ytlpjfcfajagobaa
open Go.RowKit

/-- bytes of one's own, while a cell is written that lies ahead of them -/
theorem Own.other {w : World} {base b2 g cap j n : Nat} {v : Value} {l lb : List UInt8} {u : Value} (h : Own w base v l) (hb : Own w b2 (.slice (some ⟨g, 0, none⟩) n cap) lb) (hn : n = lb.length) (hg : g < base) : Own (w.setCell ⟨g, j, none⟩ u) base v l := by
  subst hn
  exact h.apart (World.ownsRow.stored hb j u).2 hg
theorem putL_ok (out b : List UInt8) (h0 : 0 < b.length) (h1 : b.length ≤ 1048576) : putL out b = (out ++ frameL b, 0) := by
  unfold putL
  rw [if_neg (by omega), if_neg (by omega)]
theorem getF_frame0 (b : List UInt8) (h0 : 0 < b.length) (h1 : b.length ≤ 1048576) : getF (frameL b) 0 = (b, (frameL b).length, 0) := by
  have := getF_frame b [] [] h0 h1
  simpa using this

set_option maxRecDepth 100000 in
set_option maxHeartbeats 800000 in
theorem spares_off (v : Value) (l : List UInt8) (w : World) (hrd : Rd w v l) (hbad : l.length = 0 ∨ 300 < l.length) :
    Calls Try.prog 9 #[v] w fun e w' => e = .returned (.bool true) ∧ Below w.heap.size w w' := by
  obtain ⟨ao, cap, rfl, -⟩ := hrd
  by_cases h0 : l.length = 0
  · have h0' : ((l.length : Int) == 0) = true := by simp only [beq_iff_eq]; omega
    clear hbad h0
    go_enter Try.func9, Try.ntmps9
    go_wp2_with fail
    refine (awake_true _).mono ?_
    rintro e w7 ⟨rfl, hb7⟩
    go_wp2
    go_ret
    exact ⟨rfl, hb7⟩
  · have h0' : ((l.length : Int) == 0) = false := by simp only [beq_eq_false_iff_ne]; omega
    have h1' : (300 : Int) < l.length := by omega
    clear hbad h0
    go_enter Try.func9, Try.ntmps9
    go_wp2_with fail
    refine (awake_true _).mono ?_
    rintro e w7 ⟨rfl, hb7⟩
    go_wp2
    go_ret
    exact ⟨rfl, hb7⟩

set_option maxRecDepth 100000 in
set_option maxHeartbeats 800000 in
theorem spares_in (v : Value) (l : List UInt8) (w : World) (hrd : Rd w v l) (h0 : 0 < l.length) (h1 : l.length ≤ 300) :
    Calls Try.prog 9 #[v] w fun e w' => e = .returned (.bool true) ∧ Below w.heap.size w w' := by
  have hput := put_any (.slice none 0 0) v [] l w (Rd.nil _) hrd (by decide)
  rw [putL_ok [] l h0 (by omega), List.nil_append] at hput
  have hgf := getF_frame0 l h0 (by omega)
  have hfl := frameL_length l
  have hul := U_len l.length
  obtain ⟨F, HF⟩ := named (frameL l)
  rw [← HF.out] at hput hgf hfl
  obtain ⟨n, HN⟩ := named l.length
  obtain ⟨fn, HFN⟩ := named F.length
  have hn0 : 0 < n := by rw [HN.out]; exact h0
  have hn1 : n ≤ 300 := by rw [HN.out]; exact h1
  have hfn : 6 ≤ fn ∧ fn ≤ 1000 := by rw [HFN.out]; omega
  have HGF : Hid _ := hgf
  have HFNB : Hid _ := hfn
  obtain ⟨ao, cap, hv, -⟩ := id hrd
  subst hv
  rw [← HN.out] at hput hrd ⊢
  have h0' : ((n : Int) == 0) = false := by simp only [beq_eq_false_iff_ne]; omega
  have h1' : ¬ (300 : Int) < n := by omega
  simp only at hput
  clear h0 h1 hfl hul hgf hfn
  go_enter Try.func9, Try.ntmps9
  go_wp2_with fail
  refine hput.mono ?_
  rintro e w1 ⟨v1, rfl, hown1, hb1⟩
  clear hput
  have hrdb := hown1.rd
  obtain ⟨g1, c1, hv1, hg1, hg1', hc1, hc1m, -⟩ : ∃ g cap, v1 = .slice (some ⟨g, 0, none⟩) F.length cap ∧ w.heap.size ≤ g ∧ g < w1.heap.size ∧ F.length ≤ cap ∧ cap ≤ maxLen ∧ True := by
    rcases hown1.shape with ⟨-, h⟩ | ⟨g, cap, h1, h2, h3, h4, h5, -⟩
    · have := HFNB.out; rw [HFN.out, h] at this; simp at this
    · exact ⟨g, cap, h1, h2, h3, h4, h5, trivial⟩
  rw [← HFN.out] at hv1 hc1
  subst hv1
  have hget := get_any _ F 0 w1 hrdb (by have := HFNB.out; rw [← HFN.out]; omega)
  rw [HGF.out] at hget
  simp only at hget
  go_wp2_with fail
  refine hget.mono ?_
  rintro e w2 ⟨v2, rfl, hown2, hb2⟩
  clear hget
  obtain ⟨g2, c2, hv2, hg2, hg2', hc2, hc2m, hcell2⟩ : ∃ g cap, v2 = .slice (some ⟨g, 0, none⟩) l.length cap ∧ w1.heap.size ≤ g ∧ g < w2.heap.size ∧ l.length ≤ cap ∧ cap ≤ maxLen ∧ ∃ x : UInt8, w2.cell? ⟨g, 0, none⟩ = some (.int .u8 (x.toNat : Int)) := by
    rcases hown2.shape with ⟨-, h⟩ | ⟨g, cap, h1, h2, h3, h4, h5, h6⟩
    · rw [HN.out, h] at hn0; simp at hn0
    · exact ⟨g, cap, h1, h2, h3, h4, h5, _, h6 0 (by rw [← HN.out]; exact hn0)⟩
  obtain ⟨x0, hcell2⟩ := hcell2
  subst hv2
  have hfro := hown2.frozen 0
  have hmove : ∀ u, Below w1.heap.size w1 (w2.setCell ⟨g2, 0, none⟩ u) := fun u => hb2.trans ((Below.refl w1.heap.size w2).setCell hg2 u)
  rw [← HN.out] at hown2 hc2 ⊢
  have hnn : ((n : Int) != (n : Int)) = false := by simp
  go_wp2_with fail
  have hB1 := hmove (Value.int IntKind.u8 (bits BinOp.xor IntKind.u8 (x0.toNat : Int) 255))
  obtain ⟨w3, HW3⟩ := named (w2.setCell ⟨g2, 0, none⟩ (Value.int IntKind.u8 (bits BinOp.xor IntKind.u8 (x0.toNat : Int) 255)))
  rw [← HW3.out] at hB1 ⊢
  clear hmove hfro hcell2 hown2 hb2
  have hrd3 := hrdb.below hB1
  have hget := get_any _ F 0 w3 hrd3 (by have := HFNB.out; rw [← HFN.out]; omega)
  rw [HGF.out] at hget
  simp only at hget
  refine hget.mono ?_
  rintro e w4 ⟨v4, rfl, hown4, hb4⟩
  clear hget
  have hB4 : Below w1.heap.size w1 w4 := below_call hB1 hb4
  have hownb := hown1.below hB4
  have hB : Below w.heap.size w w4 := below_call hb1 hB4
  have hg3 : g1 < w3.heap.size := by have := hB1.size; omega
  obtain ⟨a4, c4, hv4, -⟩ := id hown4.rd
  subst hv4
  rw [← HN.out] at hown4 ⊢
  obtain ⟨B3, HB3⟩ := named w3.heap.size
  rw [← HB3.out] at hown4 hg3
  clear hB1 hB4 hb4 hrd3 hrdb hown1 hb1 HW3
  go_wp2
  go_loopw [58] (fun iv wr => ∃ (k : Nat) (L : List UInt8), k ≤ fn ∧ iv = .int .i64 k ∧ fn = L.length ∧ Own wr w.heap.size (.slice (some ⟨g1, 0, none⟩) fn c1) L ∧ Own wr B3 (.slice a4 n c4) l ∧ Below w.heap.size w wr) (fun iv _ => fn - (intOf iv).toNat)
  case atStart => exact ⟨0, F, by omega, rfl, HFN.out, hownb, hown4, hB⟩
  case round =>
    obtain ⟨k, L, hk, rfl, hL, hownL, hownY, hb⟩ := hrel
    have HL : Hid _ := hL
    have hfnb : fn ≤ 1000 := HFNB.out.2
    clear hL
    by_cases hlt : k < fn
    · have hown' : Own wr w.heap.size (.slice (some ⟨g1, 0, none⟩) L.length c1) L := by rw [← HL.out]; exact hownL
      have hfro := hown'.frozen k
      have hcell := hown'.cell k (by rw [← HL.out]; exact hlt)
      have hc1' : fn ≤ c1 := hc1
      have hlt' : (k : Int) < fn := by omega
      go_wp2
      go_roundw
      case rel =>
        have hst := hown'.store k 0 0 rfl
        rw [← HL.out] at hst
        exact ⟨k + 1, L.set k 0, by omega, by go_num, by rw [List.length_set]; exact HL.out, hst, hownY.other hownL HL.out hg3, hb.setCell (by omega) _⟩
      case measure => simp [intOf]; omega
    · have hrdy := hownY.rd
      have hrd1 := hrd.below hb
      go_wp2_with fail
      refine (same_any _ _ l l _ hrdy hrd1).mono ?_
      rintro e w5 ⟨rfl, hw5⟩
      subst hw5
      rw [decide_eq_true rfl]
      go_wp2_with fail
      refine (awake_true _).mono ?_
      rintro e w7 ⟨rfl, hb7⟩
      go_wp2
      go_ret
      exact ⟨rfl, below_call hb hb7⟩

theorem spares_walk (v : Value) (l : List UInt8) (w : World) (hrd : Rd w v l) :
    Calls Try.prog 9 #[v] w fun e w' => e = .returned (.bool true) ∧ Below w.heap.size w w' := by
  by_cases h : l.length = 0 ∨ 300 < l.length
  · exact spares_off v l w hrd h
  · exact spares_in v l w hrd (by omega) (by omega)
end Go.Proofs.Ytlpjfcfajagobaa
