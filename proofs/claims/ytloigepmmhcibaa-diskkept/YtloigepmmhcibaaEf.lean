/-
  The contract of Crash. Own work.
-/
import Derived.Test.YtloigepmmhcibaaEa
namespace Go.Proofs.Ytloigepmmhcibaa
open Go.RowKit

theorem crash_at (ks ts : List Int) (fs : List AF) (k : Nat) (h : k < fs.length) : atF ((crashL ks ts fs).take k ++ fs.drop k) k (crashF fs[k] (toldL ks k) (toldL ts k)) = (crashL ks ts fs).take (k + 1) ++ fs.drop (k + 1) := by
  have hl := crashL_len ks ts fs
  have ht : ((crashL ks ts fs).take k).length = k := by rw [List.length_take]; omega
  unfold atF
  rw [List.take_append_of_le_length (by omega), List.take_take, Nat.min_self, List.drop_append, ht, List.drop_eq_nil_of_le (by omega), List.nil_append, List.drop_drop, show k + (k + 1 - k) = k + 1 by omega, List.take_succ_eq_append_getElem (by omega), crashL_get]
  simp
theorem told_range (l : List Int) (i : Nat) (h : ∀ x ∈ l, x ≤ 9223372036854775807) : 0 ≤ toldL l i ∧ toldL l i ≤ 9223372036854775807 := by
  unfold toldL
  split
  · rename_i hi
    rw [List.getD_eq_getElem?_getD, List.getElem?_eq_getElem hi]
    have := h _ (List.getElem_mem hi)
    simp only [Option.getD_some]
    omega
  · omega

set_option maxRecDepth 100000 in
set_option maxHeartbeats 4000000 in
theorem crash_any {w : World} {F : Nat → Prop} {d : Value} {D : AD} (h : Dk w F d D) (kv tv : Value) (ks ts : List Int) (hk : RdI w kv ks) (ht : RdI w tv ts) (hkF : ∀ a, kv.ownBlock = some a → ks ≠ [] → ¬ F a) (htF : ∀ a, tv.ownBlock = some a → ts ≠ [] → ¬ F a)
    (hkr : ∀ x ∈ ks, x ≤ 9223372036854775807) (htr : ∀ x ∈ ts, x ≤ 9223372036854775807) :
    Calls Try.prog 25 #[d, kv, tv] w fun e w' => e = .returned (.tuple #[]) ∧ Dk w' (grow F w w') d (crashD D ks ts) ∧ Chg F w w' := by
  have mixed : Try.prog.follows Departure.mixedOrders = true := by kernel_rfl
  obtain ⟨bd, bs, bc, fv, ps, rfl, hst, hps, hF, hok⟩ := id h
  obtain ⟨ko, kc, hkv, -⟩ := id hk
  obtain ⟨tto, tc, htv, -⟩ := id ht
  have HST : Hid _ := hst
  have HOK : Hid _ := hok
  have HPS : Hid _ := hps
  have HFF : Hid _ := hF
  have HK : Hid _ := hk
  have HT : Hid _ := ht
  have HKF : Hid _ := hkF
  have HTF : Hid _ := htF
  have HKR : Hid _ := fun i => told_range ks i hkr
  have HTR : Hid _ := fun i => told_range ts i htr
  have hlen : ps.length = D.files.length := by rw [← hps, List.length_map]
  have hmany := hok.many
  have d0 := hst.d0
  have s0 := hst.s0
  have hltd := hst.ltd
  have hlts := hst.lts
  obtain ⟨fo, fc, hfo, hfc⟩ : ∃ fo fc, fv = .slice fo D.files.length fc ∧ (0 < D.files.length → ∃ g, fo = some ⟨g, 0, none⟩) := by
    rcases hst.hf.2 with ⟨h1, h2⟩ | ⟨g, c, cur, h1, _⟩
    · exact ⟨none, 0, by rw [h1, ← hlen, h2], fun h => by omega⟩
    · exact ⟨_, _, by rw [h1, hlen], fun _ => ⟨g, rfl⟩⟩
  rw [hfo] at s0
  have HFO : Hid _ := hfo
  have HFC : Hid _ := hfc
  have HEND : Hid (∀ wr qs, St wr bd bs bc fv qs D.most D.fuse D.dark → qs.map Prod.fst = crashL ks ts D.files → (∀ b, Blk bd bs bc fv qs b → Blk bd bs bc fv ps b ∨ w.heap.size ≤ b) → Chg (Blk bd bs bc fv ps) w wr →
      Dk ((wr.setCell ⟨bs, 4, none⟩ (.bool false)).setCell ⟨bs, 3, none⟩ (.int .i64 (-1))).drew (grow F w ((wr.setCell ⟨bs, 4, none⟩ (.bool false)).setCell ⟨bs, 3, none⟩ (.int .i64 (-1))).drew) (.pointer (some ⟨bd, 0, none⟩)) (crashD D ks ts) ∧ Chg F w ((wr.setCell ⟨bs, 4, none⟩ (.bool false)).setCell ⟨bs, 3, none⟩ (.int .i64 (-1))).drew) := by
    intro wr qs h1 h2 h3 h4
    have hS := ((h1.setDark false).setFuse (-1))
    refine ⟨⟨bd, bs, bc, fv, qs, rfl, hS.heap fun _ _ => rfl, h2, fun b hb => ?_, crash_ok hok ks ts⟩, ?_⟩
    · rcases h3 b hb with h | h
      · exact .inl (hF b h)
      · refine .inr ⟨h, ?_⟩
        have := h1.lt b hb
        simp [World.setCell]
        exact this
    · exact (((h4.mono (fun i _ hi => hF i hi)).setCell (p := ⟨bs, 4, none⟩) (.inl (hF bs (.inr (.inl rfl)))) _).setCell (p := ⟨bs, 3, none⟩) (.inl (hF bs (.inr (.inl rfl)))) _).drew
  obtain ⟨N, HN⟩ := named D.files.length
  rw [← HN.out] at s0 hmany
  subst hkv htv
  obtain ⟨kl, HKL⟩ := named ks.length
  obtain ⟨tl, HTL⟩ := named ts.length
  rw [← HKL.out, ← HTL.out]
  clear h hst hok hps hF hk ht hkF htF hkr htr hfo hfc
  go_enter Try.func25, Try.ntmps25
  go_wp2_with fail
  refine (made_cell _ bd bs d0).mono ?_
  rintro e w1 ⟨rfl, hw1⟩
  rw [hw1]
  clear hw1 w1
  go_wp2
  go_loopw [18] (fun iv wr => ∃ (k : Nat) (qs : List (AF × Value)), k ≤ N ∧ iv = .int .i64 k ∧ Hid (St wr bd bs bc fv qs D.most D.fuse D.dark) ∧ Hid (qs.map Prod.fst = (crashL ks ts D.files).take k ++ D.files.drop k) ∧ Hid (∀ b, Blk bd bs bc fv qs b → Blk bd bs bc fv ps b ∨ w.heap.size ≤ b) ∧ Hid (Chg (Blk bd bs bc fv ps) w wr)) (fun iv _ => N - (intOf iv).toNat)
  case atStart => exact ⟨0, ps, by omega, rfl, HST.out, by rw [HPS.out]; rfl, fun b hb => .inl hb, Chg.refl _ _⟩
  case round =>
    obtain ⟨k, qs, hkN, rfl, HS, HQ, HBk, HC⟩ := hrel
    have e0 := HS.out.d0
    have f0 := HS.out.s0
    rw [HFO.out, ← HN.out] at f0
    have hsz := HC.out.size
    by_cases hlt : k < N
    · obtain ⟨g, hg⟩ := HFC.out (by rw [← HN.out]; omega)
      subst hg
      have hqN : qs.length = N := by
        have := congrArg List.length HQ.out
        rw [List.length_map, List.length_append, List.length_take, List.length_drop, crashL_len, ← HN.out] at this
        omega
      have hkq : k < qs.length := by omega
      have hkD : k < D.files.length := by rw [← HN.out]; exact hlt
      have HQK : Hid (qs[k].1 = D.files[k]) := by
        have h1 : (qs.map Prod.fst)[k]? = some D.files[k] := by
          rw [HQ.out, List.getElem?_append_right (by rw [List.length_take]; omega), List.length_take, crashL_len, List.getElem?_drop, ← List.getElem?_eq_getElem hkD]
          congr 1
          omega
        rw [List.getElem?_map, List.getElem?_eq_getElem hkq] at h1
        simpa [Hid] using h1
      have HTK : Hid _ := told_any (.slice ko kl kc) ks k wr.drew (by
        have := RdI.chg HK.out HC.out (fun a ha hne hB => HKF.out a ha hne (HFF.out a hB))
        rw [← HKL.out] at this
        exact this) (by omega)
      have HTT : Hid _ := told_any (.slice tto tl tc) ts k wr.drew (by
        have := RdI.chg HT.out HC.out (fun a ha hne hB => HTF.out a ha hne (HFF.out a hB))
        rw [← HTL.out] at this
        exact this) (by omega)
      have hfvE : fv = .slice (some ⟨g, 0, none⟩) qs.length fc := by rw [HFO.out, hqN, HN.out]
      have hsm : qs[k].1.bytes.length ≤ 16777216 := by
        rw [HQK.out]
        have h1 := used_at D.files k hkD
        have h2 := HOK.out.room
        have h3 := HOK.out.most
        omega
      have hsf : qs[k].1.safe ≤ qs[k].1.bytes.length := by rw [HQK.out]; exact HOK.out.safe _ (List.getElem_mem hkD)
      have hS' := HS.out
      rw [hfvE] at hS'
      have HCR : Hid _ := crash_st (w := wr.drew) (hS'.heap fun _ _ => rfl) k hkq (toldL ks k) (toldL ts k) (HKR.out k).1 (HKR.out k).2 (HTR.out k).1 (HTR.out k).2 hsm hsf
      have HGN : Hid (bd ≠ g ∧ bs ≠ g) := by
        obtain ⟨m1, m2, _, _⟩ := hS'.fv_ne (a := g) rfl
        exact ⟨Ne.symm m1, Ne.symm m2⟩
      have l1 : bd < wr.heap.size := by omega
      have l2 : bs < wr.heap.size := by omega
      obtain ⟨K, HKK⟩ := named (toldL ks k)
      obtain ⟨T, HTTT⟩ := named (toldL ts k)
      rw [← HKK.out] at HTK HCR
      rw [← HTTT.out] at HTT HCR
      have hkI : (k : Int) < (N : Int) := by omega
      have HFVE : Hid _ := hfvE
      clear hsm hsf hS' hfvE
      go_wp2_with fail
      go_region_held3 (fun w' => w'.cell? ⟨bd, 0, none⟩ = some (.pointer (some ⟨bs, 0, none⟩)) ∧ w'.cell? ⟨bs, 0, none⟩ = some (.slice (some ⟨g, 0, none⟩) N fc)) (first | exact HSX.out | exact ⟨e0, f0⟩)
        (first | (go_at_call_of 64 (Value.slice ko kl kc); refine Calls.mono HTK.out ?_; rintro e w1 ⟨rfl, rfl⟩) | (go_at_call_of 64 (Value.slice tto tl tc); refine Calls.mono HTT.out ?_; rintro e w1 ⟨rfl, rfl⟩) | (go_at_call 63; refine Calls.mono HCR.out ?_; rintro e w2 ⟨rfl, v', hS2, hv2, hC2⟩; have HSX : Hid (w2.cell? ⟨bd, 0, none⟩ = some (.pointer (some ⟨bs, 0, none⟩)) ∧ w2.cell? ⟨bs, 0, none⟩ = some (.slice (some ⟨g, 0, none⟩) N fc)) := ⟨(Chg.cell hC2 l1 HGN.out.1 0).trans e0, (Chg.cell hC2 l2 HGN.out.2 0).trans f0⟩; have HS2 : Hid _ := hS2; have HV2 : Hid _ := hv2; have HC2 : Hid _ := hC2; clear hS2 hv2 hC2))
      go_wp2
      go_roundw
      case rel =>
        refine ⟨k + 1, _, by omega, by go_num, by rw [HFVE.out]; exact HS2.out, ?_, ?_, ?_⟩
        · rw [map_atF, HQ.out, HQK.out, HKK.out, HTTT.out]
          exact crash_at ks ts D.files k hkD
        · intro b hb
          rcases blk_put (fv := fv) (ps := qs) (N := wr.heap.size) (fun x hx => .inl hx) (fun x hx => .inr (HV2.out x hx)) b hb with h | h
          · exact HBk.out b h
          · exact .inr (Nat.le_trans hsz h)
        · refine HC.out.trans (Chg.mono ⟨HC2.out.os, HC2.out.tape, HC2.out.output, HC2.out.size, HC2.out.block⟩ (fun i _ hi => hi)) (fun i hi hig => ?_)
          have hig' : i = g := hig
          have : Blk bd bs bc fv qs i := .inr (.inr (.inr (.inl (by rw [HFVE.out, hig']; rfl))))
          rcases HBk.out i this with h | h
          · exact h
          · omega
      case measure => simp [intOf]; omega
    · have HE : Hid (qs.map Prod.fst = crashL ks ts D.files) := by
        rw [HQ.out, List.take_of_length_le (by rw [crashL_len, ← HN.out]; omega), List.drop_eq_nil_of_le (by rw [← HN.out]; omega), List.append_nil]
        rfl
      have z3 := HS.out.sz 3
      have z4 := HS.out.sz 4
      have t3 := HS.out.s3
      have t4 := HS.out.s4
      have hne := HS.out.ds.1
      go_wp2_with fail
      go_region
      all_goals
        go_wp2
        go_returns
        have hend := HEND.out wr qs HS.out HE.out HBk.out HC.out
        exact ⟨rfl, hend.1, hend.2⟩
end Go.Proofs.Ytloigepmmhcibaa
