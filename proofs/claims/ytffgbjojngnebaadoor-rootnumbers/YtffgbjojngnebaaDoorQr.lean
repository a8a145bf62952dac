/-
  string(b) under a name of its own; holds, where it answers true. The contract of Crash. A disk that a call has made for itself, and what is done to it, one behind the other. What comes of a file that is written anew beside, synced, and renamed, with a fuse: plain lemmas, with no walk. Own work.
-/
import Derived.Test.YtffgbjojngnebaaDoorQp
import Derived.Deep.RegionHeld
import Derived.Test.YtffgbjojngnebaaDoorQq
import Derived.Lib.SlBytesConst
import Derived.Lib.ConvBytes
import Derived.Test.YtffgbjojngnebaaDoorQh
namespace Go.Proofs.YtffgbjojngnebaaDoor
open Go.RowKit

end Go.Proofs.YtffgbjojngnebaaDoor
namespace Go.Proofs.YtffgbjojngnebaaDoor
open Go.RowKit

theorem crash_at (ks ts : List Int) (fs : List AF) (k : Nat) (h : k < fs.length) : atF ((crashL ks ts fs).take k ++ fs.drop k) k (crashF fs[k] (toldL ks k) (toldL ts k)) = (crashL ks ts fs).take (k + 1) ++ fs.drop (k + 1) := by
  have hl := crashL_len ks ts fs
  have ht : ((crashL ks ts fs).take k).length = k := by rw [List.length_take]; omega
  unfold atF
  rw [List.take_append_of_le_length (by omega), List.take_take, Nat.min_self, List.drop_append, ht, List.drop_eq_nil_of_le (by omega), List.nil_append, List.drop_drop, show k + (k + 1 - k) = k + 1 by omega, List.take_succ_eq_append_getElem (by omega), crashL_get]
  simp
theorem told_range (l : List Int) (i : Nat) (h : ∀ x ∈ l, x ≤ 9223372036854775807) : 0 ≤ toldL l i ∧ toldL l i ≤ 9223372036854775807 := by
  unfold toldL
  split
  · rename_i hi
    rw [List.getD_eq_getElem?_getD, List.getElem?_eq_getElem hi]
    have := h _ (List.getElem_mem hi)
    simp only [Option.getD_some]
    omega
  · omega

set_option maxRecDepth 100000 in
set_option maxHeartbeats 4000000 in
theorem crash_any {w : World} {F : Nat → Prop} {d : Value} {D : AD} (h : Dk w F d D) (kv tv : Value) (ks ts : List Int) (hk : RdI w kv ks) (ht : RdI w tv ts) (hkF : ∀ a, kv.ownBlock = some a → ks ≠ [] → ¬ F a) (htF : ∀ a, tv.ownBlock = some a → ts ≠ [] → ¬ F a)
    (hkr : ∀ x ∈ ks, x ≤ 9223372036854775807) (htr : ∀ x ∈ ts, x ≤ 9223372036854775807) :
    Calls Tryd.prog 27 #[d, kv, tv] w fun e w' => e = .returned (.tuple #[]) ∧ Dk w' (grow F w w') d (crashD D ks ts) ∧ Chg F w w' := by
  have mixed : Tryd.prog.follows Departure.mixedOrders = true := by kernel_rfl
  obtain ⟨bd, bs, bc, fv, ps, rfl, hst, hps, hF, hok⟩ := id h
  obtain ⟨ko, kc, hkv, -⟩ := id hk
  obtain ⟨tto, tc, htv, -⟩ := id ht
  have HST : Hid _ := hst
  have HOK : Hid _ := hok
  have HPS : Hid _ := hps
  have HFF : Hid _ := hF
  have HK : Hid _ := hk
  have HT : Hid _ := ht
  have HKF : Hid _ := hkF
  have HTF : Hid _ := htF
  have HKR : Hid _ := fun i => told_range ks i hkr
  have HTR : Hid _ := fun i => told_range ts i htr
  have hlen : ps.length = D.files.length := by rw [← hps, List.length_map]
  have hmany := hok.many
  have d0 := hst.d0
  have s0 := hst.s0
  have hltd := hst.ltd
  have hlts := hst.lts
  obtain ⟨fo, fc, hfo, hfc⟩ : ∃ fo fc, fv = .slice fo D.files.length fc ∧ (0 < D.files.length → ∃ g, fo = some ⟨g, 0, none⟩) := by
    rcases hst.hf.2 with ⟨h1, h2⟩ | ⟨g, c, cur, h1, _⟩
    · exact ⟨none, 0, by rw [h1, ← hlen, h2], fun h => by omega⟩
    · exact ⟨_, _, by rw [h1, hlen], fun _ => ⟨g, rfl⟩⟩
  rw [hfo] at s0
  have HFO : Hid _ := hfo
  have HFC : Hid _ := hfc
  have HEND : Hid (∀ wr qs, St wr bd bs bc fv qs D.most D.fuse D.dark → qs.map Prod.fst = crashL ks ts D.files → (∀ b, Blk bd bs bc fv qs b → Blk bd bs bc fv ps b ∨ w.heap.size ≤ b) → Chg (Blk bd bs bc fv ps) w wr →
      Dk ((wr.setCell ⟨bs, 4, none⟩ (.bool false)).setCell ⟨bs, 3, none⟩ (.int .i64 (-1))).drew (grow F w ((wr.setCell ⟨bs, 4, none⟩ (.bool false)).setCell ⟨bs, 3, none⟩ (.int .i64 (-1))).drew) (.pointer (some ⟨bd, 0, none⟩)) (crashD D ks ts) ∧ Chg F w ((wr.setCell ⟨bs, 4, none⟩ (.bool false)).setCell ⟨bs, 3, none⟩ (.int .i64 (-1))).drew) := by
    intro wr qs h1 h2 h3 h4
    have hS := ((h1.setDark false).setFuse (-1))
    refine ⟨⟨bd, bs, bc, fv, qs, rfl, hS.heap fun _ _ => rfl, h2, fun b hb => ?_, crash_ok hok ks ts⟩, ?_⟩
    · rcases h3 b hb with h | h
      · exact .inl (hF b h)
      · refine .inr ⟨h, ?_⟩
        have := h1.lt b hb
        simp [World.setCell]
        exact this
    · exact (((h4.mono (fun i _ hi => hF i hi)).setCell (p := ⟨bs, 4, none⟩) (.inl (hF bs (.inr (.inl rfl)))) _).setCell (p := ⟨bs, 3, none⟩) (.inl (hF bs (.inr (.inl rfl)))) _).drew
  obtain ⟨N, HN⟩ := named D.files.length
  rw [← HN.out] at s0 hmany
  subst hkv htv
  obtain ⟨kl, HKL⟩ := named ks.length
  obtain ⟨tl, HTL⟩ := named ts.length
  rw [← HKL.out, ← HTL.out]
  clear h hst hok hps hF hk ht hkF htF hkr htr hfo hfc
  go_enter Tryd.func27, Tryd.ntmps27
  go_wp2_with fail
  refine (made_cell _ bd bs d0).mono ?_
  rintro e w1 ⟨rfl, hw1⟩
  rw [hw1]
  clear hw1 w1
  go_wp2
  go_loopw [18] (fun iv wr => ∃ (k : Nat) (qs : List (AF × Value)), k ≤ N ∧ iv = .int .i64 k ∧ Hid (St wr bd bs bc fv qs D.most D.fuse D.dark) ∧ Hid (qs.map Prod.fst = (crashL ks ts D.files).take k ++ D.files.drop k) ∧ Hid (∀ b, Blk bd bs bc fv qs b → Blk bd bs bc fv ps b ∨ w.heap.size ≤ b) ∧ Hid (Chg (Blk bd bs bc fv ps) w wr)) (fun iv _ => N - (intOf iv).toNat)
  case atStart => exact ⟨0, ps, by omega, rfl, HST.out, by rw [HPS.out]; rfl, fun b hb => .inl hb, Chg.refl _ _⟩
  case round =>
    obtain ⟨k, qs, hkN, rfl, HS, HQ, HBk, HC⟩ := hrel
    have e0 := HS.out.d0
    have f0 := HS.out.s0
    rw [HFO.out, ← HN.out] at f0
    have hsz := HC.out.size
    by_cases hlt : k < N
    · obtain ⟨g, hg⟩ := HFC.out (by rw [← HN.out]; omega)
      subst hg
      have hqN : qs.length = N := by
        have := congrArg List.length HQ.out
        rw [List.length_map, List.length_append, List.length_take, List.length_drop, crashL_len, ← HN.out] at this
        omega
      have hkq : k < qs.length := by omega
      have hkD : k < D.files.length := by rw [← HN.out]; exact hlt
      have HQK : Hid (qs[k].1 = D.files[k]) := by
        have h1 : (qs.map Prod.fst)[k]? = some D.files[k] := by
          rw [HQ.out, List.getElem?_append_right (by rw [List.length_take]; omega), List.length_take, crashL_len, List.getElem?_drop, ← List.getElem?_eq_getElem hkD]
          congr 1
          omega
        rw [List.getElem?_map, List.getElem?_eq_getElem hkq] at h1
        simpa [Hid] using h1
      have HTK : Hid _ := told_any (.slice ko kl kc) ks k wr.drew (by
        have := RdI.chg HK.out HC.out (fun a ha hne hB => HKF.out a ha hne (HFF.out a hB))
        rw [← HKL.out] at this
        exact this) (by omega)
      have HTT : Hid _ := told_any (.slice tto tl tc) ts k wr.drew (by
        have := RdI.chg HT.out HC.out (fun a ha hne hB => HTF.out a ha hne (HFF.out a hB))
        rw [← HTL.out] at this
        exact this) (by omega)
      have hfvE : fv = .slice (some ⟨g, 0, none⟩) qs.length fc := by rw [HFO.out, hqN, HN.out]
      have hsm : qs[k].1.bytes.length ≤ 16777216 := by
        rw [HQK.out]
        have h1 := used_at D.files k hkD
        have h2 := HOK.out.room
        have h3 := HOK.out.most
        omega
      have hsf : qs[k].1.safe ≤ qs[k].1.bytes.length := by rw [HQK.out]; exact HOK.out.safe _ (List.getElem_mem hkD)
      have hS' := HS.out
      rw [hfvE] at hS'
      have HCR : Hid _ := crash_st (w := wr.drew) (hS'.heap fun _ _ => rfl) k hkq (toldL ks k) (toldL ts k) (HKR.out k).1 (HKR.out k).2 (HTR.out k).1 (HTR.out k).2 hsm hsf
      have HGN : Hid (bd ≠ g ∧ bs ≠ g) := by
        obtain ⟨m1, m2, _, _⟩ := hS'.fv_ne (a := g) rfl
        exact ⟨Ne.symm m1, Ne.symm m2⟩
      have l1 : bd < wr.heap.size := by omega
      have l2 : bs < wr.heap.size := by omega
      obtain ⟨K, HKK⟩ := named (toldL ks k)
      obtain ⟨T, HTTT⟩ := named (toldL ts k)
      rw [← HKK.out] at HTK HCR
      rw [← HTTT.out] at HTT HCR
      have hkI : (k : Int) < (N : Int) := by omega
      have HFVE : Hid _ := hfvE
      clear hsm hsf hS' hfvE
      go_wp2_with fail
      go_region_held3 (fun w' => w'.cell? ⟨bd, 0, none⟩ = some (.pointer (some ⟨bs, 0, none⟩)) ∧ w'.cell? ⟨bs, 0, none⟩ = some (.slice (some ⟨g, 0, none⟩) N fc)) (first | exact HSX.out | exact ⟨e0, f0⟩)
        (first | (go_at_call_of 66 (Value.slice ko kl kc); refine Calls.mono HTK.out ?_; rintro e w1 ⟨rfl, rfl⟩) | (go_at_call_of 66 (Value.slice tto tl tc); refine Calls.mono HTT.out ?_; rintro e w1 ⟨rfl, rfl⟩) | (go_at_call 65; refine Calls.mono HCR.out ?_; rintro e w2 ⟨rfl, v', hS2, hv2, hC2⟩; have HSX : Hid (w2.cell? ⟨bd, 0, none⟩ = some (.pointer (some ⟨bs, 0, none⟩)) ∧ w2.cell? ⟨bs, 0, none⟩ = some (.slice (some ⟨g, 0, none⟩) N fc)) := ⟨(Chg.cell hC2 l1 HGN.out.1 0).trans e0, (Chg.cell hC2 l2 HGN.out.2 0).trans f0⟩; have HS2 : Hid _ := hS2; have HV2 : Hid _ := hv2; have HC2 : Hid _ := hC2; clear hS2 hv2 hC2))
      go_wp2
      go_roundw
      case rel =>
        refine ⟨k + 1, _, by omega, by go_num, by rw [HFVE.out]; exact HS2.out, ?_, ?_, ?_⟩
        · rw [map_atF, HQ.out, HQK.out, HKK.out, HTTT.out]
          exact crash_at ks ts D.files k hkD
        · intro b hb
          rcases blk_put (fv := fv) (ps := qs) (N := wr.heap.size) (fun x hx => .inl hx) (fun x hx => .inr (HV2.out x hx)) b hb with h | h
          · exact HBk.out b h
          · exact .inr (Nat.le_trans hsz h)
        · refine HC.out.trans (Chg.mono ⟨HC2.out.os, HC2.out.tape, HC2.out.output, HC2.out.size, HC2.out.block⟩ (fun i _ hi => hi)) (fun i hi hig => ?_)
          have hig' : i = g := hig
          have : Blk bd bs bc fv qs i := .inr (.inr (.inr (.inl (by rw [HFVE.out, hig']; rfl))))
          rcases HBk.out i this with h | h
          · exact h
          · omega
      case measure => simp [intOf]; omega
    · have HE : Hid (qs.map Prod.fst = crashL ks ts D.files) := by
        rw [HQ.out, List.take_of_length_le (by rw [crashL_len, ← HN.out]; omega), List.drop_eq_nil_of_le (by rw [← HN.out]; omega), List.append_nil]
        rfl
      have z3 := HS.out.sz 3
      have z4 := HS.out.sz 4
      have t3 := HS.out.s3
      have t4 := HS.out.s4
      have hne := HS.out.ds.1
      go_wp2_with fail
      go_region
      all_goals
        go_wp2
        go_returns
        have hend := HEND.out wr qs HS.out HE.out HBk.out HC.out
        exact ⟨rfl, hend.1, hend.2⟩
end Go.Proofs.YtffgbjojngnebaaDoor
namespace Go.Proofs.YtffgbjojngnebaaDoor
open Go.RowKit

/-- d is a disk that has D, all of it made since B; and what lies below B is as in w0 -/
structure Up (B : Nat) (w0 w : World) (d : Value) (D : AD) : Prop where
  dk : Dk w (fun b => B ≤ b ∧ b < w.heap.size) d D
  bel : Below B w0 w
  le : B ≤ w.heap.size

theorem Up.below {B : Nat} {w0 w w' : World} {d : Value} {D : AD} (h : Up B w0 w d D) (hb : Below w.heap.size w w') : Up B w0 w' d D :=
  ⟨(h.dk.below hb).mono fun _ _ hF => ⟨hF.1, Nat.lt_of_lt_of_le hF.2 hb.size⟩, h.bel.trans (hb.mono h.le), Nat.le_trans h.le hb.size⟩
theorem Up.deed {B : Nat} {w0 w w1 w' : World} {d : Value} {D D' : AD} (h : Up B w0 w d D) (hw : Below w.heap.size w w1) (hd : Dk w' (grow (fun b => B ≤ b ∧ b < w.heap.size) w1 w') d D') (hc : Chg (fun b => B ≤ b ∧ b < w.heap.size) w1 w') : Up B w0 w' d D' := by
  have hs := hw.size
  have hl := h.le
  refine ⟨hd.mono fun b _ hF => ?_, (h.bel.trans (hw.mono h.le)).trans (hc.below B (fun k hk => hk.1) (by omega)), ?_⟩
  · have := hc.size
    rcases hF with hF | hF
    · exact ⟨hF.1, by have := hF.2; omega⟩
    · exact ⟨by have := hF.1; omega, hF.2⟩
  · have := hc.size
    omega

theorem Up.append {B : Nat} {w0 w w1 : World} {d : Value} {D : AD} (h : Up B w0 w d D) (hw : Below w.heap.size w w1) (n : ByteArray) (hn : n.size ≤ 140737488355328) (sb : Value) (b : List UInt8) (hb : Rd w1 sb b) (hsb : ∀ a, sb.ownBlock = some a → a < B ∨ w.heap.size ≤ a) :
    Calls Tryd.prog 16 #[d, .string n, sb] w1 fun e w' => e = .returned (.int .i64 (appendD D n b).2) ∧ Up B w0 w' d (appendD D n b).1 := by
  refine (append_any (h.dk.below hw) n hn sb b hb (fun a ha _ hF => ?_)).mono ?_
  · rcases hsb a ha with h | h
    · have := hF.1; omega
    · have := hF.2; omega
  · rintro e w' ⟨rfl, hd, hc⟩
    exact ⟨rfl, h.deed hw hd hc⟩
theorem Up.sync {B : Nat} {w0 w : World} {d : Value} {D : AD} (h : Up B w0 w d D) (n : ByteArray) :
    Calls Tryd.prog 18 #[d, .string n] w fun e w' => e = .returned (.int .i64 (syncD D n).2) ∧ Up B w0 w' d (syncD D n).1 := by
  refine (sync_any h.dk n).mono ?_
  rintro e w' ⟨rfl, hd, hc⟩
  exact ⟨rfl, h.deed (Below.refl _ _) hd hc⟩
theorem Up.remove {B : Nat} {w0 w : World} {d : Value} {D : AD} (h : Up B w0 w d D) (n : ByteArray) :
    Calls Tryd.prog 32 #[d, .string n] w fun e w' => e = .returned (.int .i64 (removeD D n).2) ∧ Up B w0 w' d (removeD D n).1 := by
  refine (remove_any h.dk n).mono ?_
  rintro e w' ⟨rfl, hd, hc⟩
  exact ⟨rfl, h.deed (Below.refl _ _) hd hc⟩
theorem Up.rename {B : Nat} {w0 w : World} {d : Value} {D : AD} (h : Up B w0 w d D) (n m : ByteArray) (hm : m.size ≤ 140737488355328) :
    Calls Tryd.prog 80 #[d, .string n, .string m] w fun e w' => e = .returned (.int .i64 (renameD D n m).2) ∧ Up B w0 w' d (renameD D n m).1 := by
  refine (rename_any h.dk n m hm).mono ?_
  rintro e w' ⟨rfl, hd, hc⟩
  exact ⟨rfl, h.deed (Below.refl _ _) hd hc⟩
theorem Up.cut {B : Nat} {w0 w : World} {d : Value} {D : AD} (h : Up B w0 w d D) (n : ByteArray) (m : Int) :
    Calls Tryd.prog 33 #[d, .string n, .int .i64 m] w fun e w' => e = .returned (.int .i64 (cutD D n m).2) ∧ Up B w0 w' d (cutD D n m).1 := by
  refine (cut_any h.dk n m).mono ?_
  rintro e w' ⟨rfl, hd, hc⟩
  exact ⟨rfl, h.deed (Below.refl _ _) hd hc⟩
theorem Up.crash {B : Nat} {w0 w w1 : World} {d : Value} {D : AD} (h : Up B w0 w d D) (hw : Below w.heap.size w w1) (kv tv : Value) (ks ts : List Int) (hk : RdI w1 kv ks) (ht : RdI w1 tv ts) (hkF : ∀ a, kv.ownBlock = some a → a < B ∨ w.heap.size ≤ a) (htF : ∀ a, tv.ownBlock = some a → a < B ∨ w.heap.size ≤ a)
    (hkr : ∀ x ∈ ks, x ≤ 9223372036854775807) (htr : ∀ x ∈ ts, x ≤ 9223372036854775807) :
    Calls Tryd.prog 27 #[d, kv, tv] w1 fun e w' => e = .returned (.tuple #[]) ∧ Up B w0 w' d (crashD D ks ts) := by
  have ho : ∀ a, a < B ∨ w.heap.size ≤ a → ¬ (B ≤ a ∧ a < w.heap.size) := by
    intro a ha hF
    rcases ha with h | h
    · have := hF.1; omega
    · have := hF.2; omega
  refine (crash_any (h.dk.below hw) kv tv ks ts hk ht (fun a ha _ => ho a (hkF a ha)) (fun a ha _ => ho a (htF a ha)) hkr htr).mono ?_
  rintro e w' ⟨rfl, hd, hc⟩
  exact ⟨rfl, h.deed hw hd hc⟩
theorem Up.arm {B : Nat} {w0 w : World} {d : Value} {D : AD} (h : Up B w0 w d D) (n : Int) (hn : n ≤ 9223372036854775807) :
    Calls Tryd.prog 17 #[d, .int .i64 n] w fun e w' => e = .returned (.tuple #[]) ∧ Up B w0 w' d (armD D n) := by
  refine (arm_any h.dk n hn).mono ?_
  rintro e w' ⟨rfl, hd, hc⟩
  exact ⟨rfl, h.deed (Below.refl _ _) (hd.mono fun b _ hF => .inl hF) hc⟩
theorem new_up (w : World) (m : Nat) (hm : m ≤ 16777216) :
    Calls Tryd.prog 14 #[.int .i64 m] w fun e w' => ∃ d, e = .returned (.tuple #[d, .int .i64 0]) ∧ d ≠ .pointer none ∧ Up w.heap.size w w' d (newD m) := by
  refine (new_any w m hm).mono ?_
  rintro e w' ⟨d, rfl, hd, hb, hne⟩
  exact ⟨d, rfl, hne, hd, hb, hb.size⟩
/-- a new row of bytes -/
theorem rd_new (w w' : World) (C : Array Value) (fz : Nat × Nat) (l : List UInt8) (cap : Nat) (hg : w'.heap[w.heap.size]? = some (.cells C 5 fz)) (hC : ∀ i (h : i < l.length), C[i]? = some (.int .u8 (l[i].toNat : Int))) (h1 : l.length ≤ cap) (h2 : cap ≤ maxLen) : Rd w' (.slice (some ⟨w.heap.size, 0, none⟩) l.length cap) l := by
  refine ⟨_, cap, rfl, h1, h2, (by intro h; cases h), ?_⟩
  rintro a ⟨⟩ i hi
  have := cell_of hg i
  rw [hC i hi] at this
  rw [show ((⟨w.heap.size, 0, none⟩ : Addr).add i) = ⟨w.heap.size, i, none⟩ by unfold Addr.add; split <;> simp_all]
  exact this
theorem rdI_new (w' : World) (C : Array Value) (g : Nat) (fz : Nat × Nat) (l : List Int) (hg : w'.heap[g]? = some (.cells C 3 fz)) (hC : ∀ i (h : i < l.length), C[i]? = some (.int .i64 l[i])) (h2 : l.length ≤ maxLen) : RdI w' (.slice (some ⟨g, 0, none⟩) l.length l.length) l := by
  refine ⟨_, _, rfl, Nat.le_refl _, h2, (by intro h; cases h), ?_⟩
  rintro a ⟨⟩ i hi
  have := cell_of hg i
  rw [hC i hi] at this
  rw [show ((⟨g, 0, none⟩ : Addr).add i) = ⟨g, i, none⟩ by unfold Addr.add; split <;> simp_all]
  exact this
/-- Append of a text that stands in the program -/
theorem Up.appendC {B : Nat} {w0 w : World} {d : Value} {D : AD} (h : Up B w0 w d D) (n : ByteArray) (hn : n.size ≤ 140737488355328) (l : List UInt8) (hl : l.length ≤ 1000) (C : Array Value) (fz : Nat × Nat) (hC : C = (l.map fun b => Value.int .u8 (b.toNat : Int)).toArray) :
    Calls Tryd.prog 16 #[d, .string n, .slice (some ⟨w.heap.size, 0, none⟩) l.length l.length] (w.alloc (.cells C 5 fz)) fun e w' => e = .returned (.int .i64 (appendD D n l).2) ∧ Up B w0 w' d (appendD D n l).1 := by
  refine h.append ((Below.refl _ _).alloc (Nat.le_refl _) _) n hn _ l (rd_new w _ C fz l l.length (heap_alloc_new w _) ?_ (Nat.le_refl _) ?_) ?_
  · subst hC
    intro i hi
    simp [hi]
  · have : (1000 : Nat) ≤ maxLen := by simp [maxLen]
    omega
  · rintro a ⟨⟩
    exact .inr (Nat.le_refl _)
theorem below_bytesWorld (w : World) (s : ByteArray) : Below w.heap.size w (Lib.bytesWorld w 5 s) := by
  refine ⟨rfl, rfl, rfl, ?_, fun k hk => Lib.bytesWorld_at_old w 5 s k hk⟩
  rw [Lib.bytesWorld_size]
  omega
/-- Append of []byte(s) -/
theorem Up.appendS {B : Nat} {w0 w : World} {d : Value} {D : AD} (h : Up B w0 w d D) (n : ByteArray) (hn : n.size ≤ 140737488355328) (s : ByteArray) (hs : s.size ≤ 1000) :
    Calls Tryd.prog 16 #[d, .string n, .slice (some ⟨w.heap.size, 0, none⟩) s.size (grownCap w s.size 0 5)] (Lib.bytesWorld w 5 s) fun e w' => e = .returned (.int .i64 (appendD D n s.data.toList).2) ∧ Up B w0 w' d (appendD D n s.data.toList).1 := by
  have hm : (1000 : Nat) ≤ maxLen := by simp [maxLen]
  refine h.append (below_bytesWorld w s) n hn _ s.data.toList (rd_new w _ _ _ s.data.toList (grownCap w s.size 0 5) (Lib.bytesWorld_at_new w 5 s) ?_ ?_ ?_) ?_
  · intro i hi
    have hi' : i < s.size := hi
    simp [Lib.bytesCells, Array.getElem?_append, hi']
  · exact grownCap_ge _ _ _ _
  · exact grownCap_le_maxLen _ _ _ _ (by omega)
  · rintro a ⟨⟩
    exact .inr (Nat.le_refl _)
/-- a crash by numbers that stand in the program -/
theorem Up.crashC {B : Nat} {w0 w w1 : World} {d : Value} {D : AD} (h : Up B w0 w d D) (hw : Below w.heap.size w w1) (kv tv : Value) (ks ts : List Int) (hk : RdI w1 kv ks) (ht : RdI w1 tv ts) (hkF : ∀ a, kv.ownBlock = some a → w.heap.size ≤ a) (htF : ∀ a, tv.ownBlock = some a → w.heap.size ≤ a)
    (hkr : ∀ x ∈ ks, x ≤ 1073741824) (htr : ∀ x ∈ ts, x ≤ 1073741824) :
    Calls Tryd.prog 27 #[d, kv, tv] w1 fun e w' => e = .returned (.tuple #[]) ∧ Up B w0 w' d (crashD D ks ts) :=
  h.crash hw kv tv ks ts hk ht (fun a ha => .inr (hkF a ha)) (fun a ha => .inr (htF a ha)) (fun x hx => by have := hkr x hx; omega) (fun x hx => by have := htr x hx; omega)
theorem rdI_lit (w' : World) (C : Array Value) (g : Nat) (fz : Nat × Nat) (l : List Int) (hg : w'.heap[g]? = some (.cells C 3 fz)) (hC : C = (l.map fun x => Value.int .i64 x).toArray) (h2 : l.length ≤ 1000) : RdI w' (.slice (some ⟨g, 0, none⟩) l.length l.length) l := by
  refine rdI_new w' C g fz l hg ?_ ?_
  · subst hC
    intro i hi
    simp [hi]
  · have : (1000 : Nat) ≤ maxLen := by simp [maxLen]
    omega
end Go.Proofs.YtffgbjojngnebaaDoor
namespace Go.Proofs.YtffgbjojngnebaaDoor

def nRoot : ByteArray := ⟨#[114, 111, 111, 116]⟩
def nNext : ByteArray := ⟨#[110, 101, 120, 116]⟩

theorem toldL_ge (l : List Int) (i : Nat) : 0 ≤ toldL l i := by
  unfold toldL
  split <;> omega
theorem crashF_safe (n : ByteArray) (b : List UInt8) (keep tear : Int) (hk : 0 ≤ keep) : crashF ⟨n, b, b.length⟩ keep tear = ⟨n, b, b.length⟩ := by
  have h1 : keptN ⟨n, b, b.length⟩ keep = b.length := by
    unfold keptN
    simp only [Nat.sub_self]
    omega
  have h2 : noughtsN ⟨n, b, b.length⟩ keep tear = 0 := by
    unfold noughtsN
    rw [h1]
    simp only
    omega
  unfold crashF
  rw [h1, h2]
  simp
theorem crashF_le (f : AF) (keep tear : Int) (hs : f.safe ≤ f.bytes.length) : (crashF f keep tear).bytes.length ≤ f.bytes.length := by
  have h1 : keptN f keep ≤ f.bytes.length := by
    unfold keptN
    omega
  have h2 : keptN f keep + noughtsN f keep tear ≤ f.bytes.length := by
    unfold noughtsN
    omega
  unfold crashF
  simp only [List.length_append, List.length_take, List.length_replicate]
  omega

variable (E N : List UInt8)
theorem sw1 (hE : E.length ≤ 200) : appendD (newD 4096) nRoot E = (⟨[⟨nRoot, E, 0⟩], 4096, -1, false⟩, 0) := by
  unfold appendD
  rw [if_neg (by simp [newD]), if_neg (by simp [show right nRoot = true by kernel_rfl]), if_neg (by simp [newD, used]; omega)]
  rfl
theorem sw2 : syncD ⟨[⟨nRoot, E, 0⟩], 4096, -1, false⟩ nRoot = (⟨[⟨nRoot, E, E.length⟩], 4096, -1, false⟩, 0) := rfl
theorem sw3 (k : Nat) : armD ⟨[⟨nRoot, E, E.length⟩], 4096, -1, false⟩ k = ⟨[⟨nRoot, E, E.length⟩], 4096, k, false⟩ := by
  unfold armD
  simp
theorem sw40 (hE : E.length ≤ 200) (hN : N.length ≤ 200) : appendD ⟨[⟨nRoot, E, E.length⟩], 4096, (0 : Nat), false⟩ nNext N = (⟨[⟨nRoot, E, E.length⟩], 4096, -1, true⟩, 15) := by
  unfold appendD
  rw [if_neg (by simp), if_neg (by simp [show right nNext = true by kernel_rfl]), if_neg (by simp [used]; omega)]
  rfl
theorem sw4 (k : Nat) (hE : E.length ≤ 200) (hN : N.length ≤ 200) : appendD ⟨[⟨nRoot, E, E.length⟩], 4096, (k + 1 : Nat), false⟩ nNext N = (⟨[⟨nNext, N, 0⟩, ⟨nRoot, E, E.length⟩], 4096, k, false⟩, 0) := by
  unfold appendD
  rw [if_neg (by simp), if_neg (by simp [show right nNext = true by kernel_rfl]), if_neg (by simp [used]; omega)]
  unfold burn
  rw [if_neg (by simp; omega)]
  simp only [if_pos (show (0 : Int) < ((k + 1 : Nat) : Int) by omega)]
  rw [show ((k + 1 : Nat) : Int) - 1 = k by omega]
  rfl
theorem sw5d : syncD ⟨[⟨nRoot, E, E.length⟩], 4096, -1, true⟩ nNext = (⟨[⟨nRoot, E, E.length⟩], 4096, -1, true⟩, 15) := rfl
theorem sw6d (fs : List AF) : renameD ⟨fs, 4096, -1, true⟩ nNext nRoot = (⟨fs, 4096, -1, true⟩, 15) := rfl
theorem sw50 : syncD ⟨[⟨nNext, N, 0⟩, ⟨nRoot, E, E.length⟩], 4096, (0 : Nat), false⟩ nNext = (⟨[⟨nNext, N, 0⟩, ⟨nRoot, E, E.length⟩], 4096, -1, true⟩, 15) := rfl
theorem sw5 (k : Nat) : syncD ⟨[⟨nNext, N, 0⟩, ⟨nRoot, E, E.length⟩], 4096, (k + 1 : Nat), false⟩ nNext = (⟨[⟨nNext, N, N.length⟩, ⟨nRoot, E, E.length⟩], 4096, k, false⟩, 0) := by
  unfold syncD
  rw [if_neg (by simp), if_neg (by rw [show isF _ nNext = true from rfl]; simp)]
  unfold burn
  rw [if_neg (by simp; omega)]
  simp only [if_pos (show (0 : Int) < ((k + 1 : Nat) : Int) by omega)]
  rw [show ((k + 1 : Nat) : Int) - 1 = k by omega]
  rfl
theorem sw60 : renameD ⟨[⟨nNext, N, N.length⟩, ⟨nRoot, E, E.length⟩], 4096, (0 : Nat), false⟩ nNext nRoot = (⟨[⟨nNext, N, N.length⟩, ⟨nRoot, E, E.length⟩], 4096, -1, true⟩, 15) := rfl
theorem sw6 (k : Nat) : renameD ⟨[⟨nNext, N, N.length⟩, ⟨nRoot, E, E.length⟩], 4096, (k + 1 : Nat), false⟩ nNext nRoot = (⟨[⟨nRoot, N, N.length⟩], 4096, k, false⟩, 0) := by
  unfold renameD
  rw [if_neg (by simp), if_neg (by rw [show isF _ nNext = true from rfl]; simp), if_neg (by rw [show right nRoot = true by kernel_rfl]; simp)]
  unfold burn
  rw [if_neg (by simp; omega)]
  simp only [if_pos (show (0 : Int) < ((k + 1 : Nat) : Int) by omega)]
  rw [show ((k + 1 : Nat) : Int) - 1 = k by omega]
  rfl
theorem sw7 (l : List UInt8) (m : Nat) (fu : Int) (dk : Bool) (ks ts : List Int) : crashD ⟨[⟨nRoot, l, l.length⟩], m, fu, dk⟩ ks ts = ⟨[⟨nRoot, l, l.length⟩], m, -1, false⟩ := by
  unfold crashD crashL
  simp only [List.mapIdx_cons, List.mapIdx_nil]
  rw [crashF_safe _ _ _ _ (toldL_ge _ _)]
theorem sw7b (s : Nat) (m : Nat) (fu : Int) (dk : Bool) (ks ts : List Int) : ∃ g : AF, crashD ⟨[⟨nNext, N, s⟩, ⟨nRoot, E, E.length⟩], m, fu, dk⟩ ks ts = ⟨[⟨nNext, g.bytes, g.safe⟩, ⟨nRoot, E, E.length⟩], m, -1, false⟩ ∧ g = crashF ⟨nNext, N, s⟩ (toldL ks 0) (toldL ts 0) := by
  refine ⟨_, ?_, rfl⟩
  unfold crashD crashL
  simp only [List.mapIdx_cons, List.mapIdx_nil]
  rw [crashF_safe nRoot _ _ _ (toldL_ge _ _)]
  rfl
theorem sw8 (l : List UInt8) (s : Nat) (fu : Int) : readD ⟨[⟨nRoot, l, s⟩], 4096, fu, false⟩ nRoot = (l, 0) ∧ readD ⟨[⟨nRoot, l, s⟩], 4096, fu, false⟩ nNext = ([], 16) := ⟨rfl, rfl⟩
theorem sw8b (l : List UInt8) (s t : Nat) (fu : Int) : readD ⟨[⟨nNext, N, s⟩, ⟨nRoot, l, t⟩], 4096, fu, false⟩ nRoot = (l, 0) ∧ readD ⟨[⟨nNext, N, s⟩, ⟨nRoot, l, t⟩], 4096, fu, false⟩ nNext = (N, 0) := ⟨rfl, rfl⟩
end Go.Proofs.YtffgbjojngnebaaDoor
