/-
  The contracts of leave, sectorEnd, told, crash. Own work.
-/
import Derived.Test.YtloigepmmhcibaaDj
namespace Go.Proofs.Ytloigepmmhcibaa
open Go.RowKit

theorem cellsOf_set12 (ps : List (AF × Value)) (i : Nat) (hi : i < ps.length) (f : AF) (v : Value) (hf : f.name = ps[i].1.name) :
    ((cellsOf ps).set (i * 3 + 1) v).set (i * 3 + 2) (.int .i64 f.safe) = cellsOf (ps.take i ++ (f, v) :: ps.drop (i + 1)) := by
  rw [← cellsOf_set ps i hi]
  have h1 := (cellsOf_get ps i hi).1
  have hl := cellsOf_length ps
  have e : (cellsOf ps).set (i * 3) (.string f.name) = cellsOf ps := by
    rw [hf]
    apply List.ext_getElem?
    intro j
    rw [List.getElem?_set]
    by_cases e0 : i * 3 = j
    · subst e0
      rw [if_pos rfl, if_pos (by omega), h1]
    · rw [if_neg e0]
  rw [e]

theorem St.setTwo {w : World} {bd bs bc g cap : Nat} {ps : List (AF × Value)} {most : Nat} {fuse : Int} {dark : Bool} (h : St w bd bs bc (.slice (some ⟨g, 0, none⟩) ps.length cap) ps most fuse dark) (i : Nat) (hi : i < ps.length) (f : AF) (v : Value) (hf : f.name = ps[i].1.name) (hv : Own w 0 v f.bytes) (hap : ∀ p ∈ ps.take i ++ ps.drop (i + 1), Apart p.2 v) :
    St ((w.setCell ⟨g, i * 3 + 1, none⟩ v).setCell ⟨g, i * 3 + 2, none⟩ (.int .i64 f.safe)) bd bs bc (.slice (some ⟨g, 0, none⟩) ps.length cap) (ps.take i ++ (f, v) :: ps.drop (i + 1)) most fuse dark := by
  obtain ⟨o2, g2⟩ := World.ownsRow.stored h.hf (i * 3 + 1) v
  obtain ⟨o3, g3⟩ := World.ownsRow.stored o2 (i * 3 + 2) (.int .i64 f.safe)
  rw [cellsOf_set12 ps i hi f v hf] at o3
  refine h.row (gtrans g2 g3) ?_ (fun p hp => ?_) (pair_put h.hp i (i + 1) (by omega) (f, v) hap)
  · rw [put_len ps i hi]; exact o3
  · rcases mem_put hp with rfl | hp
    · exact hv
    · exact h.hb p hp

theorem noughts_rd (w : World) (z : Nat) (M : Array Value) (hM : M = (BV (List.replicate z 0)).toArray) (hz : z ≤ 140737488355328) : Rd (w.alloc (.cells M 5)) (.slice (some ⟨w.heap.size, 0, none⟩) z z) (List.replicate z 0) := by
  subst hM
  have h := Rd.new w (List.replicate z 0) 5 (by rw [List.length_replicate]; unfold maxLen; omega)
  rw [List.length_replicate] at h
  exact h
theorem made_noughts (z : Nat) : madeCells (Value.int .u8 0).cells z = (BV (List.replicate z 0)).toArray := by
  apply Array.ext
  · rw [size_madeCells]; simp [BV]
  · intro i h1 h2
    simp [madeCells, BV, Value.cells, Nat.mod_one]

set_option maxRecDepth 100000 in
set_option maxHeartbeats 2000000 in
theorem leave_st {w : World} {bd bs bc g cap : Nat} {ps : List (AF × Value)} {most : Nat} {fuse : Int} {dark : Bool} (h : St w bd bs bc (.slice (some ⟨g, 0, none⟩) ps.length cap) ps most fuse dark) (i : Nat) (hi : i < ps.length)
    (n z : Nat) (hn : n ≤ ps[i].1.bytes.length) (hsm : ps[i].1.bytes.length ≤ 16777216) (hz : z ≤ 16777216) :
    Calls Try.prog 59 #[.pointer (some ⟨g, i * 3, none⟩), .int .i64 n, .int .i64 z] w fun e w' => e = .returned (.tuple #[]) ∧
      ∃ v', St w' bd bs bc (.slice (some ⟨g, 0, none⟩) ps.length cap) (ps.take i ++ (⟨ps[i].1.name, ps[i].1.bytes.take n ++ List.replicate z 0, n + z⟩, v') :: ps.drop (i + 1)) most fuse dark ∧ (∀ b, v'.ownBlock = some b → w.heap.size ≤ b) ∧ Chg (fun b => b = g) w w' := by
  have mixed : Try.prog.follows Departure.mixedOrders = true := by kernel_rfl
  obtain ⟨i0, hinf, hz0, hz1, hz2⟩ := info_parts Try.info5
  obtain ⟨M, HM⟩ := named (BV (List.replicate z (0 : UInt8))).toArray
  have hmk : ∀ W : World, (Instr.makeSlice 30 (.int .i64 (z : Int)) (.int .i64 (z : Int))).run Try.prog W = .ok (.slice (some ⟨W.heap.size, 0, none⟩) z z) (W.alloc (.cells M 5)) := fun W => by
    have h := run_make (P := Try.prog) W 30 5 i0 (.int .u8 0) Try.underlying30 hinf hz0 .i64 .i64 (z : Int) (z : Int) (by omega) (by omega) (by rw [hz2]; omega) (by omega)
    rw [hz1, Nat.mul_one, show ((z : Nat) : Int).toNat = z by omega, made_noughts, ← HM.out] at h
    exact h
  clear hinf hz0 hz1 hz2
  obtain ⟨f, HF⟩ := named ps[i].1
  have hrd := Own.rd (h.hb _ (List.getElem_mem hi))
  rw [← HF.out] at hrd hn hsm ⊢
  obtain ⟨ao, cp, hsl, hrl, hrc, -⟩ := id hrd
  rw [hsl] at hrd
  obtain ⟨l, HL⟩ := named f.bytes.length
  rw [← HL.out] at hn hsm hrl hrd
  have HOW : Hid _ := hrd
  clear hrd
  have hfr := fr_of h.hf
  rcases hfr with ⟨hx, _⟩ | ⟨bf, cap2, hx, hbl, hnc, hcm, hc⟩
  · cases hx
  cases hx
  obtain ⟨c0, c1, c2⟩ := hc i hi
  rw [hsl, ← HL.out] at c1
  rw [← HF.out] at c0 c2
  have z1 := row_frozen h.hf (i * 3 + 1)
  have z2 := row_frozen h.hf (i * 3 + 2)
  have HST : Hid _ := h
  unfold maxLen at hrc
  obtain ⟨f', HF'⟩ := named (⟨f.name, f.bytes.take n ++ List.replicate z 0, n + z⟩ : AF)
  rw [← HF'.out]
  clear h hc hsl
  have hnl : (n : Int) ≤ (cp : Int) := by omega
  obtain ⟨nb, HNB⟩ := named (f.bytes.take n ++ List.replicate z 0)
  have HNL : Hid (nb.length = n + z) := by rw [HNB.out]; simp only [Hid, List.length_append, List.length_take, List.length_replicate]; rw [← HL.out]; omega
  have HCC : Hid (Calls Try.prog 76 #[.slice (some ⟨w.heap.size + 1, 0, none⟩) 2 2] ((w.alloc (.cells M 5)).alloc (.cells #[.slice ao n cp, .slice (some ⟨w.heap.size, 0, none⟩) z z] 30)).drew fun e w' => ∃ v, e = .returned v ∧ Own w' w.heap.size v nb ∧ Below w.heap.size w w') := by
    rw [HNB.out]
    have hc := concat2 ((w.alloc (.cells M 5)).drew) (.slice ao n cp) (.slice (some ⟨w.heap.size, 0, none⟩) z z) (f.bytes.take n) (List.replicate z 0) (Rd.drew (Rd.alloc (Rd.take HOW.out n (by rw [← HL.out]; exact hn)) _)) (Rd.drew (noughts_rd w z M HM.out (by omega))) (by rw [List.length_take, List.length_replicate]; omega)
    have e : ((w.alloc (.cells M 5)).drew).heap.size = w.heap.size + 1 := by simp
    rw [e] at hc
    refine Calls.mono (show Calls _ _ _ _ _ from hc) ?_
    rintro e w' ⟨v, rfl, ho, hb⟩
    exact ⟨v, rfl, ho.mono (by omega), ((((Below.refl w.heap.size w).alloc (Nat.le_refl _) _).drew)).trans (hb.mono (by omega))⟩
  go_enter Try.func59, Try.ntmps59
  go_wp2_with fail
  go_region_with (go_at_call 76; refine Calls.mono HCC.out ?_; rintro e w1 ⟨v1, rfl, hown1, hb1⟩; have HO1 : Hid _ := hown1; have HB1 : Hid _ := hb1; obtain ⟨a1, k1, hv1, -⟩ := Own.rd hown1; subst hv1; have d1 := (hb1.cell (p := ⟨g, i * 3 + 1, none⟩) hbl).trans c1; have y1 := (hb1.frozen (p := ⟨g, i * 3 + 1, none⟩) hbl).trans z1; have d2 := (hb1.cell (p := ⟨g, i * 3 + 2, none⟩) hbl).trans c2; have y2 := (hb1.frozen (p := ⟨g, i * 3 + 2, none⟩) hbl).trans z2; clear hown1 hb1)
  all_goals
    go_wp2
    go_returns
    refine ⟨rfl, .slice a1 nb.length k1, ?_, fun b hb => (World.ownsRow.lt HO1.out b hb).1, ((Chg.ofBelow HB1.out (fun b => b = g)).setCell (p := ⟨g, i * 3 + 1, none⟩) (.inl rfl) _).setCell (p := ⟨g, i * 3 + 2, none⟩) (.inl rfl) _⟩
    have hS := St.setTwo (HST.out.below HB1.out) i hi f' (.slice a1 nb.length k1) (by rw [HF'.out, ← HF.out]) (by
      have e : f'.bytes = nb := by rw [HF'.out, HNB.out]
      rw [e]; exact Own.mono HO1.out (Nat.zero_le _)) (fun p hp a ha hv => by
        have h1 := (World.ownsRow.lt HO1.out a hv).1
        have h2 := HST.out.lt a (.inr (.inr (.inr (.inr ⟨p, (List.mem_append.1 hp).elim List.mem_of_mem_take List.mem_of_mem_drop, ha⟩))))
        omega)
    have e2 : f'.safe = nb.length := by rw [HF'.out, HNL.out]
    rw [e2] at hS
    exact hS
set_option maxRecDepth 100000 in
set_option maxHeartbeats 400000 in
theorem sectorEnd_any (n : Nat) (hn : n ≤ 16777216) (w : World) : Calls Try.prog 87 #[.int .i64 n] w fun e w' => e = .returned (.int .i64 ((n + 63) / 64 * 64 : Nat)) ∧ w' = w := by
  have HE : Hid (((n : Int) + 64 - 1) / 64 * 64 = (((n + 63) / 64 * 64 : Nat) : Int)) := by unfold Hid; omega
  go_enter Try.func87, Try.ntmps87
  go_wp2
  go_ret
  exact ⟨ret_int HE.out, rfl⟩
/-- numbers that are read -/
def RdI (w : World) (v : Value) (l : List Int) : Prop :=
  ∃ ao cap, v = .slice ao l.length cap ∧ l.length ≤ cap ∧ cap ≤ maxLen ∧ (ao = none → cap = 0) ∧ ∀ a, ao = some a → ∀ i (h : i < l.length), w.cell? (a.add i) = some (.int .i64 l[i])
theorem RdI.below {w w' : World} {v : Value} {l : List Int} (h : RdI w v l) (hb : Below w.heap.size w w') : RdI w' v l := by
  obtain ⟨ao, cap, hv, h1, h2, h3, h4⟩ := h
  refine ⟨ao, cap, hv, h1, h2, h3, fun a ha i hi => ?_⟩
  have hc := h4 a ha i hi
  rw [hb.cell (World.block_lt_of_cell? w _ hc)]
  exact hc
theorem RdI.chg {w w' : World} {v : Value} {l : List Int} {F : Nat → Prop} (h : RdI w v l) (hb : Chg F w w') (hF : ∀ a, v.ownBlock = some a → l ≠ [] → ¬ F a) : RdI w' v l := by
  obtain ⟨ao, cap, hv, h1, h2, h3, h4⟩ := h
  refine ⟨ao, cap, hv, h1, h2, h3, fun a ha i hi => ?_⟩
  have hc := h4 a ha i hi
  have hlt := World.block_lt_of_cell? w _ hc
  have hbk : (a.add i).block = a.block := by unfold Addr.add; split <;> rfl
  rw [World.cell?_of_block (w := w) (hb.block _ hlt (by rw [hbk]; exact hF _ (by rw [hv, ha]; rfl) (by intro e; subst e; simp at hi)))]
  exact hc
theorem RdI.nil (w : World) : RdI w (.slice none 0 0) [] := ⟨none, 0, rfl, Nat.le_refl _, by simp [maxLen], fun _ => rfl, fun a h => by cases h⟩

set_option maxRecDepth 100000 in
set_option maxHeartbeats 400000 in
theorem told_any (v : Value) (l : List Int) (i : Nat) (w : World) (h : RdI w v l) (hi : i ≤ 1000) : Calls Try.prog 64 #[v, .int .i64 i] w fun e w' => e = .returned (.int .i64 (toldL l i)) ∧ w' = w := by
  obtain ⟨ao, cap, rfl, h1, h2, h3, h4⟩ := h
  unfold maxLen at h2
  by_cases hlt : i < l.length
  · cases ao with
    | none => have := h3 rfl; omega
    | some a =>
      have hc := h4 a rfl i hlt
      have HT : Hid (toldL l i = max l[i] 0) := by
        unfold toldL
        rw [if_pos hlt, List.getD_eq_getElem?_getD, List.getElem?_eq_getElem hlt]
        rfl
      obtain ⟨x, HX⟩ := named l[i]
      rw [← HX.out] at hc HT
      have hsp : a.spot = none := by
        have h0 := h4 a rfl 0 (by omega)
        cases hs : a.spot with
        | none => rfl
        | some y =>
          simp [Addr.add, World.cell?, hs] at h0
          split at h0 <;> simp at h0
      obtain ⟨ab, aof, asp⟩ := a
      simp only at hsp
      subst hsp
      rw [Addr.add_lit] at hc
      clear h4 h3
      obtain ⟨n, HN⟩ := named l.length
      rw [← HN.out] at hlt h1 ⊢
      have hlt' : ¬ ((n : Int) ≤ (i : Int)) := by omega
      go_enter Try.func64, Try.ntmps64
      go_wp2
      all_goals go_ret
      all_goals exact ⟨ret_int (by rw [HT.out]), rfl⟩
  · have HT : Hid (toldL l i = 0) := by unfold toldL; rw [if_neg hlt]; rfl
    obtain ⟨n, HN⟩ := named l.length
    rw [← HN.out] at hlt h1 ⊢
    have hlt' : (n : Int) ≤ (i : Int) := by omega
    clear h4 h3
    go_enter Try.func64, Try.ntmps64
    go_wp2
    go_ret
    exact ⟨ret_int HT.out.symm, rfl⟩

set_option maxRecDepth 100000 in
set_option maxHeartbeats 4000000 in
theorem crash_st {w : World} {bd bs bc g cap : Nat} {ps : List (AF × Value)} {most : Nat} {fuse : Int} {dark : Bool} (h : St w bd bs bc (.slice (some ⟨g, 0, none⟩) ps.length cap) ps most fuse dark) (i : Nat) (hi : i < ps.length)
    (keep tear : Int) (hk0 : 0 ≤ keep) (hk1 : keep ≤ 9223372036854775807) (ht0 : 0 ≤ tear) (ht1 : tear ≤ 9223372036854775807) (hsm : ps[i].1.bytes.length ≤ 16777216) (hsf : ps[i].1.safe ≤ ps[i].1.bytes.length) :
    Calls Try.prog 63 #[.pointer (some ⟨g, i * 3, none⟩), .int .i64 keep, .int .i64 tear] w fun e w' => e = .returned (.tuple #[]) ∧
      ∃ v', St w' bd bs bc (.slice (some ⟨g, 0, none⟩) ps.length cap) (ps.take i ++ (crashF ps[i].1 keep tear, v') :: ps.drop (i + 1)) most fuse dark ∧ (∀ b, v'.ownBlock = some b → w.heap.size ≤ b) ∧ Chg (fun b => b = g) w w' := by
  have mixed : Try.prog.follows Departure.mixedOrders = true := by kernel_rfl
  have HST : Hid _ := h
  obtain ⟨ao, cp, hsl, -⟩ := Own.rd (h.hb _ (List.getElem_mem hi))
  have hfr := fr_of h.hf
  rcases hfr with ⟨hx, _⟩ | ⟨bf, cap2, hx, hbl, hnc, hcm, hc⟩
  · cases hx
  cases hx
  obtain ⟨c0, c1, c2⟩ := hc i hi
  rw [hsl] at c1
  clear h hc hsl c0 hcm
  obtain ⟨f, HF⟩ := named ps[i].1
  have HSM : Hid _ := hsm
  rw [← HF.out] at c1 c2 hsm hsf ⊢
  obtain ⟨l, HL⟩ := named f.bytes.length
  obtain ⟨s, HS⟩ := named f.safe
  obtain ⟨K, HK⟩ := named (keptN f keep)
  obtain ⟨E, HE⟩ := named ((K + 63) / 64 * 64)
  obtain ⟨Z, HZ⟩ := named (noughtsN f keep tear)
  have hKI : (K : Int) = s + min keep ((l : Int) - s) := by
    rw [HK.out]; unfold keptN; rw [← HL.out, ← HS.out]; rw [← HL.out, ← HS.out] at hsf; omega
  have hZI : (Z : Int) = min tear (min (E : Int) l - K) := by
    rw [HZ.out]; unfold noughtsN; rw [← HK.out, ← HL.out, ← HE.out]
    have hKl : K ≤ l := by rw [← HL.out, ← HS.out] at hsf; omega
    have hKE : K ≤ E := by rw [HE.out]; omega
    omega
  rw [← HL.out] at c1 hsm hsf
  rw [← HS.out] at c2 hsf
  have HLV : Hid _ := fun W (hW : St W bd bs bc (.slice (some ⟨g, 0, none⟩) ps.length cap) ps most fuse dark) => leave_st hW i hi K Z (by rw [← HF.out, ← HL.out]; omega) HSM.out (by omega)
  rw [← HF.out] at HLV
  have HCF : Hid (crashF f keep tear = ⟨f.name, f.bytes.take K ++ List.replicate Z 0, K + Z⟩) := by unfold crashF; rw [← HK.out, ← HZ.out]; rfl
  rw [HCF.out]
  have HKI : Hid _ := hKI
  have HZI : Hid _ := hZI
  have hEb : E ≤ 20000000 := by rw [HE.out]; omega
  have hKb : K ≤ 16777216 := by omega
  clear hKI hZI
  go_enter Try.func63, Try.ntmps63
  go_wp2_with fail
  go_region_held3 (fun w' => w'.cell? ⟨g, i * 3 + 1, none⟩ = some (.slice ao l cp) ∧ w'.cell? ⟨g, i * 3 + 2, none⟩ = some (.int .i64 s)) (exact ⟨c1, c2⟩) (fail)
  have hq : IntKind.i64.wrap ((s : Int) + min keep (IntKind.i64.wrap ((l : Int) - s))) = K := by
    rw [IntKind.wrap_i64, IntKind.wrap_i64]
    have := HKI.out
    omega
  rw [hq]
  clear hq
  go_wp2_with fail
  have HSE : Hid _ := sectorEnd_any K hKb w.drew.drew
  rw [← HE.out] at HSE
  go_region_held3 (fun w' => w'.cell? ⟨g, i * 3 + 1, none⟩ = some (.slice ao l cp) ∧ w'.cell? ⟨g, i * 3 + 2, none⟩ = some (.int .i64 s)) (exact ⟨c1, c2⟩) (first | (go_at_call 87; refine Calls.mono HSE.out ?_; rintro e w1 ⟨rfl, rfl⟩))
  have hm : min (E : Int) l - K = ((min E l - K : Nat) : Int) := by
    have h1 := HKI.out
    have h2 : K ≤ E := by rw [HE.out]; omega
    omega
  have hz : min tear ((min E l - K : Nat) : Int) = Z := by
    have := HZI.out
    rw [hm] at this
    exact this.symm
  have hz2 : min tear (min (E : Int) l - K) = Z := HZI.out.symm
  clear hm hz
  go_wp2_with fail
  refine Calls.mono (HLV.out w.drew.drew (HST.out.heap fun _ _ => rfl)) ?_
  rintro e w2 ⟨rfl, v', hS, hv, hC⟩
  have HS2 : Hid _ := hS
  have HV2 : Hid _ := hv
  have HC2 : Hid _ := hC
  clear hS hv hC
  go_wp2
  go_returns
  exact ⟨rfl, v', HS2.out, HV2.out, ⟨HC2.out.os, HC2.out.tape, HC2.out.output, HC2.out.size, HC2.out.block⟩⟩
end Go.Proofs.Ytloigepmmhcibaa
