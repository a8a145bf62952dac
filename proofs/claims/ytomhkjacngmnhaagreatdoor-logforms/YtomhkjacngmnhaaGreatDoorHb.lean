/-
  Batches in memory; SameBatches of any two lists of them. Own work.
-/
import Derived.Test.YtomhkjacngmnhaaGreatDoorGu
namespace Go.Proofs.YtomhkjacngmnhaaGreatDoor
open Go.RowKit

/-- a batch in memory: its number, the slice of its records, what they read as -/
structure Bt where
  n : Int
  v : Value
  ps : List (Value × List UInt8)
/-- what a batch says -/
def Bt.key (b : Bt) : Int × List (List UInt8) := (b.n, b.ps.map Prod.snd)
/-- a slice of batches -/
def RdB (w : World) (v : Value) (bs : List Bt) : Prop :=
  ∃ ao cap, v = .slice ao bs.length cap ∧ bs.length ≤ cap ∧ cap ≤ maxLen ∧ (∀ k (h : k < bs.length), RdL w bs[k].v bs[k].ps) ∧
    ∀ k (h : k < bs.length), ∃ b off, ao = some ⟨b, off, none⟩ ∧ b < w.heap.size ∧ w.cell? ⟨b, off + k * 2, none⟩ = some (.int .i64 bs[k].n) ∧ w.cell? ⟨b, off + k * 2 + 1, none⟩ = some bs[k].v
theorem RdB.below {w w' : World} {v : Value} {bs : List Bt} (h : RdB w v bs) (hb : Below w.heap.size w w') : RdB w' v bs := by
  obtain ⟨ao, cap, h1, h2, h3, h4, h5⟩ := h
  refine ⟨ao, cap, h1, h2, h3, fun k hk => (h4 k hk).below hb, fun k hk => ?_⟩
  obtain ⟨b, off, e, hl, c0, c1⟩ := h5 k hk
  exact ⟨b, off, e, Nat.lt_of_lt_of_le hl hb.size, (hb.cell (p := ⟨b, off + k * 2, none⟩) hl).trans c0, (hb.cell (p := ⟨b, off + k * 2 + 1, none⟩) hl).trans c1⟩

set_option maxRecDepth 100000 in
set_option maxHeartbeats 1600000 in
theorem sameBatches_any (va vb : Value) (bs cs : List Bt) (n m : Nat) (w : World) (ha : RdB w va bs) (hb : RdB w vb cs) (hbn : bs.length = n) (hcn : cs.length = m) :
    Calls Tryz.prog 45 #[va, vb] w fun e w' => e = .returned (.bool (decide (bs.map Bt.key = cs.map Bt.key))) ∧ Below w.heap.size w w' := by
  obtain ⟨ao, ac, hv1, ha1, ha2, -⟩ := id ha
  obtain ⟨bo, bc, hv2, hb1, hb2, -⟩ := id hb
  rw [hbn] at hv1 ha1
  rw [hcn] at hv2 hb1
  subst hv1 hv2
  have HA : Hid _ := ha
  have HB : Hid _ := hb
  have HN : Hid (bs.length = n ∧ cs.length = m) := ⟨hbn, hcn⟩
  unfold maxLen at ha2 hb2
  clear ha hb hbn hcn
  obtain ⟨R, HR⟩ := named (decide (bs.map Bt.key = cs.map Bt.key))
  rw [← HR.out]
  by_cases hnm : n = m
  · subst hnm
    go_enter Tryz.func45, Tryz.ntmps45
    go_wp2
    go_loopw [5] (fun iv wr => ∃ k : Nat, k ≤ n ∧ iv = .int .i64 k ∧ Hid ((bs.map Bt.key).take k = (cs.map Bt.key).take k) ∧ Below w.heap.size w wr) (fun iv _ => n - (intOf iv).toNat)
    case atStart => exact ⟨0, by omega, rfl, (rfl : (bs.map Bt.key).take 0 = (cs.map Bt.key).take 0), Below.refl _ _⟩
    case round =>
      obtain ⟨k, hk, rfl, HT, hb⟩ := hrel
      by_cases hlt : k < n
      · have hlt' : (k : Int) < n := by omega
        have hkb : k < bs.length := by rw [HN.out.1]; exact hlt
        have hkc : k < cs.length := by rw [HN.out.2]; exact hlt
        obtain ⟨ao1, ac1, e1, -, -, hrl, hcl⟩ := (show RdB w (.slice ao n ac) bs from HA.out)
        obtain ⟨bo1, bc1, e2, -, -, hrl2, hcl2⟩ := (show RdB w (.slice bo n bc) cs from HB.out)
        rw [HN.out.1] at e1
        rw [HN.out.2] at e2
        cases e1
        cases e2
        obtain ⟨b0, off, rfl, hlt0, c00, c01⟩ := hcl k hkb
        obtain ⟨b1, off1, rfl, hlt1, c10, c11⟩ := hcl2 k hkc
        have r0 := (hrl k hkb).below hb.drew
        have r1 := (hrl2 k hkc).below hb.drew
        have hc00 := (hb.cell (p := ⟨b0, off + k * 2, none⟩) hlt0).trans c00
        have hc01 := (hb.cell (p := ⟨b0, off + k * 2 + 1, none⟩) hlt0).trans c01
        have hc10 := (hb.cell (p := ⟨b1, off1 + k * 2, none⟩) hlt1).trans c10
        have hc11 := (hb.cell (p := ⟨b1, off1 + k * 2 + 1, none⟩) hlt1).trans c11
        have hmb : k < (bs.map Bt.key).length := by rw [List.length_map]; exact hkb
        have hmc : k < (cs.map Bt.key).length := by rw [List.length_map]; exact hkc
        have hkey : (bs.map Bt.key)[k] = (bs[k].n, bs[k].ps.map Prod.snd) := by rw [List.getElem_map]; rfl
        have hkey2 : (cs.map Bt.key)[k] = (cs[k].n, cs[k].ps.map Prod.snd) := by rw [List.getElem_map]; rfl
        have HK : Hid (bs[k].n = cs[k].n → bs[k].ps.map Prod.snd = cs[k].ps.map Prod.snd → (bs.map Bt.key).take (k + 1) = (cs.map Bt.key).take (k + 1)) := fun e1 e2 => take_snoc_eq _ _ k hmb hmc HT.out (by rw [hkey, hkey2, e1, e2])
        have HKn : Hid (¬ (bs[k].n = cs[k].n ∧ bs[k].ps.map Prod.snd = cs[k].ps.map Prod.snd) → R = false) := by
          intro hne
          rw [HR.out]
          refine decide_eq_false (fun h => hne ?_)
          have : (bs.map Bt.key)[k] = (cs.map Bt.key)[k] := by simp only [h]
          rw [hkey, hkey2] at this
          simpa using this
        obtain ⟨x0, hx0⟩ : ∃ x, x = bs[k] := ⟨_, rfl⟩
        obtain ⟨x1, hx1⟩ : ∃ x, x = cs[k] := ⟨_, rfl⟩
        rw [← hx0] at hc00 hc01 r0 HK HKn
        rw [← hx1] at hc10 hc11 r1 HK HKn
        clear hkey hkey2 hmb hmc hx0 hx1 hrl hcl hrl2 hcl2 c00 c01 c10 c11
        obtain ⟨n0, v0, p0⟩ := x0
        obtain ⟨n1, v1, p1⟩ := x1
        simp only at hc00 hc01 r0 HK HKn hc10 hc11 r1
        obtain ⟨q0, l0, hv0, -⟩ := id r0.1
        obtain ⟨q1, l1, hv1, -⟩ := id r1.1
        rw [List.length_map] at hv0 hv1
        obtain ⟨m0, HM0⟩ := named p0.length
        obtain ⟨m1, HM1⟩ := named p1.length
        rw [← HM0.out] at hv0
        rw [← HM1.out] at hv1
        subst hv0 hv1
        have hs := sameLists_any (.slice q0 m0 l0) (.slice q1 m1 l1) (p0.map Prod.fst) (p1.map Prod.fst) (p0.map Prod.snd) (p1.map Prod.snd) m0 m1 wr.drew r0.1 r1.1 (by rw [List.length_map, HM0.out]) (by rw [List.length_map, HM1.out]) (by rw [List.length_map, HM0.out]) (by rw [List.length_map, HM1.out])
          (fun i x b hx hb => by
            rw [List.getElem?_map] at hx hb
            cases hp : p0[i]? with
            | none => rw [hp] at hx; cases hx
            | some p =>
              rw [hp] at hx hb
              obtain ⟨hi, rfl⟩ := List.getElem?_eq_some_iff.1 hp
              cases hx
              cases hb
              exact r0.2 i hi)
          (fun i x b hx hb => by
            rw [List.getElem?_map] at hx hb
            cases hp : p1[i]? with
            | none => rw [hp] at hx; cases hx
            | some p =>
              rw [hp] at hx hb
              obtain ⟨hi, rfl⟩ := List.getElem?_eq_some_iff.1 hp
              cases hx
              cases hb
              exact r1.2 i hi)
        have hd : wr.drew.cell? ⟨b0, off + k * 2, none⟩ = some (.int .i64 n0) ∧ wr.drew.cell? ⟨b0, off + k * 2 + 1, none⟩ = some (.slice q0 m0 l0) ∧ wr.drew.cell? ⟨b1, off1 + k * 2, none⟩ = some (.int .i64 n1) ∧ wr.drew.cell? ⟨b1, off1 + k * 2 + 1, none⟩ = some (.slice q1 m1 l1) := ⟨hc00, hc01, hc10, hc11⟩
        have hbd := hb.drew
        have HS : Hid (∀ T, decide (p0.map Prod.snd = p1.map Prod.snd) = T → Calls Tryz.prog 111 #[.slice q0 m0 l0, .slice q1 m1 l1] wr.drew fun e w' => e = .returned (.bool T) ∧ (w'.cell? ⟨b0, off + k * 2, none⟩ = some (.int .i64 n0) ∧ w'.cell? ⟨b0, off + k * 2 + 1, none⟩ = some (.slice q0 m0 l0) ∧ w'.cell? ⟨b1, off1 + k * 2, none⟩ = some (.int .i64 n1) ∧ w'.cell? ⟨b1, off1 + k * 2 + 1, none⟩ = some (.slice q1 m1 l1)) ∧ Below w.heap.size w w') := by
          intro T hT
          refine hs.mono ?_
          rintro e w' ⟨rfl, hb2⟩
          rw [hT]
          have l0' : b0 < wr.drew.heap.size := World.block_lt_of_cell? wr.drew _ hd.1
          have l1' : b1 < wr.drew.heap.size := World.block_lt_of_cell? wr.drew _ hd.2.2.1
          exact ⟨rfl, ⟨(hb2.cell (p := ⟨b0, off + k * 2, none⟩) l0').trans hd.1, (hb2.cell (p := ⟨b0, off + k * 2 + 1, none⟩) l0').trans hd.2.1, (hb2.cell (p := ⟨b1, off1 + k * 2, none⟩) l1').trans hd.2.2.1, (hb2.cell (p := ⟨b1, off1 + k * 2 + 1, none⟩) l1').trans hd.2.2.2⟩, below_call hbd hb2⟩
        clear hs r0 r1 hc00 hc01 hc10 hc11
        by_cases hne : n0 = n1
        · subst hne
          by_cases hps : p0.map Prod.snd = p1.map Prod.snd
          · have HT2 : Hid _ := HK.out rfl hps
            have HS2 : Hid _ := HS.out true (decide_eq_true hps)
            clear HS HK HKn hps
            go_wp2_with fail
            go_region_held3 (fun w' => w'.cell? ⟨b0, off + k * 2, none⟩ = some (.int .i64 n0) ∧ w'.cell? ⟨b0, off + k * 2 + 1, none⟩ = some (.slice q0 m0 l0) ∧ w'.cell? ⟨b1, off1 + k * 2, none⟩ = some (.int .i64 n0) ∧ w'.cell? ⟨b1, off1 + k * 2 + 1, none⟩ = some (.slice q1 m1 l1)) (assumption)
              (first | (go_at_call 111; refine Calls.mono HS2.out ?_; rintro e w6 ⟨rfl, s6, hb6⟩))
            go_wp2
            go_roundw
            case rel => exact ⟨k + 1, by omega, by go_num, HT2, hb6⟩
            case measure => simp [intOf]; omega
          · have hRf : R = false := HKn.out (fun h => hps h.2)
            subst hRf
            have HS2 : Hid _ := HS.out false (decide_eq_false hps)
            clear HS HK HKn hps
            go_wp2_with fail
            go_region_held3 (fun w' => w'.cell? ⟨b0, off + k * 2, none⟩ = some (.int .i64 n0) ∧ w'.cell? ⟨b0, off + k * 2 + 1, none⟩ = some (.slice q0 m0 l0) ∧ w'.cell? ⟨b1, off1 + k * 2, none⟩ = some (.int .i64 n0) ∧ w'.cell? ⟨b1, off1 + k * 2 + 1, none⟩ = some (.slice q1 m1 l1)) (assumption)
              (first | (go_at_call 111; refine Calls.mono HS2.out ?_; rintro e w6 ⟨rfl, s6, hb6⟩))
            go_wp2
            go_ret
            exact ⟨rfl, hb6⟩
        · have hRf : R = false := HKn.out (fun h => hne h.1)
          subst hRf
          clear HS HK HKn
          have hd0 : wr.cell? ⟨b0, off + k * 2, none⟩ = some (.int .i64 n0) := hd.1
          have hd2 : wr.cell? ⟨b1, off1 + k * 2, none⟩ = some (.int .i64 n1) := hd.2.2.1
          clear hd
          have hne' : (n0 == n1) = false := by simp only [beq_eq_false_iff_ne]; exact hne
          have hne2 : (n0 != n1) = true := by simp only [bne, hne', Bool.not_false]
          go_wp2_with fail
          go_quiet (fail)
          go_wp2
          go_ret
          exact ⟨rfl, by first | exact hb | exact hb.drew | exact hb.trans (⟨rfl, rfl, rfl, Nat.le_refl _, fun _ _ => rfl⟩ : Below _ wr (wr.drewN _))⟩
      · have hlt' : ¬ (k : Int) < n := by omega
        have hkn : k = n := by omega
        have hRt : R = true := by
          rw [HR.out]
          refine decide_eq_true ?_
          have ht : (bs.map Bt.key).take k = (cs.map Bt.key).take k := HT.out
          rw [List.take_of_length_le (by rw [List.length_map, HN.out.1]; omega), List.take_of_length_le (by rw [List.length_map, HN.out.2]; omega)] at ht
          exact ht
        subst hRt
        go_wp2
        go_ret
        exact ⟨rfl, hb⟩
  · have hRf : R = false := by
      rw [HR.out]
      refine decide_eq_false (fun h => hnm ?_)
      have := congrArg List.length h
      rw [List.length_map, List.length_map, HN.out.1, HN.out.2] at this
      exact this
    subst hRf
    have hne : ((n : Int) == (m : Int)) = false := by simp only [beq_eq_false_iff_ne]; omega
    go_enter Tryz.func45, Tryz.ntmps45
    go_wp2
    go_ret
    exact ⟨rfl, Below.refl _ _⟩
end Go.Proofs.YtomhkjacngmnhaaGreatDoor
