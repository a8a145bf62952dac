/-
  The contract of Cut. Own work.
-/
import Derived.Test.YtloigepmmhcibaaEc
namespace Go.Proofs.Ytloigepmmhcibaa
open Go.RowKit

theorem below_drewN (w : World) (k B : Nat) : Below B w (w.drewN k) := ⟨rfl, rfl, rfl, Nat.le_refl _, fun _ _ => rfl⟩

set_option maxRecDepth 100000 in
set_option maxHeartbeats 2000000 in
theorem cut_any {w : World} {F : Nat → Prop} {d : Value} {D : AD} (h : Dk w F d D) (n : ByteArray) (m : Int) :
    Calls Try.prog 17 #[d, .string n, .int .i64 m] w fun e w' => Deed e w w' F d (cutD D n m) := by
  obtain ⟨bd, bs, bc, fv, ps, rfl, hst, hps, hF, hok⟩ := id h
  obtain ⟨T1, T2, T3, T4⟩ := two_new w (.cells #[.pointer (some ⟨bd, 0, none⟩)] 23) (.cells #[.int .i64 m] 3)
  have HDK : Hid _ := h
  have HST : Hid _ := hst
  have HOK : Hid _ := hok
  have HPS : Hid _ := hps
  have hmany := hok.many
  have hlen : ps.length = D.files.length := by rw [← hps, List.length_map]
  have HFI : Hid _ := find_any (w := (w.alloc (.cells #[.pointer (some ⟨bd, 0, none⟩)] 23)).alloc (.cells #[.int .i64 m] 3)) (hst.below T3) (by rw [hps]; exact hok.sorted) (by omega) n
  rw [hps] at HFI
  have HFF : Hid _ := hF
  have hltd := hst.ltd
  have hlts := hst.lts
  have HTN : Hid _ := And.intro T1 (And.intro T2 (And.intro T3 T4))
  clear h hst hok hps hF hmany T1 T2 T3 T4
  cases hdk : D.dark with
  | true =>
    have HE : Hid (cutD D n m = (D, 15)) := by unfold cutD; rw [if_pos hdk]; rfl
    rw [HE.out]
    simp only [hdk, ↓reduceIte] at HFI
    go_enter Try.func17, Try.ntmps17
    go_wp2_with fail
    refine Calls.mono HFI.out ?_
    rintro e w1 ⟨rfl, hb⟩
    have HB : Hid (Below w.heap.size w w1) := HTN.out.2.2.1.trans (hb.mono (by rw [HTN.out.2.2.2]; omega))
    clear hb
    go_wp2
    go_ret
    exact deed_none HDK.out rfl (HB.out.alloc HB.out.size _)
  | false =>
    cases hi : isF D.files n with
    | false =>
      have HE : Hid (cutD D n m = (D, 16)) := by unfold cutD; rw [if_neg (by rw [hdk]; simp), if_pos hi]; rfl
      rw [HE.out]
      simp only [hdk, hi, ↓reduceIte, Bool.false_eq_true] at HFI
      go_enter Try.func17, Try.ntmps17
      go_wp2_with fail
      refine Calls.mono HFI.out ?_
      rintro e w1 ⟨rfl, hb⟩
      have HB : Hid (Below w.heap.size w w1) := HTN.out.2.2.1.trans (hb.mono (by rw [HTN.out.2.2.2]; omega))
      clear hb
      go_wp2
      go_ret
      exact deed_none HDK.out rfl (HB.out.alloc HB.out.size _)
    | true =>
      obtain ⟨hl, hlook, hname⟩ := lookF_is hi
      simp only [hdk, hi, ↓reduceIte, Bool.false_eq_true] at HFI
      obtain ⟨r, HRD⟩ := named (cutD D n m)
      rw [← HRD.out]
      go_enter Try.func17, Try.ntmps17
      go_wp2_with fail
      refine Calls.mono HFI.out ?_
      rintro e w1 ⟨rfl, hb⟩
      rw [HTN.out.2.2.2] at hb
      have HB : Hid (Below w.heap.size w w1) := HTN.out.2.2.1.trans (hb.mono (by omega))
      have hz := HB.out.size
      have hx1 : w1.heap[w.heap.size]? = some (.cells #[.pointer (some ⟨bd, 0, none⟩)] 23 (0, 0)) := (hb.block _ (by omega)).trans HTN.out.1
      have hx2 : w1.heap[w.heap.size + 1]? = some (.cells #[.int .i64 m] 3 (0, 0)) := (hb.block _ (by omega)).trans HTN.out.2.1
      have c1 : w1.cell? ⟨w.heap.size, 0, none⟩ = some (.pointer (some ⟨bd, 0, none⟩)) := by rw [cell_of hx1]; rfl
      have c2 : w1.cell? ⟨w.heap.size + 1, 0, none⟩ = some (.int .i64 m) := by rw [cell_of hx2]; rfl
      have d1 := (HST.out.below HB.out).d0
      have HX1 : Hid _ := hx1
      have HX2 : Hid _ := hx2
      have hlx : w.heap.size + 1 < w1.heap.size := (Array.getElem?_eq_some_iff.1 hx2).1
      have hlx0 : w.heap.size < w1.heap.size := by omega
      have hltd1 : bd < w1.heap.size := by omega
      clear hb hx1 hx2
      have HSX : Hid (St (w1.alloc (Obj.cells #[Value.int IntKind.i64 (posF D.files n)] 3)) bd bs bc fv ps D.most D.fuse D.dark) := (HST.out.below HB.out).below ((Below.refl _ _).alloc (Nat.le_refl _) _)
      have hkp : posF D.files n < ps.length := by omega
      have hpa := ps_at HPS.out _ hkp hl
      rcases fr_of (HST.out.below HB.out).hf with ⟨_, hx⟩ | ⟨g, cap, hfv, hbl, hnc, hcm, hc⟩
      · rw [hx] at hkp; simp at hkp
      obtain ⟨q0, q1, q2⟩ := hc _ hkp
      obtain ⟨ao, cp, hsl, -⟩ := Own.rd (HST.out.hb _ (List.getElem_mem hkp))
      rw [hsl, hpa, ← hlook] at q1
      have s1 := (HST.out.below HB.out).s0
      have hlts1 : bs < w1.heap.size := by omega
      rw [hfv, hlen] at s1
      have hlkI : ((posF D.files n : Nat) : Int) < (D.files.length : Int) := by omega
      have HKP : Hid _ := hkp
      have HPA : Hid _ := hpa
      have HFV : Hid _ := hfv
      have HLU : Hid _ := look_used (fs := D.files) n
      obtain ⟨ll, HLL⟩ := named (lookF D.files n).bytes.length
      obtain ⟨k, HK⟩ := named (posF D.files n)
      rw [← HLL.out] at q1
      rw [← HK.out] at q1 hlkI ⊢
      obtain ⟨N, HNN⟩ := named D.files.length
      rw [← HNN.out] at s1 hlkI
      have HLO : Hid _ := hlook
      have HNA : Hid _ := hname
      clear hc q0 q2 hcm hnc hsl hpa hlen hlook hname
      have HSEL : Hid (r = if m < 0 ∨ (ll : Int) < m then (D, 2) else burn D (cutF n m.toNat)) := by
        rw [HRD.out]; unfold cutD; rw [if_neg (by rw [hdk]; simp), if_neg (by rw [hi]; simp), ← HLL.out]; rfl
      by_cases hm0 : m < 0
      · have HE : Hid (r = (D, 2)) := by rw [HSEL.out, if_pos (.inl hm0)]; rfl
        go_wp2_with fail
        go_quiet (fail)
        go_wp2
        go_ret
        rw [HE.out]
        exact deed_none HDK.out rfl ((HB.out.alloc HB.out.size _).trans (below_drewN _ _ _))
      · have hm0' : decide (m < 0) = false := by simpa using hm0
        by_cases hm1 : (ll : Int) < m
        · have HE : Hid (r = (D, 2)) := by rw [HSEL.out, if_pos (.inr hm1)]; rfl
          go_wp2_with fail
          go_quiet (fail)
          go_wp2
          go_ret
          rw [HE.out]
          exact deed_none HDK.out rfl ((HB.out.alloc HB.out.size _).trans (below_drewN _ _ _))
        · have hm1' : decide ((ll : Int) < m) = false := by simpa using hm1
          have HE : Hid (r = burn D (cutF n m.toNat)) := by rw [HSEL.out, if_neg (by omega)]; rfl
          go_wp2_with fail
          go_quiet (fail)
          go_wp2_with fail
          have HS2 : Hid (St ((w1.alloc (Obj.cells #[Value.int IntKind.i64 k] 3)).drewN nq) bd bs bc fv ps D.most D.fuse D.dark) := by
            rw [HK.out]
            exact HSX.out.heap fun _ _ => rfl
          obtain ⟨mn, hmn⟩ := Int.eq_ofNat_of_zero_le (a := m) (by omega)
          have hkp' : k < ps.length := by rw [HK.out]; exact HKP.out
          have hpk : ps[k].1 = lookF D.files n := by
            rw [HLO.out, ← HPA.out]
            simp only [HK.out]
          refine (do_58 HS2.out HOK.out.fuse w.heap.size w1.heap.size (w.heap.size + 1) (cutF n m.toNat D.files) (fun wx fz hS hk => ?_)).mono ?_
          · refine (cut1 hS w.heap.size w1.heap.size (w.heap.size + 1) k mn hkp' (by rw [hpk, ← HLL.out]; omega) (by rw [hpk]; have := HLU.out; have h1 := HOK.out.room; have h2 := HOK.out.most; omega) ?_ ?_ ?_).mono ?_
            · rw [hk _ (by omega)]; exact (Below.heap_alloc _ _ _ (by omega)).trans HX1.out
            · rw [hk _ (by omega)]; exact heap_alloc_new w1 _
            · rw [hk _ (by omega), ← hmn]; exact (Below.heap_alloc _ _ _ (by omega)).trans HX2.out
            · rintro e w' ⟨rfl, hd⟩
              refine ⟨rfl, ?_⟩
              rw [HPS.out, hpk] at hd
              unfold cutF
              rw [atF_put hi _ rfl, ← HK.out, show m.toNat = mn by omega, show (⟨n, (lookF D.files n).bytes.take mn, mn⟩ : AF) = ⟨(lookF D.files n).name, (lookF D.files n).bytes.take mn, mn⟩ by rw [HLO.out, HNA.out]]
              exact hd
          · rintro e w2 hdone
            obtain ⟨x, rfl⟩ := hdone.int
            have HDN : Hid _ := hdone
            clear hdone
            go_wp2
            go_ret
            rw [HE.out]
            exact deed_done (cutF n m.toNat) HPS.out HFF.out HOK.out (good_cut HOK.out.good n m.toNat hi (by rw [← HLL.out]; omega)) ((HB.out.alloc HB.out.size _).trans (below_drewN _ _ _)) HDN.out
end Go.Proofs.Ytloigepmmhcibaa
