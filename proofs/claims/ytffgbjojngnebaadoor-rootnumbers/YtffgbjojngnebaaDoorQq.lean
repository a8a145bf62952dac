/-
  The contracts of Rename, Cut. The contract of Cut. The contract of Append. Own work.
-/
import Derived.Test.YtffgbjojngnebaaDoorQp
import Derived.Deep.QuietTactic
import Derived.BigQuiet
namespace Go.Proofs.YtffgbjojngnebaaDoor
open Go.RowKit

theorem two_new (w : World) (o p : Obj) : ((w.alloc o).alloc p).heap[w.heap.size]? = some o ∧ ((w.alloc o).alloc p).heap[w.heap.size + 1]? = some p ∧ Below w.heap.size w ((w.alloc o).alloc p) ∧ ((w.alloc o).alloc p).heap.size = w.heap.size + 2 := by
  refine ⟨?_, ?_, ((Below.refl _ _).alloc (Nat.le_refl _) _).alloc (by simp) _, by simp⟩
  · rw [Below.heap_alloc _ _ _ (by simp)]; exact heap_alloc_new w o
  · have := heap_alloc_new (w.alloc o) p
    rw [World.size_alloc] at this
    exact this

set_option maxRecDepth 100000 in
set_option maxHeartbeats 2000000 in
theorem rename_any {w : World} {F : Nat → Prop} {d : Value} {D : AD} (h : Dk w F d D) (n m : ByteArray) (hm : m.size ≤ 140737488355328) :
    Calls Tryd.prog 80 #[d, .string n, .string m] w fun e w' => Deed e w w' F d (renameD D n m) := by
  obtain ⟨bd, bs, bc, fv, ps, rfl, hst, hps, hF, hok⟩ := id h
  obtain ⟨T1, T2, T3, T4⟩ := two_new w (.cells #[.pointer (some ⟨bd, 0, none⟩)] 33) (.cells #[.string m] 9)
  have HDK : Hid _ := h
  have HST : Hid _ := hst
  have HOK : Hid _ := hok
  have HPS : Hid _ := hps
  have hmany := hok.many
  have hlen : ps.length = D.files.length := by rw [← hps, List.length_map]
  have HFI : Hid _ := find_any (w := (w.alloc (.cells #[.pointer (some ⟨bd, 0, none⟩)] 33)).alloc (.cells #[.string m] 9)) (hst.below T3) (by rw [hps]; exact hok.sorted) (by omega) n
  rw [hps] at HFI
  have HFF : Hid _ := hF
  have hltd := hst.ltd
  have hlts := hst.lts
  have HTN : Hid _ := And.intro T1 (And.intro T2 (And.intro T3 T4))
  clear h hst hok hps hF hmany T1 T2 T3 T4
  cases hdk : D.dark with
  | true =>
    have HE : Hid (renameD D n m = (D, 15)) := by unfold renameD; rw [if_pos hdk]; rfl
    rw [HE.out]
    simp only [hdk, ↓reduceIte] at HFI
    go_enter Tryd.func80, Tryd.ntmps80
    go_wp2_with fail
    refine Calls.mono HFI.out ?_
    rintro e w1 ⟨rfl, hb⟩
    have HB : Hid (Below w.heap.size w w1) := HTN.out.2.2.1.trans (hb.mono (by rw [HTN.out.2.2.2]; omega))
    clear hb
    go_wp2
    go_ret
    exact deed_none HDK.out rfl (HB.out.alloc HB.out.size _)
  | false =>
    cases hi : isF D.files n with
    | false =>
      have HE : Hid (renameD D n m = (D, 16)) := by unfold renameD; rw [if_neg (by rw [hdk]; simp), if_pos hi]; rfl
      rw [HE.out]
      simp only [hdk, hi, ↓reduceIte, Bool.false_eq_true] at HFI
      go_enter Tryd.func80, Tryd.ntmps80
      go_wp2_with fail
      refine Calls.mono HFI.out ?_
      rintro e w1 ⟨rfl, hb⟩
      have HB : Hid (Below w.heap.size w w1) := HTN.out.2.2.1.trans (hb.mono (by rw [HTN.out.2.2.2]; omega))
      clear hb
      go_wp2
      go_ret
      exact deed_none HDK.out rfl (HB.out.alloc HB.out.size _)
    | true =>
      obtain ⟨hl, hlook, hname⟩ := lookF_is hi
      simp only [hdk, hi, ↓reduceIte, Bool.false_eq_true] at HFI
      obtain ⟨r, HRD⟩ := named (renameD D n m)
      rw [← HRD.out]
      go_enter Tryd.func80, Tryd.ntmps80
      go_wp2_with fail
      refine Calls.mono HFI.out ?_
      rintro e w1 ⟨rfl, hb⟩
      rw [HTN.out.2.2.2] at hb
      have HB : Hid (Below w.heap.size w w1) := HTN.out.2.2.1.trans (hb.mono (by omega))
      have hz := HB.out.size
      have hx1 : w1.heap[w.heap.size]? = some (.cells #[.pointer (some ⟨bd, 0, none⟩)] 33 (0, 0)) := (hb.block _ (by omega)).trans HTN.out.1
      have hx2 : w1.heap[w.heap.size + 1]? = some (.cells #[.string m] 9 (0, 0)) := (hb.block _ (by omega)).trans HTN.out.2.1
      have c1 : w1.cell? ⟨w.heap.size, 0, none⟩ = some (.pointer (some ⟨bd, 0, none⟩)) := by rw [cell_of hx1]; rfl
      have c2 : w1.cell? ⟨w.heap.size + 1, 0, none⟩ = some (.string m) := by rw [cell_of hx2]; rfl
      have d1 := (HST.out.below HB.out).d0
      have HX1 : Hid _ := hx1
      have HX2 : Hid _ := hx2
      have hlx : w.heap.size + 1 < w1.heap.size := (Array.getElem?_eq_some_iff.1 hx2).1
      have hlx0 : w.heap.size < w1.heap.size := by omega
      have hltd1 : bd < w1.heap.size := by omega
      clear hb hx1 hx2
      go_wp2_with fail
      refine (mayBe_any m _ hm).mono ?_
      rintro e w2 ⟨rfl, hw2⟩
      subst hw2
      cases hr : right m with
      | false =>
        have HE : Hid (r = (D, 16)) := by rw [HRD.out]; unfold renameD; rw [if_neg (by rw [hdk]; simp), if_neg (by rw [hi]; simp), if_pos hr]; rfl
        rw [HE.out] at HRD
        go_wp2
        go_ret
        rw [HE.out]
        exact deed_none HDK.out rfl (HB.out.alloc HB.out.size _)
      | true =>
        have HE : Hid (r = burn D (renF n m)) := by rw [HRD.out]; unfold renameD; rw [if_neg (by rw [hdk]; simp), if_neg (by rw [hi]; simp), if_neg (by rw [hr]; simp)]; rfl
        have hms : m.size ≤ 60 := by unfold right at hr; simp at hr; omega
        go_wp2_with fail
        have HS2 : Hid (St (w1.alloc (Obj.cells #[Value.int IntKind.i64 (posF D.files n)] 3)) bd bs bc fv ps D.most D.fuse D.dark) := (HST.out.below HB.out).below ((Below.refl _ _).alloc (Nat.le_refl _) _)
        have hkp : posF D.files n < ps.length := by omega
        refine (do_56 HS2.out HOK.out.fuse w.heap.size w1.heap.size (w.heap.size + 1) (renF n m D.files) (fun wx fz hS hk => ?_)).mono ?_
        · refine (rename1 hS (by rw [HPS.out]; exact HOK.out.sorted) (by have := HOK.out.many; omega) w.heap.size w1.heap.size (w.heap.size + 1) (posF D.files n) hkp m (by omega) ?_ ?_ ?_).mono ?_
          · rw [hk _ (by omega), Below.heap_alloc _ _ _ (by omega)]; exact HX1.out
          · rw [hk _ (by omega)]; exact heap_alloc_new w1 _
          · rw [hk _ (by omega), Below.heap_alloc _ _ _ (by omega)]; exact HX2.out
          · rintro e w' ⟨rfl, hd⟩
            refine ⟨rfl, ?_⟩
            rw [HPS.out, ps_at HPS.out _ hkp hl] at hd
            unfold renF
            rw [hlook]
            exact hd
        · rintro e w2 hdone
          obtain ⟨x, rfl⟩ := hdone.int
          have HDN : Hid _ := hdone
          clear hdone
          go_wp2
          go_ret
          rw [HE.out]
          exact deed_done (renF n m) HPS.out HFF.out HOK.out (good_ren HOK.out.good n m hi) (HB.out.alloc HB.out.size _) HDN.out
end Go.Proofs.YtffgbjojngnebaaDoor
namespace Go.Proofs.YtffgbjojngnebaaDoor
open Go.RowKit

theorem below_drewN (w : World) (k B : Nat) : Below B w (w.drewN k) := ⟨rfl, rfl, rfl, Nat.le_refl _, fun _ _ => rfl⟩

set_option maxRecDepth 100000 in
set_option maxHeartbeats 2000000 in
theorem cut_any {w : World} {F : Nat → Prop} {d : Value} {D : AD} (h : Dk w F d D) (n : ByteArray) (m : Int) :
    Calls Tryd.prog 33 #[d, .string n, .int .i64 m] w fun e w' => Deed e w w' F d (cutD D n m) := by
  obtain ⟨bd, bs, bc, fv, ps, rfl, hst, hps, hF, hok⟩ := id h
  obtain ⟨T1, T2, T3, T4⟩ := two_new w (.cells #[.pointer (some ⟨bd, 0, none⟩)] 33) (.cells #[.int .i64 m] 3)
  have HDK : Hid _ := h
  have HST : Hid _ := hst
  have HOK : Hid _ := hok
  have HPS : Hid _ := hps
  have hmany := hok.many
  have hlen : ps.length = D.files.length := by rw [← hps, List.length_map]
  have HFI : Hid _ := find_any (w := (w.alloc (.cells #[.pointer (some ⟨bd, 0, none⟩)] 33)).alloc (.cells #[.int .i64 m] 3)) (hst.below T3) (by rw [hps]; exact hok.sorted) (by omega) n
  rw [hps] at HFI
  have HFF : Hid _ := hF
  have hltd := hst.ltd
  have hlts := hst.lts
  have HTN : Hid _ := And.intro T1 (And.intro T2 (And.intro T3 T4))
  clear h hst hok hps hF hmany T1 T2 T3 T4
  cases hdk : D.dark with
  | true =>
    have HE : Hid (cutD D n m = (D, 15)) := by unfold cutD; rw [if_pos hdk]; rfl
    rw [HE.out]
    simp only [hdk, ↓reduceIte] at HFI
    go_enter Tryd.func33, Tryd.ntmps33
    go_wp2_with fail
    refine Calls.mono HFI.out ?_
    rintro e w1 ⟨rfl, hb⟩
    have HB : Hid (Below w.heap.size w w1) := HTN.out.2.2.1.trans (hb.mono (by rw [HTN.out.2.2.2]; omega))
    clear hb
    go_wp2
    go_ret
    exact deed_none HDK.out rfl (HB.out.alloc HB.out.size _)
  | false =>
    cases hi : isF D.files n with
    | false =>
      have HE : Hid (cutD D n m = (D, 16)) := by unfold cutD; rw [if_neg (by rw [hdk]; simp), if_pos hi]; rfl
      rw [HE.out]
      simp only [hdk, hi, ↓reduceIte, Bool.false_eq_true] at HFI
      go_enter Tryd.func33, Tryd.ntmps33
      go_wp2_with fail
      refine Calls.mono HFI.out ?_
      rintro e w1 ⟨rfl, hb⟩
      have HB : Hid (Below w.heap.size w w1) := HTN.out.2.2.1.trans (hb.mono (by rw [HTN.out.2.2.2]; omega))
      clear hb
      go_wp2
      go_ret
      exact deed_none HDK.out rfl (HB.out.alloc HB.out.size _)
    | true =>
      obtain ⟨hl, hlook, hname⟩ := lookF_is hi
      simp only [hdk, hi, ↓reduceIte, Bool.false_eq_true] at HFI
      obtain ⟨r, HRD⟩ := named (cutD D n m)
      rw [← HRD.out]
      go_enter Tryd.func33, Tryd.ntmps33
      go_wp2_with fail
      refine Calls.mono HFI.out ?_
      rintro e w1 ⟨rfl, hb⟩
      rw [HTN.out.2.2.2] at hb
      have HB : Hid (Below w.heap.size w w1) := HTN.out.2.2.1.trans (hb.mono (by omega))
      have hz := HB.out.size
      have hx1 : w1.heap[w.heap.size]? = some (.cells #[.pointer (some ⟨bd, 0, none⟩)] 33 (0, 0)) := (hb.block _ (by omega)).trans HTN.out.1
      have hx2 : w1.heap[w.heap.size + 1]? = some (.cells #[.int .i64 m] 3 (0, 0)) := (hb.block _ (by omega)).trans HTN.out.2.1
      have c1 : w1.cell? ⟨w.heap.size, 0, none⟩ = some (.pointer (some ⟨bd, 0, none⟩)) := by rw [cell_of hx1]; rfl
      have c2 : w1.cell? ⟨w.heap.size + 1, 0, none⟩ = some (.int .i64 m) := by rw [cell_of hx2]; rfl
      have d1 := (HST.out.below HB.out).d0
      have HX1 : Hid _ := hx1
      have HX2 : Hid _ := hx2
      have hlx : w.heap.size + 1 < w1.heap.size := (Array.getElem?_eq_some_iff.1 hx2).1
      have hlx0 : w.heap.size < w1.heap.size := by omega
      have hltd1 : bd < w1.heap.size := by omega
      clear hb hx1 hx2
      have HSX : Hid (St (w1.alloc (Obj.cells #[Value.int IntKind.i64 (posF D.files n)] 3)) bd bs bc fv ps D.most D.fuse D.dark) := (HST.out.below HB.out).below ((Below.refl _ _).alloc (Nat.le_refl _) _)
      have hkp : posF D.files n < ps.length := by omega
      have hpa := ps_at HPS.out _ hkp hl
      rcases fr_of (HST.out.below HB.out).hf with ⟨_, hx⟩ | ⟨g, cap, hfv, hbl, hnc, hcm, hc⟩
      · rw [hx] at hkp; simp at hkp
      obtain ⟨q0, q1, q2⟩ := hc _ hkp
      obtain ⟨ao, cp, hsl, -⟩ := Own.rd (HST.out.hb _ (List.getElem_mem hkp))
      rw [hsl, hpa, ← hlook] at q1
      have s1 := (HST.out.below HB.out).s0
      have hlts1 : bs < w1.heap.size := by omega
      rw [hfv, hlen] at s1
      have hlkI : ((posF D.files n : Nat) : Int) < (D.files.length : Int) := by omega
      have HKP : Hid _ := hkp
      have HPA : Hid _ := hpa
      have HFV : Hid _ := hfv
      have HLU : Hid _ := look_used (fs := D.files) n
      obtain ⟨ll, HLL⟩ := named (lookF D.files n).bytes.length
      obtain ⟨k, HK⟩ := named (posF D.files n)
      rw [← HLL.out] at q1
      rw [← HK.out] at q1 hlkI ⊢
      obtain ⟨N, HNN⟩ := named D.files.length
      rw [← HNN.out] at s1 hlkI
      have HLO : Hid _ := hlook
      have HNA : Hid _ := hname
      clear hc q0 q2 hcm hnc hsl hpa hlen hlook hname
      have HSEL : Hid (r = if m < 0 ∨ (ll : Int) < m then (D, 2) else burn D (cutF n m.toNat)) := by
        rw [HRD.out]; unfold cutD; rw [if_neg (by rw [hdk]; simp), if_neg (by rw [hi]; simp), ← HLL.out]; rfl
      by_cases hm0 : m < 0
      · have HE : Hid (r = (D, 2)) := by rw [HSEL.out, if_pos (.inl hm0)]; rfl
        go_wp2_with fail
        go_quiet (fail)
        go_wp2
        go_ret
        rw [HE.out]
        exact deed_none HDK.out rfl ((HB.out.alloc HB.out.size _).trans (below_drewN _ _ _))
      · have hm0' : decide (m < 0) = false := by simpa using hm0
        by_cases hm1 : (ll : Int) < m
        · have HE : Hid (r = (D, 2)) := by rw [HSEL.out, if_pos (.inr hm1)]; rfl
          go_wp2_with fail
          go_quiet (fail)
          go_wp2
          go_ret
          rw [HE.out]
          exact deed_none HDK.out rfl ((HB.out.alloc HB.out.size _).trans (below_drewN _ _ _))
        · have hm1' : decide ((ll : Int) < m) = false := by simpa using hm1
          have HE : Hid (r = burn D (cutF n m.toNat)) := by rw [HSEL.out, if_neg (by omega)]; rfl
          go_wp2_with fail
          go_quiet (fail)
          go_wp2_with fail
          have HS2 : Hid (St ((w1.alloc (Obj.cells #[Value.int IntKind.i64 k] 3)).drewN nq) bd bs bc fv ps D.most D.fuse D.dark) := by
            rw [HK.out]
            exact HSX.out.heap fun _ _ => rfl
          obtain ⟨mn, hmn⟩ := Int.eq_ofNat_of_zero_le (a := m) (by omega)
          have hkp' : k < ps.length := by rw [HK.out]; exact HKP.out
          have hpk : ps[k].1 = lookF D.files n := by
            rw [HLO.out, ← HPA.out]
            simp only [HK.out]
          refine (do_58 HS2.out HOK.out.fuse w.heap.size w1.heap.size (w.heap.size + 1) (cutF n m.toNat D.files) (fun wx fz hS hk => ?_)).mono ?_
          · refine (cut1 hS w.heap.size w1.heap.size (w.heap.size + 1) k mn hkp' (by rw [hpk, ← HLL.out]; omega) (by rw [hpk]; have := HLU.out; have h1 := HOK.out.room; have h2 := HOK.out.most; omega) ?_ ?_ ?_).mono ?_
            · rw [hk _ (by omega)]; exact (Below.heap_alloc _ _ _ (by omega)).trans HX1.out
            · rw [hk _ (by omega)]; exact heap_alloc_new w1 _
            · rw [hk _ (by omega), ← hmn]; exact (Below.heap_alloc _ _ _ (by omega)).trans HX2.out
            · rintro e w' ⟨rfl, hd⟩
              refine ⟨rfl, ?_⟩
              rw [HPS.out, hpk] at hd
              unfold cutF
              rw [atF_put hi _ rfl, ← HK.out, show m.toNat = mn by omega, show (⟨n, (lookF D.files n).bytes.take mn, mn⟩ : AF) = ⟨(lookF D.files n).name, (lookF D.files n).bytes.take mn, mn⟩ by rw [HLO.out, HNA.out]]
              exact hd
          · rintro e w2 hdone
            obtain ⟨x, rfl⟩ := hdone.int
            have HDN : Hid _ := hdone
            clear hdone
            go_wp2
            go_ret
            rw [HE.out]
            exact deed_done (cutF n m.toNat) HPS.out HFF.out HOK.out (good_cut HOK.out.good n m.toNat hi (by rw [← HLL.out]; omega)) ((HB.out.alloc HB.out.size _).trans (below_drewN _ _ _)) HDN.out
end Go.Proofs.YtffgbjojngnebaaDoor
namespace Go.Proofs.YtffgbjojngnebaaDoor
open Go.RowKit

theorem three_new (w : World) (o p q : Obj) : (((w.alloc o).alloc p).alloc q).heap[w.heap.size]? = some o ∧ (((w.alloc o).alloc p).alloc q).heap[w.heap.size + 1]? = some p ∧ (((w.alloc o).alloc p).alloc q).heap[w.heap.size + 2]? = some q ∧ Below w.heap.size w (((w.alloc o).alloc p).alloc q) ∧ (((w.alloc o).alloc p).alloc q).heap.size = w.heap.size + 3 := by
  obtain ⟨h1, h2, h3, h4⟩ := two_new w o p
  refine ⟨?_, ?_, ?_, h3.alloc (by rw [h4]; omega) _, by simp⟩
  · rw [Below.heap_alloc _ _ _ (by rw [h4]; omega)]; exact h1
  · rw [Below.heap_alloc _ _ _ (by rw [h4]; omega)]; exact h2
  · have := heap_alloc_new ((w.alloc o).alloc p) q
    rw [h4] at this
    exact this
theorem bcell {W w1 : World} (hb : Below W.heap.size W w1) : (∀ b o, b < W.heap.size → w1.cell? ⟨b, o, none⟩ = W.cell? ⟨b, o, none⟩) ∧ (∀ b o, b < W.heap.size → w1.frozen? ⟨b, o, none⟩ = W.frozen? ⟨b, o, none⟩) :=
  ⟨fun b o h => hb.cell (p := ⟨b, o, none⟩) h, fun b o h => hb.frozen (p := ⟨b, o, none⟩) h⟩

theorem Rd.heap {w w' : World} {v : Value} {l : List UInt8} (h : Rd w v l) (hF : ∀ a, v.ownBlock = some a → l ≠ [] → w'.heap[a]? = w.heap[a]?) : Rd w' v l := by
  obtain ⟨ao, cap, hv, h1, h2, h3, h4⟩ := h
  refine ⟨ao, cap, hv, h1, h2, h3, fun a ha i hi => ?_⟩
  have hbk : (a.add i).block = a.block := by unfold Addr.add; split <;> rfl
  rw [World.cell?_of_block (w := w) (by rw [hbk]; exact hF _ (by rw [hv, ha]; rfl) (by intro e; subst e; simp at hi))]
  exact h4 a ha i hi
theorem ord_after {w3 w4 : World} (hB : Below w3.heap.size w3 w4) (o p : Obj) : ((w4.alloc o).alloc p).heap[w4.heap.size]? = some o ∧ ((w4.alloc o).alloc p).heap[w4.heap.size + 1]? = some p ∧ Below w3.heap.size w3 ((w4.alloc o).alloc p) ∧ w3.heap.size ≤ w4.heap.size := by
  obtain ⟨h1, h2, h3, h4⟩ := two_new w4 o p
  exact ⟨h1, h2, hB.trans (h3.mono hB.size), hB.size⟩
theorem ord_mid {w3 w4 : World} {u : Value} {e : TypeId} (v : Value) (p : Obj) (hb : Below ((w3.alloc (.cells #[u] e)).drew).heap.size (w3.alloc (.cells #[u] e)).drew w4) :
    ((w4.setCell ⟨w3.heap.size, 0, none⟩ v).alloc p).heap[w3.heap.size]? = some (.cells #[v] e (0, 0)) ∧ ((w4.setCell ⟨w3.heap.size, 0, none⟩ v).alloc p).heap[w4.heap.size]? = some p ∧ Below w3.heap.size w3 ((w4.setCell ⟨w3.heap.size, 0, none⟩ v).alloc p) ∧ w3.heap.size ≤ w4.heap.size := by
  have hz := hb.size
  simp only [World.size_alloc, World.size_drew] at hz
  have h0 : w4.heap[w3.heap.size]? = some (.cells #[u] e (0, 0)) := (hb.block _ (by simp only [World.size_alloc, World.size_drew]; omega)).trans (heap_alloc_new w3 _)
  have hs : (w4.setCell ⟨w3.heap.size, 0, none⟩ v).heap.size = w4.heap.size := by simp [World.setCell]
  have hB : Below w3.heap.size w3 w4 := (((Below.refl w3.heap.size w3).alloc (Nat.le_refl _) (.cells #[u] e)).drew).trans (hb.mono (by simp only [World.size_alloc, World.size_drew]; omega))
  refine ⟨?_, ?_, (hB.setCell (Nat.le_refl _) v).alloc (by rw [hs]; omega) p, by omega⟩
  · rw [Below.heap_alloc _ _ _ (by rw [hs]; omega), heap_set h0]; rfl
  · have := heap_alloc_new (w4.setCell ⟨w3.heap.size, 0, none⟩ v) p
    rw [hs] at this
    exact this
theorem ord_both {w3 w4 : World} {u u' : Value} {e e' : TypeId} (v v' : Value) (hb : Below (((w3.alloc (.cells #[u] e)).alloc (.cells #[u'] e')).drew).heap.size ((w3.alloc (.cells #[u] e)).alloc (.cells #[u'] e')).drew w4) :
    (((w4.setCell ⟨w3.heap.size, 0, none⟩ v).setCell ⟨w3.heap.size + 1, 0, none⟩ v').heap[w3.heap.size]? = some (.cells #[v] e (0, 0)) ∧ ((w4.setCell ⟨w3.heap.size, 0, none⟩ v).setCell ⟨w3.heap.size + 1, 0, none⟩ v').heap[w3.heap.size + 1]? = some (.cells #[v'] e' (0, 0)) ∧ Below w3.heap.size w3 ((w4.setCell ⟨w3.heap.size, 0, none⟩ v).setCell ⟨w3.heap.size + 1, 0, none⟩ v')) ∧
    (((w4.setCell ⟨w3.heap.size + 1, 0, none⟩ v').setCell ⟨w3.heap.size, 0, none⟩ v).heap[w3.heap.size]? = some (.cells #[v] e (0, 0)) ∧ ((w4.setCell ⟨w3.heap.size + 1, 0, none⟩ v').setCell ⟨w3.heap.size, 0, none⟩ v).heap[w3.heap.size + 1]? = some (.cells #[v'] e' (0, 0)) ∧ Below w3.heap.size w3 ((w4.setCell ⟨w3.heap.size + 1, 0, none⟩ v').setCell ⟨w3.heap.size, 0, none⟩ v)) := by
  obtain ⟨t1, t2, t3, t4⟩ := two_new w3 (.cells #[u] e) (.cells #[u'] e')
  have h0 : w4.heap[w3.heap.size]? = some (.cells #[u] e (0, 0)) := (hb.block _ (by simp only [World.size_alloc, World.size_drew]; omega)).trans t1
  have h1 : w4.heap[w3.heap.size + 1]? = some (.cells #[u'] e' (0, 0)) := (hb.block _ (by simp only [World.size_alloc, World.size_drew]; omega)).trans t2
  have hB : Below w3.heap.size w3 w4 := t3.drew.trans (hb.mono (by simp only [World.size_alloc, World.size_drew]; omega))
  refine ⟨⟨?_, ?_, (hB.setCell (Nat.le_refl _) v).setCell (by show w3.heap.size ≤ w3.heap.size + 1; omega) v'⟩, ⟨?_, ?_, (hB.setCell (by show w3.heap.size ≤ w3.heap.size + 1; omega) v').setCell (Nat.le_refl _) v⟩⟩
  · rw [Below.heap_setCell _ _ _ _ (by show w3.heap.size ≠ w3.heap.size + 1; omega), heap_set h0]; rfl
  · rw [heap_set ((Below.heap_setCell _ _ _ _ (by show w3.heap.size + 1 ≠ w3.heap.size; omega)).trans h1)]; rfl
  · rw [heap_set ((Below.heap_setCell _ _ _ _ (by show w3.heap.size ≠ w3.heap.size + 1; omega)).trans h0)]; rfl
  · rw [Below.heap_setCell _ _ _ _ (by show w3.heap.size + 1 ≠ w3.heap.size; omega), heap_set h1]; rfl

set_option maxRecDepth 100000 in
set_option maxHeartbeats 4000000 in
theorem append_any {w : World} {F : Nat → Prop} {d : Value} {D : AD} (h : Dk w F d D) (n : ByteArray) (hn : n.size ≤ 140737488355328) (sb : Value) (b : List UInt8) (hb : Rd w sb b) (hsb : ∀ a, sb.ownBlock = some a → b ≠ [] → ¬ F a) :
    Calls Tryd.prog 16 #[d, .string n, sb] w fun e w' => Deed e w w' F d (appendD D n b) := by
  obtain ⟨bd, bs, bc, fv, ps, rfl, hst, hps, hF, hok⟩ := id h
  obtain ⟨ao, cap, hsl, -⟩ := id hb
  obtain ⟨T1, T2, T3, T4, T5⟩ := three_new w (.cells #[.pointer (some ⟨bd, 0, none⟩)] 33) (.cells #[.string n] 9) (.cells #[sb] 22)
  obtain ⟨w3, HW3⟩ := named (((w.alloc (.cells #[.pointer (some ⟨bd, 0, none⟩)] 33)).alloc (.cells #[.string n] 9)).alloc (.cells #[sb] 22))
  rw [← HW3.out] at T1 T2 T3 T4 T5
  have HDK : Hid _ := h
  have HST : Hid _ := hst
  have HOK : Hid _ := hok
  have HPS : Hid _ := hps
  have HFF : Hid _ := hF
  have HRB : Hid _ := hb
  have HSB : Hid _ := hsb
  have HX1 : Hid _ := T1
  have HX2 : Hid _ := T2
  have HX3 : Hid _ := T3
  have HB3 : Hid _ := T4
  have hz3 : w.heap.size + 2 < w3.heap.size := by omega
  have hlen : ps.length = D.files.length := by rw [← hps, List.length_map]
  have hltd := hst.ltd
  have hlts := hst.lts
  have HS3 : Hid _ := hst.below T4
  have k1 : w3.cell? ⟨w.heap.size, 0, none⟩ = some (.pointer (some ⟨bd, 0, none⟩)) := by rw [cell_of T1]; rfl
  have k2 : w3.cell? ⟨w.heap.size + 1, 0, none⟩ = some (.string n) := by rw [cell_of T2]; rfl
  have k3 : w3.cell? ⟨w.heap.size + 1 + 1, 0, none⟩ = some sb := by rw [cell_of T3]; rfl
  have kd := (hst.below T4).d0
  have ks1 := (hst.below T4).s1
  have k4 := (hst.below T4).s4
  obtain ⟨r, HR⟩ := named (appendD D n b)
  rw [← HR.out]
  obtain ⟨bl, HBL⟩ := named b.length
  rw [← HBL.out] at hsl
  subst hsl
  clear h hst hok hps hF hb hsb T1 T2 T3 T4 T5
  go_enter Tryd.func16, Tryd.ntmps16
  go_upto_region 1 with fail
  rw [← HW3.out]
  go_wp2_with fail
  refine (fails_cell w3 bd bs D.dark kd k4).mono ?_
  rintro e w1 ⟨rfl, hw1⟩
  rw [hw1]
  clear hw1 w1
  cases hdk : D.dark with
  | true =>
    have HE : Hid (r = (D, 15)) := by rw [HR.out]; unfold appendD; rw [if_pos hdk]; rfl
    go_wp2
    go_ret
    rw [HE.out]
    exact deed_none HDK.out rfl HB3.out
  | false =>
    go_wp2_with fail
    refine (mayBe_any n _ hn).mono ?_
    rintro e w2 ⟨rfl, hw2⟩
    rw [hw2]
    clear hw2 w2
    cases hr : right n with
    | false =>
      have HE : Hid (r = (D, 16)) := by rw [HR.out]; unfold appendD; rw [if_neg (by rw [hdk]; simp), if_pos hr]; rfl
      go_wp2
      go_ret
      rw [HE.out]
      exact deed_none HDK.out rfl HB3.out
    | true =>
      have HRS : Hid (n.size ≤ 60) := by unfold right at hr; simp at hr; unfold Hid; omega
      go_upto_region 6 with fail
      have HSTW : Hid (∀ w', Below w3.heap.size w3 w' → St w' bd bs bc fv ps D.most D.fuse D.dark) := fun w' hb => HS3.out.below hb
      have HSW : Hid (∀ w', Below w3.heap.size w3 w' → w'.cell? ⟨w.heap.size, 0, none⟩ = some (.pointer (some ⟨bd, 0, none⟩)) ∧ w'.cell? ⟨w.heap.size + 1, 0, none⟩ = some (.string n) ∧ w'.cell? ⟨bd, 0, none⟩ = some (.pointer (some ⟨bs, 0, none⟩)) ∧ w'.cell? ⟨bs, 1, none⟩ = some (.func (.func 41) #[] #[.pointer (some ⟨bc, 0, none⟩)])) := fun w' hb =>
        ⟨(hb.cell (p := ⟨w.heap.size, 0, none⟩) (by show w.heap.size < _; omega)).trans k1, (hb.cell (p := ⟨w.heap.size + 1, 0, none⟩) (by show w.heap.size + 1 < _; omega)).trans k2, (hb.cell (p := ⟨bd, 0, none⟩) (by show bd < _; omega)).trans kd, (hb.cell (p := ⟨bs, 1, none⟩) (by show bs < _; omega)).trans ks1⟩
      have HPL : Hid (∀ w', Below w3.heap.size w3 w' → Calls Tryd.prog 41 #[.string n, .pointer (some ⟨bc, 0, none⟩)] w' fun e w'' => e = .returned (.tuple #[.int .i64 (posF D.files n), .bool (isF D.files n)]) ∧ Below w'.heap.size w' w'') := fun w' hb => by
        have := place_any (HSTW.out w' hb) (by rw [HPS.out]; exact HOK.out.sorted) (by have := HOK.out.many; omega) n
        rw [HPS.out] at this
        exact this
      obtain ⟨k, HK⟩ := named (posF D.files n)
      obtain ⟨th, HTH⟩ := named (isF D.files n)
      rw [← HK.out, ← HTH.out] at HPL
      go_cut [8, 9] from 18 to 29 (fun a8 a9 wx => ∃ cA cT, a8 = .pointer (some ⟨cA, 0, none⟩) ∧ a9 = .pointer (some ⟨cT, 0, none⟩) ∧ Hid (wx.heap[cA]? = some (.cells #[.int .i64 k] 3 (0, 0))) ∧ Hid (wx.heap[cT]? = some (.cells #[.bool th] 4 (0, 0))) ∧ Hid (Below w3.heap.size w3 wx) ∧ Hid (w3.heap.size ≤ cA ∧ w3.heap.size ≤ cT))
      case first =>
        go_region_held3 (fun w' => w'.cell? ⟨w.heap.size, 0, none⟩ = some (.pointer (some ⟨bd, 0, none⟩)) ∧ w'.cell? ⟨w.heap.size + 1, 0, none⟩ = some (.string n) ∧ w'.cell? ⟨bd, 0, none⟩ = some (.pointer (some ⟨bs, 0, none⟩)) ∧ w'.cell? ⟨bs, 1, none⟩ = some (.func (.func 41) #[] #[.pointer (some ⟨bc, 0, none⟩)])) (exact HSW.out _ (by go_grown))
          (first | (go_at_call 41; refine Calls.mono (HPL.out _ (by go_grown)) ?_; rintro e w4 ⟨rfl, hb4⟩; have hB4 : Below w3.heap.size w3 w4 := Below.trans (by go_grown) (hb4.mono (by simp only [World.size_alloc, World.size_drew]; omega)); have hzz4 : w3.heap.size ≤ w4.heap.size := hB4.size; obtain ⟨hc4, hf4⟩ := bcell hb4; have hz4 := hb4.size; simp only [World.size_alloc, World.size_drew] at hz4 hc4 hf4; (try (have hlt4 : w3.heap.size < w4.heap.size := hz4)); (try (have hlt5 : w3.heap.size + 1 < w4.heap.size := hz4)); (try (have hlt6 : w3.heap.size < w4.heap.size := Nat.lt_of_succ_lt hz4)); have HB4 : Hid _ := hb4; clear hb4))
        all_goals
          go_wp2_with fail
          go_meet
          first
            | exact ⟨_, _, rfl, rfl, (ord_after hB4 _ _).1, (ord_after hB4 _ _).2.1, (ord_after hB4 _ _).2.2.1, (ord_after hB4 (.cells #[] 0) (.cells #[] 0)).2.2.2, Nat.le_succ_of_le (ord_after hB4 (.cells #[] 0) (.cells #[] 0)).2.2.2⟩
            | exact ⟨_, _, rfl, rfl, (ord_after hB4 _ _).2.1, (ord_after hB4 _ _).1, (ord_after hB4 _ _).2.2.1, Nat.le_succ_of_le (ord_after hB4 (.cells #[] 0) (.cells #[] 0)).2.2.2, (ord_after hB4 (.cells #[] 0) (.cells #[] 0)).2.2.2⟩
            | exact ⟨_, _, rfl, rfl, (ord_mid _ _ HB4.out).1, (ord_mid _ _ HB4.out).2.1, (ord_mid _ _ HB4.out).2.2.1, Nat.le_refl _, hB4.size⟩
            | exact ⟨_, _, rfl, rfl, (ord_mid _ _ HB4.out).2.1, (ord_mid _ _ HB4.out).1, (ord_mid _ _ HB4.out).2.2.1, hB4.size, Nat.le_refl _⟩
            | exact ⟨_, _, rfl, rfl, (ord_both _ _ HB4.out).1.1, (ord_both _ _ HB4.out).1.2.1, (ord_both _ _ HB4.out).1.2.2, Nat.le_refl _, Nat.le_succ _⟩
            | exact ⟨_, _, rfl, rfl, (ord_both _ _ HB4.out).2.2.1, (ord_both _ _ HB4.out).2.1, (ord_both _ _ HB4.out).2.2.2, Nat.le_succ _, Nat.le_refl _⟩
      case rest =>
        obtain ⟨cA, cT, rfl, rfl, HA, HT, HB, HG⟩ := hcut
        obtain ⟨wa, HWa⟩ : ∃ wa, wa = wc := ⟨_, rfl⟩
        subst HWa
        have HB5 : Hid (Below w.heap.size w wa) := HB3.out.trans (HB.out.mono HB3.out.size)
        have HS5 : Hid _ := HS3.out.below HB.out
        have HUS : Hid (Calls Tryd.prog 29 #[.pointer (some ⟨bd, 0, none⟩)] wa.drew fun e w' => e = .returned (.int .i64 (used D.files)) ∧ Below wa.heap.size wa w') := by
          have hu := used_st (w := wa.drew) (HS5.out.heap fun _ _ => rfl) (by have := HOK.out.many; omega) (by rw [HPS.out]; have h1 := HOK.out.room; have h2 := HOK.out.most; omega)
          rw [HPS.out] at hu
          exact hu.mono fun e w' h => ⟨h.1, ⟨h.2.os, h.2.tape, h.2.output, h.2.size, h.2.block⟩⟩
        have c7T : wa.cell? ⟨cT, 0, none⟩ = some (.bool th) := by rw [cell_of HT.out]; rfl
        have hl7T : cT < wa.heap.size := (Array.getElem?_eq_some_iff.1 HT.out).1
        have hzc := HB.out.size
        have c7B := (HB.out.cell (p := ⟨w.heap.size + 1 + 1, 0, none⟩) (by show w.heap.size + 1 + 1 < _; omega)).trans k3
        have c7D := (HB.out.cell (p := ⟨w.heap.size, 0, none⟩) (by show w.heap.size < _; omega)).trans k1
        have c7d := HS5.out.d0
        have c7m := HS5.out.s2
        have c7f := HS5.out.s0
        obtain ⟨fo, fc, hfo⟩ : ∃ fo fc, fv = .slice fo D.files.length fc := by
          rcases HST.out.hf.2 with ⟨h1, h2⟩ | ⟨g, c, cur, h1, _⟩
          · exact ⟨none, 0, by rw [h1, ← hlen, h2]⟩
          · exact ⟨_, _, by rw [h1, hlen]⟩
        have HFV : Hid _ := hfo
        rw [hfo] at c7f
        have hmost := HOK.out.most
        have hroom := HOK.out.room
        have hmanyN := HOK.out.many
        have HFU : Hid (r = if D.most < used D.files + bl ∨ th = false ∧ D.files.length = 200 then (D, 5) else burn D (appF n b)) := by
          rw [HR.out]; unfold appendD; rw [if_neg (by rw [hdk]; simp), if_neg (by rw [hr]; simp), ← HBL.out, ← HTH.out]; rfl
        obtain ⟨us, HUSD⟩ := named (used D.files)
        obtain ⟨most, HMO⟩ := named D.most
        obtain ⟨N, HN⟩ := named D.files.length
        rw [← HUSD.out] at HUS HFU hroom
        rw [← HMO.out] at c7m HFU hroom hmost
        rw [← HN.out] at c7f HFU hmanyN
        have hs0 : (fun w' => w'.cell? ⟨w.heap.size + 1 + 1, 0, none⟩ = some (.slice ao bl cap) ∧ w'.cell? ⟨w.heap.size, 0, none⟩ = some (.pointer (some ⟨bd, 0, none⟩)) ∧ w'.cell? ⟨bd, 0, none⟩ = some (.pointer (some ⟨bs, 0, none⟩)) ∧ w'.cell? ⟨bs, 2, none⟩ = some (.int .i64 most) ∧ w'.cell? ⟨bs, 0, none⟩ = some (.slice fo N fc) ∧ w'.cell? ⟨cT, 0, none⟩ = some (.bool th)) wa.drew := ⟨c7B, c7D, c7d, c7m, c7f, c7T⟩
        have HSW7 : Hid (∀ w', Below wa.heap.size wa w' → (fun w' => w'.cell? ⟨w.heap.size + 1 + 1, 0, none⟩ = some (.slice ao bl cap) ∧ w'.cell? ⟨w.heap.size, 0, none⟩ = some (.pointer (some ⟨bd, 0, none⟩)) ∧ w'.cell? ⟨bd, 0, none⟩ = some (.pointer (some ⟨bs, 0, none⟩)) ∧ w'.cell? ⟨bs, 2, none⟩ = some (.int .i64 most) ∧ w'.cell? ⟨bs, 0, none⟩ = some (.slice fo N fc) ∧ w'.cell? ⟨cT, 0, none⟩ = some (.bool th)) w') := fun w' hb =>
          ⟨(hb.cell (p := ⟨w.heap.size + 1 + 1, 0, none⟩) (by show w.heap.size + 1 + 1 < _; omega)).trans c7B, (hb.cell (p := ⟨w.heap.size, 0, none⟩) (by show w.heap.size < _; omega)).trans c7D, (hb.cell (p := ⟨bd, 0, none⟩) (by show bd < _; omega)).trans c7d, (hb.cell (p := ⟨bs, 2, none⟩) (by show bs < _; omega)).trans c7m, (hb.cell (p := ⟨bs, 0, none⟩) (by show bs < _; omega)).trans c7f, (hb.cell (p := ⟨cT, 0, none⟩) hl7T).trans c7T⟩
        have hsub : IntKind.i64.wrap ((most : Int) - (us : Int)) = (most : Int) - (us : Int) := by rw [IntKind.wrap_i64]; omega
        obtain ⟨fu, HFU2⟩ := named (decide (most < us + bl ∨ th = false ∧ N = 200))
        go_upto_region 7 with fail
        go_cut [57] from 30 to 56 (fun c wx => c = .bool fu ∧ Hid (Below wa.heap.size wa wx))
        case first =>
          by_cases q1 : (most : Int) - (us : Int) < (bl : Int)
          · have HFT : Hid (fu = true) := by rw [HFU2.out]; unfold Hid; simp; omega
            refine wp_region_noPanic ?_
            refine wp_region_held_drew (S := (fun w' => w'.cell? ⟨w.heap.size + 1 + 1, 0, none⟩ = some (.slice ao bl cap) ∧ w'.cell? ⟨w.heap.size, 0, none⟩ = some (.pointer (some ⟨bd, 0, none⟩)) ∧ w'.cell? ⟨bd, 0, none⟩ = some (.pointer (some ⟨bs, 0, none⟩)) ∧ w'.cell? ⟨bs, 2, none⟩ = some (.int .i64 most) ∧ w'.cell? ⟨bs, 0, none⟩ = some (.slice fo N fc) ∧ w'.cell? ⟨cT, 0, none⟩ = some (.bool th))) (by kernel_rfl) hs0 (fun _ => ?_)
            refine wpAnyH_take (i := 0) (oi := { dst := some 30, op := Go.Op.load 22 (Go.Operand.tmp 5), type := 22, pos := "disk.go:54", after := #[], guard := none }) (v := ?_) rfl (by kernel_rfl) (by kernel_rfl) (by kernel_rfl) (fun _ _ _ h => h) (Or.inl ⟨by rfl, ?_⟩) hs0 ?_
            rotate_left
            · intro u hu
              obtain ⟨u1, u2, u3, u4, u5, u6⟩ := hu
              go_simp
              try with_reducible rfl
            simp only [Act.put, List.setIfInBounds_toArray, List.set_cons_zero, List.set_cons_succ]
            refine wpAnyH_take (i := 1) (oi := { dst := some 31, op := Go.Op.call { callee := Go.Callee.builtin Go.Builtin.len, args := #[Go.Operand.tmp 30], argTypes := #[22] }, type := 3, pos := "disk.go:54", after := #[{ on := 0, ground := Go.Ground.data }], guard := none }) (v := ?_) rfl (by kernel_rfl) (by kernel_rfl) (by kernel_rfl) (fun _ _ _ h => h) (Or.inl ⟨by rfl, ?_⟩) hs0 ?_
            rotate_left
            · intro u hu
              obtain ⟨u1, u2, u3, u4, u5, u6⟩ := hu
              go_simp
              try with_reducible rfl
            simp only [Act.put, List.setIfInBounds_toArray, List.set_cons_zero, List.set_cons_succ]
            refine wpAnyH_take (i := 2) (oi := { dst := some 32, op := Go.Op.load 33 (Go.Operand.tmp 3), type := 33, pos := "disk.go:54", after := #[], guard := none }) (v := ?_) rfl (by kernel_rfl) (by kernel_rfl) (by kernel_rfl) (fun _ _ _ h => h) (Or.inl ⟨by rfl, ?_⟩) hs0 ?_
            rotate_left
            · intro u hu
              obtain ⟨u1, u2, u3, u4, u5, u6⟩ := hu
              go_simp
              try with_reducible rfl
            simp only [Act.put, List.setIfInBounds_toArray, List.set_cons_zero, List.set_cons_succ]
            refine wpAnyH_take (i := 3) (oi := { dst := some 33, op := Go.Op.nilCheck (Go.Operand.tmp 32), type := 0, pos := "disk.go:54", after := #[{ on := 2, ground := Go.Ground.data }], guard := none }) (v := ?_) rfl (by kernel_rfl) (by kernel_rfl) (by kernel_rfl) (fun _ _ _ h => h) (Or.inl ⟨by rfl, ?_⟩) hs0 ?_
            rotate_left
            · intro u hu
              obtain ⟨u1, u2, u3, u4, u5, u6⟩ := hu
              go_simp
              try with_reducible rfl
            simp only [Act.put, List.setIfInBounds_toArray, List.set_cons_zero, List.set_cons_succ]
            refine wpAnyH_take (i := 4) (oi := { dst := some 34, op := Go.Op.fieldAddr 49 (Go.Operand.tmp 33) 0, type := 0, pos := "disk.go:54", after := #[{ on := 3, ground := Go.Ground.data }], guard := none }) (v := ?_) rfl (by kernel_rfl) (by kernel_rfl) (by kernel_rfl) (fun _ _ _ h => h) (Or.inl ⟨by rfl, ?_⟩) hs0 ?_
            rotate_left
            · intro u hu
              obtain ⟨u1, u2, u3, u4, u5, u6⟩ := hu
              go_simp
              try with_reducible rfl
            simp only [Act.put, List.setIfInBounds_toArray, List.set_cons_zero, List.set_cons_succ]
            refine wpAnyH_take (i := 5) (oi := { dst := some 35, op := Go.Op.load 47 (Go.Operand.tmp 34), type := 47, pos := "disk.go:54", after := #[{ on := 4, ground := Go.Ground.data }], guard := none }) (v := ?_) rfl (by kernel_rfl) (by kernel_rfl) (by kernel_rfl) (fun _ _ _ h => h) (Or.inl ⟨by rfl, ?_⟩) hs0 ?_
            rotate_left
            · intro u hu
              obtain ⟨u1, u2, u3, u4, u5, u6⟩ := hu
              go_simp
              try with_reducible rfl
            simp only [Act.put, List.setIfInBounds_toArray, List.set_cons_zero, List.set_cons_succ]
            refine wpAnyH_take (i := 6) (oi := { dst := some 36, op := Go.Op.nilCheck (Go.Operand.tmp 35), type := 0, pos := "disk.go:54", after := #[{ on := 5, ground := Go.Ground.data }], guard := none }) (v := ?_) rfl (by kernel_rfl) (by kernel_rfl) (by kernel_rfl) (fun _ _ _ h => h) (Or.inl ⟨by rfl, ?_⟩) hs0 ?_
            rotate_left
            · intro u hu
              obtain ⟨u1, u2, u3, u4, u5, u6⟩ := hu
              go_simp
              try with_reducible rfl
            simp only [Act.put, List.setIfInBounds_toArray, List.set_cons_zero, List.set_cons_succ]
            refine wpAnyH_take (i := 7) (oi := { dst := some 37, op := Go.Op.fieldAddr 80 (Go.Operand.tmp 36) 2, type := 0, pos := "disk.go:54", after := #[{ on := 6, ground := Go.Ground.data }], guard := none }) (v := ?_) rfl (by kernel_rfl) (by kernel_rfl) (by kernel_rfl) (fun _ _ _ h => h) (Or.inl ⟨by rfl, ?_⟩) hs0 ?_
            rotate_left
            · intro u hu
              obtain ⟨u1, u2, u3, u4, u5, u6⟩ := hu
              go_simp
              try with_reducible rfl
            simp only [Act.put, List.setIfInBounds_toArray, List.set_cons_zero, List.set_cons_succ]
            refine wpAnyH_take (i := 8) (oi := { dst := some 38, op := Go.Op.load 3 (Go.Operand.tmp 37), type := 3, pos := "disk.go:54", after := #[{ on := 7, ground := Go.Ground.data }], guard := none }) (v := ?_) rfl (by kernel_rfl) (by kernel_rfl) (by kernel_rfl) (fun _ _ _ h => h) (Or.inl ⟨by rfl, ?_⟩) hs0 ?_
            rotate_left
            · intro u hu
              obtain ⟨u1, u2, u3, u4, u5, u6⟩ := hu
              go_simp
              try with_reducible rfl
            simp only [Act.put, List.setIfInBounds_toArray, List.set_cons_zero, List.set_cons_succ]
            refine wpAnyH_take (i := 9) (oi := { dst := some 39, op := Go.Op.load 33 (Go.Operand.tmp 3), type := 33, pos := "disk.go:54", after := #[], guard := none }) (v := ?_) rfl (by kernel_rfl) (by kernel_rfl) (by kernel_rfl) (fun _ _ _ h => h) (Or.inl ⟨by rfl, ?_⟩) hs0 ?_
            rotate_left
            · intro u hu
              obtain ⟨u1, u2, u3, u4, u5, u6⟩ := hu
              go_simp
              try with_reducible rfl
            simp only [Act.put, List.setIfInBounds_toArray, List.set_cons_zero, List.set_cons_succ]
            refine wpAnyH_ready (rs := [10]) (by kernel_rfl) (by simp) ?_
            refine AllReadyH.cons (o := { dst := some 40, op := Go.Op.call { callee := Go.Callee.value (Go.Operand.func 29), args := #[Go.Operand.tmp 39], argTypes := #[33] }, type := 3, pos := "disk.go:54", after := #[{ on := 9, ground := Go.Ground.data }], guard := none }) rfl (fun K hK => ?_) AllReadyH.nil
            go_simp
            refine Calls.mono HUS.out ?_
            rintro e w5 ⟨rfl, hb5⟩
            have hs1 := HSW7.out w5 hb5
            refine hK.out _ _ hs1 (fun _ => ?_)
            clear hK K
            try simp only [Act.put, List.setIfInBounds_toArray, List.set_cons_zero, List.set_cons_succ]
            refine wpAnyH_take (i := 11) (oi := { dst := some 41, op := Go.Op.binOp Go.BinOp.sub 3 (Go.Operand.tmp 38) (Go.Operand.tmp 40) 3, type := 3, pos := "disk.go:54", after := #[{ on := 8, ground := Go.Ground.data }, { on := 10, ground := Go.Ground.data }], guard := none }) (v := ?_) rfl (by kernel_rfl) (by kernel_rfl) (by kernel_rfl) (fun _ _ _ h => h) (Or.inl ⟨by rfl, ?_⟩) hs1 ?_
            rotate_left
            · intro u hu
              obtain ⟨u1, u2, u3, u4, u5, u6⟩ := hu
              go_simp
              try with_reducible rfl
            simp only [Act.put, List.setIfInBounds_toArray, List.set_cons_zero, List.set_cons_succ]
            refine wpAnyH_take (i := 12) (oi := { dst := some 42, op := Go.Op.binOp Go.BinOp.gtr 3 (Go.Operand.tmp 31) (Go.Operand.tmp 41) 3, type := 4, pos := "disk.go:54", after := #[{ on := 1, ground := Go.Ground.data }, { on := 11, ground := Go.Ground.data }], guard := none }) (v := ?_) rfl (by kernel_rfl) (by kernel_rfl) (by kernel_rfl) (fun _ _ _ h => h) (Or.inl ⟨by rfl, ?_⟩) hs1 ?_
            rotate_left
            · intro u hu
              obtain ⟨u1, u2, u3, u4, u5, u6⟩ := hu
              go_simp
              try with_reducible rfl
            simp only [Act.put, List.setIfInBounds_toArray, List.set_cons_zero, List.set_cons_succ]
            refine wpAnyH_take (i := 13) (oi := { dst := some 43, op := Go.Op.move (Go.Operand.tmp 42), type := 4, pos := "disk.go:54", after := #[{ on := 12, ground := Go.Ground.data }, { on := 10, ground := Go.Ground.chain }], guard := none }) (v := ?_) rfl (by kernel_rfl) (by kernel_rfl) (by kernel_rfl) (fun _ _ _ h => h) (Or.inl ⟨by rfl, ?_⟩) hs1 ?_
            rotate_left
            · intro u hu
              obtain ⟨u1, u2, u3, u4, u5, u6⟩ := hu
              go_simp
              try with_reducible rfl
            simp only [Act.put, List.setIfInBounds_toArray, List.set_cons_zero, List.set_cons_succ]
            refine wpAnyH_take (i := 14) (oi := { dst := some 44, op := Go.Op.load 4 (Go.Operand.tmp 9), type := 4, pos := "disk.go:54", after := #[{ on := 13, ground := Go.Ground.guard }], guard := some (13, false) }) (v := undef) rfl (by kernel_rfl) (by kernel_rfl) (by kernel_rfl) (fun _ _ _ h => h) (Or.inr ⟨by rfl, rfl⟩) hs1 ?_
            simp only [Act.put, List.setIfInBounds_toArray, List.set_cons_zero, List.set_cons_succ]
            refine wpAnyH_take (i := 15) (oi := { dst := some 45, op := Go.Op.unOp Go.UnOp.not 4 (Go.Operand.tmp 44), type := 4, pos := "disk.go:54", after := #[{ on := 14, ground := Go.Ground.data }, { on := 13, ground := Go.Ground.guard }], guard := some (13, false) }) (v := undef) rfl (by kernel_rfl) (by kernel_rfl) (by kernel_rfl) (fun _ _ _ h => h) (Or.inr ⟨by rfl, rfl⟩) hs1 ?_
            simp only [Act.put, List.setIfInBounds_toArray, List.set_cons_zero, List.set_cons_succ]
            refine wpAnyH_take (i := 16) (oi := { dst := some 46, op := Go.Op.move (Go.Operand.tmp 45), type := 4, pos := "disk.go:54", after := #[{ on := 15, ground := Go.Ground.data }, { on := 13, ground := Go.Ground.chain }, { on := 13, ground := Go.Ground.guard }], guard := some (13, false) }) (v := undef) rfl (by kernel_rfl) (by kernel_rfl) (by kernel_rfl) (fun _ _ _ h => h) (Or.inr ⟨by rfl, rfl⟩) hs1 ?_
            simp only [Act.put, List.setIfInBounds_toArray, List.set_cons_zero, List.set_cons_succ]
            refine wpAnyH_take (i := 17) (oi := { dst := some 47, op := Go.Op.load 33 (Go.Operand.tmp 3), type := 33, pos := "disk.go:54", after := #[{ on := 16, ground := Go.Ground.guard }], guard := some (16, true) }) (v := undef) rfl (by kernel_rfl) (by kernel_rfl) (by kernel_rfl) (fun _ _ _ h => h) (Or.inr ⟨by rfl, rfl⟩) hs1 ?_
            simp only [Act.put, List.setIfInBounds_toArray, List.set_cons_zero, List.set_cons_succ]
            refine wpAnyH_take (i := 18) (oi := { dst := some 48, op := Go.Op.nilCheck (Go.Operand.tmp 47), type := 0, pos := "disk.go:54", after := #[{ on := 17, ground := Go.Ground.data }, { on := 16, ground := Go.Ground.guard }], guard := some (16, true) }) (v := undef) rfl (by kernel_rfl) (by kernel_rfl) (by kernel_rfl) (fun _ _ _ h => h) (Or.inr ⟨by rfl, rfl⟩) hs1 ?_
            simp only [Act.put, List.setIfInBounds_toArray, List.set_cons_zero, List.set_cons_succ]
            refine wpAnyH_take (i := 19) (oi := { dst := some 49, op := Go.Op.fieldAddr 49 (Go.Operand.tmp 48) 0, type := 0, pos := "disk.go:54", after := #[{ on := 18, ground := Go.Ground.data }, { on := 16, ground := Go.Ground.guard }], guard := some (16, true) }) (v := undef) rfl (by kernel_rfl) (by kernel_rfl) (by kernel_rfl) (fun _ _ _ h => h) (Or.inr ⟨by rfl, rfl⟩) hs1 ?_
            simp only [Act.put, List.setIfInBounds_toArray, List.set_cons_zero, List.set_cons_succ]
            refine wpAnyH_take (i := 20) (oi := { dst := some 50, op := Go.Op.load 47 (Go.Operand.tmp 49), type := 47, pos := "disk.go:54", after := #[{ on := 19, ground := Go.Ground.data }, { on := 16, ground := Go.Ground.guard }], guard := some (16, true) }) (v := undef) rfl (by kernel_rfl) (by kernel_rfl) (by kernel_rfl) (fun _ _ _ h => h) (Or.inr ⟨by rfl, rfl⟩) hs1 ?_
            simp only [Act.put, List.setIfInBounds_toArray, List.set_cons_zero, List.set_cons_succ]
            refine wpAnyH_take (i := 21) (oi := { dst := some 51, op := Go.Op.nilCheck (Go.Operand.tmp 50), type := 0, pos := "disk.go:54", after := #[{ on := 20, ground := Go.Ground.data }, { on := 16, ground := Go.Ground.guard }], guard := some (16, true) }) (v := undef) rfl (by kernel_rfl) (by kernel_rfl) (by kernel_rfl) (fun _ _ _ h => h) (Or.inr ⟨by rfl, rfl⟩) hs1 ?_
            simp only [Act.put, List.setIfInBounds_toArray, List.set_cons_zero, List.set_cons_succ]
            refine wpAnyH_take (i := 22) (oi := { dst := some 52, op := Go.Op.fieldAddr 80 (Go.Operand.tmp 51) 0, type := 0, pos := "disk.go:54", after := #[{ on := 21, ground := Go.Ground.data }, { on := 16, ground := Go.Ground.guard }], guard := some (16, true) }) (v := undef) rfl (by kernel_rfl) (by kernel_rfl) (by kernel_rfl) (fun _ _ _ h => h) (Or.inr ⟨by rfl, rfl⟩) hs1 ?_
            simp only [Act.put, List.setIfInBounds_toArray, List.set_cons_zero, List.set_cons_succ]
            refine wpAnyH_take (i := 23) (oi := { dst := some 53, op := Go.Op.load 77 (Go.Operand.tmp 52), type := 77, pos := "disk.go:54", after := #[{ on := 22, ground := Go.Ground.data }, { on := 16, ground := Go.Ground.guard }], guard := some (16, true) }) (v := undef) rfl (by kernel_rfl) (by kernel_rfl) (by kernel_rfl) (fun _ _ _ h => h) (Or.inr ⟨by rfl, rfl⟩) hs1 ?_
            simp only [Act.put, List.setIfInBounds_toArray, List.set_cons_zero, List.set_cons_succ]
            refine wpAnyH_take (i := 24) (oi := { dst := some 54, op := Go.Op.call { callee := Go.Callee.builtin Go.Builtin.len, args := #[Go.Operand.tmp 53], argTypes := #[77] }, type := 3, pos := "disk.go:54", after := #[{ on := 23, ground := Go.Ground.data }, { on := 16, ground := Go.Ground.guard }], guard := some (16, true) }) (v := undef) rfl (by kernel_rfl) (by kernel_rfl) (by kernel_rfl) (fun _ _ _ h => h) (Or.inr ⟨by rfl, rfl⟩) hs1 ?_
            simp only [Act.put, List.setIfInBounds_toArray, List.set_cons_zero, List.set_cons_succ]
            refine wpAnyH_take (i := 25) (oi := { dst := some 55, op := Go.Op.binOp Go.BinOp.eql 3 (Go.Operand.tmp 54) (Go.Operand.const (Go.Value.int Go.IntKind.i64 200)) 3, type := 4, pos := "disk.go:54", after := #[{ on := 24, ground := Go.Ground.data }, { on := 16, ground := Go.Ground.guard }], guard := some (16, true) }) (v := undef) rfl (by kernel_rfl) (by kernel_rfl) (by kernel_rfl) (fun _ _ _ h => h) (Or.inr ⟨by rfl, rfl⟩) hs1 ?_
            simp only [Act.put, List.setIfInBounds_toArray, List.set_cons_zero, List.set_cons_succ]
            refine wpAnyH_take (i := 26) (oi := { dst := some 56, op := Go.Op.pick (Go.Operand.tmp 46) (Go.Operand.tmp 55) (Go.Operand.const (Go.Value.bool false)), type := 4, pos := "disk.go:54", after := #[{ on := 16, ground := Go.Ground.data }, { on := 25, ground := Go.Ground.data }, { on := 13, ground := Go.Ground.guard }], guard := some (13, false) }) (v := undef) rfl (by kernel_rfl) (by kernel_rfl) (by kernel_rfl) (fun _ _ _ h => h) (Or.inr ⟨by rfl, rfl⟩) hs1 ?_
            simp only [Act.put, List.setIfInBounds_toArray, List.set_cons_zero, List.set_cons_succ]
            refine wpAnyH_take (i := 27) (oi := { dst := some 57, op := Go.Op.pick (Go.Operand.tmp 43) (Go.Operand.const (Go.Value.bool true)) (Go.Operand.tmp 56), type := 4, pos := "disk.go:54", after := #[{ on := 13, ground := Go.Ground.data }, { on := 26, ground := Go.Ground.data }], guard := none }) (v := ?_) rfl (by kernel_rfl) (by kernel_rfl) (by kernel_rfl) (fun _ _ _ h => h) (Or.inl ⟨by rfl, ?_⟩) hs1 ?_
            rotate_left
            · intro u hu
              obtain ⟨u1, u2, u3, u4, u5, u6⟩ := hu
              go_simp
              try with_reducible rfl
            simp only [Act.put, List.setIfInBounds_toArray, List.set_cons_zero, List.set_cons_succ]
            refine wpAnyH_done (by kernel_rfl) ?_ _
            refine NoPanic.normal ?_
            go_wp2_with fail
            go_meet
            exact ⟨by rw [HFT.out], hb5⟩
          · have q1' : decide ((most : Int) - (us : Int) < (bl : Int)) = false := by simpa using q1
            cases th with
            | true =>
              have HFT : Hid (fu = false) := by rw [HFU2.out]; unfold Hid; simp; omega
              refine wp_region_noPanic ?_
              refine wp_region_held_drew (S := (fun w' => w'.cell? ⟨w.heap.size + 1 + 1, 0, none⟩ = some (.slice ao bl cap) ∧ w'.cell? ⟨w.heap.size, 0, none⟩ = some (.pointer (some ⟨bd, 0, none⟩)) ∧ w'.cell? ⟨bd, 0, none⟩ = some (.pointer (some ⟨bs, 0, none⟩)) ∧ w'.cell? ⟨bs, 2, none⟩ = some (.int .i64 most) ∧ w'.cell? ⟨bs, 0, none⟩ = some (.slice fo N fc) ∧ w'.cell? ⟨cT, 0, none⟩ = some (.bool true))) (by kernel_rfl) hs0 (fun _ => ?_)
              refine wpAnyH_take (i := 0) (oi := { dst := some 30, op := Go.Op.load 22 (Go.Operand.tmp 5), type := 22, pos := "disk.go:54", after := #[], guard := none }) (v := ?_) rfl (by kernel_rfl) (by kernel_rfl) (by kernel_rfl) (fun _ _ _ h => h) (Or.inl ⟨by rfl, ?_⟩) hs0 ?_
              rotate_left
              · intro u hu
                obtain ⟨u1, u2, u3, u4, u5, u6⟩ := hu
                go_simp
                try with_reducible rfl
              simp only [Act.put, List.setIfInBounds_toArray, List.set_cons_zero, List.set_cons_succ]
              refine wpAnyH_take (i := 1) (oi := { dst := some 31, op := Go.Op.call { callee := Go.Callee.builtin Go.Builtin.len, args := #[Go.Operand.tmp 30], argTypes := #[22] }, type := 3, pos := "disk.go:54", after := #[{ on := 0, ground := Go.Ground.data }], guard := none }) (v := ?_) rfl (by kernel_rfl) (by kernel_rfl) (by kernel_rfl) (fun _ _ _ h => h) (Or.inl ⟨by rfl, ?_⟩) hs0 ?_
              rotate_left
              · intro u hu
                obtain ⟨u1, u2, u3, u4, u5, u6⟩ := hu
                go_simp
                try with_reducible rfl
              simp only [Act.put, List.setIfInBounds_toArray, List.set_cons_zero, List.set_cons_succ]
              refine wpAnyH_take (i := 2) (oi := { dst := some 32, op := Go.Op.load 33 (Go.Operand.tmp 3), type := 33, pos := "disk.go:54", after := #[], guard := none }) (v := ?_) rfl (by kernel_rfl) (by kernel_rfl) (by kernel_rfl) (fun _ _ _ h => h) (Or.inl ⟨by rfl, ?_⟩) hs0 ?_
              rotate_left
              · intro u hu
                obtain ⟨u1, u2, u3, u4, u5, u6⟩ := hu
                go_simp
                try with_reducible rfl
              simp only [Act.put, List.setIfInBounds_toArray, List.set_cons_zero, List.set_cons_succ]
              refine wpAnyH_take (i := 3) (oi := { dst := some 33, op := Go.Op.nilCheck (Go.Operand.tmp 32), type := 0, pos := "disk.go:54", after := #[{ on := 2, ground := Go.Ground.data }], guard := none }) (v := ?_) rfl (by kernel_rfl) (by kernel_rfl) (by kernel_rfl) (fun _ _ _ h => h) (Or.inl ⟨by rfl, ?_⟩) hs0 ?_
              rotate_left
              · intro u hu
                obtain ⟨u1, u2, u3, u4, u5, u6⟩ := hu
                go_simp
                try with_reducible rfl
              simp only [Act.put, List.setIfInBounds_toArray, List.set_cons_zero, List.set_cons_succ]
              refine wpAnyH_take (i := 4) (oi := { dst := some 34, op := Go.Op.fieldAddr 49 (Go.Operand.tmp 33) 0, type := 0, pos := "disk.go:54", after := #[{ on := 3, ground := Go.Ground.data }], guard := none }) (v := ?_) rfl (by kernel_rfl) (by kernel_rfl) (by kernel_rfl) (fun _ _ _ h => h) (Or.inl ⟨by rfl, ?_⟩) hs0 ?_
              rotate_left
              · intro u hu
                obtain ⟨u1, u2, u3, u4, u5, u6⟩ := hu
                go_simp
                try with_reducible rfl
              simp only [Act.put, List.setIfInBounds_toArray, List.set_cons_zero, List.set_cons_succ]
              refine wpAnyH_take (i := 5) (oi := { dst := some 35, op := Go.Op.load 47 (Go.Operand.tmp 34), type := 47, pos := "disk.go:54", after := #[{ on := 4, ground := Go.Ground.data }], guard := none }) (v := ?_) rfl (by kernel_rfl) (by kernel_rfl) (by kernel_rfl) (fun _ _ _ h => h) (Or.inl ⟨by rfl, ?_⟩) hs0 ?_
              rotate_left
              · intro u hu
                obtain ⟨u1, u2, u3, u4, u5, u6⟩ := hu
                go_simp
                try with_reducible rfl
              simp only [Act.put, List.setIfInBounds_toArray, List.set_cons_zero, List.set_cons_succ]
              refine wpAnyH_take (i := 6) (oi := { dst := some 36, op := Go.Op.nilCheck (Go.Operand.tmp 35), type := 0, pos := "disk.go:54", after := #[{ on := 5, ground := Go.Ground.data }], guard := none }) (v := ?_) rfl (by kernel_rfl) (by kernel_rfl) (by kernel_rfl) (fun _ _ _ h => h) (Or.inl ⟨by rfl, ?_⟩) hs0 ?_
              rotate_left
              · intro u hu
                obtain ⟨u1, u2, u3, u4, u5, u6⟩ := hu
                go_simp
                try with_reducible rfl
              simp only [Act.put, List.setIfInBounds_toArray, List.set_cons_zero, List.set_cons_succ]
              refine wpAnyH_take (i := 7) (oi := { dst := some 37, op := Go.Op.fieldAddr 80 (Go.Operand.tmp 36) 2, type := 0, pos := "disk.go:54", after := #[{ on := 6, ground := Go.Ground.data }], guard := none }) (v := ?_) rfl (by kernel_rfl) (by kernel_rfl) (by kernel_rfl) (fun _ _ _ h => h) (Or.inl ⟨by rfl, ?_⟩) hs0 ?_
              rotate_left
              · intro u hu
                obtain ⟨u1, u2, u3, u4, u5, u6⟩ := hu
                go_simp
                try with_reducible rfl
              simp only [Act.put, List.setIfInBounds_toArray, List.set_cons_zero, List.set_cons_succ]
              refine wpAnyH_take (i := 8) (oi := { dst := some 38, op := Go.Op.load 3 (Go.Operand.tmp 37), type := 3, pos := "disk.go:54", after := #[{ on := 7, ground := Go.Ground.data }], guard := none }) (v := ?_) rfl (by kernel_rfl) (by kernel_rfl) (by kernel_rfl) (fun _ _ _ h => h) (Or.inl ⟨by rfl, ?_⟩) hs0 ?_
              rotate_left
              · intro u hu
                obtain ⟨u1, u2, u3, u4, u5, u6⟩ := hu
                go_simp
                try with_reducible rfl
              simp only [Act.put, List.setIfInBounds_toArray, List.set_cons_zero, List.set_cons_succ]
              refine wpAnyH_take (i := 9) (oi := { dst := some 39, op := Go.Op.load 33 (Go.Operand.tmp 3), type := 33, pos := "disk.go:54", after := #[], guard := none }) (v := ?_) rfl (by kernel_rfl) (by kernel_rfl) (by kernel_rfl) (fun _ _ _ h => h) (Or.inl ⟨by rfl, ?_⟩) hs0 ?_
              rotate_left
              · intro u hu
                obtain ⟨u1, u2, u3, u4, u5, u6⟩ := hu
                go_simp
                try with_reducible rfl
              simp only [Act.put, List.setIfInBounds_toArray, List.set_cons_zero, List.set_cons_succ]
              refine wpAnyH_ready (rs := [10]) (by kernel_rfl) (by simp) ?_
              refine AllReadyH.cons (o := { dst := some 40, op := Go.Op.call { callee := Go.Callee.value (Go.Operand.func 29), args := #[Go.Operand.tmp 39], argTypes := #[33] }, type := 3, pos := "disk.go:54", after := #[{ on := 9, ground := Go.Ground.data }], guard := none }) rfl (fun K hK => ?_) AllReadyH.nil
              go_simp
              refine Calls.mono HUS.out ?_
              rintro e w5 ⟨rfl, hb5⟩
              have hs1 := HSW7.out w5 hb5
              refine hK.out _ _ hs1 (fun _ => ?_)
              clear hK K
              try simp only [Act.put, List.setIfInBounds_toArray, List.set_cons_zero, List.set_cons_succ]
              refine wpAnyH_take (i := 11) (oi := { dst := some 41, op := Go.Op.binOp Go.BinOp.sub 3 (Go.Operand.tmp 38) (Go.Operand.tmp 40) 3, type := 3, pos := "disk.go:54", after := #[{ on := 8, ground := Go.Ground.data }, { on := 10, ground := Go.Ground.data }], guard := none }) (v := ?_) rfl (by kernel_rfl) (by kernel_rfl) (by kernel_rfl) (fun _ _ _ h => h) (Or.inl ⟨by rfl, ?_⟩) hs1 ?_
              rotate_left
              · intro u hu
                obtain ⟨u1, u2, u3, u4, u5, u6⟩ := hu
                go_simp
                try with_reducible rfl
              simp only [Act.put, List.setIfInBounds_toArray, List.set_cons_zero, List.set_cons_succ]
              refine wpAnyH_take (i := 12) (oi := { dst := some 42, op := Go.Op.binOp Go.BinOp.gtr 3 (Go.Operand.tmp 31) (Go.Operand.tmp 41) 3, type := 4, pos := "disk.go:54", after := #[{ on := 1, ground := Go.Ground.data }, { on := 11, ground := Go.Ground.data }], guard := none }) (v := ?_) rfl (by kernel_rfl) (by kernel_rfl) (by kernel_rfl) (fun _ _ _ h => h) (Or.inl ⟨by rfl, ?_⟩) hs1 ?_
              rotate_left
              · intro u hu
                obtain ⟨u1, u2, u3, u4, u5, u6⟩ := hu
                go_simp
                try with_reducible rfl
              simp only [Act.put, List.setIfInBounds_toArray, List.set_cons_zero, List.set_cons_succ]
              refine wpAnyH_take (i := 13) (oi := { dst := some 43, op := Go.Op.move (Go.Operand.tmp 42), type := 4, pos := "disk.go:54", after := #[{ on := 12, ground := Go.Ground.data }, { on := 10, ground := Go.Ground.chain }], guard := none }) (v := ?_) rfl (by kernel_rfl) (by kernel_rfl) (by kernel_rfl) (fun _ _ _ h => h) (Or.inl ⟨by rfl, ?_⟩) hs1 ?_
              rotate_left
              · intro u hu
                obtain ⟨u1, u2, u3, u4, u5, u6⟩ := hu
                go_simp
                try with_reducible rfl
              simp only [Act.put, List.setIfInBounds_toArray, List.set_cons_zero, List.set_cons_succ]
              refine wpAnyH_take (i := 14) (oi := { dst := some 44, op := Go.Op.load 4 (Go.Operand.tmp 9), type := 4, pos := "disk.go:54", after := #[{ on := 13, ground := Go.Ground.guard }], guard := some (13, false) }) (v := ?_) rfl (by kernel_rfl) (by kernel_rfl) (by kernel_rfl) (fun _ _ _ h => h) (Or.inl ⟨by rfl, ?_⟩) hs1 ?_
              rotate_left
              · intro u hu
                obtain ⟨u1, u2, u3, u4, u5, u6⟩ := hu
                go_simp
                try with_reducible rfl
              simp only [Act.put, List.setIfInBounds_toArray, List.set_cons_zero, List.set_cons_succ]
              refine wpAnyH_take (i := 15) (oi := { dst := some 45, op := Go.Op.unOp Go.UnOp.not 4 (Go.Operand.tmp 44), type := 4, pos := "disk.go:54", after := #[{ on := 14, ground := Go.Ground.data }, { on := 13, ground := Go.Ground.guard }], guard := some (13, false) }) (v := ?_) rfl (by kernel_rfl) (by kernel_rfl) (by kernel_rfl) (fun _ _ _ h => h) (Or.inl ⟨by rfl, ?_⟩) hs1 ?_
              rotate_left
              · intro u hu
                obtain ⟨u1, u2, u3, u4, u5, u6⟩ := hu
                go_simp
                try with_reducible rfl
              simp only [Act.put, List.setIfInBounds_toArray, List.set_cons_zero, List.set_cons_succ]
              refine wpAnyH_take (i := 16) (oi := { dst := some 46, op := Go.Op.move (Go.Operand.tmp 45), type := 4, pos := "disk.go:54", after := #[{ on := 15, ground := Go.Ground.data }, { on := 13, ground := Go.Ground.chain }, { on := 13, ground := Go.Ground.guard }], guard := some (13, false) }) (v := ?_) rfl (by kernel_rfl) (by kernel_rfl) (by kernel_rfl) (fun _ _ _ h => h) (Or.inl ⟨by rfl, ?_⟩) hs1 ?_
              rotate_left
              · intro u hu
                obtain ⟨u1, u2, u3, u4, u5, u6⟩ := hu
                go_simp
                try with_reducible rfl
              simp only [Act.put, List.setIfInBounds_toArray, List.set_cons_zero, List.set_cons_succ]
              refine wpAnyH_take (i := 17) (oi := { dst := some 47, op := Go.Op.load 33 (Go.Operand.tmp 3), type := 33, pos := "disk.go:54", after := #[{ on := 16, ground := Go.Ground.guard }], guard := some (16, true) }) (v := undef) rfl (by kernel_rfl) (by kernel_rfl) (by kernel_rfl) (fun _ _ _ h => h) (Or.inr ⟨by rfl, rfl⟩) hs1 ?_
              simp only [Act.put, List.setIfInBounds_toArray, List.set_cons_zero, List.set_cons_succ]
              refine wpAnyH_take (i := 18) (oi := { dst := some 48, op := Go.Op.nilCheck (Go.Operand.tmp 47), type := 0, pos := "disk.go:54", after := #[{ on := 17, ground := Go.Ground.data }, { on := 16, ground := Go.Ground.guard }], guard := some (16, true) }) (v := undef) rfl (by kernel_rfl) (by kernel_rfl) (by kernel_rfl) (fun _ _ _ h => h) (Or.inr ⟨by rfl, rfl⟩) hs1 ?_
              simp only [Act.put, List.setIfInBounds_toArray, List.set_cons_zero, List.set_cons_succ]
              refine wpAnyH_take (i := 19) (oi := { dst := some 49, op := Go.Op.fieldAddr 49 (Go.Operand.tmp 48) 0, type := 0, pos := "disk.go:54", after := #[{ on := 18, ground := Go.Ground.data }, { on := 16, ground := Go.Ground.guard }], guard := some (16, true) }) (v := undef) rfl (by kernel_rfl) (by kernel_rfl) (by kernel_rfl) (fun _ _ _ h => h) (Or.inr ⟨by rfl, rfl⟩) hs1 ?_
              simp only [Act.put, List.setIfInBounds_toArray, List.set_cons_zero, List.set_cons_succ]
              refine wpAnyH_take (i := 20) (oi := { dst := some 50, op := Go.Op.load 47 (Go.Operand.tmp 49), type := 47, pos := "disk.go:54", after := #[{ on := 19, ground := Go.Ground.data }, { on := 16, ground := Go.Ground.guard }], guard := some (16, true) }) (v := undef) rfl (by kernel_rfl) (by kernel_rfl) (by kernel_rfl) (fun _ _ _ h => h) (Or.inr ⟨by rfl, rfl⟩) hs1 ?_
              simp only [Act.put, List.setIfInBounds_toArray, List.set_cons_zero, List.set_cons_succ]
              refine wpAnyH_take (i := 21) (oi := { dst := some 51, op := Go.Op.nilCheck (Go.Operand.tmp 50), type := 0, pos := "disk.go:54", after := #[{ on := 20, ground := Go.Ground.data }, { on := 16, ground := Go.Ground.guard }], guard := some (16, true) }) (v := undef) rfl (by kernel_rfl) (by kernel_rfl) (by kernel_rfl) (fun _ _ _ h => h) (Or.inr ⟨by rfl, rfl⟩) hs1 ?_
              simp only [Act.put, List.setIfInBounds_toArray, List.set_cons_zero, List.set_cons_succ]
              refine wpAnyH_take (i := 22) (oi := { dst := some 52, op := Go.Op.fieldAddr 80 (Go.Operand.tmp 51) 0, type := 0, pos := "disk.go:54", after := #[{ on := 21, ground := Go.Ground.data }, { on := 16, ground := Go.Ground.guard }], guard := some (16, true) }) (v := undef) rfl (by kernel_rfl) (by kernel_rfl) (by kernel_rfl) (fun _ _ _ h => h) (Or.inr ⟨by rfl, rfl⟩) hs1 ?_
              simp only [Act.put, List.setIfInBounds_toArray, List.set_cons_zero, List.set_cons_succ]
              refine wpAnyH_take (i := 23) (oi := { dst := some 53, op := Go.Op.load 77 (Go.Operand.tmp 52), type := 77, pos := "disk.go:54", after := #[{ on := 22, ground := Go.Ground.data }, { on := 16, ground := Go.Ground.guard }], guard := some (16, true) }) (v := undef) rfl (by kernel_rfl) (by kernel_rfl) (by kernel_rfl) (fun _ _ _ h => h) (Or.inr ⟨by rfl, rfl⟩) hs1 ?_
              simp only [Act.put, List.setIfInBounds_toArray, List.set_cons_zero, List.set_cons_succ]
              refine wpAnyH_take (i := 24) (oi := { dst := some 54, op := Go.Op.call { callee := Go.Callee.builtin Go.Builtin.len, args := #[Go.Operand.tmp 53], argTypes := #[77] }, type := 3, pos := "disk.go:54", after := #[{ on := 23, ground := Go.Ground.data }, { on := 16, ground := Go.Ground.guard }], guard := some (16, true) }) (v := undef) rfl (by kernel_rfl) (by kernel_rfl) (by kernel_rfl) (fun _ _ _ h => h) (Or.inr ⟨by rfl, rfl⟩) hs1 ?_
              simp only [Act.put, List.setIfInBounds_toArray, List.set_cons_zero, List.set_cons_succ]
              refine wpAnyH_take (i := 25) (oi := { dst := some 55, op := Go.Op.binOp Go.BinOp.eql 3 (Go.Operand.tmp 54) (Go.Operand.const (Go.Value.int Go.IntKind.i64 200)) 3, type := 4, pos := "disk.go:54", after := #[{ on := 24, ground := Go.Ground.data }, { on := 16, ground := Go.Ground.guard }], guard := some (16, true) }) (v := undef) rfl (by kernel_rfl) (by kernel_rfl) (by kernel_rfl) (fun _ _ _ h => h) (Or.inr ⟨by rfl, rfl⟩) hs1 ?_
              simp only [Act.put, List.setIfInBounds_toArray, List.set_cons_zero, List.set_cons_succ]
              refine wpAnyH_take (i := 26) (oi := { dst := some 56, op := Go.Op.pick (Go.Operand.tmp 46) (Go.Operand.tmp 55) (Go.Operand.const (Go.Value.bool false)), type := 4, pos := "disk.go:54", after := #[{ on := 16, ground := Go.Ground.data }, { on := 25, ground := Go.Ground.data }, { on := 13, ground := Go.Ground.guard }], guard := some (13, false) }) (v := ?_) rfl (by kernel_rfl) (by kernel_rfl) (by kernel_rfl) (fun _ _ _ h => h) (Or.inl ⟨by rfl, ?_⟩) hs1 ?_
              rotate_left
              · intro u hu
                obtain ⟨u1, u2, u3, u4, u5, u6⟩ := hu
                go_simp
                try with_reducible rfl
              simp only [Act.put, List.setIfInBounds_toArray, List.set_cons_zero, List.set_cons_succ]
              refine wpAnyH_take (i := 27) (oi := { dst := some 57, op := Go.Op.pick (Go.Operand.tmp 43) (Go.Operand.const (Go.Value.bool true)) (Go.Operand.tmp 56), type := 4, pos := "disk.go:54", after := #[{ on := 13, ground := Go.Ground.data }, { on := 26, ground := Go.Ground.data }], guard := none }) (v := ?_) rfl (by kernel_rfl) (by kernel_rfl) (by kernel_rfl) (fun _ _ _ h => h) (Or.inl ⟨by rfl, ?_⟩) hs1 ?_
              rotate_left
              · intro u hu
                obtain ⟨u1, u2, u3, u4, u5, u6⟩ := hu
                go_simp
                try with_reducible rfl
              simp only [Act.put, List.setIfInBounds_toArray, List.set_cons_zero, List.set_cons_succ]
              refine wpAnyH_done (by kernel_rfl) ?_ _
              refine NoPanic.normal ?_
              go_wp2_with fail
              go_meet
              exact ⟨by rw [HFT.out], hb5⟩
            | false =>
              have HFT : Hid (fu = ((N : Int) == 200)) := by
                rw [HFU2.out]; unfold Hid
                rw [Bool.eq_iff_iff]
                simp
                omega
              refine wp_region_noPanic ?_
              refine wp_region_held_drew (S := (fun w' => w'.cell? ⟨w.heap.size + 1 + 1, 0, none⟩ = some (.slice ao bl cap) ∧ w'.cell? ⟨w.heap.size, 0, none⟩ = some (.pointer (some ⟨bd, 0, none⟩)) ∧ w'.cell? ⟨bd, 0, none⟩ = some (.pointer (some ⟨bs, 0, none⟩)) ∧ w'.cell? ⟨bs, 2, none⟩ = some (.int .i64 most) ∧ w'.cell? ⟨bs, 0, none⟩ = some (.slice fo N fc) ∧ w'.cell? ⟨cT, 0, none⟩ = some (.bool false))) (by kernel_rfl) hs0 (fun _ => ?_)
              refine wpAnyH_take (i := 0) (oi := { dst := some 30, op := Go.Op.load 22 (Go.Operand.tmp 5), type := 22, pos := "disk.go:54", after := #[], guard := none }) (v := ?_) rfl (by kernel_rfl) (by kernel_rfl) (by kernel_rfl) (fun _ _ _ h => h) (Or.inl ⟨by rfl, ?_⟩) hs0 ?_
              rotate_left
              · intro u hu
                obtain ⟨u1, u2, u3, u4, u5, u6⟩ := hu
                go_simp
                try with_reducible rfl
              simp only [Act.put, List.setIfInBounds_toArray, List.set_cons_zero, List.set_cons_succ]
              refine wpAnyH_take (i := 1) (oi := { dst := some 31, op := Go.Op.call { callee := Go.Callee.builtin Go.Builtin.len, args := #[Go.Operand.tmp 30], argTypes := #[22] }, type := 3, pos := "disk.go:54", after := #[{ on := 0, ground := Go.Ground.data }], guard := none }) (v := ?_) rfl (by kernel_rfl) (by kernel_rfl) (by kernel_rfl) (fun _ _ _ h => h) (Or.inl ⟨by rfl, ?_⟩) hs0 ?_
              rotate_left
              · intro u hu
                obtain ⟨u1, u2, u3, u4, u5, u6⟩ := hu
                go_simp
                try with_reducible rfl
              simp only [Act.put, List.setIfInBounds_toArray, List.set_cons_zero, List.set_cons_succ]
              refine wpAnyH_take (i := 2) (oi := { dst := some 32, op := Go.Op.load 33 (Go.Operand.tmp 3), type := 33, pos := "disk.go:54", after := #[], guard := none }) (v := ?_) rfl (by kernel_rfl) (by kernel_rfl) (by kernel_rfl) (fun _ _ _ h => h) (Or.inl ⟨by rfl, ?_⟩) hs0 ?_
              rotate_left
              · intro u hu
                obtain ⟨u1, u2, u3, u4, u5, u6⟩ := hu
                go_simp
                try with_reducible rfl
              simp only [Act.put, List.setIfInBounds_toArray, List.set_cons_zero, List.set_cons_succ]
              refine wpAnyH_take (i := 3) (oi := { dst := some 33, op := Go.Op.nilCheck (Go.Operand.tmp 32), type := 0, pos := "disk.go:54", after := #[{ on := 2, ground := Go.Ground.data }], guard := none }) (v := ?_) rfl (by kernel_rfl) (by kernel_rfl) (by kernel_rfl) (fun _ _ _ h => h) (Or.inl ⟨by rfl, ?_⟩) hs0 ?_
              rotate_left
              · intro u hu
                obtain ⟨u1, u2, u3, u4, u5, u6⟩ := hu
                go_simp
                try with_reducible rfl
              simp only [Act.put, List.setIfInBounds_toArray, List.set_cons_zero, List.set_cons_succ]
              refine wpAnyH_take (i := 4) (oi := { dst := some 34, op := Go.Op.fieldAddr 49 (Go.Operand.tmp 33) 0, type := 0, pos := "disk.go:54", after := #[{ on := 3, ground := Go.Ground.data }], guard := none }) (v := ?_) rfl (by kernel_rfl) (by kernel_rfl) (by kernel_rfl) (fun _ _ _ h => h) (Or.inl ⟨by rfl, ?_⟩) hs0 ?_
              rotate_left
              · intro u hu
                obtain ⟨u1, u2, u3, u4, u5, u6⟩ := hu
                go_simp
                try with_reducible rfl
              simp only [Act.put, List.setIfInBounds_toArray, List.set_cons_zero, List.set_cons_succ]
              refine wpAnyH_take (i := 5) (oi := { dst := some 35, op := Go.Op.load 47 (Go.Operand.tmp 34), type := 47, pos := "disk.go:54", after := #[{ on := 4, ground := Go.Ground.data }], guard := none }) (v := ?_) rfl (by kernel_rfl) (by kernel_rfl) (by kernel_rfl) (fun _ _ _ h => h) (Or.inl ⟨by rfl, ?_⟩) hs0 ?_
              rotate_left
              · intro u hu
                obtain ⟨u1, u2, u3, u4, u5, u6⟩ := hu
                go_simp
                try with_reducible rfl
              simp only [Act.put, List.setIfInBounds_toArray, List.set_cons_zero, List.set_cons_succ]
              refine wpAnyH_take (i := 6) (oi := { dst := some 36, op := Go.Op.nilCheck (Go.Operand.tmp 35), type := 0, pos := "disk.go:54", after := #[{ on := 5, ground := Go.Ground.data }], guard := none }) (v := ?_) rfl (by kernel_rfl) (by kernel_rfl) (by kernel_rfl) (fun _ _ _ h => h) (Or.inl ⟨by rfl, ?_⟩) hs0 ?_
              rotate_left
              · intro u hu
                obtain ⟨u1, u2, u3, u4, u5, u6⟩ := hu
                go_simp
                try with_reducible rfl
              simp only [Act.put, List.setIfInBounds_toArray, List.set_cons_zero, List.set_cons_succ]
              refine wpAnyH_take (i := 7) (oi := { dst := some 37, op := Go.Op.fieldAddr 80 (Go.Operand.tmp 36) 2, type := 0, pos := "disk.go:54", after := #[{ on := 6, ground := Go.Ground.data }], guard := none }) (v := ?_) rfl (by kernel_rfl) (by kernel_rfl) (by kernel_rfl) (fun _ _ _ h => h) (Or.inl ⟨by rfl, ?_⟩) hs0 ?_
              rotate_left
              · intro u hu
                obtain ⟨u1, u2, u3, u4, u5, u6⟩ := hu
                go_simp
                try with_reducible rfl
              simp only [Act.put, List.setIfInBounds_toArray, List.set_cons_zero, List.set_cons_succ]
              refine wpAnyH_take (i := 8) (oi := { dst := some 38, op := Go.Op.load 3 (Go.Operand.tmp 37), type := 3, pos := "disk.go:54", after := #[{ on := 7, ground := Go.Ground.data }], guard := none }) (v := ?_) rfl (by kernel_rfl) (by kernel_rfl) (by kernel_rfl) (fun _ _ _ h => h) (Or.inl ⟨by rfl, ?_⟩) hs0 ?_
              rotate_left
              · intro u hu
                obtain ⟨u1, u2, u3, u4, u5, u6⟩ := hu
                go_simp
                try with_reducible rfl
              simp only [Act.put, List.setIfInBounds_toArray, List.set_cons_zero, List.set_cons_succ]
              refine wpAnyH_take (i := 9) (oi := { dst := some 39, op := Go.Op.load 33 (Go.Operand.tmp 3), type := 33, pos := "disk.go:54", after := #[], guard := none }) (v := ?_) rfl (by kernel_rfl) (by kernel_rfl) (by kernel_rfl) (fun _ _ _ h => h) (Or.inl ⟨by rfl, ?_⟩) hs0 ?_
              rotate_left
              · intro u hu
                obtain ⟨u1, u2, u3, u4, u5, u6⟩ := hu
                go_simp
                try with_reducible rfl
              simp only [Act.put, List.setIfInBounds_toArray, List.set_cons_zero, List.set_cons_succ]
              refine wpAnyH_ready (rs := [10]) (by kernel_rfl) (by simp) ?_
              refine AllReadyH.cons (o := { dst := some 40, op := Go.Op.call { callee := Go.Callee.value (Go.Operand.func 29), args := #[Go.Operand.tmp 39], argTypes := #[33] }, type := 3, pos := "disk.go:54", after := #[{ on := 9, ground := Go.Ground.data }], guard := none }) rfl (fun K hK => ?_) AllReadyH.nil
              go_simp
              refine Calls.mono HUS.out ?_
              rintro e w5 ⟨rfl, hb5⟩
              have hs1 := HSW7.out w5 hb5
              refine hK.out _ _ hs1 (fun _ => ?_)
              clear hK K
              try simp only [Act.put, List.setIfInBounds_toArray, List.set_cons_zero, List.set_cons_succ]
              refine wpAnyH_take (i := 11) (oi := { dst := some 41, op := Go.Op.binOp Go.BinOp.sub 3 (Go.Operand.tmp 38) (Go.Operand.tmp 40) 3, type := 3, pos := "disk.go:54", after := #[{ on := 8, ground := Go.Ground.data }, { on := 10, ground := Go.Ground.data }], guard := none }) (v := ?_) rfl (by kernel_rfl) (by kernel_rfl) (by kernel_rfl) (fun _ _ _ h => h) (Or.inl ⟨by rfl, ?_⟩) hs1 ?_
              rotate_left
              · intro u hu
                obtain ⟨u1, u2, u3, u4, u5, u6⟩ := hu
                go_simp
                try with_reducible rfl
              simp only [Act.put, List.setIfInBounds_toArray, List.set_cons_zero, List.set_cons_succ]
              refine wpAnyH_take (i := 12) (oi := { dst := some 42, op := Go.Op.binOp Go.BinOp.gtr 3 (Go.Operand.tmp 31) (Go.Operand.tmp 41) 3, type := 4, pos := "disk.go:54", after := #[{ on := 1, ground := Go.Ground.data }, { on := 11, ground := Go.Ground.data }], guard := none }) (v := ?_) rfl (by kernel_rfl) (by kernel_rfl) (by kernel_rfl) (fun _ _ _ h => h) (Or.inl ⟨by rfl, ?_⟩) hs1 ?_
              rotate_left
              · intro u hu
                obtain ⟨u1, u2, u3, u4, u5, u6⟩ := hu
                go_simp
                try with_reducible rfl
              simp only [Act.put, List.setIfInBounds_toArray, List.set_cons_zero, List.set_cons_succ]
              refine wpAnyH_take (i := 13) (oi := { dst := some 43, op := Go.Op.move (Go.Operand.tmp 42), type := 4, pos := "disk.go:54", after := #[{ on := 12, ground := Go.Ground.data }, { on := 10, ground := Go.Ground.chain }], guard := none }) (v := ?_) rfl (by kernel_rfl) (by kernel_rfl) (by kernel_rfl) (fun _ _ _ h => h) (Or.inl ⟨by rfl, ?_⟩) hs1 ?_
              rotate_left
              · intro u hu
                obtain ⟨u1, u2, u3, u4, u5, u6⟩ := hu
                go_simp
                try with_reducible rfl
              simp only [Act.put, List.setIfInBounds_toArray, List.set_cons_zero, List.set_cons_succ]
              refine wpAnyH_take (i := 14) (oi := { dst := some 44, op := Go.Op.load 4 (Go.Operand.tmp 9), type := 4, pos := "disk.go:54", after := #[{ on := 13, ground := Go.Ground.guard }], guard := some (13, false) }) (v := ?_) rfl (by kernel_rfl) (by kernel_rfl) (by kernel_rfl) (fun _ _ _ h => h) (Or.inl ⟨by rfl, ?_⟩) hs1 ?_
              rotate_left
              · intro u hu
                obtain ⟨u1, u2, u3, u4, u5, u6⟩ := hu
                go_simp
                try with_reducible rfl
              simp only [Act.put, List.setIfInBounds_toArray, List.set_cons_zero, List.set_cons_succ]
              refine wpAnyH_take (i := 15) (oi := { dst := some 45, op := Go.Op.unOp Go.UnOp.not 4 (Go.Operand.tmp 44), type := 4, pos := "disk.go:54", after := #[{ on := 14, ground := Go.Ground.data }, { on := 13, ground := Go.Ground.guard }], guard := some (13, false) }) (v := ?_) rfl (by kernel_rfl) (by kernel_rfl) (by kernel_rfl) (fun _ _ _ h => h) (Or.inl ⟨by rfl, ?_⟩) hs1 ?_
              rotate_left
              · intro u hu
                obtain ⟨u1, u2, u3, u4, u5, u6⟩ := hu
                go_simp
                try with_reducible rfl
              simp only [Act.put, List.setIfInBounds_toArray, List.set_cons_zero, List.set_cons_succ]
              refine wpAnyH_take (i := 16) (oi := { dst := some 46, op := Go.Op.move (Go.Operand.tmp 45), type := 4, pos := "disk.go:54", after := #[{ on := 15, ground := Go.Ground.data }, { on := 13, ground := Go.Ground.chain }, { on := 13, ground := Go.Ground.guard }], guard := some (13, false) }) (v := ?_) rfl (by kernel_rfl) (by kernel_rfl) (by kernel_rfl) (fun _ _ _ h => h) (Or.inl ⟨by rfl, ?_⟩) hs1 ?_
              rotate_left
              · intro u hu
                obtain ⟨u1, u2, u3, u4, u5, u6⟩ := hu
                go_simp
                try with_reducible rfl
              simp only [Act.put, List.setIfInBounds_toArray, List.set_cons_zero, List.set_cons_succ]
              refine wpAnyH_take (i := 17) (oi := { dst := some 47, op := Go.Op.load 33 (Go.Operand.tmp 3), type := 33, pos := "disk.go:54", after := #[{ on := 16, ground := Go.Ground.guard }], guard := some (16, true) }) (v := ?_) rfl (by kernel_rfl) (by kernel_rfl) (by kernel_rfl) (fun _ _ _ h => h) (Or.inl ⟨by rfl, ?_⟩) hs1 ?_
              rotate_left
              · intro u hu
                obtain ⟨u1, u2, u3, u4, u5, u6⟩ := hu
                go_simp
                try with_reducible rfl
              simp only [Act.put, List.setIfInBounds_toArray, List.set_cons_zero, List.set_cons_succ]
              refine wpAnyH_take (i := 18) (oi := { dst := some 48, op := Go.Op.nilCheck (Go.Operand.tmp 47), type := 0, pos := "disk.go:54", after := #[{ on := 17, ground := Go.Ground.data }, { on := 16, ground := Go.Ground.guard }], guard := some (16, true) }) (v := ?_) rfl (by kernel_rfl) (by kernel_rfl) (by kernel_rfl) (fun _ _ _ h => h) (Or.inl ⟨by rfl, ?_⟩) hs1 ?_
              rotate_left
              · intro u hu
                obtain ⟨u1, u2, u3, u4, u5, u6⟩ := hu
                go_simp
                try with_reducible rfl
              simp only [Act.put, List.setIfInBounds_toArray, List.set_cons_zero, List.set_cons_succ]
              refine wpAnyH_take (i := 19) (oi := { dst := some 49, op := Go.Op.fieldAddr 49 (Go.Operand.tmp 48) 0, type := 0, pos := "disk.go:54", after := #[{ on := 18, ground := Go.Ground.data }, { on := 16, ground := Go.Ground.guard }], guard := some (16, true) }) (v := ?_) rfl (by kernel_rfl) (by kernel_rfl) (by kernel_rfl) (fun _ _ _ h => h) (Or.inl ⟨by rfl, ?_⟩) hs1 ?_
              rotate_left
              · intro u hu
                obtain ⟨u1, u2, u3, u4, u5, u6⟩ := hu
                go_simp
                try with_reducible rfl
              simp only [Act.put, List.setIfInBounds_toArray, List.set_cons_zero, List.set_cons_succ]
              refine wpAnyH_take (i := 20) (oi := { dst := some 50, op := Go.Op.load 47 (Go.Operand.tmp 49), type := 47, pos := "disk.go:54", after := #[{ on := 19, ground := Go.Ground.data }, { on := 16, ground := Go.Ground.guard }], guard := some (16, true) }) (v := ?_) rfl (by kernel_rfl) (by kernel_rfl) (by kernel_rfl) (fun _ _ _ h => h) (Or.inl ⟨by rfl, ?_⟩) hs1 ?_
              rotate_left
              · intro u hu
                obtain ⟨u1, u2, u3, u4, u5, u6⟩ := hu
                go_simp
                try with_reducible rfl
              simp only [Act.put, List.setIfInBounds_toArray, List.set_cons_zero, List.set_cons_succ]
              refine wpAnyH_take (i := 21) (oi := { dst := some 51, op := Go.Op.nilCheck (Go.Operand.tmp 50), type := 0, pos := "disk.go:54", after := #[{ on := 20, ground := Go.Ground.data }, { on := 16, ground := Go.Ground.guard }], guard := some (16, true) }) (v := ?_) rfl (by kernel_rfl) (by kernel_rfl) (by kernel_rfl) (fun _ _ _ h => h) (Or.inl ⟨by rfl, ?_⟩) hs1 ?_
              rotate_left
              · intro u hu
                obtain ⟨u1, u2, u3, u4, u5, u6⟩ := hu
                go_simp
                try with_reducible rfl
              simp only [Act.put, List.setIfInBounds_toArray, List.set_cons_zero, List.set_cons_succ]
              refine wpAnyH_take (i := 22) (oi := { dst := some 52, op := Go.Op.fieldAddr 80 (Go.Operand.tmp 51) 0, type := 0, pos := "disk.go:54", after := #[{ on := 21, ground := Go.Ground.data }, { on := 16, ground := Go.Ground.guard }], guard := some (16, true) }) (v := ?_) rfl (by kernel_rfl) (by kernel_rfl) (by kernel_rfl) (fun _ _ _ h => h) (Or.inl ⟨by rfl, ?_⟩) hs1 ?_
              rotate_left
              · intro u hu
                obtain ⟨u1, u2, u3, u4, u5, u6⟩ := hu
                go_simp
                try with_reducible rfl
              simp only [Act.put, List.setIfInBounds_toArray, List.set_cons_zero, List.set_cons_succ]
              refine wpAnyH_take (i := 23) (oi := { dst := some 53, op := Go.Op.load 77 (Go.Operand.tmp 52), type := 77, pos := "disk.go:54", after := #[{ on := 22, ground := Go.Ground.data }, { on := 16, ground := Go.Ground.guard }], guard := some (16, true) }) (v := ?_) rfl (by kernel_rfl) (by kernel_rfl) (by kernel_rfl) (fun _ _ _ h => h) (Or.inl ⟨by rfl, ?_⟩) hs1 ?_
              rotate_left
              · intro u hu
                obtain ⟨u1, u2, u3, u4, u5, u6⟩ := hu
                go_simp
                try with_reducible rfl
              simp only [Act.put, List.setIfInBounds_toArray, List.set_cons_zero, List.set_cons_succ]
              refine wpAnyH_take (i := 24) (oi := { dst := some 54, op := Go.Op.call { callee := Go.Callee.builtin Go.Builtin.len, args := #[Go.Operand.tmp 53], argTypes := #[77] }, type := 3, pos := "disk.go:54", after := #[{ on := 23, ground := Go.Ground.data }, { on := 16, ground := Go.Ground.guard }], guard := some (16, true) }) (v := ?_) rfl (by kernel_rfl) (by kernel_rfl) (by kernel_rfl) (fun _ _ _ h => h) (Or.inl ⟨by rfl, ?_⟩) hs1 ?_
              rotate_left
              · intro u hu
                obtain ⟨u1, u2, u3, u4, u5, u6⟩ := hu
                go_simp
                try with_reducible rfl
              simp only [Act.put, List.setIfInBounds_toArray, List.set_cons_zero, List.set_cons_succ]
              refine wpAnyH_take (i := 25) (oi := { dst := some 55, op := Go.Op.binOp Go.BinOp.eql 3 (Go.Operand.tmp 54) (Go.Operand.const (Go.Value.int Go.IntKind.i64 200)) 3, type := 4, pos := "disk.go:54", after := #[{ on := 24, ground := Go.Ground.data }, { on := 16, ground := Go.Ground.guard }], guard := some (16, true) }) (v := ?_) rfl (by kernel_rfl) (by kernel_rfl) (by kernel_rfl) (fun _ _ _ h => h) (Or.inl ⟨by rfl, ?_⟩) hs1 ?_
              rotate_left
              · intro u hu
                obtain ⟨u1, u2, u3, u4, u5, u6⟩ := hu
                go_simp
                try with_reducible rfl
              simp only [Act.put, List.setIfInBounds_toArray, List.set_cons_zero, List.set_cons_succ]
              refine wpAnyH_take (i := 26) (oi := { dst := some 56, op := Go.Op.pick (Go.Operand.tmp 46) (Go.Operand.tmp 55) (Go.Operand.const (Go.Value.bool false)), type := 4, pos := "disk.go:54", after := #[{ on := 16, ground := Go.Ground.data }, { on := 25, ground := Go.Ground.data }, { on := 13, ground := Go.Ground.guard }], guard := some (13, false) }) (v := ?_) rfl (by kernel_rfl) (by kernel_rfl) (by kernel_rfl) (fun _ _ _ h => h) (Or.inl ⟨by rfl, ?_⟩) hs1 ?_
              rotate_left
              · intro u hu
                obtain ⟨u1, u2, u3, u4, u5, u6⟩ := hu
                go_simp
                try with_reducible rfl
              simp only [Act.put, List.setIfInBounds_toArray, List.set_cons_zero, List.set_cons_succ]
              refine wpAnyH_take (i := 27) (oi := { dst := some 57, op := Go.Op.pick (Go.Operand.tmp 43) (Go.Operand.const (Go.Value.bool true)) (Go.Operand.tmp 56), type := 4, pos := "disk.go:54", after := #[{ on := 13, ground := Go.Ground.data }, { on := 26, ground := Go.Ground.data }], guard := none }) (v := ?_) rfl (by kernel_rfl) (by kernel_rfl) (by kernel_rfl) (fun _ _ _ h => h) (Or.inl ⟨by rfl, ?_⟩) hs1 ?_
              rotate_left
              · intro u hu
                obtain ⟨u1, u2, u3, u4, u5, u6⟩ := hu
                go_simp
                try with_reducible rfl
              simp only [Act.put, List.setIfInBounds_toArray, List.set_cons_zero, List.set_cons_succ]
              refine wpAnyH_done (by kernel_rfl) ?_ _
              refine NoPanic.normal ?_
              go_wp2_with fail
              go_meet
              exact ⟨by rw [HFT.out], hb5⟩
        case rest =>
          obtain ⟨rfl, HB7⟩ := hcut
          have HB8 : Hid (Below w.heap.size w wc) := HB5.out.trans (HB7.out.mono HB5.out.size)
          have hzd := HB7.out.size
          cases fu with
          | true =>
            have HE : Hid (r = (D, 5)) := by rw [HFU.out, if_pos (of_decide_eq_true HFU2.out.symm)]; rfl
            go_wp2
            go_ret
            rw [HE.out]
            exact deed_none HDK.out rfl HB8.out
          | false =>
            have hnf := of_decide_eq_false HFU2.out.symm
            have HNA : Hid (us + bl ≤ most) := by unfold Hid; rcases Nat.lt_or_ge most (us + bl) with h | h
                                                  · exact absurd (.inl h) hnf
                                                  · exact h
            have HNB : Hid (th = false → N ≠ 200) := fun h1 h2 => hnf (.inr ⟨h1, h2⟩)
            have HE : Hid (r = burn D (appF n b)) := by rw [HFU.out, if_neg hnf]; rfl
            clear hnf
            have e1 := (HB7.out.cell (p := ⟨w.heap.size, 0, none⟩) (by show w.heap.size < _; omega)).trans c7D
            have e2 := (HB7.out.cell (p := ⟨bd, 0, none⟩) (by show bd < _; omega)).trans c7d
            have HS8 : Hid _ := HS5.out.below HB7.out
            clear HS5 hs0 HSW7 HUS c7B c7D c7d c7m c7f c7T
            go_wp2_with fail
            refine (do_52 HS8.out HOK.out.fuse cT w.heap.size (w.heap.size + 1) cA (w.heap.size + 1 + 1) (appF n b D.files) (fun wx fz hS hk => ?_)).mono ?_
            · have gT : wx.heap[cT]? = some (.cells #[.bool th] 4 (0, 0)) := by rw [hk _ (by have := HG.out; omega), HB7.out.block _ hl7T]; exact HT.out
              have gA : wx.heap[cA]? = some (.cells #[.int .i64 k] 3 (0, 0)) := by rw [hk _ (by have := HG.out; omega), HB7.out.block _ (Array.getElem?_eq_some_iff.1 HA.out).1]; exact HA.out
              have g3 : ∀ x, w.heap.size ≤ x → x < w3.heap.size → wx.heap[x]? = w3.heap[x]? := fun x h1 h2 => by rw [hk _ (by omega), HB7.out.block _ (by omega), HB.out.block _ h2]
              have gD : wx.heap[w.heap.size]? = some (.cells #[.pointer (some ⟨bd, 0, none⟩)] 33 (0, 0)) := (g3 _ (by omega) (by omega)).trans HX1.out
              have gN : wx.heap[w.heap.size + 1]? = some (.cells #[.string n] 9 (0, 0)) := (g3 _ (by omega) (by omega)).trans HX2.out
              have gB : wx.heap[w.heap.size + 1 + 1]? = some (.cells #[.slice ao bl cap] 22 (0, 0)) := (g3 _ (by omega) (by omega)).trans HX3.out
              have hrx : Rd wx (.slice ao bl cap) b := Rd.heap (Rd.below HRB.out HB8.out) (fun a ha hne => hk a (fun hb => HSB.out a ha hne (HFF.out a (.inr (.inl hb)))))
              have hbs : us + bl ≤ most := HNA.out
              cases th with
              | true =>
                have hi : isF D.files n = true := HTH.out.symm
                obtain ⟨hl, hlook, hname⟩ := lookF_is hi
                have hkp : k < ps.length := by rw [HK.out, hlen]; exact hl
                have hpk : ps[k].1 = lookF D.files n := by
                  rw [hlook, ← ps_at HPS.out (posF D.files n) (by rw [hlen]; exact hl) hl]
                  simp only [HK.out]
                have hlu := look_used (fs := D.files) n
                refine (append1_at hS cT w.heap.size (w.heap.size + 1) cA (w.heap.size + 1 + 1) k hkp _ b hrx (by rw [hpk, ← HBL.out]; have h1 := HUSD.out; omega) gT gD gA gB).mono ?_
                rintro e w' ⟨rfl, hd⟩
                refine ⟨rfl, ?_⟩
                rw [HPS.out, hpk] at hd
                unfold appF
                rw [atF_put hi _ rfl, ← HK.out, show (⟨n, (lookF D.files n).bytes ++ b, (lookF D.files n).safe⟩ : AF) = ⟨(lookF D.files n).name, (lookF D.files n).bytes ++ b, (lookF D.files n).safe⟩ by rw [hlook, hname]]
                exact hd
              | false =>
                have hi : isF D.files n = false := HTH.out.symm
                refine (append1_new hS (by rw [HPS.out]; exact HOK.out.sorted) (by have := HNB.out rfl; rw [hlen, ← HN.out]; omega) cT w.heap.size (w.heap.size + 1) cA (w.heap.size + 1 + 1) n (by have := HRS.out; omega) (by rw [HPS.out]; exact hi) _ b hrx (by rw [← HBL.out]; omega) (fun a ha hne h => HSB.out a ha hne (HFF.out a (h.elim (fun h => .inr (.inl h)) (fun h => .inr (.inr (.inr (.inl h))))))) gT gD gN (by rw [HPS.out, ← HK.out]; exact gA) gB).mono ?_
                rintro e w' ⟨rfl, hd⟩
                refine ⟨rfl, ?_⟩
                rw [HPS.out] at hd
                unfold appF
                rw [lookF_no hi]
                exact hd
            · rintro e w2 hdone
              obtain ⟨x, rfl⟩ := hdone.int
              have HDN : Hid _ := hdone
              clear hdone
              go_wp2
              go_ret
              rw [HE.out]
              exact deed_done (appF n b) HPS.out HFF.out HOK.out (good_app HOK.out.good n b (by have := HNA.out; rw [← HBL.out, ← HUSD.out, ← HMO.out]; omega) (fun hi => by
                have hm := HOK.out.many
                rw [← HN.out] at hm ⊢
                rw [← HTH.out] at hi
                have := HNB.out hi
                omega)) HB8.out HDN.out
end Go.Proofs.YtffgbjojngnebaaDoor
