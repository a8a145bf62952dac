/-
  The contracts of Rename, Cut. Own work.
-/
import Derived.Test.YtloigepmmhcibaaEa
import Derived.Test.YtloigepmmhcibaaEb
import Derived.Deep.QuietTactic
import Derived.BigQuiet
namespace Go.Proofs.Ytloigepmmhcibaa
open Go.RowKit

theorem two_new (w : World) (o p : Obj) : ((w.alloc o).alloc p).heap[w.heap.size]? = some o ∧ ((w.alloc o).alloc p).heap[w.heap.size + 1]? = some p ∧ Below w.heap.size w ((w.alloc o).alloc p) ∧ ((w.alloc o).alloc p).heap.size = w.heap.size + 2 := by
  refine ⟨?_, ?_, ((Below.refl _ _).alloc (Nat.le_refl _) _).alloc (by simp) _, by simp⟩
  · rw [Below.heap_alloc _ _ _ (by simp)]; exact heap_alloc_new w o
  · have := heap_alloc_new (w.alloc o) p
    rw [World.size_alloc] at this
    exact this

set_option maxRecDepth 100000 in
set_option maxHeartbeats 2000000 in
theorem rename_any {w : World} {F : Nat → Prop} {d : Value} {D : AD} (h : Dk w F d D) (n m : ByteArray) (hm : m.size ≤ 140737488355328) :
    Calls Try.prog 16 #[d, .string n, .string m] w fun e w' => Deed e w w' F d (renameD D n m) := by
  obtain ⟨bd, bs, bc, fv, ps, rfl, hst, hps, hF, hok⟩ := id h
  obtain ⟨T1, T2, T3, T4⟩ := two_new w (.cells #[.pointer (some ⟨bd, 0, none⟩)] 23) (.cells #[.string m] 9)
  have HDK : Hid _ := h
  have HST : Hid _ := hst
  have HOK : Hid _ := hok
  have HPS : Hid _ := hps
  have hmany := hok.many
  have hlen : ps.length = D.files.length := by rw [← hps, List.length_map]
  have HFI : Hid _ := find_any (w := (w.alloc (.cells #[.pointer (some ⟨bd, 0, none⟩)] 23)).alloc (.cells #[.string m] 9)) (hst.below T3) (by rw [hps]; exact hok.sorted) (by omega) n
  rw [hps] at HFI
  have HFF : Hid _ := hF
  have hltd := hst.ltd
  have hlts := hst.lts
  have HTN : Hid _ := And.intro T1 (And.intro T2 (And.intro T3 T4))
  clear h hst hok hps hF hmany T1 T2 T3 T4
  cases hdk : D.dark with
  | true =>
    have HE : Hid (renameD D n m = (D, 15)) := by unfold renameD; rw [if_pos hdk]; rfl
    rw [HE.out]
    simp only [hdk, ↓reduceIte] at HFI
    go_enter Try.func16, Try.ntmps16
    go_wp2_with fail
    refine Calls.mono HFI.out ?_
    rintro e w1 ⟨rfl, hb⟩
    have HB : Hid (Below w.heap.size w w1) := HTN.out.2.2.1.trans (hb.mono (by rw [HTN.out.2.2.2]; omega))
    clear hb
    go_wp2
    go_ret
    exact deed_none HDK.out rfl (HB.out.alloc HB.out.size _)
  | false =>
    cases hi : isF D.files n with
    | false =>
      have HE : Hid (renameD D n m = (D, 16)) := by unfold renameD; rw [if_neg (by rw [hdk]; simp), if_pos hi]; rfl
      rw [HE.out]
      simp only [hdk, hi, ↓reduceIte, Bool.false_eq_true] at HFI
      go_enter Try.func16, Try.ntmps16
      go_wp2_with fail
      refine Calls.mono HFI.out ?_
      rintro e w1 ⟨rfl, hb⟩
      have HB : Hid (Below w.heap.size w w1) := HTN.out.2.2.1.trans (hb.mono (by rw [HTN.out.2.2.2]; omega))
      clear hb
      go_wp2
      go_ret
      exact deed_none HDK.out rfl (HB.out.alloc HB.out.size _)
    | true =>
      obtain ⟨hl, hlook, hname⟩ := lookF_is hi
      simp only [hdk, hi, ↓reduceIte, Bool.false_eq_true] at HFI
      obtain ⟨r, HRD⟩ := named (renameD D n m)
      rw [← HRD.out]
      go_enter Try.func16, Try.ntmps16
      go_wp2_with fail
      refine Calls.mono HFI.out ?_
      rintro e w1 ⟨rfl, hb⟩
      rw [HTN.out.2.2.2] at hb
      have HB : Hid (Below w.heap.size w w1) := HTN.out.2.2.1.trans (hb.mono (by omega))
      have hz := HB.out.size
      have hx1 : w1.heap[w.heap.size]? = some (.cells #[.pointer (some ⟨bd, 0, none⟩)] 23 (0, 0)) := (hb.block _ (by omega)).trans HTN.out.1
      have hx2 : w1.heap[w.heap.size + 1]? = some (.cells #[.string m] 9 (0, 0)) := (hb.block _ (by omega)).trans HTN.out.2.1
      have c1 : w1.cell? ⟨w.heap.size, 0, none⟩ = some (.pointer (some ⟨bd, 0, none⟩)) := by rw [cell_of hx1]; rfl
      have c2 : w1.cell? ⟨w.heap.size + 1, 0, none⟩ = some (.string m) := by rw [cell_of hx2]; rfl
      have d1 := (HST.out.below HB.out).d0
      have HX1 : Hid _ := hx1
      have HX2 : Hid _ := hx2
      have hlx : w.heap.size + 1 < w1.heap.size := (Array.getElem?_eq_some_iff.1 hx2).1
      have hlx0 : w.heap.size < w1.heap.size := by omega
      have hltd1 : bd < w1.heap.size := by omega
      clear hb hx1 hx2
      go_wp2_with fail
      refine (mayBe_any m _ hm).mono ?_
      rintro e w2 ⟨rfl, hw2⟩
      subst hw2
      cases hr : right m with
      | false =>
        have HE : Hid (r = (D, 16)) := by rw [HRD.out]; unfold renameD; rw [if_neg (by rw [hdk]; simp), if_neg (by rw [hi]; simp), if_pos hr]; rfl
        rw [HE.out] at HRD
        go_wp2
        go_ret
        rw [HE.out]
        exact deed_none HDK.out rfl (HB.out.alloc HB.out.size _)
      | true =>
        have HE : Hid (r = burn D (renF n m)) := by rw [HRD.out]; unfold renameD; rw [if_neg (by rw [hdk]; simp), if_neg (by rw [hi]; simp), if_neg (by rw [hr]; simp)]; rfl
        have hms : m.size ≤ 60 := by unfold right at hr; simp at hr; omega
        go_wp2_with fail
        have HS2 : Hid (St (w1.alloc (Obj.cells #[Value.int IntKind.i64 (posF D.files n)] 3)) bd bs bc fv ps D.most D.fuse D.dark) := (HST.out.below HB.out).below ((Below.refl _ _).alloc (Nat.le_refl _) _)
        have hkp : posF D.files n < ps.length := by omega
        refine (do_56 HS2.out HOK.out.fuse w.heap.size w1.heap.size (w.heap.size + 1) (renF n m D.files) (fun wx fz hS hk => ?_)).mono ?_
        · refine (rename1 hS (by rw [HPS.out]; exact HOK.out.sorted) (by have := HOK.out.many; omega) w.heap.size w1.heap.size (w.heap.size + 1) (posF D.files n) hkp m (by omega) ?_ ?_ ?_).mono ?_
          · rw [hk _ (by omega), Below.heap_alloc _ _ _ (by omega)]; exact HX1.out
          · rw [hk _ (by omega)]; exact heap_alloc_new w1 _
          · rw [hk _ (by omega), Below.heap_alloc _ _ _ (by omega)]; exact HX2.out
          · rintro e w' ⟨rfl, hd⟩
            refine ⟨rfl, ?_⟩
            rw [HPS.out, ps_at HPS.out _ hkp hl] at hd
            unfold renF
            rw [hlook]
            exact hd
        · rintro e w2 hdone
          obtain ⟨x, rfl⟩ := hdone.int
          have HDN : Hid _ := hdone
          clear hdone
          go_wp2
          go_ret
          rw [HE.out]
          exact deed_done (renF n m) HPS.out HFF.out HOK.out (good_ren HOK.out.good n m hi) (HB.out.alloc HB.out.size _) HDN.out
end Go.Proofs.Ytloigepmmhcibaa
