/-
  A disk as its callers see it; the contracts of Sync, Remove, Cut. Own work.
-/
import Derived.Test.YtloigepmmhcibaaDp
import Derived.Test.YtloigepmmhcibaaPureb
namespace Go.Proofs.Ytloigepmmhcibaa
open Go.RowKit

/-- d is a disk that has D, in the memory F -/
def Dk (w : World) (F : Nat → Prop) (d : Value) (D : AD) : Prop :=
  ∃ bd bs bc fv ps, d = .pointer (some ⟨bd, 0, none⟩) ∧ St w bd bs bc fv ps D.most D.fuse D.dark ∧ ps.map Prod.fst = D.files ∧ (∀ b, Blk bd bs bc fv ps b → F b) ∧ D.ok
/-- a memory, and what is new -/
def grow (F : Nat → Prop) (w w' : World) (b : Nat) : Prop := F b ∨ w.heap.size ≤ b ∧ b < w'.heap.size
/-- how a deed ends, as the caller sees it -/
def Deed (e : Ending) (w w' : World) (F : Nat → Prop) (d : Value) (r : AD × Nat) : Prop := e = .returned (.int .i64 r.2) ∧ Dk w' (grow F w w') d r.1 ∧ Chg F w w'

theorem Dk.mono {w : World} {F G : Nat → Prop} {d : Value} {D : AD} (h : Dk w F d D) (hg : ∀ b, b < w.heap.size → F b → G b) : Dk w G d D := by
  obtain ⟨bd, bs, bc, fv, ps, h1, h2, h3, h4, h5⟩ := h
  exact ⟨bd, bs, bc, fv, ps, h1, h2, h3, fun b hb => hg b (h2.lt b hb) (h4 b hb), h5⟩
theorem Dk.below {w w' : World} {F : Nat → Prop} {d : Value} {D : AD} (h : Dk w F d D) (hb : Below w.heap.size w w') : Dk w' F d D := by
  obtain ⟨bd, bs, bc, fv, ps, h1, h2, h3, h4, h5⟩ := h
  exact ⟨bd, bs, bc, fv, ps, h1, h2.below hb, h3, h4, h5⟩
theorem Dk.chg {w w' : World} {F G : Nat → Prop} {d : Value} {D : AD} (h : Dk w F d D) (hb : Chg G w w') (hd : ∀ b, F b → ¬ G b) : Dk w' F d D := by
  obtain ⟨bd, bs, bc, fv, ps, h1, h2, h3, h4, h5⟩ := h
  exact ⟨bd, bs, bc, fv, ps, h1, h2.chg hb (fun b hB => hd b (h4 b hB)), h3, h4, h5⟩
theorem Dk.ok {w : World} {F : Nat → Prop} {d : Value} {D : AD} (h : Dk w F d D) : D.ok := by
  obtain ⟨bd, bs, bc, fv, ps, h1, h2, h3, h4, h5⟩ := h
  exact h5

/-- nothing was done -/
theorem deed_none {e : Ending} {w w' : World} {F : Nat → Prop} {d : Value} {D : AD} {n : Nat} (h : Dk w F d D) (he : e = .returned (.int .i64 n)) (hb : Below w.heap.size w w') : Deed e w w' F d (D, n) :=
  ⟨he, (h.below hb).mono (fun _ _ h => .inl h), Chg.ofBelow hb F⟩
/-- a deed came to the fuse -/
theorem deed_done {e : Ending} {w w1 w' : World} {F : Nat → Prop} {bd bs bc : Nat} {fv : Value} {ps : List (AF × Value)} {D : AD} (g : List AF → List AF) (hps : ps.map Prod.fst = D.files) (hF : ∀ b, Blk bd bs bc fv ps b → F b) (hok : D.ok) (hg : good D.most (g D.files))
    (hb : Below w.heap.size w w1) (h : Done e w1 w' bd bs bc fv ps D.most D.fuse D.dark (g D.files)) : Deed e w w' F (.pointer (some ⟨bd, 0, none⟩)) (burn D g) := by
  have hbk := burn_ok hok g hg
  have key : ∀ (fz : Int) (dk : Bool) (fs : List AF), Did w1 w' bd bs bc fv ps D.most fz dk fs → (AD.mk fs D.most fz dk).ok → Dk w' (grow F w w') (.pointer (some ⟨bd, 0, none⟩)) ⟨fs, D.most, fz, dk⟩ ∧ Chg F w w' := by
    rintro fz dk fs ⟨fv', ps', h1, h2, h3, h4⟩ hok'
    refine ⟨⟨bd, bs, bc, fv', ps', rfl, h1, h2, fun b hB => ?_, hok'⟩, (Chg.ofBelow hb F).trans h4 (fun i _ hi => hF i hi)⟩
    rcases h3 b hB with h | h
    · exact .inl (hF b h)
    · exact .inr ⟨Nat.le_trans hb.size h, h1.lt b hB⟩
  unfold burn at hbk ⊢
  rcases h with ⟨h0, rfl, hd⟩ | ⟨h0, rfl, hd⟩
  · rw [if_pos h0] at hbk ⊢
    rw [hps] at hd
    exact ⟨rfl, key _ _ _ hd hbk⟩
  · rw [if_neg h0] at hbk ⊢
    exact ⟨rfl, key _ _ _ hd hbk⟩

theorem Done.int {e : Ending} {w w' : World} {bd bs bc : Nat} {fv : Value} {ps : List (AF × Value)} {most : Nat} {fuse : Int} {dark : Bool} {fs' : List AF} (h : Done e w w' bd bs bc fv ps most fuse dark fs') : ∃ x : Int, e = .returned (.int .i64 x) := by
  rcases h with ⟨_, h, _⟩ | ⟨_, h, _⟩
  · exact ⟨15, h⟩
  · exact ⟨0, h⟩
theorem ps_at {ps : List (AF × Value)} {fs : List AF} (h : ps.map Prod.fst = fs) (k : Nat) (hk : k < ps.length) (hk2 : k < fs.length) : ps[k].1 = fs[k] := by
  subst h
  simp
theorem atF_put {fs : List AF} {n : ByteArray} (hi : isF fs n = true) (f : AF) (hf : f.name = n) : putF fs f = atF fs (posF fs n) f := by
  subst hf
  rw [putF_is hi]
  rfl

set_option maxRecDepth 100000 in
set_option maxHeartbeats 2000000 in
theorem sync_any {w : World} {F : Nat → Prop} {d : Value} {D : AD} (h : Dk w F d D) (n : ByteArray) :
    Calls Try.prog 18 #[d, .string n] w fun e w' => Deed e w w' F d (syncD D n) := by
  obtain ⟨bd, bs, bc, fv, ps, rfl, hst, hps, hF, hok⟩ := id h
  have HDK : Hid _ := h
  have HST : Hid _ := hst
  have HOK : Hid _ := hok
  have HPS : Hid _ := hps
  have hmany := hok.many
  have hlen : ps.length = D.files.length := by rw [← hps, List.length_map]
  have HFI : Hid _ := find_any (w := w.alloc (.cells #[.pointer (some ⟨bd, 0, none⟩)] 23)) (hst.below ((Below.refl _ _).alloc (Nat.le_refl _) _)) (by rw [hps]; exact hok.sorted) (by omega) n
  rw [hps] at HFI
  have HFF : Hid _ := hF
  have hltd := hst.ltd
  have hlts := hst.lts
  clear h hst hok hps hF hmany
  cases hdk : D.dark with
  | true =>
    have HE : Hid (syncD D n = (D, 15)) := by unfold syncD; rw [if_pos hdk]; rfl
    rw [HE.out]
    simp only [hdk, ↓reduceIte] at HFI
    go_enter Try.func18, Try.ntmps18
    go_wp2_with fail
    refine Calls.mono HFI.out ?_
    rintro e w1 ⟨rfl, hb⟩
    have HB : Hid (Below w.heap.size w w1) := ((Below.refl w.heap.size w).alloc (Nat.le_refl _) _).trans (hb.mono (by simp))
    have hz := hb.size
    clear hb
    go_wp2
    go_ret
    exact deed_none HDK.out rfl (HB.out.alloc HB.out.size _)
  | false =>
    cases hi : isF D.files n with
    | false =>
      have HE : Hid (syncD D n = (D, 16)) := by unfold syncD; rw [if_neg (by rw [hdk]; simp), if_pos hi]; rfl
      rw [HE.out]
      simp only [hdk, hi, ↓reduceIte, Bool.false_eq_true] at HFI
      go_enter Try.func18, Try.ntmps18
      go_wp2_with fail
      refine Calls.mono HFI.out ?_
      rintro e w1 ⟨rfl, hb⟩
      have HB : Hid (Below w.heap.size w w1) := ((Below.refl w.heap.size w).alloc (Nat.le_refl _) _).trans (hb.mono (by simp))
      clear hb
      go_wp2
      go_ret
      exact deed_none HDK.out rfl (HB.out.alloc HB.out.size _)
    | true =>
      have HE : Hid (syncD D n = burn D (syncF n)) := by unfold syncD; rw [if_neg (by rw [hdk]; simp), if_neg (by rw [hi]; simp)]; rfl
      rw [HE.out]
      obtain ⟨hl, hlook, hname⟩ := lookF_is hi
      simp only [hdk, hi, ↓reduceIte, Bool.false_eq_true] at HFI
      go_enter Try.func18, Try.ntmps18
      go_wp2_with fail
      refine Calls.mono HFI.out ?_
      rintro e w1 ⟨rfl, hb⟩
      have HB : Hid (Below w.heap.size w w1) := ((Below.refl w.heap.size w).alloc (Nat.le_refl _) _).trans (hb.mono (by simp))
      have hz := HB.out.size
      have hx1 : w1.heap[w.heap.size]? = some (.cells #[.pointer (some ⟨bd, 0, none⟩)] 23 (0, 0)) := (hb.block _ (by simp)).trans (heap_alloc_new w _)
      have c1 : w1.cell? ⟨w.heap.size, 0, none⟩ = some (.pointer (some ⟨bd, 0, none⟩)) := by rw [cell_of hx1]; rfl
      have d1 := (HST.out.below HB.out).d0
      have HX1 : Hid _ := hx1
      have hlx : w.heap.size < w1.heap.size := (Array.getElem?_eq_some_iff.1 hx1).1
      have hltd1 : bd < w1.heap.size := by omega
      clear hb hx1
      go_wp2_with fail
      have HS2 : Hid (St (w1.alloc (Obj.cells #[Value.int IntKind.i64 (posF D.files n)] 3)) bd bs bc fv ps D.most D.fuse D.dark) := (HST.out.below HB.out).below ((Below.refl _ _).alloc (Nat.le_refl _) _)
      have hkp : posF D.files n < ps.length := by omega
      refine (do_60 HS2.out HOK.out.fuse w.heap.size w1.heap.size (syncF n D.files) (fun wx fz hS hk => ?_)).mono ?_
      · refine (sync1 hS w.heap.size w1.heap.size (posF D.files n) hkp ?_ ?_).mono ?_
        · rw [hk _ (by omega), Below.heap_alloc _ _ _ hlx]; exact HX1.out
        · rw [hk _ (by omega)]; exact heap_alloc_new w1 _
        · rintro e w' ⟨rfl, hd⟩
          refine ⟨rfl, ?_⟩
          rw [HPS.out, ps_at HPS.out _ hkp hl] at hd
          unfold syncF
          rw [atF_put hi _ rfl, hlook, show (⟨n, D.files[posF D.files n].bytes, D.files[posF D.files n].bytes.length⟩ : AF) = ⟨D.files[posF D.files n].name, D.files[posF D.files n].bytes, D.files[posF D.files n].bytes.length⟩ by rw [hname]]
          exact hd
      · rintro e w2 hdone
        obtain ⟨x, rfl⟩ := hdone.int
        have HDN : Hid _ := hdone
        clear hdone
        go_wp2
        go_ret
        exact deed_done (syncF n) HPS.out HFF.out HOK.out (good_sync HOK.out.good n hi) (HB.out.alloc HB.out.size _) HDN.out

set_option maxRecDepth 100000 in
set_option maxHeartbeats 2000000 in
theorem remove_any {w : World} {F : Nat → Prop} {d : Value} {D : AD} (h : Dk w F d D) (n : ByteArray) :
    Calls Try.prog 19 #[d, .string n] w fun e w' => Deed e w w' F d (removeD D n) := by
  obtain ⟨bd, bs, bc, fv, ps, rfl, hst, hps, hF, hok⟩ := id h
  have HDK : Hid _ := h
  have HST : Hid _ := hst
  have HOK : Hid _ := hok
  have HPS : Hid _ := hps
  have hmany := hok.many
  have hlen : ps.length = D.files.length := by rw [← hps, List.length_map]
  have HFI : Hid _ := find_any (w := w.alloc (.cells #[.pointer (some ⟨bd, 0, none⟩)] 23)) (hst.below ((Below.refl _ _).alloc (Nat.le_refl _) _)) (by rw [hps]; exact hok.sorted) (by omega) n
  rw [hps] at HFI
  have HFF : Hid _ := hF
  have hltd := hst.ltd
  have hlts := hst.lts
  clear h hst hok hps hF hmany
  cases hdk : D.dark with
  | true =>
    have HE : Hid (removeD D n = (D, 15)) := by unfold removeD; rw [if_pos hdk]; rfl
    rw [HE.out]
    simp only [hdk, ↓reduceIte] at HFI
    go_enter Try.func19, Try.ntmps19
    go_wp2_with fail
    refine Calls.mono HFI.out ?_
    rintro e w1 ⟨rfl, hb⟩
    have HB : Hid (Below w.heap.size w w1) := ((Below.refl w.heap.size w).alloc (Nat.le_refl _) _).trans (hb.mono (by simp))
    have hz := hb.size
    clear hb
    go_wp2
    go_ret
    exact deed_none HDK.out rfl (HB.out.alloc HB.out.size _)
  | false =>
    cases hi : isF D.files n with
    | false =>
      have HE : Hid (removeD D n = (D, 16)) := by unfold removeD; rw [if_neg (by rw [hdk]; simp), if_pos hi]; rfl
      rw [HE.out]
      simp only [hdk, hi, ↓reduceIte, Bool.false_eq_true] at HFI
      go_enter Try.func19, Try.ntmps19
      go_wp2_with fail
      refine Calls.mono HFI.out ?_
      rintro e w1 ⟨rfl, hb⟩
      have HB : Hid (Below w.heap.size w w1) := ((Below.refl w.heap.size w).alloc (Nat.le_refl _) _).trans (hb.mono (by simp))
      clear hb
      go_wp2
      go_ret
      exact deed_none HDK.out rfl (HB.out.alloc HB.out.size _)
    | true =>
      have HE : Hid (removeD D n = burn D (fun fs => dropF fs (posF fs n))) := by unfold removeD; rw [if_neg (by rw [hdk]; simp), if_neg (by rw [hi]; simp)]; rfl
      rw [HE.out]
      obtain ⟨hl, hlook, hname⟩ := lookF_is hi
      simp only [hdk, hi, ↓reduceIte, Bool.false_eq_true] at HFI
      go_enter Try.func19, Try.ntmps19
      go_wp2_with fail
      refine Calls.mono HFI.out ?_
      rintro e w1 ⟨rfl, hb⟩
      have HB : Hid (Below w.heap.size w w1) := ((Below.refl w.heap.size w).alloc (Nat.le_refl _) _).trans (hb.mono (by simp))
      have hz := HB.out.size
      have hx1 : w1.heap[w.heap.size]? = some (.cells #[.pointer (some ⟨bd, 0, none⟩)] 23 (0, 0)) := (hb.block _ (by simp)).trans (heap_alloc_new w _)
      have c1 : w1.cell? ⟨w.heap.size, 0, none⟩ = some (.pointer (some ⟨bd, 0, none⟩)) := by rw [cell_of hx1]; rfl
      have d1 := (HST.out.below HB.out).d0
      have HX1 : Hid _ := hx1
      have hlx : w.heap.size < w1.heap.size := (Array.getElem?_eq_some_iff.1 hx1).1
      have hltd1 : bd < w1.heap.size := by omega
      clear hb hx1
      go_wp2_with fail
      have HS2 : Hid (St (w1.alloc (Obj.cells #[Value.int IntKind.i64 (posF D.files n)] 3)) bd bs bc fv ps D.most D.fuse D.dark) := (HST.out.below HB.out).below ((Below.refl _ _).alloc (Nat.le_refl _) _)
      have hkp : posF D.files n < ps.length := by omega
      refine (do_61 HS2.out HOK.out.fuse w.heap.size w1.heap.size ((fun fs => dropF fs (posF fs n)) D.files) (fun wx fz hS hk => ?_)).mono ?_
      · refine (remove1 hS w.heap.size w1.heap.size (posF D.files n) hkp (by have := HOK.out.many; omega) ?_ ?_).mono ?_
        · rw [hk _ (by omega), Below.heap_alloc _ _ _ hlx]; exact HX1.out
        · rw [hk _ (by omega)]; exact heap_alloc_new w1 _
        · rintro e w' ⟨rfl, hd⟩
          refine ⟨rfl, ?_⟩
          rw [HPS.out] at hd
          exact hd
      · rintro e w2 hdone
        obtain ⟨x, rfl⟩ := hdone.int
        have HDN : Hid _ := hdone
        clear hdone
        go_wp2
        go_ret
        exact deed_done ((fun fs => dropF fs (posF fs n))) HPS.out HFF.out HOK.out (good_drop HOK.out.good _) (HB.out.alloc HB.out.size _) HDN.out
end Go.Proofs.Ytloigepmmhcibaa
