/-
  A disk as its callers see it; the contracts of Sync, Remove, Cut. The contracts of New, Arm, Down, Read, List, Size, Synced, Used, as the caller sees them. The contracts of inName, mayBe. Own work.
-/
import Derived.Test.YtffgbjojngnebaaDoorQo
import Derived.Test.YtffgbjojngnebaaDoorQh
namespace Go.Proofs.YtffgbjojngnebaaDoor
open Go.RowKit

/-- d is a disk that has D, in the memory F -/
def Dk (w : World) (F : Nat → Prop) (d : Value) (D : AD) : Prop :=
  ∃ bd bs bc fv ps, d = .pointer (some ⟨bd, 0, none⟩) ∧ St w bd bs bc fv ps D.most D.fuse D.dark ∧ ps.map Prod.fst = D.files ∧ (∀ b, Blk bd bs bc fv ps b → F b) ∧ D.ok
/-- a memory, and what is new -/
def grow (F : Nat → Prop) (w w' : World) (b : Nat) : Prop := F b ∨ w.heap.size ≤ b ∧ b < w'.heap.size
/-- how a deed ends, as the caller sees it -/
def Deed (e : Ending) (w w' : World) (F : Nat → Prop) (d : Value) (r : AD × Nat) : Prop := e = .returned (.int .i64 r.2) ∧ Dk w' (grow F w w') d r.1 ∧ Chg F w w'

theorem Dk.mono {w : World} {F G : Nat → Prop} {d : Value} {D : AD} (h : Dk w F d D) (hg : ∀ b, b < w.heap.size → F b → G b) : Dk w G d D := by
  obtain ⟨bd, bs, bc, fv, ps, h1, h2, h3, h4, h5⟩ := h
  exact ⟨bd, bs, bc, fv, ps, h1, h2, h3, fun b hb => hg b (h2.lt b hb) (h4 b hb), h5⟩
theorem Dk.below {w w' : World} {F : Nat → Prop} {d : Value} {D : AD} (h : Dk w F d D) (hb : Below w.heap.size w w') : Dk w' F d D := by
  obtain ⟨bd, bs, bc, fv, ps, h1, h2, h3, h4, h5⟩ := h
  exact ⟨bd, bs, bc, fv, ps, h1, h2.below hb, h3, h4, h5⟩
theorem Dk.chg {w w' : World} {F G : Nat → Prop} {d : Value} {D : AD} (h : Dk w F d D) (hb : Chg G w w') (hd : ∀ b, F b → ¬ G b) : Dk w' F d D := by
  obtain ⟨bd, bs, bc, fv, ps, h1, h2, h3, h4, h5⟩ := h
  exact ⟨bd, bs, bc, fv, ps, h1, h2.chg hb (fun b hB => hd b (h4 b hB)), h3, h4, h5⟩
theorem Dk.ok {w : World} {F : Nat → Prop} {d : Value} {D : AD} (h : Dk w F d D) : D.ok := by
  obtain ⟨bd, bs, bc, fv, ps, h1, h2, h3, h4, h5⟩ := h
  exact h5

/-- nothing was done -/
theorem deed_none {e : Ending} {w w' : World} {F : Nat → Prop} {d : Value} {D : AD} {n : Nat} (h : Dk w F d D) (he : e = .returned (.int .i64 n)) (hb : Below w.heap.size w w') : Deed e w w' F d (D, n) :=
  ⟨he, (h.below hb).mono (fun _ _ h => .inl h), Chg.ofBelow hb F⟩
/-- a deed came to the fuse -/
theorem deed_done {e : Ending} {w w1 w' : World} {F : Nat → Prop} {bd bs bc : Nat} {fv : Value} {ps : List (AF × Value)} {D : AD} (g : List AF → List AF) (hps : ps.map Prod.fst = D.files) (hF : ∀ b, Blk bd bs bc fv ps b → F b) (hok : D.ok) (hg : good D.most (g D.files))
    (hb : Below w.heap.size w w1) (h : Done e w1 w' bd bs bc fv ps D.most D.fuse D.dark (g D.files)) : Deed e w w' F (.pointer (some ⟨bd, 0, none⟩)) (burn D g) := by
  have hbk := burn_ok hok g hg
  have key : ∀ (fz : Int) (dk : Bool) (fs : List AF), Did w1 w' bd bs bc fv ps D.most fz dk fs → (AD.mk fs D.most fz dk).ok → Dk w' (grow F w w') (.pointer (some ⟨bd, 0, none⟩)) ⟨fs, D.most, fz, dk⟩ ∧ Chg F w w' := by
    rintro fz dk fs ⟨fv', ps', h1, h2, h3, h4⟩ hok'
    refine ⟨⟨bd, bs, bc, fv', ps', rfl, h1, h2, fun b hB => ?_, hok'⟩, (Chg.ofBelow hb F).trans h4 (fun i _ hi => hF i hi)⟩
    rcases h3 b hB with h | h
    · exact .inl (hF b h)
    · exact .inr ⟨Nat.le_trans hb.size h, h1.lt b hB⟩
  unfold burn at hbk ⊢
  rcases h with ⟨h0, rfl, hd⟩ | ⟨h0, rfl, hd⟩
  · rw [if_pos h0] at hbk ⊢
    rw [hps] at hd
    exact ⟨rfl, key _ _ _ hd hbk⟩
  · rw [if_neg h0] at hbk ⊢
    exact ⟨rfl, key _ _ _ hd hbk⟩

theorem Done.int {e : Ending} {w w' : World} {bd bs bc : Nat} {fv : Value} {ps : List (AF × Value)} {most : Nat} {fuse : Int} {dark : Bool} {fs' : List AF} (h : Done e w w' bd bs bc fv ps most fuse dark fs') : ∃ x : Int, e = .returned (.int .i64 x) := by
  rcases h with ⟨_, h, _⟩ | ⟨_, h, _⟩
  · exact ⟨15, h⟩
  · exact ⟨0, h⟩
theorem ps_at {ps : List (AF × Value)} {fs : List AF} (h : ps.map Prod.fst = fs) (k : Nat) (hk : k < ps.length) (hk2 : k < fs.length) : ps[k].1 = fs[k] := by
  subst h
  simp
theorem atF_put {fs : List AF} {n : ByteArray} (hi : isF fs n = true) (f : AF) (hf : f.name = n) : putF fs f = atF fs (posF fs n) f := by
  subst hf
  rw [putF_is hi]
  rfl

set_option maxRecDepth 100000 in
set_option maxHeartbeats 2000000 in
theorem sync_any {w : World} {F : Nat → Prop} {d : Value} {D : AD} (h : Dk w F d D) (n : ByteArray) :
    Calls Tryd.prog 18 #[d, .string n] w fun e w' => Deed e w w' F d (syncD D n) := by
  obtain ⟨bd, bs, bc, fv, ps, rfl, hst, hps, hF, hok⟩ := id h
  have HDK : Hid _ := h
  have HST : Hid _ := hst
  have HOK : Hid _ := hok
  have HPS : Hid _ := hps
  have hmany := hok.many
  have hlen : ps.length = D.files.length := by rw [← hps, List.length_map]
  have HFI : Hid _ := find_any (w := w.alloc (.cells #[.pointer (some ⟨bd, 0, none⟩)] 33)) (hst.below ((Below.refl _ _).alloc (Nat.le_refl _) _)) (by rw [hps]; exact hok.sorted) (by omega) n
  rw [hps] at HFI
  have HFF : Hid _ := hF
  have hltd := hst.ltd
  have hlts := hst.lts
  clear h hst hok hps hF hmany
  cases hdk : D.dark with
  | true =>
    have HE : Hid (syncD D n = (D, 15)) := by unfold syncD; rw [if_pos hdk]; rfl
    rw [HE.out]
    simp only [hdk, ↓reduceIte] at HFI
    go_enter Tryd.func18, Tryd.ntmps18
    go_wp2_with fail
    refine Calls.mono HFI.out ?_
    rintro e w1 ⟨rfl, hb⟩
    have HB : Hid (Below w.heap.size w w1) := ((Below.refl w.heap.size w).alloc (Nat.le_refl _) _).trans (hb.mono (by simp))
    have hz := hb.size
    clear hb
    go_wp2
    go_ret
    exact deed_none HDK.out rfl (HB.out.alloc HB.out.size _)
  | false =>
    cases hi : isF D.files n with
    | false =>
      have HE : Hid (syncD D n = (D, 16)) := by unfold syncD; rw [if_neg (by rw [hdk]; simp), if_pos hi]; rfl
      rw [HE.out]
      simp only [hdk, hi, ↓reduceIte, Bool.false_eq_true] at HFI
      go_enter Tryd.func18, Tryd.ntmps18
      go_wp2_with fail
      refine Calls.mono HFI.out ?_
      rintro e w1 ⟨rfl, hb⟩
      have HB : Hid (Below w.heap.size w w1) := ((Below.refl w.heap.size w).alloc (Nat.le_refl _) _).trans (hb.mono (by simp))
      clear hb
      go_wp2
      go_ret
      exact deed_none HDK.out rfl (HB.out.alloc HB.out.size _)
    | true =>
      have HE : Hid (syncD D n = burn D (syncF n)) := by unfold syncD; rw [if_neg (by rw [hdk]; simp), if_neg (by rw [hi]; simp)]; rfl
      rw [HE.out]
      obtain ⟨hl, hlook, hname⟩ := lookF_is hi
      simp only [hdk, hi, ↓reduceIte, Bool.false_eq_true] at HFI
      go_enter Tryd.func18, Tryd.ntmps18
      go_wp2_with fail
      refine Calls.mono HFI.out ?_
      rintro e w1 ⟨rfl, hb⟩
      have HB : Hid (Below w.heap.size w w1) := ((Below.refl w.heap.size w).alloc (Nat.le_refl _) _).trans (hb.mono (by simp))
      have hz := HB.out.size
      have hx1 : w1.heap[w.heap.size]? = some (.cells #[.pointer (some ⟨bd, 0, none⟩)] 33 (0, 0)) := (hb.block _ (by simp)).trans (heap_alloc_new w _)
      have c1 : w1.cell? ⟨w.heap.size, 0, none⟩ = some (.pointer (some ⟨bd, 0, none⟩)) := by rw [cell_of hx1]; rfl
      have d1 := (HST.out.below HB.out).d0
      have HX1 : Hid _ := hx1
      have hlx : w.heap.size < w1.heap.size := (Array.getElem?_eq_some_iff.1 hx1).1
      have hltd1 : bd < w1.heap.size := by omega
      clear hb hx1
      go_wp2_with fail
      have HS2 : Hid (St (w1.alloc (Obj.cells #[Value.int IntKind.i64 (posF D.files n)] 3)) bd bs bc fv ps D.most D.fuse D.dark) := (HST.out.below HB.out).below ((Below.refl _ _).alloc (Nat.le_refl _) _)
      have hkp : posF D.files n < ps.length := by omega
      refine (do_60 HS2.out HOK.out.fuse w.heap.size w1.heap.size (syncF n D.files) (fun wx fz hS hk => ?_)).mono ?_
      · refine (sync1 hS w.heap.size w1.heap.size (posF D.files n) hkp ?_ ?_).mono ?_
        · rw [hk _ (by omega), Below.heap_alloc _ _ _ hlx]; exact HX1.out
        · rw [hk _ (by omega)]; exact heap_alloc_new w1 _
        · rintro e w' ⟨rfl, hd⟩
          refine ⟨rfl, ?_⟩
          rw [HPS.out, ps_at HPS.out _ hkp hl] at hd
          unfold syncF
          rw [atF_put hi _ rfl, hlook, show (⟨n, D.files[posF D.files n].bytes, D.files[posF D.files n].bytes.length⟩ : AF) = ⟨D.files[posF D.files n].name, D.files[posF D.files n].bytes, D.files[posF D.files n].bytes.length⟩ by rw [hname]]
          exact hd
      · rintro e w2 hdone
        obtain ⟨x, rfl⟩ := hdone.int
        have HDN : Hid _ := hdone
        clear hdone
        go_wp2
        go_ret
        exact deed_done (syncF n) HPS.out HFF.out HOK.out (good_sync HOK.out.good n hi) (HB.out.alloc HB.out.size _) HDN.out

set_option maxRecDepth 100000 in
set_option maxHeartbeats 2000000 in
theorem remove_any {w : World} {F : Nat → Prop} {d : Value} {D : AD} (h : Dk w F d D) (n : ByteArray) :
    Calls Tryd.prog 32 #[d, .string n] w fun e w' => Deed e w w' F d (removeD D n) := by
  obtain ⟨bd, bs, bc, fv, ps, rfl, hst, hps, hF, hok⟩ := id h
  have HDK : Hid _ := h
  have HST : Hid _ := hst
  have HOK : Hid _ := hok
  have HPS : Hid _ := hps
  have hmany := hok.many
  have hlen : ps.length = D.files.length := by rw [← hps, List.length_map]
  have HFI : Hid _ := find_any (w := w.alloc (.cells #[.pointer (some ⟨bd, 0, none⟩)] 33)) (hst.below ((Below.refl _ _).alloc (Nat.le_refl _) _)) (by rw [hps]; exact hok.sorted) (by omega) n
  rw [hps] at HFI
  have HFF : Hid _ := hF
  have hltd := hst.ltd
  have hlts := hst.lts
  clear h hst hok hps hF hmany
  cases hdk : D.dark with
  | true =>
    have HE : Hid (removeD D n = (D, 15)) := by unfold removeD; rw [if_pos hdk]; rfl
    rw [HE.out]
    simp only [hdk, ↓reduceIte] at HFI
    go_enter Tryd.func32, Tryd.ntmps32
    go_wp2_with fail
    refine Calls.mono HFI.out ?_
    rintro e w1 ⟨rfl, hb⟩
    have HB : Hid (Below w.heap.size w w1) := ((Below.refl w.heap.size w).alloc (Nat.le_refl _) _).trans (hb.mono (by simp))
    have hz := hb.size
    clear hb
    go_wp2
    go_ret
    exact deed_none HDK.out rfl (HB.out.alloc HB.out.size _)
  | false =>
    cases hi : isF D.files n with
    | false =>
      have HE : Hid (removeD D n = (D, 16)) := by unfold removeD; rw [if_neg (by rw [hdk]; simp), if_pos hi]; rfl
      rw [HE.out]
      simp only [hdk, hi, ↓reduceIte, Bool.false_eq_true] at HFI
      go_enter Tryd.func32, Tryd.ntmps32
      go_wp2_with fail
      refine Calls.mono HFI.out ?_
      rintro e w1 ⟨rfl, hb⟩
      have HB : Hid (Below w.heap.size w w1) := ((Below.refl w.heap.size w).alloc (Nat.le_refl _) _).trans (hb.mono (by simp))
      clear hb
      go_wp2
      go_ret
      exact deed_none HDK.out rfl (HB.out.alloc HB.out.size _)
    | true =>
      have HE : Hid (removeD D n = burn D (fun fs => dropF fs (posF fs n))) := by unfold removeD; rw [if_neg (by rw [hdk]; simp), if_neg (by rw [hi]; simp)]; rfl
      rw [HE.out]
      obtain ⟨hl, hlook, hname⟩ := lookF_is hi
      simp only [hdk, hi, ↓reduceIte, Bool.false_eq_true] at HFI
      go_enter Tryd.func32, Tryd.ntmps32
      go_wp2_with fail
      refine Calls.mono HFI.out ?_
      rintro e w1 ⟨rfl, hb⟩
      have HB : Hid (Below w.heap.size w w1) := ((Below.refl w.heap.size w).alloc (Nat.le_refl _) _).trans (hb.mono (by simp))
      have hz := HB.out.size
      have hx1 : w1.heap[w.heap.size]? = some (.cells #[.pointer (some ⟨bd, 0, none⟩)] 33 (0, 0)) := (hb.block _ (by simp)).trans (heap_alloc_new w _)
      have c1 : w1.cell? ⟨w.heap.size, 0, none⟩ = some (.pointer (some ⟨bd, 0, none⟩)) := by rw [cell_of hx1]; rfl
      have d1 := (HST.out.below HB.out).d0
      have HX1 : Hid _ := hx1
      have hlx : w.heap.size < w1.heap.size := (Array.getElem?_eq_some_iff.1 hx1).1
      have hltd1 : bd < w1.heap.size := by omega
      clear hb hx1
      go_wp2_with fail
      have HS2 : Hid (St (w1.alloc (Obj.cells #[Value.int IntKind.i64 (posF D.files n)] 3)) bd bs bc fv ps D.most D.fuse D.dark) := (HST.out.below HB.out).below ((Below.refl _ _).alloc (Nat.le_refl _) _)
      have hkp : posF D.files n < ps.length := by omega
      refine (do_61 HS2.out HOK.out.fuse w.heap.size w1.heap.size ((fun fs => dropF fs (posF fs n)) D.files) (fun wx fz hS hk => ?_)).mono ?_
      · refine (remove1 hS w.heap.size w1.heap.size (posF D.files n) hkp (by have := HOK.out.many; omega) ?_ ?_).mono ?_
        · rw [hk _ (by omega), Below.heap_alloc _ _ _ hlx]; exact HX1.out
        · rw [hk _ (by omega)]; exact heap_alloc_new w1 _
        · rintro e w' ⟨rfl, hd⟩
          refine ⟨rfl, ?_⟩
          rw [HPS.out] at hd
          exact hd
      · rintro e w2 hdone
        obtain ⟨x, rfl⟩ := hdone.int
        have HDN : Hid _ := hdone
        clear hdone
        go_wp2
        go_ret
        exact deed_done ((fun fs => dropF fs (posF fs n))) HPS.out HFF.out HOK.out (good_drop HOK.out.good _) (HB.out.alloc HB.out.size _) HDN.out
end Go.Proofs.YtffgbjojngnebaaDoor
namespace Go.Proofs.YtffgbjojngnebaaDoor
open Go.RowKit

theorem two_new' (w : World) (o p : Obj) : ((w.alloc o).alloc p).heap[w.heap.size]? = some o ∧ ((w.alloc o).alloc p).heap[w.heap.size + 1]? = some p ∧ Below w.heap.size w ((w.alloc o).alloc p) ∧ ((w.alloc o).alloc p).heap.size = w.heap.size + 2 := by
  refine ⟨?_, ?_, ((Below.refl _ _).alloc (Nat.le_refl _) _).alloc (by simp) _, by simp⟩
  · rw [Below.heap_alloc _ _ _ (by simp)]; exact heap_alloc_new w o
  · have := heap_alloc_new (w.alloc o) p
    rw [World.size_alloc] at this
    exact this

set_option maxRecDepth 100000 in
set_option maxHeartbeats 1000000 in
theorem new_any (w : World) (m : Nat) (hm : m ≤ 16777216) :
    Calls Tryd.prog 14 #[.int .i64 m] w fun e w' => ∃ d, e = .returned (.tuple #[d, .int .i64 0]) ∧ Dk w' (fun b => w.heap.size ≤ b ∧ b < w'.heap.size) d (newD m) ∧ Below w.heap.size w w' ∧ d ≠ .pointer none := by
  have h1 : ¬ ((m : Int) < 0) := by omega
  have h2 : ¬ ((16777216 : Int) < (m : Int)) := by omega
  obtain ⟨T1, T2, T3, T4⟩ := two_new' w (.cells #[.slice none 0 0, .nilFunc, .int .i64 m, .int .i64 (-1), .bool false] 80) (.cells #[.pointer (some ⟨w.heap.size, 0, none⟩)] 47)
  have hst : (store ⟨w.heap.size, 1, none⟩ (.func (.func 41) #[] #[.pointer (some ⟨w.heap.size + 1, 0, none⟩)])).run Tryd.prog ((w.alloc (.cells #[.slice none 0 0, .nilFunc, .int .i64 m, .int .i64 (-1), .bool false] 80)).alloc (.cells #[.pointer (some ⟨w.heap.size, 0, none⟩)] 47)) = .ok () (((w.alloc (.cells #[.slice none 0 0, .nilFunc, .int .i64 m, .int .i64 (-1), .bool false] 80)).alloc (.cells #[.pointer (some ⟨w.heap.size, 0, none⟩)] 47)).setCell ⟨w.heap.size, 1, none⟩ (.func (.func 41) #[] #[.pointer (some ⟨w.heap.size + 1, 0, none⟩)])) := by
    rw [run_store Tryd.prog _ _ _ _ rfl, cell_of T1, frozen_of T1]
    rfl
  obtain ⟨W, HW⟩ := named (((w.alloc (.cells #[.slice none 0 0, .nilFunc, .int .i64 m, .int .i64 (-1), .bool false] 80)).alloc (.cells #[.pointer (some ⟨w.heap.size, 0, none⟩)] 47)).setCell ⟨w.heap.size, 1, none⟩ (.func (.func 41) #[] #[.pointer (some ⟨w.heap.size + 1, 0, none⟩)]))
  rw [← HW.out] at hst
  have g1 : W.heap[w.heap.size]? = some (.cells #[.slice none 0 0, .func (.func 41) #[] #[.pointer (some ⟨w.heap.size + 1, 0, none⟩)], .int .i64 m, .int .i64 (-1), .bool false] 80 (0, 0)) := by rw [HW.out, heap_set T1]; rfl
  have g2 : W.heap[w.heap.size + 1]? = some (.cells #[.pointer (some ⟨w.heap.size, 0, none⟩)] 47 (0, 0)) := by rw [HW.out, Below.heap_setCell _ _ _ _ (by show w.heap.size + 1 ≠ w.heap.size; omega)]; exact T2
  have HB : Hid (Below w.heap.size w W) := by rw [HW.out]; exact T3.setCell (Nat.le_refl _) _
  have hz : W.heap.size = w.heap.size + 2 := by rw [HW.out]; simp [World.setCell]
  have k1 : W.cell? ⟨w.heap.size + 1, 0, none⟩ = some (.pointer (some ⟨w.heap.size, 0, none⟩)) := by rw [cell_of g2]; rfl
  have G1 : Hid _ := g1
  have G2 : Hid _ := g2
  have HZ : Hid _ := hz
  clear T1 T2 T3 T4 g1 g2 hz
  go_enter Tryd.func14, Tryd.ntmps14
  go_wp2
  go_ret2
  have hlt : w.heap.size < W.heap.size := by rw [HZ.out]; omega
  refine ⟨_, rfl, ⟨W.heap.size, w.heap.size, w.heap.size + 1, .slice none 0 0, [], rfl, ⟨?_, ?_, ?_, World.ownsRow_nil _ _ _ _, fun p hp => absurd hp List.not_mem_nil, List.Pairwise.nil⟩, rfl, fun b hb => ?_, new_ok m hm⟩, HB.out.alloc HB.out.size _, by simp⟩
  · exact heap_alloc_new W _
  · rw [Below.heap_alloc _ _ _ hlt]; exact G1.out
  · rw [Below.heap_alloc _ _ _ (by rw [HZ.out]; omega)]; exact G2.out
  · have e : (W.alloc (Obj.cells #[Value.pointer (some ⟨w.heap.size, 0, none⟩)] 49)).heap.size = w.heap.size + 3 := by rw [World.size_alloc, HZ.out]
    show w.heap.size ≤ b ∧ b < (W.alloc (Obj.cells #[Value.pointer (some ⟨w.heap.size, 0, none⟩)] 49)).heap.size
    rw [e]
    have := HZ.out
    rcases hb with h | h | h | h | ⟨p, hp, _⟩
    · omega
    · omega
    · omega
    · cases h
    · exact absurd hp List.not_mem_nil
set_option maxRecDepth 100000 in
set_option maxHeartbeats 1000000 in
theorem new_bad (w : World) (m : Int) (hm : m < 0 ∨ 16777216 < m) : Calls Tryd.prog 14 #[.int .i64 m] w fun e w' => e = .returned (.tuple #[.pointer none, .int .i64 2]) ∧ w' = w := by
  rcases hm with hm | hm
  · go_enter Tryd.func14, Tryd.ntmps14
    go_wp2
    go_ret2
    exact ⟨rfl, rfl⟩
  · have h1 : ¬ (m < 0) := by omega
    go_enter Tryd.func14, Tryd.ntmps14
    go_wp2
    go_ret2
    exact ⟨rfl, rfl⟩
theorem arm_any {w : World} {F : Nat → Prop} {d : Value} {D : AD} (h : Dk w F d D) (n : Int) (hn : n ≤ 9223372036854775807) :
    Calls Tryd.prog 17 #[d, .int .i64 n] w fun e w' => e = .returned (.tuple #[]) ∧ Dk w' F d (armD D n) ∧ Chg F w w' := by
  obtain ⟨bd, bs, bc, fv, ps, rfl, hst, hps, hF, hok⟩ := id h
  refine (arm_cell w bd bs D.dark n hst.d0 hst.s4 ⟨_, hst.s3⟩ (hst.sz 3)).mono ?_
  rintro e w' ⟨rfl, rfl⟩
  unfold armD
  cases hd : D.dark with
  | true => exact ⟨rfl, by simpa using h, by simpa using Chg.refl F w⟩
  | false =>
    refine ⟨rfl, ?_, ?_⟩
    · have hS := hst.setFuse (max n 0)
      have hk := arm_ok hok n hn
      unfold armD at hk
      rw [if_neg (by rw [hd]; simp)] at hk
      simp only [Bool.false_eq_true, ↓reduceIte]
      exact ⟨bd, bs, bc, fv, ps, rfl, by rw [hd] at hS; simpa [hd] using hS, hps, hF, by rw [hd] at hk; exact hk⟩
    · simp only [Bool.false_eq_true, ↓reduceIte]
      exact (Chg.refl F w).setCell (p := ⟨bs, 3, none⟩) (.inl (hF bs (.inr (.inl rfl)))) _
theorem psl {ps : List (AF × Value)} {D : AD} (hps : ps.map Prod.fst = D.files) (hok : D.ok) : ps.length ≤ 1000 := by
  have h1 := hok.many
  have h2 : ps.length = D.files.length := by rw [← hps, List.length_map]
  omega
theorem size_any {w : World} {F : Nat → Prop} {d : Value} {D : AD} (h : Dk w F d D) (n : ByteArray) : Calls Tryd.prog 34 #[d, .string n] w fun e w' => e = .returned (.int .i64 (lookF D.files n).bytes.length) ∧ Below w.heap.size w w' := by
  obtain ⟨bd, bs, bc, fv, ps, rfl, hst, hps, hF, hok⟩ := h
  have := size_st hst (by rw [hps]; exact hok.sorted) (psl hps hok) n
  rw [hps] at this
  exact this
theorem used_any {w : World} {F : Nat → Prop} {d : Value} {D : AD} (h : Dk w F d D) : Calls Tryd.prog 29 #[d] w fun e w' => e = .returned (.int .i64 (used D.files)) ∧ Below w.heap.size w w' := by
  obtain ⟨bd, bs, bc, fv, ps, rfl, hst, hps, hF, hok⟩ := h
  have := used_st hst (psl hps hok) (by rw [hps]; have h1 := hok.room; have h2 := hok.most; omega)
  rw [hps] at this
  exact this
theorem list_any {w : World} {F : Nat → Prop} {d : Value} {D : AD} (h : Dk w F d D) : Calls Tryd.prog 30 #[d] w fun e w' => ∃ v, e = .returned v ∧ OwnS w' w.heap.size v (D.files.map AF.name) ∧ Below w.heap.size w w' := by
  obtain ⟨bd, bs, bc, fv, ps, rfl, hst, hps, hF, hok⟩ := h
  have := list_st hst (psl hps hok)
  rw [show (ps.map fun p => p.1.name) = D.files.map AF.name by rw [← hps, List.map_map]; rfl] at this
  exact this
theorem read_any {w : World} {F : Nat → Prop} {d : Value} {D : AD} (h : Dk w F d D) (n : ByteArray) : Calls Tryd.prog 28 #[d, .string n] w fun e w' => ∃ v, e = .returned (.tuple #[v, .int .i64 (readD D n).2]) ∧ Own w' w.heap.size v (readD D n).1 ∧ Below w.heap.size w w' := by
  obtain ⟨bd, bs, bc, fv, ps, rfl, hst, hps, hF, hok⟩ := h
  have hr := read_st hst (by rw [hps]; exact hok.sorted) (psl hps hok) (by rw [hps]; have h1 := hok.room; have h2 := hok.most; omega) n
  rw [hps] at hr
  refine hr.mono ?_
  rintro e w' ⟨v, rfl, ho, hb⟩
  refine ⟨v, ?_, ?_, hb⟩
  · unfold readD
    cases D.dark <;> cases isF D.files n <;> simp
  · unfold readD
    cases hd : D.dark <;> cases hi : isF D.files n <;> simpa [hd, hi] using ho
end Go.Proofs.YtffgbjojngnebaaDoor
namespace Go.Proofs.YtffgbjojngnebaaDoor
open Go.RowKit

theorem inName_eq (x : UInt8) : inName x = (decide ((97 : Int) ≤ x.toNat) && decide ((x.toNat : Int) ≤ 122) || decide ((48 : Int) ≤ x.toNat) && decide ((x.toNat : Int) ≤ 57) || ((x.toNat : Int) == 46) || ((x.toNat : Int) == 45)) := by
  have : ∀ y : Fin 256, inName (UInt8.ofNat y.val) = (decide ((97 : Int) ≤ (UInt8.ofNat y.val).toNat) && decide (((UInt8.ofNat y.val).toNat : Int) ≤ 122) || decide ((48 : Int) ≤ (UInt8.ofNat y.val).toNat) && decide (((UInt8.ofNat y.val).toNat : Int) ≤ 57) || (((UInt8.ofNat y.val).toNat : Int) == 46) || (((UInt8.ofNat y.val).toNat : Int) == 45)) := by decide +kernel
  have h := this ⟨x.toNat, x.toNat_lt⟩
  simpa using h

set_option maxRecDepth 100000 in
set_option maxHeartbeats 400000 in
theorem inName_any (x : UInt8) (w : World) : Calls Tryd.prog 82 #[.int .u8 x.toNat] w fun e w' => e = .returned (.bool (inName x)) ∧ w' = w := by
  have HE : Hid _ := inName_eq x
  obtain ⟨r, HR⟩ := named (inName x)
  rw [← HR.out] at HE ⊢
  obtain ⟨n, HN⟩ := named x.toNat
  rw [← HN.out] at HE ⊢
  go_enter Tryd.func82, Tryd.ntmps82
  go_wp2
  all_goals go_ret
  all_goals exact ⟨ret_bool (by rw [HE.out, Bool.eq_iff_iff]; first | (simp [*]; done) | (simp; omega) | (simp [*]; omega)), rfl⟩

theorem all_take (l : List UInt8) (k : Nat) (h : k < l.length) : (l.take (k + 1)).all inName = ((l.take k).all inName && inName l[k]) := by
  rw [List.take_succ_eq_append_getElem h, List.all_append]; simp only [List.all_cons, List.all_nil, Bool.and_true]

set_option maxRecDepth 100000 in
set_option maxHeartbeats 400000 in
theorem mayBe_any (n : ByteArray) (w : World) (hmax : n.size ≤ 140737488355328) : Calls Tryd.prog 47 #[.string n] w fun e w' => e = .returned (.bool (right n)) ∧ w' = w := by
  obtain ⟨r, HR⟩ := named (right n)
  rw [← HR.out]
  by_cases h1 : (n.size : Int) < 1
  · have HE : Hid (r = false) := by rw [HR.out]; unfold right; simp [Hid]; omega
    rw [HE.out]
    go_enter Tryd.func47, Tryd.ntmps47
    go_wp2
    go_ret
    exact ⟨rfl, rfl⟩
  · by_cases h2 : 60 < (n.size : Int)
    · have HE : Hid (r = false) := by rw [HR.out]; unfold right; simp [Hid]; omega
      rw [HE.out]
      go_enter Tryd.func47, Tryd.ntmps47
      go_wp2
      go_ret
      exact ⟨rfl, rfl⟩
    · have HE : Hid (r = n.data.toList.all inName) := by
        rw [HR.out]; unfold right
        have e1 : decide (1 ≤ n.size) = true := by simp; omega
        have e2 : decide (n.size ≤ 60) = true := by simp; omega
        rw [e1, e2]
        rfl
      have hsz : n.data.toList.length = n.size := rfl
      go_enter Tryd.func47, Tryd.ntmps47
      go_wp2
      go_loop [14] (fun iv => ∃ k : Nat, k ≤ n.size ∧ iv = .int .i64 k ∧ (n.data.toList.take k).all inName = true) (fun iv => n.size - (intOf iv).toNat)
      case atStart => exact ⟨0, by omega, rfl, rfl⟩
      case round =>
        obtain ⟨k, hk, rfl, hall⟩ := hrel
        have HA : Hid _ := hall
        clear hall
        by_cases hlt : k < n.size
        · have HT : Hid _ := all_take n.data.toList k (by rw [hsz]; exact hlt)
          rw [HA.out] at HT
          go_wp2_with fail
          refine (inName_any _ _).mono ?_
          rintro e w1 ⟨rfl, hw1⟩
          subst hw1
          have HX : Hid (inName n.data.toList[k] = inName n[k]) := rfl
          cases hin : inName n[k] with
          | true =>
            go_wp2
            go_round
            case rel => exact ⟨k + 1, by omega, by go_num, by rw [HT.out, HX.out, hin]; rfl⟩
            case measure => simp [intOf]; omega
          | false =>
            have HK : Hid (r = false) := by
              rw [HE.out]
              have h3 : (n.data.toList.take (k + 1)).all inName = false := by rw [HT.out, HX.out, hin]; rfl
              cases h4 : n.data.toList.all inName with
              | false => rfl
              | true =>
                rw [← List.take_append_drop (k + 1) n.data.toList, List.all_append, h3] at h4
                simp at h4
            go_wp2
            go_ret
            exact ⟨by rw [HK.out]; rfl, rfl⟩
        · have HK : Hid (r = true) := by
            rw [HE.out]
            have := HA.out
            rw [List.take_of_length_le (by rw [hsz]; omega)] at this
            exact this
          go_wp2
          go_ret
          exact ⟨by rw [HK.out]; rfl, rfl⟩
end Go.Proofs.YtffgbjojngnebaaDoor
