/-
  A log that a call has made for itself, upon a disk that it has made, and what is done to it, one behind the other. A log and its disk in a memory of their own, beside what else the call has made. awake: the chapter's examples come out as written. Own work.
-/
import Derived.Test.YtomhkjacngmnhaaGreatDoorQv
import Derived.Test.YtomhkjacngmnhaaGreatDoorQr
import Derived.Test.YtomhkjacngmnhaaGreatDoorQf
import Derived.Deep.QuietTactic
import Derived.BigQuiet
namespace Go.Proofs.YtomhkjacngmnhaaGreatDoor
open Go.RowKit

/-- l is a log that has L, upon the disk d that has D, all of it made since B; below B it is as in w0 -/
structure UpL (B : Nat) (w0 w : World) (l d : Value) (L : AL) (D : AD) : Prop where
  lk : ∃ bl bs, l = .pointer (some ⟨bl, 0, none⟩) ∧ Lk w (fun b => B ≤ b ∧ b < w.heap.size) bl bs d L D
  bel : Below B w0 w
  le : B ≤ w.heap.size
  six : 6 ≤ B
  laid : Laid w

section
variable {B : Nat} {w0 w w' : World} {l d : Value} {L : AL} {D : AD}
theorem UpL.below (h : UpL B w0 w l d L D) (hb : Below w.heap.size w w') : UpL B w0 w' l d L D := by
  obtain ⟨bl, bs, rfl, hk⟩ := h.lk
  have hs := hb.size
  exact ⟨⟨bl, bs, rfl, (hk.below hb).mono fun b _ hF => ⟨hF.1, by have := hF.2; omega⟩⟩, h.bel.trans (hb.mono h.le), by have := h.le; omega, h.six, h.laid.below hb⟩
theorem UpL.fok (h : UpL B w0 w l d L D) : Fok (fun b => B ≤ b ∧ b < w.heap.size) w :=
  ⟨by have := h.six; have := h.le; omega, fun b hb => ⟨by have := h.six; have := hb.1; omega, hb.2⟩⟩
theorem UpL.deed {bl bs : Nat} {L' : AL} {D' : AD} (h : UpL B w0 w (.pointer (some ⟨bl, 0, none⟩)) d L D) (hk : Lk w' (grow (fun b => B ≤ b ∧ b < w.heap.size) w w') bl bs d L' D') (hc : Chg (fun b => B ≤ b ∧ b < w.heap.size) w w') : UpL B w0 w' (.pointer (some ⟨bl, 0, none⟩)) d L' D' := by
  have hs := hc.size
  have hl := h.le
  refine ⟨⟨bl, bs, rfl, hk.mono fun b _ hF => ?_⟩, h.bel.trans (hc.below B (fun k hk => hk.1) (by omega)), by omega, h.six, h.laid.chg hc fun b hb => by have := h.six; have := hb.1; omega⟩
  rcases hF with hF | hF
  · exact ⟨hF.1, by have := hF.2; omega⟩
  · exact ⟨by have := hF.1; omega, hF.2⟩
theorem UpL.write (h : UpL B w0 w l d L D) (hm : L.firsts.length < 1000000) (v : Value) (ps : List (Value × List UInt8)) (hv : RdL w v ps) (hsmall : ∀ i (h : i < ps.length), ps[i].2.length ≤ 281474976700000) :
    Calls Tryz.prog 19 #[l, v] w fun e w' => e = .returned (.tuple #[.int .i64 (writeG (ps.map Prod.snd) L D).2.2.1, .int .i64 (writeG (ps.map Prod.snd) L D).2.2.2]) ∧ UpL B w0 w' l d (writeG (ps.map Prod.snd) L D).1 (writeG (ps.map Prod.snd) L D).2.1 := by
  obtain ⟨bl, bs, rfl, hk⟩ := h.lk
  refine (write_log hk h.fok h.laid hm v ps hv hsmall).mono ?_
  rintro e w' ⟨rfl, k1, k2⟩
  exact ⟨rfl, h.deed k1 k2⟩
theorem UpL.sync (h : UpL B w0 w l d L D) : Calls Tryz.prog 20 #[l] w fun e w' => e = .returned (.int .i64 (syncG L D).2.2) ∧ UpL B w0 w' l d (syncG L D).1 (syncG L D).2.1 := by
  obtain ⟨bl, bs, rfl, hk⟩ := h.lk
  refine (sync_log hk h.fok h.laid).mono ?_
  rintro e w' ⟨rfl, k1, k2⟩
  exact ⟨rfl, h.deed k1 k2⟩
theorem UpL.last (h : UpL B w0 w l d L D) : Calls Tryz.prog 23 #[l] w fun e w' => e = .returned (.int .i64 L.last) ∧ UpL B w0 w' l d L D := by
  obtain ⟨bl, bs, rfl, hk⟩ := h.lk
  refine (last_any hk).mono ?_
  rintro e w' ⟨rfl, hb⟩
  exact ⟨rfl, h.below hb⟩
theorem UpL.acked (h : UpL B w0 w l d L D) : Calls Tryz.prog 24 #[l] w fun e w' => e = .returned (.int .i64 L.acked) ∧ UpL B w0 w' l d L D := by
  obtain ⟨bl, bs, rfl, hk⟩ := h.lk
  refine (acked_any hk).mono ?_
  rintro e w' ⟨rfl, hb⟩
  exact ⟨rfl, h.below hb⟩
theorem UpL.over (h : UpL B w0 w l d L D) : Calls Tryz.prog 22 #[l] w fun e w' => e = .returned (.bool L.over) ∧ UpL B w0 w' l d L D := by
  obtain ⟨bl, bs, rfl, hk⟩ := h.lk
  refine (over_any hk).mono ?_
  rintro e w' ⟨rfl, hb⟩
  exact ⟨rfl, h.below hb⟩
theorem UpL.files (h : UpL B w0 w l d L D) : Calls Tryz.prog 26 #[l] w fun e w' => ∃ v, e = .returned v ∧ OwnV w' w.heap.size 9 v ((filesB L).map .string) ∧ Below w.heap.size w w' ∧ UpL B w0 w' l d L D := by
  obtain ⟨bl, bs, rfl, hk⟩ := h.lk
  refine (files_any hk h.laid).mono ?_
  rintro e w' ⟨v, rfl, ho, hb⟩
  exact ⟨v, rfl, ho, hb, h.below hb⟩
theorem UpL.size (h : UpL B w0 w l d L D) (n : ByteArray) : Calls Tryz.prog 56 #[d, .string n] w fun e w' => e = .returned (.int .i64 (lookF D.files n).bytes.length) ∧ UpL B w0 w' l d L D := by
  obtain ⟨bl, bs, rfl, hk⟩ := h.lk
  refine (size_any hk.dk n).mono ?_
  rintro e w' ⟨rfl, hb⟩
  exact ⟨rfl, h.below hb⟩
theorem UpL.synced (h : UpL B w0 w l d L D) (n : ByteArray) : Calls Tryz.prog 55 #[d, .string n] w fun e w' => e = .returned (.int .i64 (lookF D.files n).safe) ∧ UpL B w0 w' l d L D := by
  obtain ⟨bl, bs, rfl, hk⟩ := h.lk
  refine (synced_any hk.dk n).mono ?_
  rintro e w' ⟨rfl, hb⟩
  exact ⟨rfl, h.below hb⟩
/-- Begin, upon a disk that the call has made -/
theorem UpL.begin (h : Up B w0 w d D) (h6 : 6 ≤ B) (hw : Laid w) (size : Nat) (last : Int) (hb : beginOk size last) : Calls Tryz.prog 13 #[d, .int .i64 size, .int .i64 last] w fun e w' => ∃ l, e = .returned (.tuple #[l, .int .i64 0]) ∧ (∃ bl, l = .pointer (some ⟨bl, 0, none⟩)) ∧ UpL B w0 w' l d ⟨size, [], last, last, false⟩ D := by
  refine (begin_ok h.dk size last hb).mono ?_
  rintro e w' ⟨bl, bs, rfl, hk, hb⟩
  have hs := hb.size
  have hl := h.le
  refine ⟨_, rfl, ⟨bl, rfl⟩, ⟨bl, bs, rfl, hk.mono fun b _ hF => ?_⟩, h.bel.trans (hb.mono h.le), by omega, h6, hw.below hb⟩
  rcases hF with hF | hF
  · exact ⟨hF.1, by have := hF.2; omega⟩
  · exact ⟨by have := hF.1; omega, hF.2⟩
end

/-- texts that stand in the program -/
theorem rdT_lit (w' : World) (C : Array Value) (g : Nat) (fz : Nat × Nat) (us : List ByteArray) (hg : w'.heap[g]? = some (.cells C 9 fz)) (hC : C = (us.map fun x => Value.string x).toArray) (h2 : us.length ≤ 1000) : RdT w' (.slice (some ⟨g, 0, none⟩) us.length us.length) us := by
  have hm : (1000 : Nat) ≤ maxLen := by simp [maxLen]
  refine ⟨_, _, by rw [List.length_map], by rw [List.length_map]; exact Nat.le_refl _, by omega, by simp, ?_⟩
  rintro a ⟨⟩ i hi
  rw [show ((⟨g, 0, none⟩ : Addr).add i) = ⟨g, i, none⟩ by unfold Addr.add; split <;> simp_all, cell_of hg]
  subst hC
  rw [List.length_map] at hi
  simp [hi]

/-- recs of texts that stand in the program, upon a log -/
theorem UpL.recs {B : Nat} {w0 w : World} {l d : Value} {L : AL} {D : AD} (h : UpL B w0 w l d L D) (us : List ByteArray) (C : Array Value) (hC : C = (us.map fun x => Value.string x).toArray) (hn : us.length ≤ 1000) (hs : ∀ x ∈ us, x.size ≤ 1000) (n : Nat) (hnn : n = us.length) :
    Calls Tryz.prog 17 #[.slice (some ⟨w.heap.size, 0, none⟩) n n] (w.alloc (.cells C 9)) fun e w' => ∃ v, e = .returned v ∧ (∃ a k c, v = .slice a k c) ∧ (∃ ps, RdL w' v ps ∧ ps.map Prod.snd = us.map (fun x => x.data.toList)) ∧ UpL B w0 w' l d L D := by
  subst hnn
  have hb1 : Below w.heap.size w (w.alloc (.cells C 9)) := (Below.refl _ _).alloc (Nat.le_refl _) _
  refine (recs_any _ us _ (rdT_lit _ C _ _ us (heap_alloc_new w _) hC hn) hn hs).mono ?_
  rintro e w' ⟨v, ps, rfl, h1, h2, h3, h4, hb⟩
  obtain ⟨a, c, hv, -⟩ := id h1.1
  exact ⟨v, rfl, ⟨a, _, c, hv⟩, ⟨ps, h1, h2⟩, (h.below hb1).below hb⟩
end Go.Proofs.YtomhkjacngmnhaaGreatDoor
namespace Go.Proofs.YtomhkjacngmnhaaGreatDoor
open Go.RowKit

/-- l is a log that has L, upon the disk d that has D, in the memory F, made since B; below B it is as in w0 -/
structure UpF (F : Nat → Prop) (B : Nat) (w0 w : World) (l d : Value) (L : AL) (D : AD) : Prop where
  lk : ∃ bl bs, l = .pointer (some ⟨bl, 0, none⟩) ∧ Lk w F bl bs d L D
  fok : Fok F w
  fB : ∀ b, F b → B ≤ b
  bel : Below B w0 w
  le : B ≤ w.heap.size
  laid : Laid w
/-- a value that lies apart from F -/
def Off (F : Nat → Prop) (v : Value) : Prop := ∀ a, v.ownBlock = some a → ¬ F a

theorem Off.grow {F : Nat → Prop} {w w' : World} {base : Nat} {v : Value} {l : List UInt8} (h : Off F v) (ho : Own w base v l) : Off (grow F w w') v := by
  intro a ha hF
  have := (World.ownsRow.lt ho a ha).2
  rcases hF with hF | hF
  · exact h a ha hF
  · have := hF.1; omega
theorem Own.chg {F : Nat → Prop} {w w' : World} {v : Value} {l : List UInt8} (ho : Own w 0 v l) (hc : Chg F w w') (h : Off F v) : Own w' 0 v l :=
  Own.heap ho fun a ha => hc.block a (World.ownsRow.lt ho a ha).2 (h a ha)

section
variable {F : Nat → Prop} {B : Nat} {w0 w w' : World} {l d : Value} {L : AL} {D : AD}
theorem UpL.toF (h : UpL B w0 w l d L D) : UpF (fun b => B ≤ b ∧ b < w.heap.size) B w0 w l d L D :=
  ⟨h.lk, h.fok, fun _ hb => hb.1, h.bel, h.le, h.laid⟩
theorem UpF.toL (h : UpF F B w0 w l d L D) (h6 : 6 ≤ B) : UpL B w0 w l d L D := by
  obtain ⟨bl, bs, rfl, hk⟩ := h.lk
  exact ⟨⟨bl, bs, rfl, hk.mono fun b hb hF => ⟨h.fB b hF, hb⟩⟩, h.bel, h.le, h6, h.laid⟩
theorem UpF.below (h : UpF F B w0 w l d L D) (hb : Below w.heap.size w w') : UpF F B w0 w' l d L D := by
  obtain ⟨bl, bs, rfl, hk⟩ := h.lk
  have hs := hb.size
  exact ⟨⟨bl, bs, rfl, hk.below hb⟩, h.fok.below hb, h.fB, h.bel.trans (hb.mono h.le), by have := h.le; omega, h.laid.below hb⟩
theorem UpF.deed {bl bs : Nat} {L' : AL} {D' : AD} (h : UpF F B w0 w (.pointer (some ⟨bl, 0, none⟩)) d L D) (hk : Lk w' (grow F w w') bl bs d L' D') (hc : Chg F w w') : UpF (grow F w w') B w0 w' (.pointer (some ⟨bl, 0, none⟩)) d L' D' := by
  have hs := hc.size
  have hl := h.le
  refine ⟨⟨bl, bs, rfl, hk⟩, h.fok.grow hc, fun b hb => ?_, h.bel.trans (hc.below B h.fB (by omega)), by omega, h.laid.chg hc fun b hb => (h.fok.2 b hb).1⟩
  rcases hb with hb | hb
  · exact h.fB b hb
  · have := hb.1; omega
theorem UpF.writeC (h : UpF F B w0 w l d L D) (hm : L.firsts.length < 1000000) (v : Value) (ps : List (Value × List UInt8)) (hv : RdL w v ps) (qs : List (List UInt8)) (hp : ps.map Prod.snd = qs) (hq : ∀ q ∈ qs, q.length ≤ 281474976700000) (L' : AL) (D' : AD) (n : Int) (x : Nat) (hw : writeG qs L D = (L', D', n, x)) :
    Calls Tryz.prog 19 #[l, v] w fun e w' => e = .returned (.tuple #[.int .i64 n, .int .i64 x]) ∧ UpF (grow F w w') B w0 w' l d L' D' ∧ Chg F w w' := by
  obtain ⟨bl, bs, rfl, hk⟩ := h.lk
  have hk2 := write_log hk h.fok h.laid hm v ps hv (fun i hi => hq _ (by rw [← hp]; exact List.mem_map.2 ⟨ps[i], List.getElem_mem hi, rfl⟩))
  rw [hp, hw] at hk2
  refine hk2.mono ?_
  rintro e w' ⟨rfl, k1, k2⟩
  exact ⟨rfl, h.deed k1 k2, k2⟩
theorem UpF.syncC (h : UpF F B w0 w l d L D) (L' : AL) (D' : AD) (x : Nat) (hw : syncG L D = (L', D', x)) :
    Calls Tryz.prog 20 #[l] w fun e w' => e = .returned (.int .i64 x) ∧ UpF (grow F w w') B w0 w' l d L' D' ∧ Chg F w w' := by
  obtain ⟨bl, bs, rfl, hk⟩ := h.lk
  have hk2 := sync_log hk h.fok h.laid
  rw [hw] at hk2
  refine hk2.mono ?_
  rintro e w' ⟨rfl, k1, k2⟩
  exact ⟨rfl, h.deed k1 k2, k2⟩
theorem UpF.last (h : UpF F B w0 w l d L D) : Calls Tryz.prog 23 #[l] w fun e w' => e = .returned (.int .i64 L.last) ∧ Below w.heap.size w w' := by
  obtain ⟨bl, bs, rfl, hk⟩ := h.lk
  exact last_any hk
theorem UpF.acked (h : UpF F B w0 w l d L D) : Calls Tryz.prog 24 #[l] w fun e w' => e = .returned (.int .i64 L.acked) ∧ Below w.heap.size w w' := by
  obtain ⟨bl, bs, rfl, hk⟩ := h.lk
  exact acked_any hk
theorem UpF.over (h : UpF F B w0 w l d L D) : Calls Tryz.prog 22 #[l] w fun e w' => e = .returned (.bool L.over) ∧ Below w.heap.size w w' := by
  obtain ⟨bl, bs, rfl, hk⟩ := h.lk
  exact over_any hk
theorem UpF.files (h : UpF F B w0 w l d L D) : Calls Tryz.prog 26 #[l] w fun e w' => ∃ v, e = .returned v ∧ OwnV w' w.heap.size 9 v ((filesB L).map .string) ∧ Below w.heap.size w w' := by
  obtain ⟨bl, bs, rfl, hk⟩ := h.lk
  exact files_any hk h.laid
theorem UpF.dk (h : UpF F B w0 w l d L D) : Dk w F d D := by
  obtain ⟨bl, bs, rfl, hk⟩ := h.lk
  exact hk.dk
end
/-- recs of texts that stand in the program -/
theorem recs_lit (w : World) (us : List ByteArray) (C : Array Value) (hC : C = (us.map fun x => Value.string x).toArray) (hn : us.length ≤ 1000) (hs : ∀ x ∈ us, x.size ≤ 1000) (n : Nat) (hnn : n = us.length) :
    Calls Tryz.prog 17 #[.slice (some ⟨w.heap.size, 0, none⟩) n n] (w.alloc (.cells C 9)) fun e w' => ∃ v, e = .returned v ∧ (∃ a k c, v = .slice a k c) ∧ (∃ ps, RdL w' v ps ∧ ps.map Prod.snd = us.map (fun x => x.data.toList)) ∧ Below w.heap.size w w' := by
  subst hnn
  have hb1 : Below w.heap.size w (w.alloc (.cells C 9)) := (Below.refl _ _).alloc (Nat.le_refl _) _
  refine (recs_any _ us _ (rdT_lit _ C _ _ us (heap_alloc_new w _) hC hn) hn hs).mono ?_
  rintro e w' ⟨v, ps, rfl, h1, h2, h3, h4, hb⟩
  obtain ⟨a, c, hv, -⟩ := id h1.1
  exact ⟨v, rfl, ⟨a, _, c, hv⟩, ⟨ps, h1, h2⟩, below_call hb1 hb⟩
end Go.Proofs.YtomhkjacngmnhaaGreatDoor
namespace Go.Proofs.YtomhkjacngmnhaaGreatDoor
open Go.RowKit

def awL : AL := ⟨64, [], 0, 0, false⟩
def awW1 : AL × AD × Int × Nat := writeG [[97], []] awL (newD 1000)
def awS1 : AL × AD × Nat := syncG awW1.1 awW1.2.1
def awT : List UInt8 := [48,49,50,51,52,53,54,55,56,57,48,49,50,51,52,53,54,55,56,57,48,49,50,51,52,53,54,55,56,57,48,49,50,51,52,53,54,55,56,57,48,49,50,51,52,53]
def awW2 : AL × AD × Int × Nat := writeG [awT] awS1.1 awS1.2.1
def awW3 : AL × AD × Int × Nat := writeG [[99]] awW2.1 awW2.2.1
def awW4 : AL × AD × Int × Nat := writeG [] awW3.1 awW3.2.1

theorem aw1 : awW1.2.2 = (1, 0) := by kernel_rfl
theorem aw1a : awW1.1.acked = 0 ∧ awW1.1.last = 1 ∧ awW1.1.firsts.length = 1 := ⟨by kernel_rfl, by kernel_rfl, by kernel_rfl⟩
theorem aw1s : (lookF awW1.2.1.files ⟨#[119, 49]⟩).bytes.length = 19 := by kernel_rfl
theorem as1 : awS1.2.2 = 0 := by kernel_rfl
theorem as1a : awS1.1.acked = 1 ∧ awS1.1.firsts.length = 1 := ⟨by kernel_rfl, by kernel_rfl⟩
theorem as1s : (lookF awS1.2.1.files ⟨#[119, 49]⟩).safe = 19 := by kernel_rfl
theorem aw2 : awW2.2.2 = (2, 0) := by kernel_rfl
theorem aw2a : awW2.1.firsts.length = 1 := by kernel_rfl
theorem aw3 : awW3.2.2 = (3, 0) := by kernel_rfl
theorem aw3a : awW3.1.firsts.length = 2 := by kernel_rfl
theorem aw4 : awW4.2.2 = (0, 2) := by kernel_rfl
theorem aw4a : awW4.1.acked = 2 := by kernel_rfl
theorem aw4f : filesB awW4.1 = [⟨#[119, 49]⟩, ⟨#[119, 51]⟩] := by kernel_rfl
theorem awb : bytesL 1 [[97], []] = ([1, 2, 1, 97, 0], 0) := by kernel_rfl
theorem awf : firstB ⟨#[119, 48, 55]⟩ = (0, false) := by kernel_rfl
theorem awn : nameB 7 = ⟨#[119, 55]⟩ := by kernel_rfl

theorem UpL.writeC {B : Nat} {w0 w : World} {l d : Value} {L : AL} {D : AD} (h : UpL B w0 w l d L D) (hm : L.firsts.length < 1000000) (v : Value) (ps : List (Value × List UInt8)) (hv : RdL w v ps) (qs : List (List UInt8)) (hp : ps.map Prod.snd = qs) (hq : ∀ q ∈ qs, q.length ≤ 281474976700000) (L' : AL) (D' : AD) (n : Int) (x : Nat) (hw : writeG qs L D = (L', D', n, x)) :
    Calls Tryz.prog 19 #[l, v] w fun e w' => e = .returned (.tuple #[.int .i64 n, .int .i64 x]) ∧ UpL B w0 w' l d L' D' := by
  have hk := h.write hm v ps hv (fun i hi => hq _ (by rw [← hp]; exact List.mem_map.2 ⟨ps[i], List.getElem_mem hi, rfl⟩))
  rw [hp, hw] at hk
  exact hk
theorem UpL.syncC {B : Nat} {w0 w : World} {l d : Value} {L : AL} {D : AD} (h : UpL B w0 w l d L D) (L' : AL) (D' : AD) (x : Nat) (hw : syncG L D = (L', D', x)) :
    Calls Tryz.prog 20 #[l] w fun e w' => e = .returned (.int .i64 x) ∧ UpL B w0 w' l d L' D' := by
  have hk := h.sync
  rw [hw] at hk
  exact hk
theorem awW1_eq : writeG [[97], []] awL (newD 1000) = (awW1.1, awW1.2.1, 1, 0) := by show awW1 = (awW1.1, awW1.2.1, (1, 0)); rw [← aw1]
theorem awS1_eq : syncG awW1.1 awW1.2.1 = (awS1.1, awS1.2.1, 0) := by show awS1 = (awS1.1, awS1.2.1, 0); rw [← as1]
theorem awW2_eq : writeG [awT] awS1.1 awS1.2.1 = (awW2.1, awW2.2.1, 2, 0) := by show awW2 = (awW2.1, awW2.2.1, (2, 0)); rw [← aw2]
theorem awW3_eq : writeG [[99]] awW2.1 awW2.2.1 = (awW3.1, awW3.2.1, 3, 0) := by show awW3 = (awW3.1, awW3.2.1, (3, 0)); rw [← aw3]
theorem awW4_eq : writeG [] awW3.1 awW3.2.1 = (awW4.1, awW4.2.1, 0, 2) := by show awW4 = (awW4.1, awW4.2.1, (0, 2)); rw [← aw4]

set_option maxRecDepth 100000 in
set_option maxHeartbeats 2000000 in
theorem awake_true (w : World) (hw : Laid w) (h6 : 6 ≤ w.heap.size) : Calls Tryz.prog 28 #[] w fun e w' => e = .returned (.bool true) ∧ Below w.heap.size w w' := by
  go_enter Tryz.func28, Tryz.ntmps28
  go_wp2_with fail
  refine (new_up w 1000 (by omega)).mono ?_
  rintro e w1 ⟨d, rfl, hdne, hu0⟩
  obtain ⟨bd, hdp⟩ : ∃ bd, d = .pointer (some ⟨bd, 0, none⟩) := by
    obtain ⟨bd, _, _, _, _, h1, -⟩ := hu0.dk
    exact ⟨bd, h1⟩
  subst hdp
  clear hdne
  have HU0 : Hid _ := hu0
  have hl1 : Laid w1 := hw.below hu0.bel
  clear hu0
  go_wp2_with fail
  refine (UpL.begin HU0.out h6 hl1 64 0 ⟨by omega, by omega, by omega, by omega⟩).mono ?_
  rintro e w2 ⟨l, rfl, ⟨bl, rfl⟩, hu⟩
  clear hl1 HU0
  have HU : Hid (UpL w.heap.size w w2 _ _ awL (newD 1000)) := hu
  clear hu
  go_wp2_with fail
  refine (HU.out.recs [⟨#[97]⟩, ⟨#[]⟩] _ rfl (by simp) (by decide) 2 rfl).mono ?_
  rintro e w3 ⟨v3, rfl, ⟨a3, k3, c3, rfl⟩, ⟨ps3, hr3, hp3⟩, hu⟩
  have HW := hu.writeC (by decide) _ ps3 hr3 [[97], []] hp3 (by decide) _ _ _ _ awW1_eq
  clear HU hu hr3 hp3
  go_wp2_with fail
  refine HW.mono ?_
  clear HW
  rintro e w4 ⟨rfl, hu⟩
  have HU : Hid _ := hu
  clear hu
  go_wp2_with fail
  refine (UpL.acked HU.out).mono ?_
  rw [aw1a.1]
  rintro e w5 ⟨rfl, hu⟩
  clear HU
  have HU : Hid _ := hu
  clear hu
  go_wp2_with fail
  refine (UpL.last HU.out).mono ?_
  rw [aw1a.2.1]
  rintro e w6 ⟨rfl, hu⟩
  clear HU
  have HU : Hid _ := hu
  clear hu
  go_wp2_with fail
  refine (UpL.size HU.out ⟨#[119, 49]⟩).mono ?_
  rw [aw1s]
  rintro e w7 ⟨rfl, hu⟩
  clear HU
  have HU : Hid _ := hu
  clear hu
  go_wp2_with fail
  refine (UpL.syncC HU.out _ _ _ awS1_eq).mono ?_
  rintro e w8 ⟨rfl, hu⟩
  clear HU
  have HU : Hid _ := hu
  clear hu
  go_wp2_with fail
  refine (UpL.acked HU.out).mono ?_
  rw [as1a.1]
  rintro e w9 ⟨rfl, hu⟩
  clear HU
  have HU : Hid _ := hu
  clear hu
  go_wp2_with fail
  refine (UpL.synced HU.out ⟨#[119, 49]⟩).mono ?_
  rw [as1s]
  rintro e w10 ⟨rfl, hu⟩
  clear HU
  have HU : Hid _ := hu
  clear hu
  go_wp2_with fail
  refine (UpL.recs HU.out [⟨#[97]⟩, ⟨#[]⟩] _ rfl (by simp) (by decide) 2 rfl).mono ?_
  rintro e w11 ⟨v11, rfl, ⟨a11, k11, c11, rfl⟩, ⟨ps11, hr11, hp11⟩, hu⟩
  clear HU
  have HU : Hid _ := hu
  clear hu
  have hby := bytes_any 1 _ ps11 w11 hr11 (fun i hi => by
    have : ps11[i].2 ∈ ps11.map Prod.snd := List.mem_map.2 ⟨ps11[i], List.getElem_mem hi, rfl⟩
    rw [hp11] at this
    have h2 : ∀ q ∈ [(⟨#[97]⟩ : ByteArray), ⟨#[]⟩].map (fun x => x.data.toList), q.length ≤ 281474976700000 := by decide
    exact h2 _ this)
  rw [hp11, show [(⟨#[97]⟩ : ByteArray), ⟨#[]⟩].map (fun x => x.data.toList) = [[97], []] from rfl, awb] at hby
  clear hr11 hp11
  go_wp2_with fail
  refine hby.mono ?_
  clear hby
  rintro e w12 ⟨v12, rfl, ho12, hb12⟩
  obtain ⟨F0, HF0⟩ : ∃ F0 : Nat → Prop, Hid (F0 = fun b => w.heap.size ≤ b ∧ b < w11.heap.size) := ⟨_, rfl⟩
  have hf : UpF F0 w.heap.size w w12 (.pointer (some ⟨bl, 0, none⟩)) (.pointer (some ⟨bd, 0, none⟩)) awS1.1 awS1.2.1 := by
    rw [HF0.out]
    exact (UpL.toF HU.out).below hb12
  have hoff : Off F0 v12 := by
    rw [HF0.out]
    intro a ha hF
    have := (World.ownsRow.lt ho12 a ha).1
    have := hF.2
    omega
  have HO : Hid (Own w12 0 v12 [1, 2, 1, 97, 0]) := ho12.mono (Nat.zero_le _)
  have HF : Hid _ := hf
  have HOF : Hid (Off F0 v12) := hoff
  obtain ⟨a12, c12, hv12, -⟩ := id ho12.rd
  subst hv12
  clear HU HF0 ho12 hb12 hf hoff
  go_wp2_with fail
  refine (recs_lit w12 [⟨awT.toArray⟩] _ rfl (by simp) (by decide) 1 rfl).mono ?_
  rintro e w13 ⟨v13, rfl, ⟨a13, k13, c13, rfl⟩, ⟨ps13, hr13, hp13⟩, hb13⟩
  have HW := UpF.writeC (UpF.below HF.out hb13) (by rw [as1a.2]; decide) _ ps13 hr13 [awT] hp13 (by decide) _ _ _ _ awW2_eq
  have HO13 : Hid (Own w13 0 _ [1, 2, 1, 97, 0]) := Own.below HO.out hb13
  clear hr13 hp13 hb13 HF HO
  go_wp2_with fail
  refine HW.mono ?_
  clear HW
  rintro e w14 ⟨rfl, hf, hc⟩
  have HF : Hid _ := hf
  have HO : Hid (Own w14 0 _ [1, 2, 1, 97, 0]) := Own.chg HO13.out hc HOF.out
  have HOF1 : Hid (Off (grow F0 w13 w14) _) := Off.grow HOF.out HO13.out
  clear hf hc HOF HO13
  go_wp2_with fail
  refine (recs_lit w14 [⟨#[99]⟩] _ rfl (by simp) (by decide) 1 rfl).mono ?_
  rintro e w15 ⟨v15, rfl, ⟨a15, k15, c15, rfl⟩, ⟨ps15, hr15, hp15⟩, hb15⟩
  have HW := UpF.writeC (UpF.below HF.out hb15) (by rw [aw2a]; decide) _ ps15 hr15 [[99]] hp15 (by decide) _ _ _ _ awW3_eq
  have HO15 : Hid (Own w15 0 _ [1, 2, 1, 97, 0]) := Own.below HO.out hb15
  clear hr15 hp15 hb15 HF HO
  go_wp2_with fail
  refine HW.mono ?_
  clear HW
  rintro e w16 ⟨rfl, hf, hc⟩
  have HF : Hid _ := hf
  have HO : Hid (Own w16 0 _ [1, 2, 1, 97, 0]) := Own.chg HO15.out hc HOF1.out
  have HOF2 : Hid (Off (grow (grow F0 w13 w14) w15 w16) _) := Off.grow HOF1.out HO15.out
  have HW := UpF.writeC (UpF.toL HF.out h6 |>.toF) (by rw [aw3a]; decide) (.slice none 0 0) [] (RdL.nil _) [] rfl (by simp) _ _ _ _ awW4_eq
  have HW2 := UpF.writeC HF.out (by rw [aw3a]; decide) (.slice none 0 0) [] (RdL.nil _) [] rfl (by simp) _ _ _ _ awW4_eq
  clear hf hc HOF1 HO15 HF HW
  go_wp2_with fail
  refine HW2.mono ?_
  clear HW2
  rintro e w17 ⟨rfl, hf, hc⟩
  have HU : Hid _ := UpF.toL hf h6
  have HO17 : Hid (Own w17 0 _ [1, 2, 1, 97, 0]) := Own.chg HO.out hc HOF2.out
  clear hf hc HOF2 HO
  have hfi := first_any ⟨#[119, 48, 55]⟩ (by decide) w17 (UpL.laid HU.out)
  rw [awf] at hfi
  go_wp2_with fail
  refine hfi.mono ?_
  clear hfi
  rintro e w18 ⟨rfl, hb18⟩
  have HU18 : Hid _ := UpL.below HU.out hb18
  have HO18 : Hid (Own w18 0 _ [1, 2, 1, 97, 0]) := Own.below HO17.out hb18
  clear hb18 HU HO17
  go_wp2_with fail
  have hsb := same_any _ _ [1, 2, 1, 97, 0] [1, 2, 1, 97, 0] (w18.alloc (Obj.cells #[Value.int IntKind.u8 1, Value.int IntKind.u8 2, Value.int IntKind.u8 1, Value.int IntKind.u8 97, Value.int IntKind.u8 0] 5)) ((Own.rd HO18.out).alloc _) (Rd.new w18 [1, 2, 1, 97, 0] 5 (by simp [maxLen]))
  refine hsb.mono ?_
  clear hsb
  rintro e w19 ⟨rfl, hw19⟩
  have HU19 : Hid (UpL w.heap.size w w19 (.pointer (some ⟨bl, 0, none⟩)) (.pointer (some ⟨bd, 0, none⟩)) awW4.1 awW4.2.1) := by
    show UpL _ _ w19 _ _ _ _
    rw [hw19]
    exact UpL.below HU18.out ((Below.refl _ _).alloc (Nat.le_refl _) _)
  rw [show decide (([1, 2, 1, 97, 0] : List UInt8) = [1, 2, 1, 97, 0]) = true from rfl]
  clear hw19 HU18 HO18
  go_wp2_with fail
  refine (UpL.files HU19.out).mono ?_
  rw [aw4f]
  rintro e w20 ⟨v20, rfl, ho20, hb20, hu20⟩
  have HU20 : Hid _ := hu20
  obtain ⟨a20, c20, hv20, -⟩ := id ho20.rd
  rw [List.length_map] at hv20
  simp only [List.length_cons, List.length_nil] at hv20
  subst hv20
  have HT20 : Hid (RdT w20 _ [⟨#[119, 49]⟩, ⟨#[119, 51]⟩]) := ho20.rd
  clear HU19 hu20 ho20 hb20
  go_wp2_with fail
  have hst := sameTexts_any _ _ [⟨#[119, 49]⟩, ⟨#[119, 51]⟩] [⟨#[119, 49]⟩, ⟨#[119, 51]⟩] (w20.alloc (Obj.cells #[Value.string ⟨#[119, 49]⟩, Value.string ⟨#[119, 51]⟩] 9)) (RdT.below HT20.out ((Below.refl _ _).alloc (Nat.le_refl _) _)) (rdT_lit _ _ w20.heap.size _ [⟨#[119, 49]⟩, ⟨#[119, 51]⟩] (heap_alloc_new w20 _) rfl (by simp))
  rw [decide_eq_true rfl] at hst
  refine hst.mono ?_
  clear hst
  rintro e w21 ⟨rfl, hb21⟩
  have HU21 : Hid (UpL w.heap.size w w21 _ _ awW4.1 awW4.2.1) := UpL.below HU20.out (((Below.refl _ _).alloc (Nat.le_refl _) _).trans (hb21.mono (by simp)))
  clear hb21 HU20 HT20
  go_wp2_with fail
  refine (UpL.acked HU21.out).mono ?_
  rw [aw4a]
  rintro e w22 ⟨rfl, hu22⟩
  have HU22 : Hid _ := hu22
  clear hu22 HU21
  go_wp2_with fail
  have hnm := name_any 7 w22 (UpL.laid HU22.out)
  rw [awn] at hnm
  refine hnm.mono ?_
  clear hnm
  rintro e w23 ⟨rfl, hb23⟩
  have HB : Hid (Below w.heap.size w w23) := (UpL.below HU22.out hb23).bel
  clear HU22 hb23
  have hq := str_eq ⟨#[119, 55]⟩
  go_wp2_with fail
  go_ret
  exact ⟨rfl, HB.out⟩
end Go.Proofs.YtomhkjacngmnhaaGreatDoor
