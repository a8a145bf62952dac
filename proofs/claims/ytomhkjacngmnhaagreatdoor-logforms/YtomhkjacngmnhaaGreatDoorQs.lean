/-
  How a log lies in memory, on its disk: definitions and lemmas, with no walk. The contracts of a log's inner calls: file, fails. The contracts of a log's inner calls: put, begin. The contract of do: deeds, up to the first that fails. Own work.
-/
import Derived.Test.YtomhkjacngmnhaaGreatDoorQg
import Derived.Test.YtomhkjacngmnhaaGreatDoorQp
import Derived.Test.YtomhkjacngmnhaaGreatDoorQq
namespace Go.Proofs.YtomhkjacngmnhaaGreatDoor
open Go.RowKit

/-- a log: its size, its segments' numbers, the last batch, the last one that is acknowledged, whether it is over -/
structure AL where
  size : Nat
  firsts : List Int
  last : Int
  acked : Int
  over : Bool
/-- what stays so, whatever is done -/
structure AL.ok (L : AL) : Prop where
  size : L.size ≤ 16777216
  firsts : ∀ x ∈ L.firsts, 1 ≤ x ∧ x ≤ 1152921504606846976
  many : L.firsts.length ≤ 1000000
  last : 0 ≤ L.last ∧ L.last ≤ 1152921504606846976
  acked : 0 ≤ L.acked ∧ L.acked ≤ 1152921504606846976

/-- the elements' types of a disk's blocks -/
def DT (w : World) (b : Nat) : Prop := ∃ c e x, w.heap[b]? = some (.cells c e x) ∧ (e = 36 ∨ e = 113 ∨ e = 34 ∨ e = 116 ∨ e = 5)
def FT (w : World) (F : Nat → Prop) (b : Nat) : Prop := F b ∧ DT w b
theorem not_DT {w : World} {b : Nat} {c : Array Value} {e : TypeId} {x : Nat × Nat} (h : w.heap[b]? = some (.cells c e x)) (he : e ≠ 36 ∧ e ≠ 113 ∧ e ≠ 34 ∧ e ≠ 116 ∧ e ≠ 5) : ¬ DT w b := by
  rintro ⟨c', e', x', h', hh⟩
  rw [h] at h'
  cases h'
  rcases hh with h | h | h | h | h
  · exact he.1 h
  · exact he.2.1 h
  · exact he.2.2.1 h
  · exact he.2.2.2.1 h
  · exact he.2.2.2.2 h
theorem Dk.typed {w : World} {F : Nat → Prop} {d : Value} {D : AD} (h : Dk w F d D) : Dk w (FT w F) d D := by
  obtain ⟨bd, bs, bc, fv, ps, h1, h2, h3, h4, h5⟩ := h
  refine ⟨bd, bs, bc, fv, ps, h1, h2, h3, fun b hb => ⟨h4 b hb, ?_⟩, h5⟩
  rcases hb with rfl | rfl | rfl | hb | ⟨p, hp, hb⟩
  · exact ⟨_, _, _, h2.hd, .inl rfl⟩
  · exact ⟨_, _, _, h2.hs, .inr (.inl rfl)⟩
  · exact ⟨_, _, _, h2.hc, .inr (.inr (.inl rfl))⟩
  · obtain ⟨c, hc⟩ := row_elem h2.hf hb
    exact ⟨_, _, _, hc, .inr (.inr (.inr (.inl rfl)))⟩
  · obtain ⟨c, hc⟩ := row_elem (h2.hb p hp) hb
    exact ⟨_, _, _, hc, .inr (.inr (.inr (.inr rfl)))⟩

def intsV (l : List Int) : List Value := l.map fun x => .int .i64 x
/-- the log at bl, its state at bs, upon the disk d, in the memory F -/
structure Lk (w : World) (F : Nat → Prop) (bl bs : Nat) (d : Value) (L : AL) (D : AD) : Prop where
  hl : w.heap[bl]? = some (.cells #[.pointer (some ⟨bs, 0, none⟩)] 93 (0, 0))
  hs : ∃ fv, w.heap[bs]? = some (.cells #[d, .int .i64 L.size, fv, .int .i64 L.last, .int .i64 L.acked, .bool L.over] 120 (0, 0)) ∧ OwnV w 0 3 fv (intsV L.firsts) ∧ ∀ a, fv.ownBlock = some a → F a
  fl : F bl ∧ F bs
  dk : Dk w F d D
  ok : L.ok

theorem OwnV.heap {w w' : World} {base : Nat} {e : TypeId} {v : Value} {vs : List Value} (h : OwnV w base e v vs) (hh : ∀ a, v.ownBlock = some a → w'.heap[a]? = w.heap[a]?) : OwnV w' base e v vs := by
  refine ⟨h.1, ?_⟩
  rcases h.2 with h2 | ⟨g, cap, cur, hv, hb2, hg, r⟩
  · exact .inl h2
  · exact .inr ⟨g, cap, cur, hv, hb2, by rw [hh g (by rw [hv]; rfl)]; exact hg, r⟩
theorem OwnV.elem {w : World} {base : Nat} {e : TypeId} {v : Value} {vs : List Value} (h : OwnV w base e v vs) {a : Nat} (ha : v.ownBlock = some a) : ∃ c, w.heap[a]? = some (.cells c e (0, 0)) := by
  rcases h.2 with ⟨rfl, _⟩ | ⟨g, cap, cur, rfl, _, hg, _⟩
  · simp [Value.ownBlock] at ha
  · simp [Value.ownBlock] at ha
    subst ha
    exact ⟨cur, hg⟩
theorem lt_of_heap {w : World} {b : Nat} {o : Obj} (h : w.heap[b]? = some o) : b < w.heap.size := (Array.getElem?_eq_some_iff.1 h).1

theorem Lk.below {w w' : World} {F : Nat → Prop} {bl bs : Nat} {d : Value} {L : AL} {D : AD} (h : Lk w F bl bs d L D) (hb : Below w.heap.size w w') : Lk w' F bl bs d L D := by
  obtain ⟨fv, h1, h2, h3⟩ := h.hs
  exact ⟨by rw [hb.block _ (lt_of_heap h.hl)]; exact h.hl, ⟨fv, by rw [hb.block _ (lt_of_heap h1)]; exact h1, h2.below hb, h3⟩, h.fl, h.dk.below hb, h.ok⟩
theorem Lk.mono {w : World} {F G : Nat → Prop} {bl bs : Nat} {d : Value} {L : AL} {D : AD} (h : Lk w F bl bs d L D) (hg : ∀ b, b < w.heap.size → F b → G b) : Lk w G bl bs d L D := by
  obtain ⟨fv, h1, h2, h3⟩ := h.hs
  refine ⟨h.hl, ⟨fv, h1, h2, fun a ha => ?_⟩, ⟨hg _ (lt_of_heap h.hl) h.fl.1, hg _ (lt_of_heap h1) h.fl.2⟩, h.dk.mono hg, h.ok⟩
  obtain ⟨c, hc⟩ := h2.elem ha
  exact hg a (lt_of_heap hc) (h3 a ha)

/-- the disk did a deed -/
theorem Lk.deed {w w1 w' : World} {F : Nat → Prop} {bl bs : Nat} {d : Value} {L : AL} {D D' : AD} (h : Lk w F bl bs d L D) (hb : Below w.heap.size w w1) (hd : Dk w' (grow (FT w F) w1 w') d D') (hc : Chg (FT w F) w1 w') : Lk w' (grow F w1 w') bl bs d L D' := by
  obtain ⟨fv, h1, h2, h3⟩ := h.hs
  have hsz := hb.size
  have key : ∀ (b : Nat) (c : Array Value) (e : TypeId) (x : Nat × Nat), w.heap[b]? = some (Obj.cells c e x) → (e ≠ 36 ∧ e ≠ 113 ∧ e ≠ 34 ∧ e ≠ 116 ∧ e ≠ 5) → w'.heap[b]? = some (Obj.cells c e x) := by
    intro b c e x hh he
    have hlt := lt_of_heap hh
    rw [hc.block b (by omega) (fun hF => not_DT hh he hF.2), hb.block b hlt]
    exact hh
  refine ⟨key _ _ _ _ h.hl (by decide), ⟨fv, key _ _ _ _ h1 (by decide), h2.heap fun a ha => ?_, fun a ha => .inl (h3 a ha)⟩, ⟨.inl h.fl.1, .inl h.fl.2⟩, hd.mono fun b _ hg => hg.imp And.left id, h.ok⟩
  obtain ⟨c, hcc⟩ := h2.elem ha
  rw [key _ _ _ _ hcc (by decide), hcc]

/-- a cell of the log's state is another one -/
theorem Lk.set {w : World} {F : Nat → Prop} {bl bs : Nat} {d : Value} {L L' : AL} {D : AD} (h : Lk w F bl bs d L D) (i : Nat) (u : Value) (hu : ∀ fv, w.heap[bs]? = some (.cells #[d, .int .i64 L.size, fv, .int .i64 L.last, .int .i64 L.acked, .bool L.over] 120 (0, 0)) → (#[d, Value.int .i64 L.size, fv, Value.int .i64 L.last, Value.int .i64 L.acked, Value.bool L.over] : Array Value).setIfInBounds i u = #[d, .int .i64 L'.size, fv, .int .i64 L'.last, .int .i64 L'.acked, .bool L'.over] ∧ L'.firsts = L.firsts) (hok : L'.ok) : Lk (w.setCell ⟨bs, i, none⟩ u) F bl bs d L' D ∧ Chg F w (w.setCell ⟨bs, i, none⟩ u) := by
  obtain ⟨fv, h1, h2, h3⟩ := h.hs
  obtain ⟨hu1, hu2⟩ := hu fv h1
  have ho : ∀ a, a ≠ bs → (w.setCell ⟨bs, i, none⟩ u).heap[a]? = w.heap[a]? := fun a ha => Below.heap_setCell _ _ _ _ ha
  have hchg : Chg (fun b => b = bs) w (w.setCell ⟨bs, i, none⟩ u) := (Chg.refl (fun b => b = bs) w).setCell (p := ⟨bs, i, none⟩) (.inl rfl) u
  refine ⟨⟨?_, ⟨fv, ?_, ?_, h3⟩, h.fl, ?_, hok⟩, hchg.mono fun b _ hb => by rw [hb]; exact h.fl.2⟩
  · rw [ho _ (ne_of_elem h.hl h1 (by decide))]; exact h.hl
  · rw [heap_set h1, hu1]
  · rw [hu2]
    refine h2.heap fun a ha => ho a ?_
    obtain ⟨c, hc⟩ := h2.elem ha
    exact ne_of_elem hc h1 (by decide)
  · refine (h.dk.typed.chg hchg fun b hF hb => ?_).mono fun b _ hF => hF.1
    subst hb
    exact not_DT h1 (by decide) hF.2

theorem Lk.s {w : World} {F : Nat → Prop} {bl bs : Nat} {d : Value} {L : AL} {D : AD} (h : Lk w F bl bs d L D) :
    w.cell? ⟨bl, 0, none⟩ = some (.pointer (some ⟨bs, 0, none⟩)) ∧ w.cell? ⟨bs, 0, none⟩ = some d ∧ w.cell? ⟨bs, 1, none⟩ = some (.int .i64 L.size) ∧ w.cell? ⟨bs, 3, none⟩ = some (.int .i64 L.last) ∧ w.cell? ⟨bs, 4, none⟩ = some (.int .i64 L.acked) ∧ w.cell? ⟨bs, 5, none⟩ = some (.bool L.over) := by
  obtain ⟨fv, h1, h2, h3⟩ := h.hs
  exact ⟨by rw [cell_of h.hl]; rfl, by rw [cell_of h1]; rfl, by rw [cell_of h1]; rfl, by rw [cell_of h1]; rfl, by rw [cell_of h1]; rfl, by rw [cell_of h1]; rfl⟩
theorem Lk.lt {w : World} {F : Nat → Prop} {bl bs : Nat} {d : Value} {L : AL} {D : AD} (h : Lk w F bl bs d L D) : bl < w.heap.size ∧ bs < w.heap.size := by
  obtain ⟨fv, h1, h2, h3⟩ := h.hs
  exact ⟨lt_of_heap h.hl, lt_of_heap h1⟩

/-- what is laid stands, where the memory that changes lies behind it -/
theorem Laid.chg {w w' : World} {F : Nat → Prop} (h : Laid w) (hc : Chg F w w') (hF : ∀ b, F b → 6 ≤ b) : Laid w' := by
  have hv : ∀ (n : String) (g : Nat) (cs : Array Value), g < 6 → Tryz.prog.globalNamed n = some g → w.var? Tryz.prog n = some cs → w'.var? Tryz.prog n = some cs := by
    intro n g cs hg6 hg hh
    unfold World.var? at hh ⊢
    rw [hg] at hh ⊢
    simp only [Option.bind_some] at hh ⊢
    have hlt : g < w.heap.size := by
      rcases Nat.lt_or_ge g w.heap.size with h' | h'
      · exact h'
      · rw [Array.getElem?_eq_none h'] at hh; cases hh
    rw [hc.block g hlt (fun hFg => by have := hF g hFg; omega)]
    exact hh
  obtain ⟨t2, p2, h2⟩ := h.syn
  obtain ⟨t3, p3, h3⟩ := h.ran
  exact ⟨hv _ 3 _ (by omega) (by kernel_rfl) h.tab, ⟨t2, p2, hv _ 1 _ (by omega) (by kernel_rfl) h2⟩, ⟨t3, p3, hv _ 2 _ (by omega) (by kernel_rfl) h3⟩⟩
end Go.Proofs.YtomhkjacngmnhaaGreatDoor
namespace Go.Proofs.YtomhkjacngmnhaaGreatDoor
open Go.RowKit

theorem Lk.row {w : World} {F : Nat → Prop} {bl bs : Nat} {d : Value} {L : AL} {D : AD} (h : Lk w F bl bs d L D) : ∃ ao cap, w.cell? ⟨bs, 2, none⟩ = some (.slice ao L.firsts.length cap) ∧ L.firsts.length ≤ cap ∧ cap ≤ maxLen ∧ (L.firsts ≠ [] → ∃ g, ao = some ⟨g, 0, none⟩ ∧ g < w.heap.size ∧ ∀ i (hi : i < L.firsts.length), w.cell? ⟨g, i, none⟩ = some (.int .i64 L.firsts[i])) := by
  obtain ⟨fv, h1, h2, h3⟩ := h.hs
  have hc : w.cell? ⟨bs, 2, none⟩ = some fv := by rw [cell_of h1]; rfl
  have hl : (intsV L.firsts).length = L.firsts.length := by simp [intsV]
  rcases h2.2 with ⟨h0, hn⟩ | ⟨g, cap, cur, hv, -, hg, hnn, hm, -, -⟩
  · rw [hl] at hn
    refine ⟨none, 0, by rw [hc, h0, hn], by omega, by simp [maxLen], fun hne => ?_⟩
    exact absurd (List.eq_nil_of_length_eq_zero hn) hne
  · rw [hl] at hv hnn
    refine ⟨_, cap, by rw [hc, hv], hnn, hm, fun _ => ⟨g, rfl, lt_of_heap hg, fun i hi => ?_⟩⟩
    have := World.ownsRow.cells h2 (g := g) (by rw [hv]; rfl) i (.int .i64 L.firsts[i]) (by simp [intsV, hi])
    rw [← this]
    congr 1
    unfold Addr.add
    split <;> simp_all

/-- the last segment's file -/
def fileB (L : AL) : ByteArray := nameB (L.firsts.getLastD 0)

set_option maxRecDepth 100000 in
set_option maxHeartbeats 400000 in
theorem file_any {w : World} {F : Nat → Prop} {bl bs : Nat} {d : Value} {L : AL} {D : AD} (h : Lk w F bl bs d L D) (hw : Laid w) (hne : L.firsts ≠ []) : Calls Tryz.prog 125 #[.pointer (some ⟨bs, 0, none⟩)] w fun e w' => e = .returned (.string (fileB L)) ∧ Below w.heap.size w w' := by
  obtain ⟨ao, cap, hc, h1, h2, h3⟩ := h.row
  obtain ⟨g, rfl, hg, hcs⟩ := h3 hne
  have hmany := h.ok.many
  have hp : 0 < L.firsts.length := by
    rcases Nat.eq_zero_or_pos L.firsts.length with h0 | h0
    · exact absurd (List.eq_nil_of_length_eq_zero h0) hne
    · exact h0
  have hlast := hcs (L.firsts.length - 1) (by omega)
  have HL : Hid (L.firsts[L.firsts.length - 1]'(by omega) = L.firsts.getLastD 0) := by
    show _ = _
    rw [List.getLastD_eq_getLast?, List.getLast?_eq_getElem?, List.getElem?_eq_getElem (by omega)]
    rfl
  rw [HL.out] at hlast
  have HF : Hid (fileB L = nameB (L.firsts.getLastD 0)) := rfl
  obtain ⟨x, HX⟩ := named (L.firsts.getLastD 0)
  obtain ⟨n, HN⟩ := named L.firsts.length
  rw [← HX.out] at hlast HF
  rw [← HN.out] at hlast hc h1 hp hmany
  obtain ⟨k, HK⟩ : ∃ k, Hid (n = k + 1) := ⟨n - 1, by show n = _; omega⟩
  have hk : n - 1 = k := by rw [HK.out]; omega
  rw [hk] at hlast
  have hk0 : (0 : Int) ≤ (k : Int) := by omega
  have hk1 : (k : Int) < (n : Int) := by omega
  have hk3 : IntKind.i64.wrap ((n : Int) - 1) = k := by rw [IntWalk.i64_in _ (by omega)]; omega
  clear hk
  unfold maxLen at h2
  clear hcs HL
  have hlt := h.lt.2
  have HNM : Hid _ := fun (w' : World) (hb : Below w.heap.size w w') => (name_any x w' (hw.below hb)).mono (P := Tryz.prog) (fun e w'' (hh : e = .returned (.string (nameB x)) ∧ Below w'.heap.size w' w'') => (⟨hh.1, hb.trans (hh.2.mono hb.size), (hb.trans (hh.2.mono hb.size)).cell (p := ⟨bs, 2, none⟩) hlt |>.trans hc, (hb.trans (hh.2.mono hb.size)).cell (p := ⟨g, k, none⟩) hg |>.trans hlast⟩ : e = .returned (.string (nameB x)) ∧ Below w.heap.size w w'' ∧ w''.cell? ⟨bs, 2, none⟩ = some (.slice (some ⟨g, 0, none⟩) n cap) ∧ w''.cell? ⟨g, k, none⟩ = some (.int .i64 x)))
  have hN := HNM.out
  have B0 : Below w.heap.size w w.drew := (Below.refl _ _).drew
  have S0 : w.drew.cell? ⟨bs, 2, none⟩ = some (.slice (some ⟨g, 0, none⟩) n cap) ∧ w.drew.cell? ⟨g, k, none⟩ = some (.int .i64 x) := ⟨hc, hlast⟩
  go_enter Tryz.func125, Tryz.ntmps125
  go_wp2_with fail
  go_region_held3 (fun w' => w'.cell? ⟨bs, 2, none⟩ = some (.slice (some ⟨g, 0, none⟩) n cap) ∧ w'.cell? ⟨g, k, none⟩ = some (.int .i64 x)) (assumption) (first | (go_at_call 49; refine Calls.mono (hN _ ?_) ?_; assumption; rintro e w1 ⟨rfl, B1, S1⟩))
  go_wp2_with fail
  go_ret
  rw [HF.out]
  exact ⟨rfl, B1⟩

def failsL (L : AL) : Nat := if L.over then 17 else 0

set_option maxRecDepth 100000 in
set_option maxHeartbeats 400000 in
theorem lmade_any {w : World} {F : Nat → Prop} {bl bs : Nat} {d : Value} {L : AL} {D : AD} (h : Lk w F bl bs d L D) : Calls Tryz.prog 83 #[.pointer (some ⟨bl, 0, none⟩)] w fun e w' => e = .returned (.bool true) ∧ Below w.heap.size w w' := by
  obtain ⟨c0, -⟩ := h.s
  go_enter Tryz.func83, Tryz.ntmps83
  go_wp2_with fail
  go_ret
  exact ⟨rfl, Below.refl _ _⟩

set_option maxRecDepth 100000 in
set_option maxHeartbeats 400000 in
theorem lfails_any {w : World} {F : Nat → Prop} {bl bs : Nat} {d : Value} {L : AL} {D : AD} (h : Lk w F bl bs d L D) : Calls Tryz.prog 71 #[.pointer (some ⟨bl, 0, none⟩)] w fun e w' => e = .returned (.int .i64 (failsL L)) ∧ Below w.heap.size w w' := by
  have HL : Hid _ := h
  go_enter Tryz.func71, Tryz.ntmps71
  go_wp2_with fail
  refine (lmade_any h).mono ?_
  rintro e w1 ⟨rfl, hb⟩
  obtain ⟨c0, -, -, -, -, c5⟩ := (Lk.below HL.out hb).s
  cases ho : L.over with
  | true =>
    have HE : Hid (failsL L = 17) := by show failsL L = 17; unfold failsL; rw [ho]; rfl
    rw [ho] at c5
    go_wp2_with fail
    go_ret
    rw [HE.out]
    exact ⟨rfl, hb⟩
  | false =>
    have HE : Hid (failsL L = 0) := by show failsL L = 0; unfold failsL; rw [ho]; rfl
    rw [ho] at c5
    go_wp2_with fail
    go_ret
    rw [HE.out]
    exact ⟨rfl, hb⟩

/-- the first of these four calls, upon a log -/
def LDeed (e : Ending) (w w' : World) (F : Nat → Prop) (bl bs : Nat) (d : Value) (r : AL × AD × Nat) : Prop := e = .returned (.int .i64 r.2.2) ∧ Lk w' (grow F w w') bl bs d r.1 r.2.1 ∧ Chg F w w'
def ackL (L : AL) (D : AD) : AL × AD × Nat :=
  if L.firsts = [] then ({ L with acked := L.last }, D, 0) else
  if (syncD D (fileB L)).2 = 0 then ({ L with acked := L.last }, (syncD D (fileB L)).1, 0) else (L, (syncD D (fileB L)).1, (syncD D (fileB L)).2)

theorem ldeed_of {w w1 w' : World} {F : Nat → Prop} {bl bs : Nat} {d : Value} {L : AL} {D : AD} (hb : Below w.heap.size w w1) (h : Lk w' (grow F w1 w') bl bs d L D) (hc : Chg F w1 w') : Lk w' (grow F w w') bl bs d L D ∧ Chg F w w' := by
  have hs := hb.size
  refine ⟨h.mono fun b _ hg => hg.imp id (fun hh => ⟨by have := hh.1; omega, hh.2⟩), (Chg.ofBelow hb F).trans hc (fun i _ hi => hi)⟩
theorem ldeed_trans {w w1 w' : World} {F : Nat → Prop} {bl bs : Nat} {d : Value} {L : AL} {D : AD} (hc1 : Chg F w w1) (h : Lk w' (grow (grow F w w1) w1 w') bl bs d L D) (hc : Chg (grow F w w1) w1 w') : Lk w' (grow F w w') bl bs d L D ∧ Chg F w w' := by
  have hs := hc1.size
  have hs2 := hc.size
  refine ⟨h.mono fun b hb hg => ?_, hc1.trans hc (fun i hi hh => ?_)⟩
  · rcases hg with (hg | hg) | hg
    · exact .inl hg
    · exact .inr ⟨hg.1, by have := hg.2; omega⟩
    · exact .inr ⟨by have := hg.1; omega, hg.2⟩
  · rcases hh with hh | hh
    · exact hh
    · have := hh.1; omega
/-- a deed of the disk's, ahead of which the world has grown -/
theorem Lk.did {w w1 : World} {F : Nat → Prop} {bl bs : Nat} {d : Value} {L : AL} {D : AD} (h : Lk w F bl bs d L D) (hb : Below w.heap.size w w1) {n : Nat} {args : Array Value} {r : AD × Nat} (hd : Calls Tryz.prog n args w1 fun e w' => Deed e w1 w' (FT w F) d r) :
    Calls Tryz.prog n args w1 fun e w' => e = .returned (.int .i64 r.2) ∧ Lk w' (grow F w w') bl bs d L r.1 ∧ Chg F w w' := by
  refine hd.mono ?_
  rintro e w' ⟨rfl, h1, h2⟩
  obtain ⟨h3, h4⟩ := ldeed_of hb (h.deed hb h1 h2) (h2.mono fun b _ hF => hF.1)
  exact ⟨rfl, h3, h4⟩
theorem Lk.dptr {w : World} {F : Nat → Prop} {bl bs : Nat} {d : Value} {L : AL} {D : AD} (h : Lk w F bl bs d L D) : ∃ bd, d = .pointer (some ⟨bd, 0, none⟩) := by
  obtain ⟨bd, _, _, _, _, h1, -⟩ := h.dk
  exact ⟨bd, h1⟩
theorem AL.ok.ack {L : AL} (h : L.ok) : AL.ok { L with acked := L.last } := ⟨h.size, h.firsts, h.many, h.last, h.last⟩
theorem Lk.setAck {w : World} {F : Nat → Prop} {bl bs : Nat} {d : Value} {L : AL} {D : AD} (h : Lk w F bl bs d L D) : Lk (w.setCell ⟨bs, 4, none⟩ (.int .i64 L.last)) F bl bs d { L with acked := L.last } D ∧ Chg F w (w.setCell ⟨bs, 4, none⟩ (.int .i64 L.last)) :=
  h.set 4 _ (fun _ _ => ⟨rfl, rfl⟩) h.ok.ack
theorem Lk.setOver {w : World} {F : Nat → Prop} {bl bs : Nat} {d : Value} {L : AL} {D : AD} (h : Lk w F bl bs d L D) : Lk (w.setCell ⟨bs, 5, none⟩ (.bool true)) F bl bs d { L with over := true } D ∧ Chg F w (w.setCell ⟨bs, 5, none⟩ (.bool true)) :=
  h.set 5 _ (fun _ _ => ⟨rfl, rfl⟩) ⟨h.ok.size, h.ok.firsts, h.ok.many, h.ok.last, h.ok.acked⟩

set_option maxRecDepth 100000 in
set_option maxHeartbeats 800000 in
theorem ack_any {w : World} {F : Nat → Prop} {bl bs : Nat} {d : Value} {L : AL} {D : AD} (h : Lk w F bl bs d L D) (hw : Laid w) : Calls Tryz.prog 78 #[.pointer (some ⟨bs, 0, none⟩)] w fun e w' => LDeed e w w' F bl bs d (ackL L D) := by
  obtain ⟨ao, cap, hc, h1, h2, h3⟩ := h.row
  obtain ⟨bd, rfl⟩ := h.dptr
  obtain ⟨-, c0, -, c3, c4, -⟩ := h.s
  have HL : Hid _ := h
  have hlt := h.lt.2
  have hfz : w.frozen? ⟨bs, 4, none⟩ = false := by
    obtain ⟨fv, hh, -⟩ := h.hs
    exact Go.Joins.unfrozen_of_block hh 4
  by_cases hne : L.firsts = []
  · have HE : Hid (ackL L D = ({ L with acked := L.last }, D, 0)) := by show _ = _; unfold ackL; rw [if_pos hne]
    have h0 : L.firsts.length = 0 := by rw [hne]; rfl
    rw [h0] at hc
    clear h3 h1 h2 h0
    go_enter Tryz.func78, Tryz.ntmps78
    go_wp2_with fail
    go_ret
    obtain ⟨k1, k2⟩ := Lk.setAck HL.out
    rw [HE.out]
    exact ⟨rfl, k1.mono fun b _ hb => .inl hb, k2⟩
  · have hp : 0 < L.firsts.length := by
      rcases Nat.eq_zero_or_pos L.firsts.length with h0 | h0
      · exact absurd (List.eq_nil_of_length_eq_zero h0) hne
      · exact h0
    have hF2 : ∀ (w1 : World), Below w.heap.size w w1 → Calls Tryz.prog 125 #[.pointer (some ⟨bs, 0, none⟩)] w1 fun e w2 => e = .returned (.string (fileB L)) ∧ Below w.heap.size w w2 ∧ w2.cell? ⟨bs, 0, none⟩ = some (.pointer (some ⟨bd, 0, none⟩)) := by
      intro w1 hb
      refine (file_any (h.below hb) (hw.below hb) hne).mono ?_
      rintro e w2 ⟨rfl, hb2⟩
      exact ⟨rfl, below_call hb hb2, ((below_call hb hb2).cell (p := ⟨bs, 0, none⟩) hlt).trans c0⟩
    have hS2 : ∀ (w1 : World), Below w.heap.size w w1 → Calls Tryz.prog 129 #[.pointer (some ⟨bd, 0, none⟩), .string (fileB L)] w1 fun e w2 => e = .returned (.int .i64 (syncD D (fileB L)).2) ∧ Hid (Lk w2 (grow F w w2) bl bs (.pointer (some ⟨bd, 0, none⟩)) L (syncD D (fileB L)).1) ∧ Hid (Chg F w w2) ∧ w2.cell? ⟨bs, 0, none⟩ = some (.pointer (some ⟨bd, 0, none⟩)) := by
      intro w1 hb
      refine (Lk.did h hb (sync_any (h.dk.typed.below hb) (fileB L))).mono ?_
      rintro e w2 ⟨rfl, k2, c2⟩
      exact ⟨rfl, k2, c2, k2.s.2.1⟩
    have HEA : Hid (ackL L D = if (syncD D (fileB L)).2 = 0 then ({ L with acked := L.last }, (syncD D (fileB L)).1, 0) else (L, (syncD D (fileB L)).1, (syncD D (fileB L)).2)) := by show _ = _; unfold ackL; rw [if_neg hne]
    obtain ⟨r, HR⟩ := named (syncD D (fileB L))
    rw [← HR.out] at hS2 HEA
    obtain ⟨D', x⟩ := r
    simp only at hS2 HEA
    obtain ⟨n, HN⟩ := named L.firsts.length
    rw [← HN.out] at hc hp
    have hp' : (0 : Int) < (n : Int) := by omega
    have B0 : Below w.heap.size w w.drew := (Below.refl _ _).drew
    have S0 : w.drew.cell? ⟨bs, 0, none⟩ = some (.pointer (some ⟨bd, 0, none⟩)) := c0
    clear h3 h1 h2 c4 hfz c3
    go_enter Tryz.func78, Tryz.ntmps78
    go_wp2_with fail
    go_region_held3 (fun w' => w'.cell? ⟨bs, 0, none⟩ = some (.pointer (some ⟨bd, 0, none⟩))) (assumption) (first | (go_at_call 125; refine Calls.mono (hF2 _ ?_) ?_; assumption; rintro e w1 ⟨rfl, B1, S1⟩) | (go_at_call 129; refine Calls.mono (hS2 _ ?_) ?_; assumption; rintro e w2 ⟨rfl, K2, C2, S2⟩))
    clear hF2 hS2
    obtain ⟨-, -, -, c3, c4, -⟩ := Lk.s K2.out
    have hfz : w2.frozen? ⟨bs, 4, none⟩ = false := by
      obtain ⟨fv, hh, -⟩ := Lk.hs K2.out
      exact Go.Joins.unfrozen_of_block hh 4
    by_cases hx : x = 0
    · subst hx
      rw [if_pos rfl] at HEA
      go_wp2_with fail
      go_ret
      obtain ⟨k1, k2⟩ := Lk.setAck K2.out
      rw [HEA.out]
      obtain ⟨k3, k4⟩ := ldeed_trans (w' := w2.setCell ⟨bs, 4, none⟩ (.int .i64 L.last)) C2.out (k1.mono fun b _ hb => .inl hb) k2
      exact ⟨rfl, k3, k4⟩
    · rw [if_neg hx] at HEA
      have hx' : ((x : Int) == 0) = false := by simp only [beq_eq_false_iff_ne]; omega
      go_wp2_with fail
      go_ret
      rw [HEA.out]
      exact ⟨rfl, K2.out, C2.out⟩
end Go.Proofs.YtomhkjacngmnhaaGreatDoor
namespace Go.Proofs.YtomhkjacngmnhaaGreatDoor
open Go.RowKit

def putG (L : AL) (D : AD) (b : List UInt8) : AL × AD × Nat :=
  if (putL [] b).2 = 0 then (L, (appendD D (fileB L) (putL [] b).1).1, (appendD D (fileB L) (putL [] b).1).2) else (L, D, (putL [] b).2)

theorem FT.lt {w : World} {F : Nat → Prop} {b : Nat} (h : FT w F b) : b < w.heap.size := by
  obtain ⟨-, c, e, x, hh, -⟩ := h
  exact lt_of_heap hh
theorem fileB_size (L : AL) : (fileB L).size ≤ 140737488355328 := by
  have := nameB_size (L.firsts.getLastD 0)
  unfold fileB
  omega

set_option maxRecDepth 100000 in
set_option maxHeartbeats 800000 in
theorem put_log {w : World} {F : Nat → Prop} {bl bs : Nat} {d : Value} {L : AL} {D : AD} (h : Lk w F bl bs d L D) (hw : Laid w) (hne : L.firsts ≠ []) (sb : Value) (b : List UInt8) (hr : Rd w sb b) : Calls Tryz.prog 76 #[.pointer (some ⟨bs, 0, none⟩), sb] w fun e w' => LDeed e w w' F bl bs d (putG L D b) := by
  obtain ⟨bd, rfl⟩ := h.dptr
  obtain ⟨-, c0, -, -, -, -⟩ := h.s
  have HL : Hid _ := h
  have hlt := h.lt.2
  have HP : Hid _ := put_any (.slice none 0 0) sb [] b w (Rd.nil _) hr (by simp)
  have hF2 : ∀ (w1 : World), Below w.heap.size w w1 → Calls Tryz.prog 125 #[.pointer (some ⟨bs, 0, none⟩)] w1 fun e w2 => e = .returned (.string (fileB L)) ∧ Below w.heap.size w w2 ∧ Hid (Below w1.heap.size w1 w2) ∧ w2.cell? ⟨bs, 0, none⟩ = some (.pointer (some ⟨bd, 0, none⟩)) := by
    intro w1 hb
    refine (file_any (h.below hb) (hw.below hb) hne).mono ?_
    rintro e w2 ⟨rfl, hb2⟩
    exact ⟨rfl, below_call hb hb2, hb2, ((below_call hb hb2).cell (p := ⟨bs, 0, none⟩) hlt).trans c0⟩
  have hA2 : ∀ (w1 : World) (fv : Value) (fb : List UInt8), Below w.heap.size w w1 → Hid (Own w1 w.heap.size fv fb) → Calls Tryz.prog 37 #[.pointer (some ⟨bd, 0, none⟩), .string (fileB L), fv] w1 fun e w2 => e = .returned (.int .i64 (appendD D (fileB L) fb).2) ∧ Hid (Lk w2 (grow F w w2) bl bs (.pointer (some ⟨bd, 0, none⟩)) L (appendD D (fileB L) fb).1) ∧ Hid (Chg F w w2) ∧ w2.cell? ⟨bs, 0, none⟩ = some (.pointer (some ⟨bd, 0, none⟩)) := by
    intro w1 fv fb hb ho
    refine (Lk.did h hb (append_any (h.dk.typed.below hb) (fileB L) (fileB_size L) fv fb (Own.rd ho.out) (fun a ha _ hF => ?_))).mono ?_
    · have := (World.ownsRow.lt ho.out a ha).1
      have := hF.lt
      omega
    · rintro e w2 ⟨rfl, k2, c2⟩
      exact ⟨rfl, k2, c2, k2.s.2.1⟩
  have HEP : Hid (putG L D b = if (putL [] b).2 = 0 then (L, (appendD D (fileB L) (putL [] b).1).1, (appendD D (fileB L) (putL [] b).1).2) else (L, D, (putL [] b).2)) := rfl
  obtain ⟨r, HR⟩ := named (putL [] b)
  rw [← HR.out] at HP HEP
  obtain ⟨fb, x⟩ := r
  simp only at HP HEP
  have hA3 := fun w1 fv => hA2 w1 fv fb
  obtain ⟨q, HQ⟩ := named (appendD D (fileB L) fb)
  rw [← HQ.out] at hA3 HEP
  obtain ⟨D', y⟩ := q
  simp only at hA3 HEP
  clear hA2
  go_enter Tryz.func76, Tryz.ntmps76
  go_wp2_with fail
  refine Calls.mono HP.out ?_
  rintro e w1 ⟨v1, rfl, ho1, hb1⟩
  have HO1 : Hid _ := ho1
  clear ho1
  by_cases hx : x = 0
  · subst hx
    rw [if_pos rfl] at HEP
    have B1 : Below w.heap.size w w1.drew := hb1.drew
    have S1 : w1.drew.cell? ⟨bs, 0, none⟩ = some (.pointer (some ⟨bd, 0, none⟩)) := (hb1.cell (p := ⟨bs, 0, none⟩) hlt).trans c0
    have HO0 : Hid (Own w1.drew w.heap.size v1 fb) := HO1
    go_wp2_with fail
    go_region_held3 (fun w' => w'.cell? ⟨bs, 0, none⟩ = some (.pointer (some ⟨bd, 0, none⟩))) (assumption) (first | (go_at_call 125; refine Calls.mono (hF2 _ ?_) ?_; assumption; rintro e w2 ⟨rfl, B2, q2, S2⟩; have HO2 : Hid (Own w2 w.heap.size v1 fb) := Own.below HO0.out q2.out) | (go_at_call 37; refine Calls.mono (hA3 _ _ ?_ ?_) ?_; assumption; assumption; rintro e w3 ⟨rfl, K3, C3, S3⟩))
    go_wp2_with fail
    go_ret
    rw [HEP.out]
    exact ⟨rfl, K3.out, C3.out⟩
  · rw [if_neg hx] at HEP
    have hx' : ((x : Int) == 0) = false := by simp only [beq_eq_false_iff_ne]; omega
    go_wp2_with fail
    go_ret
    rw [HEP.out]
    exact ⟨rfl, (Lk.below HL.out hb1).mono fun b _ hb => .inl hb, Chg.ofBelow hb1 _⟩
/-- a number more behind the segments' numbers -/
theorem Lk.more {w : World} {F : Nat → Prop} {bl bs : Nat} {d : Value} {L : AL} {D : AD} (h : Lk w F bl bs d L D) (n : Int) (hn : isNum n = true) (hm : L.firsts.length < 1000000) :
    ∃ ao k c v' w', w.cell? ⟨bs, 2, none⟩ = some (.slice ao k c) ∧ (Builtin.append_ #[31, 31] 31 #[.slice ao k c, .slice (some ⟨w.heap.size, 0, none⟩) 1 1]).run Tryz.prog (w.alloc (.cells #[.int .i64 n] 3)) = .ok v' w' ∧ (∃ u, w'.cell? ⟨bs, 2, none⟩ = some u) ∧ w'.frozen? ⟨bs, 2, none⟩ = false ∧ (∃ a2 k2 c2, v' = .slice a2 k2 c2) ∧
      Lk (w'.setCell ⟨bs, 2, none⟩ v') (grow F w (w'.setCell ⟨bs, 2, none⟩ v')) bl bs d { L with firsts := L.firsts ++ [n] } D ∧ Chg F w (w'.setCell ⟨bs, 2, none⟩ v') := by
  obtain ⟨i3, hi3, hz30, hz31, hz32⟩ := info_parts Tryz.info3
  obtain ⟨fv, h1, h2, h3⟩ := h.hs
  have hlen : (intsV L.firsts).length = L.firsts.length := by simp [intsV]
  have hrun := fun ty => run_append_own' (P := Tryz.prog) (w.alloc (.cells #[.int .i64 n] 3)) 0 31 ty 3 i3 (.int .i64 0) 1 8 Tryz.underlying31 hi3 hz30 hz31 hz32 rfl (by omega) fv (intsV L.firsts).length (intsV L.firsts) (h2.alloc _) ⟨w.heap.size, 0, none⟩ 1 1 [.int .i64 n] (by simp)
    (fun j u hj => by
      rcases j with _ | j
      · simp at hj
        subst hj
        have : (⟨w.heap.size, 0, none⟩ : Addr).add 0 = ⟨w.heap.size, 0, none⟩ := by unfold Addr.add; split <;> simp_all
        rw [this]
        simp
      · simp at hj) (fun u hu => by simp at hu; subst hu; rfl) (by rw [hlen]; unfold maxLen; omega) (by rw [hlen]; omega) (Nat.zero_le _)
  obtain ⟨v', w', hr, ho, hg, hblk⟩ := hrun 31
  have hne : ∀ (b : Nat) (c : Array Value) (e : TypeId) (x : Nat × Nat), w.heap[b]? = some (Obj.cells c e x) → e ≠ 3 → w'.heap[b]? = some (Obj.cells c e x) := by
    intro b c e x hb he
    have hlt := lt_of_heap hb
    rw [hg.block b (by simp; omega) (fun e2 => ?_), Below.heap_alloc _ _ _ hlt]
    · exact hb
    · obtain ⟨c2, hc2⟩ := h2.elem e2.symm
      rw [hb] at hc2
      cases hc2
      exact he rfl
  have hs' := hne _ _ _ _ h1 (by decide)
  have hl' := hne _ _ _ _ h.hl (by decide)
  have hsz := hg.size
  simp only [World.size_alloc] at hsz
  have hset : (w'.setCell ⟨bs, 2, none⟩ v').heap.size = w'.heap.size := by simp [World.setCell]
  have hoth : ∀ a, a ≠ bs → (w'.setCell ⟨bs, 2, none⟩ v').heap[a]? = w'.heap[a]? := fun a ha => Below.heap_setCell _ _ _ _ ha
  have hvF : ∀ a, v'.ownBlock = some a → F a ∨ w.heap.size ≤ a ∧ a < w'.heap.size := by
    intro a ha
    have hlt := (World.ownsRow.lt ho a ha).2
    rcases hblk with hk | hk
    · exact .inl (h3 a (by rw [← hk]; exact ha))
    · rw [hk] at ha
      cases ha
      exact .inr ⟨by simp, hlt⟩
  have hchg : Chg F w w' := by
    refine ⟨hg.os, hg.tape, hg.output, by omega, fun k hk hF => ?_⟩
    rw [hg.block k (by simp; omega) (fun e2 => hF (h3 k e2.symm)), Below.heap_alloc _ _ _ hk]
  obtain ⟨ao, cc, hfv, -⟩ := id h2.rd
  refine ⟨ao, (intsV L.firsts).length, cc, v', w', by rw [cell_of h1, ← hfv]; rfl, by rw [← hfv]; exact hr, ⟨fv, by rw [cell_of hs']; rfl⟩, Go.Joins.unfrozen_of_block hs' 2, ?_, ⟨?_, ⟨v', ?_, ?_, ?_⟩, ⟨.inl h.fl.1, .inl h.fl.2⟩, ?_, ?_⟩, ?_⟩
  · obtain ⟨a, c, hv, -⟩ := OwnV.rd (vs := intsV L.firsts ++ [.int .i64 n]) (show OwnV w' 0 3 v' _ from by unfold OwnV; rw [List.length_append]; exact ho)
    exact ⟨_, _, _, hv⟩
  · rw [hoth _ (ne_of_elem hl' hs' (by decide))]; exact hl'
  · rw [heap_set hs']; rfl
  · have : intsV (L.firsts ++ [n]) = intsV L.firsts ++ [.int .i64 n] := by simp [intsV]
    rw [this]
    refine OwnV.heap (show OwnV w' 0 3 v' _ from ?_) (fun a ha => hoth a ?_)
    · unfold OwnV
      rw [List.length_append]
      exact ho
    · obtain ⟨c, hc⟩ := OwnV.elem (vs := intsV L.firsts ++ [.int .i64 n]) (show OwnV w' 0 3 v' _ from by unfold OwnV; rw [List.length_append]; exact ho) ha
      exact ne_of_elem hc hs' (by decide)
  · intro a ha
    rcases hvF a ha with hh | hh
    · exact .inl hh
    · exact .inr ⟨hh.1, by rw [hset]; exact hh.2⟩
  · have hd1 : Dk w' (FT w F) d D := h.dk.typed.chg (G := fun b => fv.ownBlock = some b) ⟨hg.os, hg.tape, hg.output, by omega, fun k hk hF => by rw [hg.block k (by simp; omega) (fun e2 => hF e2.symm), Below.heap_alloc _ _ _ hk]⟩ (fun b hF hb => by
      obtain ⟨c, hc⟩ := h2.elem hb
      exact not_DT hc (by decide) hF.2)
    have hd2 := hd1.chg (G := fun b => b = bs) ((Chg.refl (fun b => b = bs) w').setCell (p := ⟨bs, 2, none⟩) (.inl rfl) v') (fun b hF hb => by
      subst hb
      exact not_DT h1 (by decide) hF.2)
    exact hd2.mono fun b _ hF => .inl hF.1
  · refine ⟨h.ok.size, fun x hx => ?_, ?_, h.ok.last, h.ok.acked⟩
    · simp only [List.mem_append, List.mem_singleton] at hx
      rcases hx with hx | rfl
      · exact h.ok.firsts x hx
      · simpa [isNum] using hn
    · simp only [List.length_append, List.length_singleton]; omega
  · exact hchg.setCell (p := ⟨bs, 2, none⟩) (.inl h.fl.2) v'

def beginG (L : AL) (D : AD) (n : Int) : AL × AD × Nat :=
  if isNum n then (if (appendD D (nameB n) (headL n).1).2 = 0 then ({ L with firsts := L.firsts ++ [n] }, (appendD D (nameB n) (headL n).1).1, 0) else (L, (appendD D (nameB n) (headL n).1).1, (appendD D (nameB n) (headL n).1).2)) else (L, D, 2)

set_option maxRecDepth 100000 in
set_option maxHeartbeats 800000 in
theorem begin_log {w : World} {F : Nat → Prop} {bl bs : Nat} {d : Value} {L : AL} {D : AD} (h : Lk w F bl bs d L D) (hw : Laid w) (n : Int) (hm : L.firsts.length < 1000000) : Calls Tryz.prog 128 #[.pointer (some ⟨bs, 0, none⟩), .int .i64 n] w fun e w' => LDeed e w w' F bl bs d (beginG L D n) := by
  obtain ⟨bd, rfl⟩ := h.dptr
  obtain ⟨-, c0, -, -, -, -⟩ := h.s
  have HL : Hid _ := h
  have hlt := h.lt.2
  have HP : Hid _ := head_any n w
  cases hn : isNum n with
  | false =>
    have HE : Hid (beginG L D n = (L, D, 2)) := by show _ = _; unfold beginG; rw [hn]; rfl
    have HH : Hid (headL n = ([], 2)) := by show _ = _; unfold headL; rw [hn]; rfl
    rw [HH.out] at HP
    go_enter Tryz.func128, Tryz.ntmps128
    go_wp2_with fail
    refine Calls.mono HP.out ?_
    rintro e w1 ⟨v1, rfl, ho1, hb1⟩
    go_wp2_with fail
    go_ret
    rw [HE.out]
    exact ⟨rfl, (Lk.below HL.out hb1).mono fun b _ hb => .inl hb, Chg.ofBelow hb1 _⟩
  | true =>
    have hF2 : ∀ (w1 : World), Below w.heap.size w w1 → Calls Tryz.prog 49 #[.int .i64 n] w1 fun e w2 => e = .returned (.string (nameB n)) ∧ Below w.heap.size w w2 ∧ Hid (Below w1.heap.size w1 w2) ∧ w2.cell? ⟨bs, 0, none⟩ = some (.pointer (some ⟨bd, 0, none⟩)) := by
      intro w1 hb
      refine (name_any n w1 (hw.below hb)).mono ?_
      rintro e w2 ⟨rfl, hb2⟩
      exact ⟨rfl, below_call hb hb2, hb2, ((below_call hb hb2).cell (p := ⟨bs, 0, none⟩) hlt).trans c0⟩
    have hA2 : ∀ (w1 : World) (fv : Value) (fb : List UInt8), Below w.heap.size w w1 → Hid (Own w1 w.heap.size fv fb) → Calls Tryz.prog 37 #[.pointer (some ⟨bd, 0, none⟩), .string (nameB n), fv] w1 fun e w2 => e = .returned (.int .i64 (appendD D (nameB n) fb).2) ∧ Hid (Lk w2 (grow F w w2) bl bs (.pointer (some ⟨bd, 0, none⟩)) L (appendD D (nameB n) fb).1) ∧ Hid (Chg F w w2) ∧ w2.cell? ⟨bs, 0, none⟩ = some (.pointer (some ⟨bd, 0, none⟩)) := by
      intro w1 fv fb hb ho
      refine (Lk.did h hb (append_any (h.dk.typed.below hb) (nameB n) (by have := nameB_size n; omega) fv fb (Own.rd ho.out) (fun a ha _ hF => ?_))).mono ?_
      · have := (World.ownsRow.lt ho.out a ha).1
        have := hF.lt
        omega
      · rintro e w2 ⟨rfl, k2, c2⟩
        exact ⟨rfl, k2, c2, k2.s.2.1⟩
    have HEP : Hid (beginG L D n = if (appendD D (nameB n) (headL n).1).2 = 0 then ({ L with firsts := L.firsts ++ [n] }, (appendD D (nameB n) (headL n).1).1, 0) else (L, (appendD D (nameB n) (headL n).1).1, (appendD D (nameB n) (headL n).1).2)) := by show _ = _; unfold beginG; rw [hn]; rfl
    have HH : Hid (headL n = (frameL (0 :: U n), 0)) := by show _ = _; unfold headL; rw [hn]; rfl
    rw [HH.out] at HP HEP
    simp only at HP HEP
    obtain ⟨fb, HFB⟩ := named (frameL (0 :: U n))
    rw [← HFB.out] at HP HEP
    have hA3 := fun w1 fv => hA2 w1 fv fb
    obtain ⟨q, HQ⟩ := named (appendD D (nameB n) fb)
    rw [← HQ.out] at hA3 HEP
    obtain ⟨D', y⟩ := q
    simp only at hA3 HEP
    clear hA2
    go_enter Tryz.func128, Tryz.ntmps128
    go_wp2_with fail
    refine Calls.mono HP.out ?_
    rintro e w1 ⟨v1, rfl, ho1, hb1⟩
    have B1 : Below w.heap.size w w1.drew := hb1.drew
    have S1 : w1.drew.cell? ⟨bs, 0, none⟩ = some (.pointer (some ⟨bd, 0, none⟩)) := (hb1.cell (p := ⟨bs, 0, none⟩) hlt).trans c0
    have HO0 : Hid (Own w1.drew w.heap.size v1 fb) := ho1
    clear ho1
    go_wp2_with fail
    go_region_held3 (fun w' => w'.cell? ⟨bs, 0, none⟩ = some (.pointer (some ⟨bd, 0, none⟩))) (assumption) (first | (go_at_call 49; refine Calls.mono (hF2 _ ?_) ?_; assumption; rintro e w2 ⟨rfl, B2, q2, S2⟩; have HO2 : Hid (Own w2 w.heap.size v1 fb) := Own.below HO0.out q2.out) | (go_at_call 37; refine Calls.mono (hA3 _ _ ?_ ?_) ?_; assumption; assumption; rintro e w3 ⟨rfl, K3, C3, S3⟩))
    clear hF2 hA3 B1 S1 c0
    by_cases hy : y = 0
    · subst hy
      rw [if_pos rfl] at HEP
      obtain ⟨ao, k, c, v', w4, hcf, hrn, ⟨u, hcu⟩, hfz, ⟨a2, k2, c2, rfl⟩, KL, CL⟩ := Lk.more K3.out n hn hm
      have HKL : Hid _ := KL
      have HCL : Hid _ := CL
      clear KL CL
      go_wp2_with (at_builtin; refine Lib.wpList_append_run _ rfl _ _ 31 31 rfl _ _ rfl rfl _ _ hrn ?_)
      go_ret
      rw [HEP.out]
      obtain ⟨k1, k2⟩ := ldeed_trans C3.out HKL.out HCL.out
      exact ⟨rfl, k1, k2⟩
    · rw [if_neg hy] at HEP
      have hy' : ((y : Int) == 0) = false := by simp only [beq_eq_false_iff_ne]; omega
      go_wp2_with fail
      go_ret
      rw [HEP.out]
      exact ⟨rfl, K3.out, C3.out⟩
end Go.Proofs.YtomhkjacngmnhaaGreatDoor
namespace Go.Proofs.YtomhkjacngmnhaaGreatDoor
open Go.RowKit

set_option maxRecDepth 100000 in
set_option maxHeartbeats 800000 in
theorem do_log (bs g n : Nat) (K : Nat → Nat) (C : Nat → Array Value) (I : Nat → World → Prop) (X : Nat → World → Prop) (w : World) (hn : n ≤ 1000000) (hE : ∀ i w, i < n → (callFunc (K i) (C i)).run Tryz.prog w = .ok (.enter (K i) (C i)) w)
    (hI : ∀ i w, i < n → I i w → w.cell? ⟨g, i, none⟩ = some (.func (.func (K i)) #[] (C i)))
    (hcall : ∀ i w, i < n → I i w → Calls Tryz.prog (K i) (C i) w fun e w' => ∃ x : Nat, e = .returned (.int .i64 x) ∧ (x = 0 → I (i + 1) w') ∧ (x ≠ 0 → X x w'))
    (hX : ∀ x w, X x w → (∃ b, w.cell? ⟨bs, 5, none⟩ = some (.bool b)) ∧ w.frozen? ⟨bs, 5, none⟩ = false) (h0 : I 0 w) :
    Calls Tryz.prog 72 #[.pointer (some ⟨bs, 0, none⟩), .slice (some ⟨g, 0, none⟩) n n] w fun e w' => ∃ x : Nat, e = .returned (.int .i64 x) ∧ (x = 0 ∧ I n w' ∨ x ≠ 0 ∧ ∃ w'', X x w'' ∧ w' = w''.setCell ⟨bs, 5, none⟩ (.bool true)) := by
  have HI : Hid _ := hI
  have HC : Hid _ := hcall
  have HX : Hid _ := hX
  have H0 : Hid _ := h0
  clear hI hcall hX h0
  go_enter Tryz.func72, Tryz.ntmps72
  go_wp2
  go_loopw [10] (fun iv wr => ∃ k : Nat, k ≤ n ∧ iv = .int .i64 k ∧ Hid (I k wr)) (fun iv _ => n - (intOf iv).toNat)
  case atStart => exact ⟨0, by omega, rfl, H0⟩
  case round =>
    obtain ⟨k, hk, rfl, HK⟩ := hrel
    by_cases hlt : k < n
    · have hlt' : (k : Int) < n := by omega
      have hck := HI.out k wr hlt HK.out
      have hcc := HC.out k wr hlt HK.out
      have hee := hE k wr hlt
      go_wp2_with fail
      refine Calls.mono hcc ?_
      rintro e w1 ⟨x, rfl, hx0, hx1⟩
      by_cases hx : x = 0
      · subst hx
        have HK1 : Hid _ := hx0 rfl
        clear hx0 hx1 hcc
        go_wp2_with fail
        go_roundw
        case rel => exact ⟨k + 1, by omega, by go_num, HK1⟩
        case measure => simp [intOf]; omega
      · have hX1 := hx1 hx
        obtain ⟨⟨b, hb⟩, hfz⟩ := HX.out x w1 hX1
        have HX1 : Hid _ := hX1
        have hx' : ((x : Int) == 0) = false := by simp only [beq_eq_false_iff_ne]; omega
        clear hx0 hx1 hcc hX1
        go_wp2_with fail
        go_ret
        exact ⟨x, rfl, .inr ⟨hx, w1, HX1.out, rfl⟩⟩
    · have HKN : Hid (k = n) := by show k = n; omega
      have hlt' : ¬ ((k : Int) < n) := by omega
      go_wp2
      go_ret
      exact ⟨0, rfl, .inl ⟨rfl, by rw [← HKN.out]; exact HK.out⟩⟩

/-- memory that may change: behind what is laid -/
def Fok (F : Nat → Prop) (w : World) : Prop := 6 ≤ w.heap.size ∧ ∀ b, F b → 6 ≤ b ∧ b < w.heap.size
theorem Fok.grow {F : Nat → Prop} {w w' : World} (h : Fok F w) (hc : Chg F w w') : Fok (grow F w w') w' := by
  have hs := hc.size
  refine ⟨by have := h.1; omega, fun b hb => ?_⟩
  rcases hb with hb | hb
  · have := h.2 b hb
    exact ⟨this.1, by omega⟩
  · have := h.1
    exact ⟨by have := hb.1; omega, hb.2⟩
theorem Fok.below {F : Nat → Prop} {w w' : World} (h : Fok F w) (hb : Below w.heap.size w w') : Fok F w' := by
  have hs := hb.size
  exact ⟨by have := h.1; omega, fun b hF => ⟨(h.2 b hF).1, by have := (h.2 b hF).2; omega⟩⟩

abbrev Act3 := AL → AD → AL × AD × Nat
/-- deeds, one behind the other, up to the first that fails: the log is over then -/
def doG : List Act3 → Act3
  | [], L, D => (L, D, 0)
  | f :: fs, L, D => if (f L D).2.2 = 0 then doG fs (f L D).1 (f L D).2.1 else ({ (f L D).1 with over := true }, (f L D).2.1, (f L D).2.2)
/-- the log and the disk behind the first deeds -/
def stG : List Act3 → Nat → AL → AD → AL × AD
  | _, 0, L, D => (L, D)
  | [], _ + 1, L, D => (L, D)
  | f :: fs, i + 1, L, D => stG fs i (f L D).1 (f L D).2.1
/-- the first deeds are done -/
def okG : List Act3 → Nat → AL → AD → Prop
  | _, 0, _, _ => True
  | [], _ + 1, _, _ => True
  | f :: fs, i + 1, L, D => (f L D).2.2 = 0 ∧ okG fs i (f L D).1 (f L D).2.1
theorem stG_zero (fs : List Act3) (L : AL) (D : AD) : stG fs 0 L D = (L, D) := by cases fs <;> rfl
theorem okG_zero (fs : List Act3) (L : AL) (D : AD) : okG fs 0 L D := by cases fs <;> trivial
theorem stG_succ (fs : List Act3) (i : Nat) (hi : i < fs.length) (L : AL) (D : AD) : stG fs (i + 1) L D = ((fs[i] (stG fs i L D).1 (stG fs i L D).2).1, (fs[i] (stG fs i L D).1 (stG fs i L D).2).2.1) ∧ (okG fs i L D → (fs[i] (stG fs i L D).1 (stG fs i L D).2).2.2 = 0 → okG fs (i + 1) L D) := by
  induction fs generalizing i L D with
  | nil => simp at hi
  | cons f fs ih =>
    cases i with
    | zero => exact ⟨stG_zero _ _ _, fun _ h => ⟨h, okG_zero _ _ _⟩⟩
    | succ i =>
      obtain ⟨h1, h2⟩ := ih i (by simpa using hi) (f L D).1 (f L D).2.1
      exact ⟨h1, fun h3 h4 => ⟨h3.1, h2 h3.2 h4⟩⟩
theorem doG_ok (fs : List Act3) (L : AL) (D : AD) (h : okG fs fs.length L D) : doG fs L D = ((stG fs fs.length L D).1, (stG fs fs.length L D).2, 0) := by
  induction fs generalizing L D with
  | nil => rfl
  | cons f fs ih =>
    unfold doG
    rw [if_pos h.1, ih _ _ h.2]
    rfl
theorem doG_bad (fs : List Act3) (i : Nat) (hi : i < fs.length) (L : AL) (D : AD) (h : okG fs i L D) (hx : (fs[i] (stG fs i L D).1 (stG fs i L D).2).2.2 ≠ 0) :
    doG fs L D = ({ (fs[i] (stG fs i L D).1 (stG fs i L D).2).1 with over := true }, (fs[i] (stG fs i L D).1 (stG fs i L D).2).2.1, (fs[i] (stG fs i L D).1 (stG fs i L D).2).2.2) := by
  induction fs generalizing i L D with
  | nil => simp at hi
  | cons f fs ih =>
    cases i with
    | zero =>
      have hx' : (f L D).2.2 ≠ 0 := hx
      unfold doG
      rw [if_neg hx']
      rfl
    | succ i =>
      unfold doG
      rw [if_pos h.1]
      exact ih i (by simpa using hi) _ _ h.2 hx

/-- do, of deeds each of which does so to the log and its disk -/
theorem do_deeds {W : World} {F : Nat → Prop} {bl bs : Nat} {d : Value} {L : AL} {D : AD} (h : Lk W F bl bs d L D) (hF : Fok F W) (hw : Laid W) (g : Nat) (fs : List Act3) (K : Nat → Nat) (C : Nat → Array Value) (cs : Array Value)
    (hg : W.heap[g]? = some (.cells cs 48 (0, 0))) (hgF : ¬ F g) (hcs : ∀ i, i < fs.length → cs[i]? = some (.func (.func (K i)) #[] (C i))) (hn : fs.length ≤ 1000000)
    (hE : ∀ i w, i < fs.length → (callFunc (K i) (C i)).run Tryz.prog w = .ok (.enter (K i) (C i)) w)
    (hcall : ∀ i (hi : i < fs.length) w1 F1, okG fs i L D → Lk w1 F1 bl bs d (stG fs i L D).1 (stG fs i L D).2 → Fok F1 w1 → Laid w1 → (∀ b, b < W.heap.size → ¬ F b → w1.heap[b]? = W.heap[b]? ∧ ¬ F1 b) → Calls Tryz.prog (K i) (C i) w1 fun e w' => LDeed e w1 w' F1 bl bs d (fs[i] (stG fs i L D).1 (stG fs i L D).2)) :
    Calls Tryz.prog 72 #[.pointer (some ⟨bs, 0, none⟩), .slice (some ⟨g, 0, none⟩) fs.length fs.length] W fun e w' => LDeed e W w' F bl bs d (doG fs L D) := by
  have hglt := lt_of_heap hg
  refine (do_log bs g fs.length K C (fun i w' => Lk w' (grow F W w') bl bs d (stG fs i L D).1 (stG fs i L D).2 ∧ Chg F W w' ∧ okG fs i L D)
    (fun x w' => ∃ i, ∃ hi : i < fs.length, okG fs i L D ∧ (fs[i] (stG fs i L D).1 (stG fs i L D).2).2.2 = x ∧ Lk w' (grow F W w') bl bs d (fs[i] (stG fs i L D).1 (stG fs i L D).2).1 (fs[i] (stG fs i L D).1 (stG fs i L D).2).2.1 ∧ Chg F W w') W hn hE ?_ ?_ ?_ ?_).mono ?_
  · rintro i w hi ⟨-, h2, -⟩
    have : w.heap[g]? = some (.cells cs 48 (0, 0)) := by rw [h2.block g hglt hgF]; exact hg
    rw [cell_of this]
    exact hcs i hi
  · rintro i w hi ⟨h1, h2, h3⟩
    refine (hcall i hi w _ h3 h1 (hF.grow h2) (hw.chg h2 fun b hb => (hF.2 b hb).1) (fun b hb hnF => ⟨h2.block b hb hnF, fun hF1 => ?_⟩)).mono ?_
    · rcases hF1 with hh | hh
      · exact hnF hh
      · have := hh.1; omega
    · rintro e w' ⟨rfl, k1, k2⟩
      obtain ⟨k3, k4⟩ := ldeed_trans h2 k1 k2
      refine ⟨_, rfl, fun hx => ?_, fun hx => ⟨i, hi, h3, rfl, k3, k4⟩⟩
      obtain ⟨s1, s2⟩ := stG_succ fs i hi L D
      refine ⟨?_, k4, s2 h3 hx⟩
      rw [s1]
      exact k3
  · rintro x w ⟨i, hi, -, -, k, -⟩
    refine ⟨⟨_, k.s.2.2.2.2.2⟩, ?_⟩
    obtain ⟨fv, hh, -⟩ := k.hs
    exact Go.Joins.unfrozen_of_block hh 5
  · refine ⟨?_, Chg.refl _ _, okG_zero _ _ _⟩
    rw [stG_zero]
    exact h.mono fun b _ hb => .inl hb
  · rintro e w' ⟨x, rfl, h1 | ⟨hx, w'', ⟨i, hi, ho, rfl, k1, k2⟩, rfl⟩⟩
    · obtain ⟨rfl, k1, k2, k3⟩ := h1
      rw [doG_ok fs L D k3]
      exact ⟨rfl, k1, k2⟩
    · rw [doG_bad fs i hi L D ho hx]
      obtain ⟨k3, k4⟩ := Lk.setOver k1
      refine ⟨rfl, ?_, k2.trans k4 (fun j hj hh => ?_)⟩
      · refine k3.mono fun b _ hb => ?_
        rcases hb with hb | hb
        · exact .inl hb
        · exact .inr ⟨hb.1, by simpa [World.setCell] using hb.2⟩
      · rcases hh with hh | hh
        · exact hh
        · have := hh.1; omega
end Go.Proofs.YtomhkjacngmnhaaGreatDoor
