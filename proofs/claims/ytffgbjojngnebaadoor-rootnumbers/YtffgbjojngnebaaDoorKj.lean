/-
  A disk that a call has made for itself, with the blocks that are its own: what is done to it, one behind the other, leaves all others as they are. Own work.
-/
import Derived.Test.YtffgbjojngnebaaDoorKi
namespace Go.Proofs.YtffgbjojngnebaaDoor
open Go.RowKit

/-- d is a disk that has D, in the blocks of F, all made since B; and what lies below B is as in w0 -/
structure Ap (B : Nat) (w0 w : World) (d : Value) (D : AD) (F : Nat → Prop) : Prop where
  dk : Dk w F d D
  sub : ∀ b, F b → B ≤ b ∧ b < w.heap.size
  bel : Below B w0 w
  le : B ≤ w.heap.size
/-- what lay outside of F is as it was, and outside of G -/
structure Step (F : Nat → Prop) (w w' : World) (G : Nat → Prop) : Prop where
  chg : Chg F w w'
  new : ∀ b, G b → F b ∨ w.heap.size ≤ b

theorem Ap.below {B : Nat} {w0 w w' : World} {d : Value} {D : AD} {F : Nat → Prop} (h : Ap B w0 w d D F) (hb : Below w.heap.size w w') : Ap B w0 w' d D F :=
  ⟨h.dk.below hb, fun b hF => ⟨(h.sub b hF).1, Nat.lt_of_lt_of_le (h.sub b hF).2 hb.size⟩, h.bel.trans (hb.mono h.le), Nat.le_trans h.le hb.size⟩
theorem Step.below {F : Nat → Prop} {w w' : World} (hb : Below w.heap.size w w') : Step F w w' F := ⟨Chg.ofBelow hb F, fun _ h => .inl h⟩
theorem Step.trans {F G H : Nat → Prop} {w w' w'' : World} (h : Step F w w' G) (k : Step G w' w'' H) : Step F w w'' H :=
  ⟨h.chg.trans k.chg fun i hi hG => (h.new i hG).elim id fun h' => by omega, fun b hH => (k.new b hH).elim (h.new b) fun h' => .inr (by have := h.chg.size; omega)⟩
theorem Ap.deed {B : Nat} {w0 w w' : World} {d : Value} {D : AD} {F : Nat → Prop} {r : AD × Nat} {e : Ending} (h : Ap B w0 w d D F) (hd : Deed e w w' F d r) : e = .returned (.int .i64 r.2) ∧ ∃ G, Ap B w0 w' d r.1 G ∧ Step F w w' G := by
  obtain ⟨he, h1, h2⟩ := hd
  have hs := h2.size
  refine ⟨he, _, ⟨h1, fun b hG => ?_, h.bel.trans (h2.below B (fun k hk => (h.sub k hk).1) h.le), Nat.le_trans h.le hs⟩, h2, fun b hG => ?_⟩
  · rcases hG with hG | hG
    · have := h.sub b hG; omega
    · have := h.le; omega
  · exact hG.imp id (fun hG => hG.1)
theorem C3.step {w w' : World} {F G : Nat → Prop} {g : Nat} {a b c : Value} (h : C3 w g a b c) (hF : ¬ F g) (hs : Step F w w' G) : C3 w' g a b c ∧ ¬ G g := by
  obtain ⟨h0, h1, h2, h3, h4, h5, h6⟩ := h
  refine ⟨⟨Nat.lt_of_lt_of_le h0 hs.chg.size, (hs.chg.cell h0 hF 0).trans h1, (hs.chg.cell h0 hF 1).trans h2, (hs.chg.cell h0 hF 2).trans h3, (hs.chg.frozen h0 hF 0).trans h4, (hs.chg.frozen h0 hF 1).trans h5, (hs.chg.frozen h0 hF 2).trans h6⟩, fun hG => ?_⟩
  rcases hs.new g hG with h | h
  · exact hF h
  · omega
/-- a slice that reads as these bytes, outside of F -/
def RdK (w : World) (F : Nat → Prop) (v : Value) (l : List UInt8) : Prop := Rd w v l ∧ ∀ a, v.ownBlock = some a → l ≠ [] → ¬ F a
theorem RdK.step {w w' : World} {F G : Nat → Prop} {v : Value} {l : List UInt8} (h : RdK w F v l) (hs : Step F w w' G) : RdK w' G v l := by
  refine ⟨h.1.chg hs.chg h.2, fun a ha hl hG => ?_⟩
  have hlt := h.1.own_lt a ha hl
  rcases hs.new a hG with h' | h'
  · exact h.2 a ha hl h'
  · omega
theorem RdK.below {w w' : World} {F : Nat → Prop} {v : Value} {l : List UInt8} (h : RdK w F v l) (hb : Below w.heap.size w w') : RdK w' F v l := ⟨h.1.below hb, h.2⟩
theorem RdK.nil (w : World) (F : Nat → Prop) : RdK w F (.slice none 0 0) [] := ⟨Rd.nil w, fun _ _ h => absurd rfl h⟩
theorem RdK.own {w w' : World} {F : Nat → Prop} {v : Value} {l : List UInt8} (h : Own w' w.heap.size v l) (hF : ∀ b, F b → b < w.heap.size) : RdK w' F v l := by
  refine ⟨h.rd, fun a ha _ hFa => ?_⟩
  have := (World.ownsRow.lt h a ha).1
  have := hF a hFa
  omega

section
variable {B : Nat} {w0 w : World} {d : Value} {D : AD} {F : Nat → Prop}
theorem Ap.laid (h : Ap B w0 w d D F) (hL : Laid w0) (hB : 0 < B) : Laid w :=
  ⟨Nat.lt_of_lt_of_le hB h.le, (h.bel.cell (p := ⟨0, 0, none⟩) hB).trans hL.n0, (h.bel.cell (p := ⟨0, 1, none⟩) hB).trans hL.n1⟩
theorem Ap.sync (h : Ap B w0 w d D F) (n : ByteArray) : Calls Tryd.prog 18 #[d, .string n] w fun e w' => e = .returned (.int .i64 (syncD D n).2) ∧ ∃ G, Ap B w0 w' d (syncD D n).1 G ∧ Step F w w' G :=
  (sync_any h.dk n).mono fun _ _ hd => h.deed hd
theorem Ap.remove (h : Ap B w0 w d D F) (n : ByteArray) : Calls Tryd.prog 32 #[d, .string n] w fun e w' => e = .returned (.int .i64 (removeD D n).2) ∧ ∃ G, Ap B w0 w' d (removeD D n).1 G ∧ Step F w w' G :=
  (remove_any h.dk n).mono fun _ _ hd => h.deed hd
theorem Ap.cut (h : Ap B w0 w d D F) (n : ByteArray) (k : Int) : Calls Tryd.prog 33 #[d, .string n, .int .i64 k] w fun e w' => e = .returned (.int .i64 (cutD D n k).2) ∧ ∃ G, Ap B w0 w' d (cutD D n k).1 G ∧ Step F w w' G :=
  (cut_any h.dk n k).mono fun _ _ hd => h.deed hd
theorem Ap.append (h : Ap B w0 w d D F) (n : ByteArray) (hn : n.size ≤ 140737488355328) (sb : Value) (b : List UInt8) (hb : RdK w F sb b) : Calls Tryd.prog 16 #[d, .string n, sb] w fun e w' => e = .returned (.int .i64 (appendD D n b).2) ∧ ∃ G, Ap B w0 w' d (appendD D n b).1 G ∧ Step F w w' G :=
  (append_any h.dk n hn sb b hb.1 hb.2).mono fun _ _ hd => h.deed hd
theorem Ap.place (h : Ap B w0 w d D F) (n : ByteArray) (hn : n.size ≤ 140737488355328) (sb : Value) (b : List UInt8) (hb : RdK w F sb b) : Calls Tryd.prog 44 #[d, .string n, sb] w fun e w' => e = .returned (.int .i64 (placeR D n b).2) ∧ ∃ G, Ap B w0 w' d (placeR D n b).1 G ∧ Step F w w' G :=
  (placeRoot_any h.dk n hn sb b hb.1 hb.2).mono fun _ _ hd => h.deed hd
theorem Ap.crash (h : Ap B w0 w d D F) (kv tv : Value) (ks ts : List Int) (hk : RdI w kv ks) (ht : RdI w tv ts) (hkF : ∀ a, kv.ownBlock = some a → ks ≠ [] → ¬ F a) (htF : ∀ a, tv.ownBlock = some a → ts ≠ [] → ¬ F a) (hkr : ∀ x ∈ ks, x ≤ 9223372036854775807) (htr : ∀ x ∈ ts, x ≤ 9223372036854775807) :
    Calls Tryd.prog 27 #[d, kv, tv] w fun e w' => e = .returned (.tuple #[]) ∧ ∃ G, Ap B w0 w' d (crashD D ks ts) G ∧ Step F w w' G :=
  (crash_any h.dk kv tv ks ts hk ht hkF htF hkr htr).mono fun _ _ hd => ⟨hd.1, (h.deed (r := (crashD D ks ts, 0)) (e := .returned (.int .i64 0)) ⟨rfl, hd.2.1, hd.2.2⟩).2⟩
theorem Ap.arm (h : Ap B w0 w d D F) (n : Int) (hn : n ≤ 9223372036854775807) :
    Calls Tryd.prog 17 #[d, .int .i64 n] w fun e w' => e = .returned (.tuple #[]) ∧ ∃ G, Ap B w0 w' d (armD D n) G ∧ Step F w w' G :=
  (arm_any h.dk n hn).mono fun _ _ hd => ⟨hd.1, (h.deed (r := (armD D n, 0)) (e := .returned (.int .i64 0)) ⟨rfl, hd.2.1.mono (fun _ _ hF => .inl hF), hd.2.2⟩).2⟩
end
theorem new_ap (w : World) (m : Nat) (hm : m ≤ 16777216) :
    Calls Tryd.prog 14 #[.int .i64 m] w fun e w' => ∃ d, e = .returned (.tuple #[d, .int .i64 0]) ∧ d ≠ .pointer none ∧ ∃ F, Ap w.heap.size w w' d (newD m) F ∧ Below w.heap.size w w' := by
  refine (new_up w m hm).mono ?_
  rintro e w' ⟨d, rfl, hne, hu⟩
  exact ⟨d, rfl, hne, _, ⟨hu.dk, fun b hb => hb, hu.bel, hu.le⟩, hu.bel⟩
end Go.Proofs.YtffgbjojngnebaaDoor
