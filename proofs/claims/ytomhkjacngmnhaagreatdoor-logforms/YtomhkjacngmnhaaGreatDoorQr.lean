/-
  string(b) under a name of its own; holds, where it answers true. The contract of Crash. A disk that a call has made for itself, and what is done to it, one behind the other. Own work.
-/
import Derived.Test.YtomhkjacngmnhaaGreatDoorQp
import Derived.Deep.RegionHeld
import Derived.Test.YtomhkjacngmnhaaGreatDoorQd
import Derived.Test.YtomhkjacngmnhaaGreatDoorQq
import Derived.Lib.SlBytesConst
import Derived.Lib.ConvBytes
namespace Go.Proofs.YtomhkjacngmnhaaGreatDoor
open Go.RowKit

end Go.Proofs.YtomhkjacngmnhaaGreatDoor
namespace Go.Proofs.YtomhkjacngmnhaaGreatDoor
open Go.RowKit

theorem crash_at (ks ts : List Int) (fs : List AF) (k : Nat) (h : k < fs.length) : atF ((crashL ks ts fs).take k ++ fs.drop k) k (crashF fs[k] (toldL ks k) (toldL ts k)) = (crashL ks ts fs).take (k + 1) ++ fs.drop (k + 1) := by
  have hl := crashL_len ks ts fs
  have ht : ((crashL ks ts fs).take k).length = k := by rw [List.length_take]; omega
  unfold atF
  rw [List.take_append_of_le_length (by omega), List.take_take, Nat.min_self, List.drop_append, ht, List.drop_eq_nil_of_le (by omega), List.nil_append, List.drop_drop, show k + (k + 1 - k) = k + 1 by omega, List.take_succ_eq_append_getElem (by omega), crashL_get]
  simp
theorem told_range (l : List Int) (i : Nat) (h : ∀ x ∈ l, x ≤ 9223372036854775807) : 0 ≤ toldL l i ∧ toldL l i ≤ 9223372036854775807 := by
  unfold toldL
  split
  · rename_i hi
    rw [List.getD_eq_getElem?_getD, List.getElem?_eq_getElem hi]
    have := h _ (List.getElem_mem hi)
    simp only [Option.getD_some]
    omega
  · omega

end Go.Proofs.YtomhkjacngmnhaaGreatDoor
namespace Go.Proofs.YtomhkjacngmnhaaGreatDoor
open Go.RowKit

/-- d is a disk that has D, all of it made since B; and what lies below B is as in w0 -/
structure Up (B : Nat) (w0 w : World) (d : Value) (D : AD) : Prop where
  dk : Dk w (fun b => B ≤ b ∧ b < w.heap.size) d D
  bel : Below B w0 w
  le : B ≤ w.heap.size

theorem Up.below {B : Nat} {w0 w w' : World} {d : Value} {D : AD} (h : Up B w0 w d D) (hb : Below w.heap.size w w') : Up B w0 w' d D :=
  ⟨(h.dk.below hb).mono fun _ _ hF => ⟨hF.1, Nat.lt_of_lt_of_le hF.2 hb.size⟩, h.bel.trans (hb.mono h.le), Nat.le_trans h.le hb.size⟩
theorem Up.deed {B : Nat} {w0 w w1 w' : World} {d : Value} {D D' : AD} (h : Up B w0 w d D) (hw : Below w.heap.size w w1) (hd : Dk w' (grow (fun b => B ≤ b ∧ b < w.heap.size) w1 w') d D') (hc : Chg (fun b => B ≤ b ∧ b < w.heap.size) w1 w') : Up B w0 w' d D' := by
  have hs := hw.size
  have hl := h.le
  refine ⟨hd.mono fun b _ hF => ?_, (h.bel.trans (hw.mono h.le)).trans (hc.below B (fun k hk => hk.1) (by omega)), ?_⟩
  · have := hc.size
    rcases hF with hF | hF
    · exact ⟨hF.1, by have := hF.2; omega⟩
    · exact ⟨by have := hF.1; omega, hF.2⟩
  · have := hc.size
    omega

theorem Up.append {B : Nat} {w0 w w1 : World} {d : Value} {D : AD} (h : Up B w0 w d D) (hw : Below w.heap.size w w1) (n : ByteArray) (hn : n.size ≤ 140737488355328) (sb : Value) (b : List UInt8) (hb : Rd w1 sb b) (hsb : ∀ a, sb.ownBlock = some a → a < B ∨ w.heap.size ≤ a) :
    Calls Tryz.prog 37 #[d, .string n, sb] w1 fun e w' => e = .returned (.int .i64 (appendD D n b).2) ∧ Up B w0 w' d (appendD D n b).1 := by
  refine (append_any (h.dk.below hw) n hn sb b hb (fun a ha _ hF => ?_)).mono ?_
  · rcases hsb a ha with h | h
    · have := hF.1; omega
    · have := hF.2; omega
  · rintro e w' ⟨rfl, hd, hc⟩
    exact ⟨rfl, h.deed hw hd hc⟩
theorem Up.sync {B : Nat} {w0 w : World} {d : Value} {D : AD} (h : Up B w0 w d D) (n : ByteArray) :
    Calls Tryz.prog 129 #[d, .string n] w fun e w' => e = .returned (.int .i64 (syncD D n).2) ∧ Up B w0 w' d (syncD D n).1 := by
  refine (sync_any h.dk n).mono ?_
  rintro e w' ⟨rfl, hd, hc⟩
  exact ⟨rfl, h.deed (Below.refl _ _) hd hc⟩
theorem Up.remove {B : Nat} {w0 w : World} {d : Value} {D : AD} (h : Up B w0 w d D) (n : ByteArray) :
    Calls Tryz.prog 81 #[d, .string n] w fun e w' => e = .returned (.int .i64 (removeD D n).2) ∧ Up B w0 w' d (removeD D n).1 := by
  refine (remove_any h.dk n).mono ?_
  rintro e w' ⟨rfl, hd, hc⟩
  exact ⟨rfl, h.deed (Below.refl _ _) hd hc⟩
theorem Up.arm {B : Nat} {w0 w : World} {d : Value} {D : AD} (h : Up B w0 w d D) (n : Int) (hn : n ≤ 9223372036854775807) :
    Calls Tryz.prog 35 #[d, .int .i64 n] w fun e w' => e = .returned (.tuple #[]) ∧ Up B w0 w' d (armD D n) := by
  refine (arm_any h.dk n hn).mono ?_
  rintro e w' ⟨rfl, hd, hc⟩
  exact ⟨rfl, h.deed (Below.refl _ _) (hd.mono fun b _ hF => .inl hF) hc⟩
theorem new_up (w : World) (m : Nat) (hm : m ≤ 16777216) :
    Calls Tryz.prog 12 #[.int .i64 m] w fun e w' => ∃ d, e = .returned (.tuple #[d, .int .i64 0]) ∧ d ≠ .pointer none ∧ Up w.heap.size w w' d (newD m) := by
  refine (new_any w m hm).mono ?_
  rintro e w' ⟨d, rfl, hd, hb, hne⟩
  exact ⟨d, rfl, hne, hd, hb, hb.size⟩
/-- a new row of bytes -/
theorem rd_new (w w' : World) (C : Array Value) (fz : Nat × Nat) (l : List UInt8) (cap : Nat) (hg : w'.heap[w.heap.size]? = some (.cells C 5 fz)) (hC : ∀ i (h : i < l.length), C[i]? = some (.int .u8 (l[i].toNat : Int))) (h1 : l.length ≤ cap) (h2 : cap ≤ maxLen) : Rd w' (.slice (some ⟨w.heap.size, 0, none⟩) l.length cap) l := by
  refine ⟨_, cap, rfl, h1, h2, (by intro h; cases h), ?_⟩
  rintro a ⟨⟩ i hi
  have := cell_of hg i
  rw [hC i hi] at this
  rw [show ((⟨w.heap.size, 0, none⟩ : Addr).add i) = ⟨w.heap.size, i, none⟩ by unfold Addr.add; split <;> simp_all]
  exact this
theorem rdI_new (w' : World) (C : Array Value) (g : Nat) (fz : Nat × Nat) (l : List Int) (hg : w'.heap[g]? = some (.cells C 3 fz)) (hC : ∀ i (h : i < l.length), C[i]? = some (.int .i64 l[i])) (h2 : l.length ≤ maxLen) : RdI w' (.slice (some ⟨g, 0, none⟩) l.length l.length) l := by
  refine ⟨_, _, rfl, Nat.le_refl _, h2, (by intro h; cases h), ?_⟩
  rintro a ⟨⟩ i hi
  have := cell_of hg i
  rw [hC i hi] at this
  rw [show ((⟨g, 0, none⟩ : Addr).add i) = ⟨g, i, none⟩ by unfold Addr.add; split <;> simp_all]
  exact this
/-- Append of a text that stands in the program -/
theorem Up.appendC {B : Nat} {w0 w : World} {d : Value} {D : AD} (h : Up B w0 w d D) (n : ByteArray) (hn : n.size ≤ 140737488355328) (l : List UInt8) (hl : l.length ≤ 1000) (C : Array Value) (fz : Nat × Nat) (hC : C = (l.map fun b => Value.int .u8 (b.toNat : Int)).toArray) :
    Calls Tryz.prog 37 #[d, .string n, .slice (some ⟨w.heap.size, 0, none⟩) l.length l.length] (w.alloc (.cells C 5 fz)) fun e w' => e = .returned (.int .i64 (appendD D n l).2) ∧ Up B w0 w' d (appendD D n l).1 := by
  refine h.append ((Below.refl _ _).alloc (Nat.le_refl _) _) n hn _ l (rd_new w _ C fz l l.length (heap_alloc_new w _) ?_ (Nat.le_refl _) ?_) ?_
  · subst hC
    intro i hi
    simp [hi]
  · have : (1000 : Nat) ≤ maxLen := by simp [maxLen]
    omega
  · rintro a ⟨⟩
    exact .inr (Nat.le_refl _)
/-- Append of []byte(s) -/
theorem Up.appendS {B : Nat} {w0 w : World} {d : Value} {D : AD} (h : Up B w0 w d D) (n : ByteArray) (hn : n.size ≤ 140737488355328) (s : ByteArray) (hs : s.size ≤ 1000) :
    Calls Tryz.prog 37 #[d, .string n, .slice (some ⟨w.heap.size, 0, none⟩) s.size (grownCap w s.size 0 5)] (Lib.bytesWorld w 5 s) fun e w' => e = .returned (.int .i64 (appendD D n s.data.toList).2) ∧ Up B w0 w' d (appendD D n s.data.toList).1 := by
  have hm : (1000 : Nat) ≤ maxLen := by simp [maxLen]
  refine h.append (below_bytesWorld w s) n hn _ s.data.toList (rd_new w _ _ _ s.data.toList (grownCap w s.size 0 5) (Lib.bytesWorld_at_new w 5 s) ?_ ?_ ?_) ?_
  · intro i hi
    have hi' : i < s.size := hi
    simp [Lib.bytesCells, Array.getElem?_append, hi']
  · exact grownCap_ge _ _ _ _
  · exact grownCap_le_maxLen _ _ _ _ (by omega)
  · rintro a ⟨⟩
    exact .inr (Nat.le_refl _)
theorem rdI_lit (w' : World) (C : Array Value) (g : Nat) (fz : Nat × Nat) (l : List Int) (hg : w'.heap[g]? = some (.cells C 3 fz)) (hC : C = (l.map fun x => Value.int .i64 x).toArray) (h2 : l.length ≤ 1000) : RdI w' (.slice (some ⟨g, 0, none⟩) l.length l.length) l := by
  refine rdI_new w' C g fz l hg ?_ ?_
  · subst hC
    intro i hi
    simp [hi]
  · have : (1000 : Nat) ≤ maxLen := by simp [maxLen]
    omega
end Go.Proofs.YtomhkjacngmnhaaGreatDoor
