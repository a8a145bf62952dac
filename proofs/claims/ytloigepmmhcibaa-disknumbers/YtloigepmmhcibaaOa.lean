/-
  Bytes that are copied, and written over; a disk beside them. Own work.
-/
import Derived.Test.YtloigepmmhcibaaLc
namespace Go.Proofs.Ytloigepmmhcibaa
open Go.RowKit

/-- a row of bytes, whatever they are -/
def AnyB (w : World) (g n cap : Nat) : Prop := ∃ cur, w.heap[g]? = some (.cells cur 5 (0, 0)) ∧ cur.size = cap ∧ ∀ i, i < n → ∃ x : Nat, x < 256 ∧ cur[i]? = some (.int .u8 (x : Int))

theorem Own.anyB {w : World} {base : Nat} {v : Value} {l : List UInt8} (h : Own w base v l) : (v = .slice none 0 0 ∧ l = []) ∨ ∃ g cap, v = .slice (some ⟨g, 0, none⟩) l.length cap ∧ base ≤ g ∧ g < w.heap.size ∧ l.length ≤ cap ∧ cap ≤ maxLen ∧ AnyB w g l.length cap := by
  rcases h.2 with ⟨rfl, h0⟩ | ⟨g, cap, cur, rfl, hb, hg, h1, h2, h3, h4⟩
  · exact .inl ⟨rfl, List.eq_nil_of_length_eq_zero h0⟩
  · refine .inr ⟨g, cap, rfl, hb, (Array.getElem?_eq_some_iff.1 hg).1, h1, h2, cur, hg, by omega, fun i hi => ?_⟩
    refine ⟨(l[i]'hi).toNat, UInt8.toNat_lt _, ?_⟩
    have h5 := congrArg (fun z => z[i]?) h4
    simp only [List.getElem?_take, Nat.mul_one, if_pos hi] at h5
    rw [← Array.getElem?_toList, h5]
    simp [BV, hi]
theorem AnyB.set {w : World} {g n cap : Nat} (h : AnyB w g n cap) (k : Nat) (hk : k < cap) (z : Nat) (hz : z < 256) : AnyB (w.setCell ⟨g, k, none⟩ (.int .u8 (z : Int))) g n cap := by
  obtain ⟨cur, h1, h2, h3⟩ := h
  refine ⟨cur.set k (.int .u8 (z : Int)) (by omega), ?_, by simp [h2], fun i hi => ?_⟩
  · rw [heap_set h1]
    simp [Array.setIfInBounds, h2, hk]
  · by_cases e : k = i
    · subst e
      exact ⟨z, hz, by simp⟩
    · obtain ⟨x, hx, hc⟩ := h3 i hi
      exact ⟨x, hx, by rw [Array.getElem?_set_ne _ e]; exact hc⟩

set_option maxRecDepth 100000 in
set_option maxHeartbeats 1000000 in
theorem over_some (w : World) (g n cap : Nat) (h : AnyB w g n cap) (hn : n ≤ cap) (hc : n ≤ 1000) :
    Calls Try.prog 39 #[.slice (some ⟨g, 0, none⟩) n cap] w fun e w' => e = .returned (.tuple #[]) ∧ Chg (fun b => b = g) w w' := by
  have HA : Hid (AnyB w g n cap) := h
  clear h
  go_enter Try.func39, Try.ntmps39
  go_wp2_with fail
  go_loopw [5] (fun iv wr => ∃ k : Nat, k ≤ n ∧ iv = .int .i64 k ∧ Hid (AnyB wr g n cap) ∧ Hid (Chg (fun b => b = g) w wr)) (fun iv _ => n - (intOf iv).toNat)
  case atStart => exact ⟨0, Nat.zero_le _, rfl, HA.out, Chg.refl _ _⟩
  case round =>
    obtain ⟨k, hk, rfl, HB, HC⟩ := hrel
    by_cases hlt : k < n
    · obtain ⟨cur, hg, hs, hx⟩ := HB.out
      obtain ⟨x, hx1, hx2⟩ := hx k hlt
      have hcell : wr.cell? ⟨g, k, none⟩ = some (.int .u8 (x : Int)) := by rw [cell_of hg]; exact hx2
      have hfz : wr.frozen? ⟨g, k, none⟩ = false := by rw [frozen_of hg]
      clear hg hs hx hx2
      have HX : Hid (x < 256) := hx1
      clear hx1
      go_wp2
      refine ⟨⟨k + 1, by omega, by simp, ?_, HC.out.setCell (p := ⟨g, k, none⟩) (.inl rfl) _⟩, ?_⟩
      · have hz : (((x + 1) % 256 : Nat) : Int) = ((x : Int) + 1) % 256 := by omega
        rw [← hz]
        exact HB.out.set k (by omega) _ (Nat.mod_lt _ (by omega))
      · simp only [intOf]
        omega
    · have : k = n := by omega
      subst this
      go_wp2
      go_returns
      exact ⟨rfl, HC.out⟩
set_option maxRecDepth 100000 in
set_option maxHeartbeats 800000 in
theorem copyBytes_any (v : Value) (l : List UInt8) (w : World) (hrd : Rd w v l) (hl : l.length ≤ 140737488355000) :
    Calls Try.prog 38 #[v] w fun e w' => ∃ v, e = .returned v ∧ Own w' w.heap.size v l ∧ Below w.heap.size w w' := by
  obtain ⟨i0, hi, hz0, hz1, hz2⟩ := info_parts Try.info5
  obtain ⟨ao, cap, hv, -⟩ := id hrd
  subst hv
  obtain ⟨n, HN⟩ := named l.length
  rw [← HN.out] at hl hrd ⊢
  go_enter Try.func38, Try.ntmps38
  go_wp2_with (at_make; go_must (refine wpList_make_own _ rfl (.const (.int .i64 0)) (.tmp 5) 30 rfl w.heap.size 5 i0 (.int .u8 0) 1 Try.underlying30 hi hz0 hz1 .i64 .i64 _ n rfl rfl rfl ?_ ?_ ?_ ?_))
  · rw [hz2]; omega
  · unfold maxLen; omega
  · exact Nat.le_refl _
  · intro w1 hown hg
    have hb1 : Below w.heap.size w w1 := (Below.refl _ _).grown hg (Nat.le_refl _) (fun k hk => by cases hk)
    have hrd1 := hrd.below hb1
    have hsz := hb1.size
    have hown0 : Own w1 w.heap.size (.slice (some ⟨w.heap.size, 0, none⟩) 0 n) [] := hown
    clear hg hown hrd
    have hln : 0 + l.length ≤ 140737488355328 := by rw [← HN.out]; omega
    have HL : Hid _ := hln
    clear hln
    go_wp2_with (at_builtin; go_must (refine wpList_append_rd _ rfl (.tmp 7) (.tmp 8) 30 rfl i0 Try.underlying30 hi hz0 hz1 hz2 w.heap.size _ _ rfl rfl [] l hown0 hrd1 HL.out hsz ?_))
    intro v' w' hown' hg
    have hb' : Below w.heap.size w w' := hb1.grown hg hsz (fun k hk => (World.ownsRow.lt hown0 k hk).1)
    clear hg
    go_wp2
    go_ret
    exact ⟨_, rfl, hown', hb'⟩

/-- d is a disk that has D, all of it made since B, and not in the block g -/
structure UpX (B : Nat) (w0 w : World) (d : Value) (D : AD) (g : Nat) : Prop where
  dk : Dk w (fun b => B ≤ b ∧ b < w.heap.size ∧ b ≠ g) d D
  bel : Below B w0 w
  le : B ≤ w.heap.size
  at_ : B ≤ g ∧ g < w.heap.size
theorem Up.apart {B : Nat} {w0 w w' : World} {d : Value} {D : AD} (h : Up B w0 w d D) (hb : Below w.heap.size w w') (g : Nat) (hg : w.heap.size ≤ g) (hl : g < w'.heap.size) : UpX B w0 w' d D g :=
  ⟨(h.dk.below hb).mono fun b _ hF => ⟨hF.1, by have := hF.2; omega, by have := hF.2; omega⟩, h.bel.trans (hb.mono h.le), Nat.le_trans h.le hb.size, Nat.le_trans h.le hg, hl⟩
theorem UpX.append {B : Nat} {w0 w : World} {d : Value} {D : AD} {g : Nat} (h : UpX B w0 w d D g) (n : ByteArray) (hn : n.size ≤ 140737488355328) (sb : Value) (b : List UInt8) (hb : Rd w sb b) (hsb : ∀ a, sb.ownBlock = some a → a = g) :
    Calls Try.prog 14 #[d, .string n, sb] w fun e w' => e = .returned (.int .i64 (appendD D n b).2) ∧ UpX B w0 w' d (appendD D n b).1 g ∧ w'.heap[g]? = w.heap[g]? := by
  refine (append_any h.dk n hn sb b hb (fun a ha hF => hF.2.2 (hsb a ha))).mono ?_
  rintro e w' ⟨rfl, hd, hc⟩
  have hs := hc.size
  have hl := h.le
  have hg := h.at_
  refine ⟨rfl, ⟨hd.mono fun b _ hF => ?_, h.bel.trans (hc.below B (fun k hk => hk.1) hl), by omega, hg.1, by omega⟩, hc.block g hg.2 (fun hF => hF.2.2 rfl)⟩
  rcases hF with hF | hF
  · exact ⟨hF.1, by have := hF.2.1; omega, hF.2.2⟩
  · exact ⟨by have := hF.1; omega, hF.2, by have := hF.1; omega⟩
theorem UpX.over {B : Nat} {w0 w : World} {d : Value} {D : AD} {g : Nat} (h : UpX B w0 w d D g) (n cap : Nat) (ha : AnyB w g n cap) (hn : n ≤ cap) (hc : n ≤ 1000) :
    Calls Try.prog 39 #[.slice (some ⟨g, 0, none⟩) n cap] w fun e w' => e = .returned (.tuple #[]) ∧ Up B w0 w' d D := by
  refine (over_some w g n cap ha hn hc).mono ?_
  rintro e w' ⟨rfl, hch⟩
  have hs := hch.size
  exact ⟨rfl, (h.dk.chg hch (fun b hF e => hF.2.2 e)).mono fun b _ hF => ⟨hF.1, by have := hF.2.1; omega⟩, h.bel.trans (hch.below B (fun k hk => by subst hk; exact h.at_.1) h.le), Nat.le_trans h.le hs⟩
theorem AnyB.at_ {w w' : World} {g n cap : Nat} (h : AnyB w g n cap) (hg : w'.heap[g]? = w.heap[g]?) : AnyB w' g n cap := by
  obtain ⟨cur, h1, h2, h3⟩ := h
  exact ⟨cur, hg.trans h1, h2, h3⟩

def nF : ByteArray := ⟨#[102]⟩
variable (l : List UInt8) (k : Nat)
theorem ow1 (hl : l.length ≤ 200) : appendD (newD 4096) nF (l.take k) = (⟨[⟨nF, l.take k, 0⟩], 4096, -1, false⟩, 0) := by
  have : (l.take k).length ≤ 200 := by simp; omega
  unfold appendD
  rw [if_neg (by simp [newD]), if_neg (by simp [show right nF = true by kernel_rfl]), if_neg (by simp [newD, used]; omega)]
  rfl
theorem ow2 (s : Nat) (hl : l.length ≤ 200) : appendD ⟨[⟨nF, l.take k, s⟩], 4096, -1, false⟩ nF (l.drop k) = (⟨[⟨nF, l, s⟩], 4096, -1, false⟩, 0) := by
  have h1 : (l.take k).length ≤ 200 := by simp; omega
  have h2 : (l.drop k).length ≤ 200 := by simp; omega
  unfold appendD
  rw [if_neg (by simp), if_neg (by simp [show right nF = true by kernel_rfl]), if_neg (by simp [used] at h1 h2 ⊢; omega)]
  have : burn ⟨[⟨nF, l.take k, s⟩], 4096, -1, false⟩ (appF nF (l.drop k)) = (⟨[⟨nF, l.take k ++ l.drop k, s⟩], 4096, -1, false⟩, 0) := rfl
  rw [this, List.take_append_drop]
theorem ow3 (s : Nat) (hk : k ≤ l.length) : cutD ⟨[⟨nF, l, s⟩], 4096, -1, false⟩ nF k = (⟨[⟨nF, l.take k, k⟩], 4096, -1, false⟩, 0) := by
  unfold cutD
  rw [if_neg (by simp), if_neg (by rw [show isF _ nF = true from rfl]; simp), if_neg]
  · rw [Int.toNat_natCast]
    rfl
  · show ¬ ((k : Int) < 0 ∨ (l.length : Int) < k)
    omega
theorem ow4 (s : Nat) : readD ⟨[⟨nF, l, s⟩], 4096, -1, false⟩ nF = (l, 0) ∧ (lookF [⟨nF, l, s⟩] nF).safe = s := ⟨rfl, rfl⟩
end Go.Proofs.Ytloigepmmhcibaa
