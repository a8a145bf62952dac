/-
  The law DiskOwn's walk. Own work.
-/
import Derived.Test.YtloigepmmhcibaaOa
import Derived.Test.YtloigepmmhcibaaLSwap
namespace Go.Proofs.Ytloigepmmhcibaa
open Go.RowKit

theorem cameX {f : Nat} {args : Array Value} {B : Nat} {w0 w : World} {d : Value} {r : AD × Nat} {D : AD} {k g : Nat} (h : Calls Try.prog f args w fun e w' => e = .returned (.int .i64 (r.2 : Nat)) ∧ UpX B w0 w' d r.1 g ∧ w'.heap[g]? = w.heap[g]?) (hr : r = (D, k)) : Calls Try.prog f args w fun e w' => e = .returned (.int .i64 (k : Nat)) ∧ UpX B w0 w' d D g ∧ w'.heap[g]? = w.heap[g]? := by
  subst hr
  exact h

theorem rd_tail {w : World} {a : Addr} {n cap k : Nat} {l : List UInt8} (h : Rd w (.slice (some a) n cap) l) (hk : k ≤ l.length) : Rd w (.slice (some (a.add k)) (l.length - k) (cap - k)) (l.drop k) := by
  obtain ⟨ao, c, hv, h1, h2, h3, h4⟩ := h
  cases hv
  refine ⟨some (a.add k), cap - k, by rw [List.length_drop], by rw [List.length_drop]; omega, by omega, (by intro h; cases h), ?_⟩
  rintro b ⟨⟩ i hi
  rw [List.length_drop] at hi
  have := h4 a rfl (k + i) (by omega)
  rw [show (a.add k).add i = a.add (k + i) from by
    unfold Addr.add
    by_cases h0 : k = 0
    · subst h0; simp
    · rw [if_neg h0, if_neg (by omega : ¬ k + i = 0)]
      by_cases h1 : i = 0
      · subst h1; simp
      · rw [if_neg h1]; simp [Nat.add_assoc]]
  rw [this]
  simp
theorem own_tail {a0 : Addr} {k n c a : Nat} (h : (Value.slice (some (a0.add k)) n c).ownBlock = some a) : a = a0.block := by
  have h1 : (a0.add k).block = a := by simpa [Value.ownBlock] using h
  rw [← h1]
  unfold Addr.add
  split <;> rfl
theorem rd_tail_lit {w : World} {g n cap k : Nat} {l : List UInt8} (h : Rd w (.slice (some ⟨g, 0, none⟩) n cap) l) (hk : k ≤ l.length) : Rd w (.slice (some ⟨g, k, none⟩) (l.length - k) (cap - k)) (l.drop k) := by
  have := rd_tail h hk
  rw [show (⟨g, 0, none⟩ : Addr).add k = ⟨g, k, none⟩ by unfold Addr.add; split <;> simp_all] at this
  exact this
theorem rd_tail_end {w : World} {a : Addr} {n k : Nat} {l : List UInt8} (h : Rd w (.slice (some a) n k) l) (hk : k ≤ l.length) : Rd w (.slice (some a) (l.length - k) 0) (l.drop k) := by
  obtain ⟨ao, c, hv, h1, h2, h3, h4⟩ := h
  cases hv
  have hl : l.drop k = [] := List.drop_eq_nil_of_le h1
  rw [hl, show l.length - k = ([] : List UInt8).length by simp; omega]
  exact ⟨some a, 0, rfl, Nat.le_refl _, by simp [maxLen], fun _ => rfl, fun b _ i hi => by simp at hi⟩

set_option maxRecDepth 100000 in
set_option maxHeartbeats 1000000 in
theorem own_large (w : World) (v0 : Value) (l : List UInt8) (n : Int) (r0 : Rd w v0 l) (hl : l.length = 0 ∨ 200 < l.length) :
    Calls Try.prog 11 #[v0, .int .u8 n] w fun e w' => e = .returned (.bool true) ∧ Below w.heap.size w w' := by
  obtain ⟨o0, c0, hv0, -⟩ := id r0
  subst hv0
  clear r0
  have aw := awake_true w
  rcases hl with h | h
  · rw [h]
    go_enter Try.func11, Try.ntmps11
    go_wp2_with fail
    refine aw.mono ?_
    rintro e wz ⟨rfl, hbz⟩
    go_wp2_with fail
    go_ret
    exact ⟨rfl, hbz⟩
  · have h1 : (200 : Int) < l.length := by omega
    have h2 : ¬ ((l.length : Int) = 0) := by omega
    have h3 : ((l.length : Int) == 0) = false := by simpa using h2
    clear h
    go_enter Try.func11, Try.ntmps11
    go_wp2_with fail
    refine aw.mono ?_
    rintro e wz ⟨rfl, hbz⟩
    go_wp2_with fail
    go_ret
    exact ⟨rfl, hbz⟩

set_option maxRecDepth 100000 in
set_option maxHeartbeats 1000000 in
theorem own_small (w : World) (v0 : Value) (l : List UInt8) (n k : Nat) (r0 : Rd w v0 l) (b0 : ∀ a, v0.ownBlock = some a → a < w.heap.size) (hl0 : l.length ≠ 0) (hl : l.length ≤ 200) (hk : n % (l.length + 1) = k) (hn : n < 256) :
    Calls Try.prog 11 #[v0, .int .u8 n] w fun e w' => e = .returned (.bool true) ∧ Below w.heap.size w w' := by
  have hT := run_toStr
  have hkl : k ≤ l.length := by
    have := Nat.mod_lt n (show 0 < l.length + 1 by omega)
    omega
  obtain ⟨o0, c0, hv0, hc0, hm0, hn0, hr0⟩ := id r0
  obtain ⟨a0, rfl⟩ : ∃ a0, o0 = some a0 := by
    cases o0 with
    | none => have := hn0 rfl; omega
    | some a => exact ⟨a, rfl⟩
  have h1 : ¬ ((200 : Int) < l.length) := by omega
  have h2 : ¬ ((l.length : Int) = 0) := by omega
  have h3 : ((l.length : Int) == 0) = false := by simpa using h2
  have h4 : (n : Int) % ((l.length : Int) + 1) = (k : Nat) := by rw [← hk]; simp
  have h5 : (n : Int).tmod ((l.length : Int) + 1) = (k : Nat) := by rw [Int.tmod_eq_emod_of_nonneg (by omega)]; exact h4
  have h6 : ¬ ((l.length : Int) + 1 = 0) := by omega
  have HL : Hid (l.length ≤ 200) := hl
  have HK : Hid (k ≤ l.length) := hkl
  have HM : Hid (l.length ≤ c0) := hc0
  have R0 : Hid (Rd w v0 l) := r0
  have B0 : Hid (∀ a, v0.ownBlock = some a → a < w.heap.size) := b0
  subst hv0
  have BL : Hid (∀ a, some a0.block = some a → a < w.heap.size) := fun a ha => b0 a ha
  clear hl0 hl hk r0 b0 hc0 hn0 hr0
  go_enter Try.func11, Try.ntmps11
  go_wp2_with fail
  refine (new_up w 4096 (by omega)).mono ?_
  rintro e w1 ⟨d, rfl, -, hu1⟩
  go_wp2_with fail
  refine (copyBytes_any _ l w1 (R0.out.below hu1.bel) (by omega)).mono ?_
  rintro e w2 ⟨vi, rfl, hown, hb2⟩
  rcases hown.anyB with ⟨-, hnil⟩ | ⟨g, cap, rfl, hg1, hg2, hcl, hcm, ha⟩
  · exact absurd (by rw [hnil]; rfl) h2
  have hux := hu1.apart hb2 g hg1 hg2
  have HO : Hid (Own w2 w1.heap.size (.slice (some ⟨g, 0, none⟩) l.length cap) l) := hown
  have HA : Hid (AnyB w2 g l.length cap) := ha
  clear hu1 hb2 hg1 hg2 hown ha
  have hkc : (k : Int) ≤ cap := by omega
  have hkl : (k : Int) ≤ l.length := by omega
  have hk0 : (0 : Int) ≤ k := by omega
  go_wp2_with fail
  refine (cameX (hux.append nF (by decide) _ (l.take k) (HO.out.rd.take k HK.out) (by rintro a ⟨⟩; rfl)) (ow1 l k HL.out)).mono ?_
  rintro e w3 ⟨rfl, hux3, hg3⟩
  clear hux
  go_wp2_with fail
  all_goals
    try subst cap
    have R3 := Rd.heap HO.out.rd (w' := w3) (by rintro a ⟨⟩; exact hg3)
    first
    | have R4 := rd_tail_end R3 HK.out
    | have R4 := rd_tail_lit R3 HK.out
    refine (cameX (hux3.append nF (by decide) _ (l.drop k) R4 (by rintro a ⟨⟩; rfl)) (ow2 l k 0 HL.out)).mono ?_
    rintro e w4 ⟨rfl, hux4, hg4⟩
    have HA4 : Hid _ := (HA.out.at_ hg3).at_ hg4
    clear hux3 hg3 hg4 R3 R4
    go_wp2_with fail
    refine (hux4.over l.length _ HA4.out (by omega) (by have := HL.out; omega)).mono ?_
    rintro e w5 ⟨rfl, hu5⟩
    clear hux4 HA4
    go_wp2_with fail
    refine (read_any hu5.dk nF).mono ?_
    rw [(ow4 l 0).1]
    rintro e w6 ⟨x, rfl, hox, hb6⟩
    have hox : Own w6 w5.heap.size x l := hox
    rcases hox.anyB with ⟨-, hnil⟩ | ⟨gx, cx, rfl, hx1, hx2, hx3, hx4, hax⟩
    · exact absurd (by rw [hnil]; rfl) h2
    have hux6 := hu5.apart hb6 gx hx1 hx2
    have hs0 := run_str w6 _ _ hox.rd
    have hs1 := run_str w6 _ _ (R0.out.below hux6.bel)
    have HA6 : Hid _ := hax
    clear hox hb6 hx1 hx2 hu5 hax
    go_wp2_with fail
    refine (hux6.over l.length _ HA6.out (by omega) (by have := HL.out; omega)).mono ?_
    rintro e w7 ⟨rfl, hu7⟩
    clear hux6 HA6 hs0 hs1
    go_wp2_with fail
    refine (came (hu7.cut nF (k : Int)) (ow3 l k 0 HK.out)).mono ?_
    rintro e w8 ⟨rfl, hu8⟩
    clear hu7
    go_wp2_with fail
  all_goals
    try subst c0
    have RW := R0.out.below hu8.bel
    first
    | have R8 := rd_tail_end RW HK.out
    | have R8 := rd_tail RW HK.out
    try (have hz : l.length - k = 0 := Nat.sub_eq_zero_of_le hcl; rw [hz] at R8)
    refine (came (hu8.append (Below.refl _ _) nF (by decide) _ (l.drop k) R8 (fun a ha => .inl (by first | exact BL.out a ha | exact BL.out a ((own_tail ha).symm ▸ rfl)))) (ow2 l k k HL.out)).mono ?_
    rintro e w9 ⟨rfl, hu9⟩
    clear hu8 RW R8
    go_wp2_with fail
    refine (hu9.read nF (ow4 l k).1).mono ?_
    rintro e w10 ⟨y, rfl, hoy, hu10⟩
    have hs0 := run_str w10 _ _ hoy
    have hs1 := run_str w10 _ _ (R0.out.below hu10.bel)
    clear hoy hu9
    go_wp2_with fail
    refine (synced_any hu10.dk nF).mono ?_
    rintro e w11 ⟨rfl, hb11⟩
    have hu11 := hu10.below hb11
    rw [(ow4 l k).2]
    clear hb11 hu10 hs0 hs1
    go_wp2_with fail
    refine (awake_true w11).mono ?_
    rintro e wz ⟨rfl, hbz⟩
    go_wp2_with fail
    go_ret
    exact ⟨rfl, hu11.bel.trans (hbz.mono hu11.le)⟩

theorem own_walk (w : World) (v0 : Value) (l : List UInt8) (n : Nat) (r0 : Rd w v0 l) (b0 : ∀ a, v0.ownBlock = some a → a < w.heap.size) (hn : n < 256) :
    Calls Try.prog 11 #[v0, .int .u8 n] w fun e w' => e = .returned (.bool true) ∧ Below w.heap.size w w' := by
  by_cases hl : l.length = 0 ∨ 200 < l.length
  · exact own_large w v0 l n r0 hl
  · exact own_small w v0 l n _ r0 b0 (by omega) (by omega) rfl hn
end Go.Proofs.Ytloigepmmhcibaa
