/-
  The law DiskNone answers true, whatever the deed: no disk, and one that New did not make, tell ErrNil, have no file, and no power to fail. No condition.
-/
import Derived.Test.YtloigepmmhcibaaXb
import Derived.Test.YtloigepmmhcibaaLc
import Derived.Deep.RegionHeld3
namespace Go.Proofs.Ytloigepmmhcibaa
open Go.RowKit

/-- what stands in memory while the law goes: the deed, a disk that New did not make, both disks in a row -/
def Nv (X : Nat) (A To : ByteArray) (B : Value) (N : Int) (K T : Value) (w : World) : Prop :=
  (∃ d : Nat, d < 256 ∧ w.cell? ⟨X, 0, none⟩ = some (.int .u8 d)) ∧ w.frozen? ⟨X, 0, none⟩ = false ∧ w.cell? ⟨X, 1, none⟩ = some (.string A) ∧ w.cell? ⟨X, 2, none⟩ = some (.string To) ∧ w.cell? ⟨X, 3, none⟩ = some B ∧
  w.cell? ⟨X, 4, none⟩ = some (.int .i64 N) ∧ w.cell? ⟨X, 5, none⟩ = some K ∧ w.cell? ⟨X, 6, none⟩ = some T ∧ w.cell? ⟨X + 1, 0, none⟩ = some (.pointer none) ∧
  w.cell? ⟨X + 2, 0, none⟩ = some (.pointer none) ∧ w.cell? ⟨X + 2, 1, none⟩ = some (.pointer (some ⟨X + 1, 0, none⟩))
theorem Nv.noDisk {X : Nat} {A To : ByteArray} {B : Value} {N : Int} {K T : Value} {w : World} (h : Nv X A To B N K T w) : NoneV w (.pointer (some ⟨X + 1, 0, none⟩)) := by
  obtain ⟨-, -, -, -, -, -, -, -, h7, -, -⟩ := h
  exact .inr ⟨_, rfl, h7⟩
theorem Nv.set {X : Nat} {A To : ByteArray} {B : Value} {N : Int} {K T : Value} {w : World} (h : Nv X A To B N K T w) (d : Nat) (hd : d < 256) : Nv X A To B N K T (w.setCell ⟨X, 0, none⟩ (.int .u8 d)) := by
  obtain ⟨⟨d0, hd0, h0⟩, hf, h1, h2, h3, h4, h5, h6, h7, h8, h9⟩ := h
  refine ⟨⟨d, hd, ?_⟩, ?_, ?_, ?_, ?_, ?_, ?_, ?_, ?_, ?_, ?_⟩
  all_goals simp [go_sem, *]
theorem Nv.below {X : Nat} {A To : ByteArray} {B : Value} {N : Int} {K T : Value} {w w' : World} (h : Nv X A To B N K T w) (hb : Below w.heap.size w w') : Nv X A To B N K T w' := by
  obtain ⟨⟨d, hd, h0⟩, hf, h1, h2, h3, h4, h5, h6, h7, h8, h9⟩ := h
  have hX := World.block_lt_of_cell? w _ h1
  have c : ∀ {a : Addr} {v : Value}, w.cell? a = some v → w'.cell? a = some v := fun {a v} h => by rw [hb.cell (World.block_lt_of_cell? w _ h)]; exact h
  exact ⟨⟨d, hd, c h0⟩, by rw [hb.frozen (p := ⟨X, 0, none⟩) hX]; exact hf, c h1, c h2, c h3, c h4, c h5, c h6, c h7, c h8, c h9⟩

set_option maxRecDepth 100000 in
set_option maxHeartbeats 1600000 in
theorem none_walk (w : World) (dn : Nat) (A To : ByteArray) (bo : Option Addr) (bl bc : Nat) (N : Int) (ko : Option Addr) (kl kc : Nat) (tro : Option Addr) (tl tc : Nat) (hdn : dn < 256) :
    Calls Try.prog 5 #[.agg #[.int .u8 dn, .string A, .string To, .slice bo bl bc, .int .i64 N, .slice ko kl kc, .slice tro tl tc]] w fun e w' => e = .returned (.bool true) ∧ Below w.heap.size w w' := by
  go_enter Try.func5, Try.ntmps5
  go_wp2
  go_loopw [14] (fun iv wr => ∃ k : Nat, k ≤ 2 ∧ iv = .int .i64 k ∧ Nv w.heap.size A To (.slice bo bl bc) N (.slice ko kl kc) (.slice tro tl tc) wr ∧ Below w.heap.size w wr) (fun iv _ => 2 - (intOf iv).toNat)
  case atStart =>
    refine ⟨0, by omega, rfl, ⟨⟨dn, hdn, ?_⟩, ?_, ?_, ?_, ?_, ?_, ?_, ?_, ?_, ?_, ?_⟩, ?_⟩
    iterate 11 · simp [go_sem]
    · repeat refine Below.alloc ?_ ?_ _
      all_goals first | exact Below.refl _ _ | (simp; done) | (simp; omega)
  case round =>
    obtain ⟨k, hk, rfl, hnv, hb⟩ := hrel
    by_cases hlt : k < 2
    · have hlt' : (k : Int) < 2 := by omega
      obtain ⟨dv, hdv, hnone⟩ : ∃ dv : Option Addr, wr.cell? ⟨w.heap.size + 2, k, none⟩ = some (.pointer dv) ∧ ∀ w', Nv w.heap.size A To (.slice bo bl bc) N (.slice ko kl kc) (.slice tro tl tc) w' → NoneV w' (.pointer dv) := by
        obtain rfl | rfl : k = 0 ∨ k = 1 := by omega
        · obtain ⟨-, -, -, -, -, -, -, -, -, h8, -⟩ := id hnv
          exact ⟨_, h8, fun w' _ => .inl rfl⟩
        · obtain ⟨-, -, -, -, -, -, -, -, -, -, h9⟩ := id hnv
          exact ⟨_, h9, fun w' h => h.noDisk⟩
      obtain ⟨⟨d0, hd0, h0⟩, hf, h1, -⟩ := id hnv
      have HNO : Hid _ := hnone
      have HNV : Hid _ := hnv
      clear hnone hnv
      go_wp2_with fail
      refine (read_none _ _ A (HNO.out _ HNV.out)).mono ?_
      rintro e w1 ⟨rfl, hw1⟩
      subst hw1
      have hnv2 := Nv.set HNV.out (d0 % 7) (by omega)
      have hdd : ((d0 : Int)).tmod 7 = ((d0 % 7 : Nat) : Int) := by
        rw [Int.tmod_eq_emod_of_nonneg (by omega)]
        omega
      obtain ⟨d1, HD1⟩ := named (d0 % 7)
      have hd1 : d1 < 7 := by rw [HD1.out]; omega
      rw [← HD1.out] at hnv2 hdd
      have hb2 : Below w.heap.size w (w1.setCell ⟨w.heap.size, 0, none⟩ (.int .u8 d1)) := hb.setCell (Nat.le_refl _) _
      obtain ⟨-, -, g1, g2, g3, g4, g5, g6, -⟩ := id hnv2
      have g0 : (w1.setCell ⟨w.heap.size, 0, none⟩ (.int .u8 (d1 : Int))).cell? ⟨w.heap.size, 0, none⟩ = some (.int .u8 (d1 : Int)) := by simp [go_sem, h0]
      have HNV2 : Hid _ := hnv2
      clear hnv2
      go_wp2_with fail
      clear g0 g1 g2 g3 g4 g5 g6
      obtain ⟨w2, HW2⟩ := named (w1.setCell ⟨w.heap.size, 0, none⟩ (.int .u8 (d1 : Int)))
      rw [← HW2.out] at HNV2 hb2 ⊢
      refine (does_none _ _ d1 A To bo bl bc N _ _ (HNO.out _ HNV2.out) hd1).mono ?_
      rintro e w3 ⟨rfl, hb3⟩
      have HNV3 : Hid _ := Nv.below (show Nv _ _ _ _ _ _ _ _ from HNV2.out) hb3
      have hB3 := xcall hb2 hb3
      clear hb3 hb2 HW2 h0 hf h1 hb
      obtain ⟨-, -, g1, -, -, g4, g5, g6, -⟩ := id (show Nv _ _ _ _ _ _ _ _ from HNV3.out)
      go_wp2_with fail
      refine (arm_none _ _ N (NoneV.made (HNO.out _ HNV3.out))).mono ?_
      rintro e w4 ⟨rfl, hw4⟩
      subst hw4
      go_wp2_with fail
      refine (crash_none _ _ _ _ (HNO.out _ HNV3.out)).mono ?_
      rintro e w5 ⟨rfl, hw5⟩
      subst hw5
      clear g4 g5 g6
      go_wp2_with fail
      have HND : Hid _ := Nv.below (show Nv _ _ _ _ _ _ _ _ from HNV3.out) (Below.refl w5.heap.size w5).drew
      have hs0 := (show Nv _ _ _ _ _ _ _ _ from HND.out).2.2.1
      clear g1
      go_region_held3 (fun w' => w'.cell? ⟨w.heap.size, 1, none⟩ = some (.string A)) (first | exact hs2 | exact hs1 | exact hs0)
        (first
          | (go_at_call 15; refine Calls.mono (list_none _ _ (HNO.out _ HND.out)) ?_; rintro e w6 ⟨rfl, rfl⟩)
          | (go_at_call 24; refine Calls.mono (size_none _ _ A (HNO.out _ HND.out)) ?_; rintro e w6 ⟨rfl, hb6⟩; have HN6 : Hid _ := Nv.below (show Nv _ _ _ _ _ _ _ _ from HND.out) hb6; have hs1 := (show Nv _ _ _ _ _ _ _ _ from HN6.out).2.2.1; have HB6 : Hid _ := hb6; clear hb6)
          | (go_at_call 34; refine Calls.mono (synced_none _ _ A (HNO.out _ HN6.out)) ?_; rintro e w7 ⟨rfl, hb7⟩; have HN7 : Hid _ := Nv.below (show Nv _ _ _ _ _ _ _ _ from HN6.out) hb7; have hs2 := (show Nv _ _ _ _ _ _ _ _ from HN7.out).2.2.1; have HB7 : Hid _ := hb7; clear hb7)
          | (go_at_call 20; refine Calls.mono (used_none _ _ (HNO.out _ HN7.out)) ?_; rintro e w8 ⟨rfl, rfl⟩)
          | (go_at_call 23; refine Calls.mono (down_none _ _ (NoneV.made (HNO.out _ HN7.out))) ?_; rintro e w8 ⟨rfl, rfl⟩))
      all_goals
        have hB7 := xcall (xcall (Below.drew (show Below _ _ _ from hB3)) HB6.out) HB7.out
        clear hs0 hs1 hs2 HB6 HB7 hB3
        go_wp2
        go_roundw
        case rel => exact ⟨k + 1, by omega, by go_num, HN7.out, hB7⟩
        case measure => simp [intOf]; omega
    · have hlt' : ¬ (k : Int) < 2 := by omega
      go_wp2_with fail
      refine (awake_true _).mono ?_
      rintro e w9 ⟨rfl, hb9⟩
      go_wp2
      go_ret
      exact ⟨rfl, xcall hb hb9⟩
end Go.Proofs.Ytloigepmmhcibaa
