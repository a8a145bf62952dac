/-
  awake: the chapter's examples come out as written. Own work.
-/
import Derived.Test.YtloigepmmhcibaaLb
namespace Go.Proofs.Ytloigepmmhcibaa
open Go.RowKit

def nA : ByteArray := ⟨#[97]⟩
def nB : ByteArray := ⟨#[98]⟩
def nC : ByteArray := ⟨#[99]⟩
def aw1 : AD := (appendD (newD 1000) ⟨#[97]⟩ [120, 121, 122]).1
def aw2 : AD := (syncD aw1 ⟨#[97]⟩).1
def aw3 : AD := (appendD aw2 ⟨#[97]⟩ [117, 118]).1
def aw4 : AD := (appendD aw3 ⟨#[98]⟩ [119]).1
def aw5 : AD := crashD aw4 [1] []
def aw6 : AD := (renameD aw5 ⟨#[97]⟩ ⟨#[98]⟩).1
def aw7 : AD := armD aw6 1
def aw8 : AD := (syncD aw7 ⟨#[98]⟩).1
def aw9 : AD := (removeD aw8 ⟨#[98]⟩).1
def aw10 : AD := crashD aw9 [] [9]
def aw11 : AD := (appendD aw10 ⟨#[65]⟩ []).1
def aw12 : AD := (appendD aw11 ⟨#[99]⟩ (List.replicate 60 115)).1
def aw13 : AD := (syncD aw12 ⟨#[99]⟩).1
def aw14 : AD := (appendD aw13 ⟨#[99]⟩ [49, 50, 51, 52, 53, 54, 55, 56, 57]).1
def aw15 : AD := crashD aw14 [0, 2] [0, 9]
theorem e1 : (appendD (newD 1000) ⟨#[97]⟩ [120, 121, 122]).2 = 0 := by kernel_rfl
theorem e2 : (syncD aw1 ⟨#[97]⟩).2 = 0 := by kernel_rfl
theorem e3 : (appendD aw2 ⟨#[97]⟩ [117, 118]).2 = 0 := by kernel_rfl
theorem e4 : (appendD aw3 ⟨#[98]⟩ [119]).2 = 0 := by kernel_rfl
theorem h4 : readD aw4 ⟨#[97]⟩ = ([120, 121, 122, 117, 118], 0) ∧ (lookF aw4.files ⟨#[97]⟩).bytes.length = 5 ∧ (lookF aw4.files ⟨#[97]⟩).safe = 3 := ⟨by kernel_rfl, by kernel_rfl, by kernel_rfl⟩
theorem h5 : readD aw5 ⟨#[97]⟩ = ([120, 121, 122, 117], 0) ∧ (lookF aw5.files ⟨#[97]⟩).bytes.length = 4 ∧ (lookF aw5.files ⟨#[97]⟩).safe = 4 := ⟨by kernel_rfl, by kernel_rfl, by kernel_rfl⟩
theorem h5b : readD aw5 ⟨#[98]⟩ = ([], 0) ∧ (lookF aw5.files ⟨#[98]⟩).bytes.length = 0 ∧ (lookF aw5.files ⟨#[98]⟩).safe = 0 := ⟨by kernel_rfl, by kernel_rfl, by kernel_rfl⟩
theorem e6 : (renameD aw5 ⟨#[97]⟩ ⟨#[98]⟩).2 = 0 := by kernel_rfl
theorem l6 : aw6.files.map AF.name = [⟨#[98]⟩] := by kernel_rfl
theorem h6 : readD aw6 ⟨#[98]⟩ = ([120, 121, 122, 117], 0) ∧ (lookF aw6.files ⟨#[98]⟩).bytes.length = 4 ∧ (lookF aw6.files ⟨#[98]⟩).safe = 4 := ⟨by kernel_rfl, by kernel_rfl, by kernel_rfl⟩
theorem e8 : (syncD aw7 ⟨#[98]⟩).2 = 0 := by kernel_rfl
theorem e9 : (removeD aw8 ⟨#[98]⟩).2 = 15 := by kernel_rfl
theorem r9 : readD aw9 ⟨#[98]⟩ = ([], 15) := by kernel_rfl
theorem h10 : readD aw10 ⟨#[98]⟩ = ([120, 121, 122, 117], 0) ∧ (lookF aw10.files ⟨#[98]⟩).bytes.length = 4 ∧ (lookF aw10.files ⟨#[98]⟩).safe = 4 := ⟨by kernel_rfl, by kernel_rfl, by kernel_rfl⟩
theorem e11 : (appendD aw10 ⟨#[65]⟩ []).2 = 16 := by kernel_rfl
theorem e12 : (appendD aw11 ⟨#[99]⟩ (List.replicate 60 115)).2 = 0 := by kernel_rfl
theorem e13 : (syncD aw12 ⟨#[99]⟩).2 = 0 := by kernel_rfl
theorem e14 : (appendD aw13 ⟨#[99]⟩ [49, 50, 51, 52, 53, 54, 55, 56, 57]).2 = 0 := by kernel_rfl
theorem h15 : readD aw15 ⟨#[99]⟩ = (List.replicate 60 115 ++ [49, 50, 0, 0], 0) ∧ (lookF aw15.files ⟨#[99]⟩).bytes.length = 64 ∧ (lookF aw15.files ⟨#[99]⟩).safe = 64 := ⟨by kernel_rfl, by kernel_rfl, by kernel_rfl⟩

set_option maxRecDepth 100000 in
set_option maxHeartbeats 2000000 in
theorem awake_true (w : World) : Calls Try.prog 26 #[] w fun e w' => e = .returned (.bool true) ∧ Below w.heap.size w w' := by
  have kc := fun (w : World) (C : Array Value) (n c : Nat) => Lib.run_convert_bytes_const (P := Try.prog) w 30 5 C n c Try.underlying30 Try.underlying5
  go_enter Try.func26, Try.ntmps26
  go_wp2_with fail
  refine (new_up w 1000 (by omega)).mono ?_
  rintro e w0 ⟨d, rfl, -, hu0⟩
  go_wp2_with fail
  refine (hu0.appendC ⟨#[97]⟩ (by decide) [120, 121, 122] (by simp) _ _ (by rfl)).mono ?_
  rintro e w1 ⟨rfl, hx⟩
  have hu1 : Up w.heap.size w w1 d aw1 := hx
  clear hx hu0
  rw [e1]
  go_wp2_with fail
  refine (hu1.sync ⟨#[97]⟩).mono ?_
  rintro e w2 ⟨rfl, hx⟩
  have hu2 : Up w.heap.size w w2 d aw2 := hx
  clear hx hu1
  rw [e2]
  go_wp2_with fail
  refine (hu2.appendC ⟨#[97]⟩ (by decide) [117, 118] (by simp) _ _ (by rfl)).mono ?_
  rintro e w3 ⟨rfl, hx⟩
  have hu3 : Up w.heap.size w w3 d aw3 := hx
  clear hx hu2
  rw [e3]
  go_wp2_with fail
  refine (hu3.appendC ⟨#[98]⟩ (by decide) [119] (by simp) _ _ (by rfl)).mono ?_
  rintro e w4 ⟨rfl, hx⟩
  have hu4 : Up w.heap.size w w4 d aw4 := hx
  clear hx hu3
  rw [e4]
  go_wp2_with fail
  refine (hu4.holds ⟨#[97]⟩ [120, 121, 122, 117, 118] 3 h4.1 h4.2.1 h4.2.2).mono ?_
  rintro e w5 ⟨rfl, hx⟩
  have hu5 : Up w.heap.size w w5 d aw4 := hx
  clear hx hu4
  go_wp2_with fail
  refine (hu5.crashC ((Below.refl _ _).alloc (Nat.le_refl _) _) _ _ [1] [] (rdI_lit _ _ _ _ [1] (heap_alloc_new w5 _) (by rfl) (by simp)) (RdI.nil _) (by rintro a ⟨⟩; exact Nat.le_refl _) (by rintro a ⟨⟩) (by simp) (by simp)).mono ?_
  rintro e w6 ⟨rfl, hx⟩
  have hu6 : Up w.heap.size w w6 d aw5 := hx
  clear hx hu5
  go_wp2_with fail
  refine (hu6.holds ⟨#[97]⟩ [120, 121, 122, 117] 4 h5.1 h5.2.1 h5.2.2).mono ?_
  rintro e w7 ⟨rfl, hx⟩
  have hu7 : Up w.heap.size w w7 d aw5 := hx
  clear hx hu6
  go_wp2_with fail
  refine (hu7.holds ⟨#[98]⟩ [] 0 h5b.1 h5b.2.1 h5b.2.2).mono ?_
  rintro e w8 ⟨rfl, hx⟩
  have hu8 : Up w.heap.size w w8 d aw5 := hx
  clear hx hu7
  go_wp2_with fail
  refine (hu8.rename ⟨#[97]⟩ ⟨#[98]⟩ (by decide)).mono ?_
  rintro e w9 ⟨rfl, hx⟩
  have hu9 : Up w.heap.size w w9 d aw6 := hx
  clear hx hu8
  rw [e6]
  go_wp2_with fail
  refine (list_any hu9.dk).mono ?_
  rintro e w10 ⟨vl, rfl, hos, hbl⟩
  have hu10 := hu9.below hbl
  rw [l6] at hos
  clear hbl hu9
  go_wp2_with fail
  refine (join_one hos ⟨#[32]⟩).mono ?_
  rintro e w11 ⟨rfl, hx⟩
  have hu11 : Up w.heap.size w w11 d aw6 := by rw [hx]; exact hu10
  clear hx hos hu10
  go_wp2_with fail
  refine (hu11.holds ⟨#[98]⟩ [120, 121, 122, 117] 4 h6.1 h6.2.1 h6.2.2).mono ?_
  rintro e w12 ⟨rfl, hx⟩
  have hu12 : Up w.heap.size w w12 d aw6 := hx
  clear hx hu11
  go_wp2_with fail
  refine (hu12.arm 1 (by omega)).mono ?_
  rintro e w13 ⟨rfl, hx⟩
  have hu13 : Up w.heap.size w w13 d aw7 := hx
  clear hx hu12
  go_wp2_with fail
  refine (hu13.sync ⟨#[98]⟩).mono ?_
  rintro e w14 ⟨rfl, hx⟩
  have hu14 : Up w.heap.size w w14 d aw8 := hx
  clear hx hu13
  rw [e8]
  go_wp2_with fail
  refine (hu14.remove ⟨#[98]⟩).mono ?_
  rintro e w15 ⟨rfl, hx⟩
  have hu15 : Up w.heap.size w w15 d aw9 := hx
  clear hx hu14
  rw [e9]
  go_wp2_with fail
  refine (read_any hu15.dk ⟨#[98]⟩).mono ?_
  rintro e w16 ⟨vr, rfl, -, hbl⟩
  have hu16 := hu15.below hbl
  rw [r9]
  clear hbl hu15
  go_wp2_with fail
  refine (hu16.crashC ((Below.refl _ _).alloc (Nat.le_refl _) _) _ _ [] [9] (RdI.nil _) (rdI_lit _ _ _ _ [9] (heap_alloc_new w16 _) (by rfl) (by simp)) (by rintro a ⟨⟩) (by rintro a ⟨⟩; exact Nat.le_refl _) (by simp) (by simp)).mono ?_
  rintro e w17 ⟨rfl, hx⟩
  have hu17 : Up w.heap.size w w17 d aw10 := hx
  clear hx hu16
  go_wp2_with fail
  refine (hu17.holds ⟨#[98]⟩ [120, 121, 122, 117] 4 h10.1 h10.2.1 h10.2.2).mono ?_
  rintro e w18 ⟨rfl, hx⟩
  have hu18 : Up w.heap.size w w18 d aw10 := hx
  clear hx hu17
  go_wp2_with fail
  refine (hu18.append (Below.refl _ _) ⟨#[65]⟩ (by decide) _ [] (Rd.nil _) (by rintro a ⟨⟩)).mono ?_
  rintro e w19 ⟨rfl, hx⟩
  have hu19 : Up w.heap.size w w19 d aw11 := hx
  clear hx hu18
  rw [e11]
  obtain ⟨lg, HLG⟩ := named (⟨(List.replicate 60 115).toArray⟩ : ByteArray)
  have HL60 : Hid (lg.data.toList = List.replicate 60 115) := by rw [HLG.out]; exact (rfl : _ = _)
  have HS60 : Hid (lg.size ≤ 1000) := by rw [HLG.out]; simp [Hid, ByteArray.size]
  have kb := fun (w : World) => Lib.run_convert_string_bytes (P := Try.prog) w 9 30 5 lg Try.underlying9 Try.underlying30 Try.underlying5
  go_wp2_with fail
  refine (repeat_any 115 60 w19 (by omega) (by omega)).mono ?_
  rintro e w20 ⟨rfl, hbl⟩
  rw [← HLG.out]
  have hu20 := hu19.below hbl
  clear hbl hu19
  go_wp2_with fail
  refine (hu20.appendS ⟨#[99]⟩ (by decide) lg HS60.out).mono ?_
  rw [HL60.out]
  rintro e w21 ⟨rfl, hx⟩
  have hu21 : Up w.heap.size w w21 d aw12 := hx
  rw [e12]
  clear hx hu20
  go_wp2_with fail
  refine (hu21.sync ⟨#[99]⟩).mono ?_
  rintro e w22 ⟨rfl, hx⟩
  have hu22 : Up w.heap.size w w22 d aw13 := hx
  clear hx hu21
  rw [e13]
  go_wp2_with fail
  refine (hu22.appendC ⟨#[99]⟩ (by decide) [49, 50, 51, 52, 53, 54, 55, 56, 57] (by simp) _ _ (by rfl)).mono ?_
  rintro e w23 ⟨rfl, hx⟩
  have hu23 : Up w.heap.size w w23 d aw14 := hx
  clear hx hu22
  rw [e14]
  go_wp2_with fail
  obtain ⟨T1, T2, T3, -⟩ := two_new' w23 (.cells #[.int .i64 0, .int .i64 2] 3) (.cells #[.int .i64 0, .int .i64 9] 3)
  refine (hu23.crashC T3 _ _ [0, 2] [0, 9] (rdI_lit _ _ _ _ [0, 2] T1 (by rfl) (by simp)) (rdI_lit _ _ _ _ [0, 9] T2 (by rfl) (by simp)) (by rintro a ⟨⟩; exact Nat.le_refl _) (by rintro a ⟨⟩; exact Nat.le_succ _) (by simp) (by simp)).mono ?_
  rintro e w24 ⟨rfl, hx⟩
  have hu24 : Up w.heap.size w w24 d aw15 := hx
  clear hx hu23 T1 T2 T3
  have hcat : ¬ (9223372036854775807 < lg.size + 4) := by have := HS60.out; omega
  go_wp2_with fail
  rw [show lg ++ (⟨#[49, 50, 0, 0]⟩ : ByteArray) = ⟨(List.replicate 60 (115 : UInt8) ++ [49, 50, 0, 0]).toArray⟩ by rw [HLG.out]; rfl]
  refine (hu24.holds ⟨#[99]⟩ (List.replicate 60 115 ++ [49, 50, 0, 0]) 64 h15.1 h15.2.1 h15.2.2).mono ?_
  rintro e w25 ⟨rfl, hx⟩
  go_wp2_with fail
  go_ret
  exact ⟨rfl, hx.bel⟩
end Go.Proofs.Ytloigepmmhcibaa
