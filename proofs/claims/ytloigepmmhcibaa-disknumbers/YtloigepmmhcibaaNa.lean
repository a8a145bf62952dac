/-
  What the fixed examples of DiskNumbers come to: plain lemmas, with no walk. Own work.
-/
import Derived.Test.YtloigepmmhcibaaPureb
namespace Go.Proofs.Ytloigepmmhcibaa

/-- the i-th of two hundred names -/
def nmF (i : Nat) : ByteArray := ⟨#[102, 46, UInt8.ofNat (97 + i % 26), UInt8.ofNat (48 + i / 26)]⟩
/-- the disk behind i of them -/
def bgD : Nat → AD
  | 0 => newD 16777216
  | i + 1 => (appendD (bgD i) (nmF i) []).1
/-- all of them, in order -/
def bgL : AD := ⟨(List.range 26).flatMap fun a => (List.range (if a < 18 then 8 else 7)).map fun d => ⟨⟨#[102, 46, UInt8.ofNat (97 + a), UInt8.ofNat (48 + d)]⟩, [], 0⟩, 16777216, -1, false⟩
def dash : ByteArray := ⟨(List.replicate 60 45).toArray⟩
def bg1 : AD := (renameD bgL ⟨#[102, 46, 97, 48]⟩ dash).1
def bg2 : AD := (appendD bg1 ⟨#[102, 46, 98, 48]⟩ []).1
set_option maxRecDepth 100000 in
theorem bg_all : bgD 200 = bgL := by kernel_rfl
theorem right_nm : ∀ i : Fin 200, right (nmF i.val) = true := by decide +kernel
set_option maxRecDepth 100000
theorem bg_len : (bgL.files.map AF.name).length = 200 := by kernel_rfl
theorem bgA1 : appendD bgL ⟨#[103]⟩ [] = (bgL, 5) := by kernel_rfl
theorem bgA2 : renameD bgL ⟨#[102, 46, 97, 48]⟩ dash = (bg1, 0) := by kernel_rfl
theorem bgA3 : appendD bg1 ⟨#[102, 46, 97, 48]⟩ [] = (bg1, 5) := by kernel_rfl
theorem bgA4 : appendD bg1 ⟨#[102, 46, 98, 48]⟩ [] = (bg2, 0) := by kernel_rfl
theorem bgA5 : renameD bg2 ⟨#[102, 46, 98, 48]⟩ ⟨#[66]⟩ = (bg2, 16) := by kernel_rfl
theorem bgA6 : renameD bg2 ⟨#[103]⟩ ⟨#[104]⟩ = (bg2, 16) := by kernel_rfl
theorem bgA7 : cutD bg2 ⟨#[102, 46, 98, 48]⟩ 1 = (bg2, 2) := by kernel_rfl
theorem bgA8 : cutD bg2 ⟨#[102, 46, 98, 48]⟩ (-1) = (bg2, 2) := by kernel_rfl
theorem bgA9 : cutD bg2 ⟨#[103]⟩ 0 = (bg2, 16) := by kernel_rfl
theorem bgA10 : syncD bg2 ⟨#[103]⟩ = (bg2, 16) := by kernel_rfl
theorem bgA11 : removeD bg2 ⟨#[103]⟩ = (bg2, 16) := by kernel_rfl

/-- names that may not be -/
theorem wrong_name (D : AD) (n : ByteArray) (hd : D.dark = false) (h : right n = false) : appendD D n [] = (D, 16) := by
  unfold appendD
  rw [if_neg (by rw [hd]; simp), if_pos h]
theorem wr0 : right ⟨#[]⟩ = false := by kernel_rfl
theorem wr1 : right ⟨#[65]⟩ = false := by kernel_rfl
theorem wr2 : right ⟨#[97, 32, 98]⟩ = false := by kernel_rfl
theorem wr3 : right ⟨#[97, 47, 98]⟩ = false := by kernel_rfl
theorem wr4 : right ⟨#[195, 164]⟩ = false := by kernel_rfl
theorem wr5 : right ⟨#[95]⟩ = false := by kernel_rfl
theorem wr6 : right ⟨(List.replicate 61 120).toArray⟩ = false := by kernel_rfl

theorem used_putF_le (fs : List AF) (f : AF) : used (putF fs f) ≤ used fs + f.bytes.length ∧ (putF fs f).length ≤ fs.length + 1 := by
  cases hi : isF fs f.name with
  | true =>
    obtain ⟨hl, -, -⟩ := lookF_is hi
    rw [putF_is hi, used_append, used_cons]
    have := used_at fs _ hl
    simp only [List.length_append, List.length_take, List.length_cons, List.length_drop]
    omega
  | false =>
    rw [putF_no hi, used_append, used_cons]
    have := used_split fs (posF fs f.name)
    simp only [List.length_append, List.length_take, List.length_cons, List.length_drop]
    omega
theorem app_none (D : AD) (n : ByteArray) (hd : D.dark = false) (hf : D.fuse = -1) (hm : D.most = 16777216) (hu : used D.files = 0) (hr : right n = true) (hl : D.files.length < 200) : appendD D n [] = ({ D with files := appF n [] D.files }, 0) := by
  unfold appendD
  rw [if_neg (by rw [hd]; simp), if_neg (by rw [hr]; simp), if_neg (by rw [hu, hm]; simp; omega)]
  unfold burn
  rw [if_neg (by rw [hf]; decide)]
  simp [hf]
/-- each of the two hundred is put -/
theorem bg_inv (i : Nat) (hi : i ≤ 200) : (bgD i).dark = false ∧ (bgD i).fuse = -1 ∧ (bgD i).most = 16777216 ∧ used (bgD i).files = 0 ∧ (bgD i).files.length ≤ i := by
  induction i with
  | zero => exact ⟨rfl, rfl, rfl, rfl, Nat.le_refl _⟩
  | succ i ih =>
    obtain ⟨h1, h2, h3, h4, h5⟩ := ih (by omega)
    have e : bgD (i + 1) = { bgD i with files := appF (nmF i) [] (bgD i).files } := by
      show (appendD (bgD i) (nmF i) []).1 = _
      rw [app_none _ _ h1 h2 h3 h4 (right_nm ⟨i, by omega⟩) (by omega)]
    rw [e]
    have hp := used_putF_le (bgD i).files ⟨nmF i, (lookF (bgD i).files (nmF i)).bytes ++ [], (lookF (bgD i).files (nmF i)).safe⟩
    have hk := look_used (fs := (bgD i).files) (nmF i)
    simp only [List.append_nil] at hp
    refine ⟨h1, h2, h3, ?_, ?_⟩
    · show used (appF _ _ _) = 0
      unfold appF
      simp only [List.append_nil]
      omega
    · show (appF _ _ _).length ≤ _
      unfold appF
      simp only [List.append_nil]
      omega
theorem bg_step (i : Nat) (hi : i < 200) : appendD (bgD i) (nmF i) [] = (bgD (i + 1), 0) := by
  obtain ⟨h1, h2, h3, h4, h5⟩ := bg_inv i (by omega)
  have h := app_none _ _ h1 h2 h3 h4 (right_nm ⟨i, hi⟩) (by omega)
  rw [show bgD (i + 1) = (appendD (bgD i) (nmF i) []).1 from rfl, h]

def sm1 : AD := (appendD (newD 5) ⟨#[97]⟩ [49, 50, 51]).1
def sm2 : AD := (appendD sm1 ⟨#[98]⟩ [52, 53]).1
def sm3 : AD := (cutD sm2 ⟨#[97]⟩ 1).1
def sm4 : AD := (appendD sm3 ⟨#[98]⟩ [54, 55]).1
def sm5 : AD := (renameD sm4 ⟨#[98]⟩ ⟨#[98]⟩).1
def sm6 : AD := armD sm5 (-3)
def sm7 : AD := (syncD sm6 ⟨#[98]⟩).1
def sm8 : AD := crashD (armD sm7 7) [] [0, 9]
theorem smA1 : appendD (newD 5) ⟨#[97]⟩ [49, 50, 51] = (sm1, 0) := by kernel_rfl
theorem smA2 : appendD sm1 ⟨#[98]⟩ [52, 53, 54] = (sm1, 5) := by kernel_rfl
theorem smA3 : appendD sm1 ⟨#[98]⟩ [52, 53] = (sm2, 0) := by kernel_rfl
theorem smA4 : appendD sm2 ⟨#[97]⟩ [54] = (sm2, 5) := by kernel_rfl
theorem smA5 : cutD sm2 ⟨#[97]⟩ 1 = (sm3, 0) := by kernel_rfl
theorem smA6 : appendD sm3 ⟨#[98]⟩ [54, 55] = (sm4, 0) := by kernel_rfl
theorem smA7 : used sm4.files = 5 := by kernel_rfl
theorem smA8 : renameD sm4 ⟨#[98]⟩ ⟨#[98]⟩ = (sm5, 0) := by kernel_rfl
theorem smA9 : readD sm5 ⟨#[98]⟩ = ([52, 53, 54, 55], 0) ∧ (lookF sm5.files ⟨#[98]⟩).bytes.length = 4 ∧ (lookF sm5.files ⟨#[98]⟩).safe = 0 := ⟨by kernel_rfl, by kernel_rfl, by kernel_rfl⟩
theorem smA10 : appendD sm6 ⟨#[99]⟩ [56] = (sm6, 5) := by kernel_rfl
theorem smA11 : syncD sm6 ⟨#[99]⟩ = (sm6, 16) := by kernel_rfl
theorem smA12 : sm6.dark = false := by kernel_rfl
theorem smA13 : syncD sm6 ⟨#[98]⟩ = (sm7, 15) := by kernel_rfl
theorem smA14 : sm7.dark = true := by kernel_rfl
theorem smA15 : (lookF sm7.files ⟨#[98]⟩).bytes.length = 4 := by kernel_rfl
theorem smA16 : readD sm8 ⟨#[97]⟩ = ([49], 0) ∧ (lookF sm8.files ⟨#[97]⟩).bytes.length = 1 ∧ (lookF sm8.files ⟨#[97]⟩).safe = 1 := ⟨by kernel_rfl, by kernel_rfl, by kernel_rfl⟩
theorem smA17 : readD sm8 ⟨#[98]⟩ = ([], 0) ∧ (lookF sm8.files ⟨#[98]⟩).bytes.length = 0 ∧ (lookF sm8.files ⟨#[98]⟩).safe = 0 := ⟨by kernel_rfl, by kernel_rfl, by kernel_rfl⟩
end Go.Proofs.Ytloigepmmhcibaa
