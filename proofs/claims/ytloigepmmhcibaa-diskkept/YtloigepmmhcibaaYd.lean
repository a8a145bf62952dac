/-
  The contract of snap upon a disk that New made: names, texts, how many bytes are safe. Own work.
-/
import Derived.Test.YtloigepmmhcibaaYv
import Derived.Test.YtloigepmmhcibaaLa
namespace Go.Proofs.Ytloigepmmhcibaa
open Go.RowKit

/-- a file's bytes as a text; of a dark disk's none -/
def txt (D : AD) (f : AF) : ByteArray := ⟨(if D.dark then [] else f.bytes).toArray⟩
theorem at_file {D : AD} (hok : D.ok) (k : Nat) (h : k < D.files.length) : (readD D D.files[k].name).1 = (if D.dark then [] else D.files[k].bytes) ∧ (lookF D.files D.files[k].name).safe = D.files[k].safe ∧ (lookF D.files D.files[k].name).bytes = D.files[k].bytes := by
  obtain ⟨h1, h2⟩ := isF_of hok.sorted k h rfl
  obtain ⟨hl, h3, -⟩ := lookF_is h1
  have e : lookF D.files D.files[k].name = D.files[k] := by
    rw [h3]
    congr 1
  refine ⟨?_, by rw [e], by rw [e]⟩
  unfold readD
  cases hd : D.dark
  · rw [if_neg (by simp), if_neg (by rw [h1]; simp), e]
    simp
  · simp

set_option maxRecDepth 100000 in
set_option maxHeartbeats 1600000 in
theorem snap_up {B : Nat} {w0 w : World} {d : Value} {D : AD} (h : Up B w0 w d D) :
    Calls Try.prog 36 #[d] w fun e w' => ∃ vn va vs, e = .returned (.tuple #[vn, va, vs]) ∧ OwnV w' w.heap.size 9 vn (D.files.map fun f => .string f.name) ∧ OwnV w' w.heap.size 9 va (D.files.map fun f => .string (txt D f)) ∧
      OwnV w' w.heap.size 3 vs (D.files.map fun f => .int .i64 (f.safe : Int)) ∧ Below w.heap.size w w' := by
  obtain ⟨i9, hi9, hz90, hz91, hz92⟩ := info_parts Try.info9
  obtain ⟨i3, hi3, hz30, hz31, hz32⟩ := info_parts Try.info3'
  obtain ⟨da, hd⟩ : ∃ a, d = .pointer a := by
    obtain ⟨bd, bs, bcc, fv, ps, rfl, -⟩ := h.dk
    exact ⟨_, rfl⟩
  subst hd
  have hok := h.dk.ok
  have hat := fun k hk => at_file hok k hk
  have hmany := hok.many
  have HAT : Hid _ := hat
  have HDK : Hid _ := h.dk
  obtain ⟨n, HN⟩ := named D.files.length
  rw [← HN.out] at hmany
  clear hat hok h
  go_enter Try.func36, Try.ntmps36
  go_wp2_with fail
  refine (list_any HDK.out).mono ?_
  rintro e w1 ⟨vn, rfl, hon, hb1⟩
  have hon' : OwnV w1 w.heap.size 9 vn (D.files.map fun f => .string f.name) := by
    unfold OwnS at hon
    unfold OwnV
    rw [List.map_map] at hon
    rw [List.length_map] at hon ⊢
    exact hon
  obtain ⟨no, nc, hvn, hnc, hncm, -⟩ := id hon'.rd
  rw [List.length_map, ← HN.out] at hvn hnc
  subst hvn
  unfold maxLen at hncm
  have HON : Hid _ := hon'
  clear hon hon'
  go_wp2
  go_loopw [6, 7, 16] (fun av sv iv wr => ∃ k : Nat, k ≤ n ∧ iv = .int .i64 k ∧ OwnV wr w1.heap.size 9 av ((D.files.take k).map fun f => .string (txt D f)) ∧ OwnV wr w1.heap.size 3 sv ((D.files.take k).map fun f => .int .i64 (f.safe : Int)) ∧ Below w1.heap.size w1 wr) (fun _ _ iv _ => n - (intOf iv).toNat)
  case atStart => exact ⟨0, by omega, rfl, OwnV.nil _ _ _, OwnV.nil _ _ _, Below.refl _ _⟩
  case round =>
    obtain ⟨k, hk, rfl, hoa, hos, hb⟩ := hrel
    by_cases hlt : k < n
    · have hlt' : (k : Int) < n := by omega
      have hkl : k < D.files.length := by rw [← HN.out]; exact hlt
      obtain ⟨b0, off, c0, hv0, -, -, hb0, hcs⟩ := RdV.cells (OwnV.rd (show OwnV w1 w.heap.size 9 (.slice no n nc) _ from HON.out)) (by rw [List.length_map]; omega)
      rw [List.length_map, ← HN.out] at hv0
      cases hv0
      have hck := (hb.cell (p := ⟨b0, off + k, none⟩) hb0).trans (hcs k (by rw [List.length_map]; exact hkl))
      rw [List.getElem_map] at hck
      obtain ⟨e1, e2, e3⟩ := HAT.out k hkl
      have hta : (D.files.take (k + 1)).map (fun f => Value.string (txt D f)) = (D.files.take k).map (fun f => Value.string (txt D f)) ++ [.string (txt D (D.files[k]'hkl))] := by
        rw [List.take_succ_eq_append_getElem hkl, List.map_append]; rfl
      have hts : (D.files.take (k + 1)).map (fun f => Value.int .i64 (f.safe : Int)) = (D.files.take k).map (fun f => Value.int .i64 (f.safe : Int)) ++ [.int .i64 ((D.files[k]'hkl).safe : Int)] := by
        rw [List.take_succ_eq_append_getElem hkl, List.map_append]; rfl
      have htx : txt D (D.files[k]'hkl) = ⟨(if D.dark then [] else (D.files[k]'hkl).bytes).toArray⟩ := rfl
      have hread := read_any (Dk.below (show Dk _ _ _ _ from HDK.out) (hb1.trans (hb.mono hb1.size))) (D.files[k]'hkl).name
      have hsyn := fun w' (hb' : Below w.heap.size w w') => synced_any (Dk.below (show Dk _ _ _ _ from HDK.out) hb') (D.files[k]'hkl).name
      rw [e1] at hread
      simp only [e2] at hsyn
      obtain ⟨f, HFF⟩ := named (D.files[k]'hkl)
      rw [← HFF.out] at hck hread hta hts htx
      simp only [← HFF.out] at hsyn
      obtain ⟨bt, HBT⟩ := named (if D.dark then [] else f.bytes)
      rw [← HBT.out] at hread htx
      rw [htx] at hta
      have HTA : Hid _ := hta
      have HTS : Hid _ := hts
      have hT := run_toStr
      clear hcs e1 e2 e3 hta hts htx
      go_wp2_with fail
      refine hread.mono ?_
      rintro e w2 ⟨v2, rfl, hown2, hb2⟩
      clear hread
      have hstr := run_str w2 _ bt hown2.rd
      obtain ⟨a2, c2, hv2, -⟩ := id hown2.rd
      subst hv2
      have hB2 := xcall hb hb2
      have hs2 := hB2.size
      have hoa2 := hoa.below hb2
      have hos2 := hos.below hb2
      obtain ⟨av', w3, hr3, ho3, hg3⟩ := run_append_v (P := Try.prog) (w2.alloc (.cells #[.string ⟨bt.toArray⟩] 9)) 28 28 9 i9 (.string ⟨#[]⟩) 16 Try.underlying28 hi9 hz90 hz91 hz92 rfl (by omega) w1.heap.size u6 (.string ⟨bt.toArray⟩) ⟨w2.heap.size, 0, none⟩ 1 _ rfl (by simp) (hoa2.alloc _) (by rw [List.length_map, List.length_take]; omega) (by simp; omega)
      have hb3 : Below w1.heap.size w1 w3 := (hB2.alloc hs2 _).grown hg3 (by simp; omega) (fun k hk => (World.ownsRow.lt hoa2 k hk).1)
      have hosA := hos2.alloc (.cells #[.string ⟨bt.toArray⟩] 9)
      have hoaA := hoa2.alloc (.cells #[.string ⟨bt.toArray⟩] 9)
      have hos3 : OwnV w3 w1.heap.size 3 u7 _ := World.ownsRow.kept hosA hg3 (own_apart hosA hoaA (by decide))
      have HO3 : Hid _ := ho3
      have hsy := hsyn w3 (hb1.trans (hb3.mono hb1.size))
      clear hg3 ho3 hosA hoaA hoa hos hoa2 hos2 hown2 hb2 hB2 hb hsyn
      go_wp2_with (at_builtin; refine Lib.wpList_append_run _ rfl (.tmp 26) (.tmp 29) 28 28 rfl _ _ rfl rfl _ _ hr3 ?_)
      refine hsy.mono ?_
      rintro e w4 ⟨rfl, hb4⟩
      clear hsy
      have hB4 := xcall hb3 hb4
      have hs4 := hB4.size
      have hoa4 := OwnV.below (show OwnV w3 w1.heap.size 9 av' _ from HO3.out) hb4
      have hos4 := hos3.below hb4
      obtain ⟨sv', w5, hr5, ho5, hg5⟩ := run_append_v (P := Try.prog) (w4.alloc (.cells #[.int .i64 (f.safe : Int)] 3)) 22 22 3 i3 (.int .i64 0) 8 Try.underlying22 hi3 hz30 hz31 hz32 rfl (by omega) w1.heap.size u7 (.int .i64 (f.safe : Int)) ⟨w4.heap.size, 0, none⟩ 1 _ rfl (by simp) (hos4.alloc _) (by rw [List.length_map, List.length_take]; omega) (by simp; omega)
      have hb5 : Below w1.heap.size w1 w5 := (hB4.alloc hs4 _).grown hg5 (by simp; omega) (fun k hk => (World.ownsRow.lt hos4 k hk).1)
      have hosB := hos4.alloc (.cells #[.int .i64 (f.safe : Int)] 3)
      have hoaB := hoa4.alloc (.cells #[.int .i64 (f.safe : Int)] 3)
      have hoa5 : OwnV w5 w1.heap.size 9 av' _ := World.ownsRow.kept hoaB hg5 (own_apart hoaB hosB (by decide))
      have HO5 : Hid _ := ho5
      have HA5 : Hid _ := hoa5
      clear hg5 ho5 hosB hoaB hoa4 hos4 hoa5 hb4 hB4 HO3 hos3 hr3
      go_wp2_with (at_builtin; refine Lib.wpList_append_run _ rfl (.tmp 31) (.tmp 35) 22 22 rfl _ _ rfl rfl _ _ hr5 ?_)
      refine ⟨⟨k + 1, by omega, by go_num, by rw [HTA.out]; exact HA5.out, by rw [HTS.out]; exact HO5.out, hb5⟩, by simp [intOf]; omega⟩
    · have hlt' : ¬ (k : Int) < n := by omega
      have hend : D.files.take k = D.files := List.take_of_length_le (by rw [← HN.out]; omega)
      rw [hend] at hoa hos
      have hon := OwnV.below (show OwnV w1 w.heap.size 9 (.slice no n nc) _ from HON.out) hb
      have hm : ∀ (e : TypeId) (v : Value) (vs : List Value), OwnV wr w1.heap.size e v vs → OwnV wr w.heap.size e v vs := by
        intro e v vs h
        refine ⟨h.1, ?_⟩
        rcases h.2 with h2 | ⟨g, cap, cur, hv, hbb, r⟩
        · exact .inl h2
        · exact .inr ⟨g, cap, cur, hv, Nat.le_trans hb1.size hbb, r⟩
      have HA : Hid _ := hm _ _ _ hoa
      have HS : Hid _ := hm _ _ _ hos
      have HNN : Hid _ := hon
      clear hoa hos hon hm hend
      go_wp2
      go_ret3
      exact ⟨_, _, _, rfl, HNN.out, HA.out, HS.out, hb1.trans (hb.mono hb1.size)⟩
end Go.Proofs.Ytloigepmmhcibaa
