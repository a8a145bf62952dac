/-
  Parse after Bytes, as lists. Own work.
-/
import Derived.Test.YtomhkjacngmnhaaGreatDoorGu
namespace Go.Proofs.YtomhkjacngmnhaaGreatDoor
open Go.RowKit

theorem recs_back (rest : List UInt8) (ps : List (List UInt8)) (hs : ∀ b ∈ ps, b.length ≤ 1000000) (ahead : List UInt8) (acc : List (List UInt8)) :
    recsL (ahead ++ ((ps.map recL).flatten ++ rest)) ps.length ahead.length acc = (acc ++ ps, ahead.length + ((ps.map recL).flatten).length, 0) := by
  induction ps generalizing ahead acc with
  | nil => simp [recsL]
  | cons b ps ih =>
    have e : ahead ++ (((b :: ps).map recL).flatten ++ rest) = ahead ++ (blobL b ++ ((ps.map recL).flatten ++ rest)) := by simp [recL, blobL]
    have hb : b.length ≤ 1000000 := hs b (by simp)
    have hq : (b.length : Int) ≤ ((ahead ++ (blobL b ++ ((ps.map recL).flatten ++ rest))).length : Int) := by
      simp only [List.length_append, blobL_length]; omega
    have hg := getB_blob b ahead ((ps.map recL).flatten ++ rest) _ hb hq
    rw [e, List.length_cons, recsL, hg, if_pos rfl]
    have h2 := ih (fun x hx => hs x (by simp [hx])) (ahead ++ blobL b) (acc ++ [b])
    rw [List.append_assoc, List.length_append] at h2
    rw [h2]
    simp [recL, blobL, Nat.add_assoc]

theorem parse_back (n : Int) (ps : List (List UInt8)) (hn : isNum n = true) (hc : isCnt ps.length = true) (hl : (batL n ps).length ≤ 1048576) (hs : ∀ b ∈ ps, b.length ≤ 1000000) : parseL (batL n ps) = (n, ps, 0) := by
  have hn' : 1 ≤ n ∧ n ≤ 1152921504606846976 := by simpa [isNum] using hn
  have hc' : 1 ≤ ps.length ∧ ps.length ≤ 1000 := by
    have : (1 : Int) ≤ (ps.length : Int) ∧ (ps.length : Int) ≤ 1000 := by simpa only [isCnt, Bool.and_eq_true, decide_eq_true_eq] using hc
    omega
  obtain ⟨m, rfl⟩ : ∃ m : Nat, n = (m : Int) := ⟨n.toNat, by omega⟩
  have h0 : getU (batL m ps) 0 = (m, (U m).length, 0) := by
    have := getU_U m (by omega) [] (U ps.length ++ (ps.map recL).flatten)
    simpa [batL] using this
  have h1 : getU (batL m ps) ((U m).length : Nat) = (ps.length, (U m).length + (U ps.length).length, 0) := getU_U ps.length (by omega) (U m) ((ps.map recL).flatten)
  have h2 := recs_back [] ps hs (U m ++ U ps.length) []
  rw [List.append_nil, List.append_assoc, List.length_append, List.nil_append] at h2
  have h3 : recsL (batL m ps) ps.length ((U m).length + (U ps.length).length) [] = (ps, (U m).length + (U ps.length).length + ((ps.map recL).flatten).length, 0) := h2
  have h4 : (batL m ps).length = (U m).length + (U ps.length).length + ((ps.map recL).flatten).length := by simp only [batL, List.length_append]; omega
  unfold parseL
  rw [if_neg (by omega), h0]
  simp only [h1, h3]
  rw [if_neg (by simp [hn]), if_neg (by simp [hc]), if_neg (by rw [h4]; simp)]

theorem bat_inj (n m : Int) (ps qs : List (List UInt8)) (hn : isNum n = true) (hc : isCnt ps.length = true) (hl : (batL n ps).length ≤ 1048576) (hs : ∀ b ∈ ps, b.length ≤ 1000000)
    (hm : isNum m = true) (hd : isCnt qs.length = true) (hk : (batL m qs).length ≤ 1048576) (ht : ∀ b ∈ qs, b.length ≤ 1000000) (h : batL n ps = batL m qs) : n = m ∧ ps = qs := by
  have h1 := parse_back n ps hn hc hl hs
  have h2 := parse_back m qs hm hd hk ht
  rw [h, h2] at h1
  simp only [Prod.mk.injEq, and_true] at h1
  exact ⟨h1.1.symm, h1.2.symm⟩

end Go.Proofs.YtomhkjacngmnhaaGreatDoor
