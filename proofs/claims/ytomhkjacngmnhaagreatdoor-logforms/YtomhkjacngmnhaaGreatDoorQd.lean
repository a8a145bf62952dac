/-
  What is laid in memory at the start; the contracts of isNumber, isCount, Name, First. The contract of First. Own work.
-/
import Derived.Test.YtomhkjacngmnhaaGreatDoorSh
import Derived.Test.YtomhkjacngmnhaaGreatDoorQc
import Derived.Lib.SmallJoins
import Derived.Lib.ItoaLen
import Derived.Lib.ItoaMem
import Derived.Lib.AppendIntMem
namespace Go.Proofs.YtomhkjacngmnhaaGreatDoor
open Go.RowKit

/-- what the program lays ahead of all calls stands in this world -/
structure Laid (w : World) : Prop where
  tab : Lib.TabIs Tryz.prog w "internal/strconv.uint64pow10" .u64 Lib.pow10Tab
  syn : ∃ tp p, w.var? Tryz.prog "strconv.ErrSyntax" = some #[.iface tp p]
  ran : ∃ tp p, w.var? Tryz.prog "strconv.ErrRange" = some #[.iface tp p]

theorem gtab : ∃ g, Tryz.prog.globalNamed "internal/strconv.uint64pow10" = some g := ⟨3, by kernel_rfl⟩
theorem gsyn : ∃ g, Tryz.prog.globalNamed "strconv.ErrSyntax" = some g := ⟨1, by kernel_rfl⟩
theorem gran : ∃ g, Tryz.prog.globalNamed "strconv.ErrRange" = some g := ⟨2, by kernel_rfl⟩

theorem Laid.below {w w' : World} (h : Laid w) (hb : Below w.heap.size w w') : Laid w' := by
  obtain ⟨g1, e1⟩ := gtab
  obtain ⟨g2, e2⟩ := gsyn
  obtain ⟨g3, e3⟩ := gran
  obtain ⟨t2, p2, h2⟩ := h.syn
  obtain ⟨t3, p3, h3⟩ := h.ran
  exact ⟨Go.Joins.tab_stays e1 h.tab hb (Nat.le_refl _), ⟨t2, p2, Go.Joins.var_stays e2 h2 hb (Nat.le_refl _)⟩, ⟨t3, p3, Go.Joins.var_stays e3 h3 hb (Nat.le_refl _)⟩⟩
theorem Laid.belowB {B : Nat} {w w' : World} (h : Laid w) (hb : Below B w w') (hB : w.heap.size ≤ B) : Laid w' := h.below (hb.mono hB)
theorem Laid.drew {w : World} (h : Laid w) : Laid w.drew := h.below (Below.refl _ _).drew
theorem Laid.alloc {w : World} (h : Laid w) (o : Obj) : Laid (w.alloc o) := h.below ((Below.refl _ _).alloc (Nat.le_refl _) _)

/-- a number that a batch, or a segment, may have -/
def isNum (n : Int) : Bool := decide (1 ≤ n) && decide (n ≤ 1152921504606846976)
def isCnt (n : Int) : Bool := decide (1 ≤ n) && decide (n ≤ 1000)
/-- a segment's name -/
def nameB (n : Int) : ByteArray := if isNum n then ⟨(119 :: Lib.itoa n).toArray⟩ else ⟨#[]⟩

theorem nameB_size (n : Int) : (nameB n).size ≤ 22 := by
  unfold nameB isNum
  split
  · rename_i h
    simp only [Bool.and_eq_true, decide_eq_true_eq] at h
    have := Lib.itoa_length_le n (by omega) (by omega)
    simp only [ByteArray.size, List.size_toArray, List.length_cons]
    omega
  · simp [ByteArray.size]

set_option maxRecDepth 100000 in
theorem isNumber_any (n : Int) (w : World) : Calls Tryz.prog 65 #[.int .i64 n] w fun e w' => e = .returned (.bool (isNum n)) ∧ w' = w := by
  by_cases h1 : 1 ≤ n
  · by_cases h2 : n ≤ 1152921504606846976
    · have HE : Hid (isNum n = true) := by show isNum n = true; simp only [isNum, h1, h2, decide_true, Bool.and_self]
      go_enter Tryz.func65, Tryz.ntmps65
      go_wp2
      go_ret
      exact ⟨by rw [HE.out]; rfl, rfl⟩
    · have HE : Hid (isNum n = false) := by show isNum n = false; simp only [isNum, h2, decide_false, Bool.and_false]
      go_enter Tryz.func65, Tryz.ntmps65
      go_wp2
      go_ret
      exact ⟨by rw [HE.out]; rfl, rfl⟩
  · have HE : Hid (isNum n = false) := by show isNum n = false; simp only [isNum, h1, decide_false, Bool.false_and]
    go_enter Tryz.func65, Tryz.ntmps65
    go_wp2
    go_ret
    exact ⟨by rw [HE.out]; rfl, rfl⟩
set_option maxRecDepth 100000 in
theorem isCount_any (n : Int) (w : World) : Calls Tryz.prog 68 #[.int .i64 n] w fun e w' => e = .returned (.bool (isCnt n)) ∧ w' = w := by
  by_cases h1 : 1 ≤ n
  · by_cases h2 : n ≤ 1000
    · have HE : Hid (isCnt n = true) := by show isCnt n = true; simp only [isCnt, h1, h2, decide_true, Bool.and_self]
      go_enter Tryz.func68, Tryz.ntmps68
      go_wp2
      go_ret
      exact ⟨by rw [HE.out]; rfl, rfl⟩
    · have HE : Hid (isCnt n = false) := by show isCnt n = false; simp only [isCnt, h2, decide_false, Bool.and_false]
      go_enter Tryz.func68, Tryz.ntmps68
      go_wp2
      go_ret
      exact ⟨by rw [HE.out]; rfl, rfl⟩
  · have HE : Hid (isCnt n = false) := by show isCnt n = false; simp only [isCnt, h1, decide_false, Bool.false_and]
    go_enter Tryz.func68, Tryz.ntmps68
    go_wp2
    go_ret
    exact ⟨by rw [HE.out]; rfl, rfl⟩
theorem cat_w (l : List UInt8) : (⟨#[119]⟩ : ByteArray) ++ ⟨l.toArray⟩ = ⟨(119 :: l).toArray⟩ := by
  apply ByteArray.ext
  simp [ByteArray.data_append]
set_option maxRecDepth 100000 in
set_option maxHeartbeats 400000 in
theorem name_any (n : Int) (w : World) (hw : Laid w) : Calls Tryz.prog 49 #[.int .i64 n] w fun e w' => e = .returned (.string (nameB n)) ∧ Below w.heap.size w w' := by
  cases hn : isNum n with
  | false =>
    have HE : Hid (nameB n = ⟨#[]⟩) := by unfold nameB; rw [hn]; rfl
    go_enter Tryz.func49, Tryz.ntmps49
    go_wp2_with fail
    refine (isNumber_any n w).mono ?_
    rintro e w' ⟨rfl, rfl⟩
    rw [hn]
    go_wp2_with fail
    go_ret
    rw [HE.out]
    exact ⟨rfl, Below.refl _ _⟩
  | true =>
    have HE : Hid (nameB n = ⟨(119 :: Lib.itoa n).toArray⟩) := by unfold nameB; rw [hn]; rfl
    have HB : Hid (1 ≤ n ∧ n ≤ 1152921504606846976) := by
      show 1 ≤ n ∧ n ≤ 1152921504606846976
      simpa [isNum] using hn
    go_enter Tryz.func49, Tryz.ntmps49
    go_wp2_with fail
    refine (isNumber_any n w).mono ?_
    rintro e w' ⟨rfl, rfl⟩
    rw [hn]
    go_wp2_with fail
    refine (Tryz.strconv_Itoa n (by have := HB.out.1; omega) (by have := HB.out.2; omega) _ hw.tab).mono ?_
    rintro e w' ⟨rfl, k, os, rfl⟩
    have hcat : ¬ (9223372036854775807 < 1 + (Lib.itoa n).length) := by
      have := Lib.itoa_length_le n (by have := HB.out.1; omega) (by have := HB.out.2; omega)
      omega
    go_wp2_with fail
    go_ret
    rw [HE.out, ← cat_w]
    exact ⟨rfl, Lib.below_grow _ _ (Nat.le_refl _) k os⟩
end Go.Proofs.YtomhkjacngmnhaaGreatDoor
namespace Go.Proofs.YtomhkjacngmnhaaGreatDoor
open Go.RowKit

theorem below_bytesWorld (w : World) (s : ByteArray) : Below w.heap.size w (Lib.bytesWorld w 5 s) := by
  refine ⟨rfl, rfl, rfl, ?_, fun k hk => Lib.bytesWorld_at_old w 5 s k hk⟩
  rw [Lib.bytesWorld_size]
  omega
theorem str_ne {a b : ByteArray} (h : a ≠ b) : (a.toList == b.toList) = false := by
  rw [beq_eq_false_iff_ne, ByteArray.toList_eq, ByteArray.toList_eq]
  exact fun e => h (Go.WideShapes.bytes_inj e)
theorem str_eq (a : ByteArray) : (a.toList == a.toList) = true := by simp
/-- the number that a name tells -/
def firstB (s : ByteArray) : Int × Bool := match Lib.atoiAll (s.data.toList.drop 1) with
  | .ok v => if isNum v = true ∧ nameB v = s then (v, true) else (0, false)
  | _ => (0, false)

theorem nameB_pre {v : Int} {s : ByteArray} (h1 : isNum v = true) (h2 : nameB v = s) : Lib.hasPrefix s.data.toList [119] = true := by
  subst h2
  unfold nameB
  rw [if_pos h1]
  simp [Lib.hasPrefix]
theorem firstB_no {s : ByteArray} (h : Lib.hasPrefix s.data.toList [119] = false) : firstB s = (0, false) := by
  unfold firstB
  split
  · rename_i v hv
    rw [if_neg]
    rintro ⟨h1, h2⟩
    rw [nameB_pre h1 h2] at h
    cases h
  · rfl

set_option maxRecDepth 100000 in
set_option maxHeartbeats 400000 in
theorem first_any (s : ByteArray) (hs : s.size ≤ 140737488355328) (w : World) (hw : Laid w) : Calls Tryz.prog 46 #[.string s] w fun e w' => e = .returned (.tuple #[.int .i64 (firstB s).1, .bool (firstB s).2]) ∧ Below w.heap.size w w' := by
  cases hp : Lib.hasPrefix s.data.toList [119] with
  | false =>
    have HE : Hid (firstB s = (0, false)) := firstB_no hp
    go_enter Tryz.func46, Tryz.ntmps46
    go_wp2_with fail
    refine (Tryz.strings_CutPrefix s _ w).mono ?_
    rintro e w' ⟨rfl, rfl⟩
    show _
    rw [hp]
    go_wp2_with fail
    go_ret2
    rw [HE.out]
    exact ⟨rfl, Below.refl _ _⟩
  | true =>
    have HT : Hid (Lib.trimPrefix s.data.toList [119] = s.data.toList.drop 1) := by
      show Lib.trimPrefix s.data.toList [119] = s.data.toList.drop 1
      unfold Lib.trimPrefix
      rw [if_pos hp]
      rfl
    obtain ⟨t, HTT⟩ := named (⟨(s.data.toList.drop 1).toArray⟩ : ByteArray)
    have HTL : Hid (t.data.toList = s.data.toList.drop 1) := by show t.data.toList = _; rw [HTT.out]
    have HTS : Hid (t.size ≤ 140737488355328) := by
      show t.size ≤ _
      have h1 : t.size = t.data.toList.length := by rw [Array.length_toList]; rfl
      have h2 : s.size = s.data.toList.length := by rw [Array.length_toList]; rfl
      rw [h1, HTL.out, List.length_drop]
      omega
    obtain ⟨t2, p2, hsy⟩ := hw.syn
    obtain ⟨t3, p3, hra⟩ := hw.ran
    go_enter Tryz.func46, Tryz.ntmps46
    go_wp2_with fail
    refine (Tryz.strings_CutPrefix s _ w).mono ?_
    rintro e w' ⟨rfl, rfl⟩
    rw [hp, HT.out, ← HTT.out]
    go_wp2_with fail
    cases ha : Lib.atoiAll t.data.toList with
    | «syntax» =>
      have HE : Hid (firstB s = (0, false)) := by show firstB s = _; unfold firstB; rw [← HTL.out, ha]
      refine (Tryz.strconv_Atoi_syntax_var t (by have := HTS.out; omega) ha t2 p2 _ hsy).mono ?_
      rintro e w1 ⟨g, rfl, hg, hG, hb⟩
      go_wp2_with fail
      go_ret2
      rw [HE.out]
      exact ⟨rfl, hb⟩
    | range =>
      have HE : Hid (firstB s = (0, false)) := by show firstB s = _; unfold firstB; rw [← HTL.out, ha]
      refine (Tryz.strconv_Atoi_range_var t (by have := HTS.out; omega) ha t3 p3 _ hra).mono ?_
      rintro e w1 ⟨g, rfl, hg, hG, hb⟩
      go_wp2_with fail
      go_ret2
      rw [HE.out]
      exact ⟨rfl, hb⟩
    | ok v =>
      refine (Tryz.strconv_Atoi_ok t (by have := HTS.out; omega) v ha _).mono ?_
      rintro e w1 ⟨rfl, hw1⟩
      have HB : Hid (Below w'.heap.size w' w1) := by
        show Below w'.heap.size w' w1
        rcases hw1 with rfl | ⟨t, rfl⟩
        · exact Below.refl _ _
        · exact below_bytesWorld w' t
      have HL : Hid (Laid w1) := hw.below HB.out
      clear hw1
      go_wp2_with fail
      refine (name_any v w1 HL.out).mono ?_
      rintro e w2 ⟨rfl, hb2⟩
      have HB2 : Hid (Below w'.heap.size w' w2) := HB.out.trans (hb2.mono HB.out.size)
      clear hb2
      by_cases hv : isNum v = true ∧ nameB v = s
      · have HE : Hid (firstB s = (v, true)) := by show firstB s = _; unfold firstB; rw [← HTL.out, ha]; exact if_pos hv
        rw [hv.2]
        go_wp2_with fail
        go_ret2
        rw [HE.out]
        exact ⟨rfl, HB2.out⟩
      · have HE : Hid (firstB s = (0, false)) := by show firstB s = _; unfold firstB; rw [← HTL.out, ha]; exact if_neg hv
        have hne : nameB v ≠ s := by
          intro h
          by_cases hv1 : isNum v = true
          · exact hv ⟨hv1, h⟩
          · unfold nameB at h
            rw [if_neg hv1] at h
            subst h
            simp [Lib.hasPrefix] at hp
        have hnb := str_ne hne
        clear hv
        go_wp2_with fail
        go_ret2
        rw [HE.out]
        exact ⟨rfl, HB2.out⟩
end Go.Proofs.YtomhkjacngmnhaaGreatDoor
