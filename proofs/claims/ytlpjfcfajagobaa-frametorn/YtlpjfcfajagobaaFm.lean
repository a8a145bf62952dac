/-
  The contract of framed: bodies as frames, one behind the other, and where each ends. Own work.
-/
import Derived.Test.YtlpjfcfajagobaaFl
import Derived.Deep.RegionHeld3
namespace Go.Proofs.Ytlpjfcfajagobaa
open Go.RowKit

/-- a body that counts -/
def counts (p : Value × List UInt8) : Bool := decide (0 < p.2.length ∧ p.2.length ≤ 200)
/-- of the first so many bodies those that count -/
def kept (ps : List (Value × List UInt8)) (k : Nat) : List (Value × List UInt8) := (ps.take k).filter counts
/-- their frames, one behind the other -/
def framesL (bs : List (List UInt8)) : List UInt8 := (bs.map frameL).flatten
/-- where each ends -/
def endsF (n : Nat) : List (List UInt8) → List Nat
  | [] => []
  | b :: bs => (n + (frameL b).length) :: endsF (n + (frameL b).length) bs
def ints (ns : List Nat) : List Value := ns.map fun (n : Nat) => Value.int .i64 (n : Int)

theorem kept_succ (ps : List (Value × List UInt8)) (k : Nat) (h : k < ps.length) : kept ps (k + 1) = kept ps k ++ (if counts ps[k] then [ps[k]] else []) := by
  unfold kept
  rw [List.take_succ_eq_append_getElem h, List.filter_append]
  congr 1
  rw [List.filter_cons]
  split <;> simp
theorem kept_len (ps : List (Value × List UInt8)) (k : Nat) : (kept ps k).length ≤ k := by
  unfold kept
  exact Nat.le_trans (List.length_filter_le _ _) (by rw [List.length_take]; omega)
theorem framesL_snoc (bs : List (List UInt8)) (b : List UInt8) : framesL (bs ++ [b]) = framesL bs ++ frameL b := by simp [framesL]
theorem endsF_snoc (n : Nat) (bs : List (List UInt8)) (b : List UInt8) : endsF n (bs ++ [b]) = endsF n bs ++ [n + (framesL bs).length + (frameL b).length] := by
  induction bs generalizing n with
  | nil => simp [endsF, framesL]
  | cons x bs ih =>
    simp only [List.cons_append, endsF, ih]
    simp only [framesL, List.map_cons, List.flatten_cons, List.length_append]
    simp only [List.cons.injEq, true_and, List.append_cancel_left_eq, and_true]
    omega
theorem endsF_len (n : Nat) (bs : List (List UInt8)) : (endsF n bs).length = bs.length := by
  induction bs generalizing n with
  | nil => rfl
  | cons x bs ih => simp [endsF, ih]
theorem frames_le (ps : List (Value × List UInt8)) (k : Nat) : (framesL ((kept ps k).map Prod.snd)).length ≤ 215 * (kept ps k).length := by
  have h : ∀ p ∈ kept ps k, (frameL p.2).length ≤ 215 := by
    intro p hp
    unfold kept at hp
    have := (List.mem_filter.1 hp).2
    simp only [counts, decide_eq_true_eq] at this
    have h2 := U_len p.2.length
    rw [frameL_length]
    omega
  generalize kept ps k = ks at h
  induction ks with
  | nil => simp [framesL]
  | cons x ks ih =>
    simp only [framesL, List.map_cons, List.flatten_cons, List.length_append, List.length_cons] at ih ⊢
    have h1 := h x (by simp)
    have h2 := ih (fun p hp => h p (by simp [hp]))
    omega

theorem results_tmp4 {fn : Func} {t u v x : Tmp} (h : fn.results = #[.tmp t, .tmp u, .tmp v, .tmp x]) (tmps : Array Value) (P : Program) (w : World) :
    (results fn tmps).run P w = .ok (.tuple #[tmps.getD t undef, tmps.getD u undef, tmps.getD v undef, tmps.getD x undef]) w := by
  simp [results, h]
/-- rows of unlike elements are unlike rows -/
theorem own_apart {w : World} {b1 b2 e1 e2 : Nat} {v1 v2 : Value} {n1 n2 : Nat} {x1 x2 : List Value} (h1 : w.ownsRow b1 e1 1 v1 n1 x1) (h2 : w.ownsRow b2 e2 1 v2 n2 x2) (he : e1 ≠ e2) : v1.ownBlock = none ∨ v1.ownBlock ≠ v2.ownBlock := by
  rcases h1.2 with ⟨rfl, -⟩ | ⟨g1, c1, cur1, rfl, -, hg1, -⟩
  · exact .inl rfl
  · right
    rcases h2.2 with ⟨rfl, -⟩ | ⟨g2, c2, cur2, rfl, -, hg2, -⟩
    · simp [Value.ownBlock]
    · intro e
      simp only [Value.ownBlock, Option.some.injEq] at e
      subst e
      rw [hg1] at hg2
      simp at hg2
      exact he hg2.2
theorem kept_no (ps : List (Value × List UInt8)) (k : Nat) (h : k < ps.length) (hc : ¬ (0 < ps[k].2.length ∧ ps[k].2.length ≤ 200)) : kept ps (k + 1) = kept ps k := by
  rw [kept_succ ps k h, if_neg (by simp only [counts, decide_eq_true_eq]; exact hc), List.append_nil]
theorem kept_yes (ps : List (Value × List UInt8)) (k : Nat) (h : k < ps.length) (hc : 0 < ps[k].2.length ∧ ps[k].2.length ≤ 200) : kept ps (k + 1) = kept ps k ++ [ps[k]] := by
  rw [kept_succ ps k h, if_pos (by simp only [counts, decide_eq_true_eq]; exact hc)]
theorem kept_end (ps : List (Value × List UInt8)) (k : Nat) (h : k ≤ 20) (hk : k = 20 ∨ ps.length ≤ k) : kept ps k = kept ps 20 := by
  rcases hk with rfl | hk
  · rfl
  · unfold kept
    rw [List.take_of_length_le hk, List.take_of_length_le (by omega)]
theorem putL_ok (out b : List UInt8) (h0 : 0 < b.length) (h1 : b.length ≤ 1048576) : putL out b = (out ++ frameL b, 0) := by
  unfold putL
  rw [if_neg (by omega), if_neg (by omega)]

set_option maxRecDepth 100000 in
set_option maxHeartbeats 1600000 in
theorem framed_any (v : Value) (ps : List (Value × List UInt8)) (w : World) (hrd : RdL w v ps) :
    Calls Try.prog 18 #[v] w fun e w' => ∃ vb vl ve, e = .returned (.tuple #[vb, vl, ve, .bool true]) ∧ Own w' w.heap.size vb (framesL ((kept ps 20).map Prod.snd)) ∧
      OwnV w' w.heap.size 22 vl ((kept ps 20).map Prod.fst) ∧ OwnV w' w.heap.size 3 ve (ints (endsF 0 ((kept ps 20).map Prod.snd))) ∧ Below w.heap.size w w' := by
  obtain ⟨i0, hi, hz0, hz1, hz2⟩ := info_parts Try.info22
  obtain ⟨i3, hi3, hz30, hz31, hz32⟩ := info_parts Try.info3
  obtain ⟨ao, cap, hv, h1, h2, h3, -⟩ := id hrd.1
  rw [List.length_map] at hv h1
  obtain ⟨n, HN⟩ := named ps.length
  rw [← HN.out] at hv h1
  subst hv
  unfold maxLen at h2
  have HRD : Hid _ := hrd
  clear hrd h3
  go_enter Try.func18, Try.ntmps18
  go_wp2
  go_loopw [6, 7, 8, 9] (fun bv lv ev iv wr => ∃ k : Nat, k ≤ n ∧ k ≤ 20 ∧ iv = .int .i64 k ∧ Own wr w.heap.size bv (framesL ((kept ps k).map Prod.snd)) ∧ OwnV wr w.heap.size 22 lv ((kept ps k).map Prod.fst) ∧ OwnV wr w.heap.size 3 ev (ints (endsF 0 ((kept ps k).map Prod.snd))) ∧ Below w.heap.size w wr) (fun _ _ _ iv _ => 20 - (intOf iv).toNat)
  case atStart => exact ⟨0, by omega, by omega, rfl, Own.nil _ _, OwnV.nil _ _ _, OwnV.nil _ _ _, Below.refl _ _⟩
  case round =>
    obtain ⟨k, hkn, hk20, rfl, hob, hol, hoe, hb⟩ := hrel
    by_cases hlt : k < n ∧ k < 20
    · obtain ⟨hlt, hlt20⟩ := hlt
      have hlt' : (k : Int) < n := by omega
      have hlt20' : (k : Int) < 20 := by omega
      have hkl : k < ps.length := by rw [← HN.out]; exact hlt
      obtain ⟨b0, off, c0, hv0, -, -, hb0, hcs⟩ := HRD.out.1.cells (by rw [List.length_map]; omega)
      rw [List.length_map, ← HN.out] at hv0
      cases hv0
      have hck := (hb.cell (p := ⟨b0, off + k, none⟩) hb0).trans (hcs k (by rw [List.length_map]; exact hkl))
      rw [List.getElem_map] at hck
      have hrk := (HRD.out.2 k hkl).below hb
      clear hcs
      have hno := kept_no ps k hkl
      have hyes := kept_yes ps k hkl
      obtain ⟨p, HP⟩ := named (ps[k]'hkl)
      rw [← HP.out] at hck hrk hno hyes
      obtain ⟨pv, pl⟩ := p
      simp only at hck hrk hno hyes
      obtain ⟨a1, c1, hpv, hpc, hpm, -⟩ := id hrk
      obtain ⟨m, HM⟩ := named pl.length
      rw [← HM.out] at hpv hno hyes hpc
      subst hpv
      have HNO : Hid _ := hno
      have HYES : Hid _ := hyes
      clear hno hyes HP
      by_cases hc : 0 < m ∧ m ≤ 200
      · have hc0 : ((m : Int) == 0) = false := by simp only [beq_eq_false_iff_ne]; omega
        have hc1 : ¬ (200 : Int) < m := by omega
        have HK : Hid _ := HYES.out hc
        have hkl2 := kept_len ps k
        have hfle := frames_le ps k
        have hput := put_any u6 _ (framesL ((kept ps k).map Prod.snd)) pl wr hob.rd hrk (by omega)
        rw [putL_ok _ pl (by rw [← HM.out]; omega) (by rw [← HM.out]; omega)] at hput
        have hsn := framesL_snoc ((kept ps k).map Prod.snd) pl
        have hen := endsF_snoc 0 ((kept ps k).map Prod.snd) pl
        have hfm : ((kept ps k ++ [(Value.slice a1 m c1, pl)]).map Prod.fst) = (kept ps k).map Prod.fst ++ [Value.slice a1 m c1] := by simp
        have hsm : ((kept ps k ++ [(Value.slice a1 m c1, pl)]).map Prod.snd) = (kept ps k).map Prod.snd ++ [pl] := by simp
        have hlV : ((kept ps k).map Prod.fst).length ≤ 1000000 := by rw [List.length_map]; omega
        have hlE : (ints (endsF 0 ((kept ps k).map Prod.snd))).length ≤ 1000000 := by rw [ints, List.length_map, endsF_len, List.length_map]; omega
        have hflen : (framesL ((kept ps k).map Prod.snd) ++ frameL pl).length ≤ 5000 := by
          have := U_len pl.length
          rw [List.length_append, frameL_length, ← HM.out] at *
          omega
        have hint : ints (endsF 0 ((kept ps k).map Prod.snd) ++ [0 + (framesL ((kept ps k).map Prod.snd)).length + (frameL pl).length]) = ints (endsF 0 ((kept ps k).map Prod.snd)) ++ [.int .i64 (((framesL ((kept ps k).map Prod.snd) ++ frameL pl).length : Nat) : Int)] := by
          rw [ints, List.map_append, ← ints, List.map_cons, List.map_nil, Nat.zero_add, List.length_append]
        obtain ⟨FK, HFK⟩ := named (framesL ((kept ps k).map Prod.snd) ++ frameL pl)
        rw [← HFK.out] at hput hsn hint hflen
        rw [← hen] at hint
        rw [← hsm] at hsn hint
        have HSN : Hid _ := hsn
        have HIN : Hid _ := hint
        have HFM : Hid _ := hfm
        simp only at hput
        obtain ⟨fl, HFL⟩ := named FK.length
        rw [← HFL.out] at hflen HIN
        clear hsn hint hen hfm hsm hfle hkl2 hrk
        have hsz := hb.size
        go_wp2_with fail
        refine hput.mono ?_
        rintro e w2 ⟨v2, rfl, hown2, hb2⟩
        clear hput
        have hob2 : Own w2 w.heap.size v2 FK := hown2.mono hsz
        have hol2 := hol.below hb2
        have hoe2 := hoe.below hb2
        have hB2 := below_call hb hb2
        have hck2 := (hb2.cell (p := ⟨b0, off + k, none⟩) (by show b0 < _; omega)).trans hck
        obtain ⟨a2, c2, hv2, -⟩ := id hown2.rd
        rw [← HFL.out] at hv2
        subst hv2
        have hs2 := hB2.size
        clear hown2 hob hol hoe hb2 hb hck
        obtain ⟨lv', w3, hr3, ho3, hg3⟩ := run_append_v (P := Try.prog) (w2.alloc (.cells #[.slice a1 m c1] 22)) 33 33 22 i0 (.slice none 0 0) 24 Try.underlying33 hi hz0 hz1 hz2 rfl (by omega) w.heap.size u7 (.slice a1 m c1) ⟨w2.heap.size, 0, none⟩ 1 _ rfl (by simp) (hol2.alloc _) hlV (by simp; omega)
        have hb3 : Below w.heap.size w w3 := (hB2.alloc hs2 _).grown hg3 (by simp; omega) (fun k hk => (World.ownsRow.lt hol2 k hk).1)
        have hoeA := hoe2.alloc (.cells #[.slice a1 m c1] 22)
        have holA := hol2.alloc (.cells #[.slice a1 m c1] 22)
        have hobA := hob2.alloc (.cells #[.slice a1 m c1] 22)
        have hoe3 : OwnV w3 w.heap.size 3 u8 _ := World.ownsRow.kept hoeA hg3 (own_apart hoeA holA (by decide))
        have hob3 : Own w3 w.heap.size (.slice a2 fl c2) FK := World.ownsRow.kept hobA hg3 (own_apart hobA holA (by decide))
        have hs3 := hb3.size
        obtain ⟨ev', w4, hr4, ho4, hg4⟩ := run_append_v (P := Try.prog) (w3.alloc (.cells #[.int .i64 (fl : Int)] 3)) 35 35 3 i3 (.int .i64 0) 8 Try.underlying35 hi3 hz30 hz31 hz32 rfl (by omega) w.heap.size u8 (.int .i64 (fl : Int)) ⟨w3.heap.size, 0, none⟩ 1 _ rfl (by simp) (hoe3.alloc _) hlE (by simp; omega)
        have hb4 : Below w.heap.size w w4 := (hb3.alloc hs3 _).grown hg4 (by simp; omega) (fun k hk => (World.ownsRow.lt hoe3 k hk).1)
        have holB := OwnV.alloc ho3 (.cells #[.int .i64 (fl : Int)] 3)
        have hoeB := hoe3.alloc (.cells #[.int .i64 (fl : Int)] 3)
        have hobB := hob3.alloc (.cells #[.int .i64 (fl : Int)] 3)
        have hol4 : OwnV w4 w.heap.size 22 lv' _ := World.ownsRow.kept holB hg4 (own_apart holB hoeB (by decide))
        have hob4 : Own w4 w.heap.size (.slice a2 fl c2) FK := World.ownsRow.kept hobB hg4 (own_apart hobB hoeB (by decide))
        have HO4 : Hid _ := ho4
        have HOL4 : Hid _ := hol4
        have HOB4 : Hid _ := hob4
        clear hg3 hg4 ho3 ho4 hol4 hob4 hob3 hoe3 hob2 hol2 hoe2 hoeA holA hobA holB hoeB hobB
        go_wp2_with (at_builtin; first | (refine Lib.wpList_append_run _ rfl (.tmp 46) (.tmp 51) 33 33 rfl _ _ rfl rfl _ _ hr3 ?_) | (refine Lib.wpList_append_run _ rfl (.tmp 53) (.tmp 56) 35 35 rfl _ _ rfl rfl _ _ hr4 ?_))
        refine ⟨⟨k + 1, by omega, by omega, by go_num, ?_, ?_, ?_, hb4⟩, by simp [intOf]; omega⟩
        · rw [HK.out, HSN.out]; exact HOB4.out
        · rw [HK.out, HFM.out]; exact HOL4.out
        · rw [HK.out, HIN.out]; exact HO4.out
      · have HK : Hid _ := HNO.out hc
        rcases Nat.eq_zero_or_pos m with hm | hm
        · have hc0 : ((m : Int) == 0) = true := by simp only [beq_iff_eq]; omega
          go_wp2
          go_roundw
          case rel => exact ⟨k + 1, by omega, by omega, by go_num, by rw [HK.out]; exact hob, by rw [HK.out]; exact hol, by rw [HK.out]; exact hoe, hb⟩
          case measure => simp [intOf]; omega
        · have hc0 : ((m : Int) == 0) = false := by simp only [beq_eq_false_iff_ne]; omega
          have hc1 : (200 : Int) < m := by omega
          go_wp2
          go_roundw
          case rel => exact ⟨k + 1, by omega, by omega, by go_num, by rw [HK.out]; exact hob, by rw [HK.out]; exact hol, by rw [HK.out]; exact hoe, hb⟩
          case measure => simp [intOf]; omega
    · have HE : Hid _ := kept_end ps k hk20 (by rw [← HN.out]; omega)
      have hcond : ¬ ((k : Int) < n) ∨ ((k : Int) < n ∧ ¬ ((k : Int) < 20)) := by omega
      rcases hcond with hc | ⟨hc, hc2⟩
      all_goals
        go_wp2
        try simp only [Exit.inBlock, Exit.then]
        refine bodyPost_ret (results_tmp4 rfl _ _ _) rfl ?_
        exact ⟨_, _, _, rfl, by rw [← HE.out]; exact hob, by rw [← HE.out]; exact hol, by rw [← HE.out]; exact hoe, hb⟩
end Go.Proofs.Ytlpjfcfajagobaa
