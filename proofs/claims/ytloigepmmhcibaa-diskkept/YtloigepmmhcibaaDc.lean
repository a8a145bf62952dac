/-
  The contracts of the place, find, look, Size, Synced. Own work.
-/
import Derived.Test.YtloigepmmhcibaaDb
namespace Go.Proofs.Ytloigepmmhcibaa
open Go.RowKit

set_option maxRecDepth 100000 in
set_option maxHeartbeats 400000 in
theorem place_any {w : World} {bd bs bc : Nat} {fv : Value} {ps : List (AF × Value)} {most : Nat} {fuse : Int} {dark : Bool} (h : St w bd bs bc fv ps most fuse dark) (hs : sorted (ps.map Prod.fst)) (hmax : ps.length ≤ 1000) (n : ByteArray) :
    Calls Try.prog 40 #[.string n, .pointer (some ⟨bc, 0, none⟩)] w fun e w' => e = .returned (.tuple #[.int .i64 (posF (ps.map Prod.fst) n), .bool (isF (ps.map Prod.fst) n)]) ∧ Below w.heap.size w w' := by
  have c0 := h.c0
  have s0 := h.s0
  have hfr := fr_of h.hf
  clear h
  go_enter Try.func40, Try.ntmps40
  go_wp2_with fail
  refine (bsearch_any fv ps n w hfr hs hmax).mono ?_
  rintro e w' ⟨rfl, hb⟩
  clear hs hfr
  go_wp2
  go_ret2
  exact ⟨rfl, hb⟩

set_option maxRecDepth 100000 in
set_option maxHeartbeats 400000 in
theorem find_any {w : World} {bd bs bc : Nat} {fv : Value} {ps : List (AF × Value)} {most : Nat} {fuse : Int} {dark : Bool} (h : St w bd bs bc fv ps most fuse dark) (hs : sorted (ps.map Prod.fst)) (hmax : ps.length ≤ 1000) (n : ByteArray) :
    Calls Try.prog 55 #[.pointer (some ⟨bd, 0, none⟩), .string n] w fun e w' => e = .returned (if dark then .tuple #[.int .i64 0, .int .i64 15] else if isF (ps.map Prod.fst) n then .tuple #[.int .i64 (posF (ps.map Prod.fst) n), .int .i64 0] else .tuple #[.int .i64 0, .int .i64 16]) ∧ Below w.heap.size w w' := by
  have d0 := h.d0
  have s1 := h.s1
  have s4 := h.s4
  have HP : Hid _ := place_any h hs hmax n
  clear h hs
  obtain ⟨fs, HF⟩ := named (ps.map Prod.fst)
  rw [← HF.out] at HP ⊢
  go_enter Try.func55, Try.ntmps55
  go_wp2_with fail
  refine (fails_cell w bd bs dark d0 s4).mono ?_
  rintro e w1 ⟨rfl, hw1⟩
  subst hw1
  cases dark
  · go_wp2_with fail
    refine Calls.mono HP.out ?_
    rintro e w2 ⟨rfl, hb⟩
    cases hi : isF fs n
    all_goals
      go_wp2
      go_ret2
      exact ⟨rfl, hb⟩
  · go_wp2
    go_ret2
    exact ⟨rfl, Below.refl _ _⟩

theorem lookF_at {fs : List AF} {n : ByteArray} (h : isF fs n = true) (hl : posF fs n < fs.length) : lookF fs n = fs[posF fs n] := by
  unfold lookF
  rw [if_pos h, List.getD_eq_getElem?_getD, List.getElem?_eq_getElem hl]
  rfl

set_option maxRecDepth 100000 in
set_option maxHeartbeats 400000 in
/-- look, where the file's slice is told by its length alone -/
theorem look_any {w : World} {bd bs bc : Nat} {fv : Value} {ps : List (AF × Value)} {most : Nat} {fuse : Int} {dark : Bool} (h : St w bd bs bc fv ps most fuse dark) (hs : sorted (ps.map Prod.fst)) (hmax : ps.length ≤ 1000) (n : ByteArray) :
    Calls Try.prog 62 #[.pointer (some ⟨bd, 0, none⟩), .string n] w fun e w' => (∃ (s : ByteArray) (ao : Option Addr) (cap : Nat), e = .returned (.agg #[.string s, .slice ao (lookF (ps.map Prod.fst) n).bytes.length cap, .int .i64 (lookF (ps.map Prod.fst) n).safe])) ∧ Below w.heap.size w w' := by
  have d0 := h.d0
  have s0 := h.s0
  have s1 := h.s1
  have hltd := h.ltd
  have hlts := h.lts
  have HST : Hid _ := h
  have HS : Hid _ := hs
  have HX : Hid _ := hmax
  clear h hs hmax
  obtain ⟨fs, HF⟩ := named (ps.map Prod.fst)
  have hlen : ps.length = fs.length := by rw [HF.out]; simp
  rw [← HF.out]
  obtain ⟨f, HL⟩ := named (lookF fs n)
  rw [← HL.out]
  go_enter Try.func62, Try.ntmps62
  go_wp2_with fail
  refine (made_cell _ bd bs (HST.out.below ((Below.refl _ _).alloc (Nat.le_refl _) _)).d0).mono ?_
  rintro e w1 ⟨rfl, rfl⟩
  go_wp2_with fail
  refine (place_any (HST.out.below ((Below.refl _ _).alloc (Nat.le_refl _) _)) HS.out HX.out n).mono ?_
  rintro e w2 ⟨rfl, hb⟩
  rw [← HF.out]
  have hb0 := ((Below.refl w.heap.size w).alloc (Nat.le_refl _) (.cells #[.string ⟨#[]⟩, .slice none 0 0, .int .i64 0] 83)).trans (hb.mono (by simp))
  have HST2 : Hid _ := HST.out.below hb0
  have d2 := HST2.out.d0
  have s2 := HST2.out.s0
  have hz := hb.size
  have hcl : ∀ i, w2.cell? ⟨w.heap.size, i, none⟩ = (w.alloc (.cells #[.string ⟨#[]⟩, .slice none 0 0, .int .i64 0] 83)).cell? ⟨w.heap.size, i, none⟩ := fun i => hb.cell (p := ⟨w.heap.size, i, none⟩) (by simp)
  have hfz : ∀ i, w2.frozen? ⟨w.heap.size, i, none⟩ = (w.alloc (.cells #[.string ⟨#[]⟩, .slice none 0 0, .int .i64 0] 83)).frozen? ⟨w.heap.size, i, none⟩ := fun i => hb.frozen (p := ⟨w.heap.size, i, none⟩) (by simp)
  have hzz : w.heap.size < w2.heap.size := by simp at hz; omega
  clear hb d0 s0 s1
  cases hi : isF fs n
  · have HL2 : Hid (f = ⟨⟨#[]⟩, [], 0⟩) := by
      rw [HL.out]; unfold lookF; rw [if_neg (by rw [hi]; simp)]; rfl
    go_wp2
    refine bodyPost_ret (v := .agg #[.string ⟨#[]⟩, .slice none 0 0, .int .i64 0]) (by simp [results, Try.results62, go_sem, hcl]) rfl ⟨⟨_, none, 0, by rw [HL2.out]; rfl⟩, ?_⟩
    exact ((hb0.setCell (Nat.le_refl _) _).setCell (Nat.le_refl _) _).setCell (Nat.le_refl _) _
  · obtain ⟨hl, hname⟩ := isF_lt hi
    clear hname
    have HL2 : Hid _ := lookF_at hi hl
    rcases fr_of HST2.out.hf with ⟨rfl, hnil⟩ | ⟨bf, cap, rfl, hbl, hn, hm, hc⟩
    · rw [hnil] at hlen; simp at hlen; omega
    · obtain ⟨c0, c1, c2⟩ := hc (posF fs n) (by omega)
      have e : ps[posF fs n].1 = f := by rw [HL.out, HL2.out]; simp only [HF.out, List.getElem_map]
      have HOW : Hid _ := HST2.out.hb _ (List.getElem_mem (show posF fs n < ps.length by omega))
      rw [e] at c0 c2 HOW
      obtain ⟨ao, cp, hsv, -⟩ := Own.rd HOW.out
      rw [hsv] at c1
      clear hc e HOW hsv
      obtain ⟨k, HK⟩ := named (posF fs n)
      rw [← HK.out] at c0 c1 c2 ⊢
      rw [← HK.out] at hl
      rw [hlen] at hn s2
      unfold maxLen at hm
      obtain ⟨m, HM⟩ := named fs.length
      rw [← HM.out] at hl hn s2
      go_wp2
      refine bodyPost_ret (v := .agg #[.string f.name, .slice ao f.bytes.length cp, .int .i64 f.safe]) (by simp [results, Try.results62, go_sem, hcl]) rfl ⟨⟨_, ao, cp, rfl⟩, ?_⟩
      exact ((hb0.setCell (Nat.le_refl _) _).setCell (Nat.le_refl _) _).setCell (Nat.le_refl _) _

theorem run_field1 (s x y : Value) (w : World) : (Instr.field 83 (.agg #[s, x, y]) 1).run Try.prog w = .ok x w := by kernel_rfl
theorem run_field2 (s x y : Value) (w : World) : (Instr.field 83 (.agg #[s, x, y]) 2).run Try.prog w = .ok y w := by kernel_rfl

set_option maxRecDepth 100000 in
set_option maxHeartbeats 400000 in
theorem size_st {w : World} {bd bs bc : Nat} {fv : Value} {ps : List (AF × Value)} {most : Nat} {fuse : Int} {dark : Bool} (h : St w bd bs bc fv ps most fuse dark) (hs : sorted (ps.map Prod.fst)) (hmax : ps.length ≤ 1000) (n : ByteArray) :
    Calls Try.prog 24 #[.pointer (some ⟨bd, 0, none⟩), .string n] w fun e w' => e = .returned (.int .i64 (lookF (ps.map Prod.fst) n).bytes.length) ∧ Below w.heap.size w w' := by
  have HC : Hid _ := look_any h hs hmax n
  clear h hs hmax
  go_enter Try.func24, Try.ntmps24
  go_wp2_with fail
  refine Calls.mono HC.out ?_
  rintro e w1 ⟨⟨s, ao, cp, rfl⟩, hb⟩
  have hf := run_field1 (.string s) (.slice ao (lookF (ps.map Prod.fst) n).bytes.length cp) (.int .i64 (lookF (ps.map Prod.fst) n).safe) w1
  go_wp2
  go_ret
  exact ⟨rfl, hb⟩
set_option maxRecDepth 100000 in
set_option maxHeartbeats 400000 in
theorem synced_st {w : World} {bd bs bc : Nat} {fv : Value} {ps : List (AF × Value)} {most : Nat} {fuse : Int} {dark : Bool} (h : St w bd bs bc fv ps most fuse dark) (hs : sorted (ps.map Prod.fst)) (hmax : ps.length ≤ 1000) (n : ByteArray) :
    Calls Try.prog 34 #[.pointer (some ⟨bd, 0, none⟩), .string n] w fun e w' => e = .returned (.int .i64 (lookF (ps.map Prod.fst) n).safe) ∧ Below w.heap.size w w' := by
  have HC : Hid _ := look_any h hs hmax n
  clear h hs hmax
  go_enter Try.func34, Try.ntmps34
  go_wp2_with fail
  refine Calls.mono HC.out ?_
  rintro e w1 ⟨⟨s, ao, cp, rfl⟩, hb⟩
  have hf := run_field2 (.string s) (.slice ao (lookF (ps.map Prod.fst) n).bytes.length cp) (.int .i64 (lookF (ps.map Prod.fst) n).safe) w1
  go_wp2
  go_ret
  exact ⟨rfl, hb⟩
end Go.Proofs.Ytloigepmmhcibaa
