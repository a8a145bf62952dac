/-
  The contract of do, for each deed. Own work.
-/
import Derived.Test.YtloigepmmhcibaaDj
namespace Go.Proofs.Ytloigepmmhcibaa
open Go.RowKit

/-- what a deed has done: the files are those, in memory of the disk's or new -/
def Did (w w' : World) (bd bs bc : Nat) (fv : Value) (ps : List (AF × Value)) (most : Nat) (fuse : Int) (dark : Bool) (fs' : List AF) : Prop :=
  ∃ fv' ps', St w' bd bs bc fv' ps' most fuse dark ∧ ps'.map Prod.fst = fs' ∧ (∀ b, Blk bd bs bc fv' ps' b → Blk bd bs bc fv ps b ∨ w.heap.size ≤ b) ∧ Chg (Blk bd bs bc fv ps) w w'
/-- how do ends -/
def Done (e : Ending) (w w' : World) (bd bs bc : Nat) (fv : Value) (ps : List (AF × Value)) (most : Nat) (fuse : Int) (dark : Bool) (fs' : List AF) : Prop :=
  (fuse = 0 ∧ e = .returned (.int .i64 15) ∧ Did w w' bd bs bc fv ps most (-1) true (ps.map Prod.fst)) ∨
  (fuse ≠ 0 ∧ e = .returned (.int .i64 0) ∧ Did w w' bd bs bc fv ps most (if 0 < fuse then fuse - 1 else fuse) dark fs')

theorem Did.of {w w1 w' : World} {bd bs bc : Nat} {fv : Value} {ps : List (AF × Value)} {most : Nat} {fuse : Int} {dark : Bool} {fs' : List AF} (h : Did w1 w' bd bs bc fv ps most fuse dark fs') (hc : Chg (Blk bd bs bc fv ps) w w1) : Did w w' bd bs bc fv ps most fuse dark fs' := by
  obtain ⟨fv', ps', h1, h2, h3, h4⟩ := h
  exact ⟨fv', ps', h1, h2, fun b hb => (h3 b hb).imp id (fun h => Nat.le_trans hc.size h), hc.trans h4 (fun _ _ h => h)⟩

set_option maxRecDepth 100000 in
set_option maxHeartbeats 1000000 in
theorem do_52 {w : World} {bd bs bc : Nat} {fv : Value} {ps : List (AF × Value)} {most : Nat} {fuse : Int} {dark : Bool} (h : St w bd bs bc fv ps most fuse dark) (hf : -1 ≤ fuse ∧ fuse ≤ 9223372036854775807) (c0 c1 c2 c3 c4 : Nat) (fs' : List AF)
    (hcall : ∀ w1 fz, St w1 bd bs bc fv ps most fz dark → (∀ k, k ≠ bs → w1.heap[k]? = w.heap[k]?) → Calls Try.prog 52 #[.pointer (some ⟨c0, 0, none⟩), .pointer (some ⟨c1, 0, none⟩), .pointer (some ⟨c2, 0, none⟩), .pointer (some ⟨c3, 0, none⟩), .pointer (some ⟨c4, 0, none⟩)] w1 fun e w' => e = .returned (.tuple #[]) ∧ Did w1 w' bd bs bc fv ps most fz dark fs') :
    Calls Try.prog 51 #[.pointer (some ⟨bs, 0, none⟩), .func (.func 52) #[] #[.pointer (some ⟨c0, 0, none⟩), .pointer (some ⟨c1, 0, none⟩), .pointer (some ⟨c2, 0, none⟩), .pointer (some ⟨c3, 0, none⟩), .pointer (some ⟨c4, 0, none⟩)]] w fun e w' => Done e w w' bd bs bc fv ps most fuse dark fs' := by
  have s3 := h.s3
  have s4 := h.s4
  have z3 := h.sz 3
  have z4 := h.sz 4
  have hlts := h.lts
  have HST : Hid _ := h
  have HC : Hid _ := hcall
  obtain ⟨hf1, hf2⟩ := hf
  clear h hcall
  by_cases h0 : fuse = 0
  · subst h0
    go_enter Try.func51, Try.ntmps51
    go_wp2
    go_ret
    refine .inl ⟨rfl, rfl, fv, ps, (HST.out.setDark true).setFuse (-1), rfl, fun b hb => .inl hb, ?_⟩
    exact ((Chg.refl _ w).setCell (p := ⟨bs, 4, none⟩) (.inl (.inr (.inl rfl))) _).setCell (p := ⟨bs, 3, none⟩) (.inl (.inr (.inl rfl))) _
  · have h0b : (fuse == 0) = false := by simpa using h0
    by_cases h1 : 0 < fuse
    · go_enter Try.func51, Try.ntmps51
      go_wp2_with fail
      refine Calls.mono (HC.out _ _ (HST.out.setFuse (fuse - 1)) (fun k hk => Below.heap_setCell _ _ _ _ hk)) ?_
      rintro e w1 ⟨rfl, hd⟩
      have HD : Hid _ := hd
      clear hd
      go_wp2
      go_ret
      refine .inr ⟨h0, rfl, ?_⟩
      rw [if_pos h1]
      exact Did.of HD.out ((Chg.refl _ w).setCell (p := ⟨bs, 3, none⟩) (.inl (.inr (.inl rfl))) _)
    · go_enter Try.func51, Try.ntmps51
      go_wp2_with fail
      refine Calls.mono (HC.out _ _ HST.out (fun _ _ => rfl)) ?_
      rintro e w1 ⟨rfl, hd⟩
      have HD : Hid _ := hd
      clear hd
      go_wp2
      go_ret
      refine .inr ⟨h0, rfl, ?_⟩
      rw [if_neg (by omega)]
      exact HD.out

set_option maxRecDepth 100000 in
set_option maxHeartbeats 1000000 in
theorem do_60 {w : World} {bd bs bc : Nat} {fv : Value} {ps : List (AF × Value)} {most : Nat} {fuse : Int} {dark : Bool} (h : St w bd bs bc fv ps most fuse dark) (hf : -1 ≤ fuse ∧ fuse ≤ 9223372036854775807) (c0 c1 : Nat) (fs' : List AF)
    (hcall : ∀ w1 fz, St w1 bd bs bc fv ps most fz dark → (∀ k, k ≠ bs → w1.heap[k]? = w.heap[k]?) → Calls Try.prog 60 #[.pointer (some ⟨c0, 0, none⟩), .pointer (some ⟨c1, 0, none⟩)] w1 fun e w' => e = .returned (.tuple #[]) ∧ Did w1 w' bd bs bc fv ps most fz dark fs') :
    Calls Try.prog 51 #[.pointer (some ⟨bs, 0, none⟩), .func (.func 60) #[] #[.pointer (some ⟨c0, 0, none⟩), .pointer (some ⟨c1, 0, none⟩)]] w fun e w' => Done e w w' bd bs bc fv ps most fuse dark fs' := by
  have s3 := h.s3
  have s4 := h.s4
  have z3 := h.sz 3
  have z4 := h.sz 4
  have hlts := h.lts
  have HST : Hid _ := h
  have HC : Hid _ := hcall
  obtain ⟨hf1, hf2⟩ := hf
  clear h hcall
  by_cases h0 : fuse = 0
  · subst h0
    go_enter Try.func51, Try.ntmps51
    go_wp2
    go_ret
    refine .inl ⟨rfl, rfl, fv, ps, (HST.out.setDark true).setFuse (-1), rfl, fun b hb => .inl hb, ?_⟩
    exact ((Chg.refl _ w).setCell (p := ⟨bs, 4, none⟩) (.inl (.inr (.inl rfl))) _).setCell (p := ⟨bs, 3, none⟩) (.inl (.inr (.inl rfl))) _
  · have h0b : (fuse == 0) = false := by simpa using h0
    by_cases h1 : 0 < fuse
    · go_enter Try.func51, Try.ntmps51
      go_wp2_with fail
      refine Calls.mono (HC.out _ _ (HST.out.setFuse (fuse - 1)) (fun k hk => Below.heap_setCell _ _ _ _ hk)) ?_
      rintro e w1 ⟨rfl, hd⟩
      have HD : Hid _ := hd
      clear hd
      go_wp2
      go_ret
      refine .inr ⟨h0, rfl, ?_⟩
      rw [if_pos h1]
      exact Did.of HD.out ((Chg.refl _ w).setCell (p := ⟨bs, 3, none⟩) (.inl (.inr (.inl rfl))) _)
    · go_enter Try.func51, Try.ntmps51
      go_wp2_with fail
      refine Calls.mono (HC.out _ _ HST.out (fun _ _ => rfl)) ?_
      rintro e w1 ⟨rfl, hd⟩
      have HD : Hid _ := hd
      clear hd
      go_wp2
      go_ret
      refine .inr ⟨h0, rfl, ?_⟩
      rw [if_neg (by omega)]
      exact HD.out

set_option maxRecDepth 100000 in
set_option maxHeartbeats 1000000 in
theorem do_56 {w : World} {bd bs bc : Nat} {fv : Value} {ps : List (AF × Value)} {most : Nat} {fuse : Int} {dark : Bool} (h : St w bd bs bc fv ps most fuse dark) (hf : -1 ≤ fuse ∧ fuse ≤ 9223372036854775807) (c0 c1 c2 : Nat) (fs' : List AF)
    (hcall : ∀ w1 fz, St w1 bd bs bc fv ps most fz dark → (∀ k, k ≠ bs → w1.heap[k]? = w.heap[k]?) → Calls Try.prog 56 #[.pointer (some ⟨c0, 0, none⟩), .pointer (some ⟨c1, 0, none⟩), .pointer (some ⟨c2, 0, none⟩)] w1 fun e w' => e = .returned (.tuple #[]) ∧ Did w1 w' bd bs bc fv ps most fz dark fs') :
    Calls Try.prog 51 #[.pointer (some ⟨bs, 0, none⟩), .func (.func 56) #[] #[.pointer (some ⟨c0, 0, none⟩), .pointer (some ⟨c1, 0, none⟩), .pointer (some ⟨c2, 0, none⟩)]] w fun e w' => Done e w w' bd bs bc fv ps most fuse dark fs' := by
  have s3 := h.s3
  have s4 := h.s4
  have z3 := h.sz 3
  have z4 := h.sz 4
  have hlts := h.lts
  have HST : Hid _ := h
  have HC : Hid _ := hcall
  obtain ⟨hf1, hf2⟩ := hf
  clear h hcall
  by_cases h0 : fuse = 0
  · subst h0
    go_enter Try.func51, Try.ntmps51
    go_wp2
    go_ret
    refine .inl ⟨rfl, rfl, fv, ps, (HST.out.setDark true).setFuse (-1), rfl, fun b hb => .inl hb, ?_⟩
    exact ((Chg.refl _ w).setCell (p := ⟨bs, 4, none⟩) (.inl (.inr (.inl rfl))) _).setCell (p := ⟨bs, 3, none⟩) (.inl (.inr (.inl rfl))) _
  · have h0b : (fuse == 0) = false := by simpa using h0
    by_cases h1 : 0 < fuse
    · go_enter Try.func51, Try.ntmps51
      go_wp2_with fail
      refine Calls.mono (HC.out _ _ (HST.out.setFuse (fuse - 1)) (fun k hk => Below.heap_setCell _ _ _ _ hk)) ?_
      rintro e w1 ⟨rfl, hd⟩
      have HD : Hid _ := hd
      clear hd
      go_wp2
      go_ret
      refine .inr ⟨h0, rfl, ?_⟩
      rw [if_pos h1]
      exact Did.of HD.out ((Chg.refl _ w).setCell (p := ⟨bs, 3, none⟩) (.inl (.inr (.inl rfl))) _)
    · go_enter Try.func51, Try.ntmps51
      go_wp2_with fail
      refine Calls.mono (HC.out _ _ HST.out (fun _ _ => rfl)) ?_
      rintro e w1 ⟨rfl, hd⟩
      have HD : Hid _ := hd
      clear hd
      go_wp2
      go_ret
      refine .inr ⟨h0, rfl, ?_⟩
      rw [if_neg (by omega)]
      exact HD.out

set_option maxRecDepth 100000 in
set_option maxHeartbeats 1000000 in
theorem do_61 {w : World} {bd bs bc : Nat} {fv : Value} {ps : List (AF × Value)} {most : Nat} {fuse : Int} {dark : Bool} (h : St w bd bs bc fv ps most fuse dark) (hf : -1 ≤ fuse ∧ fuse ≤ 9223372036854775807) (c0 c1 : Nat) (fs' : List AF)
    (hcall : ∀ w1 fz, St w1 bd bs bc fv ps most fz dark → (∀ k, k ≠ bs → w1.heap[k]? = w.heap[k]?) → Calls Try.prog 61 #[.pointer (some ⟨c0, 0, none⟩), .pointer (some ⟨c1, 0, none⟩)] w1 fun e w' => e = .returned (.tuple #[]) ∧ Did w1 w' bd bs bc fv ps most fz dark fs') :
    Calls Try.prog 51 #[.pointer (some ⟨bs, 0, none⟩), .func (.func 61) #[] #[.pointer (some ⟨c0, 0, none⟩), .pointer (some ⟨c1, 0, none⟩)]] w fun e w' => Done e w w' bd bs bc fv ps most fuse dark fs' := by
  have s3 := h.s3
  have s4 := h.s4
  have z3 := h.sz 3
  have z4 := h.sz 4
  have hlts := h.lts
  have HST : Hid _ := h
  have HC : Hid _ := hcall
  obtain ⟨hf1, hf2⟩ := hf
  clear h hcall
  by_cases h0 : fuse = 0
  · subst h0
    go_enter Try.func51, Try.ntmps51
    go_wp2
    go_ret
    refine .inl ⟨rfl, rfl, fv, ps, (HST.out.setDark true).setFuse (-1), rfl, fun b hb => .inl hb, ?_⟩
    exact ((Chg.refl _ w).setCell (p := ⟨bs, 4, none⟩) (.inl (.inr (.inl rfl))) _).setCell (p := ⟨bs, 3, none⟩) (.inl (.inr (.inl rfl))) _
  · have h0b : (fuse == 0) = false := by simpa using h0
    by_cases h1 : 0 < fuse
    · go_enter Try.func51, Try.ntmps51
      go_wp2_with fail
      refine Calls.mono (HC.out _ _ (HST.out.setFuse (fuse - 1)) (fun k hk => Below.heap_setCell _ _ _ _ hk)) ?_
      rintro e w1 ⟨rfl, hd⟩
      have HD : Hid _ := hd
      clear hd
      go_wp2
      go_ret
      refine .inr ⟨h0, rfl, ?_⟩
      rw [if_pos h1]
      exact Did.of HD.out ((Chg.refl _ w).setCell (p := ⟨bs, 3, none⟩) (.inl (.inr (.inl rfl))) _)
    · go_enter Try.func51, Try.ntmps51
      go_wp2_with fail
      refine Calls.mono (HC.out _ _ HST.out (fun _ _ => rfl)) ?_
      rintro e w1 ⟨rfl, hd⟩
      have HD : Hid _ := hd
      clear hd
      go_wp2
      go_ret
      refine .inr ⟨h0, rfl, ?_⟩
      rw [if_neg (by omega)]
      exact HD.out

set_option maxRecDepth 100000 in
set_option maxHeartbeats 1000000 in
theorem do_58 {w : World} {bd bs bc : Nat} {fv : Value} {ps : List (AF × Value)} {most : Nat} {fuse : Int} {dark : Bool} (h : St w bd bs bc fv ps most fuse dark) (hf : -1 ≤ fuse ∧ fuse ≤ 9223372036854775807) (c0 c1 c2 : Nat) (fs' : List AF)
    (hcall : ∀ w1 fz, St w1 bd bs bc fv ps most fz dark → (∀ k, k ≠ bs → w1.heap[k]? = w.heap[k]?) → Calls Try.prog 58 #[.pointer (some ⟨c0, 0, none⟩), .pointer (some ⟨c1, 0, none⟩), .pointer (some ⟨c2, 0, none⟩)] w1 fun e w' => e = .returned (.tuple #[]) ∧ Did w1 w' bd bs bc fv ps most fz dark fs') :
    Calls Try.prog 51 #[.pointer (some ⟨bs, 0, none⟩), .func (.func 58) #[] #[.pointer (some ⟨c0, 0, none⟩), .pointer (some ⟨c1, 0, none⟩), .pointer (some ⟨c2, 0, none⟩)]] w fun e w' => Done e w w' bd bs bc fv ps most fuse dark fs' := by
  have s3 := h.s3
  have s4 := h.s4
  have z3 := h.sz 3
  have z4 := h.sz 4
  have hlts := h.lts
  have HST : Hid _ := h
  have HC : Hid _ := hcall
  obtain ⟨hf1, hf2⟩ := hf
  clear h hcall
  by_cases h0 : fuse = 0
  · subst h0
    go_enter Try.func51, Try.ntmps51
    go_wp2
    go_ret
    refine .inl ⟨rfl, rfl, fv, ps, (HST.out.setDark true).setFuse (-1), rfl, fun b hb => .inl hb, ?_⟩
    exact ((Chg.refl _ w).setCell (p := ⟨bs, 4, none⟩) (.inl (.inr (.inl rfl))) _).setCell (p := ⟨bs, 3, none⟩) (.inl (.inr (.inl rfl))) _
  · have h0b : (fuse == 0) = false := by simpa using h0
    by_cases h1 : 0 < fuse
    · go_enter Try.func51, Try.ntmps51
      go_wp2_with fail
      refine Calls.mono (HC.out _ _ (HST.out.setFuse (fuse - 1)) (fun k hk => Below.heap_setCell _ _ _ _ hk)) ?_
      rintro e w1 ⟨rfl, hd⟩
      have HD : Hid _ := hd
      clear hd
      go_wp2
      go_ret
      refine .inr ⟨h0, rfl, ?_⟩
      rw [if_pos h1]
      exact Did.of HD.out ((Chg.refl _ w).setCell (p := ⟨bs, 3, none⟩) (.inl (.inr (.inl rfl))) _)
    · go_enter Try.func51, Try.ntmps51
      go_wp2_with fail
      refine Calls.mono (HC.out _ _ HST.out (fun _ _ => rfl)) ?_
      rintro e w1 ⟨rfl, hd⟩
      have HD : Hid _ := hd
      clear hd
      go_wp2
      go_ret
      refine .inr ⟨h0, rfl, ?_⟩
      rw [if_neg (by omega)]
      exact HD.out
end Go.Proofs.Ytloigepmmhcibaa
