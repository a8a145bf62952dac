/-
  A field written over: in memory, and what Check says of it. Own work.
-/
import Derived.Test.YtpiiehenmkinaaaDoorCk
namespace Go.Proofs.YtpiiehenmkinaaaDoor
open Go.RowKit

theorem RdC.put {w : World} {g n cap : Nat} {l : List Ins} (h : RdC w (.slice (some ⟨g, 0, none⟩) n cap) l) (k j : Nat) (hk : k < l.length) (i' : Ins) (x : Value) (hx : insC i' = (insC l[k]).set j x) (hj : j < 6) :
    RdC (w.setCell ⟨g, k * 6 + j, none⟩ x) (.slice (some ⟨g, 0, none⟩) n cap) (l.set k i') := by
  obtain ⟨ao, c, hv, h1, h2, h3, h4⟩ := h
  cases hv
  refine ⟨_, _, by rw [List.length_set], by rw [List.length_set]; exact h1, h2, h3, fun k' hk' => ?_⟩
  rw [List.length_set] at hk'
  obtain ⟨b, off, e, hc⟩ := h4 k' hk'
  cases e
  refine ⟨_, _, rfl, fun j' u hu => ?_⟩
  rw [Nat.zero_add]
  by_cases hkk : k = k'
  · subst hkk
    rw [List.getElem_set_self, hx] at hu
    have hj' : j' < 6 := by
      have := (List.getElem?_eq_some_iff.1 hu).1
      rw [List.length_set] at this
      exact this
    by_cases hjj : j' = j
    · subst hjj
      rw [List.getElem?_set_self (by exact hj)] at hu
      cases hu
      have h0 := hc j' ((insC l[k])[j']'hj) (List.getElem?_eq_getElem _)
      rw [Nat.zero_add] at h0
      exact World.cell?_setCell_same _ _ _ h0
    · rw [List.getElem?_set_ne (by omega)] at hu
      have h0 := hc j' u hu
      rw [Nat.zero_add] at h0
      exact (cell_other _ _ _ _ _ _ (.inr (by omega))).trans h0
  · rw [List.getElem_set_ne (by omega)] at hu
    have h0 := hc j' u hu
    rw [Nat.zero_add] at h0
    have hj' : j' < 6 := (List.getElem?_eq_some_iff.1 hu).1
    exact (cell_other _ _ _ _ _ _ (.inr (by omega))).trans h0
/-- what the call itself has made may be written over -/
theorem OwnC.open {w : World} {base : Nat} {v : Value} {l : List Ins} (h : OwnC w base v l) (hl : 0 < l.length) : ∃ g cap, v = .slice (some ⟨g, 0, none⟩) l.length cap ∧ base ≤ g ∧ g < w.heap.size ∧ ∀ o, w.frozen? ⟨g, o, none⟩ = false := by
  rcases h.2 with ⟨rfl, h0⟩ | ⟨g, cap, cur, hv, hb, hg, hn, hm, hs, ht⟩
  · omega
  · exact ⟨g, cap, hv, hb, (Array.getElem?_eq_some_iff.1 hg).1, fun o => by simp [World.frozen?, hg]⟩

theorem fit_no {regs places : Int} {l : Nat} {n : Int} (hr : regs ≤ 16) (hp : places ≤ 500) (hn : n = 1073741824 ∨ n = -1) (hl : l = 114 ∨ l = 106 ∨ l = 112 ∨ l = 46) : fit regs places 20 l n = false := by
  rcases hl with rfl | rfl | rfl | rfl <;> simp [fit] <;> omega
theorem bad_field {regs places : Int} {i i' : Ins} (j : Nat) (ho : i'.op = i.op) (h : insB regs places 20 i = true) (hj : j < 5) (hf : ∀ l, (fields i.op)[j]? = some l → fit regs places 20 l ((vals i')[j]'hj) = false) : insB regs places 20 i' = false := by
  unfold insB at h ⊢
  rw [Bool.and_eq_true, decide_eq_true_eq] at h
  rw [ho]
  have hl : j < (fields i.op).length := by omega
  rw [fits_false regs places 20 (fields i.op) (vals i') j hl hj (hf _ (List.getElem?_eq_getElem hl)), Bool.and_false]
theorem letters (o : Nat) (h : 1 ≤ o ∧ o ≤ 16) : (∀ l, (fields o)[0]? = some l → l = 114 ∨ l = 106 ∨ l = 112 ∨ l = 46) ∧ (∀ l, (fields o)[1]? = some l → l = 114 ∨ l = 106 ∨ l = 112 ∨ l = 46) ∧ (∀ l, (fields o)[2]? = some l → l = 114 ∨ l = 106 ∨ l = 112 ∨ l = 46) ∧ (o ≠ 1 → ∀ l, (fields o)[3]? = some l → l = 114 ∨ l = 106 ∨ l = 112 ∨ l = 46) ∧ (∀ l, (fields o)[4]? = some l → l = 115 ∨ l = 46) := by
  have : o = 1 ∨ o = 2 ∨ o = 3 ∨ o = 4 ∨ o = 5 ∨ o = 6 ∨ o = 7 ∨ o = 8 ∨ o = 9 ∨ o = 10 ∨ o = 11 ∨ o = 12 ∨ o = 13 ∨ o = 14 ∨ o = 15 ∨ o = 16 := by omega
  rcases this with rfl | rfl | rfl | rfl | rfl | rfl | rfl | rfl | rfl | rfl | rfl | rfl | rfl | rfl | rfl | rfl <;>
    refine ⟨?_, ?_, ?_, ?_, ?_⟩ <;> simp [fields]
/-- a program with one instruction changed to one that may not be -/
theorem okP_set {p : Prg} (k : Nat) (hk : k < p.code.length) (i' : Ins) (h : insB p.regs p.code.length 20 i' = false) : okP ⟨p.name, p.regs, p.code.set k i'⟩ 20 = false := by
  refine okP_no5 (p := ⟨p.name, p.regs, p.code.set k i'⟩) k (by simpa using hk) ?_
  show insB p.regs ((p.code.set k i').length : Int) 20 ((p.code.set k i')[k]'_) = false
  rw [List.getElem_set_self]
  rw [List.length_set]
  exact h
theorem okP_in {p : Prg} {pol : Int} (h : okP p pol = true) : (1 ≤ p.name.size ∧ p.name.size ≤ 40) ∧ (1 ≤ p.regs ∧ p.regs ≤ 16) ∧ p.code.length ≤ 500 ∧ 0 < p.code.length ∧ ∀ i ∈ p.code, insB p.regs p.code.length pol i = true := by
  unfold okP at h
  simp only [Bool.and_eq_true, decide_eq_true_eq, List.all_eq_true] at h
  obtain ⟨⟨⟨⟨hn, hr⟩, hl⟩, he⟩, hi⟩ := h
  refine ⟨hn, hr, hl, ?_, hi⟩
  cases hc : p.code with
  | nil => rw [hc] at he; cases he
  | cons x t => simp
def z41 : List UInt8 := List.replicate 41 0
def zeros41 : ByteArray := ⟨z41.toArray⟩
theorem run_make41 (w : World) : (Instr.makeSlice 25 (.int .i64 41) (.int .i64 41)).run Tryd.prog w = .ok (.slice (some ⟨w.heap.size, 0, none⟩) 41 41) (w.alloc (.cells (BV z41).toArray 5)) := by kernel_rfl
def wA (i : Ins) (n : Int) : Ins := ⟨i.op, n, i.b, i.c, i.n, i.s⟩
def wB (i : Ins) (n : Int) : Ins := ⟨i.op, i.a, n, i.c, i.n, i.s⟩
def wC (i : Ins) (n : Int) : Ins := ⟨i.op, i.a, i.b, n, i.n, i.s⟩
def wN (i : Ins) (n : Int) : Ins := ⟨i.op, i.a, i.b, i.c, n, i.s⟩
def wS (i : Ins) (s : ByteArray) : Ins := ⟨i.op, i.a, i.b, i.c, i.n, s⟩
/-- each way a field is written over -/
theorem bad_a {p : Prg} {k : Nat} (hk : k < p.code.length) (h : okP p 20 = true) (n : Int) (hn : n = 1073741824 ∨ n = -1) : insB p.regs p.code.length 20 (wA p.code[k] n) = false := by
  obtain ⟨-, hr, hl, -, hi⟩ := okP_in h
  have hb := hi _ (List.getElem_mem hk)
  have ho := (insB_range hb hr.2).2.2.2.2
  exact bad_field (i := p.code[k]) (i' := (wA p.code[k] n)) 0 rfl hb (by omega) (fun l hl' => fit_no hr.2 (by omega) hn ((letters _ ho).1 l hl'))
theorem bad_b {p : Prg} {k : Nat} (hk : k < p.code.length) (h : okP p 20 = true) (n : Int) (hn : n = 1073741824 ∨ n = -1) : insB p.regs p.code.length 20 (wB p.code[k] n) = false := by
  obtain ⟨-, hr, hl, -, hi⟩ := okP_in h
  have hb := hi _ (List.getElem_mem hk)
  have ho := (insB_range hb hr.2).2.2.2.2
  exact bad_field (i := p.code[k]) (i' := (wB p.code[k] n)) 1 rfl hb (by omega) (fun l hl' => fit_no hr.2 (by omega) hn ((letters _ ho).2.1 l hl'))
theorem bad_c {p : Prg} {k : Nat} (hk : k < p.code.length) (h : okP p 20 = true) (n : Int) (hn : n = 1073741824 ∨ n = -1) : insB p.regs p.code.length 20 (wC p.code[k] n) = false := by
  obtain ⟨-, hr, hl, -, hi⟩ := okP_in h
  have hb := hi _ (List.getElem_mem hk)
  have ho := (insB_range hb hr.2).2.2.2.2
  exact bad_field (i := p.code[k]) (i' := (wC p.code[k] n)) 2 rfl hb (by omega) (fun l hl' => fit_no hr.2 (by omega) hn ((letters _ ho).2.2.1 l hl'))
theorem bad_n {p : Prg} {k : Nat} (hk : k < p.code.length) (h : okP p 20 = true) (h1 : p.code[k].op ≠ 1) (n : Int) (hn : n = 1073741824 ∨ n = -1) : insB p.regs p.code.length 20 (wN p.code[k] n) = false := by
  obtain ⟨-, hr, hl, -, hi⟩ := okP_in h
  have hb := hi _ (List.getElem_mem hk)
  have ho := (insB_range hb hr.2).2.2.2.2
  exact bad_field (i := p.code[k]) (i' := (wN p.code[k] n)) 3 rfl hb (by omega) (fun l hl' => fit_no hr.2 (by omega) hn ((letters _ ho).2.2.2.1 h1 l hl'))
theorem bad_s {p : Prg} {k : Nat} (hk : k < p.code.length) (h : okP p 20 = true) : insB p.regs p.code.length 20 (wS p.code[k] zeros41) = false := by
  obtain ⟨-, hr, hl, -, hi⟩ := okP_in h
  have hb := hi _ (List.getElem_mem hk)
  have ho := (insB_range hb hr.2).2.2.2.2
  refine bad_field (i := p.code[k]) (i' := (wS p.code[k] zeros41)) 4 rfl hb (by omega) (fun l hl' => ?_)
  show fit p.regs p.code.length 20 l ((zeros41.size : Nat) : Int) = false
  have : zeros41.size = 41 := by decide +kernel
  rw [this]
  rcases (letters _ ho).2.2.2.2 l hl' with rfl | rfl <;> simp [fit]
end Go.Proofs.YtpiiehenmkinaaaDoor
