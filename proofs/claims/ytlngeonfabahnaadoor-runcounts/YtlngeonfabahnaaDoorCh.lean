/-
  Pick, SameInstrs, Same. Own work.
-/
import Derived.Test.YtlngeonfabahnaaDoorCf
namespace Go.Proofs.YtlngeonfabahnaaDoor
open Go.RowKit

theorem Ins.eq_of {i j : Ins} (h0 : i.op = j.op) (h1 : i.a = j.a) (h2 : i.b = j.b) (h3 : i.c = j.c) (h4 : i.n = j.n) (h5 : i.s = j.s) : i = j := by
  cases i; cases j
  simp only at h0 h1 h2 h3 h4 h5
  subst h0 h1 h2 h3 h4 h5
  rfl
instance : DecidableEq Ins := fun i j =>
  if h : i.op = j.op ∧ i.a = j.a ∧ i.b = j.b ∧ i.c = j.c ∧ i.n = j.n ∧ i.s = j.s then .isTrue (Ins.eq_of h.1 h.2.1 h.2.2.1 h.2.2.2.1 h.2.2.2.2.1 h.2.2.2.2.2)
  else .isFalse (fun e => h (by subst e; exact ⟨rfl, rfl, rfl, rfl, rfl, rfl⟩))
def P6 (u : World) (b o : Nat) (x : Ins) : Prop := u.cell? ⟨b, o, none⟩ = some (.int .u8 (x.op : Int)) ∧ u.cell? ⟨b, o + 1, none⟩ = some (.int .i64 x.a) ∧ u.cell? ⟨b, o + 2, none⟩ = some (.int .i64 x.b) ∧ u.cell? ⟨b, o + 3, none⟩ = some (.int .i64 x.c) ∧ u.cell? ⟨b, o + 4, none⟩ = some (.int .i64 x.n) ∧ u.cell? ⟨b, o + 5, none⟩ = some (.string x.s)

end Go.Proofs.YtlngeonfabahnaaDoor
