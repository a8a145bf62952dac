/-
  Slices of bytes and of numbers that came in, as what is read. Own work.
-/
import Derived.Test.YtffgbjojngnebaaDoorQn
import Derived.OpenShut
import Derived.WideShapes
namespace Go.Proofs.YtffgbjojngnebaaDoor
open Go.RowKit

theorem rdI_of_row (w : World) (a : Option Addr) (len cap : Nat) (zs : List Int)
    (h : (a = none ∧ len = 0 ∧ cap = 0 ∧ zs = []) ∨ ∃ x, a = some x ∧ len ≤ cap ∧ cap ≤ maxLen ∧ zs.length = cap ∧ (∀ i, i < zs.length → w.cell? (x.add i) = some (.int .i64 (zs.getD i 0))) ∧ ∀ n ∈ zs, (Lit.int .i64 n).wf = true) :
    ∃ l, RdI w (.slice a len cap) l ∧ ∀ x ∈ l, x ≤ 9223372036854775807 := by
  rcases h with ⟨rfl, rfl, rfl, rfl⟩ | ⟨x, rfl, h1, h2, h3, h4, h5⟩
  · exact ⟨[], RdI.nil w, fun x hx => absurd hx List.not_mem_nil⟩
  · have hl : (zs.take len).length = len := by simp; omega
    refine ⟨zs.take len, ⟨some x, cap, by rw [hl], by rw [hl]; exact h1, h2, by simp, fun b hb i hi => ?_⟩, fun y hy => (bounds_i64 (h5 y (List.mem_of_mem_take hy))).2⟩
    obtain rfl := Option.some.inj hb
    rw [hl] at hi
    rw [h4 i (by omega)]
    have hz : i < zs.length := by omega
    simp [List.getD, hz]
theorem block_in {P : Program} {W : World} {r : Reach} {base : Nat} {t e : TypeId} {a : Option Addr} {len cap : Nat} (ht : P.underlying t = some (.slice e)) (h : Value.okWide P W r base t (.slice a len cap)) : ∀ b, (Value.slice a len cap).ownBlock = some b → b < W.heap.size := by
  intro b hb
  cases a with
  | none => cases hb
  | some x =>
    obtain rfl : x.block = b := by simpa [Value.ownBlock] using hb
    simp only [Value.okWide, ht, Cell.okWide, Cell.ok, World.has] at h
    obtain ⟨-, -, -, -, row, cells, hs, -⟩ := h
    unfold World.shape? at hs
    by_cases hlt : x.block < W.heap.size
    · exact hlt
    · rw [Array.getElem?_eq_none (by omega)] at hs
      cases hs
end Go.Proofs.YtffgbjojngnebaaDoor
