/-
  A slice of bytes that came in, as bytes that are read. Own work.
-/
import Derived.Test.YtpiiehenmkinaaaDoorBase
import Derived.OpenShut
namespace Go.Proofs.YtpiiehenmkinaaaDoor
open Go.RowKit

theorem rd_of_row (w : World) (a : Option Addr) (len cap : Nat) (zs : List Int)
    (h : (a = none ∧ len = 0 ∧ cap = 0 ∧ zs = []) ∨ ∃ x, a = some x ∧ len ≤ cap ∧ cap ≤ maxLen ∧ zs.length = cap ∧ (∀ i, i < zs.length → w.cell? (x.add i) = some (.int .u8 (zs.getD i 0))) ∧ ∀ n ∈ zs, (Lit.int .u8 n).wf = true) :
    ∃ l, Rd w (.slice a len cap) l := by
  rcases h with ⟨rfl, rfl, rfl, rfl⟩ | ⟨x, rfl, h1, h2, h3, h4, h5⟩
  · exact ⟨[], Rd.nil w⟩
  · have hl : ((zs.take len).map fun z => UInt8.ofNat z.toNat).length = len := by simp; omega
    refine ⟨(zs.take len).map fun z => UInt8.ofNat z.toNat, some x, cap, by rw [hl], by rw [hl]; exact h1, h2, by simp, fun b hb i hi => ?_⟩
    obtain rfl := Option.some.inj hb
    rw [hl] at hi
    rw [h4 i (by omega)]
    simp only [List.getElem_map, List.getElem_take, Option.some.injEq, Value.int.injEq, true_and]
    have hz : i < zs.length := by omega
    have e : zs.getD i 0 = zs[i] := by simp [List.getD, hz]
    rw [e]
    have hb := bounds_u8 (h5 zs[i] (List.getElem_mem hz))
    rw [UInt8.toNat_ofNat']
    omega
end Go.Proofs.YtpiiehenmkinaaaDoor
