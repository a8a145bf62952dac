/-
  A list held in the map is laid anew. Own work.
-/
import Derived.Test.YtdbbdecmfnajiaaOb
namespace Go.Proofs.Ytdbbdecmfnajiaa
open Go.RowKit Go.Sort

theorem push_any {u V : World} {B : Nat} {e0 hv : Value} {M L : List Int} (hb : Below u.heap.size u V) (he : OwnI V B e0 M) (hB : B ≤ V.heap.size) (hBu : u.heap.size ≤ B) (hrd : ∀ x, Below u.heap.size u x → RdI x hv L) (hl : M.length + L.length ≤ 1000000) :
    ∃ v1 V3, (Builtin.append_ #[22, 22] 22 #[e0, hv]).run Try.prog V = .ok v1 V3 ∧ OwnI V3 B v1 (M ++ L) ∧ Below u.heap.size u V3 ∧ V.grownBy V3 e0.ownBlock := by
  obtain ⟨v1, V3, hr1, ho1, hg1, -⟩ := he.appendRd (hrd V hb) hl hB 22
  exact ⟨v1, V3, hr1, ho1, hb.grown hg1 hb.size fun k e => Nat.le_trans hBu (he.lt k e).1, hg1⟩
theorem push_one {u V : World} {B g : Nat} {v1 : Value} {L : List Int} {nn : Int} (hb : Below u.heap.size u V) (ho : OwnI V B v1 L) (hB : B ≤ V.heap.size) (hBu : u.heap.size ≤ B) (hg : V.cell? ⟨g, 0, none⟩ = some (.int .i64 nn)) (hl : L.length ≤ 1000) :
    ∃ v2 V4, (Builtin.append_ #[22, 22] 22 #[v1, .slice (some ⟨g, 0, none⟩) 1 1]).run Try.prog V = .ok v2 V4 ∧ OwnI V4 B v2 (L ++ [nn]) ∧ Below u.heap.size u V4 := by
  obtain ⟨v2, V4, hr, ho2, hg2, -⟩ := ho.append1 nn (by omega) hB g 0 hg rfl 22
  exact ⟨v2, V4, hr, ho2, hb.grown hg2 hb.size fun k e => Nat.le_trans hBu (ho.lt k e).1⟩
theorem OM.lay {w0 u V : World} {r : Value} {size hb i xb : Nat} {xo : Array Value} {s : ByteArray} {hv nv : Value} {L L' : List Int} (h : OM w0 u r size hb i xb xo s hv L L') (hi : i ≤ 1000) (hs : right s) (hB : Below u.heap.size u V) {B : Nat} (hBu : u.heap.size ≤ B) (ho : OwnI V B nv L') :
    ∃ w', (Instr.mapUpdate 63 (.map (some hb)) (.string s) nv).run Try.prog V = .ok () w' ∧ OR w0 w' r size hb (i + 1) xb xo := by
  refine h.store hi hs hB ho.rd fun ao n c e => ?_
  have hlt := ho.lt ao.block (by rw [e]; rfl)
  exact ⟨.inl (Nat.le_trans hBu hlt.1), hlt.2⟩
theorem RdI.cutO {w : World} {b off n cap : Nat} {T : List Int} (h : RdI w (.slice (some ⟨b, off, none⟩) n cap) T) (p : Nat) : RdI w (.slice (if cap = p then some ⟨b, off, none⟩ else some ⟨b, off + p, none⟩) (n - p) (cap - p)) (T.drop p) := by
  obtain ⟨ao, c, hv, h1, h2, h3, h4⟩ := h
  cases hv
  have hlen : (T.drop p).length = T.length - p := List.length_drop
  refine ⟨_, _, by rw [hlen], by omega, by omega, fun e => ?_, fun j hj => ?_⟩
  · split at e <;> cases e
  · rw [hlen] at hj
    obtain ⟨b', off', e, c0⟩ := h4 (p + j) (by omega)
    cases e
    rw [if_neg (by omega)]
    exact ⟨b, off + p, rfl, by rw [show off + p + j = off + (p + j) by omega, c0, List.getElem_drop]⟩
end Go.Proofs.Ytdbbdecmfnajiaa
