/-
  The contracts of drop, leave, sectorEnd, told, crash. Own work.
-/
import Derived.Test.YtloigepmmhcibaaDi
namespace Go.Proofs.Ytloigepmmhcibaa
open Go.RowKit

set_option maxRecDepth 100000 in
set_option maxHeartbeats 1000000 in
theorem drop_st {w : World} {bd bs bc : Nat} {fv : Value} {ps : List (AF × Value)} {most : Nat} {fuse : Int} {dark : Bool} (h : St w bd bs bc fv ps most fuse dark) (hmax : ps.length ≤ 1000) (i : Nat) (hi : i < ps.length) :
    Calls Try.prog 57 #[.pointer (some ⟨bs, 0, none⟩), .int .i64 i] w fun e w' => e = .returned (.tuple #[]) ∧
      ∃ fv', St w' bd bs bc fv' (ps.take i ++ ps.drop (i + 1)) most fuse dark ∧ fv'.ownBlock = fv.ownBlock ∧ Chg (fun b => b = bs ∨ fv.ownBlock = some b) w w' := by
  rcases h.hf.2 with ⟨_, h0⟩ | ⟨g, cap, cur, hv, hbg, hgg, hnc, hcm, hcs, htake⟩
  · omega
  · subst hv
    obtain ⟨m, hm⟩ : ∃ m, ps.length = m + 1 := ⟨ps.length - 1, by omega⟩
    have hone : ∀ p ∈ ps, p.2.oneCell' = true := fun p hp => by
      obtain ⟨a, c, e, -⟩ := Own.rd (h.hb p hp)
      rw [e]
      rfl
    have HD : Hid _ := delete_one (w := w) (i := i) hm hgg (by omega) hcm hcs htake hone (by omega) (by omega)
    have HST : Hid _ := h
    have s0 := h.s0
    have sz := h.sz 0
    have hnb : bs ≠ g := fun e => (h.fv_ne (a := g) rfl).2.1 e.symm
    have hlts := h.lts
    rw [hm] at s0
    have HM : Hid _ := hm
    clear h hm hone hgg hcs htake
    obtain ⟨R, HR⟩ := named (ps.take i ++ ps.drop (i + 1))
    have HRL : Hid (R.length = m) := by
      rw [HR.out]
      have := HM.out
      simp only [Hid, List.length_append, List.length_take, List.length_drop]
      omega
    rw [← HR.out] at HD ⊢
    go_enter Try.func57, Try.ntmps57
    go_wp2_with fail
    refine Calls.mono HD.out ?_
    rintro e w1 ⟨rfl, hrow, hg⟩
    have hs1 : w1.heap[bs]? = w.heap[bs]? := hg.block bs hlts (fun e => hnb (by cases e; rfl))
    have c1 : w1.cell? ⟨bs, 0, none⟩ = w.cell? ⟨bs, 0, none⟩ := World.cell?_of_block (w := w) (w' := w1) (a := ⟨bs, 0, none⟩) hs1
    have z1 : w1.frozen? ⟨bs, 0, none⟩ = w.frozen? ⟨bs, 0, none⟩ := World.frozen?_of_block (w := w) (w' := w1) (a := ⟨bs, 0, none⟩) hs1
    rw [s0] at c1
    rw [sz] at z1
    have HROW : Hid _ := hrow
    have HG : Hid _ := hg
    clear hrow hg hs1
    go_wp2
    go_returns
    have hG : w.grownBy w1 (Value.slice (some ⟨g, 0, none⟩) ps.length cap).ownBlock := HG.out
    refine ⟨rfl, .slice (some ⟨g, 0, none⟩) m cap, HST.out.files hG (by rw [HRL.out]; exact HROW.out) (fun p hp => HST.out.hb p ?_) ?_, rfl, ?_⟩
    · rw [HR.out] at hp
      rcases List.mem_append.1 hp with h | h
      · exact List.mem_of_mem_take h
      · exact List.mem_of_mem_drop h
    · rw [HR.out, ← List.eraseIdx_eq_take_drop_succ]
      exact HST.out.hp.sublist (List.eraseIdx_sublist ..)
    · exact ((Chg.refl _ w).grown hG (fun k hk => .inl (.inr hk))).setCell (.inl (.inl rfl)) _
end Go.Proofs.Ytloigepmmhcibaa
