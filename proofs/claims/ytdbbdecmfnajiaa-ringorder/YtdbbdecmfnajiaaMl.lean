/-
  The contract of keep: a queue that was changed stands by its name, or goes. Own work.
-/
import Derived.Test.YtdbbdecmfnajiaaMk
namespace Go.Proofs.Ytdbbdecmfnajiaa
open Go.RowKit

/-- rings of which one queue has been changed, and is not yet kept -/
structure Rp (w : World) (rb sb mb : Nat) (most : Int) (m : Nat) (E : EM) (s : ByteArray) (q : Qd) : Prop where
  hr : w.heap[rb]? = some (.cells #[.pointer (some ⟨sb, 0, none⟩)] 60 (0, 0))
  hs : w.heap[sb]? = some (.cells #[.int .i64 most, .map (some mb)] 72 (0, 0))
  hm : Mp w mb m (ptrs E)
  hq : ∀ t r, t ≠ s → E t = some r → QM w r
  ap : ∀ t t' r r', t ≠ s → t' ≠ s → t ≠ t' → E t = some r → E t' = some r' → ∀ b, r.bk b → ¬ r'.bk b
  aq : ∀ t r, t ≠ s → E t = some r → ∀ b, r.bk b → ¬ q.bk b
  was : ∀ q0, E s = some q0 → q0.qb = q.qb
  qm : QM w q
  mo : capOk most
  rt : ∀ t r, E t = some r → right t
  many : m ≤ 1000
  room : E s = none → m < 1000 ∨ (q.L = [] ∧ q.most = most)
def setE (E : EM) (s : ByteArray) (o : Option Qd) : EM := fun t => if t = s then o else E t
/-- what stands by the name then -/
def kept (most : Int) (q : Qd) : Option Qd := if q.L = [] ∧ q.most = most then none else some q
def keptM (E : EM) (s : ByteArray) (o : Option Qd) (m : Nat) : Nat := if o.isSome then (if (E s).isSome then m else m + 1) else (if (E s).isSome then m - 1 else m)

theorem ptrs_some (E : EM) (s : ByteArray) : (ptrs E s).isSome = (E s).isSome := by unfold ptrs; cases E s <;> rfl
/-- behind keep: the map's block alone has turned -/
theorem Rp.done {w w' : World} {rb sb mb m m' : Nat} {most : Int} {E : EM} {s : ByteArray} {q : Qd} (h : Rp w rb sb mb most m E s q) (hs : right s) (hc : Chg (· = mb) w w') (hm : Mp w' mb m' (ptrs (setE E s (kept most q)))) (hm' : m' ≤ 1000) : Rs w' rb sb mb most m' (setE E s (kept most q)) := by
  obtain ⟨es, ck, hmm⟩ := h.hm.isMap
  have hrm : rb ≠ mb := by rintro rfl; rw [h.hr] at hmm; cases hmm
  have hsm : sb ≠ mb := by rintro rfl; rw [h.hs] at hmm; cases hmm
  have keep : ∀ r, QM w r → QM w' r := fun r hr => hr.chg hc fun b hb e => by
    subst e
    exact hr.not_map hmm hb
  have split : ∀ t r, setE E s (kept most q) t = some r → (t = s ∧ r = q) ∨ (t ≠ s ∧ E t = some r) := fun t r hr => by
    unfold setE at hr
    by_cases e : t = s
    · rw [if_pos e] at hr
      unfold kept at hr
      split at hr
      · cases hr
      · exact .inl ⟨e, (Option.some.inj hr).symm⟩
    · rw [if_neg e] at hr
      exact .inr ⟨e, hr⟩
  refine ⟨(hc.block rb (lt_of h.hr) hrm).trans h.hr, (hc.block sb (lt_of h.hs) hsm).trans h.hs, hm, fun t r hr => ?_, fun t t' r r' hne hr hr' b hb hb' => ?_, h.mo, fun t r hr => ?_, hm'⟩
  · rcases split t r hr with ⟨rfl, rfl⟩ | ⟨h1, h2⟩
    · exact keep _ h.qm
    · exact keep _ (h.hq t r h1 h2)
  · rcases split t r hr with ⟨rfl, rfl⟩ | ⟨h1, h2⟩
    · rcases split t' r' hr' with ⟨rfl, rfl⟩ | ⟨h3, h4⟩
      · exact hne rfl
      · exact h.aq t' r' h3 h4 b hb' hb
    · rcases split t' r' hr' with ⟨rfl, rfl⟩ | ⟨h3, h4⟩
      · exact h.aq t r h1 h2 b hb hb'
      · exact h.ap t t' r r' h1 h3 hne h2 h4 b hb hb'
  · rcases split t r hr with ⟨rfl, rfl⟩ | ⟨h1, h2⟩
    · exact hs
    · exact h.rt t r h2
theorem ptrs_set (E : EM) (s : ByteArray) (q : Qd) : ptrs (setE E s (some q)) = setM (ptrs E) s (.pointer (some ⟨q.qb, 0, none⟩)) := by
  funext t
  unfold ptrs setE setM
  by_cases e : t = s <;> simp [e]
theorem ptrs_del (E : EM) (s : ByteArray) : ptrs (setE E s none) = delM (ptrs E) s := by
  funext t
  unfold ptrs setE delM
  by_cases e : t = s <;> simp [e]
theorem ptrs_same (E : EM) (s : ByteArray) (q q0 : Qd) (h : E s = some q0) (hb : q0.qb = q.qb) : ptrs (setE E s (some q)) = ptrs E := by
  funext t
  unfold ptrs setE
  by_cases e : t = s
  · rw [if_pos e, e, h]; simp [hb]
  · rw [if_neg e]

def KeepEnd (w w' : World) (rb sb mb : Nat) (most : Int) (m : Nat) (E : EM) (s : ByteArray) (q : Qd) : Prop :=
  Rs w' rb sb mb most (keptM E s (kept most q) m) (setE E s (kept most q)) ∧ Chg (· = mb) w w'

set_option maxRecDepth 100000 in
set_option maxHeartbeats 3200000 in
theorem keep_any {w : World} {rb sb mb m : Nat} {most : Int} {E : EM} {s : ByteArray} {q : Qd} (h : Rp w rb sb mb most m E s q) (hs : right s) :
    Calls Try.prog 47 #[.pointer (some ⟨sb, 0, none⟩), .string s, .pointer (some ⟨q.qb, 0, none⟩)] w fun e w' => e = .returned (.tuple #[]) ∧ KeepEnd w w' rb sb mb most m E s q := by
  have s0 : w.cell? ⟨sb, 0, none⟩ = some (.int .i64 most) := by rw [cell_of h.hs]; rfl
  have s1 : w.cell? ⟨sb, 1, none⟩ = some (.map (some mb)) := by rw [cell_of h.hs]; rfl
  have q0 := h.qm.1.s0
  have q3 := h.qm.1.s3
  obtain ⟨qb, HQB⟩ := named q.qb
  rw [← HQB.out] at q0 q3 ⊢
  by_cases hk : q.L = [] ∧ q.most = most
  · obtain ⟨h1, h2⟩ := hk
    have hkk : kept most q = none := by unfold kept; rw [if_pos ⟨h1, h2⟩]
    rw [h1, List.length_nil] at q3
    rw [h2] at q0
    have hdrop : ∀ j, ∃ w', (Builtin.delete_ #[70, 9] 0 #[.map (some mb), .string s]).run Try.prog (w.drewN j) = .ok (.tuple #[]) w' ∧ KeepEnd w w' rb sb mb most m E s q := fun j => by
      obtain ⟨w', hr, hm, hg, hz⟩ := (show Mp (w.drewN j) mb m (ptrs E) from h.hm.heap rfl).drop mt70 hs.max 0
      rw [ptrs_some] at hm
      have hc : Chg (· = mb) w w' := (show Chg (· = mb) w (w.drewN j) from Chg.ofBelow (drewN_below w j) _).grown hg fun k e => .inl (Option.some.inj e).symm
      refine ⟨w', hr, ?_, hc⟩
      have hkm : keptM E s (kept most q) m = if (E s).isSome then m - 1 else m := by rw [hkk]; rfl
      rw [hkm]
      refine h.done hs hc (by rw [hkk, ptrs_del]; exact hm) ?_
      have := h.many
      split <;> omega
    have HD := hide hdrop
    clear h hdrop hkk h1 h2
    go_enter Try.func47, Try.ntmps47
    go_wp2_with fail
    go_quiet (fail)
    rename_i nq
    obtain ⟨w', hr, he⟩ := HD.out nq
    have HE := hide he
    clear he
    go_wp2_with fail
    exact bodyPost_ret (v := .tuple #[]) (by simp [results, Try.results47, go_sem]) rfl ⟨rfl, HE.out⟩
  · have hkk : kept most q = some q := by unfold kept; rw [if_neg hk]
    have hlook : ∀ j, (Instr.lookup 70 (.map (some mb)) (.string s) true).run Try.prog (w.drewN j) = .ok (.tuple #[(ptrs E s).getD (.pointer none), .bool (ptrs E s).isSome]) (w.drewN j) := fun j => (show Mp (w.drewN j) mb m (ptrs E) from h.hm.heap rfl).look_ok mt70 hs.max
    cases hE : E s with
    | some q' =>
      have hb := h.was q' hE
      have e1 : ptrs E s = some (.pointer (some ⟨q'.qb, 0, none⟩)) := by unfold ptrs; rw [hE]; rfl
      rw [e1] at hlook
      simp only [Option.getD_some, Option.isSome_some] at hlook
      have hend : ∀ j, KeepEnd w (w.drewN j) rb sb mb most m E s q := fun j => by
        have hc : Chg (· = mb) w (w.drewN j) := Chg.ofBelow (drewN_below w j) _
        refine ⟨?_, hc⟩
        have hkm : keptM E s (kept most q) m = m := by rw [hkk]; unfold keptM; rw [hE]; rfl
        rw [hkm]
        exact h.done hs hc (by rw [hkk, ptrs_same E s q q' hE hb]; exact h.hm.heap rfl) h.many
      have HE := hide hend
      by_cases h1 : q.L = []
      · have h2 : q.most ≠ most := fun e => hk ⟨h1, e⟩
        have hbq : (q.most == most) = false := beq_eq_false_iff_ne.2 h2
        rw [h1, List.length_nil] at q3
        obtain ⟨y, HY⟩ := named q.most
        rw [← HY.out] at hbq q0
        clear h hk hkk hE h1 h2 e1 hb hend
        go_enter Try.func47, Try.ntmps47
        go_wp2_with fail
        go_quiet (fail)
        rename_i nq
        have hl := hlook nq
        go_wp2_with fail
        go_end0
        exact ⟨rfl, HE.out _⟩
      · have h2 : ((q.L.length : Int) == 0) = false := beq_eq_false_iff_ne.2 (by have := List.length_pos_iff.2 h1; omega)
        obtain ⟨c, HC⟩ := named q.L.length
        rw [← HC.out] at q3 h2
        clear h hk hkk hE h1 e1 hb hend
        go_enter Try.func47, Try.ntmps47
        go_wp2_with fail
        go_quiet (fail)
        rename_i nq
        have hl := hlook nq
        go_wp2_with fail
        go_end0
        exact ⟨rfl, HE.out _⟩
    | none =>
      have e1 : ptrs E s = none := by unfold ptrs; rw [hE]; rfl
      rw [e1] at hlook
      simp only [Option.getD_none, Option.isSome_none] at hlook
      have hroom : m < 1000 := (h.room hE).resolve_right hk
      have HMM := hide hroom
      have HS := hide hs
      have HMP : Hid (∀ u : World, Below w.heap.size w u → Mp u mb m (ptrs E)) := fun u hu => h.hm.heap (hu.block mb h.hm.lt)
      have HC : Hid (∀ u : World, Below w.heap.size w u → u.cell? ⟨sb, 1, none⟩ = some (.map (some mb))) := fun u hu => by rw [cell_of ((hu.block sb (lt_of h.hs)).trans h.hs)]; rfl
      obtain ⟨es, ck, hmm⟩ := h.hm.isMap
      have hsm : sb ≠ mb := by rintro rfl; rw [h.hs] at hmm; cases hmm
      have HC3 : Hid (∀ u w3 : World, Below w.heap.size w u → u.grownBy w3 (some mb) → w3.cell? ⟨sb, 1, none⟩ = some (.map (some mb))) := fun u w3 hu hg => by
        rw [cell_of ((hg.block sb (Nat.lt_of_lt_of_le (lt_of h.hs) hu.size) (fun e => hsm (Option.some.inj e))).trans ((hu.block sb (lt_of h.hs)).trans h.hs))]; rfl
      have HEND : Hid (∀ u w3 : World, Below w.heap.size w u → u.grownBy w3 (some mb) → Mp w3 mb (if (ptrs E s).isSome then m else m + 1) (setM (ptrs E) s (.pointer (some ⟨qb, 0, none⟩))) → Ending.returned (.tuple #[]) = .returned (.tuple #[]) ∧ KeepEnd w w3 rb sb mb most m E s q) := fun u w3 hu hg hm => by
        have hc : Chg (· = mb) w w3 := (Chg.ofBelow hu _).grown hg fun k e => .inl (Option.some.inj e).symm
        rw [e1] at hm
        refine ⟨rfl, ?_, hc⟩
        have hkm : keptM E s (kept most q) m = m + 1 := by rw [hkk]; unfold keptM; rw [hE]; rfl
        rw [hkm]
        refine h.done hs hc (by rw [hkk, ptrs_set, ← HQB.out]; exact hm) (by omega)
      have kc := fun w => clone_any s w hs
      have hd : ∀ a j, Below w.heap.size w a → Below w.heap.size w (a.drewN j) := fun a j hb => hb.trans ((drewN_below a j).mono hb.size)
      by_cases h1 : q.L = []
      · have h2 : q.most ≠ most := fun e => hk ⟨h1, e⟩
        have hbq : (q.most == most) = false := beq_eq_false_iff_ne.2 h2
        rw [h1, List.length_nil] at q3
        obtain ⟨y, HY⟩ := named q.most
        rw [← HY.out] at hbq q0
        clear h hk hkk hE h1 h2 e1 hroom hmm
        go_enter Try.func47, Try.ntmps47
        go_wp2_with fail
        go_quiet (fail)
        rename_i nq
        have hl := hlook nq
        go_wp2_with fail
        have hs0 : (w.drewN nq).drew.cell? ⟨sb, 1, none⟩ = some (.map (some mb)) := s1
        refine wp_region_held_drew (S := (fun u => u.cell? ⟨sb, 1, none⟩ = some (.map (some mb)))) (by kernel_rfl) hs0 (fun _ => ?_)
        refine wpAnyH_take (i := 0) (oi := { dst := some 40, op := Go.Op.move (Go.Operand.tmp 0), type := 58, pos := "ring.go:158", after := #[], guard := none }) (v := ?_) rfl (by kernel_rfl) (by kernel_rfl) (by kernel_rfl) (fun _ _ _ h => h) (Or.inl ⟨by rfl, ?hy1⟩) hs0 ?_
        case hy1 =>
          intro u hu
          obtain u0 := hu
          go_simp
          try with_reducible rfl
        simp only [Act.put, List.setIfInBounds_toArray, List.set_cons_zero, List.set_cons_succ]
        refine wpAnyH_take (i := 1) (oi := { dst := some 41, op := Go.Op.nilCheck (Go.Operand.tmp 40), type := 0, pos := "ring.go:158", after := #[{ on := 0, ground := Go.Ground.data }], guard := none }) (v := ?_) rfl (by kernel_rfl) (by kernel_rfl) (by kernel_rfl) (fun _ _ _ h => h) (Or.inl ⟨by rfl, ?hy2⟩) hs0 ?_
        case hy2 =>
          intro u hu
          obtain u0 := hu
          go_simp
          try with_reducible rfl
        simp only [Act.put, List.setIfInBounds_toArray, List.set_cons_zero, List.set_cons_succ]
        refine wpAnyH_take (i := 2) (oi := { dst := some 42, op := Go.Op.fieldAddr 72 (Go.Operand.tmp 41) 1, type := 0, pos := "ring.go:158", after := #[{ on := 1, ground := Go.Ground.data }], guard := none }) (v := ?_) rfl (by kernel_rfl) (by kernel_rfl) (by kernel_rfl) (fun _ _ _ h => h) (Or.inl ⟨by rfl, ?hy3⟩) hs0 ?_
        case hy3 =>
          intro u hu
          obtain u0 := hu
          go_simp
          try with_reducible rfl
        simp only [Act.put, List.setIfInBounds_toArray, List.set_cons_zero, List.set_cons_succ]
        refine wpAnyH_take (i := 3) (oi := { dst := some 43, op := Go.Op.load 70 (Go.Operand.tmp 42), type := 70, pos := "ring.go:158", after := #[{ on := 2, ground := Go.Ground.data }], guard := none }) (v := ?_) rfl (by kernel_rfl) (by kernel_rfl) (by kernel_rfl) (fun _ _ _ h => h) (Or.inl ⟨by rfl, ?hy4⟩) hs0 ?_
        case hy4 =>
          intro u hu
          obtain u0 := hu
          go_simp
          try with_reducible rfl
        simp only [Act.put, List.setIfInBounds_toArray, List.set_cons_zero, List.set_cons_succ]
        refine wpAnyH_take (i := 4) (oi := { dst := some 44, op := Go.Op.move (Go.Operand.tmp 1), type := 9, pos := "ring.go:158", after := #[], guard := none }) (v := ?_) rfl (by kernel_rfl) (by kernel_rfl) (by kernel_rfl) (fun _ _ _ h => h) (Or.inl ⟨by rfl, ?hy5⟩) hs0 ?_
        case hy5 =>
          intro u hu
          obtain u0 := hu
          go_simp
          try with_reducible rfl
        simp only [Act.put, List.setIfInBounds_toArray, List.set_cons_zero, List.set_cons_succ]
        refine wpAnyH_take (i := 6) (oi := { dst := some 46, op := Go.Op.move (Go.Operand.tmp 2), type := 89, pos := "ring.go:158", after := #[], guard := none }) (v := ?_) rfl (by kernel_rfl) (by kernel_rfl) (by kernel_rfl) (fun _ _ _ h => h) (Or.inl ⟨by rfl, ?hy6⟩) hs0 ?_
        case hy6 =>
          intro u hu
          obtain u0 := hu
          go_simp
          try with_reducible rfl
        simp only [Act.put, List.setIfInBounds_toArray, List.set_cons_zero, List.set_cons_succ]
        refine wpAnyH_ready (rs := [5]) (by kernel_rfl) (by simp) ?_
        refine AllReadyH.cons (o := { dst := some 45, op := Go.Op.call { callee := Go.Callee.value (Go.Operand.func 62), args := #[Go.Operand.tmp 44], argTypes := #[9] }, type := 9, pos := "ring.go:158", after := #[{ on := 4, ground := Go.Ground.data }], guard := none }) rfl (fun K hK => ?_) AllReadyH.nil
        go_simp
        (with_reducible refine Calls.mono (kc _) ?_)
        clear kc
        rintro e u2 ⟨rfl, hbu⟩
        have hbu : Below w.heap.size w u2 := ⟨hbu.os, hbu.tape, hbu.output, hbu.size, hbu.block⟩
        obtain ⟨w3, hr, hm3, hg3, hz3⟩ := (HMP.out u2 hbu).store mt70 (by have := HMM.out; omega) HS.out.max (.pointer (some ⟨qb, 0, none⟩))
        have HBU := hide hbu
        have HM3 := hide hm3
        have HG3 := hide hg3
        have HZ3 := hide hz3
        have hs1 := HC.out u2 hbu
        have hs2 := HC3.out u2 w3 hbu hg3
        clear hbu hm3 hg3 hz3
        refine hK.out _ _ hs1 (fun _ => ?_)
        clear hK K
        try simp only [Act.put, List.setIfInBounds_toArray, List.set_cons_zero, List.set_cons_succ]
        refine wpAnyH_ready (rs := [7]) (by kernel_rfl) (by simp) ?_
        refine AllReadyH.cons (o := { dst := none, op := Go.Op.mapUpdate 70 (Go.Operand.tmp 43) (Go.Operand.tmp 45) (Go.Operand.tmp 46), type := 0, pos := "ring.go:158", after := #[{ on := 3, ground := Go.Ground.data }, { on := 5, ground := Go.Ground.data }, { on := 6, ground := Go.Ground.data }, { on := 5, ground := Go.Ground.chain }, { on := 0, ground := Go.Ground.phase }, { on := 1, ground := Go.Ground.phase }, { on := 2, ground := Go.Ground.phase }, { on := 3, ground := Go.Ground.phase }, { on := 4, ground := Go.Ground.phase }, { on := 5, ground := Go.Ground.phase }, { on := 6, ground := Go.Ground.phase }], guard := none }) rfl (fun K hK => ?_) AllReadyH.nil
        go_simp
        refine hK.out _ _ hs2 (fun _ => ?_)
        clear hK K
        try simp only [Act.put, List.setIfInBounds_toArray, List.set_cons_zero, List.set_cons_succ]
        refine wpAnyH_done (by kernel_rfl) ?_ _
        go_wp2_with fail
        go_end0
        exact ⟨rfl, (HEND.out u2 w3 HBU.out HG3.out HM3.out).2⟩
      · have h2 : ((q.L.length : Int) == 0) = false := beq_eq_false_iff_ne.2 (by have := List.length_pos_iff.2 h1; omega)
        obtain ⟨c, HC'⟩ := named q.L.length
        rw [← HC'.out] at q3 h2
        clear h hk hkk hE h1 e1 hroom hmm
        go_enter Try.func47, Try.ntmps47
        go_wp2_with fail
        go_quiet (fail)
        rename_i nq
        have hl := hlook nq
        go_wp2_with fail
        have hs0 : (w.drewN nq).drew.cell? ⟨sb, 1, none⟩ = some (.map (some mb)) := s1
        refine wp_region_held_drew (S := (fun u => u.cell? ⟨sb, 1, none⟩ = some (.map (some mb)))) (by kernel_rfl) hs0 (fun _ => ?_)
        refine wpAnyH_take (i := 0) (oi := { dst := some 40, op := Go.Op.move (Go.Operand.tmp 0), type := 58, pos := "ring.go:158", after := #[], guard := none }) (v := ?_) rfl (by kernel_rfl) (by kernel_rfl) (by kernel_rfl) (fun _ _ _ h => h) (Or.inl ⟨by rfl, ?hy1⟩) hs0 ?_
        case hy1 =>
          intro u hu
          obtain u0 := hu
          go_simp
          try with_reducible rfl
        simp only [Act.put, List.setIfInBounds_toArray, List.set_cons_zero, List.set_cons_succ]
        refine wpAnyH_take (i := 1) (oi := { dst := some 41, op := Go.Op.nilCheck (Go.Operand.tmp 40), type := 0, pos := "ring.go:158", after := #[{ on := 0, ground := Go.Ground.data }], guard := none }) (v := ?_) rfl (by kernel_rfl) (by kernel_rfl) (by kernel_rfl) (fun _ _ _ h => h) (Or.inl ⟨by rfl, ?hy2⟩) hs0 ?_
        case hy2 =>
          intro u hu
          obtain u0 := hu
          go_simp
          try with_reducible rfl
        simp only [Act.put, List.setIfInBounds_toArray, List.set_cons_zero, List.set_cons_succ]
        refine wpAnyH_take (i := 2) (oi := { dst := some 42, op := Go.Op.fieldAddr 72 (Go.Operand.tmp 41) 1, type := 0, pos := "ring.go:158", after := #[{ on := 1, ground := Go.Ground.data }], guard := none }) (v := ?_) rfl (by kernel_rfl) (by kernel_rfl) (by kernel_rfl) (fun _ _ _ h => h) (Or.inl ⟨by rfl, ?hy3⟩) hs0 ?_
        case hy3 =>
          intro u hu
          obtain u0 := hu
          go_simp
          try with_reducible rfl
        simp only [Act.put, List.setIfInBounds_toArray, List.set_cons_zero, List.set_cons_succ]
        refine wpAnyH_take (i := 3) (oi := { dst := some 43, op := Go.Op.load 70 (Go.Operand.tmp 42), type := 70, pos := "ring.go:158", after := #[{ on := 2, ground := Go.Ground.data }], guard := none }) (v := ?_) rfl (by kernel_rfl) (by kernel_rfl) (by kernel_rfl) (fun _ _ _ h => h) (Or.inl ⟨by rfl, ?hy4⟩) hs0 ?_
        case hy4 =>
          intro u hu
          obtain u0 := hu
          go_simp
          try with_reducible rfl
        simp only [Act.put, List.setIfInBounds_toArray, List.set_cons_zero, List.set_cons_succ]
        refine wpAnyH_take (i := 4) (oi := { dst := some 44, op := Go.Op.move (Go.Operand.tmp 1), type := 9, pos := "ring.go:158", after := #[], guard := none }) (v := ?_) rfl (by kernel_rfl) (by kernel_rfl) (by kernel_rfl) (fun _ _ _ h => h) (Or.inl ⟨by rfl, ?hy5⟩) hs0 ?_
        case hy5 =>
          intro u hu
          obtain u0 := hu
          go_simp
          try with_reducible rfl
        simp only [Act.put, List.setIfInBounds_toArray, List.set_cons_zero, List.set_cons_succ]
        refine wpAnyH_take (i := 6) (oi := { dst := some 46, op := Go.Op.move (Go.Operand.tmp 2), type := 89, pos := "ring.go:158", after := #[], guard := none }) (v := ?_) rfl (by kernel_rfl) (by kernel_rfl) (by kernel_rfl) (fun _ _ _ h => h) (Or.inl ⟨by rfl, ?hy6⟩) hs0 ?_
        case hy6 =>
          intro u hu
          obtain u0 := hu
          go_simp
          try with_reducible rfl
        simp only [Act.put, List.setIfInBounds_toArray, List.set_cons_zero, List.set_cons_succ]
        refine wpAnyH_ready (rs := [5]) (by kernel_rfl) (by simp) ?_
        refine AllReadyH.cons (o := { dst := some 45, op := Go.Op.call { callee := Go.Callee.value (Go.Operand.func 62), args := #[Go.Operand.tmp 44], argTypes := #[9] }, type := 9, pos := "ring.go:158", after := #[{ on := 4, ground := Go.Ground.data }], guard := none }) rfl (fun K hK => ?_) AllReadyH.nil
        go_simp
        (with_reducible refine Calls.mono (kc _) ?_)
        clear kc
        rintro e u2 ⟨rfl, hbu⟩
        have hbu : Below w.heap.size w u2 := ⟨hbu.os, hbu.tape, hbu.output, hbu.size, hbu.block⟩
        obtain ⟨w3, hr, hm3, hg3, hz3⟩ := (HMP.out u2 hbu).store mt70 (by have := HMM.out; omega) HS.out.max (.pointer (some ⟨qb, 0, none⟩))
        have HBU := hide hbu
        have HM3 := hide hm3
        have HG3 := hide hg3
        have HZ3 := hide hz3
        have hs1 := HC.out u2 hbu
        have hs2 := HC3.out u2 w3 hbu hg3
        clear hbu hm3 hg3 hz3
        refine hK.out _ _ hs1 (fun _ => ?_)
        clear hK K
        try simp only [Act.put, List.setIfInBounds_toArray, List.set_cons_zero, List.set_cons_succ]
        refine wpAnyH_ready (rs := [7]) (by kernel_rfl) (by simp) ?_
        refine AllReadyH.cons (o := { dst := none, op := Go.Op.mapUpdate 70 (Go.Operand.tmp 43) (Go.Operand.tmp 45) (Go.Operand.tmp 46), type := 0, pos := "ring.go:158", after := #[{ on := 3, ground := Go.Ground.data }, { on := 5, ground := Go.Ground.data }, { on := 6, ground := Go.Ground.data }, { on := 5, ground := Go.Ground.chain }, { on := 0, ground := Go.Ground.phase }, { on := 1, ground := Go.Ground.phase }, { on := 2, ground := Go.Ground.phase }, { on := 3, ground := Go.Ground.phase }, { on := 4, ground := Go.Ground.phase }, { on := 5, ground := Go.Ground.phase }, { on := 6, ground := Go.Ground.phase }], guard := none }) rfl (fun K hK => ?_) AllReadyH.nil
        go_simp
        refine hK.out _ _ hs2 (fun _ => ?_)
        clear hK K
        try simp only [Act.put, List.setIfInBounds_toArray, List.set_cons_zero, List.set_cons_succ]
        refine wpAnyH_done (by kernel_rfl) ?_ _
        go_wp2_with fail
        go_end0
        exact ⟨rfl, (HEND.out u2 w3 HBU.out HG3.out HM3.out).2⟩
end Go.Proofs.Ytdbbdecmfnajiaa
