/-
  made: a heap of timers, of each Id the first one; those that it has, by their Ids. Own work.
-/
import Derived.Test.YtemlanalaihkoaaMt
namespace Go.Proofs.Ytemlanalaihkoaa
open Go.RowKit Go.Sort

theorem getL_iff {L : List Tm} (h : Srt L) (id : Int) (y : Tm) : getL id L = some y ↔ y ∈ L ∧ y.2 = id := by
  constructor
  · intro e
    exact ⟨List.mem_of_find?_eq_some e, by simpa using List.find?_some e⟩
  · rintro ⟨hy, rfl⟩
    exact getL_of h hy
theorem getL_ins {L : List Tm} (h : Srt L) (x : Tm) (hx : hasL x.2 L = false) (id : Int) : getL id (insL x L) = if id = x.2 then some x else getL id L := by
  apply Option.ext
  intro y
  rw [getL_iff (h.ins hx), mem_ins]
  by_cases e : id = x.2
  · rw [if_pos e]
    constructor
    · rintro ⟨h1, h2⟩
      rcases h1 with rfl | h1
      · rfl
      · exact absurd (h2.trans e) (hasL_false.1 hx y h1)
    · intro h1
      have h1 := Option.some.inj h1
      subst h1
      exact ⟨.inl rfl, e.symm⟩
  · rw [if_neg e, getL_iff h]
    constructor
    · rintro ⟨h1, h2⟩
      rcases h1 with rfl | h1
      · exact absurd h2.symm e
      · exact ⟨h1, h2⟩
    · rintro ⟨h1, h2⟩
      exact ⟨.inr h1, h2⟩
theorem getL_del {L : List Tm} (h : Srt L) (i id : Int) : getL id (delL i L) = if id = i then none else getL id L := by
  apply Option.ext
  intro y
  rw [getL_iff (h.del i), mem_del]
  by_cases e : id = i
  · rw [if_pos e]
    constructor
    · rintro ⟨⟨_, h1⟩, h2⟩; exact absurd (h2.trans e) h1
    · intro h1; cases h1
  · rw [if_neg e, getL_iff h]
    constructor
    · rintro ⟨⟨h1, _⟩, h2⟩; exact ⟨h1, h2⟩
    · rintro ⟨h1, h2⟩; exact ⟨⟨h1, fun h3 => e (h2.symm.trans h3)⟩, h2⟩
/-- the Dues by their Ids -/
def LM (L : List Tm) : Int → Option Int := fun id => match getL id L with
  | some x => some x.1
  | none => none
theorem LM_some {L : List Tm} (h : Srt L) (id : Int) : (LM L id).isSome = hasL id L := by
  unfold LM
  cases e : getL id L with
  | some x =>
    obtain ⟨h1, h2⟩ := (getL_iff h id x).1 e
    exact (hasL_iff.2 ⟨x, h1, h2⟩).symm
  | none =>
    cases e2 : hasL id L with
    | false => rfl
    | true =>
      obtain ⟨x, h1, rfl⟩ := hasL_iff.1 e2
      rw [getL_of h h1] at e; cases e
theorem LM_at {L : List Tm} (h : Srt L) {x : Tm} (hx : x ∈ L) : LM L x.2 = some x.1 := by unfold LM; rw [getL_of h hx]
theorem LM_ins {L : List Tm} (h : Srt L) (x : Tm) (hx : hasL x.2 L = false) : setM (LM L) x.2 x.1 = LM (insL x L) := by
  funext id
  unfold setM LM
  rw [getL_ins h x hx]
  split <;> rfl
theorem LM_del {L : List Tm} (h : Srt L) (i : Int) : delM (LM L) i = LM (delL i L) := by
  funext id
  unfold delM LM
  rw [getL_del h]
  split <;> rfl

/-- a heap among new blocks, and a map of those that it has -/
structure HM (B : Nat) (w0 w : World) (h : Value) (most : Nat) (L : List Tm) (F : Nat → Prop) (mb : Nat) : Prop where
  hq : Hq B w0 w h most L F
  mp : Mp w mb L.length 2 (LM L)
  nb : ¬ F mb
  lo : B ≤ mb
theorem HM.below {B : Nat} {w0 w w' : World} {h : Value} {most : Nat} {L : List Tm} {F : Nat → Prop} {mb : Nat} (q : HM B w0 w h most L F mb) (hb : Below w.heap.size w w') : HM B w0 w' h most L F mb :=
  ⟨q.hq.below hb, q.mp.heap (hb.block _ q.mp.lt), q.nb, q.lo⟩
theorem Mp.step {w w' : World} {mb m : Nat} {e : TypeId} {l : Int → Option Int} {F G : Nat → Prop} (h : Mp w mb m e l) (hs : Step F w w' G) (hF : ¬ F mb) : Mp w' mb m e l ∧ ¬ G mb :=
  ⟨h.heap (hs.chg.block _ h.lt hF), fun hG => (hs.new _ hG).elim hF fun h' => by have := h.lt; omega⟩
/-- the heap is as it was where the map is written -/
theorem Hq.grown {B : Nat} {w0 w w' : World} {h : Value} {most : Nat} {L : List Tm} {F : Nat → Prop} {mb : Nat} (q : Hq B w0 w h most L F) (hg : w.grownBy w' (some mb)) (hF : ¬ F mb) (hlo : B ≤ mb) : Hq B w0 w' h most L F :=
  ⟨q.hp.heap hg.size fun b hb => hg.block b (q.hp.sub b hb) (fun e => hF (Option.some.inj e ▸ hb)), q.new, q.bel.trans ((Below.refl _ _).grown hg q.le fun k hk => by cases hk; exact hlo), Nat.le_trans q.le hg.size⟩
theorem HM.len {B : Nat} {w0 w : World} {h : Value} {most : Nat} {L : List Tm} {F : Nat → Prop} {mb : Nat} (q : HM B w0 w h most L F mb) : L.length ≤ most ∧ most ≤ 65536 := q.hq.hp.len
/-- one is put into the heap: then into the map -/
theorem HM.put {B : Nat} {w0 w w1 : World} {h : Value} {most : Nat} {L : List Tm} {F G : Nat → Prop} {mb : Nat} (q : HM B w0 w h most L F mb) (x : Tm) (hx : hasL x.2 L = false) (hi : I64 x.1 ∧ I64 x.2) (k1 : Hp w1 h most (insL x L) G) (k2 : Step F w w1 G) :
    ∃ w2, (Instr.mapUpdate 65 (.map (some mb)) (.int .i64 x.2) (.int .i64 x.1)).run Try.prog w1.drew = .ok () w2 ∧ HM B w0 w2 h most (insL x L) G mb := by
  have hl := q.len
  obtain ⟨m1, m2⟩ := q.mp.step k2 q.nb
  have m1' : Mp w1.drew mb L.length 2 (LM L) := m1.heap rfl
  obtain ⟨w2, hr, hm, hg, -⟩ := m1'.store mt65 (by omega) hi.2 hi.1
  rw [LM_some q.hq.hp.srt, hx, if_neg (by simp), LM_ins q.hq.hp.srt x hx] at hm
  have hlen : (insL x L).length = L.length + 1 := len_ins x L
  exact ⟨w2, hr, (q.hq.step k1 k2).grown ⟨hg.os, hg.tape, hg.output, hg.size, hg.block⟩ m2 q.lo, by rw [hlen]; exact hm, m2, q.lo⟩

/-- of each Id the first one -/
def fst1 (l : List Tm) : List Tm := l.foldl (fun L x => if hasL x.2 L then L else insL x L) []
theorem fst1_snoc (l : List Tm) (x : Tm) : fst1 (l ++ [x]) = if hasL x.2 (fst1 l) then fst1 l else insL x (fst1 l) := by
  unfold fst1
  rw [List.foldl_append]
  rfl
theorem fst1_len (l : List Tm) : (fst1 l).length ≤ l.length := by
  have h : ∀ (l L : List Tm), (l.foldl (fun L x => if hasL x.2 L then L else insL x L) L).length ≤ L.length + l.length := by
    intro l
    induction l with
    | nil => intro L; simp
    | cons x r ih =>
      intro L
      rw [List.foldl_cons]
      have := ih (if hasL x.2 L then L else insL x L)
      split at this
      · simp only [List.length_cons]; rw [if_pos ‹_›]; omega
      · simp only [List.length_cons]; rw [if_neg ‹_›]; rw [len_ins] at this; omega
  have := h l []
  unfold fst1
  simpa using this
theorem fst1_take (l : List Tm) (k : Nat) (h : k < l.length) : fst1 (l.take (k + 1)) = if hasL l[k].2 (fst1 (l.take k)) then fst1 (l.take k) else insL l[k] (fst1 (l.take k)) := by rw [List.take_succ_eq_append_getElem h, fst1_snoc]

set_option maxRecDepth 100000 in
set_option maxHeartbeats 3200000 in
theorem made_any {w : World} {v : Value} {l : List Tm} (hv : RdT w v l) (hr : ∀ x ∈ l, I64 x.1 ∧ I64 x.2) :
    Calls Try.prog 30 #[v] w fun e w' => ∃ h mb, e = .returned (.tuple #[h, .map (some mb), .bool true]) ∧ ∃ F, HM w.heap.size w w' h 1000 (fst1 (l.take 300)) F mb := by
  have kn := new_any w 1000 (by omega) (by omega)
  have hmm := @run_makeMap Try.prog
  have HV := hide hv
  obtain ⟨ao, cap, rfl⟩ := hv.shape
  obtain ⟨n, HN⟩ := named l.length
  rw [← HN.out]
  have HR := hide hr
  clear hv hr
  go_enter Try.func30, Try.ntmps30
  go_wp2_with fail
  (with_reducible refine Calls.mono kn ?_)
  clear kn
  rintro e w1 ⟨h, rfl, F, k1, k2, k3⟩
  obtain ⟨hb, hhe, -⟩ := k1.ne
  subst hhe
  obtain ⟨w2, HW2⟩ := named (w1.alloc (.map #[] 0))
  obtain ⟨mb, HMB⟩ := named w1.heap.size
  have hb2 : Below w1.heap.size w1 w2 := by rw [HW2.out]; exact (Below.refl _ _).alloc (Nat.le_refl _) _
  have HQ : Hid (HM w.heap.size w w2 (.pointer (some ⟨hb, 0, none⟩)) 1000 (fst1 (l.take 0)) F mb) := by
    refine ⟨⟨k1.below hb2, k2, k3.trans (hb2.mono k3.size), Nat.le_trans k3.size hb2.size⟩, ?_, fun hF => ?_, ?_⟩
    · rw [HW2.out, HMB.out]; exact Mp.made w1 2
    · have := k1.sub _ hF; rw [HMB.out] at this; omega
    · rw [HMB.out]; exact k3.size
  clear k1 k2 k3 hb2
  go_wp2_with fail
  rw [← HW2.out, ← HMB.out]
  clear hmm
  go_loopw [8] (fun i wr => ∃ k F, k ≤ n ∧ k ≤ 300 ∧ i = .int .i64 (k : Nat) ∧ Hid (HM w.heap.size w wr (.pointer (some ⟨hb, 0, none⟩)) 1000 (fst1 (l.take k)) F mb)) (fun i _ => n - (intOf i).toNat)
  case atStart => exact ⟨0, F, Nat.zero_le _, Nat.zero_le _, rfl, HQ⟩
  case round =>
    obtain ⟨k, F, hk, hk3, rfl, HK⟩ := hrel
    clear HQ
    by_cases hlt : k < n ∧ k < 300
    · obtain ⟨hlt, hlt3⟩ := hlt
      have hl : k < l.length := by rw [← HN.out]; exact hlt
      obtain ⟨b, off, hab, a0, a1⟩ := (HV.out.below HK.out.hq.bel).at k hl
      rw [HN.out] at HN
      cases hab
      have hkI : (k : Int) < (n : Int) := by omega
      have hkI3 : (k : Int) < 300 := by omega
      have hri := HR.out _ (List.getElem_mem hl)
      have hsrt := HK.out.hq.hp.srt
      have htk := fst1_take l k hl
      have hlook := HK.out.mp.look_ok mt65 hri.2
      rw [LM_some hsrt] at hlook
      obtain ⟨x, HX⟩ := named l[k]
      rw [← HX.out] at a0 a1 hri hlook htk
      obtain ⟨d, HD⟩ := named ((LM (fst1 (l.take k)) x.2).getD 0)
      rw [← HD.out] at hlook
      cases hh : hasL x.2 (fst1 (l.take k)) with
      | true =>
        rw [hh] at hlook htk
        rw [if_pos rfl] at htk
        have kp := put_there HK.out.hq.hp x hri.2 hh
        have HKB := hide (fun (w' : World) (hb : Below wr.heap.size wr w') => HK.out.below hb)
        rw [← htk] at HKB
        obtain ⟨x0, x1⟩ := x
        clear hh htk hsrt hri
        go_wp2_with fail
        (with_reducible refine Calls.mono kp ?_)
        clear kp
        rintro e w3 ⟨rfl, hb3⟩
        have HK2 := hide (HKB.out w3 hb3)
        clear hb3
        go_wp2_with fail
        go_roundw
        case rel => exact ⟨k + 1, F, hlt, hlt3, by go_num, HK2⟩
        case measure => simp [intOf]; omega
      | false =>
        rw [hh] at hlook htk
        rw [if_neg (by simp)] at htk
        have kp := put_ok HK.out.hq.hp x hri hh (by have := fst1_len (l.take k); rw [List.length_take] at this; omega)
        have HKP := hide (fun (w1 : World) (G : Nat → Prop) k1 k2 => HK.out.put (w1 := w1) (G := G) x hh hri k1 k2)
        rw [← htk] at HKP kp
        have HBL := hide HK.out.hq.bel
        have HA := hide (HV.out.below HK.out.hq.bel)
        have hblt := World.block_lt_of_cell? wr _ a0
        have hbF : ¬ F b := fun hF => by
          have h1 := HK.out.hq.new b hF
          obtain ⟨b', off', e', c0', -⟩ := HV.out.at k hl
          cases e'
          have := World.block_lt_of_cell? w _ c0'
          have h2 : b < w.heap.size := this
          omega
        have HBF := hide hbF
        obtain ⟨x0, x1⟩ := x
        clear hh htk hsrt hri hbF
        go_wp2_with fail
        (with_reducible refine Calls.mono kp ?_)
        clear kp
        rintro e w3 ⟨rfl, G, g1, g2⟩
        obtain ⟨w4, hr4, hm4⟩ := HKP.out w3 G g1 g2
        have HK4 := hide hm4
        have d0 : w3.cell? ⟨b, off + k * 2, none⟩ = some (.int .i64 x0) := by rw [g2.chg.cell hblt HBF.out]; exact a0
        have d1 : w3.cell? ⟨b, off + k * 2 + 1, none⟩ = some (.int .i64 x1) := by rw [g2.chg.cell hblt HBF.out]; exact a1
        have hs0 : w3.drew.cell? ⟨b, off + k * 2, none⟩ = some (.int .i64 x0) ∧ w3.drew.cell? ⟨b, off + k * 2 + 1, none⟩ = some (.int .i64 x1) := ⟨d0, d1⟩
        have hs1 : w4.cell? ⟨b, off + k * 2, none⟩ = some (.int .i64 x0) ∧ w4.cell? ⟨b, off + k * 2 + 1, none⟩ = some (.int .i64 x1) := by
          obtain ⟨b', off', e', c0', c1'⟩ := (HV.out.below hm4.hq.bel).at k hl
          cases e'
          rw [c0', c1']
          constructor
          · have := congrArg Prod.fst HX.out; simp only at this; rw [this]
          · have := congrArg Prod.snd HX.out; simp only at this; rw [this]
        clear hm4 g1 g2 a0 a1 hlook
        go_wp2_with fail
        go_region_held3 (fun w' => w'.cell? ⟨b, off + k * 2, none⟩ = some (.int .i64 x0) ∧ w'.cell? ⟨b, off + k * 2 + 1, none⟩ = some (.int .i64 x1)) (assumption) (fail)
        go_wp2_with fail
        go_roundw
        case rel => exact ⟨k + 1, G, hlt, hlt3, by go_num, HK4⟩
        case measure => simp [intOf]; omega
    · have HE : Hid (HM w.heap.size w wr (.pointer (some ⟨hb, 0, none⟩)) 1000 (fst1 (l.take 300)) F mb) := by
        have h1 := HK.out
        have : l.take k = l.take 300 := by
          rcases (show k = 300 ∨ (k = n ∧ k < 300) by omega) with rfl | ⟨rfl, h⟩
          · rfl
          · rw [List.take_of_length_le (by rw [← HN.out]; omega), List.take_of_length_le (by rw [← HN.out]; omega)]
        rw [this] at h1
        exact h1
      have kl := len_any HE.out.hq.hp
      have hml := HE.out.mp.len mt65 3
      obtain ⟨M, HM'⟩ := named (fst1 (l.take 300)).length
      rw [← HM'.out] at kl hml
      clear HK
      rcases (show ¬ (k : Int) < (n : Int) ∨ ((k : Int) < (n : Int) ∧ ¬ (k : Int) < 300) by omega) with h1 | ⟨h1, h2⟩
      all_goals
        clear hlt
        go_wp2_with fail
        (with_reducible refine Calls.mono kl ?_)
        clear kl
        rintro e w3 ⟨rfl, rfl⟩
        go_wp2_with fail
        go_ret3
        exact ⟨_, _, rfl, F, HE.out⟩
end Go.Proofs.Ytemlanalaihkoaa
