/-
  The law HeapFull. Own work.
-/
import Derived.Test.YtemlanalaihkoaaNb
namespace Go.Proofs.Ytemlanalaihkoaa
open Go.RowKit Go.Sort

theorem has_ins (id : Int) (x : Tm) (L : List Tm) : hasL id (insL x L) = (decide (id = x.2) || hasL id L) := by
  rw [Bool.eq_iff_iff, hasL_iff, Bool.or_eq_true, decide_eq_true_eq, hasL_iff]
  constructor
  · rintro ⟨y, hy, rfl⟩
    rcases (mem_ins _ _ _).1 hy with rfl | hy
    · exact .inl rfl
    · exact .inr ⟨y, hy, rfl⟩
  · rintro (rfl | ⟨y, hy, rfl⟩)
    · exact ⟨x, (mem_ins _ _ _).2 (.inl rfl), rfl⟩
    · exact ⟨y, (mem_ins _ _ _).2 (.inr hy), rfl⟩
theorem has_del2 (id i : Int) (L : List Tm) : hasL id (delL i L) = if id = i then false else hasL id L := by
  rw [Bool.eq_iff_iff, hasL_iff]
  by_cases e : id = i
  · rw [if_pos e]
    simp only [Bool.false_eq_true, iff_false]
    rintro ⟨y, hy, rfl⟩
    exact (mem_del.1 hy).2 e
  · rw [if_neg e, hasL_iff]
    constructor
    · rintro ⟨y, hy, rfl⟩
      exact ⟨y, (mem_del.1 hy).1, rfl⟩
    · rintro ⟨y, hy, rfl⟩
      exact ⟨y, mem_del.2 ⟨hy, e⟩, rfl⟩
/-- a 1 for each Id -/
def IM (L : List Tm) : Int → Option Int := fun id => if hasL id L then some 1 else none
theorem IM_some (L : List Tm) (id : Int) : (IM L id).isSome = hasL id L := by unfold IM; split <;> simp_all
theorem IM_ins (L : List Tm) (x : Tm) : setM (IM L) x.2 1 = IM (insL x L) := by
  funext id
  unfold setM IM
  rw [has_ins]
  by_cases e : id = x.2 <;> simp [e]
theorem IM_del (L : List Tm) (i : Int) : delM (IM L) i = IM (delL i L) := by
  funext id
  unfold delM IM
  rw [has_del2]
  by_cases e : id = i <;> simp [e]
structure HS (B : Nat) (w0 w : World) (h : Value) (most : Nat) (L : List Tm) (F : Nat → Prop) (mb : Nat) : Prop where
  hq : Hq B w0 w h most L F
  mp : Mp w mb L.length 3 (IM L)
  nb : ¬ F mb
  lo : B ≤ mb
theorem HS.below {B : Nat} {w0 w w' : World} {h : Value} {most : Nat} {L : List Tm} {F : Nat → Prop} {mb : Nat} (q : HS B w0 w h most L F mb) (hb : Below w.heap.size w w') : HS B w0 w' h most L F mb :=
  ⟨q.hq.below hb, q.mp.heap (hb.block _ q.mp.lt), q.nb, q.lo⟩
theorem store_IM {B : Nat} {w0 w : World} {h : Value} {most : Nat} {L : List Tm} {F : Nat → Prop} {mb : Nat} (x : Tm) (hx : hasL x.2 L = false) (hi : I64 x.2) (q : Hq B w0 w h most (insL x L) F) (hm : Mp w mb L.length 3 (IM L)) (hl : L.length ≤ 65536) (nb : ¬ F mb) (lo : B ≤ mb) :
    ∃ w2, (Instr.mapUpdate 76 (.map (some mb)) (.int .i64 x.2) (.int .i64 1)).run Try.prog w = .ok () w2 ∧ HS B w0 w2 h most (insL x L) F mb := by
  obtain ⟨w2, hr, m2, hg, -⟩ := hm.store mt76 (by omega) hi (show I64 1 by unfold I64; omega)
  rw [IM_some, hx, if_neg (by simp), IM_ins] at m2
  exact ⟨w2, hr, q.grown hg nb lo, by rw [len_ins]; exact m2, nb, lo⟩
theorem drop_IM {B : Nat} {w0 w : World} {h : Value} {most : Nat} {L r : List Tm} {y : Tm} {F : Nat → Prop} {mb : Nat} (hs : Srt (y :: r)) (hi : I64 y.2) (q : Hq B w0 w h most L F) (hm : Mp w mb (y :: r).length 3 (IM (y :: r))) (nb : ¬ F mb) (lo : B ≤ mb) (ty : TypeId) :
    ∃ w2, (Builtin.delete_ #[76, 3] ty #[.map (some mb), .int .i64 y.2]).run Try.prog w = .ok (.tuple #[]) w2 ∧ Hq B w0 w2 h most L F ∧ Mp w2 mb r.length 3 (IM r) := by
  obtain ⟨w2, hr, m2, hg, -⟩ := hm.drop mt76 hi ty
  rw [IM_some, hasL_iff.2 ⟨y, List.mem_cons_self, rfl⟩, if_pos rfl, IM_del, del_head hs] at m2
  exact ⟨w2, hr, q.grown hg nb lo, by simpa using m2⟩

set_option maxRecDepth 100000 in
set_option maxHeartbeats 12800000 in
theorem full_from {w : World} {v1 : Value} {l : List Tm} (hv : RdT w v1 l) (hr : ∀ x ∈ l, I64 x.1 ∧ I64 x.2) (n0 : Int) (h0 : 0 ≤ n0 ∧ n0 ≤ 255) (m : Nat) (hm : (m : Int) = 1 + n0 % 50) :
    Calls Try.prog 10 #[.int .u8 n0, v1] w fun e w' => e = .returned (.bool true) ∧ Below w.heap.size w w' := by
  have hm1 : 1 ≤ m := by omega
  have hm2 : m ≤ 50 := by omega
  have hrem : n0.tmod 50 = n0 % 50 := Int.tmod_eq_emod_of_nonneg h0.1
  have hmd : 1 + n0 % 50 = (m : Int) := hm.symm
  have hr0 : 0 ≤ n0 % 50 := by omega
  have hr1 : n0 % 50 < 50 := by omega
  have kn := new_any w m hm1 (by omega)
  have hmm := @run_makeMap Try.prog
  have HV := hide hv
  obtain ⟨ao, cap, rfl⟩ := hv.shape
  obtain ⟨n, HN⟩ := named l.length
  rw [← HN.out]
  have HR := hide hr
  clear hv hr hm
  go_enter Try.func10, Try.ntmps10
  go_wp2_with fail
  (with_reducible refine Calls.mono kn ?_)
  clear kn
  rintro e w1 ⟨h, rfl, F, k1, k2, k3⟩
  obtain ⟨hb, hhe, -⟩ := k1.ne
  subst hhe
  obtain ⟨w2, HW2⟩ := named (w1.alloc (.map #[] 0))
  obtain ⟨mb, HMB⟩ := named w1.heap.size
  have hb2 : Below w1.heap.size w1 w2 := by rw [HW2.out]; exact (Below.refl _ _).alloc (Nat.le_refl _) _
  have HQ : Hid (HS w.heap.size w w2 (.pointer (some ⟨hb, 0, none⟩)) m [] F mb) := by
    refine ⟨⟨k1.below hb2, k2, k3.trans (hb2.mono k3.size), Nat.le_trans k3.size hb2.size⟩, ?_, fun hF => ?_, ?_⟩
    · rw [HW2.out, HMB.out]; exact Mp.made w1 3
    · have := k1.sub _ hF; rw [HMB.out] at this; omega
    · rw [HMB.out]; exact k3.size
  clear k1 k2 k3 hb2
  go_wp2_with fail
  rw [← HW2.out, ← HMB.out]
  clear hmm hrem hmd hr0 hr1 h0 HW2 HMB
  go_loopw [9] (fun iv wr => ∃ (k : Nat) (L : List Tm) (F : Nat → Prop), iv = .int .i64 k ∧ k ≤ n ∧ k ≤ 100 ∧ Hid (HS w.heap.size w wr (.pointer (some ⟨hb, 0, none⟩)) m L F mb)) (fun iv _ => n - (intOf iv).toNat)
  case atStart => exact ⟨0, [], F, rfl, Nat.zero_le _, Nat.zero_le _, HQ⟩
  case round =>
    obtain ⟨k, L, F, rfl, hk, hk1, HK⟩ := hrel
    clear HQ
    by_cases hlt : k < n ∧ k < 100
    · obtain ⟨hlt, hlt1⟩ := hlt
      have hl : k < l.length := by rw [← HN.out]; exact hlt
      obtain ⟨b, off, hab, -, -⟩ := HV.out.at k hl
      cases hab
      have HXC : Hid (∀ u, Below w.heap.size w u → u.cell? ⟨b, off + k * 2, none⟩ = some (.int .i64 l[k].1) ∧ u.cell? ⟨b, off + k * 2 + 1, none⟩ = some (.int .i64 l[k].2)) := fun u hu => by
        obtain ⟨b', off', e, c⟩ := (HV.out.below hu).at k hl
        cases e
        exact c
      have hri := HR.out _ (List.getElem_mem hl)
      obtain ⟨x, HX⟩ := named l[k]
      rw [← HX.out] at HXC hri
      have hkI : (k : Int) < (n : Int) := by omega
      have hkI1 : (k : Int) < 100 := by omega
      have ka := all_any HK.out.hq.hp
      clear HX
      go_wp2_with fail
      (with_reducible refine Calls.mono ka ?_)
      clear ka
      rintro e w1 ⟨zv, rfl, ho, hb1⟩
      have K1 := hide (HK.out.below hb1)
      have HZ1 := hide ho
      clear HK ho hb1
      obtain ⟨a0, a1⟩ := HXC.out w1 K1.out.hq.bel
      cases hh : hasL x.2 L with
      | true =>
        have him : (IM L x.2).getD 0 = 1 := by unfold IM; rw [if_pos hh]; rfl
        have kp := put_there K1.out.hq.hp x hri.2 hh
        obtain ⟨x0, x1⟩ := x
        go_wp2_with fail
        (with_reducible refine Calls.mono kp ?_)
        clear kp a0 a1
        rintro e w2 ⟨rfl, hb2⟩
        have K2 := hide (K1.out.below hb2)
        have HZ2 : Hid (OwnT w2 _ zv L) := HZ1.out.below hb2
        obtain ⟨a0, a1⟩ := HXC.out w2 K2.out.hq.bel
        have hlk := K2.out.mp.look mt76 hri.2
        simp only [him] at hlk
        have ka := all_any K2.out.hq.hp
        clear K1 HZ1 hb2
        go_wp2_with fail
        (with_reducible refine Calls.mono ka ?_)
        clear ka
        rintro e w3 ⟨yv, rfl, ho, hb3⟩
        have K3 := hide (K2.out.below hb3)
        have ks := same_any (HZ2.out.below hb3).rd ho.rd (by have h1 := K3.out.hq.hp.len; omega)
        rw [decide_eq_true rfl] at ks
        clear K2 HZ2 hb3 ho
        go_wp2_with fail
        (with_reducible refine Calls.mono ks ?_)
        clear ks
        rintro e w4 ⟨rfl, hb4⟩
        have K4 := hide (K3.out.below hb4)
        clear K3 hb4
        have kl := len_any K4.out.hq.hp
        have hmz := K4.out.mp.len mt76 3
        have hle := K4.out.hq.hp.len.1
        obtain ⟨N, HNN⟩ := named (L).length
        rw [← HNN.out] at kl hmz hle
        have hleI : ¬ (m : Int) < (N : Int) := by omega
        go_wp2_with fail
        (with_reducible refine Calls.mono kl ?_)
        rintro e u1 ⟨rfl, rfl⟩
        go_wp2_with fail
        (with_reducible refine Calls.mono kl ?_)
        clear kl
        rintro e u2 ⟨rfl, rfl⟩
        go_wp2_with fail
        go_roundw
        case rel => exact ⟨k + 1, L, F, by go_num, hlt, hlt1, K4.out⟩
        case measure => simp [intOf]; omega
      | false =>
        have him : (IM L x.2).getD 0 = 0 := by unfold IM; rw [hh]; rfl
        by_cases hf : L.length = m
        · have kp := put_full K1.out.hq.hp x hri.2 hh hf
          have XP : Hid (∀ (u : World) (r : List Tm) (G : Nat → Prop), hasL x.2 r = false → r.length < m → Hp u (.pointer (some ⟨hb, 0, none⟩)) m r G → Calls Try.prog 14 #[.pointer (some ⟨hb, 0, none⟩), .agg #[.int .i64 x.1, .int .i64 x.2]] u fun e w' => e = .returned (.int .i64 0) ∧ ∃ G', Hp w' (.pointer (some ⟨hb, 0, none⟩)) m (insL x r) G' ∧ Step G u w' G') := fun u r G h1 h2 h3 => put_ok h3 x hri h1 h2
          have SP : Hid (∀ (u : World) (r : List Tm) (G : Nat → Prop), hasL x.2 r = false → Hq w.heap.size w u (.pointer (some ⟨hb, 0, none⟩)) m (insL x r) G → Mp u mb r.length 3 (IM r) → r.length ≤ 65536 → ¬ G mb → w.heap.size ≤ mb → ∃ w2, (Instr.mapUpdate 76 (.map (some mb)) (.int .i64 x.2) (.int .i64 1)).run Try.prog u = .ok () w2 ∧ HS w.heap.size w w2 (.pointer (some ⟨hb, 0, none⟩)) m (insL x r) G mb) := fun u r G h1 h2 h3 h4 h5 h6 => store_IM x h1 hri.2 h2 h3 h4 h5 h6
          obtain ⟨xt, HXT⟩ := named x
          rw [← HXT.out] at XP SP
          obtain ⟨x0, x1⟩ := x
          rw [HXT.out] at XP SP
          go_wp2_with fail
          (with_reducible refine Calls.mono kp ?_)
          clear kp a0 a1
          rintro e w2 ⟨rfl, hb2⟩
          have K2 := hide (K1.out.below hb2)
          have HZ2 : Hid (OwnT w2 _ zv L) := HZ1.out.below hb2
          obtain ⟨a0, a1⟩ := HXC.out w2 K2.out.hq.bel
          have hlk := K2.out.mp.look mt76 hri.2
          simp only [him] at hlk
          have hml := K2.out.mp.len mt76 3
          rw [hf] at hml
          have ka := all_any K2.out.hq.hp
          clear K1 HZ1 hb2
          go_wp2_with fail
          (with_reducible refine Calls.mono ka ?_)
          clear ka
          rintro e w3 ⟨yv, rfl, ho, hb3⟩
          have K3 := hide (K2.out.below hb3)
          have ks := same_any (HZ2.out.below hb3).rd ho.rd (by have h1 := K3.out.hq.hp.len; omega)
          rw [decide_eq_true rfl] at ks
          clear K2 HZ2 hb3 ho
          go_wp2_with fail
          (with_reducible refine Calls.mono ks ?_)
          clear ks
          rintro e w4 ⟨rfl, hb4⟩
          have K4 := hide (K3.out.below hb4)
          clear K3 hb4
          clear hml
          cases hL : L with
          | nil => rw [hL] at hf; simp at hf; omega
          | cons y r =>
            subst hL
            have K5 := hide K4.out
            have hsr := K5.out.hq.hp.srt
            have hyi := K5.out.hq.hp.rng y List.mem_cons_self
            have hhr : hasL (x0, x1).2 r = false := hasL_false.2 fun z hz => hasL_false.1 hh z (List.mem_cons_of_mem _ hz)
            have hrl : r.length < m := by simp only [List.length_cons] at hf; omega
            have kp := pop_yes K5.out.hq.hp
            have HSR := hide hsr
            have HYI := hide hyi
            clear K4 hlk a0 a1 hsr hyi him
            obtain ⟨y0, y1⟩ := y
            go_wp2_with fail
            (with_reducible refine Calls.mono kp ?_)
            clear kp
            rintro e w5 ⟨rfl, k1, k2⟩
            have q5 := K5.out.hq.step k1 k2
            have m5 := (K5.out.mp.step k2 K5.out.nb).1
            obtain ⟨w6, HW6⟩ := named (w5.alloc (.cells #[.int .i64 y0, .int .i64 y1] 30))
            obtain ⟨g, HG⟩ := named w5.heap.size
            have hb6 : Below w5.heap.size w5 w6 := by rw [HW6.out]; exact (Below.refl _ _).alloc (Nat.le_refl _) _
            have HC6 := hide (show w6.heap[g]? = some (.cells #[.int .i64 y0, .int .i64 y1] 30 (0, 0)) by rw [HW6.out, HG.out]; exact heap_new _ _)
            have HGF : Hid (¬ F g) := fun hF => by have := q5.hp.sub _ hF; rw [HG.out] at this; omega
            have Q6 := hide (q5.below hb6)
            have M6 := hide (m5.heap (hb6.block _ m5.lt))
            have HNB := hide K5.out.nb
            have HLO := hide K5.out.lo
            obtain ⟨a0, a1⟩ := HXC.out w6 Q6.out.bel
            have a0r := a0
            have a1r := a1
            rw [HW6.out] at a0r a1r
            have kp := XP.out w6 r F hhr hrl Q6.out.hp
            clear k1 k2 q5 m5 hb6 K5 XP
            go_wp2_with (rw [← HW6.out])
            (try rw [← HG.out])
            (with_reducible refine Calls.mono kp ?_)
            clear kp a0 a1 a0r a1r HW6 HG
            rintro e w7 ⟨rfl, G, k1, k2⟩
            have Q7 := hide (Q6.out.step k1 k2)
            obtain ⟨m7, nb7⟩ := M6.out.step k2 HNB.out
            obtain ⟨w8, hr8, q8, m8⟩ := drop_IM HSR.out HYI.out.2 Q7.out m7 nb7 HLO.out 0
            obtain ⟨w9, hr9, k9⟩ := SP.out w8 r G hhr q8 m8 (by omega) nb7 HLO.out
            obtain ⟨a0, a1⟩ := HXC.out w8 q8.bel
            have hc7 := (k2.chg.block g (lt_of HC6.out) HGF.out).trans HC6.out
            have d1 : w7.cell? ⟨g, 1, none⟩ = some (.int .i64 y1) := by rw [cell_of hc7]; rfl
            have K9 := hide k9
            obtain ⟨L9, HL9⟩ := named (insL (x0, x1) r)
            rw [← HL9.out] at K9
            clear k1 k2 m7 nb7 q8 m8 k9 hc7 Q6 Q7 M6 HC6 hhr hrl SP
            simp only at hr8 hr9
            have kl := len_any K9.out.hq.hp
            have hmz := K9.out.mp.len mt76 3
            have hle := K9.out.hq.hp.len.1
            obtain ⟨N, HNN⟩ := named (L9).length
            rw [← HNN.out] at kl hmz hle
            have hleI : ¬ (m : Int) < (N : Int) := by omega
            go_wp2_with fail
            (with_reducible refine Calls.mono kl ?_)
            rintro e u1 ⟨rfl, rfl⟩
            go_wp2_with fail
            (with_reducible refine Calls.mono kl ?_)
            clear kl
            rintro e u2 ⟨rfl, rfl⟩
            go_wp2_with fail
            go_roundw
            case rel => exact ⟨k + 1, L9, G, by go_num, hlt, hlt1, K9.out⟩
            case measure => simp [intOf]; omega
        · have hlm : L.length < m := by have := K1.out.hq.hp.len; omega
          have kp := put_ok K1.out.hq.hp x hri hh hlm
          have SP : Hid (∀ (u : World) (r : List Tm) (G : Nat → Prop), hasL x.2 r = false → Hq w.heap.size w u (.pointer (some ⟨hb, 0, none⟩)) m (insL x r) G → Mp u mb r.length 3 (IM r) → r.length ≤ 65536 → ¬ G mb → w.heap.size ≤ mb → ∃ w2, (Instr.mapUpdate 76 (.map (some mb)) (.int .i64 x.2) (.int .i64 1)).run Try.prog u = .ok () w2 ∧ HS w.heap.size w w2 (.pointer (some ⟨hb, 0, none⟩)) m (insL x r) G mb) := fun u r G h1 h2 h3 h4 h5 h6 => store_IM x h1 hri.2 h2 h3 h4 h5 h6
          obtain ⟨x0, x1⟩ := x
          go_wp2_with fail
          (with_reducible refine Calls.mono kp ?_)
          clear kp a0 a1
          rintro e w2 ⟨rfl, G, k1, k2⟩
          have q2 := K1.out.hq.step k1 k2
          obtain ⟨m2, nb2⟩ := K1.out.mp.step k2 K1.out.nb
          obtain ⟨a0, a1⟩ := HXC.out w2 q2.bel
          have hlk := m2.look mt76 hri.2
          simp only [him] at hlk
          have hml := m2.len mt76 3
          obtain ⟨w3, hr3, k3⟩ := SP.out w2 L G hh q2 m2 (by omega) nb2 K1.out.lo
          have K9 := hide k3
          obtain ⟨L9, HL9⟩ := named (insL (x0, x1) L)
          rw [← HL9.out] at K9
          obtain ⟨N0, HN0⟩ := named L.length
          rw [← HN0.out] at hml hlm
          have hlmI : ¬ (m : Int) ≤ (N0 : Int) := by omega
          clear k1 k2 q2 m2 nb2 k3 K1 HZ1 SP him hf
          have kl := len_any K9.out.hq.hp
          have hmz := K9.out.mp.len mt76 3
          have hle := K9.out.hq.hp.len.1
          obtain ⟨N, HNN⟩ := named (L9).length
          rw [← HNN.out] at kl hmz hle
          have hleI : ¬ (m : Int) < (N : Int) := by omega
          go_wp2_with fail
          (with_reducible refine Calls.mono kl ?_)
          rintro e u1 ⟨rfl, rfl⟩
          go_wp2_with fail
          (with_reducible refine Calls.mono kl ?_)
          clear kl
          rintro e u2 ⟨rfl, rfl⟩
          go_wp2_with fail
          go_roundw
          case rel => exact ⟨k + 1, L9, G, by go_num, hlt, hlt1, K9.out⟩
          case measure => simp [intOf]; omega
    · have HE := hide HK.out
      clear HK
      rcases (show ¬ (k : Int) < (n : Int) ∨ ((k : Int) < (n : Int) ∧ ¬ (k : Int) < 100) by omega) with h1 | ⟨h1, h2⟩
      all_goals
        have ka := awake_true wr
        clear hlt
        go_wp2_with fail
        (with_reducible refine Calls.mono ka ?_)
        clear ka
        rintro e w3 ⟨rfl, hb3⟩
        have HEND := hide (HE.out.hq.below hb3).bel
        clear hb3
        go_wp2_with fail
        go_ret
        exact ⟨rfl, HEND.out⟩

theorem full_walk (w : World) (n0 : Int) (h0 : 0 ≤ n0 ∧ n0 ≤ 255) (v1 : Value) (l : List Tm) (hv : RdT w v1 l) (hr : ∀ x ∈ l, I64 x.1 ∧ I64 x.2) :
    Calls Try.prog 10 #[.int .u8 n0, v1] w fun e w' => e = .returned (.bool true) ∧ Below w.heap.size w w' :=
  full_from hv hr n0 h0 (1 + n0 % 50).toNat (by omega)
end Go.Proofs.Ytemlanalaihkoaa
