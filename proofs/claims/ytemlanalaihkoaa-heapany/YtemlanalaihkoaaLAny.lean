/-
  The law HeapAny. Own work.
-/
import Derived.Test.YtemlanalaihkoaaLAgain
import Derived.Test.YtemlanalaihkoaaLFull
import Derived.Test.YtemlanalaihkoaaHi
namespace Go.Proofs.Ytemlanalaihkoaa
open Go.RowKit Go.Sort

theorem del_ins2 {B : List Tm} (h : Srt B) (o y : Tm) (ho : hasL o.2 B = false) (hy : hasL y.2 (insL o B) = false) : delL o.2 (insL y (insL o B)) = insL y B := by
  have hyB : hasL y.2 B = false := by rw [has_ins] at hy; simp only [Bool.or_eq_false_iff] at hy; exact hy.2
  have hyo : y.2 ≠ o.2 := by rw [has_ins] at hy; simp only [Bool.or_eq_false_iff, decide_eq_false_iff_not] at hy; exact hy.1
  refine ord_ext (((h.ins ho).ins hy).del o.2).ord (h.ins hyB).ord fun x => ?_
  rw [mem_del, mem_ins, mem_ins, mem_ins]
  constructor
  · rintro ⟨rfl | rfl | h1, h2⟩
    · exact .inl rfl
    · exact absurd rfl h2
    · exact .inr h1
  · rintro (rfl | h1)
    · exact ⟨.inl rfl, hyo⟩
    · exact ⟨.inr (.inr h1), hasL_false.1 ho x h1⟩
theorem ins_del {M : List Tm} (h : Srt M) {z : Tm} (hz : z ∈ M) : insL z (delL z.2 M) = M := by
  refine ord_ext ((h.del z.2).ins (has_del z.2 M)).ord h.ord fun x => ?_
  rw [mem_ins, mem_del]
  constructor
  · rintro (rfl | h1)
    · exact hz
    · exact h1.1
  · intro hx
    by_cases e : x.2 = z.2
    · exact .inl (h.one hx hz e)
    · exact .inr ⟨hx, e⟩
theorem RdT.heap {w w' : World} {b off n cap : Nat} {l : List Tm} (h : RdT w (.slice (some ⟨b, off, none⟩) n cap) l) (hk : w'.heap[b]? = w.heap[b]?) : RdT w' (.slice (some ⟨b, off, none⟩) n cap) l := by
  obtain ⟨ao, c, hv, h1, h2, h3, h4⟩ := h
  cases hv
  refine ⟨_, _, rfl, h1, h2, h3, fun k hk' => ?_⟩
  obtain ⟨b', off', e, c0, c1⟩ := h4 k hk'
  cases e
  exact ⟨b, off, rfl, (World.cell?_of_block (w := w) (a := ⟨b, _, none⟩) hk).trans c0, (World.cell?_of_block (w := w) (a := ⟨b, _, none⟩) hk).trans c1⟩
theorem RdT.blk {w : World} {b off n cap : Nat} {l : List Tm} (h : RdT w (.slice (some ⟨b, off, none⟩) n cap) l) (hl : 0 < l.length) : b < w.heap.size := by
  obtain ⟨ao, c, hv, h1, h2, h3, h4⟩ := h
  cases hv
  obtain ⟨b', off', e, c0, c1⟩ := h4 0 hl
  cases e
  exact World.block_lt_of_cell? w _ c0
theorem RdT.cut1 {w : World} {g tcap p : Nat} {T : List Tm} (h : RdT w (.slice (some ⟨g, 0, none⟩) T.length tcap) T) (hp : p ≤ T.length) : RdT w (.slice (some ⟨g, 0, none⟩) p tcap) (T.take p) := by
  have h' := h
  obtain ⟨ao, c, hv, h1, h2, h3, h4⟩ := h'
  cases hv
  have hlen : (T.take p).length = p := by rw [List.length_take]; omega
  refine ⟨_, _, by rw [hlen], by omega, h2, h3, fun j hj => ?_⟩
  rw [hlen] at hj
  obtain ⟨b', off', e, c0, c1⟩ := h4 j (by omega)
  refine ⟨b', off', e, ?_, ?_⟩
  · rw [c0, List.getElem_take]
  · rw [c1, List.getElem_take]
theorem RdT.cut2 {w : World} {g tcap : Nat} {T : List Tm} (h : RdT w (.slice (some ⟨g, 0, none⟩) T.length tcap) T) (p : Nat) : RdT w (.slice (if tcap = p then some ⟨g, 0, none⟩ else some ⟨g, p * 2, none⟩) (T.length - p) (tcap - p)) (T.drop p) := by
  have h' := h
  obtain ⟨ao, c, hv, h1, h2, h3, h4⟩ := h'
  cases hv
  have hlen : (T.drop p).length = T.length - p := List.length_drop
  refine ⟨_, _, by rw [hlen], by omega, by omega, fun e => ?_, fun j hj => ?_⟩
  · split at e <;> cases e
  · rw [hlen] at hj
    obtain ⟨b', off', e, c0, c1⟩ := h4 (p + j) (by omega)
    cases e
    rw [if_neg (by omega)]
    refine ⟨g, p * 2, rfl, ?_, ?_⟩
    · rw [List.getElem_drop, ← c0]; congr 2; omega
    · rw [List.getElem_drop, ← c1]; congr 2; omega

set_option maxRecDepth 100000 in
set_option maxHeartbeats 12800000 in
theorem any_walk (w : World) (v0 : Value) (l : List Tm) (hv : RdT w v0 l) (hr : ∀ x ∈ l, I64 x.1 ∧ I64 x.2) (v1 : Value) (bs : List Int) (hu : RdU w v1 bs) (o : Tm) (ho : I64 o.1 ∧ I64 o.2) :
    Calls Try.prog 8 #[v0, v1, .agg #[.int .i64 o.1, .int .i64 o.2]] w fun e w' => e = .returned (.bool true) ∧ Below w.heap.size w w' := by
  obtain ⟨o0, o1⟩ := o
  obtain ⟨w1, HW1⟩ := named (w.alloc (.cells #[.int .i64 o0, .int .i64 o1] 30))
  obtain ⟨go, HGO⟩ := named w.heap.size
  have hb1 : Below w.heap.size w w1 := by rw [HW1.out]; exact (Below.refl _ _).alloc (Nat.le_refl _) _
  have HO1 := hide (show w1.heap[go]? = some (.cells #[.int .i64 o0, .int .i64 o1] 30 (0, 0)) by rw [HW1.out, HGO.out]; exact heap_new _ _)
  have km := made_any (hv.below hb1) hr
  have HB1 := hide hb1
  have HU1 := hide (hu.below hb1)
  have HOI := hide ho
  obtain ⟨ao, cap, rfl⟩ := hv.shape
  obtain ⟨bo, dap, rfl⟩ := hu.shape
  obtain ⟨n, HN⟩ := named l.length
  obtain ⟨nb, HNB⟩ := named bs.length
  rw [← HN.out] at km ⊢
  rw [← HNB.out] at HU1 ⊢
  obtain ⟨L, HL⟩ := named (fst1 (l.take 300))
  rw [← HL.out] at km
  have hl3 : L.length ≤ n := by have := fst1_len (l.take 300); rw [← HL.out, List.length_take] at this; rw [HN.out]; omega
  clear hv hr hu ho hb1
  go_enter Try.func8, Try.ntmps8
  go_wp2_with fail
  rw [← HW1.out]
  (try rw [← HGO.out])
  (with_reducible refine Calls.mono km ?_)
  clear km
  rintro e w2 ⟨h, mb, rfl, F, q⟩
  obtain ⟨hb, hhe, -⟩ := q.hq.hp.ne
  subst hhe
  have Q2 := hide q
  have kn := new_any w2 1000 (by omega) (by omega)
  clear q
  go_wp2_with fail
  (with_reducible refine Calls.mono kn ?_)
  clear kn
  rintro e w3 ⟨h', rfl, F', k1, k2, k3⟩
  obtain ⟨hb', hhe', -⟩ := k1.ne
  subst hhe'
  have Q3 := hide (Q2.out.below k3)
  have HD : Hid (∀ b, F' b → ¬ F b) := fun b h1 h2 => by have := k2 b h1; have := Q2.out.hq.hp.sub b h2; omega
  have P3 : Hid (Hq w1.heap.size w1 w3 (.pointer (some ⟨hb', 0, none⟩)) 1000 [] F') := ⟨k1, fun b hb => Nat.le_trans Q2.out.hq.le (k2 b hb), Q3.out.hq.bel, Q3.out.hq.le⟩
  have HMF : Hid (¬ F' mb) := fun h => by have := k2 mb h; have := Q2.out.mp.lt; omega
  have R3 : Hid (Hq w2.heap.size w2 w3 (.pointer (some ⟨hb', 0, none⟩)) 1000 [] F') := ⟨k1, k2, k3, k3.size⟩
  have HFW : Hid (∀ b, F b → b < w2.heap.size) := Q2.out.hq.hp.sub
  clear k1 k2 k3
  by_cases hn2 : 200 < n
  · have hnI : (200 : Int) < (n : Int) := by omega
    have ka := awake_true w3
    go_wp2_with fail
    (with_reducible refine Calls.mono ka ?_)
    clear ka
    rintro e w4 ⟨rfl, hb4⟩
    have HEND := hide (below_call HB1.out (Q3.out.hq.below hb4).bel)
    clear hb4
    go_wp2_with fail
    go_ret
    exact ⟨rfl, HEND.out⟩
  · have hnI : ¬ (200 : Int) < (n : Int) := by omega
    have ka := all_any Q3.out.hq.hp
    go_wp2_with fail
    (with_reducible refine Calls.mono ka ?_)
    clear ka
    rintro e w4 ⟨xv, rfl, hox, hb4⟩
    obtain ⟨xo, xcap, rfl⟩ := hox.shape
    have Q4 := hide (Q3.out.below hb4)
    have P4 := hide (P3.out.below hb4)
    have HX4 := hide hox.rd
    have R4 := hide (R3.out.below hb4)
    obtain ⟨N, HNN⟩ := named L.length
    have hN2 : N ≤ 200 := by have := HNN.out; omega
    rw [← HNN.out] at HX4 ⊢
    clear Q3 P3 R3 hox hb4
    go_wp2_with fail
    go_loopw [13, 49] (fun tv iv wr => ∃ (k : Nat) (T : List Tm), k ≤ N ∧ iv = .int .i64 k ∧ Hid (T.Perm (L.take k)) ∧ Hid (OwnT wr w4.heap.size tv T) ∧ Hid (Below w4.heap.size w4 wr)) (fun _ iv _ => N - (intOf iv).toNat)
    case atStart => exact ⟨0, [], Nat.zero_le _, rfl, List.Perm.refl _, OwnT.nil _ _, Below.refl _ _⟩
    case round =>
      obtain ⟨k, T, hk, rfl, HT, HO, HB⟩ := hrel
      by_cases hlt : k < N
      · have hkI : (k : Int) < (N : Int) := by omega
        have hTl : T.length = k := by have := HT.out.length_eq; rw [List.length_take] at this; have := HNN.out; omega
        have HXR := hide (show RdT w4 (.slice xo L.length xcap) L by rw [← HNN.out]; exact HX4.out)
        have hkl : k < L.length := by rw [← HNN.out]; exact hlt
        obtain ⟨bx, off, hab, c0, c1⟩ := (HXR.out.below HB.out).at k hkl
        subst hab
        have HPM : Hid (∀ p, (T.take p ++ [L[k]'hkl] ++ T.drop p).Perm (L.take (k + 1))) := fun p => by
          rw [List.take_succ_eq_append_getElem hkl]
          have h1 : (T.take p ++ [L[k]'hkl] ++ T.drop p).Perm ([L[k]'hkl] ++ (T.take p ++ T.drop p)) := by
            rw [← List.append_assoc]
            exact List.Perm.append_right _ List.perm_append_comm
          rw [List.take_append_drop] at h1
          exact h1.trans ((List.Perm.append_left _ HT.out).trans List.perm_append_comm)
        obtain ⟨x, HX⟩ := named (L[k]'hkl)
        rw [← HX.out] at c0 c1 HPM
        obtain ⟨x0, x1⟩ := x
        have hs0 : wr.drew.cell? ⟨bx, off + k * 2, none⟩ = some (.int .i64 x0) ∧ wr.drew.cell? ⟨bx, off + k * 2 + 1, none⟩ = some (.int .i64 x1) := ⟨c0, c1⟩
        have hk2 : k ≤ 200 := by omega
        have HW4 := hide HB.out.size
        have hcs := HO.out.2
        have HZ0 := hide ((Below.refl wr.heap.size wr).drew)
        have HSA : Hid (∀ u, Below wr.heap.size wr u → u.cell? ⟨bx, off + k * 2, none⟩ = some (.int .i64 x0) ∧ u.cell? ⟨bx, off + k * 2 + 1, none⟩ = some (.int .i64 x1)) := fun u hu => by
          have hlb := World.block_lt_of_cell? wr _ c0
          have hc := fun q => hu.cell (p := ⟨bx, q, none⟩) hlb
          exact ⟨(hc _).trans c0, (hc _).trans c1⟩
        rcases hcs with ⟨htv, hT0⟩ | ⟨g, tcap, cur, htv, hbg, hg, hcap, hcm, hcz, htk⟩
        · have hk0 : k = 0 := by omega
          have hTn : T = [] := List.eq_nil_of_length_eq_zero (by omega)
          subst hk0
          subst htv
          subst hTn
          simp only [Nat.zero_mul, Nat.add_zero] at c0 c1 hs0 HSA
          have HC1 : Hid (∀ u, Below wr.heap.size wr u → RdT u (.slice none 0 0) (([] : List Tm).take 0)) := fun u _ => RdT.nil u
          have HC2 : Hid (∀ u, Below wr.heap.size wr u → RdT u (.slice none 0 0) (([] : List Tm).drop 0)) := fun u _ => RdT.nil u
          by_cases hkb : 0 < nb
          · have hkbI : (0 : Int) < (nb : Int) := by omega
            obtain ⟨bb, boff, hbe, hbc⟩ := (HU1.out.below (below_call (show Below w1.heap.size w1 w4 from Q4.out.hq.bel) HB.out)).at 0 (by rw [← HNB.out]; exact hkb)
            subst hbe
            obtain ⟨by_, HBY⟩ := named (bs[0]'(by rw [← HNB.out]; exact hkb))
            rw [← HBY.out] at hbc
            simp only [Nat.add_zero] at hbc
            go_wp2_with fail
            refine wp_region_held_drew (S := (fun u => u.cell? ⟨bx, off, none⟩ = some (.int .i64 x0) ∧ u.cell? ⟨bx, off + 1, none⟩ = some (.int .i64 x1))) (by kernel_rfl) hs0 (fun _ => ?_)
            refine wpAnyH_take (i := 1) (oi := { dst := some 66, op := Go.Op.move (Go.Operand.tmp 13), type := 38, pos := "outright.go:114", after := #[], guard := none }) (v := ?_) rfl (by kernel_rfl) (by kernel_rfl) (by kernel_rfl) (fun _ _ _ h => h) (Or.inl ⟨by rfl, ?hy51⟩) hs0 ?_
            case hy51 =>
              intro u hu
              obtain ⟨u0, u1⟩ := hu
              go_simp
              try with_reducible rfl
            simp only [Act.put, List.setIfInBounds_toArray, List.set_cons_zero, List.set_cons_succ]
            refine wpAnyH_take (i := 2) (oi := { dst := some 67, op := Go.Op.move (Go.Operand.tmp 15), type := 3, pos := "outright.go:114", after := #[], guard := none }) (v := ?_) rfl (by kernel_rfl) (by kernel_rfl) (by kernel_rfl) (fun _ _ _ h => h) (Or.inl ⟨by rfl, ?hy52⟩) hs0 ?_
            case hy52 =>
              intro u hu
              obtain ⟨u0, u1⟩ := hu
              go_simp
              try with_reducible rfl
            simp only [Act.put, List.setIfInBounds_toArray, List.set_cons_zero, List.set_cons_succ]
            refine wpAnyH_take (i := 3) (oi := { dst := some 68, op := Go.Op.slice 38 (Go.Operand.tmp 66) none (some (Go.Operand.tmp 67)) none, type := 38, pos := "outright.go:114", after := #[{ on := 1, ground := Go.Ground.data }, { on := 2, ground := Go.Ground.data }], guard := none }) (v := ?_) rfl (by kernel_rfl) (by kernel_rfl) (by kernel_rfl) (fun _ _ _ h => h) (Or.inl ⟨by rfl, ?hy53⟩) hs0 ?_
            case hy53 =>
              intro u hu
              obtain ⟨u0, u1⟩ := hu
              go_simp
              try with_reducible rfl
            simp only [Act.put, List.setIfInBounds_toArray, List.set_cons_zero, List.set_cons_succ]
            refine wpAnyH_take (i := 5) (oi := { dst := some 70, op := Go.Op.move (Go.Operand.tmp 12), type := 38, pos := "outright.go:114", after := #[], guard := none }) (v := ?_) rfl (by kernel_rfl) (by kernel_rfl) (by kernel_rfl) (fun _ _ _ h => h) (Or.inl ⟨by rfl, ?hy54⟩) hs0 ?_
            case hy54 =>
              intro u hu
              obtain ⟨u0, u1⟩ := hu
              go_simp
              try with_reducible rfl
            simp only [Act.put, List.setIfInBounds_toArray, List.set_cons_zero, List.set_cons_succ]
            refine wpAnyH_take (i := 6) (oi := { dst := some 71, op := Go.Op.move (Go.Operand.tmp 14), type := 3, pos := "outright.go:114", after := #[], guard := none }) (v := ?_) rfl (by kernel_rfl) (by kernel_rfl) (by kernel_rfl) (fun _ _ _ h => h) (Or.inl ⟨by rfl, ?hy55⟩) hs0 ?_
            case hy55 =>
              intro u hu
              obtain ⟨u0, u1⟩ := hu
              go_simp
              try with_reducible rfl
            simp only [Act.put, List.setIfInBounds_toArray, List.set_cons_zero, List.set_cons_succ]
            refine wpAnyH_take (i := 7) (oi := { dst := some 72, op := Go.Op.indexAddr 38 (Go.Operand.tmp 70) (Go.Operand.tmp 71), type := 0, pos := "outright.go:114", after := #[{ on := 5, ground := Go.Ground.data }, { on := 6, ground := Go.Ground.data }], guard := none }) (v := ?_) rfl (by kernel_rfl) (by kernel_rfl) (by kernel_rfl) (fun _ _ _ h => h) (Or.inl ⟨by rfl, ?hy56⟩) hs0 ?_
            case hy56 =>
              intro u hu
              obtain ⟨u0, u1⟩ := hu
              go_simp
              try with_reducible rfl
            simp only [Act.put, List.setIfInBounds_toArray, List.set_cons_zero, List.set_cons_succ]
            refine wpAnyH_take (i := 8) (oi := { dst := some 73, op := Go.Op.load 30 (Go.Operand.tmp 72), type := 30, pos := "outright.go:114", after := #[{ on := 7, ground := Go.Ground.data }], guard := none }) (v := ?_) rfl (by kernel_rfl) (by kernel_rfl) (by kernel_rfl) (fun _ _ _ h => h) (Or.inl ⟨by rfl, ?hy57⟩) hs0 ?_
            case hy57 =>
              intro u hu
              obtain ⟨u0, u1⟩ := hu
              go_simp
              try with_reducible rfl
            simp only [Act.put, List.setIfInBounds_toArray, List.set_cons_zero, List.set_cons_succ]
            refine wpAnyH_take (i := 11) (oi := { dst := some 76, op := Go.Op.move (Go.Operand.tmp 13), type := 38, pos := "outright.go:114", after := #[], guard := none }) (v := ?_) rfl (by kernel_rfl) (by kernel_rfl) (by kernel_rfl) (fun _ _ _ h => h) (Or.inl ⟨by rfl, ?hy58⟩) hs0 ?_
            case hy58 =>
              intro u hu
              obtain ⟨u0, u1⟩ := hu
              go_simp
              try with_reducible rfl
            simp only [Act.put, List.setIfInBounds_toArray, List.set_cons_zero, List.set_cons_succ]
            refine wpAnyH_take (i := 12) (oi := { dst := some 77, op := Go.Op.move (Go.Operand.tmp 15), type := 3, pos := "outright.go:114", after := #[], guard := none }) (v := ?_) rfl (by kernel_rfl) (by kernel_rfl) (by kernel_rfl) (fun _ _ _ h => h) (Or.inl ⟨by rfl, ?hy59⟩) hs0 ?_
            case hy59 =>
              intro u hu
              obtain ⟨u0, u1⟩ := hu
              go_simp
              try with_reducible rfl
            simp only [Act.put, List.setIfInBounds_toArray, List.set_cons_zero, List.set_cons_succ]
            refine wpAnyH_take (i := 13) (oi := { dst := some 78, op := Go.Op.slice 38 (Go.Operand.tmp 76) (some (Go.Operand.tmp 77)) none none, type := 38, pos := "outright.go:114", after := #[{ on := 11, ground := Go.Ground.data }, { on := 12, ground := Go.Ground.data }], guard := none }) (v := ?_) rfl (by kernel_rfl) (by kernel_rfl) (by kernel_rfl) (fun _ _ _ h => h) (Or.inl ⟨by rfl, ?hy60⟩) hs0 ?_
            case hy60 =>
              intro u hu
              obtain ⟨u0, u1⟩ := hu
              go_simp
              try with_reducible rfl
            simp only [Act.put, List.setIfInBounds_toArray, List.set_cons_zero, List.set_cons_succ]
            refine wpAnyH_ready (rs := [0, 9]) (by kernel_rfl) (by simp) ?_
            refine AllReadyH.cons (o := { dst := some 65, op := Go.Op.buildSlice 38 0 #[], type := 38, pos := "outright.go:114", after := #[], guard := none }) rfl (fun K hK => ?b61_0) (AllReadyH.cons (o := { dst := some 74, op := Go.Op.buildSlice 38 1 #[(0, Go.Operand.tmp 73)], type := 38, pos := "outright.go:114", after := #[{ on := 8, ground := Go.Ground.data }], guard := none }) rfl (fun K hK => ?b61_9) AllReadyH.nil)
            case' b61_0 =>
              obtain ⟨u1, HU1⟩ := named ((wr.alloc (.cells #[] 30)).drew)
              have hb : Below wr.heap.size wr u1 := by rw [HU1.out]; exact ((Below.refl _ _).alloc (Nat.le_refl _) _).drew
              have HZ1 := hide hb
              have hsz1 : wr.heap.size < u1.heap.size := by rw [HU1.out]; simp
              have HE1 := hide (show OwnT u1 wr.heap.size (.slice (some ⟨wr.heap.size, 0, none⟩) 0 0) [] by rw [HU1.out]; exact ((OwnT.empty _).heap (fun _ _ => rfl)).mono HZ0.out.size)
              clear hb
              go_simp
              rw [← HU1.out]
              have hs1 := HSA.out _ HZ1.out
              refine hK.out _ _ hs1 (fun _ => ?_)
              clear hK K
              try simp only [Act.put, List.setIfInBounds_toArray, List.set_cons_zero, List.set_cons_succ]
              refine wpAnyH_ready (rs := [4, 9]) (by kernel_rfl) (by simp) ?_
              refine AllReadyH.cons (o := { dst := some 69, op := Go.Op.call { callee := Go.Callee.builtin Go.Builtin.append, args := #[Go.Operand.tmp 65, Go.Operand.tmp 68], argTypes := #[38, 38] }, type := 38, pos := "outright.go:114", after := #[{ on := 0, ground := Go.Ground.data }, { on := 3, ground := Go.Ground.data }], guard := none }) rfl (fun K hK => ?b62_4) (AllReadyH.cons (o := { dst := some 74, op := Go.Op.buildSlice 38 1 #[(0, Go.Operand.tmp 73)], type := 38, pos := "outright.go:114", after := #[{ on := 8, ground := Go.Ground.data }], guard := none }) rfl (fun K hK => ?b62_9) AllReadyH.nil)
              case' b62_4 =>
                obtain ⟨v4, u2, hr, ho, hg, -⟩ := HE1.out.appendRd (HC1.out _ HZ1.out) (by simp; try omega) HZ1.out.size 38
                have HZ2 := hide (HZ1.out.grown hg HZ1.out.size fun k hk => (HE1.out.lt k hk).1)
                rw [List.nil_append] at ho
                have HE2 := hide ho
                have HR := hide hr
                clear hr ho hg
                refine step_append_runI rfl (.tmp 65) (.tmp 68) 38 38 rfl (.slice (some ⟨wr.heap.size, 0, none⟩) 0 0) (.slice none 0 0) (by simp [Act.eval]) (by simp [Act.eval]) HR.out ?_
                clear HR
                have hs2 := HSA.out _ HZ2.out
                refine hK.out _ _ hs2 (fun _ => ?_)
                clear hK K
                try simp only [Act.put, List.setIfInBounds_toArray, List.set_cons_zero, List.set_cons_succ]
                refine wpAnyH_ready (rs := [9]) (by kernel_rfl) (by simp) ?_
                refine AllReadyH.cons (o := { dst := some 74, op := Go.Op.buildSlice 38 1 #[(0, Go.Operand.tmp 73)], type := 38, pos := "outright.go:114", after := #[{ on := 8, ground := Go.Ground.data }], guard := none }) rfl (fun K hK => ?_) AllReadyH.nil
                obtain ⟨u3, HU3⟩ := named ((u2.alloc (.cells #[.int .i64 x0, .int .i64 x1] 30)))
                have hb : Below u2.heap.size u2 u3 := by rw [HU3.out]; exact ((Below.refl _ _).alloc (Nat.le_refl _) _)
                have HZ3 := hide (below_call HZ2.out hb)
                have HS3 := hide (show RdT u3 (.slice (some ⟨u2.heap.size, 0, none⟩) 1 1) [(x0, x1)] by rw [HU3.out]; exact (RdT.lit _ [(x0, x1)] 1 _ rfl rfl (by simp)))
                have HE3 := hide (HE2.out.below hb)
                clear hb
                go_simp
                rw [← HU3.out]
                have hs3 := HSA.out _ HZ3.out
                refine hK.out _ _ hs3 (fun _ => ?_)
                clear hK K
                try simp only [Act.put, List.setIfInBounds_toArray, List.set_cons_zero, List.set_cons_succ]
                refine wpAnyH_ready (rs := [10]) (by kernel_rfl) (by simp) ?_
                refine AllReadyH.cons (o := { dst := some 75, op := Go.Op.call { callee := Go.Callee.builtin Go.Builtin.append, args := #[Go.Operand.tmp 69, Go.Operand.tmp 74], argTypes := #[38, 38] }, type := 38, pos := "outright.go:114", after := #[{ on := 4, ground := Go.Ground.data }, { on := 9, ground := Go.Ground.data }, { on := 4, ground := Go.Ground.chain }], guard := none }) rfl (fun K hK => ?_) AllReadyH.nil
                obtain ⟨v10, u4, hr, ho, hg, -⟩ := HE3.out.appendRd HS3.out (by simp; try omega) HZ3.out.size 38
                have HZ4 := hide (HZ3.out.grown hg HZ3.out.size fun k hk => (HE3.out.lt k hk).1)
                have HE4 := hide ho
                have HR := hide hr
                clear hr ho hg
                refine step_append_runI rfl (.tmp 69) (.tmp 74) 38 38 rfl v4 (.slice (some ⟨u2.heap.size, 0, none⟩) 1 1) (by simp [Act.eval]) (by simp [Act.eval]) HR.out ?_
                clear HR
                have hs4 := HSA.out _ HZ4.out
                refine hK.out _ _ hs4 (fun _ => ?_)
                clear hK K
                try simp only [Act.put, List.setIfInBounds_toArray, List.set_cons_zero, List.set_cons_succ]
                refine wpAnyH_ready (rs := [14]) (by kernel_rfl) (by simp) ?_
                refine AllReadyH.cons (o := { dst := some 79, op := Go.Op.call { callee := Go.Callee.builtin Go.Builtin.append, args := #[Go.Operand.tmp 75, Go.Operand.tmp 78], argTypes := #[38, 38] }, type := 38, pos := "outright.go:114", after := #[{ on := 10, ground := Go.Ground.data }, { on := 13, ground := Go.Ground.data }, { on := 10, ground := Go.Ground.chain }], guard := none }) rfl (fun K hK => ?_) AllReadyH.nil
                obtain ⟨v14, u5, hr, ho, hg, -⟩ := HE4.out.appendRd (HC2.out _ HZ4.out) (by simp; try omega) HZ4.out.size 38
                have HZ5 := hide (HZ4.out.grown hg HZ4.out.size fun k hk => (HE4.out.lt k hk).1)
                have HE5 := hide ho
                have HR := hide hr
                clear hr ho hg
                refine step_append_runI rfl (.tmp 75) (.tmp 78) 38 38 rfl v10 (.slice none 0 0) (by simp [Act.eval]) (by simp [Act.eval]) HR.out ?_
                clear HR
                have hs5 := HSA.out _ HZ5.out
                refine hK.out _ _ hs5 (fun _ => ?_)
                clear hK K
                try simp only [Act.put, List.setIfInBounds_toArray, List.set_cons_zero, List.set_cons_succ]
                refine wpAnyH_ready (rs := [15]) (by kernel_rfl) (by simp) ?_
                refine AllReadyH.cons (o := { dst := some 13, op := Go.Op.assign (Go.Operand.tmp 79), type := 38, pos := "outright.go:114", after := #[{ on := 14, ground := Go.Ground.data }, { on := 14, ground := Go.Ground.chain }, { on := 0, ground := Go.Ground.phase }, { on := 1, ground := Go.Ground.phase }, { on := 2, ground := Go.Ground.phase }, { on := 3, ground := Go.Ground.phase }, { on := 4, ground := Go.Ground.phase }, { on := 5, ground := Go.Ground.phase }, { on := 6, ground := Go.Ground.phase }, { on := 7, ground := Go.Ground.phase }, { on := 8, ground := Go.Ground.phase }, { on := 9, ground := Go.Ground.phase }, { on := 10, ground := Go.Ground.phase }, { on := 11, ground := Go.Ground.phase }, { on := 12, ground := Go.Ground.phase }, { on := 13, ground := Go.Ground.phase }, { on := 14, ground := Go.Ground.phase }], guard := none }) rfl (fun K hK => ?_) AllReadyH.nil
                go_simp
                have HE6 := HE5
                have HZ6 := HZ5
                have hs6 := HSA.out _ HZ6.out
                refine hK.out _ _ hs6 (fun _ => ?_)
                clear hK K
                try simp only [Act.put, List.setIfInBounds_toArray, List.set_cons_zero, List.set_cons_succ]
                refine wpAnyH_done (by kernel_rfl) ?_ _
                go_wp2_with fail
                go_roundw
                case rel => exact ⟨0 + 1, ([] : List Tm).take 0 ++ [(x0, x1)] ++ ([] : List Tm).drop 0, hlt, by go_num, HPM.out 0, HE6.out.mono HW4.out, below_call HB.out HZ6.out⟩
                case measure => simp [intOf]; omega
              case' b62_9 =>
                obtain ⟨u2, HU2⟩ := named ((u1.alloc (.cells #[.int .i64 x0, .int .i64 x1] 30)))
                have hb : Below u1.heap.size u1 u2 := by rw [HU2.out]; exact ((Below.refl _ _).alloc (Nat.le_refl _) _)
                have HZ2 := hide (below_call HZ1.out hb)
                have HS2 := hide (show RdT u2 (.slice (some ⟨u1.heap.size, 0, none⟩) 1 1) [(x0, x1)] by rw [HU2.out]; exact (RdT.lit _ [(x0, x1)] 1 _ rfl rfl (by simp)))
                have HE2 := hide (HE1.out.below hb)
                clear hb
                go_simp
                rw [← HU2.out]
                have hs2 := HSA.out _ HZ2.out
                refine hK.out _ _ hs2 (fun _ => ?_)
                clear hK K
                try simp only [Act.put, List.setIfInBounds_toArray, List.set_cons_zero, List.set_cons_succ]
                refine wpAnyH_ready (rs := [4]) (by kernel_rfl) (by simp) ?_
                refine AllReadyH.cons (o := { dst := some 69, op := Go.Op.call { callee := Go.Callee.builtin Go.Builtin.append, args := #[Go.Operand.tmp 65, Go.Operand.tmp 68], argTypes := #[38, 38] }, type := 38, pos := "outright.go:114", after := #[{ on := 0, ground := Go.Ground.data }, { on := 3, ground := Go.Ground.data }], guard := none }) rfl (fun K hK => ?_) AllReadyH.nil
                obtain ⟨v4, u3, hr, ho, hg, -⟩ := HE2.out.appendRd (HC1.out _ HZ2.out) (by simp; try omega) HZ2.out.size 38
                have HZ3 := hide (HZ2.out.grown hg HZ2.out.size fun k hk => (HE2.out.lt k hk).1)
                rw [List.nil_append] at ho
                have HE3 := hide ho
                have HR := hide hr
                have HS3 := hide (HS2.out.heap (hg.block _ (HS2.out.blk (by simp)) (by simp [Value.ownBlock]; omega)))
                clear hr ho hg
                refine step_append_runI rfl (.tmp 65) (.tmp 68) 38 38 rfl (.slice (some ⟨wr.heap.size, 0, none⟩) 0 0) (.slice none 0 0) (by simp [Act.eval]) (by simp [Act.eval]) HR.out ?_
                clear HR
                have hs3 := HSA.out _ HZ3.out
                refine hK.out _ _ hs3 (fun _ => ?_)
                clear hK K
                try simp only [Act.put, List.setIfInBounds_toArray, List.set_cons_zero, List.set_cons_succ]
                refine wpAnyH_ready (rs := [10]) (by kernel_rfl) (by simp) ?_
                refine AllReadyH.cons (o := { dst := some 75, op := Go.Op.call { callee := Go.Callee.builtin Go.Builtin.append, args := #[Go.Operand.tmp 69, Go.Operand.tmp 74], argTypes := #[38, 38] }, type := 38, pos := "outright.go:114", after := #[{ on := 4, ground := Go.Ground.data }, { on := 9, ground := Go.Ground.data }, { on := 4, ground := Go.Ground.chain }], guard := none }) rfl (fun K hK => ?_) AllReadyH.nil
                obtain ⟨v10, u4, hr, ho, hg, -⟩ := HE3.out.appendRd HS3.out (by simp; try omega) HZ3.out.size 38
                have HZ4 := hide (HZ3.out.grown hg HZ3.out.size fun k hk => (HE3.out.lt k hk).1)
                have HE4 := hide ho
                have HR := hide hr
                clear hr ho hg
                refine step_append_runI rfl (.tmp 69) (.tmp 74) 38 38 rfl v4 (.slice (some ⟨u1.heap.size, 0, none⟩) 1 1) (by simp [Act.eval]) (by simp [Act.eval]) HR.out ?_
                clear HR
                have hs4 := HSA.out _ HZ4.out
                refine hK.out _ _ hs4 (fun _ => ?_)
                clear hK K
                try simp only [Act.put, List.setIfInBounds_toArray, List.set_cons_zero, List.set_cons_succ]
                refine wpAnyH_ready (rs := [14]) (by kernel_rfl) (by simp) ?_
                refine AllReadyH.cons (o := { dst := some 79, op := Go.Op.call { callee := Go.Callee.builtin Go.Builtin.append, args := #[Go.Operand.tmp 75, Go.Operand.tmp 78], argTypes := #[38, 38] }, type := 38, pos := "outright.go:114", after := #[{ on := 10, ground := Go.Ground.data }, { on := 13, ground := Go.Ground.data }, { on := 10, ground := Go.Ground.chain }], guard := none }) rfl (fun K hK => ?_) AllReadyH.nil
                obtain ⟨v14, u5, hr, ho, hg, -⟩ := HE4.out.appendRd (HC2.out _ HZ4.out) (by simp; try omega) HZ4.out.size 38
                have HZ5 := hide (HZ4.out.grown hg HZ4.out.size fun k hk => (HE4.out.lt k hk).1)
                have HE5 := hide ho
                have HR := hide hr
                clear hr ho hg
                refine step_append_runI rfl (.tmp 75) (.tmp 78) 38 38 rfl v10 (.slice none 0 0) (by simp [Act.eval]) (by simp [Act.eval]) HR.out ?_
                clear HR
                have hs5 := HSA.out _ HZ5.out
                refine hK.out _ _ hs5 (fun _ => ?_)
                clear hK K
                try simp only [Act.put, List.setIfInBounds_toArray, List.set_cons_zero, List.set_cons_succ]
                refine wpAnyH_ready (rs := [15]) (by kernel_rfl) (by simp) ?_
                refine AllReadyH.cons (o := { dst := some 13, op := Go.Op.assign (Go.Operand.tmp 79), type := 38, pos := "outright.go:114", after := #[{ on := 14, ground := Go.Ground.data }, { on := 14, ground := Go.Ground.chain }, { on := 0, ground := Go.Ground.phase }, { on := 1, ground := Go.Ground.phase }, { on := 2, ground := Go.Ground.phase }, { on := 3, ground := Go.Ground.phase }, { on := 4, ground := Go.Ground.phase }, { on := 5, ground := Go.Ground.phase }, { on := 6, ground := Go.Ground.phase }, { on := 7, ground := Go.Ground.phase }, { on := 8, ground := Go.Ground.phase }, { on := 9, ground := Go.Ground.phase }, { on := 10, ground := Go.Ground.phase }, { on := 11, ground := Go.Ground.phase }, { on := 12, ground := Go.Ground.phase }, { on := 13, ground := Go.Ground.phase }, { on := 14, ground := Go.Ground.phase }], guard := none }) rfl (fun K hK => ?_) AllReadyH.nil
                go_simp
                have HE6 := HE5
                have HZ6 := HZ5
                have hs6 := HSA.out _ HZ6.out
                refine hK.out _ _ hs6 (fun _ => ?_)
                clear hK K
                try simp only [Act.put, List.setIfInBounds_toArray, List.set_cons_zero, List.set_cons_succ]
                refine wpAnyH_done (by kernel_rfl) ?_ _
                go_wp2_with fail
                go_roundw
                case rel => exact ⟨0 + 1, ([] : List Tm).take 0 ++ [(x0, x1)] ++ ([] : List Tm).drop 0, hlt, by go_num, HPM.out 0, HE6.out.mono HW4.out, below_call HB.out HZ6.out⟩
                case measure => simp [intOf]; omega
            case' b61_9 =>
              obtain ⟨u1, HU1⟩ := named ((wr.alloc (.cells #[.int .i64 x0, .int .i64 x1] 30)).drew)
              have hb : Below wr.heap.size wr u1 := by rw [HU1.out]; exact ((Below.refl _ _).alloc (Nat.le_refl _) _).drew
              have HZ1 := hide hb
              have hsz1 : wr.heap.size < u1.heap.size := by rw [HU1.out]; simp
              have HS1 := hide (show RdT u1 (.slice (some ⟨wr.heap.size, 0, none⟩) 1 1) [(x0, x1)] by rw [HU1.out]; exact (RdT.lit _ [(x0, x1)] 1 _ rfl rfl (by simp)).heap rfl)
              clear hb
              go_simp
              rw [← HU1.out]
              have hs1 := HSA.out _ HZ1.out
              refine hK.out _ _ hs1 (fun _ => ?_)
              clear hK K
              try simp only [Act.put, List.setIfInBounds_toArray, List.set_cons_zero, List.set_cons_succ]
              refine wpAnyH_ready (rs := [0]) (by kernel_rfl) (by simp) ?_
              refine AllReadyH.cons (o := { dst := some 65, op := Go.Op.buildSlice 38 0 #[], type := 38, pos := "outright.go:114", after := #[], guard := none }) rfl (fun K hK => ?_) AllReadyH.nil
              obtain ⟨u2, HU2⟩ := named ((u1.alloc (.cells #[] 30)))
              have hb : Below u1.heap.size u1 u2 := by rw [HU2.out]; exact ((Below.refl _ _).alloc (Nat.le_refl _) _)
              have HZ2 := hide (below_call HZ1.out hb)
              have HE2 := hide (show OwnT u2 wr.heap.size (.slice (some ⟨u1.heap.size, 0, none⟩) 0 0) [] by rw [HU2.out]; exact ((OwnT.empty _)).mono HZ1.out.size)
              have HS2 := hide (HS1.out.below hb)
              clear hb
              go_simp
              rw [← HU2.out]
              have hs2 := HSA.out _ HZ2.out
              refine hK.out _ _ hs2 (fun _ => ?_)
              clear hK K
              try simp only [Act.put, List.setIfInBounds_toArray, List.set_cons_zero, List.set_cons_succ]
              refine wpAnyH_ready (rs := [4]) (by kernel_rfl) (by simp) ?_
              refine AllReadyH.cons (o := { dst := some 69, op := Go.Op.call { callee := Go.Callee.builtin Go.Builtin.append, args := #[Go.Operand.tmp 65, Go.Operand.tmp 68], argTypes := #[38, 38] }, type := 38, pos := "outright.go:114", after := #[{ on := 0, ground := Go.Ground.data }, { on := 3, ground := Go.Ground.data }], guard := none }) rfl (fun K hK => ?_) AllReadyH.nil
              obtain ⟨v4, u3, hr, ho, hg, -⟩ := HE2.out.appendRd (HC1.out _ HZ2.out) (by simp; try omega) HZ2.out.size 38
              have HZ3 := hide (HZ2.out.grown hg HZ2.out.size fun k hk => (HE2.out.lt k hk).1)
              rw [List.nil_append] at ho
              have HE3 := hide ho
              have HR := hide hr
              have HS3 := hide (HS2.out.heap (hg.block _ (HS2.out.blk (by simp)) (by simp [Value.ownBlock]; omega)))
              clear hr ho hg
              refine step_append_runI rfl (.tmp 65) (.tmp 68) 38 38 rfl (.slice (some ⟨u1.heap.size, 0, none⟩) 0 0) (.slice none 0 0) (by simp [Act.eval]) (by simp [Act.eval]) HR.out ?_
              clear HR
              have hs3 := HSA.out _ HZ3.out
              refine hK.out _ _ hs3 (fun _ => ?_)
              clear hK K
              try simp only [Act.put, List.setIfInBounds_toArray, List.set_cons_zero, List.set_cons_succ]
              refine wpAnyH_ready (rs := [10]) (by kernel_rfl) (by simp) ?_
              refine AllReadyH.cons (o := { dst := some 75, op := Go.Op.call { callee := Go.Callee.builtin Go.Builtin.append, args := #[Go.Operand.tmp 69, Go.Operand.tmp 74], argTypes := #[38, 38] }, type := 38, pos := "outright.go:114", after := #[{ on := 4, ground := Go.Ground.data }, { on := 9, ground := Go.Ground.data }, { on := 4, ground := Go.Ground.chain }], guard := none }) rfl (fun K hK => ?_) AllReadyH.nil
              obtain ⟨v10, u4, hr, ho, hg, -⟩ := HE3.out.appendRd HS3.out (by simp; try omega) HZ3.out.size 38
              have HZ4 := hide (HZ3.out.grown hg HZ3.out.size fun k hk => (HE3.out.lt k hk).1)
              have HE4 := hide ho
              have HR := hide hr
              clear hr ho hg
              refine step_append_runI rfl (.tmp 69) (.tmp 74) 38 38 rfl v4 (.slice (some ⟨wr.heap.size, 0, none⟩) 1 1) (by simp [Act.eval]) (by simp [Act.eval]) HR.out ?_
              clear HR
              have hs4 := HSA.out _ HZ4.out
              refine hK.out _ _ hs4 (fun _ => ?_)
              clear hK K
              try simp only [Act.put, List.setIfInBounds_toArray, List.set_cons_zero, List.set_cons_succ]
              refine wpAnyH_ready (rs := [14]) (by kernel_rfl) (by simp) ?_
              refine AllReadyH.cons (o := { dst := some 79, op := Go.Op.call { callee := Go.Callee.builtin Go.Builtin.append, args := #[Go.Operand.tmp 75, Go.Operand.tmp 78], argTypes := #[38, 38] }, type := 38, pos := "outright.go:114", after := #[{ on := 10, ground := Go.Ground.data }, { on := 13, ground := Go.Ground.data }, { on := 10, ground := Go.Ground.chain }], guard := none }) rfl (fun K hK => ?_) AllReadyH.nil
              obtain ⟨v14, u5, hr, ho, hg, -⟩ := HE4.out.appendRd (HC2.out _ HZ4.out) (by simp; try omega) HZ4.out.size 38
              have HZ5 := hide (HZ4.out.grown hg HZ4.out.size fun k hk => (HE4.out.lt k hk).1)
              have HE5 := hide ho
              have HR := hide hr
              clear hr ho hg
              refine step_append_runI rfl (.tmp 75) (.tmp 78) 38 38 rfl v10 (.slice none 0 0) (by simp [Act.eval]) (by simp [Act.eval]) HR.out ?_
              clear HR
              have hs5 := HSA.out _ HZ5.out
              refine hK.out _ _ hs5 (fun _ => ?_)
              clear hK K
              try simp only [Act.put, List.setIfInBounds_toArray, List.set_cons_zero, List.set_cons_succ]
              refine wpAnyH_ready (rs := [15]) (by kernel_rfl) (by simp) ?_
              refine AllReadyH.cons (o := { dst := some 13, op := Go.Op.assign (Go.Operand.tmp 79), type := 38, pos := "outright.go:114", after := #[{ on := 14, ground := Go.Ground.data }, { on := 14, ground := Go.Ground.chain }, { on := 0, ground := Go.Ground.phase }, { on := 1, ground := Go.Ground.phase }, { on := 2, ground := Go.Ground.phase }, { on := 3, ground := Go.Ground.phase }, { on := 4, ground := Go.Ground.phase }, { on := 5, ground := Go.Ground.phase }, { on := 6, ground := Go.Ground.phase }, { on := 7, ground := Go.Ground.phase }, { on := 8, ground := Go.Ground.phase }, { on := 9, ground := Go.Ground.phase }, { on := 10, ground := Go.Ground.phase }, { on := 11, ground := Go.Ground.phase }, { on := 12, ground := Go.Ground.phase }, { on := 13, ground := Go.Ground.phase }, { on := 14, ground := Go.Ground.phase }], guard := none }) rfl (fun K hK => ?_) AllReadyH.nil
              go_simp
              have HE6 := HE5
              have HZ6 := HZ5
              have hs6 := HSA.out _ HZ6.out
              refine hK.out _ _ hs6 (fun _ => ?_)
              clear hK K
              try simp only [Act.put, List.setIfInBounds_toArray, List.set_cons_zero, List.set_cons_succ]
              refine wpAnyH_done (by kernel_rfl) ?_ _
              go_wp2_with fail
              go_roundw
              case rel => exact ⟨0 + 1, ([] : List Tm).take 0 ++ [(x0, x1)] ++ ([] : List Tm).drop 0, hlt, by go_num, HPM.out 0, HE6.out.mono HW4.out, below_call HB.out HZ6.out⟩
              case measure => simp [intOf]; omega
          · have hkbI : ¬ (0 : Int) < (nb : Int) := by omega
            go_wp2_with fail
            refine wp_region_held_drew (S := (fun u => u.cell? ⟨bx, off, none⟩ = some (.int .i64 x0) ∧ u.cell? ⟨bx, off + 1, none⟩ = some (.int .i64 x1))) (by kernel_rfl) hs0 (fun _ => ?_)
            refine wpAnyH_take (i := 1) (oi := { dst := some 66, op := Go.Op.move (Go.Operand.tmp 13), type := 38, pos := "outright.go:114", after := #[], guard := none }) (v := ?_) rfl (by kernel_rfl) (by kernel_rfl) (by kernel_rfl) (fun _ _ _ h => h) (Or.inl ⟨by rfl, ?hy76⟩) hs0 ?_
            case hy76 =>
              intro u hu
              obtain ⟨u0, u1⟩ := hu
              go_simp
              try with_reducible rfl
            simp only [Act.put, List.setIfInBounds_toArray, List.set_cons_zero, List.set_cons_succ]
            refine wpAnyH_take (i := 2) (oi := { dst := some 67, op := Go.Op.move (Go.Operand.tmp 15), type := 3, pos := "outright.go:114", after := #[], guard := none }) (v := ?_) rfl (by kernel_rfl) (by kernel_rfl) (by kernel_rfl) (fun _ _ _ h => h) (Or.inl ⟨by rfl, ?hy77⟩) hs0 ?_
            case hy77 =>
              intro u hu
              obtain ⟨u0, u1⟩ := hu
              go_simp
              try with_reducible rfl
            simp only [Act.put, List.setIfInBounds_toArray, List.set_cons_zero, List.set_cons_succ]
            refine wpAnyH_take (i := 3) (oi := { dst := some 68, op := Go.Op.slice 38 (Go.Operand.tmp 66) none (some (Go.Operand.tmp 67)) none, type := 38, pos := "outright.go:114", after := #[{ on := 1, ground := Go.Ground.data }, { on := 2, ground := Go.Ground.data }], guard := none }) (v := ?_) rfl (by kernel_rfl) (by kernel_rfl) (by kernel_rfl) (fun _ _ _ h => h) (Or.inl ⟨by rfl, ?hy78⟩) hs0 ?_
            case hy78 =>
              intro u hu
              obtain ⟨u0, u1⟩ := hu
              go_simp
              try with_reducible rfl
            simp only [Act.put, List.setIfInBounds_toArray, List.set_cons_zero, List.set_cons_succ]
            refine wpAnyH_take (i := 5) (oi := { dst := some 70, op := Go.Op.move (Go.Operand.tmp 12), type := 38, pos := "outright.go:114", after := #[], guard := none }) (v := ?_) rfl (by kernel_rfl) (by kernel_rfl) (by kernel_rfl) (fun _ _ _ h => h) (Or.inl ⟨by rfl, ?hy79⟩) hs0 ?_
            case hy79 =>
              intro u hu
              obtain ⟨u0, u1⟩ := hu
              go_simp
              try with_reducible rfl
            simp only [Act.put, List.setIfInBounds_toArray, List.set_cons_zero, List.set_cons_succ]
            refine wpAnyH_take (i := 6) (oi := { dst := some 71, op := Go.Op.move (Go.Operand.tmp 14), type := 3, pos := "outright.go:114", after := #[], guard := none }) (v := ?_) rfl (by kernel_rfl) (by kernel_rfl) (by kernel_rfl) (fun _ _ _ h => h) (Or.inl ⟨by rfl, ?hy80⟩) hs0 ?_
            case hy80 =>
              intro u hu
              obtain ⟨u0, u1⟩ := hu
              go_simp
              try with_reducible rfl
            simp only [Act.put, List.setIfInBounds_toArray, List.set_cons_zero, List.set_cons_succ]
            refine wpAnyH_take (i := 7) (oi := { dst := some 72, op := Go.Op.indexAddr 38 (Go.Operand.tmp 70) (Go.Operand.tmp 71), type := 0, pos := "outright.go:114", after := #[{ on := 5, ground := Go.Ground.data }, { on := 6, ground := Go.Ground.data }], guard := none }) (v := ?_) rfl (by kernel_rfl) (by kernel_rfl) (by kernel_rfl) (fun _ _ _ h => h) (Or.inl ⟨by rfl, ?hy81⟩) hs0 ?_
            case hy81 =>
              intro u hu
              obtain ⟨u0, u1⟩ := hu
              go_simp
              try with_reducible rfl
            simp only [Act.put, List.setIfInBounds_toArray, List.set_cons_zero, List.set_cons_succ]
            refine wpAnyH_take (i := 8) (oi := { dst := some 73, op := Go.Op.load 30 (Go.Operand.tmp 72), type := 30, pos := "outright.go:114", after := #[{ on := 7, ground := Go.Ground.data }], guard := none }) (v := ?_) rfl (by kernel_rfl) (by kernel_rfl) (by kernel_rfl) (fun _ _ _ h => h) (Or.inl ⟨by rfl, ?hy82⟩) hs0 ?_
            case hy82 =>
              intro u hu
              obtain ⟨u0, u1⟩ := hu
              go_simp
              try with_reducible rfl
            simp only [Act.put, List.setIfInBounds_toArray, List.set_cons_zero, List.set_cons_succ]
            refine wpAnyH_take (i := 11) (oi := { dst := some 76, op := Go.Op.move (Go.Operand.tmp 13), type := 38, pos := "outright.go:114", after := #[], guard := none }) (v := ?_) rfl (by kernel_rfl) (by kernel_rfl) (by kernel_rfl) (fun _ _ _ h => h) (Or.inl ⟨by rfl, ?hy83⟩) hs0 ?_
            case hy83 =>
              intro u hu
              obtain ⟨u0, u1⟩ := hu
              go_simp
              try with_reducible rfl
            simp only [Act.put, List.setIfInBounds_toArray, List.set_cons_zero, List.set_cons_succ]
            refine wpAnyH_take (i := 12) (oi := { dst := some 77, op := Go.Op.move (Go.Operand.tmp 15), type := 3, pos := "outright.go:114", after := #[], guard := none }) (v := ?_) rfl (by kernel_rfl) (by kernel_rfl) (by kernel_rfl) (fun _ _ _ h => h) (Or.inl ⟨by rfl, ?hy84⟩) hs0 ?_
            case hy84 =>
              intro u hu
              obtain ⟨u0, u1⟩ := hu
              go_simp
              try with_reducible rfl
            simp only [Act.put, List.setIfInBounds_toArray, List.set_cons_zero, List.set_cons_succ]
            refine wpAnyH_take (i := 13) (oi := { dst := some 78, op := Go.Op.slice 38 (Go.Operand.tmp 76) (some (Go.Operand.tmp 77)) none none, type := 38, pos := "outright.go:114", after := #[{ on := 11, ground := Go.Ground.data }, { on := 12, ground := Go.Ground.data }], guard := none }) (v := ?_) rfl (by kernel_rfl) (by kernel_rfl) (by kernel_rfl) (fun _ _ _ h => h) (Or.inl ⟨by rfl, ?hy85⟩) hs0 ?_
            case hy85 =>
              intro u hu
              obtain ⟨u0, u1⟩ := hu
              go_simp
              try with_reducible rfl
            simp only [Act.put, List.setIfInBounds_toArray, List.set_cons_zero, List.set_cons_succ]
            refine wpAnyH_ready (rs := [0, 9]) (by kernel_rfl) (by simp) ?_
            refine AllReadyH.cons (o := { dst := some 65, op := Go.Op.buildSlice 38 0 #[], type := 38, pos := "outright.go:114", after := #[], guard := none }) rfl (fun K hK => ?b86_0) (AllReadyH.cons (o := { dst := some 74, op := Go.Op.buildSlice 38 1 #[(0, Go.Operand.tmp 73)], type := 38, pos := "outright.go:114", after := #[{ on := 8, ground := Go.Ground.data }], guard := none }) rfl (fun K hK => ?b86_9) AllReadyH.nil)
            case' b86_0 =>
              obtain ⟨u1, HU1⟩ := named ((wr.alloc (.cells #[] 30)).drew)
              have hb : Below wr.heap.size wr u1 := by rw [HU1.out]; exact ((Below.refl _ _).alloc (Nat.le_refl _) _).drew
              have HZ1 := hide hb
              have hsz1 : wr.heap.size < u1.heap.size := by rw [HU1.out]; simp
              have HE1 := hide (show OwnT u1 wr.heap.size (.slice (some ⟨wr.heap.size, 0, none⟩) 0 0) [] by rw [HU1.out]; exact ((OwnT.empty _).heap (fun _ _ => rfl)).mono HZ0.out.size)
              clear hb
              go_simp
              rw [← HU1.out]
              have hs1 := HSA.out _ HZ1.out
              refine hK.out _ _ hs1 (fun _ => ?_)
              clear hK K
              try simp only [Act.put, List.setIfInBounds_toArray, List.set_cons_zero, List.set_cons_succ]
              refine wpAnyH_ready (rs := [4, 9]) (by kernel_rfl) (by simp) ?_
              refine AllReadyH.cons (o := { dst := some 69, op := Go.Op.call { callee := Go.Callee.builtin Go.Builtin.append, args := #[Go.Operand.tmp 65, Go.Operand.tmp 68], argTypes := #[38, 38] }, type := 38, pos := "outright.go:114", after := #[{ on := 0, ground := Go.Ground.data }, { on := 3, ground := Go.Ground.data }], guard := none }) rfl (fun K hK => ?b87_4) (AllReadyH.cons (o := { dst := some 74, op := Go.Op.buildSlice 38 1 #[(0, Go.Operand.tmp 73)], type := 38, pos := "outright.go:114", after := #[{ on := 8, ground := Go.Ground.data }], guard := none }) rfl (fun K hK => ?b87_9) AllReadyH.nil)
              case' b87_4 =>
                obtain ⟨v4, u2, hr, ho, hg, -⟩ := HE1.out.appendRd (HC1.out _ HZ1.out) (by simp; try omega) HZ1.out.size 38
                have HZ2 := hide (HZ1.out.grown hg HZ1.out.size fun k hk => (HE1.out.lt k hk).1)
                rw [List.nil_append] at ho
                have HE2 := hide ho
                have HR := hide hr
                clear hr ho hg
                refine step_append_runI rfl (.tmp 65) (.tmp 68) 38 38 rfl (.slice (some ⟨wr.heap.size, 0, none⟩) 0 0) (.slice none 0 0) (by simp [Act.eval]) (by simp [Act.eval]) HR.out ?_
                clear HR
                have hs2 := HSA.out _ HZ2.out
                refine hK.out _ _ hs2 (fun _ => ?_)
                clear hK K
                try simp only [Act.put, List.setIfInBounds_toArray, List.set_cons_zero, List.set_cons_succ]
                refine wpAnyH_ready (rs := [9]) (by kernel_rfl) (by simp) ?_
                refine AllReadyH.cons (o := { dst := some 74, op := Go.Op.buildSlice 38 1 #[(0, Go.Operand.tmp 73)], type := 38, pos := "outright.go:114", after := #[{ on := 8, ground := Go.Ground.data }], guard := none }) rfl (fun K hK => ?_) AllReadyH.nil
                obtain ⟨u3, HU3⟩ := named ((u2.alloc (.cells #[.int .i64 x0, .int .i64 x1] 30)))
                have hb : Below u2.heap.size u2 u3 := by rw [HU3.out]; exact ((Below.refl _ _).alloc (Nat.le_refl _) _)
                have HZ3 := hide (below_call HZ2.out hb)
                have HS3 := hide (show RdT u3 (.slice (some ⟨u2.heap.size, 0, none⟩) 1 1) [(x0, x1)] by rw [HU3.out]; exact (RdT.lit _ [(x0, x1)] 1 _ rfl rfl (by simp)))
                have HE3 := hide (HE2.out.below hb)
                clear hb
                go_simp
                rw [← HU3.out]
                have hs3 := HSA.out _ HZ3.out
                refine hK.out _ _ hs3 (fun _ => ?_)
                clear hK K
                try simp only [Act.put, List.setIfInBounds_toArray, List.set_cons_zero, List.set_cons_succ]
                refine wpAnyH_ready (rs := [10]) (by kernel_rfl) (by simp) ?_
                refine AllReadyH.cons (o := { dst := some 75, op := Go.Op.call { callee := Go.Callee.builtin Go.Builtin.append, args := #[Go.Operand.tmp 69, Go.Operand.tmp 74], argTypes := #[38, 38] }, type := 38, pos := "outright.go:114", after := #[{ on := 4, ground := Go.Ground.data }, { on := 9, ground := Go.Ground.data }, { on := 4, ground := Go.Ground.chain }], guard := none }) rfl (fun K hK => ?_) AllReadyH.nil
                obtain ⟨v10, u4, hr, ho, hg, -⟩ := HE3.out.appendRd HS3.out (by simp; try omega) HZ3.out.size 38
                have HZ4 := hide (HZ3.out.grown hg HZ3.out.size fun k hk => (HE3.out.lt k hk).1)
                have HE4 := hide ho
                have HR := hide hr
                clear hr ho hg
                refine step_append_runI rfl (.tmp 69) (.tmp 74) 38 38 rfl v4 (.slice (some ⟨u2.heap.size, 0, none⟩) 1 1) (by simp [Act.eval]) (by simp [Act.eval]) HR.out ?_
                clear HR
                have hs4 := HSA.out _ HZ4.out
                refine hK.out _ _ hs4 (fun _ => ?_)
                clear hK K
                try simp only [Act.put, List.setIfInBounds_toArray, List.set_cons_zero, List.set_cons_succ]
                refine wpAnyH_ready (rs := [14]) (by kernel_rfl) (by simp) ?_
                refine AllReadyH.cons (o := { dst := some 79, op := Go.Op.call { callee := Go.Callee.builtin Go.Builtin.append, args := #[Go.Operand.tmp 75, Go.Operand.tmp 78], argTypes := #[38, 38] }, type := 38, pos := "outright.go:114", after := #[{ on := 10, ground := Go.Ground.data }, { on := 13, ground := Go.Ground.data }, { on := 10, ground := Go.Ground.chain }], guard := none }) rfl (fun K hK => ?_) AllReadyH.nil
                obtain ⟨v14, u5, hr, ho, hg, -⟩ := HE4.out.appendRd (HC2.out _ HZ4.out) (by simp; try omega) HZ4.out.size 38
                have HZ5 := hide (HZ4.out.grown hg HZ4.out.size fun k hk => (HE4.out.lt k hk).1)
                have HE5 := hide ho
                have HR := hide hr
                clear hr ho hg
                refine step_append_runI rfl (.tmp 75) (.tmp 78) 38 38 rfl v10 (.slice none 0 0) (by simp [Act.eval]) (by simp [Act.eval]) HR.out ?_
                clear HR
                have hs5 := HSA.out _ HZ5.out
                refine hK.out _ _ hs5 (fun _ => ?_)
                clear hK K
                try simp only [Act.put, List.setIfInBounds_toArray, List.set_cons_zero, List.set_cons_succ]
                refine wpAnyH_ready (rs := [15]) (by kernel_rfl) (by simp) ?_
                refine AllReadyH.cons (o := { dst := some 13, op := Go.Op.assign (Go.Operand.tmp 79), type := 38, pos := "outright.go:114", after := #[{ on := 14, ground := Go.Ground.data }, { on := 14, ground := Go.Ground.chain }, { on := 0, ground := Go.Ground.phase }, { on := 1, ground := Go.Ground.phase }, { on := 2, ground := Go.Ground.phase }, { on := 3, ground := Go.Ground.phase }, { on := 4, ground := Go.Ground.phase }, { on := 5, ground := Go.Ground.phase }, { on := 6, ground := Go.Ground.phase }, { on := 7, ground := Go.Ground.phase }, { on := 8, ground := Go.Ground.phase }, { on := 9, ground := Go.Ground.phase }, { on := 10, ground := Go.Ground.phase }, { on := 11, ground := Go.Ground.phase }, { on := 12, ground := Go.Ground.phase }, { on := 13, ground := Go.Ground.phase }, { on := 14, ground := Go.Ground.phase }], guard := none }) rfl (fun K hK => ?_) AllReadyH.nil
                go_simp
                have HE6 := HE5
                have HZ6 := HZ5
                have hs6 := HSA.out _ HZ6.out
                refine hK.out _ _ hs6 (fun _ => ?_)
                clear hK K
                try simp only [Act.put, List.setIfInBounds_toArray, List.set_cons_zero, List.set_cons_succ]
                refine wpAnyH_done (by kernel_rfl) ?_ _
                go_wp2_with fail
                go_roundw
                case rel => exact ⟨0 + 1, ([] : List Tm).take 0 ++ [(x0, x1)] ++ ([] : List Tm).drop 0, hlt, by go_num, HPM.out 0, HE6.out.mono HW4.out, below_call HB.out HZ6.out⟩
                case measure => simp [intOf]; omega
              case' b87_9 =>
                obtain ⟨u2, HU2⟩ := named ((u1.alloc (.cells #[.int .i64 x0, .int .i64 x1] 30)))
                have hb : Below u1.heap.size u1 u2 := by rw [HU2.out]; exact ((Below.refl _ _).alloc (Nat.le_refl _) _)
                have HZ2 := hide (below_call HZ1.out hb)
                have HS2 := hide (show RdT u2 (.slice (some ⟨u1.heap.size, 0, none⟩) 1 1) [(x0, x1)] by rw [HU2.out]; exact (RdT.lit _ [(x0, x1)] 1 _ rfl rfl (by simp)))
                have HE2 := hide (HE1.out.below hb)
                clear hb
                go_simp
                rw [← HU2.out]
                have hs2 := HSA.out _ HZ2.out
                refine hK.out _ _ hs2 (fun _ => ?_)
                clear hK K
                try simp only [Act.put, List.setIfInBounds_toArray, List.set_cons_zero, List.set_cons_succ]
                refine wpAnyH_ready (rs := [4]) (by kernel_rfl) (by simp) ?_
                refine AllReadyH.cons (o := { dst := some 69, op := Go.Op.call { callee := Go.Callee.builtin Go.Builtin.append, args := #[Go.Operand.tmp 65, Go.Operand.tmp 68], argTypes := #[38, 38] }, type := 38, pos := "outright.go:114", after := #[{ on := 0, ground := Go.Ground.data }, { on := 3, ground := Go.Ground.data }], guard := none }) rfl (fun K hK => ?_) AllReadyH.nil
                obtain ⟨v4, u3, hr, ho, hg, -⟩ := HE2.out.appendRd (HC1.out _ HZ2.out) (by simp; try omega) HZ2.out.size 38
                have HZ3 := hide (HZ2.out.grown hg HZ2.out.size fun k hk => (HE2.out.lt k hk).1)
                rw [List.nil_append] at ho
                have HE3 := hide ho
                have HR := hide hr
                have HS3 := hide (HS2.out.heap (hg.block _ (HS2.out.blk (by simp)) (by simp [Value.ownBlock]; omega)))
                clear hr ho hg
                refine step_append_runI rfl (.tmp 65) (.tmp 68) 38 38 rfl (.slice (some ⟨wr.heap.size, 0, none⟩) 0 0) (.slice none 0 0) (by simp [Act.eval]) (by simp [Act.eval]) HR.out ?_
                clear HR
                have hs3 := HSA.out _ HZ3.out
                refine hK.out _ _ hs3 (fun _ => ?_)
                clear hK K
                try simp only [Act.put, List.setIfInBounds_toArray, List.set_cons_zero, List.set_cons_succ]
                refine wpAnyH_ready (rs := [10]) (by kernel_rfl) (by simp) ?_
                refine AllReadyH.cons (o := { dst := some 75, op := Go.Op.call { callee := Go.Callee.builtin Go.Builtin.append, args := #[Go.Operand.tmp 69, Go.Operand.tmp 74], argTypes := #[38, 38] }, type := 38, pos := "outright.go:114", after := #[{ on := 4, ground := Go.Ground.data }, { on := 9, ground := Go.Ground.data }, { on := 4, ground := Go.Ground.chain }], guard := none }) rfl (fun K hK => ?_) AllReadyH.nil
                obtain ⟨v10, u4, hr, ho, hg, -⟩ := HE3.out.appendRd HS3.out (by simp; try omega) HZ3.out.size 38
                have HZ4 := hide (HZ3.out.grown hg HZ3.out.size fun k hk => (HE3.out.lt k hk).1)
                have HE4 := hide ho
                have HR := hide hr
                clear hr ho hg
                refine step_append_runI rfl (.tmp 69) (.tmp 74) 38 38 rfl v4 (.slice (some ⟨u1.heap.size, 0, none⟩) 1 1) (by simp [Act.eval]) (by simp [Act.eval]) HR.out ?_
                clear HR
                have hs4 := HSA.out _ HZ4.out
                refine hK.out _ _ hs4 (fun _ => ?_)
                clear hK K
                try simp only [Act.put, List.setIfInBounds_toArray, List.set_cons_zero, List.set_cons_succ]
                refine wpAnyH_ready (rs := [14]) (by kernel_rfl) (by simp) ?_
                refine AllReadyH.cons (o := { dst := some 79, op := Go.Op.call { callee := Go.Callee.builtin Go.Builtin.append, args := #[Go.Operand.tmp 75, Go.Operand.tmp 78], argTypes := #[38, 38] }, type := 38, pos := "outright.go:114", after := #[{ on := 10, ground := Go.Ground.data }, { on := 13, ground := Go.Ground.data }, { on := 10, ground := Go.Ground.chain }], guard := none }) rfl (fun K hK => ?_) AllReadyH.nil
                obtain ⟨v14, u5, hr, ho, hg, -⟩ := HE4.out.appendRd (HC2.out _ HZ4.out) (by simp; try omega) HZ4.out.size 38
                have HZ5 := hide (HZ4.out.grown hg HZ4.out.size fun k hk => (HE4.out.lt k hk).1)
                have HE5 := hide ho
                have HR := hide hr
                clear hr ho hg
                refine step_append_runI rfl (.tmp 75) (.tmp 78) 38 38 rfl v10 (.slice none 0 0) (by simp [Act.eval]) (by simp [Act.eval]) HR.out ?_
                clear HR
                have hs5 := HSA.out _ HZ5.out
                refine hK.out _ _ hs5 (fun _ => ?_)
                clear hK K
                try simp only [Act.put, List.setIfInBounds_toArray, List.set_cons_zero, List.set_cons_succ]
                refine wpAnyH_ready (rs := [15]) (by kernel_rfl) (by simp) ?_
                refine AllReadyH.cons (o := { dst := some 13, op := Go.Op.assign (Go.Operand.tmp 79), type := 38, pos := "outright.go:114", after := #[{ on := 14, ground := Go.Ground.data }, { on := 14, ground := Go.Ground.chain }, { on := 0, ground := Go.Ground.phase }, { on := 1, ground := Go.Ground.phase }, { on := 2, ground := Go.Ground.phase }, { on := 3, ground := Go.Ground.phase }, { on := 4, ground := Go.Ground.phase }, { on := 5, ground := Go.Ground.phase }, { on := 6, ground := Go.Ground.phase }, { on := 7, ground := Go.Ground.phase }, { on := 8, ground := Go.Ground.phase }, { on := 9, ground := Go.Ground.phase }, { on := 10, ground := Go.Ground.phase }, { on := 11, ground := Go.Ground.phase }, { on := 12, ground := Go.Ground.phase }, { on := 13, ground := Go.Ground.phase }, { on := 14, ground := Go.Ground.phase }], guard := none }) rfl (fun K hK => ?_) AllReadyH.nil
                go_simp
                have HE6 := HE5
                have HZ6 := HZ5
                have hs6 := HSA.out _ HZ6.out
                refine hK.out _ _ hs6 (fun _ => ?_)
                clear hK K
                try simp only [Act.put, List.setIfInBounds_toArray, List.set_cons_zero, List.set_cons_succ]
                refine wpAnyH_done (by kernel_rfl) ?_ _
                go_wp2_with fail
                go_roundw
                case rel => exact ⟨0 + 1, ([] : List Tm).take 0 ++ [(x0, x1)] ++ ([] : List Tm).drop 0, hlt, by go_num, HPM.out 0, HE6.out.mono HW4.out, below_call HB.out HZ6.out⟩
                case measure => simp [intOf]; omega
            case' b86_9 =>
              obtain ⟨u1, HU1⟩ := named ((wr.alloc (.cells #[.int .i64 x0, .int .i64 x1] 30)).drew)
              have hb : Below wr.heap.size wr u1 := by rw [HU1.out]; exact ((Below.refl _ _).alloc (Nat.le_refl _) _).drew
              have HZ1 := hide hb
              have hsz1 : wr.heap.size < u1.heap.size := by rw [HU1.out]; simp
              have HS1 := hide (show RdT u1 (.slice (some ⟨wr.heap.size, 0, none⟩) 1 1) [(x0, x1)] by rw [HU1.out]; exact (RdT.lit _ [(x0, x1)] 1 _ rfl rfl (by simp)).heap rfl)
              clear hb
              go_simp
              rw [← HU1.out]
              have hs1 := HSA.out _ HZ1.out
              refine hK.out _ _ hs1 (fun _ => ?_)
              clear hK K
              try simp only [Act.put, List.setIfInBounds_toArray, List.set_cons_zero, List.set_cons_succ]
              refine wpAnyH_ready (rs := [0]) (by kernel_rfl) (by simp) ?_
              refine AllReadyH.cons (o := { dst := some 65, op := Go.Op.buildSlice 38 0 #[], type := 38, pos := "outright.go:114", after := #[], guard := none }) rfl (fun K hK => ?_) AllReadyH.nil
              obtain ⟨u2, HU2⟩ := named ((u1.alloc (.cells #[] 30)))
              have hb : Below u1.heap.size u1 u2 := by rw [HU2.out]; exact ((Below.refl _ _).alloc (Nat.le_refl _) _)
              have HZ2 := hide (below_call HZ1.out hb)
              have HE2 := hide (show OwnT u2 wr.heap.size (.slice (some ⟨u1.heap.size, 0, none⟩) 0 0) [] by rw [HU2.out]; exact ((OwnT.empty _)).mono HZ1.out.size)
              have HS2 := hide (HS1.out.below hb)
              clear hb
              go_simp
              rw [← HU2.out]
              have hs2 := HSA.out _ HZ2.out
              refine hK.out _ _ hs2 (fun _ => ?_)
              clear hK K
              try simp only [Act.put, List.setIfInBounds_toArray, List.set_cons_zero, List.set_cons_succ]
              refine wpAnyH_ready (rs := [4]) (by kernel_rfl) (by simp) ?_
              refine AllReadyH.cons (o := { dst := some 69, op := Go.Op.call { callee := Go.Callee.builtin Go.Builtin.append, args := #[Go.Operand.tmp 65, Go.Operand.tmp 68], argTypes := #[38, 38] }, type := 38, pos := "outright.go:114", after := #[{ on := 0, ground := Go.Ground.data }, { on := 3, ground := Go.Ground.data }], guard := none }) rfl (fun K hK => ?_) AllReadyH.nil
              obtain ⟨v4, u3, hr, ho, hg, -⟩ := HE2.out.appendRd (HC1.out _ HZ2.out) (by simp; try omega) HZ2.out.size 38
              have HZ3 := hide (HZ2.out.grown hg HZ2.out.size fun k hk => (HE2.out.lt k hk).1)
              rw [List.nil_append] at ho
              have HE3 := hide ho
              have HR := hide hr
              have HS3 := hide (HS2.out.heap (hg.block _ (HS2.out.blk (by simp)) (by simp [Value.ownBlock]; omega)))
              clear hr ho hg
              refine step_append_runI rfl (.tmp 65) (.tmp 68) 38 38 rfl (.slice (some ⟨u1.heap.size, 0, none⟩) 0 0) (.slice none 0 0) (by simp [Act.eval]) (by simp [Act.eval]) HR.out ?_
              clear HR
              have hs3 := HSA.out _ HZ3.out
              refine hK.out _ _ hs3 (fun _ => ?_)
              clear hK K
              try simp only [Act.put, List.setIfInBounds_toArray, List.set_cons_zero, List.set_cons_succ]
              refine wpAnyH_ready (rs := [10]) (by kernel_rfl) (by simp) ?_
              refine AllReadyH.cons (o := { dst := some 75, op := Go.Op.call { callee := Go.Callee.builtin Go.Builtin.append, args := #[Go.Operand.tmp 69, Go.Operand.tmp 74], argTypes := #[38, 38] }, type := 38, pos := "outright.go:114", after := #[{ on := 4, ground := Go.Ground.data }, { on := 9, ground := Go.Ground.data }, { on := 4, ground := Go.Ground.chain }], guard := none }) rfl (fun K hK => ?_) AllReadyH.nil
              obtain ⟨v10, u4, hr, ho, hg, -⟩ := HE3.out.appendRd HS3.out (by simp; try omega) HZ3.out.size 38
              have HZ4 := hide (HZ3.out.grown hg HZ3.out.size fun k hk => (HE3.out.lt k hk).1)
              have HE4 := hide ho
              have HR := hide hr
              clear hr ho hg
              refine step_append_runI rfl (.tmp 69) (.tmp 74) 38 38 rfl v4 (.slice (some ⟨wr.heap.size, 0, none⟩) 1 1) (by simp [Act.eval]) (by simp [Act.eval]) HR.out ?_
              clear HR
              have hs4 := HSA.out _ HZ4.out
              refine hK.out _ _ hs4 (fun _ => ?_)
              clear hK K
              try simp only [Act.put, List.setIfInBounds_toArray, List.set_cons_zero, List.set_cons_succ]
              refine wpAnyH_ready (rs := [14]) (by kernel_rfl) (by simp) ?_
              refine AllReadyH.cons (o := { dst := some 79, op := Go.Op.call { callee := Go.Callee.builtin Go.Builtin.append, args := #[Go.Operand.tmp 75, Go.Operand.tmp 78], argTypes := #[38, 38] }, type := 38, pos := "outright.go:114", after := #[{ on := 10, ground := Go.Ground.data }, { on := 13, ground := Go.Ground.data }, { on := 10, ground := Go.Ground.chain }], guard := none }) rfl (fun K hK => ?_) AllReadyH.nil
              obtain ⟨v14, u5, hr, ho, hg, -⟩ := HE4.out.appendRd (HC2.out _ HZ4.out) (by simp; try omega) HZ4.out.size 38
              have HZ5 := hide (HZ4.out.grown hg HZ4.out.size fun k hk => (HE4.out.lt k hk).1)
              have HE5 := hide ho
              have HR := hide hr
              clear hr ho hg
              refine step_append_runI rfl (.tmp 75) (.tmp 78) 38 38 rfl v10 (.slice none 0 0) (by simp [Act.eval]) (by simp [Act.eval]) HR.out ?_
              clear HR
              have hs5 := HSA.out _ HZ5.out
              refine hK.out _ _ hs5 (fun _ => ?_)
              clear hK K
              try simp only [Act.put, List.setIfInBounds_toArray, List.set_cons_zero, List.set_cons_succ]
              refine wpAnyH_ready (rs := [15]) (by kernel_rfl) (by simp) ?_
              refine AllReadyH.cons (o := { dst := some 13, op := Go.Op.assign (Go.Operand.tmp 79), type := 38, pos := "outright.go:114", after := #[{ on := 14, ground := Go.Ground.data }, { on := 14, ground := Go.Ground.chain }, { on := 0, ground := Go.Ground.phase }, { on := 1, ground := Go.Ground.phase }, { on := 2, ground := Go.Ground.phase }, { on := 3, ground := Go.Ground.phase }, { on := 4, ground := Go.Ground.phase }, { on := 5, ground := Go.Ground.phase }, { on := 6, ground := Go.Ground.phase }, { on := 7, ground := Go.Ground.phase }, { on := 8, ground := Go.Ground.phase }, { on := 9, ground := Go.Ground.phase }, { on := 10, ground := Go.Ground.phase }, { on := 11, ground := Go.Ground.phase }, { on := 12, ground := Go.Ground.phase }, { on := 13, ground := Go.Ground.phase }, { on := 14, ground := Go.Ground.phase }], guard := none }) rfl (fun K hK => ?_) AllReadyH.nil
              go_simp
              have HE6 := HE5
              have HZ6 := HZ5
              have hs6 := HSA.out _ HZ6.out
              refine hK.out _ _ hs6 (fun _ => ?_)
              clear hK K
              try simp only [Act.put, List.setIfInBounds_toArray, List.set_cons_zero, List.set_cons_succ]
              refine wpAnyH_done (by kernel_rfl) ?_ _
              go_wp2_with fail
              go_roundw
              case rel => exact ⟨0 + 1, ([] : List Tm).take 0 ++ [(x0, x1)] ++ ([] : List Tm).drop 0, hlt, by go_num, HPM.out 0, HE6.out.mono HW4.out, below_call HB.out HZ6.out⟩
              case measure => simp [intOf]; omega
        · rw [hTl] at htv hcap htk
          subst htv
          have hkcI : (k : Int) ≤ (tcap : Int) := by omega
          have HRT := hide (show RdT wr (.slice (some ⟨g, 0, none⟩) T.length tcap) T by have h1 := HO.out.rd; rw [hTl]; exact h1)
          by_cases hkb : k < nb
          · have hkbI : (k : Int) < (nb : Int) := by omega
            obtain ⟨bb, boff, hbe, hbc⟩ := (HU1.out.below (below_call (show Below w1.heap.size w1 w4 from Q4.out.hq.bel) HB.out)).at k (by rw [← HNB.out]; exact hkb)
            subst hbe
            obtain ⟨by_, HBY⟩ := named (bs[k]'(by rw [← HNB.out]; exact hkb))
            have hby : 0 ≤ by_ ∧ by_ ≤ 255 := by obtain ⟨_, _, _, _, _, _, h5⟩ := HU1.out; rw [HBY.out]; exact h5 _ (List.getElem_mem _)
            rw [← HBY.out] at hbc
            have hp0 : 0 ≤ by_ % ((k : Int) + 1) := Int.emod_nonneg _ (by omega)
            have hp1 : by_ % ((k : Int) + 1) < (k : Int) + 1 := Int.emod_lt_of_pos _ (by omega)
            obtain ⟨p, hp⟩ : ∃ p : Nat, by_ % ((k : Int) + 1) = (p : Int) := ⟨(by_ % ((k : Int) + 1)).toNat, by omega⟩
            have hpk : p ≤ k := by omega
            have hpkI : (p : Int) ≤ (k : Int) := by omega
            have hpcI : (p : Int) ≤ (tcap : Int) := by omega
            have HC1 : Hid (∀ u, Below wr.heap.size wr u → RdT u (.slice (some ⟨g, 0, none⟩) p tcap) (T.take p)) := fun u hu => (HRT.out.below hu).cut1 (by omega)
            have HC2 : Hid (∀ u, Below wr.heap.size wr u → RdT u (.slice (if tcap = p then some ⟨g, 0, none⟩ else some ⟨g, p * 2, none⟩) (k - p) (tcap - p)) (T.drop p)) := fun u hu => by have h1 := (HRT.out.below hu).cut2 p; rw [hTl] at h1; exact h1
            clear hp0 hp1
            go_wp2_with fail
            refine wp_region_held_drew (S := (fun u => u.cell? ⟨bx, off + k * 2, none⟩ = some (.int .i64 x0) ∧ u.cell? ⟨bx, off + k * 2 + 1, none⟩ = some (.int .i64 x1))) (by kernel_rfl) hs0 (fun _ => ?_)
            refine wpAnyH_take (i := 1) (oi := { dst := some 66, op := Go.Op.move (Go.Operand.tmp 13), type := 38, pos := "outright.go:114", after := #[], guard := none }) (v := ?_) rfl (by kernel_rfl) (by kernel_rfl) (by kernel_rfl) (fun _ _ _ h => h) (Or.inl ⟨by rfl, ?hy1⟩) hs0 ?_
            case hy1 =>
              intro u hu
              obtain ⟨u0, u1⟩ := hu
              go_simp
              try with_reducible rfl
            simp only [Act.put, List.setIfInBounds_toArray, List.set_cons_zero, List.set_cons_succ]
            refine wpAnyH_take (i := 2) (oi := { dst := some 67, op := Go.Op.move (Go.Operand.tmp 15), type := 3, pos := "outright.go:114", after := #[], guard := none }) (v := ?_) rfl (by kernel_rfl) (by kernel_rfl) (by kernel_rfl) (fun _ _ _ h => h) (Or.inl ⟨by rfl, ?hy2⟩) hs0 ?_
            case hy2 =>
              intro u hu
              obtain ⟨u0, u1⟩ := hu
              go_simp
              try with_reducible rfl
            simp only [Act.put, List.setIfInBounds_toArray, List.set_cons_zero, List.set_cons_succ]
            refine wpAnyH_take (i := 3) (oi := { dst := some 68, op := Go.Op.slice 38 (Go.Operand.tmp 66) none (some (Go.Operand.tmp 67)) none, type := 38, pos := "outright.go:114", after := #[{ on := 1, ground := Go.Ground.data }, { on := 2, ground := Go.Ground.data }], guard := none }) (v := ?_) rfl (by kernel_rfl) (by kernel_rfl) (by kernel_rfl) (fun _ _ _ h => h) (Or.inl ⟨by rfl, ?hy3⟩) hs0 ?_
            case hy3 =>
              intro u hu
              obtain ⟨u0, u1⟩ := hu
              go_simp
              try with_reducible rfl
            simp only [Act.put, List.setIfInBounds_toArray, List.set_cons_zero, List.set_cons_succ]
            refine wpAnyH_take (i := 5) (oi := { dst := some 70, op := Go.Op.move (Go.Operand.tmp 12), type := 38, pos := "outright.go:114", after := #[], guard := none }) (v := ?_) rfl (by kernel_rfl) (by kernel_rfl) (by kernel_rfl) (fun _ _ _ h => h) (Or.inl ⟨by rfl, ?hy4⟩) hs0 ?_
            case hy4 =>
              intro u hu
              obtain ⟨u0, u1⟩ := hu
              go_simp
              try with_reducible rfl
            simp only [Act.put, List.setIfInBounds_toArray, List.set_cons_zero, List.set_cons_succ]
            refine wpAnyH_take (i := 6) (oi := { dst := some 71, op := Go.Op.move (Go.Operand.tmp 14), type := 3, pos := "outright.go:114", after := #[], guard := none }) (v := ?_) rfl (by kernel_rfl) (by kernel_rfl) (by kernel_rfl) (fun _ _ _ h => h) (Or.inl ⟨by rfl, ?hy5⟩) hs0 ?_
            case hy5 =>
              intro u hu
              obtain ⟨u0, u1⟩ := hu
              go_simp
              try with_reducible rfl
            simp only [Act.put, List.setIfInBounds_toArray, List.set_cons_zero, List.set_cons_succ]
            refine wpAnyH_take (i := 7) (oi := { dst := some 72, op := Go.Op.indexAddr 38 (Go.Operand.tmp 70) (Go.Operand.tmp 71), type := 0, pos := "outright.go:114", after := #[{ on := 5, ground := Go.Ground.data }, { on := 6, ground := Go.Ground.data }], guard := none }) (v := ?_) rfl (by kernel_rfl) (by kernel_rfl) (by kernel_rfl) (fun _ _ _ h => h) (Or.inl ⟨by rfl, ?hy6⟩) hs0 ?_
            case hy6 =>
              intro u hu
              obtain ⟨u0, u1⟩ := hu
              go_simp
              try with_reducible rfl
            simp only [Act.put, List.setIfInBounds_toArray, List.set_cons_zero, List.set_cons_succ]
            refine wpAnyH_take (i := 8) (oi := { dst := some 73, op := Go.Op.load 30 (Go.Operand.tmp 72), type := 30, pos := "outright.go:114", after := #[{ on := 7, ground := Go.Ground.data }], guard := none }) (v := ?_) rfl (by kernel_rfl) (by kernel_rfl) (by kernel_rfl) (fun _ _ _ h => h) (Or.inl ⟨by rfl, ?hy7⟩) hs0 ?_
            case hy7 =>
              intro u hu
              obtain ⟨u0, u1⟩ := hu
              go_simp
              try with_reducible rfl
            simp only [Act.put, List.setIfInBounds_toArray, List.set_cons_zero, List.set_cons_succ]
            refine wpAnyH_take (i := 11) (oi := { dst := some 76, op := Go.Op.move (Go.Operand.tmp 13), type := 38, pos := "outright.go:114", after := #[], guard := none }) (v := ?_) rfl (by kernel_rfl) (by kernel_rfl) (by kernel_rfl) (fun _ _ _ h => h) (Or.inl ⟨by rfl, ?hy8⟩) hs0 ?_
            case hy8 =>
              intro u hu
              obtain ⟨u0, u1⟩ := hu
              go_simp
              try with_reducible rfl
            simp only [Act.put, List.setIfInBounds_toArray, List.set_cons_zero, List.set_cons_succ]
            refine wpAnyH_take (i := 12) (oi := { dst := some 77, op := Go.Op.move (Go.Operand.tmp 15), type := 3, pos := "outright.go:114", after := #[], guard := none }) (v := ?_) rfl (by kernel_rfl) (by kernel_rfl) (by kernel_rfl) (fun _ _ _ h => h) (Or.inl ⟨by rfl, ?hy9⟩) hs0 ?_
            case hy9 =>
              intro u hu
              obtain ⟨u0, u1⟩ := hu
              go_simp
              try with_reducible rfl
            simp only [Act.put, List.setIfInBounds_toArray, List.set_cons_zero, List.set_cons_succ]
            refine wpAnyH_take (i := 13) (oi := { dst := some 78, op := Go.Op.slice 38 (Go.Operand.tmp 76) (some (Go.Operand.tmp 77)) none none, type := 38, pos := "outright.go:114", after := #[{ on := 11, ground := Go.Ground.data }, { on := 12, ground := Go.Ground.data }], guard := none }) (v := ?_) rfl (by kernel_rfl) (by kernel_rfl) (by kernel_rfl) (fun _ _ _ h => h) (Or.inl ⟨by rfl, ?hy10⟩) hs0 ?_
            case hy10 =>
              intro u hu
              obtain ⟨u0, u1⟩ := hu
              go_simp
              try with_reducible rfl
            simp only [Act.put, List.setIfInBounds_toArray, List.set_cons_zero, List.set_cons_succ]
            refine wpAnyH_ready (rs := [0, 9]) (by kernel_rfl) (by simp) ?_
            refine AllReadyH.cons (o := { dst := some 65, op := Go.Op.buildSlice 38 0 #[], type := 38, pos := "outright.go:114", after := #[], guard := none }) rfl (fun K hK => ?b11_0) (AllReadyH.cons (o := { dst := some 74, op := Go.Op.buildSlice 38 1 #[(0, Go.Operand.tmp 73)], type := 38, pos := "outright.go:114", after := #[{ on := 8, ground := Go.Ground.data }], guard := none }) rfl (fun K hK => ?b11_9) AllReadyH.nil)
            case' b11_0 =>
              obtain ⟨u1, HU1⟩ := named ((wr.alloc (.cells #[] 30)).drew)
              have hb : Below wr.heap.size wr u1 := by rw [HU1.out]; exact ((Below.refl _ _).alloc (Nat.le_refl _) _).drew
              have HZ1 := hide hb
              have hsz1 : wr.heap.size < u1.heap.size := by rw [HU1.out]; simp
              have HE1 := hide (show OwnT u1 wr.heap.size (.slice (some ⟨wr.heap.size, 0, none⟩) 0 0) [] by rw [HU1.out]; exact ((OwnT.empty _).heap (fun _ _ => rfl)).mono HZ0.out.size)
              clear hb
              go_simp
              rw [← HU1.out]
              have hs1 := HSA.out _ HZ1.out
              refine hK.out _ _ hs1 (fun _ => ?_)
              clear hK K
              try simp only [Act.put, List.setIfInBounds_toArray, List.set_cons_zero, List.set_cons_succ]
              refine wpAnyH_ready (rs := [4, 9]) (by kernel_rfl) (by simp) ?_
              refine AllReadyH.cons (o := { dst := some 69, op := Go.Op.call { callee := Go.Callee.builtin Go.Builtin.append, args := #[Go.Operand.tmp 65, Go.Operand.tmp 68], argTypes := #[38, 38] }, type := 38, pos := "outright.go:114", after := #[{ on := 0, ground := Go.Ground.data }, { on := 3, ground := Go.Ground.data }], guard := none }) rfl (fun K hK => ?b12_4) (AllReadyH.cons (o := { dst := some 74, op := Go.Op.buildSlice 38 1 #[(0, Go.Operand.tmp 73)], type := 38, pos := "outright.go:114", after := #[{ on := 8, ground := Go.Ground.data }], guard := none }) rfl (fun K hK => ?b12_9) AllReadyH.nil)
              case' b12_4 =>
                obtain ⟨v4, u2, hr, ho, hg, -⟩ := HE1.out.appendRd (HC1.out _ HZ1.out) (by simp; try omega) HZ1.out.size 38
                have HZ2 := hide (HZ1.out.grown hg HZ1.out.size fun k hk => (HE1.out.lt k hk).1)
                rw [List.nil_append] at ho
                have HE2 := hide ho
                have HR := hide hr
                clear hr ho hg
                refine step_append_runI rfl (.tmp 65) (.tmp 68) 38 38 rfl (.slice (some ⟨wr.heap.size, 0, none⟩) 0 0) (.slice (some ⟨g, 0, none⟩) p tcap) (by simp [Act.eval]) (by simp [Act.eval]) HR.out ?_
                clear HR
                have hs2 := HSA.out _ HZ2.out
                refine hK.out _ _ hs2 (fun _ => ?_)
                clear hK K
                try simp only [Act.put, List.setIfInBounds_toArray, List.set_cons_zero, List.set_cons_succ]
                refine wpAnyH_ready (rs := [9]) (by kernel_rfl) (by simp) ?_
                refine AllReadyH.cons (o := { dst := some 74, op := Go.Op.buildSlice 38 1 #[(0, Go.Operand.tmp 73)], type := 38, pos := "outright.go:114", after := #[{ on := 8, ground := Go.Ground.data }], guard := none }) rfl (fun K hK => ?_) AllReadyH.nil
                obtain ⟨u3, HU3⟩ := named ((u2.alloc (.cells #[.int .i64 x0, .int .i64 x1] 30)))
                have hb : Below u2.heap.size u2 u3 := by rw [HU3.out]; exact ((Below.refl _ _).alloc (Nat.le_refl _) _)
                have HZ3 := hide (below_call HZ2.out hb)
                have HS3 := hide (show RdT u3 (.slice (some ⟨u2.heap.size, 0, none⟩) 1 1) [(x0, x1)] by rw [HU3.out]; exact (RdT.lit _ [(x0, x1)] 1 _ rfl rfl (by simp)))
                have HE3 := hide (HE2.out.below hb)
                clear hb
                go_simp
                rw [← HU3.out]
                have hs3 := HSA.out _ HZ3.out
                refine hK.out _ _ hs3 (fun _ => ?_)
                clear hK K
                try simp only [Act.put, List.setIfInBounds_toArray, List.set_cons_zero, List.set_cons_succ]
                refine wpAnyH_ready (rs := [10]) (by kernel_rfl) (by simp) ?_
                refine AllReadyH.cons (o := { dst := some 75, op := Go.Op.call { callee := Go.Callee.builtin Go.Builtin.append, args := #[Go.Operand.tmp 69, Go.Operand.tmp 74], argTypes := #[38, 38] }, type := 38, pos := "outright.go:114", after := #[{ on := 4, ground := Go.Ground.data }, { on := 9, ground := Go.Ground.data }, { on := 4, ground := Go.Ground.chain }], guard := none }) rfl (fun K hK => ?_) AllReadyH.nil
                obtain ⟨v10, u4, hr, ho, hg, -⟩ := HE3.out.appendRd HS3.out (by simp; try omega) HZ3.out.size 38
                have HZ4 := hide (HZ3.out.grown hg HZ3.out.size fun k hk => (HE3.out.lt k hk).1)
                have HE4 := hide ho
                have HR := hide hr
                clear hr ho hg
                refine step_append_runI rfl (.tmp 69) (.tmp 74) 38 38 rfl v4 (.slice (some ⟨u2.heap.size, 0, none⟩) 1 1) (by simp [Act.eval]) (by simp [Act.eval]) HR.out ?_
                clear HR
                have hs4 := HSA.out _ HZ4.out
                refine hK.out _ _ hs4 (fun _ => ?_)
                clear hK K
                try simp only [Act.put, List.setIfInBounds_toArray, List.set_cons_zero, List.set_cons_succ]
                refine wpAnyH_ready (rs := [14]) (by kernel_rfl) (by simp) ?_
                refine AllReadyH.cons (o := { dst := some 79, op := Go.Op.call { callee := Go.Callee.builtin Go.Builtin.append, args := #[Go.Operand.tmp 75, Go.Operand.tmp 78], argTypes := #[38, 38] }, type := 38, pos := "outright.go:114", after := #[{ on := 10, ground := Go.Ground.data }, { on := 13, ground := Go.Ground.data }, { on := 10, ground := Go.Ground.chain }], guard := none }) rfl (fun K hK => ?_) AllReadyH.nil
                obtain ⟨v14, u5, hr, ho, hg, -⟩ := HE4.out.appendRd (HC2.out _ HZ4.out) (by simp; try omega) HZ4.out.size 38
                have HZ5 := hide (HZ4.out.grown hg HZ4.out.size fun k hk => (HE4.out.lt k hk).1)
                have HE5 := hide ho
                have HR := hide hr
                clear hr ho hg
                refine step_append_runI rfl (.tmp 75) (.tmp 78) 38 38 rfl v10 (.slice (if tcap = p then some ⟨g, 0, none⟩ else some ⟨g, p * 2, none⟩) (k - p) (tcap - p)) (by simp [Act.eval]) (by simp [Act.eval]) HR.out ?_
                clear HR
                have hs5 := HSA.out _ HZ5.out
                refine hK.out _ _ hs5 (fun _ => ?_)
                clear hK K
                try simp only [Act.put, List.setIfInBounds_toArray, List.set_cons_zero, List.set_cons_succ]
                refine wpAnyH_ready (rs := [15]) (by kernel_rfl) (by simp) ?_
                refine AllReadyH.cons (o := { dst := some 13, op := Go.Op.assign (Go.Operand.tmp 79), type := 38, pos := "outright.go:114", after := #[{ on := 14, ground := Go.Ground.data }, { on := 14, ground := Go.Ground.chain }, { on := 0, ground := Go.Ground.phase }, { on := 1, ground := Go.Ground.phase }, { on := 2, ground := Go.Ground.phase }, { on := 3, ground := Go.Ground.phase }, { on := 4, ground := Go.Ground.phase }, { on := 5, ground := Go.Ground.phase }, { on := 6, ground := Go.Ground.phase }, { on := 7, ground := Go.Ground.phase }, { on := 8, ground := Go.Ground.phase }, { on := 9, ground := Go.Ground.phase }, { on := 10, ground := Go.Ground.phase }, { on := 11, ground := Go.Ground.phase }, { on := 12, ground := Go.Ground.phase }, { on := 13, ground := Go.Ground.phase }, { on := 14, ground := Go.Ground.phase }], guard := none }) rfl (fun K hK => ?_) AllReadyH.nil
                go_simp
                have HE6 := HE5
                have HZ6 := HZ5
                have hs6 := HSA.out _ HZ6.out
                refine hK.out _ _ hs6 (fun _ => ?_)
                clear hK K
                try simp only [Act.put, List.setIfInBounds_toArray, List.set_cons_zero, List.set_cons_succ]
                refine wpAnyH_done (by kernel_rfl) ?_ _
                go_wp2_with fail
                go_roundw
                case rel => exact ⟨k + 1, T.take p ++ [(x0, x1)] ++ T.drop p, hlt, by go_num, HPM.out p, HE6.out.mono HW4.out, below_call HB.out HZ6.out⟩
                case measure => simp [intOf]; omega
              case' b12_9 =>
                obtain ⟨u2, HU2⟩ := named ((u1.alloc (.cells #[.int .i64 x0, .int .i64 x1] 30)))
                have hb : Below u1.heap.size u1 u2 := by rw [HU2.out]; exact ((Below.refl _ _).alloc (Nat.le_refl _) _)
                have HZ2 := hide (below_call HZ1.out hb)
                have HS2 := hide (show RdT u2 (.slice (some ⟨u1.heap.size, 0, none⟩) 1 1) [(x0, x1)] by rw [HU2.out]; exact (RdT.lit _ [(x0, x1)] 1 _ rfl rfl (by simp)))
                have HE2 := hide (HE1.out.below hb)
                clear hb
                go_simp
                rw [← HU2.out]
                have hs2 := HSA.out _ HZ2.out
                refine hK.out _ _ hs2 (fun _ => ?_)
                clear hK K
                try simp only [Act.put, List.setIfInBounds_toArray, List.set_cons_zero, List.set_cons_succ]
                refine wpAnyH_ready (rs := [4]) (by kernel_rfl) (by simp) ?_
                refine AllReadyH.cons (o := { dst := some 69, op := Go.Op.call { callee := Go.Callee.builtin Go.Builtin.append, args := #[Go.Operand.tmp 65, Go.Operand.tmp 68], argTypes := #[38, 38] }, type := 38, pos := "outright.go:114", after := #[{ on := 0, ground := Go.Ground.data }, { on := 3, ground := Go.Ground.data }], guard := none }) rfl (fun K hK => ?_) AllReadyH.nil
                obtain ⟨v4, u3, hr, ho, hg, -⟩ := HE2.out.appendRd (HC1.out _ HZ2.out) (by simp; try omega) HZ2.out.size 38
                have HZ3 := hide (HZ2.out.grown hg HZ2.out.size fun k hk => (HE2.out.lt k hk).1)
                rw [List.nil_append] at ho
                have HE3 := hide ho
                have HR := hide hr
                have HS3 := hide (HS2.out.heap (hg.block _ (HS2.out.blk (by simp)) (by simp [Value.ownBlock]; omega)))
                clear hr ho hg
                refine step_append_runI rfl (.tmp 65) (.tmp 68) 38 38 rfl (.slice (some ⟨wr.heap.size, 0, none⟩) 0 0) (.slice (some ⟨g, 0, none⟩) p tcap) (by simp [Act.eval]) (by simp [Act.eval]) HR.out ?_
                clear HR
                have hs3 := HSA.out _ HZ3.out
                refine hK.out _ _ hs3 (fun _ => ?_)
                clear hK K
                try simp only [Act.put, List.setIfInBounds_toArray, List.set_cons_zero, List.set_cons_succ]
                refine wpAnyH_ready (rs := [10]) (by kernel_rfl) (by simp) ?_
                refine AllReadyH.cons (o := { dst := some 75, op := Go.Op.call { callee := Go.Callee.builtin Go.Builtin.append, args := #[Go.Operand.tmp 69, Go.Operand.tmp 74], argTypes := #[38, 38] }, type := 38, pos := "outright.go:114", after := #[{ on := 4, ground := Go.Ground.data }, { on := 9, ground := Go.Ground.data }, { on := 4, ground := Go.Ground.chain }], guard := none }) rfl (fun K hK => ?_) AllReadyH.nil
                obtain ⟨v10, u4, hr, ho, hg, -⟩ := HE3.out.appendRd HS3.out (by simp; try omega) HZ3.out.size 38
                have HZ4 := hide (HZ3.out.grown hg HZ3.out.size fun k hk => (HE3.out.lt k hk).1)
                have HE4 := hide ho
                have HR := hide hr
                clear hr ho hg
                refine step_append_runI rfl (.tmp 69) (.tmp 74) 38 38 rfl v4 (.slice (some ⟨u1.heap.size, 0, none⟩) 1 1) (by simp [Act.eval]) (by simp [Act.eval]) HR.out ?_
                clear HR
                have hs4 := HSA.out _ HZ4.out
                refine hK.out _ _ hs4 (fun _ => ?_)
                clear hK K
                try simp only [Act.put, List.setIfInBounds_toArray, List.set_cons_zero, List.set_cons_succ]
                refine wpAnyH_ready (rs := [14]) (by kernel_rfl) (by simp) ?_
                refine AllReadyH.cons (o := { dst := some 79, op := Go.Op.call { callee := Go.Callee.builtin Go.Builtin.append, args := #[Go.Operand.tmp 75, Go.Operand.tmp 78], argTypes := #[38, 38] }, type := 38, pos := "outright.go:114", after := #[{ on := 10, ground := Go.Ground.data }, { on := 13, ground := Go.Ground.data }, { on := 10, ground := Go.Ground.chain }], guard := none }) rfl (fun K hK => ?_) AllReadyH.nil
                obtain ⟨v14, u5, hr, ho, hg, -⟩ := HE4.out.appendRd (HC2.out _ HZ4.out) (by simp; try omega) HZ4.out.size 38
                have HZ5 := hide (HZ4.out.grown hg HZ4.out.size fun k hk => (HE4.out.lt k hk).1)
                have HE5 := hide ho
                have HR := hide hr
                clear hr ho hg
                refine step_append_runI rfl (.tmp 75) (.tmp 78) 38 38 rfl v10 (.slice (if tcap = p then some ⟨g, 0, none⟩ else some ⟨g, p * 2, none⟩) (k - p) (tcap - p)) (by simp [Act.eval]) (by simp [Act.eval]) HR.out ?_
                clear HR
                have hs5 := HSA.out _ HZ5.out
                refine hK.out _ _ hs5 (fun _ => ?_)
                clear hK K
                try simp only [Act.put, List.setIfInBounds_toArray, List.set_cons_zero, List.set_cons_succ]
                refine wpAnyH_ready (rs := [15]) (by kernel_rfl) (by simp) ?_
                refine AllReadyH.cons (o := { dst := some 13, op := Go.Op.assign (Go.Operand.tmp 79), type := 38, pos := "outright.go:114", after := #[{ on := 14, ground := Go.Ground.data }, { on := 14, ground := Go.Ground.chain }, { on := 0, ground := Go.Ground.phase }, { on := 1, ground := Go.Ground.phase }, { on := 2, ground := Go.Ground.phase }, { on := 3, ground := Go.Ground.phase }, { on := 4, ground := Go.Ground.phase }, { on := 5, ground := Go.Ground.phase }, { on := 6, ground := Go.Ground.phase }, { on := 7, ground := Go.Ground.phase }, { on := 8, ground := Go.Ground.phase }, { on := 9, ground := Go.Ground.phase }, { on := 10, ground := Go.Ground.phase }, { on := 11, ground := Go.Ground.phase }, { on := 12, ground := Go.Ground.phase }, { on := 13, ground := Go.Ground.phase }, { on := 14, ground := Go.Ground.phase }], guard := none }) rfl (fun K hK => ?_) AllReadyH.nil
                go_simp
                have HE6 := HE5
                have HZ6 := HZ5
                have hs6 := HSA.out _ HZ6.out
                refine hK.out _ _ hs6 (fun _ => ?_)
                clear hK K
                try simp only [Act.put, List.setIfInBounds_toArray, List.set_cons_zero, List.set_cons_succ]
                refine wpAnyH_done (by kernel_rfl) ?_ _
                go_wp2_with fail
                go_roundw
                case rel => exact ⟨k + 1, T.take p ++ [(x0, x1)] ++ T.drop p, hlt, by go_num, HPM.out p, HE6.out.mono HW4.out, below_call HB.out HZ6.out⟩
                case measure => simp [intOf]; omega
            case' b11_9 =>
              obtain ⟨u1, HU1⟩ := named ((wr.alloc (.cells #[.int .i64 x0, .int .i64 x1] 30)).drew)
              have hb : Below wr.heap.size wr u1 := by rw [HU1.out]; exact ((Below.refl _ _).alloc (Nat.le_refl _) _).drew
              have HZ1 := hide hb
              have hsz1 : wr.heap.size < u1.heap.size := by rw [HU1.out]; simp
              have HS1 := hide (show RdT u1 (.slice (some ⟨wr.heap.size, 0, none⟩) 1 1) [(x0, x1)] by rw [HU1.out]; exact (RdT.lit _ [(x0, x1)] 1 _ rfl rfl (by simp)).heap rfl)
              clear hb
              go_simp
              rw [← HU1.out]
              have hs1 := HSA.out _ HZ1.out
              refine hK.out _ _ hs1 (fun _ => ?_)
              clear hK K
              try simp only [Act.put, List.setIfInBounds_toArray, List.set_cons_zero, List.set_cons_succ]
              refine wpAnyH_ready (rs := [0]) (by kernel_rfl) (by simp) ?_
              refine AllReadyH.cons (o := { dst := some 65, op := Go.Op.buildSlice 38 0 #[], type := 38, pos := "outright.go:114", after := #[], guard := none }) rfl (fun K hK => ?_) AllReadyH.nil
              obtain ⟨u2, HU2⟩ := named ((u1.alloc (.cells #[] 30)))
              have hb : Below u1.heap.size u1 u2 := by rw [HU2.out]; exact ((Below.refl _ _).alloc (Nat.le_refl _) _)
              have HZ2 := hide (below_call HZ1.out hb)
              have HE2 := hide (show OwnT u2 wr.heap.size (.slice (some ⟨u1.heap.size, 0, none⟩) 0 0) [] by rw [HU2.out]; exact ((OwnT.empty _)).mono HZ1.out.size)
              have HS2 := hide (HS1.out.below hb)
              clear hb
              go_simp
              rw [← HU2.out]
              have hs2 := HSA.out _ HZ2.out
              refine hK.out _ _ hs2 (fun _ => ?_)
              clear hK K
              try simp only [Act.put, List.setIfInBounds_toArray, List.set_cons_zero, List.set_cons_succ]
              refine wpAnyH_ready (rs := [4]) (by kernel_rfl) (by simp) ?_
              refine AllReadyH.cons (o := { dst := some 69, op := Go.Op.call { callee := Go.Callee.builtin Go.Builtin.append, args := #[Go.Operand.tmp 65, Go.Operand.tmp 68], argTypes := #[38, 38] }, type := 38, pos := "outright.go:114", after := #[{ on := 0, ground := Go.Ground.data }, { on := 3, ground := Go.Ground.data }], guard := none }) rfl (fun K hK => ?_) AllReadyH.nil
              obtain ⟨v4, u3, hr, ho, hg, -⟩ := HE2.out.appendRd (HC1.out _ HZ2.out) (by simp; try omega) HZ2.out.size 38
              have HZ3 := hide (HZ2.out.grown hg HZ2.out.size fun k hk => (HE2.out.lt k hk).1)
              rw [List.nil_append] at ho
              have HE3 := hide ho
              have HR := hide hr
              have HS3 := hide (HS2.out.heap (hg.block _ (HS2.out.blk (by simp)) (by simp [Value.ownBlock]; omega)))
              clear hr ho hg
              refine step_append_runI rfl (.tmp 65) (.tmp 68) 38 38 rfl (.slice (some ⟨u1.heap.size, 0, none⟩) 0 0) (.slice (some ⟨g, 0, none⟩) p tcap) (by simp [Act.eval]) (by simp [Act.eval]) HR.out ?_
              clear HR
              have hs3 := HSA.out _ HZ3.out
              refine hK.out _ _ hs3 (fun _ => ?_)
              clear hK K
              try simp only [Act.put, List.setIfInBounds_toArray, List.set_cons_zero, List.set_cons_succ]
              refine wpAnyH_ready (rs := [10]) (by kernel_rfl) (by simp) ?_
              refine AllReadyH.cons (o := { dst := some 75, op := Go.Op.call { callee := Go.Callee.builtin Go.Builtin.append, args := #[Go.Operand.tmp 69, Go.Operand.tmp 74], argTypes := #[38, 38] }, type := 38, pos := "outright.go:114", after := #[{ on := 4, ground := Go.Ground.data }, { on := 9, ground := Go.Ground.data }, { on := 4, ground := Go.Ground.chain }], guard := none }) rfl (fun K hK => ?_) AllReadyH.nil
              obtain ⟨v10, u4, hr, ho, hg, -⟩ := HE3.out.appendRd HS3.out (by simp; try omega) HZ3.out.size 38
              have HZ4 := hide (HZ3.out.grown hg HZ3.out.size fun k hk => (HE3.out.lt k hk).1)
              have HE4 := hide ho
              have HR := hide hr
              clear hr ho hg
              refine step_append_runI rfl (.tmp 69) (.tmp 74) 38 38 rfl v4 (.slice (some ⟨wr.heap.size, 0, none⟩) 1 1) (by simp [Act.eval]) (by simp [Act.eval]) HR.out ?_
              clear HR
              have hs4 := HSA.out _ HZ4.out
              refine hK.out _ _ hs4 (fun _ => ?_)
              clear hK K
              try simp only [Act.put, List.setIfInBounds_toArray, List.set_cons_zero, List.set_cons_succ]
              refine wpAnyH_ready (rs := [14]) (by kernel_rfl) (by simp) ?_
              refine AllReadyH.cons (o := { dst := some 79, op := Go.Op.call { callee := Go.Callee.builtin Go.Builtin.append, args := #[Go.Operand.tmp 75, Go.Operand.tmp 78], argTypes := #[38, 38] }, type := 38, pos := "outright.go:114", after := #[{ on := 10, ground := Go.Ground.data }, { on := 13, ground := Go.Ground.data }, { on := 10, ground := Go.Ground.chain }], guard := none }) rfl (fun K hK => ?_) AllReadyH.nil
              obtain ⟨v14, u5, hr, ho, hg, -⟩ := HE4.out.appendRd (HC2.out _ HZ4.out) (by simp; try omega) HZ4.out.size 38
              have HZ5 := hide (HZ4.out.grown hg HZ4.out.size fun k hk => (HE4.out.lt k hk).1)
              have HE5 := hide ho
              have HR := hide hr
              clear hr ho hg
              refine step_append_runI rfl (.tmp 75) (.tmp 78) 38 38 rfl v10 (.slice (if tcap = p then some ⟨g, 0, none⟩ else some ⟨g, p * 2, none⟩) (k - p) (tcap - p)) (by simp [Act.eval]) (by simp [Act.eval]) HR.out ?_
              clear HR
              have hs5 := HSA.out _ HZ5.out
              refine hK.out _ _ hs5 (fun _ => ?_)
              clear hK K
              try simp only [Act.put, List.setIfInBounds_toArray, List.set_cons_zero, List.set_cons_succ]
              refine wpAnyH_ready (rs := [15]) (by kernel_rfl) (by simp) ?_
              refine AllReadyH.cons (o := { dst := some 13, op := Go.Op.assign (Go.Operand.tmp 79), type := 38, pos := "outright.go:114", after := #[{ on := 14, ground := Go.Ground.data }, { on := 14, ground := Go.Ground.chain }, { on := 0, ground := Go.Ground.phase }, { on := 1, ground := Go.Ground.phase }, { on := 2, ground := Go.Ground.phase }, { on := 3, ground := Go.Ground.phase }, { on := 4, ground := Go.Ground.phase }, { on := 5, ground := Go.Ground.phase }, { on := 6, ground := Go.Ground.phase }, { on := 7, ground := Go.Ground.phase }, { on := 8, ground := Go.Ground.phase }, { on := 9, ground := Go.Ground.phase }, { on := 10, ground := Go.Ground.phase }, { on := 11, ground := Go.Ground.phase }, { on := 12, ground := Go.Ground.phase }, { on := 13, ground := Go.Ground.phase }, { on := 14, ground := Go.Ground.phase }], guard := none }) rfl (fun K hK => ?_) AllReadyH.nil
              go_simp
              have HE6 := HE5
              have HZ6 := HZ5
              have hs6 := HSA.out _ HZ6.out
              refine hK.out _ _ hs6 (fun _ => ?_)
              clear hK K
              try simp only [Act.put, List.setIfInBounds_toArray, List.set_cons_zero, List.set_cons_succ]
              refine wpAnyH_done (by kernel_rfl) ?_ _
              go_wp2_with fail
              go_roundw
              case rel => exact ⟨k + 1, T.take p ++ [(x0, x1)] ++ T.drop p, hlt, by go_num, HPM.out p, HE6.out.mono HW4.out, below_call HB.out HZ6.out⟩
              case measure => simp [intOf]; omega
          · have hkbI : ¬ (k : Int) < (nb : Int) := by omega
            have hz0 : (0 : Int) ≤ (tcap : Int) := by omega
            have HC1 : Hid (∀ u, Below wr.heap.size wr u → RdT u (.slice (some ⟨g, 0, none⟩) 0 tcap) (T.take 0)) := fun u hu => (HRT.out.below hu).cut1 (Nat.zero_le _)
            have HC2 : Hid (∀ u, Below wr.heap.size wr u → RdT u (.slice (some ⟨g, 0, none⟩) k tcap) (T.drop 0)) := fun u hu => by have h1 := HRT.out.below hu; rw [hTl] at h1; exact h1
            go_wp2_with fail
            refine wp_region_held_drew (S := (fun u => u.cell? ⟨bx, off + k * 2, none⟩ = some (.int .i64 x0) ∧ u.cell? ⟨bx, off + k * 2 + 1, none⟩ = some (.int .i64 x1))) (by kernel_rfl) hs0 (fun _ => ?_)
            refine wpAnyH_take (i := 1) (oi := { dst := some 66, op := Go.Op.move (Go.Operand.tmp 13), type := 38, pos := "outright.go:114", after := #[], guard := none }) (v := ?_) rfl (by kernel_rfl) (by kernel_rfl) (by kernel_rfl) (fun _ _ _ h => h) (Or.inl ⟨by rfl, ?hy26⟩) hs0 ?_
            case hy26 =>
              intro u hu
              obtain ⟨u0, u1⟩ := hu
              go_simp
              try with_reducible rfl
            simp only [Act.put, List.setIfInBounds_toArray, List.set_cons_zero, List.set_cons_succ]
            refine wpAnyH_take (i := 2) (oi := { dst := some 67, op := Go.Op.move (Go.Operand.tmp 15), type := 3, pos := "outright.go:114", after := #[], guard := none }) (v := ?_) rfl (by kernel_rfl) (by kernel_rfl) (by kernel_rfl) (fun _ _ _ h => h) (Or.inl ⟨by rfl, ?hy27⟩) hs0 ?_
            case hy27 =>
              intro u hu
              obtain ⟨u0, u1⟩ := hu
              go_simp
              try with_reducible rfl
            simp only [Act.put, List.setIfInBounds_toArray, List.set_cons_zero, List.set_cons_succ]
            refine wpAnyH_take (i := 3) (oi := { dst := some 68, op := Go.Op.slice 38 (Go.Operand.tmp 66) none (some (Go.Operand.tmp 67)) none, type := 38, pos := "outright.go:114", after := #[{ on := 1, ground := Go.Ground.data }, { on := 2, ground := Go.Ground.data }], guard := none }) (v := ?_) rfl (by kernel_rfl) (by kernel_rfl) (by kernel_rfl) (fun _ _ _ h => h) (Or.inl ⟨by rfl, ?hy28⟩) hs0 ?_
            case hy28 =>
              intro u hu
              obtain ⟨u0, u1⟩ := hu
              go_simp
              try with_reducible rfl
            simp only [Act.put, List.setIfInBounds_toArray, List.set_cons_zero, List.set_cons_succ]
            refine wpAnyH_take (i := 5) (oi := { dst := some 70, op := Go.Op.move (Go.Operand.tmp 12), type := 38, pos := "outright.go:114", after := #[], guard := none }) (v := ?_) rfl (by kernel_rfl) (by kernel_rfl) (by kernel_rfl) (fun _ _ _ h => h) (Or.inl ⟨by rfl, ?hy29⟩) hs0 ?_
            case hy29 =>
              intro u hu
              obtain ⟨u0, u1⟩ := hu
              go_simp
              try with_reducible rfl
            simp only [Act.put, List.setIfInBounds_toArray, List.set_cons_zero, List.set_cons_succ]
            refine wpAnyH_take (i := 6) (oi := { dst := some 71, op := Go.Op.move (Go.Operand.tmp 14), type := 3, pos := "outright.go:114", after := #[], guard := none }) (v := ?_) rfl (by kernel_rfl) (by kernel_rfl) (by kernel_rfl) (fun _ _ _ h => h) (Or.inl ⟨by rfl, ?hy30⟩) hs0 ?_
            case hy30 =>
              intro u hu
              obtain ⟨u0, u1⟩ := hu
              go_simp
              try with_reducible rfl
            simp only [Act.put, List.setIfInBounds_toArray, List.set_cons_zero, List.set_cons_succ]
            refine wpAnyH_take (i := 7) (oi := { dst := some 72, op := Go.Op.indexAddr 38 (Go.Operand.tmp 70) (Go.Operand.tmp 71), type := 0, pos := "outright.go:114", after := #[{ on := 5, ground := Go.Ground.data }, { on := 6, ground := Go.Ground.data }], guard := none }) (v := ?_) rfl (by kernel_rfl) (by kernel_rfl) (by kernel_rfl) (fun _ _ _ h => h) (Or.inl ⟨by rfl, ?hy31⟩) hs0 ?_
            case hy31 =>
              intro u hu
              obtain ⟨u0, u1⟩ := hu
              go_simp
              try with_reducible rfl
            simp only [Act.put, List.setIfInBounds_toArray, List.set_cons_zero, List.set_cons_succ]
            refine wpAnyH_take (i := 8) (oi := { dst := some 73, op := Go.Op.load 30 (Go.Operand.tmp 72), type := 30, pos := "outright.go:114", after := #[{ on := 7, ground := Go.Ground.data }], guard := none }) (v := ?_) rfl (by kernel_rfl) (by kernel_rfl) (by kernel_rfl) (fun _ _ _ h => h) (Or.inl ⟨by rfl, ?hy32⟩) hs0 ?_
            case hy32 =>
              intro u hu
              obtain ⟨u0, u1⟩ := hu
              go_simp
              try with_reducible rfl
            simp only [Act.put, List.setIfInBounds_toArray, List.set_cons_zero, List.set_cons_succ]
            refine wpAnyH_take (i := 11) (oi := { dst := some 76, op := Go.Op.move (Go.Operand.tmp 13), type := 38, pos := "outright.go:114", after := #[], guard := none }) (v := ?_) rfl (by kernel_rfl) (by kernel_rfl) (by kernel_rfl) (fun _ _ _ h => h) (Or.inl ⟨by rfl, ?hy33⟩) hs0 ?_
            case hy33 =>
              intro u hu
              obtain ⟨u0, u1⟩ := hu
              go_simp
              try with_reducible rfl
            simp only [Act.put, List.setIfInBounds_toArray, List.set_cons_zero, List.set_cons_succ]
            refine wpAnyH_take (i := 12) (oi := { dst := some 77, op := Go.Op.move (Go.Operand.tmp 15), type := 3, pos := "outright.go:114", after := #[], guard := none }) (v := ?_) rfl (by kernel_rfl) (by kernel_rfl) (by kernel_rfl) (fun _ _ _ h => h) (Or.inl ⟨by rfl, ?hy34⟩) hs0 ?_
            case hy34 =>
              intro u hu
              obtain ⟨u0, u1⟩ := hu
              go_simp
              try with_reducible rfl
            simp only [Act.put, List.setIfInBounds_toArray, List.set_cons_zero, List.set_cons_succ]
            refine wpAnyH_take (i := 13) (oi := { dst := some 78, op := Go.Op.slice 38 (Go.Operand.tmp 76) (some (Go.Operand.tmp 77)) none none, type := 38, pos := "outright.go:114", after := #[{ on := 11, ground := Go.Ground.data }, { on := 12, ground := Go.Ground.data }], guard := none }) (v := ?_) rfl (by kernel_rfl) (by kernel_rfl) (by kernel_rfl) (fun _ _ _ h => h) (Or.inl ⟨by rfl, ?hy35⟩) hs0 ?_
            case hy35 =>
              intro u hu
              obtain ⟨u0, u1⟩ := hu
              go_simp
              try with_reducible rfl
            simp only [Act.put, List.setIfInBounds_toArray, List.set_cons_zero, List.set_cons_succ]
            refine wpAnyH_ready (rs := [0, 9]) (by kernel_rfl) (by simp) ?_
            refine AllReadyH.cons (o := { dst := some 65, op := Go.Op.buildSlice 38 0 #[], type := 38, pos := "outright.go:114", after := #[], guard := none }) rfl (fun K hK => ?b36_0) (AllReadyH.cons (o := { dst := some 74, op := Go.Op.buildSlice 38 1 #[(0, Go.Operand.tmp 73)], type := 38, pos := "outright.go:114", after := #[{ on := 8, ground := Go.Ground.data }], guard := none }) rfl (fun K hK => ?b36_9) AllReadyH.nil)
            case' b36_0 =>
              obtain ⟨u1, HU1⟩ := named ((wr.alloc (.cells #[] 30)).drew)
              have hb : Below wr.heap.size wr u1 := by rw [HU1.out]; exact ((Below.refl _ _).alloc (Nat.le_refl _) _).drew
              have HZ1 := hide hb
              have hsz1 : wr.heap.size < u1.heap.size := by rw [HU1.out]; simp
              have HE1 := hide (show OwnT u1 wr.heap.size (.slice (some ⟨wr.heap.size, 0, none⟩) 0 0) [] by rw [HU1.out]; exact ((OwnT.empty _).heap (fun _ _ => rfl)).mono HZ0.out.size)
              clear hb
              go_simp
              rw [← HU1.out]
              have hs1 := HSA.out _ HZ1.out
              refine hK.out _ _ hs1 (fun _ => ?_)
              clear hK K
              try simp only [Act.put, List.setIfInBounds_toArray, List.set_cons_zero, List.set_cons_succ]
              refine wpAnyH_ready (rs := [4, 9]) (by kernel_rfl) (by simp) ?_
              refine AllReadyH.cons (o := { dst := some 69, op := Go.Op.call { callee := Go.Callee.builtin Go.Builtin.append, args := #[Go.Operand.tmp 65, Go.Operand.tmp 68], argTypes := #[38, 38] }, type := 38, pos := "outright.go:114", after := #[{ on := 0, ground := Go.Ground.data }, { on := 3, ground := Go.Ground.data }], guard := none }) rfl (fun K hK => ?b37_4) (AllReadyH.cons (o := { dst := some 74, op := Go.Op.buildSlice 38 1 #[(0, Go.Operand.tmp 73)], type := 38, pos := "outright.go:114", after := #[{ on := 8, ground := Go.Ground.data }], guard := none }) rfl (fun K hK => ?b37_9) AllReadyH.nil)
              case' b37_4 =>
                obtain ⟨v4, u2, hr, ho, hg, -⟩ := HE1.out.appendRd (HC1.out _ HZ1.out) (by simp; try omega) HZ1.out.size 38
                have HZ2 := hide (HZ1.out.grown hg HZ1.out.size fun k hk => (HE1.out.lt k hk).1)
                rw [List.nil_append] at ho
                have HE2 := hide ho
                have HR := hide hr
                clear hr ho hg
                refine step_append_runI rfl (.tmp 65) (.tmp 68) 38 38 rfl (.slice (some ⟨wr.heap.size, 0, none⟩) 0 0) (.slice (some ⟨g, 0, none⟩) 0 tcap) (by simp [Act.eval]) (by simp [Act.eval]) HR.out ?_
                clear HR
                have hs2 := HSA.out _ HZ2.out
                refine hK.out _ _ hs2 (fun _ => ?_)
                clear hK K
                try simp only [Act.put, List.setIfInBounds_toArray, List.set_cons_zero, List.set_cons_succ]
                refine wpAnyH_ready (rs := [9]) (by kernel_rfl) (by simp) ?_
                refine AllReadyH.cons (o := { dst := some 74, op := Go.Op.buildSlice 38 1 #[(0, Go.Operand.tmp 73)], type := 38, pos := "outright.go:114", after := #[{ on := 8, ground := Go.Ground.data }], guard := none }) rfl (fun K hK => ?_) AllReadyH.nil
                obtain ⟨u3, HU3⟩ := named ((u2.alloc (.cells #[.int .i64 x0, .int .i64 x1] 30)))
                have hb : Below u2.heap.size u2 u3 := by rw [HU3.out]; exact ((Below.refl _ _).alloc (Nat.le_refl _) _)
                have HZ3 := hide (below_call HZ2.out hb)
                have HS3 := hide (show RdT u3 (.slice (some ⟨u2.heap.size, 0, none⟩) 1 1) [(x0, x1)] by rw [HU3.out]; exact (RdT.lit _ [(x0, x1)] 1 _ rfl rfl (by simp)))
                have HE3 := hide (HE2.out.below hb)
                clear hb
                go_simp
                rw [← HU3.out]
                have hs3 := HSA.out _ HZ3.out
                refine hK.out _ _ hs3 (fun _ => ?_)
                clear hK K
                try simp only [Act.put, List.setIfInBounds_toArray, List.set_cons_zero, List.set_cons_succ]
                refine wpAnyH_ready (rs := [10]) (by kernel_rfl) (by simp) ?_
                refine AllReadyH.cons (o := { dst := some 75, op := Go.Op.call { callee := Go.Callee.builtin Go.Builtin.append, args := #[Go.Operand.tmp 69, Go.Operand.tmp 74], argTypes := #[38, 38] }, type := 38, pos := "outright.go:114", after := #[{ on := 4, ground := Go.Ground.data }, { on := 9, ground := Go.Ground.data }, { on := 4, ground := Go.Ground.chain }], guard := none }) rfl (fun K hK => ?_) AllReadyH.nil
                obtain ⟨v10, u4, hr, ho, hg, -⟩ := HE3.out.appendRd HS3.out (by simp; try omega) HZ3.out.size 38
                have HZ4 := hide (HZ3.out.grown hg HZ3.out.size fun k hk => (HE3.out.lt k hk).1)
                have HE4 := hide ho
                have HR := hide hr
                clear hr ho hg
                refine step_append_runI rfl (.tmp 69) (.tmp 74) 38 38 rfl v4 (.slice (some ⟨u2.heap.size, 0, none⟩) 1 1) (by simp [Act.eval]) (by simp [Act.eval]) HR.out ?_
                clear HR
                have hs4 := HSA.out _ HZ4.out
                refine hK.out _ _ hs4 (fun _ => ?_)
                clear hK K
                try simp only [Act.put, List.setIfInBounds_toArray, List.set_cons_zero, List.set_cons_succ]
                refine wpAnyH_ready (rs := [14]) (by kernel_rfl) (by simp) ?_
                refine AllReadyH.cons (o := { dst := some 79, op := Go.Op.call { callee := Go.Callee.builtin Go.Builtin.append, args := #[Go.Operand.tmp 75, Go.Operand.tmp 78], argTypes := #[38, 38] }, type := 38, pos := "outright.go:114", after := #[{ on := 10, ground := Go.Ground.data }, { on := 13, ground := Go.Ground.data }, { on := 10, ground := Go.Ground.chain }], guard := none }) rfl (fun K hK => ?_) AllReadyH.nil
                obtain ⟨v14, u5, hr, ho, hg, -⟩ := HE4.out.appendRd (HC2.out _ HZ4.out) (by simp; try omega) HZ4.out.size 38
                have HZ5 := hide (HZ4.out.grown hg HZ4.out.size fun k hk => (HE4.out.lt k hk).1)
                have HE5 := hide ho
                have HR := hide hr
                clear hr ho hg
                refine step_append_runI rfl (.tmp 75) (.tmp 78) 38 38 rfl v10 (.slice (some ⟨g, 0, none⟩) k tcap) (by simp [Act.eval]) (by simp [Act.eval]) HR.out ?_
                clear HR
                have hs5 := HSA.out _ HZ5.out
                refine hK.out _ _ hs5 (fun _ => ?_)
                clear hK K
                try simp only [Act.put, List.setIfInBounds_toArray, List.set_cons_zero, List.set_cons_succ]
                refine wpAnyH_ready (rs := [15]) (by kernel_rfl) (by simp) ?_
                refine AllReadyH.cons (o := { dst := some 13, op := Go.Op.assign (Go.Operand.tmp 79), type := 38, pos := "outright.go:114", after := #[{ on := 14, ground := Go.Ground.data }, { on := 14, ground := Go.Ground.chain }, { on := 0, ground := Go.Ground.phase }, { on := 1, ground := Go.Ground.phase }, { on := 2, ground := Go.Ground.phase }, { on := 3, ground := Go.Ground.phase }, { on := 4, ground := Go.Ground.phase }, { on := 5, ground := Go.Ground.phase }, { on := 6, ground := Go.Ground.phase }, { on := 7, ground := Go.Ground.phase }, { on := 8, ground := Go.Ground.phase }, { on := 9, ground := Go.Ground.phase }, { on := 10, ground := Go.Ground.phase }, { on := 11, ground := Go.Ground.phase }, { on := 12, ground := Go.Ground.phase }, { on := 13, ground := Go.Ground.phase }, { on := 14, ground := Go.Ground.phase }], guard := none }) rfl (fun K hK => ?_) AllReadyH.nil
                go_simp
                have HE6 := HE5
                have HZ6 := HZ5
                have hs6 := HSA.out _ HZ6.out
                refine hK.out _ _ hs6 (fun _ => ?_)
                clear hK K
                try simp only [Act.put, List.setIfInBounds_toArray, List.set_cons_zero, List.set_cons_succ]
                refine wpAnyH_done (by kernel_rfl) ?_ _
                go_wp2_with fail
                go_roundw
                case rel => exact ⟨k + 1, T.take 0 ++ [(x0, x1)] ++ T.drop 0, hlt, by go_num, HPM.out 0, HE6.out.mono HW4.out, below_call HB.out HZ6.out⟩
                case measure => simp [intOf]; omega
              case' b37_9 =>
                obtain ⟨u2, HU2⟩ := named ((u1.alloc (.cells #[.int .i64 x0, .int .i64 x1] 30)))
                have hb : Below u1.heap.size u1 u2 := by rw [HU2.out]; exact ((Below.refl _ _).alloc (Nat.le_refl _) _)
                have HZ2 := hide (below_call HZ1.out hb)
                have HS2 := hide (show RdT u2 (.slice (some ⟨u1.heap.size, 0, none⟩) 1 1) [(x0, x1)] by rw [HU2.out]; exact (RdT.lit _ [(x0, x1)] 1 _ rfl rfl (by simp)))
                have HE2 := hide (HE1.out.below hb)
                clear hb
                go_simp
                rw [← HU2.out]
                have hs2 := HSA.out _ HZ2.out
                refine hK.out _ _ hs2 (fun _ => ?_)
                clear hK K
                try simp only [Act.put, List.setIfInBounds_toArray, List.set_cons_zero, List.set_cons_succ]
                refine wpAnyH_ready (rs := [4]) (by kernel_rfl) (by simp) ?_
                refine AllReadyH.cons (o := { dst := some 69, op := Go.Op.call { callee := Go.Callee.builtin Go.Builtin.append, args := #[Go.Operand.tmp 65, Go.Operand.tmp 68], argTypes := #[38, 38] }, type := 38, pos := "outright.go:114", after := #[{ on := 0, ground := Go.Ground.data }, { on := 3, ground := Go.Ground.data }], guard := none }) rfl (fun K hK => ?_) AllReadyH.nil
                obtain ⟨v4, u3, hr, ho, hg, -⟩ := HE2.out.appendRd (HC1.out _ HZ2.out) (by simp; try omega) HZ2.out.size 38
                have HZ3 := hide (HZ2.out.grown hg HZ2.out.size fun k hk => (HE2.out.lt k hk).1)
                rw [List.nil_append] at ho
                have HE3 := hide ho
                have HR := hide hr
                have HS3 := hide (HS2.out.heap (hg.block _ (HS2.out.blk (by simp)) (by simp [Value.ownBlock]; omega)))
                clear hr ho hg
                refine step_append_runI rfl (.tmp 65) (.tmp 68) 38 38 rfl (.slice (some ⟨wr.heap.size, 0, none⟩) 0 0) (.slice (some ⟨g, 0, none⟩) 0 tcap) (by simp [Act.eval]) (by simp [Act.eval]) HR.out ?_
                clear HR
                have hs3 := HSA.out _ HZ3.out
                refine hK.out _ _ hs3 (fun _ => ?_)
                clear hK K
                try simp only [Act.put, List.setIfInBounds_toArray, List.set_cons_zero, List.set_cons_succ]
                refine wpAnyH_ready (rs := [10]) (by kernel_rfl) (by simp) ?_
                refine AllReadyH.cons (o := { dst := some 75, op := Go.Op.call { callee := Go.Callee.builtin Go.Builtin.append, args := #[Go.Operand.tmp 69, Go.Operand.tmp 74], argTypes := #[38, 38] }, type := 38, pos := "outright.go:114", after := #[{ on := 4, ground := Go.Ground.data }, { on := 9, ground := Go.Ground.data }, { on := 4, ground := Go.Ground.chain }], guard := none }) rfl (fun K hK => ?_) AllReadyH.nil
                obtain ⟨v10, u4, hr, ho, hg, -⟩ := HE3.out.appendRd HS3.out (by simp; try omega) HZ3.out.size 38
                have HZ4 := hide (HZ3.out.grown hg HZ3.out.size fun k hk => (HE3.out.lt k hk).1)
                have HE4 := hide ho
                have HR := hide hr
                clear hr ho hg
                refine step_append_runI rfl (.tmp 69) (.tmp 74) 38 38 rfl v4 (.slice (some ⟨u1.heap.size, 0, none⟩) 1 1) (by simp [Act.eval]) (by simp [Act.eval]) HR.out ?_
                clear HR
                have hs4 := HSA.out _ HZ4.out
                refine hK.out _ _ hs4 (fun _ => ?_)
                clear hK K
                try simp only [Act.put, List.setIfInBounds_toArray, List.set_cons_zero, List.set_cons_succ]
                refine wpAnyH_ready (rs := [14]) (by kernel_rfl) (by simp) ?_
                refine AllReadyH.cons (o := { dst := some 79, op := Go.Op.call { callee := Go.Callee.builtin Go.Builtin.append, args := #[Go.Operand.tmp 75, Go.Operand.tmp 78], argTypes := #[38, 38] }, type := 38, pos := "outright.go:114", after := #[{ on := 10, ground := Go.Ground.data }, { on := 13, ground := Go.Ground.data }, { on := 10, ground := Go.Ground.chain }], guard := none }) rfl (fun K hK => ?_) AllReadyH.nil
                obtain ⟨v14, u5, hr, ho, hg, -⟩ := HE4.out.appendRd (HC2.out _ HZ4.out) (by simp; try omega) HZ4.out.size 38
                have HZ5 := hide (HZ4.out.grown hg HZ4.out.size fun k hk => (HE4.out.lt k hk).1)
                have HE5 := hide ho
                have HR := hide hr
                clear hr ho hg
                refine step_append_runI rfl (.tmp 75) (.tmp 78) 38 38 rfl v10 (.slice (some ⟨g, 0, none⟩) k tcap) (by simp [Act.eval]) (by simp [Act.eval]) HR.out ?_
                clear HR
                have hs5 := HSA.out _ HZ5.out
                refine hK.out _ _ hs5 (fun _ => ?_)
                clear hK K
                try simp only [Act.put, List.setIfInBounds_toArray, List.set_cons_zero, List.set_cons_succ]
                refine wpAnyH_ready (rs := [15]) (by kernel_rfl) (by simp) ?_
                refine AllReadyH.cons (o := { dst := some 13, op := Go.Op.assign (Go.Operand.tmp 79), type := 38, pos := "outright.go:114", after := #[{ on := 14, ground := Go.Ground.data }, { on := 14, ground := Go.Ground.chain }, { on := 0, ground := Go.Ground.phase }, { on := 1, ground := Go.Ground.phase }, { on := 2, ground := Go.Ground.phase }, { on := 3, ground := Go.Ground.phase }, { on := 4, ground := Go.Ground.phase }, { on := 5, ground := Go.Ground.phase }, { on := 6, ground := Go.Ground.phase }, { on := 7, ground := Go.Ground.phase }, { on := 8, ground := Go.Ground.phase }, { on := 9, ground := Go.Ground.phase }, { on := 10, ground := Go.Ground.phase }, { on := 11, ground := Go.Ground.phase }, { on := 12, ground := Go.Ground.phase }, { on := 13, ground := Go.Ground.phase }, { on := 14, ground := Go.Ground.phase }], guard := none }) rfl (fun K hK => ?_) AllReadyH.nil
                go_simp
                have HE6 := HE5
                have HZ6 := HZ5
                have hs6 := HSA.out _ HZ6.out
                refine hK.out _ _ hs6 (fun _ => ?_)
                clear hK K
                try simp only [Act.put, List.setIfInBounds_toArray, List.set_cons_zero, List.set_cons_succ]
                refine wpAnyH_done (by kernel_rfl) ?_ _
                go_wp2_with fail
                go_roundw
                case rel => exact ⟨k + 1, T.take 0 ++ [(x0, x1)] ++ T.drop 0, hlt, by go_num, HPM.out 0, HE6.out.mono HW4.out, below_call HB.out HZ6.out⟩
                case measure => simp [intOf]; omega
            case' b36_9 =>
              obtain ⟨u1, HU1⟩ := named ((wr.alloc (.cells #[.int .i64 x0, .int .i64 x1] 30)).drew)
              have hb : Below wr.heap.size wr u1 := by rw [HU1.out]; exact ((Below.refl _ _).alloc (Nat.le_refl _) _).drew
              have HZ1 := hide hb
              have hsz1 : wr.heap.size < u1.heap.size := by rw [HU1.out]; simp
              have HS1 := hide (show RdT u1 (.slice (some ⟨wr.heap.size, 0, none⟩) 1 1) [(x0, x1)] by rw [HU1.out]; exact (RdT.lit _ [(x0, x1)] 1 _ rfl rfl (by simp)).heap rfl)
              clear hb
              go_simp
              rw [← HU1.out]
              have hs1 := HSA.out _ HZ1.out
              refine hK.out _ _ hs1 (fun _ => ?_)
              clear hK K
              try simp only [Act.put, List.setIfInBounds_toArray, List.set_cons_zero, List.set_cons_succ]
              refine wpAnyH_ready (rs := [0]) (by kernel_rfl) (by simp) ?_
              refine AllReadyH.cons (o := { dst := some 65, op := Go.Op.buildSlice 38 0 #[], type := 38, pos := "outright.go:114", after := #[], guard := none }) rfl (fun K hK => ?_) AllReadyH.nil
              obtain ⟨u2, HU2⟩ := named ((u1.alloc (.cells #[] 30)))
              have hb : Below u1.heap.size u1 u2 := by rw [HU2.out]; exact ((Below.refl _ _).alloc (Nat.le_refl _) _)
              have HZ2 := hide (below_call HZ1.out hb)
              have HE2 := hide (show OwnT u2 wr.heap.size (.slice (some ⟨u1.heap.size, 0, none⟩) 0 0) [] by rw [HU2.out]; exact ((OwnT.empty _)).mono HZ1.out.size)
              have HS2 := hide (HS1.out.below hb)
              clear hb
              go_simp
              rw [← HU2.out]
              have hs2 := HSA.out _ HZ2.out
              refine hK.out _ _ hs2 (fun _ => ?_)
              clear hK K
              try simp only [Act.put, List.setIfInBounds_toArray, List.set_cons_zero, List.set_cons_succ]
              refine wpAnyH_ready (rs := [4]) (by kernel_rfl) (by simp) ?_
              refine AllReadyH.cons (o := { dst := some 69, op := Go.Op.call { callee := Go.Callee.builtin Go.Builtin.append, args := #[Go.Operand.tmp 65, Go.Operand.tmp 68], argTypes := #[38, 38] }, type := 38, pos := "outright.go:114", after := #[{ on := 0, ground := Go.Ground.data }, { on := 3, ground := Go.Ground.data }], guard := none }) rfl (fun K hK => ?_) AllReadyH.nil
              obtain ⟨v4, u3, hr, ho, hg, -⟩ := HE2.out.appendRd (HC1.out _ HZ2.out) (by simp; try omega) HZ2.out.size 38
              have HZ3 := hide (HZ2.out.grown hg HZ2.out.size fun k hk => (HE2.out.lt k hk).1)
              rw [List.nil_append] at ho
              have HE3 := hide ho
              have HR := hide hr
              have HS3 := hide (HS2.out.heap (hg.block _ (HS2.out.blk (by simp)) (by simp [Value.ownBlock]; omega)))
              clear hr ho hg
              refine step_append_runI rfl (.tmp 65) (.tmp 68) 38 38 rfl (.slice (some ⟨u1.heap.size, 0, none⟩) 0 0) (.slice (some ⟨g, 0, none⟩) 0 tcap) (by simp [Act.eval]) (by simp [Act.eval]) HR.out ?_
              clear HR
              have hs3 := HSA.out _ HZ3.out
              refine hK.out _ _ hs3 (fun _ => ?_)
              clear hK K
              try simp only [Act.put, List.setIfInBounds_toArray, List.set_cons_zero, List.set_cons_succ]
              refine wpAnyH_ready (rs := [10]) (by kernel_rfl) (by simp) ?_
              refine AllReadyH.cons (o := { dst := some 75, op := Go.Op.call { callee := Go.Callee.builtin Go.Builtin.append, args := #[Go.Operand.tmp 69, Go.Operand.tmp 74], argTypes := #[38, 38] }, type := 38, pos := "outright.go:114", after := #[{ on := 4, ground := Go.Ground.data }, { on := 9, ground := Go.Ground.data }, { on := 4, ground := Go.Ground.chain }], guard := none }) rfl (fun K hK => ?_) AllReadyH.nil
              obtain ⟨v10, u4, hr, ho, hg, -⟩ := HE3.out.appendRd HS3.out (by simp; try omega) HZ3.out.size 38
              have HZ4 := hide (HZ3.out.grown hg HZ3.out.size fun k hk => (HE3.out.lt k hk).1)
              have HE4 := hide ho
              have HR := hide hr
              clear hr ho hg
              refine step_append_runI rfl (.tmp 69) (.tmp 74) 38 38 rfl v4 (.slice (some ⟨wr.heap.size, 0, none⟩) 1 1) (by simp [Act.eval]) (by simp [Act.eval]) HR.out ?_
              clear HR
              have hs4 := HSA.out _ HZ4.out
              refine hK.out _ _ hs4 (fun _ => ?_)
              clear hK K
              try simp only [Act.put, List.setIfInBounds_toArray, List.set_cons_zero, List.set_cons_succ]
              refine wpAnyH_ready (rs := [14]) (by kernel_rfl) (by simp) ?_
              refine AllReadyH.cons (o := { dst := some 79, op := Go.Op.call { callee := Go.Callee.builtin Go.Builtin.append, args := #[Go.Operand.tmp 75, Go.Operand.tmp 78], argTypes := #[38, 38] }, type := 38, pos := "outright.go:114", after := #[{ on := 10, ground := Go.Ground.data }, { on := 13, ground := Go.Ground.data }, { on := 10, ground := Go.Ground.chain }], guard := none }) rfl (fun K hK => ?_) AllReadyH.nil
              obtain ⟨v14, u5, hr, ho, hg, -⟩ := HE4.out.appendRd (HC2.out _ HZ4.out) (by simp; try omega) HZ4.out.size 38
              have HZ5 := hide (HZ4.out.grown hg HZ4.out.size fun k hk => (HE4.out.lt k hk).1)
              have HE5 := hide ho
              have HR := hide hr
              clear hr ho hg
              refine step_append_runI rfl (.tmp 75) (.tmp 78) 38 38 rfl v10 (.slice (some ⟨g, 0, none⟩) k tcap) (by simp [Act.eval]) (by simp [Act.eval]) HR.out ?_
              clear HR
              have hs5 := HSA.out _ HZ5.out
              refine hK.out _ _ hs5 (fun _ => ?_)
              clear hK K
              try simp only [Act.put, List.setIfInBounds_toArray, List.set_cons_zero, List.set_cons_succ]
              refine wpAnyH_ready (rs := [15]) (by kernel_rfl) (by simp) ?_
              refine AllReadyH.cons (o := { dst := some 13, op := Go.Op.assign (Go.Operand.tmp 79), type := 38, pos := "outright.go:114", after := #[{ on := 14, ground := Go.Ground.data }, { on := 14, ground := Go.Ground.chain }, { on := 0, ground := Go.Ground.phase }, { on := 1, ground := Go.Ground.phase }, { on := 2, ground := Go.Ground.phase }, { on := 3, ground := Go.Ground.phase }, { on := 4, ground := Go.Ground.phase }, { on := 5, ground := Go.Ground.phase }, { on := 6, ground := Go.Ground.phase }, { on := 7, ground := Go.Ground.phase }, { on := 8, ground := Go.Ground.phase }, { on := 9, ground := Go.Ground.phase }, { on := 10, ground := Go.Ground.phase }, { on := 11, ground := Go.Ground.phase }, { on := 12, ground := Go.Ground.phase }, { on := 13, ground := Go.Ground.phase }, { on := 14, ground := Go.Ground.phase }], guard := none }) rfl (fun K hK => ?_) AllReadyH.nil
              go_simp
              have HE6 := HE5
              have HZ6 := HZ5
              have hs6 := HSA.out _ HZ6.out
              refine hK.out _ _ hs6 (fun _ => ?_)
              clear hK K
              try simp only [Act.put, List.setIfInBounds_toArray, List.set_cons_zero, List.set_cons_succ]
              refine wpAnyH_done (by kernel_rfl) ?_ _
              go_wp2_with fail
              go_roundw
              case rel => exact ⟨k + 1, T.take 0 ++ [(x0, x1)] ++ T.drop 0, hlt, by go_num, HPM.out 0, HE6.out.mono HW4.out, below_call HB.out HZ6.out⟩
              case measure => simp [intOf]; omega
      · have hkN : k = N := by omega
        subst hkN
        have hTL : T.Perm L := by have h1 := HT.out; rw [List.take_of_length_le (by have := HNN.out; omega)] at h1; exact h1
        have hTl : T.length = k := by rw [hTL.length_eq, HNN.out]
        have HTM : Hid (∀ y, y ∈ T ↔ y ∈ L) := fun y => hTL.mem_iff
        have HTI : Hid (T.Pairwise fun a b => a.2 ≠ b.2) := (hTL.pairwise_iff (fun h => Ne.symm h)).2 Q4.out.hq.hp.srt.ids
        have HSL := hide Q4.out.hq.hp.srt
        have HLR := hide Q4.out.hq.hp.rng
        have R5 := hide (R4.out.below HB.out)
        have HTO := hide HO.out
        have HTF : Hid (∀ g, u13.ownBlock = some g → ¬ F' g) := fun g hg hF => by have h1 := (HO.out.lt g hg).1; have h2 := R4.out.hp.sub g hF; omega
        obtain ⟨to, tcap, hts⟩ := HO.out.shape
        rw [hTl] at hts
        subst hts
        have hgo := ((Q2.out.hq.bel.trans (R5.out.bel.mono Q2.out.hq.le)).block go (lt_of HO1.out)).trans HO1.out
        have hgc : wr.cell? ⟨go, 1, none⟩ = some (.int .i64 o1) := by rw [cell_of hgo]; rfl
        have HMW := hide (Q2.out.mp.heap (R5.out.bel.block mb Q2.out.mp.lt))
        have hlk := HMW.out.look_ok mt65 HOI.out.2
        rw [LM_some HSL.out] at hlk
        obtain ⟨dv, HDV⟩ := named ((LM L o1).getD 0)
        obtain ⟨hv, HHV⟩ := named (hasL o1 L)
        rw [← HDV.out, ← HHV.out] at hlk
        have hkn : k ≤ 200 := hN2
        clear hTL HT HB HO Q4 P4 R4 HX4 hgo hk hlt
        go_wp2_with fail
        clear hlk hgc
        go_loopw [90] (fun iv wr => ∃ (i : Nat) (B : List Tm) (G : Nat → Prop), i ≤ k ∧ iv = .int .i64 i ∧ Hid (Hq w2.heap.size w2 wr (.pointer (some ⟨hb', 0, none⟩)) 1000 B G) ∧ Hid (B.length = i) ∧ Hid (∀ y, y ∈ B ↔ y ∈ T.take i) ∧ Hid (OwnT wr w4.heap.size (.slice to k tcap) T) ∧ Hid (∀ g, (Value.slice to k tcap).ownBlock = some g → ¬ G g)) (fun iv _ => k - (intOf iv).toNat)
        case atStart => exact ⟨0, [], F', Nat.zero_le _, rfl, R5, rfl, (fun y => by simp), HTO, HTF⟩
        case round =>
          obtain ⟨i, B, G, hi, rfl, HK, HBL, HBM, HO, HOF⟩ := hrel
          clear R5 HTO HTF
          by_cases hlt : i < k
          · have hiI : (i : Int) < (k : Int) := by omega
            have hil : i < T.length := by omega
            have hyL : T[i] ∈ L := (HTM.out _).1 (List.getElem_mem hil)
            have hyB : hasL (T[i]).2 B = false := hasL_false.2 fun z hz => by
              obtain ⟨j, hj, hjz⟩ := List.mem_iff_getElem.1 ((HBM.out z).1 hz)
              rw [List.length_take] at hj
              rw [List.getElem_take] at hjz
              rw [← hjz]
              exact (List.pairwise_iff_getElem.1 HTI.out) j i (by omega) hil (by omega)
            have hyr := HLR.out _ hyL
            have HBM1 : Hid (∀ y, y ∈ insL T[i] B ↔ y ∈ T.take (i + 1)) := fun y => by
              rw [mem_ins, List.take_succ_eq_append_getElem hil, List.mem_append, List.mem_singleton, HBM.out y]
              exact Or.comm
            have HYC : Hid (∀ u, OwnT u w4.heap.size (.slice to k tcap) T → ∃ b off, to = some ⟨b, off, none⟩ ∧ u.cell? ⟨b, off + i * 2, none⟩ = some (.int .i64 T[i].1) ∧ u.cell? ⟨b, off + i * 2 + 1, none⟩ = some (.int .i64 T[i].2)) := fun u hu => by
              have h1 := hu.rd
              rw [← hTl] at h1
              exact h1.at i hil
            have HGO : Hid (∀ u, Below w2.heap.size w2 u → u.cell? ⟨go, 0, none⟩ = some (.int .i64 o0) ∧ u.cell? ⟨go, 1, none⟩ = some (.int .i64 o1)) := fun u hu => by
              have hg := ((Q2.out.hq.bel.trans (hu.mono Q2.out.hq.le)).block go (lt_of HO1.out)).trans HO1.out
              exact ⟨by rw [cell_of hg]; rfl, by rw [cell_of hg]; rfl⟩
            obtain ⟨y, HY⟩ := named T[i]
            rw [← HY.out] at hyL hyB hyr HBM1 HYC
            obtain ⟨y0, y1⟩ := y
            have HBL1 : Hid ((insL (y0, y1) B).length = i + 1) := by show _ = _; rw [len_ins, HBL.out]
            have hB9 : B.length < 999 := by have := HBL.out; omega
            obtain ⟨b, off, hab, -, -⟩ := HYC.out wr HO.out
            subst hab
            have HYD : Hid (∀ u, OwnT u w4.heap.size (.slice (some ⟨b, off, none⟩) k tcap) T → u.cell? ⟨b, off + i * 2, none⟩ = some (.int .i64 y0) ∧ u.cell? ⟨b, off + i * 2 + 1, none⟩ = some (.int .i64 y1)) := fun u hu => by
              obtain ⟨b', off', e, c⟩ := HYC.out u hu
              cases e
              exact c
            cases hv with
            | false =>
              have hoL : hasL o1 L = false := HHV.out.symm
              have hoB : hasL o1 B = false := hasL_false.2 fun z hz => hasL_false.1 hoL z ((HTM.out z).1 (List.mem_of_mem_take ((HBM.out z).1 hz)))
              have hyo : hasL y1 (insL (o0, o1) B) = false := by
                rw [has_ins, hyB, Bool.or_false, decide_eq_false_iff_not]
                exact fun e => hasL_false.1 hoL _ hyL e
              obtain ⟨g0, g1⟩ := HGO.out wr HK.out.bel
              have kp := put_ok HK.out.hp (o0, o1) HOI.out hoB (by omega)
              go_wp2_with fail
              (with_reducible refine Calls.mono kp ?_)
              clear kp g0 g1
              rintro e w5 ⟨rfl, G1, k1, k2⟩
              have K5 := hide (HK.out.step k1 k2)
              have O5 : Hid (OwnT w5 w4.heap.size (.slice (some ⟨b, off, none⟩) k tcap) T) := HO.out.chg k2.chg HOF.out
              have OF5 : Hid (∀ g, (Value.slice (some ⟨b, off, none⟩) k tcap).ownBlock = some g → ¬ G1 g) := fun g hg hG => (k2.new g hG).elim (HOF.out g hg) fun h => by have := (HO.out.lt g hg).2; omega
              have hsb := HK.out.hp.srt
              have kp := put_ok K5.out.hp (y0, y1) hyr hyo (by rw [len_ins]; omega)
              obtain ⟨a0, a1⟩ := HYD.out w5 O5.out
              clear k1 k2 HK HO HOF
              go_wp2_with fail
              (with_reducible refine Calls.mono kp ?_)
              clear kp a0 a1
              rintro e w6 ⟨rfl, G2, k1, k2⟩
              have K6 := hide (K5.out.step k1 k2)
              have O6 : Hid (OwnT w6 w4.heap.size (.slice (some ⟨b, off, none⟩) k tcap) T) := O5.out.chg k2.chg OF5.out
              have OF6 : Hid (∀ g, (Value.slice (some ⟨b, off, none⟩) k tcap).ownBlock = some g → ¬ G2 g) := fun g hg hG => (k2.new g hG).elim (OF5.out g hg) fun h => by have := (O5.out.lt g hg).2; omega
              have kd := drop_yes K6.out.hp (o0, o1) ((mem_ins _ _ _).2 (.inr ((mem_ins _ _ _).2 (.inl rfl))))
              rw [del_ins2 hsb (o0, o1) (y0, y1) hoB hyo] at kd
              obtain ⟨g0, g1⟩ := HGO.out w6 K6.out.bel
              clear k1 k2 K5 O5 OF5 hsb
              go_wp2_with fail
              (with_reducible refine Calls.mono kd ?_)
              clear kd g0 g1
              rintro e w7 ⟨rfl, k1, k2⟩
              have O7 : Hid (OwnT w7 w4.heap.size (.slice (some ⟨b, off, none⟩) k tcap) T) := O6.out.chg k2.chg OF6.out
              obtain ⟨w8, HW8⟩ := named (w7.alloc (.cells #[.int .i64 o0, .int .i64 o1] 30))
              have hb8 : Below w7.heap.size w7 w8 := by rw [HW8.out]; exact (Below.refl _ _).alloc (Nat.le_refl _) _
              have K8 := hide ((K6.out.step k1 k2).below hb8)
              have O8 := hide (O7.out.below hb8)
              have hc8 := heap_new w7 (.cells #[.int .i64 o0, .int .i64 o1] 30)
              rw [← HW8.out] at hc8
              have c0 : w8.cell? ⟨w7.heap.size, 0, none⟩ = some (.int .i64 o0) := by rw [cell_of hc8]; rfl
              have c1 : w8.cell? ⟨w7.heap.size, 1, none⟩ = some (.int .i64 o1) := by rw [cell_of hc8]; rfl
              obtain ⟨g0, g1⟩ := HGO.out w8 K8.out.bel
              clear k1 k2 K6 O6 O7 hb8 hc8
              go_wp2_with (rw [← HW8.out])
              go_roundw
              case rel => exact ⟨i + 1, insL (y0, y1) B, G2, hlt, by go_num, K8, HBL1, HBM1, O8, OF6⟩
              case measure => simp [intOf]; omega
            | true =>
              have kp := put_ok HK.out.hp (y0, y1) hyr hyB (by omega)
              obtain ⟨a0, a1⟩ := HYD.out wr HO.out
              go_wp2_with fail
              (with_reducible refine Calls.mono kp ?_)
              clear kp a0 a1
              rintro e w6 ⟨rfl, G2, k1, k2⟩
              have K6 := hide (HK.out.step k1 k2)
              have O6 : Hid (OwnT w6 w4.heap.size (.slice (some ⟨b, off, none⟩) k tcap) T) := HO.out.chg k2.chg HOF.out
              have OF6 : Hid (∀ g, (Value.slice (some ⟨b, off, none⟩) k tcap).ownBlock = some g → ¬ G2 g) := fun g hg hG => (k2.new g hG).elim (HOF.out g hg) fun h => by have := (HO.out.lt g hg).2; omega
              obtain ⟨M, HM⟩ := named (insL (y0, y1) B)
              rw [← HM.out] at K6 HBL1 HBM1
              obtain ⟨g0, g1⟩ := HGO.out w6 K6.out.bel
              clear k1 k2 HK HO HOF
              cases hm : hasL o1 M with
              | true =>
                obtain ⟨z, hz, hzo⟩ := hasL_iff.1 hm
                have kd := drop_yes K6.out.hp z hz
                rw [hzo] at kd
                have hzr := K6.out.hp.rng z hz
                have hid := ins_del K6.out.hp.srt hz
                have hhd := has_del z.2 M
                have hld := len_del K6.out.hp.srt hz
                rw [hzo] at hid hhd hld
                have hM9 : (delL o1 M).length < 1000 := by have := HBL1.out; omega
                obtain ⟨z0, z1⟩ := z
                simp only at hzo
                subst hzo
                go_wp2_with fail
                (with_reducible refine Calls.mono kd ?_)
                clear kd g0 g1
                rintro e w7 ⟨rfl, k1, k2⟩
                have O7 : Hid (OwnT w7 w4.heap.size (.slice (some ⟨b, off, none⟩) k tcap) T) := O6.out.chg k2.chg OF6.out
                obtain ⟨w8, HW8⟩ := named (w7.alloc (.cells #[.int .i64 z0, .int .i64 z1] 30))
                have hb8 : Below w7.heap.size w7 w8 := by rw [HW8.out]; exact (Below.refl _ _).alloc (Nat.le_refl _) _
                have K8 := hide ((K6.out.step k1 k2).below hb8)
                have O8 := hide (O7.out.below hb8)
                have hc8 := heap_new w7 (.cells #[.int .i64 z0, .int .i64 z1] 30)
                rw [← HW8.out] at hc8
                have c0 : w8.cell? ⟨w7.heap.size, 0, none⟩ = some (.int .i64 z0) := by rw [cell_of hc8]; rfl
                have c1 : w8.cell? ⟨w7.heap.size, 1, none⟩ = some (.int .i64 z1) := by rw [cell_of hc8]; rfl
                have kp := put_ok K8.out.hp (z0, z1) hzr hhd hM9
                rw [hid] at kp
                clear k1 k2 K6 O6 O7 hb8 hc8
                go_wp2_with (rw [← HW8.out])
                (with_reducible refine Calls.mono kp ?_)
                clear kp c0 c1
                rintro e w9 ⟨rfl, G3, k1, k2⟩
                have K9 := hide (K8.out.step k1 k2)
                have O9 : Hid (OwnT w9 w4.heap.size (.slice (some ⟨b, off, none⟩) k tcap) T) := O8.out.chg k2.chg OF6.out
                have OF9 : Hid (∀ g, (Value.slice (some ⟨b, off, none⟩) k tcap).ownBlock = some g → ¬ G3 g) := fun g hg hG => (k2.new g hG).elim (OF6.out g hg) fun h => by have := (O8.out.lt g hg).2; omega
                clear k1 k2 K8 O8 OF6
                go_wp2_with fail
                go_roundw
                case rel => exact ⟨i + 1, M, G3, hlt, by go_num, K9, HBL1, HBM1, O9, OF9⟩
                case measure => simp [intOf]; omega
              | false =>
                have kd := drop_no K6.out.hp o1 HOI.out.2 hm
                go_wp2_with fail
                (with_reducible refine Calls.mono kd ?_)
                clear kd g0 g1
                rintro e w7 ⟨rfl, hb7⟩
                obtain ⟨w8, HW8⟩ := named (w7.alloc (.cells #[.int .i64 0, .int .i64 0] 30))
                have hb8 : Below w6.heap.size w6 w8 := by rw [HW8.out]; exact below_call hb7 ((Below.refl _ _).alloc (Nat.le_refl _) _)
                have K8 := hide (K6.out.below hb8)
                have O8 := hide (O6.out.below hb8)
                clear hb7 hb8 K6 O6
                go_wp2_with fail
                rw [← HW8.out]
                go_roundw
                case rel => exact ⟨i + 1, M, G2, hlt, by go_num, K8, HBL1, HBM1, O8, OF6⟩
                case measure => simp [intOf]; omega
          · have hik : i = k := by omega
            subst hik
            have hBL : B = L := by
              refine ord_ext HK.out.hp.srt.ord HSL.out.ord fun y => ?_
              rw [HBM.out y, List.take_of_length_le (by omega)]
              exact HTM.out y
            subst hBL
            have HA := hide (Q2.out.hq.below HK.out.bel)
            have HG2 : Hid (∀ b, G b → w2.heap.size ≤ b) := HK.out.new
            have HGW : Hid (∀ b, G b → w1.heap.size ≤ b) := fun b hb => Nat.le_trans Q2.out.hq.le (HK.out.new b hb)
            have HFB : Hid (∀ b, F b → w1.heap.size ≤ b) := Q2.out.hq.new
            have HDG : Hid (∀ b, G b → ¬ F b) := fun b h1 h2 => by have := HG2.out b h1; have := HFW.out b h2; omega
            have HDF : Hid (∀ b, F b → ¬ G b) := fun b h1 h2 => HDG.out b h2 h1
            have HBB : Hid (Hq w1.heap.size w1 wr (.pointer (some ⟨hb', 0, none⟩)) 1000 B G) := ⟨HK.out.hp, HGW.out, HA.out.bel, HA.out.le⟩
            have hlB : B.length = i := HBL.out
            clear HK HBM HO HOF hi hlt
            go_wp2_with fail
            go_loopw [142] (fun iv wr => ∃ (j : Nat) (M : List Tm), j ≤ i ∧ iv = .int .i64 j ∧ M.length + j = i ∧ Hid (Hq w1.heap.size w1 wr (.pointer (some ⟨hb, 0, none⟩)) 1000 M F) ∧ Hid (Hq w1.heap.size w1 wr (.pointer (some ⟨hb', 0, none⟩)) 1000 M G)) (fun iv _ => i - (intOf iv).toNat)
            case atStart => exact ⟨0, B, Nat.zero_le _, rfl, by omega, HA, HBB⟩
            case round =>
              obtain ⟨j, M, hj, rfl, hM, A, Z⟩ := hrel
              clear HA HBB
              cases M with
              | nil =>
                have hji : ¬ (j : Int) < (i : Int) := by simp only [List.length_nil] at hM; omega
                have kl := len_zero A.out.hp
                have kz := len_zero Z.out.hp
                have ka := awake_true wr
                go_wp2_with fail
                (with_reducible refine Calls.mono kl ?_)
                clear kl
                rintro e w5 ⟨rfl, rfl⟩
                go_wp2_with fail
                (with_reducible refine Calls.mono kz ?_)
                clear kz
                rintro e w6 ⟨rfl, rfl⟩
                go_wp2_with fail
                (with_reducible refine Calls.mono ka ?_)
                clear ka
                rintro e w7 ⟨rfl, hb7⟩
                have HEND := hide (below_call HB1.out (A.out.below hb7).bel)
                clear hb7
                go_wp2_with fail
                go_ret
                exact ⟨rfl, HEND.out⟩
              | cons x r =>
                have hji : (j : Int) < (i : Int) := by simp only [List.length_cons] at hM; omega
                have hjn : j < i := by omega
                have hr1 : r.length + (j + 1) = i := by simp only [List.length_cons] at hM; omega
                have kp := pop_yes A.out.hp
                obtain ⟨x0, x1⟩ := x
                clear hM
                go_wp2_with fail
                (with_reducible refine Calls.mono kp ?_)
                clear kp
                rintro e w5 ⟨rfl, k1, k2⟩
                have A5 := A.out.step k1 k2
                have Z5 := Z.out.keep k2 HDG.out HFB.out
                obtain ⟨w6, HW6⟩ := named (w5.alloc (.cells #[.int .i64 x0, .int .i64 x1] 30))
                obtain ⟨gp, HGP⟩ := named w5.heap.size
                have hb6 : Below w5.heap.size w5 w6 := by rw [HW6.out]; exact (Below.refl _ _).alloc (Nat.le_refl _) _
                have HC6 := hide (show w6.heap[gp]? = some (.cells #[.int .i64 x0, .int .i64 x1] 30 (0, 0)) by rw [HW6.out, HGP.out]; exact heap_new _ _)
                have HGF : Hid (¬ G gp) := fun hG => by have := Z5.hp.sub _ hG; rw [HGP.out] at this; omega
                have A6 := hide (A5.below hb6)
                have Z6 := hide (Z5.below hb6)
                have kp := pop_yes Z6.out.hp
                clear k1 k2 A5 Z5 hb6 A Z
                go_wp2_with (rw [← HW6.out])
                (try rw [← HGP.out])
                (with_reducible refine Calls.mono kp ?_)
                clear kp
                rintro e w7 ⟨rfl, k1, k2⟩
                have A7 := A6.out.keep k2 HDF.out HGW.out
                have Z7 := Z6.out.step k1 k2
                have hc7 := (k2.chg.block gp (lt_of HC6.out) HGF.out).trans HC6.out
                obtain ⟨w8, HW8⟩ := named (w7.alloc (.cells #[.int .i64 x0, .int .i64 x1] 30))
                have hb8 : Below w7.heap.size w7 w8 := by rw [HW8.out]; exact (Below.refl _ _).alloc (Nat.le_refl _) _
                have hc8 := heap_new w7 (.cells #[.int .i64 x0, .int .i64 x1] 30)
                rw [← HW8.out] at hc8
                have hp8 := (hb8.block gp (lt_of hc7)).trans hc7
                have A8 := hide (A7.below hb8)
                have Z8 := hide (Z7.below hb8)
                have c0 : w8.cell? ⟨w7.heap.size, 0, none⟩ = some (.int .i64 x0) := by rw [cell_of hc8]; rfl
                have c1 : w8.cell? ⟨w7.heap.size, 1, none⟩ = some (.int .i64 x1) := by rw [cell_of hc8]; rfl
                have p0 : w8.cell? ⟨gp, 0, none⟩ = some (.int .i64 x0) := by rw [cell_of hp8]; rfl
                have p1 : w8.cell? ⟨gp, 1, none⟩ = some (.int .i64 x1) := by rw [cell_of hp8]; rfl
                clear k1 k2 A7 Z7 hb8 hc7 hc8 hp8 A6 Z6 HC6
                go_wp2_with (rw [← HW8.out])
                go_roundw
                case rel => exact ⟨j + 1, r, hjn, by go_num, hr1, A8, Z8⟩
                case measure => simp [intOf]; omega
end Go.Proofs.Ytemlanalaihkoaa
