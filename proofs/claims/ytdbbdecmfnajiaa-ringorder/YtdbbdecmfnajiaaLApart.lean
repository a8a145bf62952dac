/-
  What is done to one queue changes nothing of another: the law is walked. Own work.
-/
import Derived.Test.YtdbbdecmfnajiaaMt
import Derived.Test.YtdbbdecmfnajiaaHin
namespace Go.Proofs.Ytdbbdecmfnajiaa
open Go.RowKit Go.Sort

theorem tl_data (s : ByteArray) : s.toList = s.data.toList := ByteArray.toList_eq s
theorem text_ne {s t : ByteArray} (h : s ≠ t) : ¬ s.toList = t.toList := fun e => h (lit_inj (by unfold lit; rw [← tl_data, ← tl_data, e]))
abbrev nM : ByteArray := ⟨#[109, 105, 110, 101]⟩
theorem right_nM : right nM := by decide
theorem lA_keep {A : PR} {s : ByteArray} {most c : Int} {L : List Int} (h : A s = keepO most c L) : lA A s = L := by
  unfold lA
  rw [h]
  unfold keepO
  by_cases e : L = [] ∧ c = most
  · rw [if_pos e, e.1]
  · rw [if_neg e]
theorem capA_keep {A : PR} {s : ByteArray} {most c : Int} {L : List Int} (hs : right s) (h : A s = keepO most c L) : capA most A s = c := by
  unfold capA
  rw [h]
  unfold keepO
  by_cases e : L = [] ∧ c = most
  · rw [if_pos e]; simp [hs, e.2]
  · rw [if_neg e]
/-- other queues stay -/
theorem putR_other (most : Int) (m : Nat) (A : PR) (s t : ByteArray) (x : Int) (h : t ≠ s) : (putR most m A s x).2.1 t = A t := by
  unfold putR
  split
  · rfl
  · split
    · rfl
    · split
      · rfl
      · exact setA_other _ _ _ _ h
theorem capR_other (most : Int) (m : Nat) (A : PR) (s t : ByteArray) (x : Int) (h : t ≠ s) : (capR most m A s x).2.1 t = A t := by
  unfold capR
  split
  · rfl
  · split
    · rfl
    · exact setA_other _ _ _ _ h
theorem takeR_other (most : Int) (m : Nat) (A : PR) (s t : ByteArray) (h : t ≠ s) : (takeR most m A s).1 t = A t := by
  unfold takeR
  split
  · rfl
  · exact setA_other _ _ _ _ h
theorem dropR_other (most : Int) (m : Nat) (A : PR) (s t : ByteArray) (x : Int) (h : t ≠ s) : (dropR most m A s x).1 t = A t := by
  unfold dropR
  split
  · exact setA_other _ _ _ _ h
  · rfl

/-- one queue is known, and a row of the call's own beside -/
def MI (w0 w : World) (r : Value) (C : Int) (L : List Int) (mv : Value) : Prop :=
  ∃ m A F, Rq w0.heap.size w0 w r 5 m A F ∧ A nM = keepO 5 C L ∧ OwnI w w0.heap.size mv L ∧ ∀ a, mv.ownBlock = some a → ¬ F a
theorem own_step {F G : Nat → Prop} {w w' : World} {B : Nat} {mv : Value} {L : List Int} (ho : OwnI w B mv L) (hF : ∀ a, mv.ownBlock = some a → ¬ F a) (hs : Step F w w' G) : OwnI w' B mv L ∧ ∀ a, mv.ownBlock = some a → ¬ G a := by
  refine ⟨ho.chg hs.chg hF, fun a ha hG => ?_⟩
  rcases hs.new a hG with h | h
  · exact hF a ha h
  · have := (ho.lt a ha).2; omega
theorem MI.below {w0 w w' : World} {r : Value} {C : Int} {L : List Int} {mv : Value} (h : MI w0 w r C L mv) (hb : Below w.heap.size w w') : MI w0 w' r C L mv := by
  obtain ⟨m, A, F, h1, h2, h3, h4⟩ := h
  exact ⟨m, A, F, h1.below hb, h2, h3.below hb, h4⟩
theorem MI.ptr {w0 w : World} {r : Value} {C : Int} {L : List Int} {mv : Value} (h : MI w0 w r C L mv) : ∃ rb, r = .pointer (some ⟨rb, 0, none⟩) := by
  obtain ⟨m, A, F, h1, h2, h3, h4⟩ := h
  exact h1.rg.ptr
theorem MI.bel {w0 w : World} {r : Value} {C : Int} {L : List Int} {mv : Value} (h : MI w0 w r C L mv) : Below w0.heap.size w0 w := by
  obtain ⟨m, A, F, h1, h2, h3, h4⟩ := h
  exact h1.bel
section
variable {w0 w : World} {r : Value} {C : Int} {L : List Int} {mv : Value}
theorem MI.put (h : MI w0 w r C L mv) (s : ByteArray) (hs : s.size ≤ maxLen) (hne : nM ≠ s) (x : Int) : Calls Try.prog 12 #[r, .string s, .int .i64 x] w fun e w' => (∃ z, e = .returned (.int .i64 z)) ∧ MI w0 w' r C L mv := by
  obtain ⟨m, A, F, h1, h2, h3, h4⟩ := h
  refine (put_r h1.rg s hs x).mono ?_
  rintro e w' ⟨rfl, G, k1, k2⟩
  obtain ⟨o1, o2⟩ := own_step h3 h4 k2
  exact ⟨⟨_, rfl⟩, _, _, G, h1.step k1 k2, (putR_other _ _ _ _ _ _ hne).trans h2, o1, o2⟩
theorem MI.cap (h : MI w0 w r C L mv) (s : ByteArray) (hs : s.size ≤ maxLen) (hne : nM ≠ s) (x : Int) : Calls Try.prog 13 #[r, .string s, .int .i64 x] w fun e w' => (∃ z, e = .returned (.int .i64 z)) ∧ MI w0 w' r C L mv := by
  obtain ⟨m, A, F, h1, h2, h3, h4⟩ := h
  refine (cap_r h1.rg s hs x).mono ?_
  rintro e w' ⟨rfl, G, k1, k2⟩
  obtain ⟨o1, o2⟩ := own_step h3 h4 k2
  exact ⟨⟨_, rfl⟩, _, _, G, h1.step k1 k2, (capR_other _ _ _ _ _ _ hne).trans h2, o1, o2⟩
theorem MI.drop (h : MI w0 w r C L mv) (s : ByteArray) (hs : s.size ≤ maxLen) (hne : nM ≠ s) (x : Int) : Calls Try.prog 25 #[r, .string s, .int .i64 x] w fun e w' => (∃ z, e = .returned (.bool z)) ∧ MI w0 w' r C L mv := by
  obtain ⟨m, A, F, h1, h2, h3, h4⟩ := h
  refine (drop_r h1.rg s hs x).mono ?_
  rintro e w' ⟨rfl, G, k1, k2⟩
  obtain ⟨o1, o2⟩ := own_step h3 h4 k2
  exact ⟨⟨_, rfl⟩, _, _, G, h1.step k1 k2, (dropR_other _ _ _ _ _ _ hne).trans h2, o1, o2⟩
theorem MI.take (h : MI w0 w r C L mv) (s : ByteArray) (hs : s.size ≤ maxLen) (hne : nM ≠ s) : Calls Try.prog 23 #[r, .string s] w fun e w' => (∃ z b, e = .returned (.tuple #[.int .i64 z, .bool b])) ∧ MI w0 w' r C L mv := by
  obtain ⟨m, A, F, h1, h2, h3, h4⟩ := h
  refine (take_r h1.rg s hs).mono ?_
  rintro e w' ⟨rfl, G, k1, k2⟩
  obtain ⟨o1, o2⟩ := own_step h3 h4 k2
  exact ⟨⟨_, _, rfl⟩, _, _, G, h1.step k1 k2, (takeR_other _ _ _ _ _ hne).trans h2, o1, o2⟩
theorem MI.has (h : MI w0 w r C L mv) (hl : L.length ≤ 1000) : Calls Try.prog 29 #[r, .string nM, mv] w fun e w' => e = .returned (.bool true) ∧ MI w0 w' r C L mv := by
  have hh := h
  obtain ⟨m, A, F, h1, h2, h3, h4⟩ := h
  refine (has_r h1.rg nM right_nM.max h3.rd (by omega)).mono ?_
  rintro e w' ⟨rfl, hb⟩
  rw [lA_keep h2, decide_eq_true rfl]
  exact ⟨rfl, hh.below hb⟩
theorem MI.room (h : MI w0 w r C L mv) : Calls Try.prog 14 #[r, .string nM] w fun e w' => e = .returned (.int .i64 (max (C - L.length) 0)) ∧ MI w0 w' r C L mv := by
  have hh := h
  obtain ⟨m, A, F, h1, h2, h3, h4⟩ := h
  refine (room_r h1.rg nM right_nM.max).mono ?_
  rintro e w' ⟨rfl, hb⟩
  rw [lA_keep h2, capA_keep right_nM h2]
  exact ⟨rfl, hh.below hb⟩
/-- one more number in the queue -/
def MJ (w0 w : World) (r : Value) (C : Int) (L : List Int) (mv : Value) (x : Int) : Prop :=
  ∃ m A F, Rq w0.heap.size w0 w r 5 m A F ∧ A nM = keepO 5 C (L ++ [x]) ∧ OwnI w w0.heap.size mv L ∧ ∀ a, mv.ownBlock = some a → ¬ F a
theorem MI.mine (h : MI w0 w r C L mv) (x : Int) (hc : 20 ≤ C) (hl : (L.length : Int) < C) : Calls Try.prog 12 #[r, .string nM, .int .i64 x] w fun e w' => e = .returned (.int .i64 0) ∧ MJ w0 w' r C L mv x := by
  obtain ⟨m, A, F, h1, h2, h3, h4⟩ := h
  have hp : putR 5 m A nM x = (0, setA A nM (keepO 5 C (L ++ [x])), keepN A nM (keepO 5 C (L ++ [x])) m) := by
    have hn : A nM ≠ none := by
      rw [h2]; unfold keepO; rw [if_neg (by omega)]; simp
    unfold putR
    rw [if_neg (fun h => h right_nM), lA_keep h2, capA_keep right_nM h2, if_neg (by omega), if_neg (fun h => hn h.1)]
  have k := put_r h1.rg nM right_nM.max x
  rw [hp] at k
  refine k.mono ?_
  rintro e w' ⟨rfl, G, k1, k2⟩
  obtain ⟨o1, o2⟩ := own_step h3 h4 k2
  exact ⟨rfl, _, _, G, h1.step k1 k2, (setA_same A nM _ : _), o1, o2⟩
/-- and in the row beside -/
theorem MJ.row {x : Int} (h : MJ w0 w r C L mv x) (hl : L.length ≤ 1000) : ∃ mv' w2, (Builtin.append_ #[22, 22] 22 #[mv, .slice (some ⟨w.heap.size, 0, none⟩) 1 1]).run Try.prog (w.alloc (.cells #[.int .i64 x] 3)) = .ok mv' w2 ∧ MI w0 w2 r C (L ++ [x]) mv' := by
  obtain ⟨m, A, F, h1, h2, h3, h4⟩ := h
  have hb : Below w.heap.size w (w.alloc (.cells #[.int .i64 x] 3)) := (Below.refl _ _).alloc (Nat.le_refl _) _
  obtain ⟨mv', w2, hr, ho, hg, hblk⟩ := (h3.below hb).append1 x (by omega) (Nat.le_trans h1.le hb.size) w.heap.size 0 (by rw [cell_of (heap_new w _)]; rfl) rfl 22
  refine ⟨mv', w2, hr, m, A, F, ⟨(h1.rg.below hb).heap hg.size fun b hF => hg.block b ((h1.rg.below hb).sub b hF) (fun e => h4 b e.symm hF), h1.new, ?_, ?_⟩, h2, ho, fun a ha hF => ?_⟩
  · exact (h1.bel.trans (hb.mono h1.le)).grown hg (Nat.le_trans h1.le hb.size) fun k e => (h3.lt k e).1
  · exact Nat.le_trans h1.le (Nat.le_trans hb.size hg.size)
  · rcases hblk with e | e
    · exact h4 a (by rw [← e]; exact ha) hF
    · rw [e] at ha
      cases ha
      have := h1.rg.sub _ hF
      have := hb.size
      omega
end

set_option maxRecDepth 100000 in
set_option maxHeartbeats 6400000 in
theorem apart_walk (w : World) (v0 : Value) (l : List Int) (hv0 : RdI w v0 l) (_ : ∀ x ∈ l, I64 x) (n1 : Int) (hn1 : 0 ≤ n1 ∧ n1 ≤ 255) (v2 : Value) (ops : List Op) (hv2 : RdO w v2 ops) (hops : ∀ x ∈ ops, I64 x.1 ∧ I64 x.2.1 ∧ x.2.2.size ≤ maxLen) :
    Calls Try.prog 7 #[v0, .int .u8 n1, v2] w fun e w' => e = .returned (.bool true) ∧ Below w.heap.size w w' := by
  have k := new_any w 5 (by decide)
  obtain ⟨C, hC⟩ : ∃ C : Nat, 20 + n1 = (C : Int) := ⟨(20 + n1).toNat, by omega⟩
  have hC1 : 20 ≤ C ∧ C ≤ 275 := by omega
  obtain ⟨a0, a1⟩ := hn1
  have HV0 := hide hv0
  have HV2 := hide hv2
  have HOPS := hide hops
  obtain ⟨ao, cap, rfl⟩ := hv0.shape
  obtain ⟨bo, dap, rfl, hol⟩ := hv2.shape
  have hll : l.length ≤ maxLen := by
    obtain ⟨_, _, h, h1, h2, _⟩ := hv0
    cases h
    omega
  unfold maxLen at hol hll
  clear hv0 hv2 hops
  obtain ⟨n, HN⟩ := named l.length
  obtain ⟨p, HP⟩ := named ops.length
  rw [← HN.out] at HV0 hll
  rw [← HP.out] at HV2 hol
  rw [← HN.out, ← HP.out]
  go_enter Try.func7, Try.ntmps7
  go_wp2_with fail
  (with_reducible refine Calls.mono k ?_)
  clear k
  rintro e u0 ⟨r, F, rfl, h1, h2, h3⟩
  have HS : Hid (S1 w u0 r 5 nM 5 []) := S1.new h1 h2 h3 nM
  obtain ⟨rb, rfl⟩ := h1.ptr
  clear h1 h2 h3
  have kc := HS.out.cap right_nM (C : Int) (by unfold capOk; omega)
  go_wp2_with fail
  (with_reducible refine Calls.mono kc ?_)
  clear kc HS
  rintro e u1 ⟨rfl, h⟩
  have HMI : Hid (MI w u1 (.pointer (some ⟨rb, 0, none⟩)) C [] (.slice none 0 0)) := by
    obtain ⟨F, h⟩ := h
    exact ⟨_, _, F, h, by unfold A1 setA; simp, OwnI.nil _ _, fun a ha => by cases ha⟩
  clear h
  go_wp2_with fail
  go_loopw [9, 10] (fun mv iv wr => ∃ k : Nat, k ≤ n ∧ k ≤ 20 ∧ iv = .int .i64 k ∧ Hid (MI w wr (.pointer (some ⟨rb, 0, none⟩)) C (l.take k) mv)) (fun _ iv _ => n - (intOf iv).toNat)
  case atStart => exact ⟨0, Nat.zero_le _, by omega, rfl, by rw [List.take_zero]; exact HMI⟩
  case round =>
    obtain ⟨k, hk, hk20, rfl, HK⟩ := hrel
    clear HMI
    obtain ⟨mo, mc, hmv⟩ : ∃ mo mc, u9 = .slice mo k mc := by
      obtain ⟨m, A, F, h1, h2, h3, h4⟩ := HK.out
      obtain ⟨mo, mc, e⟩ := h3.shape
      rw [List.length_take, Nat.min_eq_left (by rw [← HN.out]; exact hk)] at e
      exact ⟨mo, mc, e⟩
    subst hmv
    by_cases hlt : k < n ∧ k < 20
    · obtain ⟨hkn, hk2⟩ := hlt
      have hkl : k < l.length := by rw [← HN.out]; exact hkn
      obtain ⟨bx, off, hab, c0⟩ := (HV0.out.below HK.out.bel).at k hkl
      subst hab
      obtain ⟨x, HX⟩ := named l[k]
      rw [← HX.out] at c0
      have hkI : (k : Int) < (n : Int) := by omega
      have hkJ : (k : Int) < 20 := by omega
      have kp := HK.out.mine x (by omega) (by rw [List.length_take]; omega)
      have hcX : ∀ u : World, Below w.heap.size w u → u.cell? ⟨bx, off + k, none⟩ = some (.int .i64 x) := fun u hu => by
        obtain ⟨bx', off', hab', c0'⟩ := (HV0.out.below hu).at k hkl
        cases hab'
        rw [HX.out]
        exact c0'
      have HCX := hide hcX
      have HTK : Hid (l.take k ++ [x] = l.take (k + 1)) := by
        show _ = _
        rw [List.take_succ_eq_append_getElem hkl, HX.out]
      clear hcX
      go_wp2_with fail
      (with_reducible refine Calls.mono kp ?_)
      clear kp
      rintro e u2 ⟨rfl, hj⟩
      have c1 : u2.cell? ⟨bx, off + k, none⟩ = some (.int .i64 x) := HCX.out u2 (by obtain ⟨m, A, F, h1, _⟩ := hj; exact h1.bel)
      obtain ⟨mv', w2, hr, hmi⟩ := hj.row (by rw [List.length_take]; omega)
      rw [HTK.out] at hmi
      have HX2 := hide hmi
      have HR := hide hr
      clear hj hr hmi c0
      go_wp2_with ((at_builtin; refine Lib.wpList_append_run _ rfl _ _ _ _ rfl _ _ rfl rfl _ _ HR.out ?_))
      go_roundw
      case rel => exact ⟨k + 1, hkn, by omega, by go_num, HX2⟩
      case measure => simp [intOf]; omega
    · have hge : k = n ∨ k = 20 := by omega
      obtain ⟨L, HL⟩ := named (l.take k)
      have hLl : L.length = k := by rw [HL.out, List.length_take, Nat.min_eq_left (by rw [← HN.out]; exact hk)]
      rw [← HL.out] at HK
      have hkC : (k : Int) ≤ 20 := by omega
      obtain hcond | ⟨hcA, hcB⟩ : (¬ (k : Int) < (n : Int)) ∨ ((k : Int) < (n : Int) ∧ ¬ (k : Int) < 20) := by
        by_cases e : (k : Int) < (n : Int)
        · exact .inr ⟨e, by omega⟩
        · exact .inl e
      all_goals
        clear hlt hge
        go_wp2_with fail
        go_loopw [11] (fun iv wr => ∃ q : Nat, q ≤ p ∧ iv = .int .i64 q ∧ Hid (MI w wr (.pointer (some ⟨rb, 0, none⟩)) C L (.slice mo k mc))) (fun iv _ => p - (intOf iv).toNat)
        case atStart => exact ⟨0, Nat.zero_le _, rfl, HK⟩
        case round =>
          obtain ⟨q, hq, rfl, HM⟩ := hrel
          clear HK
          by_cases hlt : q < p ∧ q < 100
          · obtain ⟨hqp, hq2⟩ := hlt
            have hql : q < ops.length := by rw [← HP.out]; exact hqp
            obtain ⟨bx, off, hab, d0, d1, d2⟩ := (HV2.out.below HM.out.bel).at q hql
            subst hab
            obtain ⟨hk1, hn2, hsz⟩ := HOPS.out _ (List.getElem_mem hql)
            obtain ⟨kd, HKD⟩ := named ops[q].1
            obtain ⟨nn, HNN⟩ := named ops[q].2.1
            obtain ⟨nm, HNM⟩ := named ops[q].2.2
            rw [← HKD.out] at d0 hk1
            rw [← HNN.out] at d1 hn2
            rw [← HNM.out] at d2 hsz
            have hqI : (q : Int) < (p : Int) := by omega
            have hqJ : (q : Int) < 100 := by omega
            obtain ⟨X, HX⟩ := named (wr.alloc (.cells #[.int .i64 kd, .int .i64 nn, .string nm] 43))
            have hbX : Below wr.heap.size wr X := by rw [HX.out]; exact (Below.refl _ _).alloc (Nat.le_refl _) _
            have hcX : X.heap[wr.heap.size]? = some (.cells #[.int .i64 kd, .int .i64 nn, .string nm] 43 (0, 0)) := by rw [HX.out]; exact heap_new wr _
            have f0 : X.cell? ⟨wr.heap.size, 0, none⟩ = some (.int .i64 kd) := by rw [cell_of hcX]; rfl
            have f1 : X.cell? ⟨wr.heap.size, 1, none⟩ = some (.int .i64 nn) := by rw [cell_of hcX]; rfl
            have f2 : X.cell? ⟨wr.heap.size, 2, none⟩ = some (.string nm) := by rw [cell_of hcX]; rfl
            have HMX := hide (HM.out.below hbX)
            have hnmax : nm.size ≤ 9223372036854775807 := by unfold maxLen at hsz; omega
            clear HM hbX hcX hk1 hn2
            by_cases hnm : nm = nM
            · have heP : nm.toList = [109, 105, 110, 101] := by rw [hnm, tl_data]
              have heB : (nm.toList == [109, 105, 110, 101]) = true := by rw [heP]; rfl
              clear hnm
              go_wp2_with (rw [← HX.out])
              go_roundw
              case rel => exact ⟨q + 1, hqp, by go_num, HMX⟩
              case measure => simp [intOf]; omega
            · have heP : ¬ nm.toList = [109, 105, 110, 101] := by
                have := text_ne hnm
                rw [tl_data nM] at this
                exact this
              have heB : (nm.toList == [109, 105, 110, 101]) = false := beq_eq_false_iff_ne.2 heP
              have hnM : nM ≠ nm := Ne.symm hnm
              by_cases h60 : 60 < nm.size
              · have h60I : (60 : Int) < (nm.size : Int) := by omega
                go_wp2_with (rw [← HX.out])
                go_roundw
                case rel => exact ⟨q + 1, hqp, by go_num, HMX⟩
                case measure => simp [intOf]; omega
              · have h60I : ¬ (60 : Int) < (nm.size : Int) := by omega
                by_cases e5 : kd ≤ 5
                · go_wp2_with (rw [← HX.out])
                  have ko := HMX.out.put nm hsz hnM nn
                  clear HMX
                  go_wp2_with fail
                  (with_reducible refine Calls.mono ko ?_)
                  clear ko
                  rintro e y1 ⟨⟨z, rfl⟩, h⟩
                  have kh := h.has (by omega)
                  clear h
                  go_wp2_with fail
                  (with_reducible refine Calls.mono kh ?_)
                  clear kh
                  rintro e y2 ⟨rfl, h⟩
                  have kr := h.room
                  rw [hLl, show max ((C : Int) - (k : Int)) 0 = (C : Int) - (k : Int) by omega] at kr
                  clear h
                  go_wp2_with fail
                  (with_reducible refine Calls.mono kr ?_)
                  clear kr
                  rintro e y3 ⟨rfl, h⟩
                  have HX := hide h
                  clear h
                  go_wp2_with fail
                  go_roundw
                  case rel => exact ⟨q + 1, hqp, by go_num, HX⟩
                  case measure => simp [intOf]; omega
                · by_cases e7 : kd ≤ 7
                  · go_wp2_with (rw [← HX.out])
                    have ko := HMX.out.take nm hsz hnM
                    clear HMX
                    go_wp2_with fail
                    (with_reducible refine Calls.mono ko ?_)
                    clear ko
                    rintro e y1 ⟨⟨z, zb, rfl⟩, h⟩
                    have kh := h.has (by omega)
                    clear h
                    go_wp2_with fail
                    (with_reducible refine Calls.mono kh ?_)
                    clear kh
                    rintro e y2 ⟨rfl, h⟩
                    have kr := h.room
                    rw [hLl, show max ((C : Int) - (k : Int)) 0 = (C : Int) - (k : Int) by omega] at kr
                    clear h
                    go_wp2_with fail
                    (with_reducible refine Calls.mono kr ?_)
                    clear kr
                    rintro e y3 ⟨rfl, h⟩
                    have HX := hide h
                    clear h
                    go_wp2_with fail
                    go_roundw
                    case rel => exact ⟨q + 1, hqp, by go_num, HX⟩
                    case measure => simp [intOf]; omega
                  · by_cases e9 : kd ≤ 9
                    · go_wp2_with (rw [← HX.out])
                      have ko := HMX.out.drop nm hsz hnM nn
                      clear HMX
                      go_wp2_with fail
                      (with_reducible refine Calls.mono ko ?_)
                      clear ko
                      rintro e y1 ⟨⟨z, rfl⟩, h⟩
                      have kh := h.has (by omega)
                      clear h
                      go_wp2_with fail
                      (with_reducible refine Calls.mono kh ?_)
                      clear kh
                      rintro e y2 ⟨rfl, h⟩
                      have kr := h.room
                      rw [hLl, show max ((C : Int) - (k : Int)) 0 = (C : Int) - (k : Int) by omega] at kr
                      clear h
                      go_wp2_with fail
                      (with_reducible refine Calls.mono kr ?_)
                      clear kr
                      rintro e y3 ⟨rfl, h⟩
                      have HX := hide h
                      clear h
                      go_wp2_with fail
                      go_roundw
                      case rel => exact ⟨q + 1, hqp, by go_num, HX⟩
                      case measure => simp [intOf]; omega
                    · go_wp2_with (rw [← HX.out])
                      have ko := HMX.out.cap nm hsz hnM nn
                      clear HMX
                      go_wp2_with fail
                      (with_reducible refine Calls.mono ko ?_)
                      clear ko
                      rintro e y1 ⟨⟨z, rfl⟩, h⟩
                      have kh := h.has (by omega)
                      clear h
                      go_wp2_with fail
                      (with_reducible refine Calls.mono kh ?_)
                      clear kh
                      rintro e y2 ⟨rfl, h⟩
                      have kr := h.room
                      rw [hLl, show max ((C : Int) - (k : Int)) 0 = (C : Int) - (k : Int) by omega] at kr
                      clear h
                      go_wp2_with fail
                      (with_reducible refine Calls.mono kr ?_)
                      clear kr
                      rintro e y3 ⟨rfl, h⟩
                      have HX := hide h
                      clear h
                      go_wp2_with fail
                      go_roundw
                      case rel => exact ⟨q + 1, hqp, by go_num, HX⟩
                      case measure => simp [intOf]; omega
          · obtain hc | ⟨hcA, hcB⟩ : (¬ (q : Int) < (p : Int)) ∨ ((q : Int) < (p : Int) ∧ ¬ (q : Int) < 100) := by
              by_cases e : (q : Int) < (p : Int)
              · exact .inr ⟨e, by omega⟩
              · exact .inl e
            all_goals
              have HB := hide HM.out.bel
              have ka := awake_any wr
              clear hlt HM
              go_wp2_with fail
              (with_reducible refine Calls.mono ka ?_)
              clear ka
              rintro e y9 ⟨rfl, hb⟩
              have HE := hide (HB.out.trans (hb.mono HB.out.size))
              clear hb
              go_wp2_with fail
              go_ret
              exact ⟨rfl, HE.out⟩
end Go.Proofs.Ytdbbdecmfnajiaa
