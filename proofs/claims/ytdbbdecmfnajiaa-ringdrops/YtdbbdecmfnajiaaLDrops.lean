/-
  A number that is put and dropped leaves the queue as it was: the law is walked. Own work.
-/
import Derived.Test.YtdbbdecmfnajiaaNa
import Derived.Deep.CutBlock
import Derived.Deep.DeepCutAuto
namespace Go.Proofs.Ytdbbdecmfnajiaa
open Go.RowKit Go.Sort
set_option linter.unusedSimpArgs false
set_option linter.unusedVariables false

theorem take_mem (l : List Int) (k : Nat) (h : k < l.length) (n : Int) : decide (n ∈ l.take (k + 1)) = (decide (n ∈ l.take k) || decide (l[k] = n)) := by
  rw [List.take_succ_eq_append_getElem h, Bool.eq_iff_iff]
  simp only [decide_eq_true_eq, Bool.or_eq_true, List.mem_append, List.mem_singleton]
  exact ⟨fun h => h.imp id Eq.symm, fun h => h.imp id Eq.symm⟩
theorem tails {wr V2 : World} {e0 tv s1 s2 : Value} {B B' T : Nat} {RL M : List Int} (hb : Below wr.heap.size wr V2) (he : OwnI V2 B e0 []) (hB : B ≤ V2.heap.size) (ht : OwnI V2 B' tv RL) (hne : ∀ a, tv.ownBlock = some a → e0.ownBlock ≠ some a) (hBw : wr.heap.size ≤ B)
    (hc2 : ∀ u, Below wr.heap.size wr u → RdI u s2 (M.drop T)) (hc1 : ∀ u, Below wr.heap.size wr u → RdI u s1 (M.take T)) (hl : M.length ≤ 1000) :
    ∃ v1 V3 v2 V4, (Builtin.append_ #[22, 22] 22 #[e0, s2]).run Try.prog V2 = .ok v1 V3 ∧ (Builtin.append_ #[22, 22] 22 #[v1, s1]).run Try.prog V3 = .ok v2 V4 ∧ Below wr.heap.size wr V4 ∧ RdI V4 tv RL ∧ RdI V4 v2 (M.drop T ++ M.take T) := by
  obtain ⟨v1, V3, hr1, ho1, hg1, hk1⟩ := he.appendRd (hc2 V2 hb) (by rw [List.length_drop]; simp; omega) hB 22
  rw [List.nil_append] at ho1
  have hb1 : Below wr.heap.size wr V3 := hb.grown hg1 hb.size fun k e => Nat.le_trans hBw (he.lt k e).1
  obtain ⟨v2, V4, hr2, ho2, hg2, -⟩ := ho1.appendRd (hc1 V3 hb1) (by rw [List.length_drop, List.length_take]; omega) (Nat.le_trans hB hg1.size) 22
  have hb2 : Below wr.heap.size wr V4 := hb1.grown hg2 hb1.size fun k e => Nat.le_trans hBw (ho1.lt k e).1
  have ht1 : OwnI V3 B' tv RL := ht.heap fun a ha => hg1.block a (ht.lt a ha).2 fun e => hne a ha e.symm
  have ht2 : OwnI V4 B' tv RL := ht1.heap fun a ha => hg2.block a (ht1.lt a ha).2 fun e => by
    rcases hk1 with h | h
    · rw [h] at e; exact hne a ha e.symm
    · rw [h] at e; cases e; have := (ht.lt _ ha).2; omega
  exact ⟨v1, V3, v2, V4, hr1, hr2, hb2, ht2.rd, ho2.rd⟩
/-- the list turned round -/
def rot (i : Nat) (M : List Int) : List Int := M.drop i ++ M.take i
theorem rot_len (i : Nat) (M : List Int) : (rot i M).length = M.length := by unfold rot; rw [List.length_append, List.length_drop, List.length_take]; omega
theorem rot_step (i : Nat) (M : List Int) (h : i < M.length) : rot i M = M[i] :: (M.drop (i + 1) ++ M.take i) ∧ M.drop (i + 1) ++ M.take i ++ [M[i]] = rot (i + 1) M := by
  unfold rot
  refine ⟨by rw [List.drop_eq_getElem_cons h]; rfl, ?_⟩
  rw [List.take_succ_eq_append_getElem h, List.append_assoc]

/-- the queue, the row, and what All told, which may be written over -/
def TU (w0 w : World) (r : Value) (M : List Int) (mv tv : Value) (c : Nat) : Prop :=
  DI w0 w r M M mv ∧ (0 < c → ∃ g tc, tv = .slice (some ⟨g, 0, none⟩) c tc ∧ c ≤ tc ∧ TI w0 w r M mv g c)
theorem TU.new {w0 w w' : World} {r : Value} {M : List Int} {mv tv : Value} (h : DI w0 w r M M mv) (hb : Below w.heap.size w w') (ho : OwnI w' w.heap.size tv M) : TU w0 w' r M mv tv M.length := by
  refine ⟨h.below hb, fun hc => ?_⟩
  obtain ⟨F, h1, h2, h3⟩ := h
  rcases ho.2 with ⟨rfl, e⟩ | ⟨g, cap, cur, rfl, hB, hg, k1, k2, k3, k4⟩
  · omega
  · refine ⟨g, cap, rfl, k1, ⟨F, h1.below hb, h2.below hb, h3, fun hF => ?_⟩, fun e => ?_, Nat.le_trans h1.le hB, cur, hg, fun i hi => ?_⟩
    · have := h1.rg.sub g hF; omega
    · have := (h2.lt g e).2; omega
    · have hx : (M.map (Value.int .i64))[i]? = some (.int .i64 M[i]) := by simp [hi]
      rw [← k4, List.getElem?_take, if_pos (by omega), Array.getElem?_toList] at hx
      exact ⟨_, hx⟩

set_option maxRecDepth 100000 in
set_option maxHeartbeats 25600000 in
theorem drops_walk (w : World) (v0 : Value) (l : List Int) (hv0 : RdI w v0 l) (_ : ∀ x ∈ l, I64 x) (n a : Int) (ha : 0 ≤ a ∧ a ≤ 255) :
    Calls Try.prog 9 #[v0, .int .i64 n, .int .u8 a] w fun e w' => e = .returned (.bool true) ∧ Below w.heap.size w w' := by
  have k := new_any w 100 (by decide)
  obtain ⟨a0, a1⟩ := ha
  have HV0 := hide hv0
  obtain ⟨ao, cap, rfl⟩ := hv0.shape
  have hll : l.length ≤ maxLen := by
    obtain ⟨_, _, h, h1, h2, _⟩ := hv0
    cases h
    omega
  unfold maxLen at hll
  clear hv0
  obtain ⟨p, HN⟩ := named l.length
  rw [← HN.out] at HV0 hll
  rw [← HN.out]
  go_enter Try.func9, Try.ntmps9
  go_wp2_with fail
  (with_reducible refine Calls.mono k ?_)
  clear k
  rintro e u0 ⟨r, F, rfl, h1, h2, h3⟩
  have HMI : Hid (DI w u0 r [] [] (.slice none 0 0)) := by
    refine ⟨F, ⟨?_, h2, h3, h3.size⟩, OwnI.nil _ _, fun a ha => by cases ha⟩
    rw [← A1_new]
    exact h1
  obtain ⟨rb, rfl⟩ := h1.ptr
  clear h1 h2 h3
  go_upto_block 0 with fail
  go_cut [9, 10, 11] from 28 to 59 (fun mv tv _ wx => ∃ (b : Bool) (k : Nat) (mo : Option Addr) (mc : Nat), k ≤ 30 ∧ mv = .slice mo k mc ∧ tv = .bool b ∧ (l.take k).length = k ∧ Hid (b = decide (n ∈ l.take k)) ∧ Hid (DI w wx (.pointer (some ⟨rb, 0, none⟩)) (l.take k) (l.take k) mv))
  case first =>
   go_wp2_with fail
   go_loopw [9, 10, 11] (fun mv tv iv wr => ∃ (k : Nat) (b : Bool), k ≤ p ∧ k ≤ 30 ∧ iv = .int .i64 k ∧ tv = .bool b ∧ Hid (b = decide (n ∈ l.take k)) ∧ Hid (DI w wr (.pointer (some ⟨rb, 0, none⟩)) (l.take k) (l.take k) mv)) (fun _ _ iv _ => p - (intOf iv).toNat)
   case atStart => exact ⟨0, false, Nat.zero_le _, by omega, rfl, rfl, by show _ = _; simp, by rw [List.take_zero]; exact HMI⟩
   case round =>
     obtain ⟨k, b, hk, hk30, rfl, rfl, HT, HK⟩ := hrel
     clear HMI
     obtain ⟨mo, mc, hmv⟩ : ∃ mo mc, u9 = .slice mo k mc := by
       obtain ⟨mo, mc, e⟩ := HK.out.own.shape
       rw [List.length_take, Nat.min_eq_left (by rw [← HN.out]; exact hk)] at e
       exact ⟨mo, mc, e⟩
     subst hmv
     by_cases hlt : k < p ∧ k < 30
     · obtain ⟨hkn, hk2⟩ := hlt
       have hkl : k < l.length := by rw [← HN.out]; exact hkn
       obtain ⟨x, HX⟩ := named l[k]
       have hcX : ∀ u : World, Below w.heap.size w u → ∃ bx off, ao = some ⟨bx, off, none⟩ ∧ u.cell? ⟨bx, off + k, none⟩ = some (.int .i64 x) := fun u hu => by
         obtain ⟨bx, off, hab, c0⟩ := (HV0.out.below hu).at k hkl
         exact ⟨bx, off, hab, by rw [HX.out]; exact c0⟩
       obtain ⟨bx, off, hab, c0⟩ := hcX wr HK.out.bel
       subst hab
       have HCX : Hid (∀ u : World, Below w.heap.size w u → u.cell? ⟨bx, off + k, none⟩ = some (.int .i64 x)) := fun u hu => by
         obtain ⟨bx', off', hab, c0⟩ := hcX u hu
         cases hab
         exact c0
       have hkI : (k : Int) < (p : Int) := by omega
       have hkJ : (k : Int) < 30 := by omega
       have kp := HK.out.put x (by rw [List.length_take]; omega)
       have HTK : Hid (l.take k ++ [x] = l.take (k + 1)) := by
         show _ = _
         rw [List.take_succ_eq_append_getElem hkl, HX.out]
       have HTM : Hid (decide (n ∈ l.take (k + 1)) = (b || decide (x = n))) := by
         show _ = _
         rw [take_mem l k hkl, HT.out, HX.out]
       clear hcX
       go_wp2_with fail
       (with_reducible refine Calls.mono kp ?_)
       clear kp HK
       rintro e u2 ⟨rfl, hj⟩
       rw [HTK.out] at hj
       have c1 := HCX.out u2 hj.bel
       obtain ⟨mv', w2, hr, hmi⟩ := hj.row x (by rw [List.length_take]; omega)
       rw [HTK.out] at hmi
       have c2 := HCX.out w2 hmi.bel
       have HX2 := hide hmi
       have HR := hide hr
       clear hj hr hmi c0
       cases b with
       | true =>
         go_wp2_with ((at_builtin; refine Lib.wpList_append_run _ rfl _ _ _ _ rfl _ _ rfl rfl _ _ HR.out ?_))
         go_roundw
         case rel => exact ⟨k + 1, true, hkn, by omega, by go_num, rfl, by show _ = _; rw [HTM.out]; simp, HX2⟩
         case measure => simp [intOf]; omega
       | false =>
         obtain ⟨y, HY⟩ := named (x == n)
         have hy : (x == n) = y := HY.out.symm
         go_wp2_with ((at_builtin; refine Lib.wpList_append_run _ rfl _ _ _ _ rfl _ _ rfl rfl _ _ HR.out ?_))
         go_roundw
         case rel => exact ⟨k + 1, y, hkn, by omega, by go_num, rfl, by show y = _; rw [HTM.out, HY.out, Bool.false_or]; rfl, HX2⟩
         case measure => simp [intOf]; omega
     · have hLl : (l.take k).length = k := by rw [List.length_take, Nat.min_eq_left (by rw [← HN.out]; exact hk)]
       have hge : k = p ∨ k = 30 := by omega
       obtain hcond | ⟨hcA, hcB⟩ : (¬ (k : Int) < (p : Int)) ∨ ((k : Int) < (p : Int) ∧ ¬ (k : Int) < 30) := by
         by_cases e : (k : Int) < (p : Int)
         · exact .inr ⟨e, by omega⟩
         · exact .inl e
       all_goals
         clear hlt hge
         go_wp2_with fail
         go_meet
         exact ⟨b, k, mo, mc, hk30, rfl, rfl, hLl, HT, HK⟩
  case rest =>
    obtain ⟨b, k, mo, mc, hk30, rfl, rfl, hLl, HT, HK⟩ := hcut
    obtain ⟨L, HL⟩ := named (l.take k)
    rw [← HL.out] at HK HT hLl
    have HHL := hide hLl
    have kd := HK.out.drop n
    rw [← HT.out] at kd
    clear hLl HMI
    go_wp2_with fail
    (with_reducible refine Calls.mono kd ?_)
    clear kd HK
    rintro e u3 ⟨rfl, h⟩
    have HK := hide h
    clear h
    go_upto_if 65 with fail
    go_cut [9, 12] from 66 to 83 (fun mv _ wx => ∃ (c : Nat) (xo : Option Addr) (xc : Nat), mv = .slice xo c xc ∧ c ≤ 30 ∧ (L.erase n).length = c ∧ Hid (DI w wx (.pointer (some ⟨rb, 0, none⟩)) (L.erase n) (L.erase n) mv))
    case first =>
        cases b with
        | true =>
          have hin : n ∈ L := by have := HT.out; simpa using this.symm
          have HIN := hide hin
          clear hin
          go_wp2_with fail
          go_loopw [12] (fun iv wr => ∃ j : Nat, j < k ∧ iv = .int .i64 j ∧ Hid (∀ i, i < j → L[i]? ≠ some n) ∧ Hid (DI w wr (.pointer (some ⟨rb, 0, none⟩)) (L.erase n) L (.slice mo k mc))) (fun iv _ => k - (intOf iv).toNat)
          case atStart => exact ⟨0, by have := List.length_pos_of_mem HIN.out; have := HHL.out; omega, rfl, fun i hi => by omega, HK⟩
          case round =>
            obtain ⟨j, hj, rfl, HB, HM⟩ := hrel
            clear HK
            have hjl : j < L.length := by rw [HHL.out]; exact hj
            obtain ⟨g, mc', hmv, hcap, hmx⟩ := HM.out.own.place (by omega)
            rw [HHL.out] at hmv hcap
            cases hmv
            have hrd := HM.out.own.rd
            rw [← HHL.out] at hrd
            obtain ⟨bx, off, hab, c0⟩ := hrd.at j hjl
            cases hab
            rw [Nat.zero_add] at c0
            obtain ⟨x, HX⟩ := named L[j]
            rw [← HX.out] at c0
            have hjI : (j : Int) < (k : Int) := by omega
            by_cases hx : x = n
            · have hxB : (x == n) = true := by simpa using hx
              have hx2 := hx.symm
              subst hx2
              have hat : L[j]? = some n := by rw [List.getElem?_eq_getElem hjl, HX.out]
              have her := erase_at j hat HB.out
              -- the new row
              obtain ⟨V, HV⟩ := named ((wr.alloc (.cells #[] 3)).drew)
              have hbV : Below wr.heap.size wr V := by rw [HV.out]; exact ((Below.refl _ _).alloc (Nat.le_refl _) _).drew
              have he : OwnI V wr.heap.size (.slice (some ⟨wr.heap.size, 0, none⟩) 0 0) [] := by rw [HV.out]; exact (OwnI.empty wr).heap fun _ _ => rfl
              obtain ⟨v1, V1, hr1, ho1, hg1, -⟩ := he.appendRd ((hrd.below hbV).cut1 (p := j) (by omega)) (by rw [List.length_take]; simp; omega) hbV.size 22
              rw [List.nil_append] at ho1
              have hb1 : Below wr.heap.size wr V1 := hbV.grown hg1 hbV.size fun k e => by cases e; exact Nat.le_refl _
              obtain ⟨jj, HJJ⟩ := named (j + 1)
              have hc2 := (hrd.below hb1).cut2 jj
              rw [HHL.out] at hc2
              rw [← HJJ.out] at her
              obtain ⟨v2, V2, hr2, ho2, hg2, -⟩ := ho1.appendRd hc2 (by have := HHL.out; have := HJJ.out; rw [List.length_take, List.length_drop]; omega) hb1.size 22
              rw [← her] at ho2
              have hb2 : Below wr.heap.size wr V2 := hb1.grown hg2 hb1.size fun k e => (ho1.lt k e).1
              have HFIN := hide (HM.out.swap hb2 ho2 (Nat.le_refl _))
              have HR1 := hide hr1
              have HR2 := hide hr2
              obtain ⟨M, HMM⟩ := named (L.erase n)
              have hMl : M.length ≤ 30 := by rw [HMM.out, List.length_erase_of_mem HIN.out]; have := HHL.out; omega
              rw [← HMM.out] at HFIN
              obtain ⟨mo', mc'', e2⟩ := ho2.shape
              obtain ⟨cc, HCM0⟩ := named M.length
              have HCM : Hid (M.length = cc) := HCM0.out.symm
              rw [← HMM.out, HCM.out] at e2
              rw [HCM.out] at hMl
              subst e2
              have hkm : (k : Int) ≤ (mc : Int) := by omega
              have hjm : (j : Int) ≤ (mc : Int) := by omega
              have hj1 : (jj : Int) ≤ (k : Int) := by have := HJJ.out; omega
              have hj1' : (0 : Int) ≤ (jj : Int) := by omega
              have HWR : Hid (IntKind.i64.wrap ((j : Int) + 1) = (jj : Int)) := by show _ = _; rw [IntKind.wrap_i64]; have := HJJ.out; omega
              have hj0 : (0 : Int) ≤ (j : Int) := by omega
              have hmcm : (mc : Int) ≤ 9223372036854775807 := by unfold maxLen at hmx; omega
              have hs0 : True := trivial
              clear hbV he ho1 hg1 hb1 hc2 hr1 hr2 ho2 hg2 hb2 hat her hrd HM
              go_wp2_with fail
              have HF := HFIN
              have hwr := HWR.out
              refine wp_region_held_drew (S := (fun _ => True)) (by kernel_rfl) hs0 (fun _ => ?_)
              refine wpAnyH_take (i := 1) (oi := { dst := some 75, op := Go.Op.move (Go.Operand.tmp 9), type := 22, pos := "outright.go:167", after := #[], guard := none }) (v := ?_) rfl (by kernel_rfl) (by kernel_rfl) (by kernel_rfl) (fun _ _ _ h => h) (Or.inl ⟨by rfl, ?hy49x1⟩) hs0 ?_
              case hy49x1 =>
                intro u hu
                obtain u0 := hu
                go_simp
                try with_reducible rfl
              simp only [Act.put, List.setIfInBounds_toArray, List.set_cons_zero, List.set_cons_succ]
              refine wpAnyH_take (i := 2) (oi := { dst := some 76, op := Go.Op.move (Go.Operand.tmp 12), type := 3, pos := "outright.go:167", after := #[], guard := none }) (v := ?_) rfl (by kernel_rfl) (by kernel_rfl) (by kernel_rfl) (fun _ _ _ h => h) (Or.inl ⟨by rfl, ?hy50x1⟩) hs0 ?_
              case hy50x1 =>
                intro u hu
                obtain u0 := hu
                go_simp
                try with_reducible rfl
              simp only [Act.put, List.setIfInBounds_toArray, List.set_cons_zero, List.set_cons_succ]
              refine wpAnyH_take (i := 3) (oi := { dst := some 77, op := Go.Op.slice 22 (Go.Operand.tmp 75) none (some (Go.Operand.tmp 76)) none, type := 22, pos := "outright.go:167", after := #[{ on := 1, ground := Go.Ground.data }, { on := 2, ground := Go.Ground.data }], guard := none }) (v := ?_) rfl (by kernel_rfl) (by kernel_rfl) (by kernel_rfl) (fun _ _ _ h => h) (Or.inl ⟨by rfl, ?hy51x1⟩) hs0 ?_
              case hy51x1 =>
                intro u hu
                obtain u0 := hu
                go_simp
                try with_reducible rfl
              simp only [Act.put, List.setIfInBounds_toArray, List.set_cons_zero, List.set_cons_succ]
              refine wpAnyH_take (i := 5) (oi := { dst := some 79, op := Go.Op.move (Go.Operand.tmp 9), type := 22, pos := "outright.go:167", after := #[], guard := none }) (v := ?_) rfl (by kernel_rfl) (by kernel_rfl) (by kernel_rfl) (fun _ _ _ h => h) (Or.inl ⟨by rfl, ?hy52x1⟩) hs0 ?_
              case hy52x1 =>
                intro u hu
                obtain u0 := hu
                go_simp
                try with_reducible rfl
              simp only [Act.put, List.setIfInBounds_toArray, List.set_cons_zero, List.set_cons_succ]
              refine wpAnyH_take (i := 6) (oi := { dst := some 80, op := Go.Op.move (Go.Operand.tmp 12), type := 3, pos := "outright.go:167", after := #[], guard := none }) (v := ?_) rfl (by kernel_rfl) (by kernel_rfl) (by kernel_rfl) (fun _ _ _ h => h) (Or.inl ⟨by rfl, ?hy53x1⟩) hs0 ?_
              case hy53x1 =>
                intro u hu
                obtain u0 := hu
                go_simp
                try with_reducible rfl
              simp only [Act.put, List.setIfInBounds_toArray, List.set_cons_zero, List.set_cons_succ]
              refine wpAnyH_take (i := 7) (oi := { dst := some 81, op := Go.Op.binOp Go.BinOp.add 3 (Go.Operand.tmp 80) (Go.Operand.const (Go.Value.int Go.IntKind.i64 1)) 3, type := 3, pos := "outright.go:167", after := #[{ on := 6, ground := Go.Ground.data }], guard := none }) (v := ?_) rfl (by kernel_rfl) (by kernel_rfl) (by kernel_rfl) (fun _ _ _ h => h) (Or.inl ⟨by rfl, ?hy54x1⟩) hs0 ?_
              case hy54x1 =>
                intro u hu
                obtain u0 := hu
                go_simp
                try with_reducible rfl
              simp only [Act.put, List.setIfInBounds_toArray, List.set_cons_zero, List.set_cons_succ]
              refine wpAnyH_take (i := 8) (oi := { dst := some 82, op := Go.Op.slice 22 (Go.Operand.tmp 79) (some (Go.Operand.tmp 81)) none none, type := 22, pos := "outright.go:167", after := #[{ on := 5, ground := Go.Ground.data }, { on := 7, ground := Go.Ground.data }], guard := none }) (v := ?_) rfl (by kernel_rfl) (by kernel_rfl) (by kernel_rfl) (fun _ _ _ h => h) (Or.inl ⟨by rfl, ?hy55x1⟩) hs0 ?_
              case hy55x1 =>
                intro u hu
                obtain u0 := hu
                go_simp
                try with_reducible rfl
              simp only [Act.put, List.setIfInBounds_toArray, List.set_cons_zero, List.set_cons_succ]
              refine wpAnyH_ready (rs := [0]) (by kernel_rfl) (by simp) ?_
              refine AllReadyH.cons (o := { dst := some 74, op := Go.Op.buildSlice 22 0 #[], type := 22, pos := "outright.go:167", after := #[], guard := none }) rfl (fun K hK => ?_) AllReadyH.nil
              go_simp
              rw [← HV.out]
              refine hK.out _ _ trivial (fun _ => ?_)
              clear hK K
              try simp only [Act.put, List.setIfInBounds_toArray, List.set_cons_zero, List.set_cons_succ]
              refine wpAnyH_ready (rs := [4]) (by kernel_rfl) (by simp) ?_
              refine AllReadyH.cons (o := { dst := some 78, op := Go.Op.call { callee := Go.Callee.builtin Go.Builtin.append, args := #[Go.Operand.tmp 74, Go.Operand.tmp 77], argTypes := #[22, 22] }, type := 22, pos := "outright.go:167", after := #[{ on := 0, ground := Go.Ground.data }, { on := 3, ground := Go.Ground.data }], guard := none }) rfl (fun K hK => ?_) AllReadyH.nil
              refine step_append_runI rfl (.tmp 74) (.tmp 77) 22 22 rfl (.slice (some ⟨wr.heap.size, 0, none⟩) 0 0) (.slice (some ⟨g, 0, none⟩) j mc) (by simp [Act.eval]) (by simp [Act.eval]) HR1.out ?_
              refine hK.out _ _ trivial (fun _ => ?_)
              clear hK K
              try simp only [Act.put, List.setIfInBounds_toArray, List.set_cons_zero, List.set_cons_succ]
              refine wpAnyH_ready (rs := [9]) (by kernel_rfl) (by simp) ?_
              refine AllReadyH.cons (o := { dst := some 83, op := Go.Op.call { callee := Go.Callee.builtin Go.Builtin.append, args := #[Go.Operand.tmp 78, Go.Operand.tmp 82], argTypes := #[22, 22] }, type := 22, pos := "outright.go:167", after := #[{ on := 4, ground := Go.Ground.data }, { on := 8, ground := Go.Ground.data }, { on := 4, ground := Go.Ground.chain }], guard := none }) rfl (fun K hK => ?_) AllReadyH.nil
              refine step_append_runI rfl (.tmp 78) (.tmp 82) 22 22 rfl v1 (.slice (if mc = jj then some ⟨g, 0, none⟩ else some ⟨g, jj, none⟩) (k - jj) (mc - jj)) (by simp [Act.eval]) (by simp [Act.eval]) HR2.out ?_
              refine hK.out _ _ trivial (fun _ => ?_)
              clear hK K
              try simp only [Act.put, List.setIfInBounds_toArray, List.set_cons_zero, List.set_cons_succ]
              refine wpAnyH_ready (rs := [10]) (by kernel_rfl) (by simp) ?_
              refine AllReadyH.cons (o := { dst := some 9, op := Go.Op.assign (Go.Operand.tmp 83), type := 22, pos := "outright.go:167", after := #[{ on := 9, ground := Go.Ground.data }, { on := 9, ground := Go.Ground.chain }, { on := 0, ground := Go.Ground.phase }, { on := 1, ground := Go.Ground.phase }, { on := 2, ground := Go.Ground.phase }, { on := 3, ground := Go.Ground.phase }, { on := 4, ground := Go.Ground.phase }, { on := 5, ground := Go.Ground.phase }, { on := 6, ground := Go.Ground.phase }, { on := 7, ground := Go.Ground.phase }, { on := 8, ground := Go.Ground.phase }, { on := 9, ground := Go.Ground.phase }], guard := none }) rfl (fun K hK => ?_) AllReadyH.nil
              go_simp
              refine hK.out _ _ trivial (fun _ => ?_)
              clear hK K
              try simp only [Act.put, List.setIfInBounds_toArray, List.set_cons_zero, List.set_cons_succ]
              refine wpAnyH_done (by kernel_rfl) ?_ _
              clear hwr
              go_wp2_with fail
              all_goals go_meet
              all_goals (rw [HMM.out] at HCM HFIN; exact ⟨cc, mo', mc'', rfl, hMl, HCM.out, HFIN⟩)
            · have hxB : (x == n) = false := beq_eq_false_iff_ne.2 hx
              have HB1 : Hid (∀ i, i < j + 1 → L[i]? ≠ some n) := fun i hi e => by
                by_cases e1 : i = j
                · subst e1
                  rw [List.getElem?_eq_getElem hjl] at e
                  exact hx (by rw [HX.out]; exact Option.some.inj e)
                · exact HB.out i (by omega) e
              have hj2 : j + 1 < k := by
                obtain ⟨i, hi⟩ := List.mem_iff_getElem?.1 HIN.out
                have h1 := (List.getElem?_eq_some_iff.1 hi).1
                rw [HHL.out] at h1
                by_cases h2 : i < j + 1
                · exact absurd hi (HB1.out i h2)
                · omega
              clear hrd
              go_wp2_with fail
              go_roundw
              case rel => exact ⟨j + 1, hj2, by go_num, HB1, HM⟩
              case measure => simp [intOf]; omega
        | false =>
          have hni : n ∉ L := by have := HT.out; simpa using this.symm
          have her := List.erase_of_not_mem hni
          have HE := hide her
          clear hni her
          go_wp2_with fail
          go_meet
          rw [HE.out] at HK ⊢
          exact ⟨k, mo, mc, rfl, hk30, HHL.out, HK⟩
    case rest =>
      obtain ⟨c, xo, xc, rfl, hc30, hcm, HF⟩ := hcut
      obtain ⟨M, HMM⟩ := named (L.erase n)
      rw [← HMM.out] at HF hcm
      have HCM := hide hcm
      clear hcm HK
      go_wp2_with fail
      have kh := HF.out.has rfl (by rw [HCM.out]; omega)
      go_wp2_with fail
      (with_reducible refine Calls.mono kh ?_)
      clear kh HF
      rintro e t1 ⟨rfl, h⟩
      have ka := h.all
      have HDI := hide h
      clear h
      go_wp2_with fail
      (with_reducible refine Calls.mono ka ?_)
      clear ka
      rintro e t2 ⟨tv, rfl, ho, -, hb⟩
      have HTU := hide (TU.new HDI.out hb ho)
      obtain ⟨tao, tc, htv⟩ := ho.shape
      rw [HCM.out] at HTU htv
      subst htv
      clear ho hb HDI
      go_wp2_with fail
      go_loopw [92] (fun iv wr => ∃ i : Nat, i ≤ c ∧ iv = .int .i64 i ∧ Hid (TU w wr (.pointer (some ⟨rb, 0, none⟩)) M (.slice xo c xc) (.slice tao c tc) c)) (fun iv _ => c - (intOf iv).toNat)
      case atStart => exact ⟨0, Nat.zero_le _, rfl, HTU⟩
      case round =>
        obtain ⟨i, hi, rfl, HU⟩ := hrel
        clear HTU
        by_cases hlt : i < c
        · obtain ⟨g, tc', e, hct, hti⟩ := HU.out.2 (by omega)
          cases e
          obtain ⟨cur, hcu, hci⟩ := hti.hc
          obtain ⟨z, hz⟩ := hci i hlt
          have c0 : wr.cell? ⟨g, i, none⟩ = some (.int .i64 z) := by rw [cell_of hcu]; exact hz
          have z0 : wr.frozen? ⟨g, i, none⟩ = false := frozen_of hcu i
          have HTI := hide hti
          have HCT := hide hct
          have hiI : (i : Int) < (c : Int) := by omega
          clear hcu hci hz hti hct HU
          go_wp2_with fail
          go_roundw
          case rel => exact ⟨i + 1, hlt, by go_num, (HTI.out.set i hlt _).out, fun _ => ⟨g, _, rfl, HCT.out, HTI.out.set i hlt _⟩⟩
          case measure => simp [intOf]; omega
        · have hic : c = i := by omega
          subst hic
          have hiI : ¬ (c : Int) < (c : Int) := by omega
          have HF := hide HU.out.1
          clear HU
          go_wp2_with fail
          go_loopw [15, 104] (fun bv iv wr => ∃ (i : Nat) (b : Bool), i ≤ c ∧ iv = .int .i64 i ∧ bv = .bool b ∧ Hid (b = decide (n ∈ M.take i)) ∧ Hid (DI w wr (.pointer (some ⟨rb, 0, none⟩)) M M (.slice xo c xc))) (fun _ iv _ => c - (intOf iv).toNat)
          case atStart => exact ⟨0, false, Nat.zero_le _, rfl, rfl, by show _ = _; simp, HF⟩
          case round =>
            obtain ⟨i, b, hi, rfl, rfl, HT2, HM⟩ := hrel
            clear HF
            by_cases hlt2 : i < c
            · have hiM : i < M.length := by rw [HCM.out]; exact hlt2
              have hrd := HM.out.own.rd
              rw [← HCM.out] at hrd
              obtain ⟨bx, off, hab, c0⟩ := hrd.at i hiM
              subst hab
              obtain ⟨x, HX⟩ := named M[i]
              rw [← HX.out] at c0
              have HTM : Hid (decide (n ∈ M.take (i + 1)) = (b || decide (x = n))) := by
                show _ = _
                rw [take_mem M i hiM, HT2.out, HX.out]
              have hiI2 : (i : Int) < (c : Int) := by omega
              clear hrd
              cases b with
              | true =>
                go_wp2_with fail
                go_roundw
                case rel => exact ⟨i + 1, true, hlt2, by go_num, rfl, by show _ = _; rw [HTM.out]; simp, HM⟩
                case measure => simp [intOf]; omega
              | false =>
                obtain ⟨y, HY⟩ := named (x == n)
                have hy : (x == n) = y := HY.out.symm
                go_wp2_with fail
                go_roundw
                case rel => exact ⟨i + 1, y, hlt2, by go_num, rfl, by show y = _; rw [HTM.out, HY.out, Bool.false_or]; rfl, HM⟩
                case measure => simp [intOf]; omega
            · have hic : c = i := by omega
              subst hic
              have hiI2 : ¬ (c : Int) < (c : Int) := by omega
              rw [List.take_of_length_le (by rw [HCM.out]; exact Nat.le_refl _)] at HT2
              go_upto_region 33 with fail
              go_cut [133] from 115 to 133 (fun z wx => z = .bool false ∧ Hid (DI w wx (.pointer (some ⟨rb, 0, none⟩)) M M (.slice xo c xc)))
              case first =>
               cases b with
               | true =>
                go_wp2_with fail
                go_meet
                exact ⟨rfl, HM⟩
               | false =>
                have hni : n ∉ M := by have := HT2.out; simpa using this.symm
                have HNI := hide hni
                have kp := HM.out.put n (by rw [HCM.out]; omega)
                clear hni
                go_wp2_with fail
                (with_reducible refine Calls.mono kp ?_)
                clear kp HM
                rintro e t3 ⟨rfl, h⟩
                have kd1 := h.drop n
                rw [decide_eq_true (show n ∈ M ++ [n] by simp), List.erase_append_right _ HNI.out, show [n].erase n = [] by simp, List.append_nil] at kd1
                clear h
                go_wp2_with fail
                (with_reducible refine Calls.mono kd1 ?_)
                clear kd1
                rintro e t4 ⟨rfl, h⟩
                have kd2 := h.drop n
                rw [decide_eq_false HNI.out, List.erase_of_not_mem HNI.out] at kd2
                clear h
                go_wp2_with fail
                (with_reducible refine Calls.mono kd2 ?_)
                clear kd2
                rintro e t5 ⟨rfl, h⟩
                have HF := hide h
                clear h
                go_wp2_with fail
                go_meet
                exact ⟨rfl, HF⟩
              case rest =>
                obtain ⟨rfl, HF⟩ := hcut
                clear HM
                go_wp2_with fail
                obtain ⟨T, hT⟩ : ∃ T : Nat, a % ((c : Int) + 1) = (T : Int) := ⟨(a % ((c : Int) + 1)).toNat, by have := Int.emod_nonneg a (show (c : Int) + 1 ≠ 0 by omega); omega⟩
                have hTc : T ≤ c := by have := Int.emod_lt_of_pos a (show (0 : Int) < (c : Int) + 1 by omega); omega
                have hc0 : (0 : Int) ≤ (c : Int) := by omega
                have hc1 : (c : Int) ≤ 30 := by omega
                have hcz : ¬ (c : Int) + 1 = 0 := by omega
                go_loopw [18] (fun iv wr => ∃ i : Nat, i ≤ T ∧ iv = .int .i64 i ∧ Hid (DI w wr (.pointer (some ⟨rb, 0, none⟩)) (rot i M) M (.slice xo c xc))) (fun iv _ => T - (intOf iv).toNat)
                case atStart => exact ⟨0, Nat.zero_le _, rfl, by show DI _ _ _ _ _ _; rw [show rot 0 M = M by unfold rot; simp]; exact HF.out⟩
                case round =>
                  obtain ⟨i, hi, rfl, HK⟩ := hrel
                  clear HF
                  by_cases hlt : i < T
                  · have hiM : i < M.length := by rw [HCM.out]; omega
                    obtain ⟨e1, e2⟩ := rot_step i M hiM
                    obtain ⟨x, HX⟩ := named M[i]
                    rw [← HX.out] at e1 e2
                    have kt := HK.out.take e1
                    have E2 := hide e2
                    have hlen : (M.drop (i + 1) ++ M.take i).length < 100 := by rw [List.length_append, List.length_drop, List.length_take, HCM.out]; omega
                    have HLN := hide hlen
                    have hiI : (i : Int) < (T : Int) := by omega
                    clear e1 e2 hlen
                    go_wp2_with fail
                    (with_reducible refine Calls.mono kt ?_)
                    clear kt HK
                    rintro e t7 ⟨rfl, h⟩
                    have kp := h.put x HLN.out
                    rw [E2.out] at kp
                    clear h
                    go_wp2_with fail
                    (with_reducible refine Calls.mono kp ?_)
                    clear kp
                    rintro e t8 ⟨rfl, h⟩
                    have HX2 := hide h
                    clear h
                    go_wp2_with fail
                    go_roundw
                    case rel => exact ⟨i + 1, hlt, by go_num, HX2⟩
                    case measure => simp [intOf]; omega
                  · have hic : T = i := by omega
                    subst hic
                    have hiI : ¬ (T : Int) < (T : Int) := by omega
                    have HML : Hid (M.length ≤ 30) := by show _ ≤ _; rw [HCM.out]; exact hc30
                    have HFB := hide HK.out.bel
                    have how := HK.out.own
                    rcases how.2 with ⟨hv, e0⟩ | ⟨g, cap', cur, hv, -, -, k1, k2, -⟩
                    · rw [HCM.out] at e0
                      subst e0
                      have hM0 : M = [] := List.eq_nil_of_length_eq_zero HCM.out
                      cases hv
                      obtain rfl : T = 0 := by omega
                      have HC2 : Hid (∀ u : World, Below wr.heap.size wr u → RdI u (.slice none 0 0) (M.drop 0)) := fun u _ => by rw [hM0]; exact RdI.nil u
                      have HC1 : Hid (∀ u : World, Below wr.heap.size wr u → RdI u (.slice none 0 0) (M.take 0)) := fun u _ => by rw [hM0]; exact RdI.nil u
                      have hs0 : True := trivial
                      clear how hM0
                      go_wp2_with fail
                      refine wp_region_held_drew (S := (fun _ => True)) (by kernel_rfl) hs0 (fun _ => ?_)
                      refine wpAnyH_take (i := 0) (oi := { dst := some 163, op := Go.Op.move (Go.Operand.tmp 7), type := 23, pos := "outright.go:190", after := #[], guard := none }) (v := ?_) rfl (by kernel_rfl) (by kernel_rfl) (by kernel_rfl) (fun _ _ _ h => h) (Or.inl ⟨by rfl, ?hy1x2⟩) hs0 ?_
                      case hy1x2 =>
                        intro u hu
                        obtain u0 := hu
                        go_simp
                        try with_reducible rfl
                      simp only [Act.put, List.setIfInBounds_toArray, List.set_cons_zero, List.set_cons_succ]
                      refine wpAnyH_take (i := 3) (oi := { dst := some 166, op := Go.Op.move (Go.Operand.tmp 9), type := 22, pos := "outright.go:190", after := #[], guard := none }) (v := ?_) rfl (by kernel_rfl) (by kernel_rfl) (by kernel_rfl) (fun _ _ _ h => h) (Or.inl ⟨by rfl, ?hy2x2⟩) hs0 ?_
                      case hy2x2 =>
                        intro u hu
                        obtain u0 := hu
                        go_simp
                        try with_reducible rfl
                      simp only [Act.put, List.setIfInBounds_toArray, List.set_cons_zero, List.set_cons_succ]
                      refine wpAnyH_take (i := 4) (oi := { dst := some 167, op := Go.Op.move (Go.Operand.tmp 21), type := 3, pos := "outright.go:190", after := #[], guard := none }) (v := ?_) rfl (by kernel_rfl) (by kernel_rfl) (by kernel_rfl) (fun _ _ _ h => h) (Or.inl ⟨by rfl, ?hy3x2⟩) hs0 ?_
                      case hy3x2 =>
                        intro u hu
                        obtain u0 := hu
                        go_simp
                        try with_reducible rfl
                      simp only [Act.put, List.setIfInBounds_toArray, List.set_cons_zero, List.set_cons_succ]
                      refine wpAnyH_take (i := 5) (oi := { dst := some 168, op := Go.Op.slice 22 (Go.Operand.tmp 166) (some (Go.Operand.tmp 167)) none none, type := 22, pos := "outright.go:190", after := #[{ on := 3, ground := Go.Ground.data }, { on := 4, ground := Go.Ground.data }], guard := none }) (v := ?_) rfl (by kernel_rfl) (by kernel_rfl) (by kernel_rfl) (fun _ _ _ h => h) (Or.inl ⟨by rfl, ?hy4x2⟩) hs0 ?_
                      case hy4x2 =>
                        intro u hu
                        obtain u0 := hu
                        go_simp
                        try with_reducible rfl
                      simp only [Act.put, List.setIfInBounds_toArray, List.set_cons_zero, List.set_cons_succ]
                      refine wpAnyH_take (i := 7) (oi := { dst := some 170, op := Go.Op.move (Go.Operand.tmp 9), type := 22, pos := "outright.go:190", after := #[], guard := none }) (v := ?_) rfl (by kernel_rfl) (by kernel_rfl) (by kernel_rfl) (fun _ _ _ h => h) (Or.inl ⟨by rfl, ?hy5x2⟩) hs0 ?_
                      case hy5x2 =>
                        intro u hu
                        obtain u0 := hu
                        go_simp
                        try with_reducible rfl
                      simp only [Act.put, List.setIfInBounds_toArray, List.set_cons_zero, List.set_cons_succ]
                      refine wpAnyH_take (i := 8) (oi := { dst := some 171, op := Go.Op.move (Go.Operand.tmp 21), type := 3, pos := "outright.go:190", after := #[], guard := none }) (v := ?_) rfl (by kernel_rfl) (by kernel_rfl) (by kernel_rfl) (fun _ _ _ h => h) (Or.inl ⟨by rfl, ?hy6x2⟩) hs0 ?_
                      case hy6x2 =>
                        intro u hu
                        obtain u0 := hu
                        go_simp
                        try with_reducible rfl
                      simp only [Act.put, List.setIfInBounds_toArray, List.set_cons_zero, List.set_cons_succ]
                      refine wpAnyH_take (i := 9) (oi := { dst := some 172, op := Go.Op.slice 22 (Go.Operand.tmp 170) none (some (Go.Operand.tmp 171)) none, type := 22, pos := "outright.go:190", after := #[{ on := 7, ground := Go.Ground.data }, { on := 8, ground := Go.Ground.data }], guard := none }) (v := ?_) rfl (by kernel_rfl) (by kernel_rfl) (by kernel_rfl) (fun _ _ _ h => h) (Or.inl ⟨by rfl, ?hy7x2⟩) hs0 ?_
                      case hy7x2 =>
                        intro u hu
                        obtain u0 := hu
                        go_simp
                        try with_reducible rfl
                      simp only [Act.put, List.setIfInBounds_toArray, List.set_cons_zero, List.set_cons_succ]
                      refine wpAnyH_ready (rs := [1, 2]) (by kernel_rfl) (by simp) ?_
                      refine AllReadyH.cons (o := { dst := some 164, op := Go.Op.call { callee := Go.Callee.value (Go.Operand.func 32), args := #[Go.Operand.tmp 163, Go.Operand.const (Go.Value.string { data := #[113] })], argTypes := #[23, 9] }, type := 22, pos := "outright.go:190", after := #[{ on := 0, ground := Go.Ground.data }], guard := none }) rfl (fun K hK => ?b8_1x2) (AllReadyH.cons (o := { dst := some 165, op := Go.Op.buildSlice 22 0 #[], type := 22, pos := "outright.go:190", after := #[], guard := none }) rfl (fun K hK => ?b8_2x2) AllReadyH.nil)
                      case' b8_1x2 =>
                        go_simp
                        have ka := (HK.out.below (show Below wr.heap.size wr wr.drew from (Below.refl _ _).drew)).all
                        (with_reducible refine Calls.mono ka ?_)
                        clear ka
                        rintro e V1 ⟨tv, rfl, hto, hd, hb⟩
                        have hb : Below wr.heap.size wr V1 := ⟨hb.os, hb.tape, hb.output, hb.size, hb.block⟩
                        have HT1 : Hid (OwnI V1 wr.heap.size tv (rot 0 M)) := hto
                        have HBA := hide hb
                        clear hto hd hb
                        refine hK.out _ _ trivial (fun _ => ?_)
                        clear hK K
                        try simp only [Act.put, List.setIfInBounds_toArray, List.set_cons_zero, List.set_cons_succ]
                        refine wpAnyH_ready (rs := [2]) (by kernel_rfl) (by simp) ?_
                        refine AllReadyH.cons (o := { dst := some 165, op := Go.Op.buildSlice 22 0 #[], type := 22, pos := "outright.go:190", after := #[], guard := none }) rfl (fun K hK => ?_) AllReadyH.nil
                        go_simp
                        obtain ⟨V2, HV⟩ := named (V1.alloc (.cells #[] 3))
                        have hb : Below V1.heap.size V1 V2 := by rw [HV.out]; exact (Below.refl _ _).alloc (Nat.le_refl _) _
                        have HE0 : Hid (OwnI V2 V1.heap.size (.slice (some ⟨V1.heap.size, 0, none⟩) 0 0) []) := by rw [HV.out]; exact OwnI.empty V1
                        have HTO := hide (HT1.out.below hb)
                        have HTNE : Hid (∀ a, tv.ownBlock = some a → (Value.slice (some ⟨V1.heap.size, 0, none⟩) 0 0).ownBlock ≠ some a) := fun a ha e => by have e : V1.heap.size = a := Option.some.inj e; subst e; have h1 := (HT1.out.lt _ ha).2; omega
                        have HBV := hide (below_call HBA.out hb)
                        rw [← HV.out]
                        clear hb
                        obtain ⟨v1, V3, v2, V4, hr6, hr10, hb4, ht4, ho4⟩ := tails HBV.out HE0.out (Nat.le_of_lt (HE0.out.lt _ rfl).2) HTO.out HTNE.out (by have := HBA.out.size; omega) HC2.out HC1.out (by have := HML.out; omega)
                        have HR6 := hide hr6
                        have HR10 := hide hr10
                        have HB4 := hide hb4
                        have HT4 := hide ht4
                        have HO4 := hide ho4
                        clear hr6 hr10 hb4 ht4 ho4
                        refine hK.out _ _ trivial (fun _ => ?_)
                        clear hK K
                        try simp only [Act.put, List.setIfInBounds_toArray, List.set_cons_zero, List.set_cons_succ]
                        refine wpAnyH_ready (rs := [6]) (by kernel_rfl) (by simp) ?_
                        refine AllReadyH.cons (o := { dst := some 169, op := Go.Op.call { callee := Go.Callee.builtin Go.Builtin.append, args := #[Go.Operand.tmp 165, Go.Operand.tmp 168], argTypes := #[22, 22] }, type := 22, pos := "outright.go:190", after := #[{ on := 2, ground := Go.Ground.data }, { on := 5, ground := Go.Ground.data }, { on := 1, ground := Go.Ground.chain }], guard := none }) rfl (fun K hK => ?_) AllReadyH.nil
                        refine step_append_runI rfl (.tmp 165) (.tmp 168) 22 22 rfl (.slice (some ⟨V1.heap.size, 0, none⟩) 0 0) (.slice none 0 0) (by simp [Act.eval]) (by simp [Act.eval]) HR6.out ?_
                        refine hK.out _ _ trivial (fun _ => ?_)
                        clear hK K
                        try simp only [Act.put, List.setIfInBounds_toArray, List.set_cons_zero, List.set_cons_succ]
                        refine wpAnyH_ready (rs := [10]) (by kernel_rfl) (by simp) ?_
                        refine AllReadyH.cons (o := { dst := some 173, op := Go.Op.call { callee := Go.Callee.builtin Go.Builtin.append, args := #[Go.Operand.tmp 169, Go.Operand.tmp 172], argTypes := #[22, 22] }, type := 22, pos := "outright.go:190", after := #[{ on := 6, ground := Go.Ground.data }, { on := 9, ground := Go.Ground.data }, { on := 6, ground := Go.Ground.chain }], guard := none }) rfl (fun K hK => ?_) AllReadyH.nil
                        refine step_append_runI rfl (.tmp 169) (.tmp 172) 22 22 rfl v1 (.slice none 0 0) (by simp [Act.eval]) (by simp [Act.eval]) HR10.out ?_
                        refine hK.out _ _ trivial (fun _ => ?_)
                        clear hK K
                        try simp only [Act.put, List.setIfInBounds_toArray, List.set_cons_zero, List.set_cons_succ]
                        refine wpAnyH_ready (rs := [11]) (by kernel_rfl) (by simp) ?_
                        refine AllReadyH.cons (o := { dst := some 174, op := Go.Op.call { callee := Go.Callee.value (Go.Operand.func 33), args := #[Go.Operand.tmp 164, Go.Operand.tmp 173], argTypes := #[22, 22] }, type := 4, pos := "outright.go:190", after := #[{ on := 1, ground := Go.Ground.data }, { on := 10, ground := Go.Ground.data }, { on := 10, ground := Go.Ground.chain }], guard := none }) rfl (fun K hK => ?_) AllReadyH.nil
                        go_simp
                        have ks := sameInts_any HT4.out HO4.out (by rw [rot_len]; have := HML.out; omega) (by rw [List.length_append, List.length_drop, List.length_take]; have := HML.out; omega)
                        rw [decide_eq_true (show rot 0 M = M.drop 0 ++ M.take 0 from rfl)] at ks
                        (with_reducible refine Calls.mono ks ?_)
                        clear ks
                        rintro e V5 ⟨rfl, hb⟩
                        have HB5 := hide (below_call HB4.out hb)
                        clear hb
                        refine hK.out _ _ trivial (fun _ => ?_)
                        clear hK K
                        try simp only [Act.put, List.setIfInBounds_toArray, List.set_cons_zero, List.set_cons_succ]
                        refine wpAnyH_take (i := 12) (oi := { dst := some 175, op := Go.Op.move (Go.Operand.tmp 174), type := 4, pos := "outright.go:190", after := #[{ on := 11, ground := Go.Ground.data }, { on := 11, ground := Go.Ground.chain }], guard := none }) (v := ?_) rfl (by kernel_rfl) (by kernel_rfl) (by kernel_rfl) (fun _ _ _ h => h) (Or.inl ⟨by rfl, ?hy13x2⟩) trivial ?_
                        case hy13x2 =>
                          intro u hu
                          obtain u0 := hu
                          go_simp
                          try with_reducible rfl
                        simp only [Act.put, List.setIfInBounds_toArray, List.set_cons_zero, List.set_cons_succ]
                        refine wpAnyH_ready (rs := [13]) (by kernel_rfl) (by simp) ?_
                        refine AllReadyH.cons (o := { dst := some 176, op := Go.Op.call { callee := Go.Callee.value (Go.Operand.func 20), args := #[], argTypes := #[] }, type := 4, pos := "outright.go:190", after := #[{ on := 12, ground := Go.Ground.chain }, { on := 12, ground := Go.Ground.guard }], guard := some (12, true) }) rfl (fun K hK => ?_) AllReadyH.nil
                        go_simp
                        have kw := awake_any V5
                        (with_reducible refine Calls.mono kw ?_)
                        clear kw
                        rintro e V6 ⟨rfl, hb⟩
                        have HB6 := hide (below_call HB5.out hb)
                        clear hb
                        refine hK.out _ _ trivial (fun _ => ?_)
                        clear hK K
                        try simp only [Act.put, List.setIfInBounds_toArray, List.set_cons_zero, List.set_cons_succ]
                        refine wpAnyH_take (i := 14) (oi := { dst := some 177, op := Go.Op.pick (Go.Operand.tmp 175) (Go.Operand.tmp 176) (Go.Operand.const (Go.Value.bool false)), type := 4, pos := "outright.go:190", after := #[{ on := 12, ground := Go.Ground.data }, { on := 13, ground := Go.Ground.data }], guard := none }) (v := ?_) rfl (by kernel_rfl) (by kernel_rfl) (by kernel_rfl) (fun _ _ _ h => h) (Or.inl ⟨by rfl, ?hy15x2⟩) trivial ?_
                        case hy15x2 =>
                          intro u hu
                          obtain u0 := hu
                          go_simp
                          try with_reducible rfl
                        simp only [Act.put, List.setIfInBounds_toArray, List.set_cons_zero, List.set_cons_succ]
                        refine wpAnyH_ready (rs := [15]) (by kernel_rfl) (by simp) ?_
                        refine AllReadyH.cons (o := { dst := some 6, op := Go.Op.assign (Go.Operand.tmp 177), type := 4, pos := "outright.go:190", after := #[{ on := 14, ground := Go.Ground.data }, { on := 13, ground := Go.Ground.chain }, { on := 0, ground := Go.Ground.phase }, { on := 1, ground := Go.Ground.phase }, { on := 2, ground := Go.Ground.phase }, { on := 3, ground := Go.Ground.phase }, { on := 4, ground := Go.Ground.phase }, { on := 5, ground := Go.Ground.phase }, { on := 6, ground := Go.Ground.phase }, { on := 7, ground := Go.Ground.phase }, { on := 8, ground := Go.Ground.phase }, { on := 9, ground := Go.Ground.phase }, { on := 10, ground := Go.Ground.phase }, { on := 11, ground := Go.Ground.phase }, { on := 12, ground := Go.Ground.phase }, { on := 13, ground := Go.Ground.phase }, { on := 14, ground := Go.Ground.phase }], guard := none }) rfl (fun K hK => ?_) AllReadyH.nil
                        go_simp
                        refine hK.out _ _ trivial (fun _ => ?_)
                        clear hK K
                        try simp only [Act.put, List.setIfInBounds_toArray, List.set_cons_zero, List.set_cons_succ]
                        refine wpAnyH_done (by kernel_rfl) ?_ _
                        go_wp2_with fail
                        all_goals go_ret
                        all_goals exact ⟨rfl, HFB.out.trans (HB6.out.mono HFB.out.size)⟩
                      case' b8_2x2 =>
                        go_simp
                        obtain ⟨V1, HV⟩ := named ((wr.alloc (.cells #[] 3)).drew)
                        have hb : Below wr.heap.size wr V1 := by rw [HV.out]; exact ((Below.refl _ _).alloc (Nat.le_refl _) _).drew
                        have HE1 : Hid (OwnI V1 wr.heap.size (.slice (some ⟨wr.heap.size, 0, none⟩) 0 0) []) := by rw [HV.out]; exact (OwnI.empty wr).heap fun _ _ => rfl
                        have HBA := hide hb
                        rw [← HV.out]
                        clear hb
                        refine hK.out _ _ trivial (fun _ => ?_)
                        clear hK K
                        try simp only [Act.put, List.setIfInBounds_toArray, List.set_cons_zero, List.set_cons_succ]
                        refine wpAnyH_ready (rs := [1]) (by kernel_rfl) (by simp) ?_
                        refine AllReadyH.cons (o := { dst := some 164, op := Go.Op.call { callee := Go.Callee.value (Go.Operand.func 32), args := #[Go.Operand.tmp 163, Go.Operand.const (Go.Value.string { data := #[113] })], argTypes := #[23, 9] }, type := 22, pos := "outright.go:190", after := #[{ on := 0, ground := Go.Ground.data }], guard := none }) rfl (fun K hK => ?_) AllReadyH.nil
                        go_simp
                        have ka := (HK.out.below HBA.out).all
                        (with_reducible refine Calls.mono ka ?_)
                        clear ka
                        rintro e V2 ⟨tv, rfl, hto, hd, hb⟩
                        have HBV := hide (below_call HBA.out hb)
                        have HE0 := hide (HE1.out.below hb)
                        have HTO := hide hto
                        have HTNE : Hid (∀ a, tv.ownBlock = some a → (Value.slice (some ⟨wr.heap.size, 0, none⟩) 0 0).ownBlock ≠ some a) := fun a ha e => by have e : wr.heap.size = a := Option.some.inj e; subst e; have h1 := (HTO.out.lt _ ha).1; have h2 := (HE1.out.lt wr.heap.size rfl).2; omega
                        clear hto hd hb
                        obtain ⟨v1, V3, v2, V4, hr6, hr10, hb4, ht4, ho4⟩ := tails HBV.out HE0.out (Nat.le_of_lt (HE0.out.lt _ rfl).2) HTO.out HTNE.out (Nat.le_refl _) HC2.out HC1.out (by have := HML.out; omega)
                        have HR6 := hide hr6
                        have HR10 := hide hr10
                        have HB4 := hide hb4
                        have HT4 := hide ht4
                        have HO4 := hide ho4
                        clear hr6 hr10 hb4 ht4 ho4
                        refine hK.out _ _ trivial (fun _ => ?_)
                        clear hK K
                        try simp only [Act.put, List.setIfInBounds_toArray, List.set_cons_zero, List.set_cons_succ]
                        refine wpAnyH_ready (rs := [6]) (by kernel_rfl) (by simp) ?_
                        refine AllReadyH.cons (o := { dst := some 169, op := Go.Op.call { callee := Go.Callee.builtin Go.Builtin.append, args := #[Go.Operand.tmp 165, Go.Operand.tmp 168], argTypes := #[22, 22] }, type := 22, pos := "outright.go:190", after := #[{ on := 2, ground := Go.Ground.data }, { on := 5, ground := Go.Ground.data }, { on := 1, ground := Go.Ground.chain }], guard := none }) rfl (fun K hK => ?_) AllReadyH.nil
                        refine step_append_runI rfl (.tmp 165) (.tmp 168) 22 22 rfl (.slice (some ⟨wr.heap.size, 0, none⟩) 0 0) (.slice none 0 0) (by simp [Act.eval]) (by simp [Act.eval]) HR6.out ?_
                        refine hK.out _ _ trivial (fun _ => ?_)
                        clear hK K
                        try simp only [Act.put, List.setIfInBounds_toArray, List.set_cons_zero, List.set_cons_succ]
                        refine wpAnyH_ready (rs := [10]) (by kernel_rfl) (by simp) ?_
                        refine AllReadyH.cons (o := { dst := some 173, op := Go.Op.call { callee := Go.Callee.builtin Go.Builtin.append, args := #[Go.Operand.tmp 169, Go.Operand.tmp 172], argTypes := #[22, 22] }, type := 22, pos := "outright.go:190", after := #[{ on := 6, ground := Go.Ground.data }, { on := 9, ground := Go.Ground.data }, { on := 6, ground := Go.Ground.chain }], guard := none }) rfl (fun K hK => ?_) AllReadyH.nil
                        refine step_append_runI rfl (.tmp 169) (.tmp 172) 22 22 rfl v1 (.slice none 0 0) (by simp [Act.eval]) (by simp [Act.eval]) HR10.out ?_
                        refine hK.out _ _ trivial (fun _ => ?_)
                        clear hK K
                        try simp only [Act.put, List.setIfInBounds_toArray, List.set_cons_zero, List.set_cons_succ]
                        refine wpAnyH_ready (rs := [11]) (by kernel_rfl) (by simp) ?_
                        refine AllReadyH.cons (o := { dst := some 174, op := Go.Op.call { callee := Go.Callee.value (Go.Operand.func 33), args := #[Go.Operand.tmp 164, Go.Operand.tmp 173], argTypes := #[22, 22] }, type := 4, pos := "outright.go:190", after := #[{ on := 1, ground := Go.Ground.data }, { on := 10, ground := Go.Ground.data }, { on := 10, ground := Go.Ground.chain }], guard := none }) rfl (fun K hK => ?_) AllReadyH.nil
                        go_simp
                        have ks := sameInts_any HT4.out HO4.out (by rw [rot_len]; have := HML.out; omega) (by rw [List.length_append, List.length_drop, List.length_take]; have := HML.out; omega)
                        rw [decide_eq_true (show rot 0 M = M.drop 0 ++ M.take 0 from rfl)] at ks
                        (with_reducible refine Calls.mono ks ?_)
                        clear ks
                        rintro e V5 ⟨rfl, hb⟩
                        have HB5 := hide (below_call HB4.out hb)
                        clear hb
                        refine hK.out _ _ trivial (fun _ => ?_)
                        clear hK K
                        try simp only [Act.put, List.setIfInBounds_toArray, List.set_cons_zero, List.set_cons_succ]
                        refine wpAnyH_take (i := 12) (oi := { dst := some 175, op := Go.Op.move (Go.Operand.tmp 174), type := 4, pos := "outright.go:190", after := #[{ on := 11, ground := Go.Ground.data }, { on := 11, ground := Go.Ground.chain }], guard := none }) (v := ?_) rfl (by kernel_rfl) (by kernel_rfl) (by kernel_rfl) (fun _ _ _ h => h) (Or.inl ⟨by rfl, ?hy21x2⟩) trivial ?_
                        case hy21x2 =>
                          intro u hu
                          obtain u0 := hu
                          go_simp
                          try with_reducible rfl
                        simp only [Act.put, List.setIfInBounds_toArray, List.set_cons_zero, List.set_cons_succ]
                        refine wpAnyH_ready (rs := [13]) (by kernel_rfl) (by simp) ?_
                        refine AllReadyH.cons (o := { dst := some 176, op := Go.Op.call { callee := Go.Callee.value (Go.Operand.func 20), args := #[], argTypes := #[] }, type := 4, pos := "outright.go:190", after := #[{ on := 12, ground := Go.Ground.chain }, { on := 12, ground := Go.Ground.guard }], guard := some (12, true) }) rfl (fun K hK => ?_) AllReadyH.nil
                        go_simp
                        have kw := awake_any V5
                        (with_reducible refine Calls.mono kw ?_)
                        clear kw
                        rintro e V6 ⟨rfl, hb⟩
                        have HB6 := hide (below_call HB5.out hb)
                        clear hb
                        refine hK.out _ _ trivial (fun _ => ?_)
                        clear hK K
                        try simp only [Act.put, List.setIfInBounds_toArray, List.set_cons_zero, List.set_cons_succ]
                        refine wpAnyH_take (i := 14) (oi := { dst := some 177, op := Go.Op.pick (Go.Operand.tmp 175) (Go.Operand.tmp 176) (Go.Operand.const (Go.Value.bool false)), type := 4, pos := "outright.go:190", after := #[{ on := 12, ground := Go.Ground.data }, { on := 13, ground := Go.Ground.data }], guard := none }) (v := ?_) rfl (by kernel_rfl) (by kernel_rfl) (by kernel_rfl) (fun _ _ _ h => h) (Or.inl ⟨by rfl, ?hy23x2⟩) trivial ?_
                        case hy23x2 =>
                          intro u hu
                          obtain u0 := hu
                          go_simp
                          try with_reducible rfl
                        simp only [Act.put, List.setIfInBounds_toArray, List.set_cons_zero, List.set_cons_succ]
                        refine wpAnyH_ready (rs := [15]) (by kernel_rfl) (by simp) ?_
                        refine AllReadyH.cons (o := { dst := some 6, op := Go.Op.assign (Go.Operand.tmp 177), type := 4, pos := "outright.go:190", after := #[{ on := 14, ground := Go.Ground.data }, { on := 13, ground := Go.Ground.chain }, { on := 0, ground := Go.Ground.phase }, { on := 1, ground := Go.Ground.phase }, { on := 2, ground := Go.Ground.phase }, { on := 3, ground := Go.Ground.phase }, { on := 4, ground := Go.Ground.phase }, { on := 5, ground := Go.Ground.phase }, { on := 6, ground := Go.Ground.phase }, { on := 7, ground := Go.Ground.phase }, { on := 8, ground := Go.Ground.phase }, { on := 9, ground := Go.Ground.phase }, { on := 10, ground := Go.Ground.phase }, { on := 11, ground := Go.Ground.phase }, { on := 12, ground := Go.Ground.phase }, { on := 13, ground := Go.Ground.phase }, { on := 14, ground := Go.Ground.phase }], guard := none }) rfl (fun K hK => ?_) AllReadyH.nil
                        go_simp
                        refine hK.out _ _ trivial (fun _ => ?_)
                        clear hK K
                        try simp only [Act.put, List.setIfInBounds_toArray, List.set_cons_zero, List.set_cons_succ]
                        refine wpAnyH_done (by kernel_rfl) ?_ _
                        go_wp2_with fail
                        all_goals go_ret
                        all_goals exact ⟨rfl, HFB.out.trans (HB6.out.mono HFB.out.size)⟩
                    · rw [HCM.out] at hv k1
                      cases hv
                      have hrd := how.rd
                      rw [← HCM.out] at hrd
                      have HC2 : Hid (∀ u : World, Below wr.heap.size wr u → RdI u (.slice (if xc = T then some ⟨g, 0, none⟩ else some ⟨g, T, none⟩) (c - T) (xc - T)) (M.drop T)) := fun u hu => by
                        have := (hrd.below hu).cut2 T
                        rw [HCM.out] at this
                        exact this
                      have HC1 : Hid (∀ u : World, Below wr.heap.size wr u → RdI u (.slice (some ⟨g, 0, none⟩) T xc) (M.take T)) := fun u hu => (hrd.below hu).cut1 (by rw [HCM.out]; omega)
                      have hs0 : True := trivial
                      have hcx : (c : Int) ≤ (xc : Int) := by omega
                      have hTI : (T : Int) ≤ (c : Int) := by omega
                      have hTx : (T : Int) ≤ (xc : Int) := by omega
                      have hT0 : (0 : Int) ≤ (T : Int) := by omega
                      have hxm : (xc : Int) ≤ 9223372036854775807 := by unfold maxLen at k2; omega
                      clear how hrd
                      go_wp2_with fail
                      refine wp_region_held_drew (S := (fun _ => True)) (by kernel_rfl) hs0 (fun _ => ?_)
                      refine wpAnyH_take (i := 0) (oi := { dst := some 163, op := Go.Op.move (Go.Operand.tmp 7), type := 23, pos := "outright.go:190", after := #[], guard := none }) (v := ?_) rfl (by kernel_rfl) (by kernel_rfl) (by kernel_rfl) (fun _ _ _ h => h) (Or.inl ⟨by rfl, ?hy25x3⟩) hs0 ?_
                      case hy25x3 =>
                        intro u hu
                        obtain u0 := hu
                        go_simp
                        try with_reducible rfl
                      simp only [Act.put, List.setIfInBounds_toArray, List.set_cons_zero, List.set_cons_succ]
                      refine wpAnyH_take (i := 3) (oi := { dst := some 166, op := Go.Op.move (Go.Operand.tmp 9), type := 22, pos := "outright.go:190", after := #[], guard := none }) (v := ?_) rfl (by kernel_rfl) (by kernel_rfl) (by kernel_rfl) (fun _ _ _ h => h) (Or.inl ⟨by rfl, ?hy26x3⟩) hs0 ?_
                      case hy26x3 =>
                        intro u hu
                        obtain u0 := hu
                        go_simp
                        try with_reducible rfl
                      simp only [Act.put, List.setIfInBounds_toArray, List.set_cons_zero, List.set_cons_succ]
                      refine wpAnyH_take (i := 4) (oi := { dst := some 167, op := Go.Op.move (Go.Operand.tmp 21), type := 3, pos := "outright.go:190", after := #[], guard := none }) (v := ?_) rfl (by kernel_rfl) (by kernel_rfl) (by kernel_rfl) (fun _ _ _ h => h) (Or.inl ⟨by rfl, ?hy27x3⟩) hs0 ?_
                      case hy27x3 =>
                        intro u hu
                        obtain u0 := hu
                        go_simp
                        try with_reducible rfl
                      simp only [Act.put, List.setIfInBounds_toArray, List.set_cons_zero, List.set_cons_succ]
                      refine wpAnyH_take (i := 5) (oi := { dst := some 168, op := Go.Op.slice 22 (Go.Operand.tmp 166) (some (Go.Operand.tmp 167)) none none, type := 22, pos := "outright.go:190", after := #[{ on := 3, ground := Go.Ground.data }, { on := 4, ground := Go.Ground.data }], guard := none }) (v := ?_) rfl (by kernel_rfl) (by kernel_rfl) (by kernel_rfl) (fun _ _ _ h => h) (Or.inl ⟨by rfl, ?hy28x3⟩) hs0 ?_
                      case hy28x3 =>
                        intro u hu
                        obtain u0 := hu
                        go_simp
                        try with_reducible rfl
                      simp only [Act.put, List.setIfInBounds_toArray, List.set_cons_zero, List.set_cons_succ]
                      refine wpAnyH_take (i := 7) (oi := { dst := some 170, op := Go.Op.move (Go.Operand.tmp 9), type := 22, pos := "outright.go:190", after := #[], guard := none }) (v := ?_) rfl (by kernel_rfl) (by kernel_rfl) (by kernel_rfl) (fun _ _ _ h => h) (Or.inl ⟨by rfl, ?hy29x3⟩) hs0 ?_
                      case hy29x3 =>
                        intro u hu
                        obtain u0 := hu
                        go_simp
                        try with_reducible rfl
                      simp only [Act.put, List.setIfInBounds_toArray, List.set_cons_zero, List.set_cons_succ]
                      refine wpAnyH_take (i := 8) (oi := { dst := some 171, op := Go.Op.move (Go.Operand.tmp 21), type := 3, pos := "outright.go:190", after := #[], guard := none }) (v := ?_) rfl (by kernel_rfl) (by kernel_rfl) (by kernel_rfl) (fun _ _ _ h => h) (Or.inl ⟨by rfl, ?hy30x3⟩) hs0 ?_
                      case hy30x3 =>
                        intro u hu
                        obtain u0 := hu
                        go_simp
                        try with_reducible rfl
                      simp only [Act.put, List.setIfInBounds_toArray, List.set_cons_zero, List.set_cons_succ]
                      refine wpAnyH_take (i := 9) (oi := { dst := some 172, op := Go.Op.slice 22 (Go.Operand.tmp 170) none (some (Go.Operand.tmp 171)) none, type := 22, pos := "outright.go:190", after := #[{ on := 7, ground := Go.Ground.data }, { on := 8, ground := Go.Ground.data }], guard := none }) (v := ?_) rfl (by kernel_rfl) (by kernel_rfl) (by kernel_rfl) (fun _ _ _ h => h) (Or.inl ⟨by rfl, ?hy31x3⟩) hs0 ?_
                      case hy31x3 =>
                        intro u hu
                        obtain u0 := hu
                        go_simp
                        try with_reducible rfl
                      simp only [Act.put, List.setIfInBounds_toArray, List.set_cons_zero, List.set_cons_succ]
                      refine wpAnyH_ready (rs := [1, 2]) (by kernel_rfl) (by simp) ?_
                      refine AllReadyH.cons (o := { dst := some 164, op := Go.Op.call { callee := Go.Callee.value (Go.Operand.func 32), args := #[Go.Operand.tmp 163, Go.Operand.const (Go.Value.string { data := #[113] })], argTypes := #[23, 9] }, type := 22, pos := "outright.go:190", after := #[{ on := 0, ground := Go.Ground.data }], guard := none }) rfl (fun K hK => ?b32_1x3) (AllReadyH.cons (o := { dst := some 165, op := Go.Op.buildSlice 22 0 #[], type := 22, pos := "outright.go:190", after := #[], guard := none }) rfl (fun K hK => ?b32_2x3) AllReadyH.nil)
                      case' b32_1x3 =>
                        go_simp
                        have ka := (HK.out.below (show Below wr.heap.size wr wr.drew from (Below.refl _ _).drew)).all
                        (with_reducible refine Calls.mono ka ?_)
                        clear ka
                        rintro e V1 ⟨tv, rfl, hto, hd, hb⟩
                        have hb : Below wr.heap.size wr V1 := ⟨hb.os, hb.tape, hb.output, hb.size, hb.block⟩
                        have HT1 : Hid (OwnI V1 wr.heap.size tv (rot T M)) := hto
                        have HBA := hide hb
                        clear hto hd hb
                        refine hK.out _ _ trivial (fun _ => ?_)
                        clear hK K
                        try simp only [Act.put, List.setIfInBounds_toArray, List.set_cons_zero, List.set_cons_succ]
                        refine wpAnyH_ready (rs := [2]) (by kernel_rfl) (by simp) ?_
                        refine AllReadyH.cons (o := { dst := some 165, op := Go.Op.buildSlice 22 0 #[], type := 22, pos := "outright.go:190", after := #[], guard := none }) rfl (fun K hK => ?_) AllReadyH.nil
                        go_simp
                        obtain ⟨V2, HV⟩ := named (V1.alloc (.cells #[] 3))
                        have hb : Below V1.heap.size V1 V2 := by rw [HV.out]; exact (Below.refl _ _).alloc (Nat.le_refl _) _
                        have HE0 : Hid (OwnI V2 V1.heap.size (.slice (some ⟨V1.heap.size, 0, none⟩) 0 0) []) := by rw [HV.out]; exact OwnI.empty V1
                        have HTO := hide (HT1.out.below hb)
                        have HTNE : Hid (∀ a, tv.ownBlock = some a → (Value.slice (some ⟨V1.heap.size, 0, none⟩) 0 0).ownBlock ≠ some a) := fun a ha e => by have e : V1.heap.size = a := Option.some.inj e; subst e; have h1 := (HT1.out.lt _ ha).2; omega
                        have HBV := hide (below_call HBA.out hb)
                        rw [← HV.out]
                        clear hb
                        obtain ⟨v1, V3, v2, V4, hr6, hr10, hb4, ht4, ho4⟩ := tails HBV.out HE0.out (Nat.le_of_lt (HE0.out.lt _ rfl).2) HTO.out HTNE.out (by have := HBA.out.size; omega) HC2.out HC1.out (by have := HML.out; omega)
                        have HR6 := hide hr6
                        have HR10 := hide hr10
                        have HB4 := hide hb4
                        have HT4 := hide ht4
                        have HO4 := hide ho4
                        clear hr6 hr10 hb4 ht4 ho4
                        refine hK.out _ _ trivial (fun _ => ?_)
                        clear hK K
                        try simp only [Act.put, List.setIfInBounds_toArray, List.set_cons_zero, List.set_cons_succ]
                        refine wpAnyH_ready (rs := [6]) (by kernel_rfl) (by simp) ?_
                        refine AllReadyH.cons (o := { dst := some 169, op := Go.Op.call { callee := Go.Callee.builtin Go.Builtin.append, args := #[Go.Operand.tmp 165, Go.Operand.tmp 168], argTypes := #[22, 22] }, type := 22, pos := "outright.go:190", after := #[{ on := 2, ground := Go.Ground.data }, { on := 5, ground := Go.Ground.data }, { on := 1, ground := Go.Ground.chain }], guard := none }) rfl (fun K hK => ?_) AllReadyH.nil
                        refine step_append_runI rfl (.tmp 165) (.tmp 168) 22 22 rfl (.slice (some ⟨V1.heap.size, 0, none⟩) 0 0) (.slice (if xc = T then some ⟨g, 0, none⟩ else some ⟨g, T, none⟩) (c - T) (xc - T)) (by simp [Act.eval]) (by simp [Act.eval]) HR6.out ?_
                        refine hK.out _ _ trivial (fun _ => ?_)
                        clear hK K
                        try simp only [Act.put, List.setIfInBounds_toArray, List.set_cons_zero, List.set_cons_succ]
                        refine wpAnyH_ready (rs := [10]) (by kernel_rfl) (by simp) ?_
                        refine AllReadyH.cons (o := { dst := some 173, op := Go.Op.call { callee := Go.Callee.builtin Go.Builtin.append, args := #[Go.Operand.tmp 169, Go.Operand.tmp 172], argTypes := #[22, 22] }, type := 22, pos := "outright.go:190", after := #[{ on := 6, ground := Go.Ground.data }, { on := 9, ground := Go.Ground.data }, { on := 6, ground := Go.Ground.chain }], guard := none }) rfl (fun K hK => ?_) AllReadyH.nil
                        refine step_append_runI rfl (.tmp 169) (.tmp 172) 22 22 rfl v1 (.slice (some ⟨g, 0, none⟩) T xc) (by simp [Act.eval]) (by simp [Act.eval]) HR10.out ?_
                        refine hK.out _ _ trivial (fun _ => ?_)
                        clear hK K
                        try simp only [Act.put, List.setIfInBounds_toArray, List.set_cons_zero, List.set_cons_succ]
                        refine wpAnyH_ready (rs := [11]) (by kernel_rfl) (by simp) ?_
                        refine AllReadyH.cons (o := { dst := some 174, op := Go.Op.call { callee := Go.Callee.value (Go.Operand.func 33), args := #[Go.Operand.tmp 164, Go.Operand.tmp 173], argTypes := #[22, 22] }, type := 4, pos := "outright.go:190", after := #[{ on := 1, ground := Go.Ground.data }, { on := 10, ground := Go.Ground.data }, { on := 10, ground := Go.Ground.chain }], guard := none }) rfl (fun K hK => ?_) AllReadyH.nil
                        go_simp
                        have ks := sameInts_any HT4.out HO4.out (by rw [rot_len]; have := HML.out; omega) (by rw [List.length_append, List.length_drop, List.length_take]; have := HML.out; omega)
                        rw [decide_eq_true (show rot T M = M.drop T ++ M.take T from rfl)] at ks
                        (with_reducible refine Calls.mono ks ?_)
                        clear ks
                        rintro e V5 ⟨rfl, hb⟩
                        have HB5 := hide (below_call HB4.out hb)
                        clear hb
                        refine hK.out _ _ trivial (fun _ => ?_)
                        clear hK K
                        try simp only [Act.put, List.setIfInBounds_toArray, List.set_cons_zero, List.set_cons_succ]
                        refine wpAnyH_take (i := 12) (oi := { dst := some 175, op := Go.Op.move (Go.Operand.tmp 174), type := 4, pos := "outright.go:190", after := #[{ on := 11, ground := Go.Ground.data }, { on := 11, ground := Go.Ground.chain }], guard := none }) (v := ?_) rfl (by kernel_rfl) (by kernel_rfl) (by kernel_rfl) (fun _ _ _ h => h) (Or.inl ⟨by rfl, ?hy37x3⟩) trivial ?_
                        case hy37x3 =>
                          intro u hu
                          obtain u0 := hu
                          go_simp
                          try with_reducible rfl
                        simp only [Act.put, List.setIfInBounds_toArray, List.set_cons_zero, List.set_cons_succ]
                        refine wpAnyH_ready (rs := [13]) (by kernel_rfl) (by simp) ?_
                        refine AllReadyH.cons (o := { dst := some 176, op := Go.Op.call { callee := Go.Callee.value (Go.Operand.func 20), args := #[], argTypes := #[] }, type := 4, pos := "outright.go:190", after := #[{ on := 12, ground := Go.Ground.chain }, { on := 12, ground := Go.Ground.guard }], guard := some (12, true) }) rfl (fun K hK => ?_) AllReadyH.nil
                        go_simp
                        have kw := awake_any V5
                        (with_reducible refine Calls.mono kw ?_)
                        clear kw
                        rintro e V6 ⟨rfl, hb⟩
                        have HB6 := hide (below_call HB5.out hb)
                        clear hb
                        refine hK.out _ _ trivial (fun _ => ?_)
                        clear hK K
                        try simp only [Act.put, List.setIfInBounds_toArray, List.set_cons_zero, List.set_cons_succ]
                        refine wpAnyH_take (i := 14) (oi := { dst := some 177, op := Go.Op.pick (Go.Operand.tmp 175) (Go.Operand.tmp 176) (Go.Operand.const (Go.Value.bool false)), type := 4, pos := "outright.go:190", after := #[{ on := 12, ground := Go.Ground.data }, { on := 13, ground := Go.Ground.data }], guard := none }) (v := ?_) rfl (by kernel_rfl) (by kernel_rfl) (by kernel_rfl) (fun _ _ _ h => h) (Or.inl ⟨by rfl, ?hy39x3⟩) trivial ?_
                        case hy39x3 =>
                          intro u hu
                          obtain u0 := hu
                          go_simp
                          try with_reducible rfl
                        simp only [Act.put, List.setIfInBounds_toArray, List.set_cons_zero, List.set_cons_succ]
                        refine wpAnyH_ready (rs := [15]) (by kernel_rfl) (by simp) ?_
                        refine AllReadyH.cons (o := { dst := some 6, op := Go.Op.assign (Go.Operand.tmp 177), type := 4, pos := "outright.go:190", after := #[{ on := 14, ground := Go.Ground.data }, { on := 13, ground := Go.Ground.chain }, { on := 0, ground := Go.Ground.phase }, { on := 1, ground := Go.Ground.phase }, { on := 2, ground := Go.Ground.phase }, { on := 3, ground := Go.Ground.phase }, { on := 4, ground := Go.Ground.phase }, { on := 5, ground := Go.Ground.phase }, { on := 6, ground := Go.Ground.phase }, { on := 7, ground := Go.Ground.phase }, { on := 8, ground := Go.Ground.phase }, { on := 9, ground := Go.Ground.phase }, { on := 10, ground := Go.Ground.phase }, { on := 11, ground := Go.Ground.phase }, { on := 12, ground := Go.Ground.phase }, { on := 13, ground := Go.Ground.phase }, { on := 14, ground := Go.Ground.phase }], guard := none }) rfl (fun K hK => ?_) AllReadyH.nil
                        go_simp
                        refine hK.out _ _ trivial (fun _ => ?_)
                        clear hK K
                        try simp only [Act.put, List.setIfInBounds_toArray, List.set_cons_zero, List.set_cons_succ]
                        refine wpAnyH_done (by kernel_rfl) ?_ _
                        go_wp2_with fail
                        all_goals go_ret
                        all_goals exact ⟨rfl, HFB.out.trans (HB6.out.mono HFB.out.size)⟩
                      case' b32_2x3 =>
                        go_simp
                        obtain ⟨V1, HV⟩ := named ((wr.alloc (.cells #[] 3)).drew)
                        have hb : Below wr.heap.size wr V1 := by rw [HV.out]; exact ((Below.refl _ _).alloc (Nat.le_refl _) _).drew
                        have HE1 : Hid (OwnI V1 wr.heap.size (.slice (some ⟨wr.heap.size, 0, none⟩) 0 0) []) := by rw [HV.out]; exact (OwnI.empty wr).heap fun _ _ => rfl
                        have HBA := hide hb
                        rw [← HV.out]
                        clear hb
                        refine hK.out _ _ trivial (fun _ => ?_)
                        clear hK K
                        try simp only [Act.put, List.setIfInBounds_toArray, List.set_cons_zero, List.set_cons_succ]
                        refine wpAnyH_ready (rs := [1]) (by kernel_rfl) (by simp) ?_
                        refine AllReadyH.cons (o := { dst := some 164, op := Go.Op.call { callee := Go.Callee.value (Go.Operand.func 32), args := #[Go.Operand.tmp 163, Go.Operand.const (Go.Value.string { data := #[113] })], argTypes := #[23, 9] }, type := 22, pos := "outright.go:190", after := #[{ on := 0, ground := Go.Ground.data }], guard := none }) rfl (fun K hK => ?_) AllReadyH.nil
                        go_simp
                        have ka := (HK.out.below HBA.out).all
                        (with_reducible refine Calls.mono ka ?_)
                        clear ka
                        rintro e V2 ⟨tv, rfl, hto, hd, hb⟩
                        have HBV := hide (below_call HBA.out hb)
                        have HE0 := hide (HE1.out.below hb)
                        have HTO := hide hto
                        have HTNE : Hid (∀ a, tv.ownBlock = some a → (Value.slice (some ⟨wr.heap.size, 0, none⟩) 0 0).ownBlock ≠ some a) := fun a ha e => by have e : wr.heap.size = a := Option.some.inj e; subst e; have h1 := (HTO.out.lt _ ha).1; have h2 := (HE1.out.lt wr.heap.size rfl).2; omega
                        clear hto hd hb
                        obtain ⟨v1, V3, v2, V4, hr6, hr10, hb4, ht4, ho4⟩ := tails HBV.out HE0.out (Nat.le_of_lt (HE0.out.lt _ rfl).2) HTO.out HTNE.out (Nat.le_refl _) HC2.out HC1.out (by have := HML.out; omega)
                        have HR6 := hide hr6
                        have HR10 := hide hr10
                        have HB4 := hide hb4
                        have HT4 := hide ht4
                        have HO4 := hide ho4
                        clear hr6 hr10 hb4 ht4 ho4
                        refine hK.out _ _ trivial (fun _ => ?_)
                        clear hK K
                        try simp only [Act.put, List.setIfInBounds_toArray, List.set_cons_zero, List.set_cons_succ]
                        refine wpAnyH_ready (rs := [6]) (by kernel_rfl) (by simp) ?_
                        refine AllReadyH.cons (o := { dst := some 169, op := Go.Op.call { callee := Go.Callee.builtin Go.Builtin.append, args := #[Go.Operand.tmp 165, Go.Operand.tmp 168], argTypes := #[22, 22] }, type := 22, pos := "outright.go:190", after := #[{ on := 2, ground := Go.Ground.data }, { on := 5, ground := Go.Ground.data }, { on := 1, ground := Go.Ground.chain }], guard := none }) rfl (fun K hK => ?_) AllReadyH.nil
                        refine step_append_runI rfl (.tmp 165) (.tmp 168) 22 22 rfl (.slice (some ⟨wr.heap.size, 0, none⟩) 0 0) (.slice (if xc = T then some ⟨g, 0, none⟩ else some ⟨g, T, none⟩) (c - T) (xc - T)) (by simp [Act.eval]) (by simp [Act.eval]) HR6.out ?_
                        refine hK.out _ _ trivial (fun _ => ?_)
                        clear hK K
                        try simp only [Act.put, List.setIfInBounds_toArray, List.set_cons_zero, List.set_cons_succ]
                        refine wpAnyH_ready (rs := [10]) (by kernel_rfl) (by simp) ?_
                        refine AllReadyH.cons (o := { dst := some 173, op := Go.Op.call { callee := Go.Callee.builtin Go.Builtin.append, args := #[Go.Operand.tmp 169, Go.Operand.tmp 172], argTypes := #[22, 22] }, type := 22, pos := "outright.go:190", after := #[{ on := 6, ground := Go.Ground.data }, { on := 9, ground := Go.Ground.data }, { on := 6, ground := Go.Ground.chain }], guard := none }) rfl (fun K hK => ?_) AllReadyH.nil
                        refine step_append_runI rfl (.tmp 169) (.tmp 172) 22 22 rfl v1 (.slice (some ⟨g, 0, none⟩) T xc) (by simp [Act.eval]) (by simp [Act.eval]) HR10.out ?_
                        refine hK.out _ _ trivial (fun _ => ?_)
                        clear hK K
                        try simp only [Act.put, List.setIfInBounds_toArray, List.set_cons_zero, List.set_cons_succ]
                        refine wpAnyH_ready (rs := [11]) (by kernel_rfl) (by simp) ?_
                        refine AllReadyH.cons (o := { dst := some 174, op := Go.Op.call { callee := Go.Callee.value (Go.Operand.func 33), args := #[Go.Operand.tmp 164, Go.Operand.tmp 173], argTypes := #[22, 22] }, type := 4, pos := "outright.go:190", after := #[{ on := 1, ground := Go.Ground.data }, { on := 10, ground := Go.Ground.data }, { on := 10, ground := Go.Ground.chain }], guard := none }) rfl (fun K hK => ?_) AllReadyH.nil
                        go_simp
                        have ks := sameInts_any HT4.out HO4.out (by rw [rot_len]; have := HML.out; omega) (by rw [List.length_append, List.length_drop, List.length_take]; have := HML.out; omega)
                        rw [decide_eq_true (show rot T M = M.drop T ++ M.take T from rfl)] at ks
                        (with_reducible refine Calls.mono ks ?_)
                        clear ks
                        rintro e V5 ⟨rfl, hb⟩
                        have HB5 := hide (below_call HB4.out hb)
                        clear hb
                        refine hK.out _ _ trivial (fun _ => ?_)
                        clear hK K
                        try simp only [Act.put, List.setIfInBounds_toArray, List.set_cons_zero, List.set_cons_succ]
                        refine wpAnyH_take (i := 12) (oi := { dst := some 175, op := Go.Op.move (Go.Operand.tmp 174), type := 4, pos := "outright.go:190", after := #[{ on := 11, ground := Go.Ground.data }, { on := 11, ground := Go.Ground.chain }], guard := none }) (v := ?_) rfl (by kernel_rfl) (by kernel_rfl) (by kernel_rfl) (fun _ _ _ h => h) (Or.inl ⟨by rfl, ?hy45x3⟩) trivial ?_
                        case hy45x3 =>
                          intro u hu
                          obtain u0 := hu
                          go_simp
                          try with_reducible rfl
                        simp only [Act.put, List.setIfInBounds_toArray, List.set_cons_zero, List.set_cons_succ]
                        refine wpAnyH_ready (rs := [13]) (by kernel_rfl) (by simp) ?_
                        refine AllReadyH.cons (o := { dst := some 176, op := Go.Op.call { callee := Go.Callee.value (Go.Operand.func 20), args := #[], argTypes := #[] }, type := 4, pos := "outright.go:190", after := #[{ on := 12, ground := Go.Ground.chain }, { on := 12, ground := Go.Ground.guard }], guard := some (12, true) }) rfl (fun K hK => ?_) AllReadyH.nil
                        go_simp
                        have kw := awake_any V5
                        (with_reducible refine Calls.mono kw ?_)
                        clear kw
                        rintro e V6 ⟨rfl, hb⟩
                        have HB6 := hide (below_call HB5.out hb)
                        clear hb
                        refine hK.out _ _ trivial (fun _ => ?_)
                        clear hK K
                        try simp only [Act.put, List.setIfInBounds_toArray, List.set_cons_zero, List.set_cons_succ]
                        refine wpAnyH_take (i := 14) (oi := { dst := some 177, op := Go.Op.pick (Go.Operand.tmp 175) (Go.Operand.tmp 176) (Go.Operand.const (Go.Value.bool false)), type := 4, pos := "outright.go:190", after := #[{ on := 12, ground := Go.Ground.data }, { on := 13, ground := Go.Ground.data }], guard := none }) (v := ?_) rfl (by kernel_rfl) (by kernel_rfl) (by kernel_rfl) (fun _ _ _ h => h) (Or.inl ⟨by rfl, ?hy47x3⟩) trivial ?_
                        case hy47x3 =>
                          intro u hu
                          obtain u0 := hu
                          go_simp
                          try with_reducible rfl
                        simp only [Act.put, List.setIfInBounds_toArray, List.set_cons_zero, List.set_cons_succ]
                        refine wpAnyH_ready (rs := [15]) (by kernel_rfl) (by simp) ?_
                        refine AllReadyH.cons (o := { dst := some 6, op := Go.Op.assign (Go.Operand.tmp 177), type := 4, pos := "outright.go:190", after := #[{ on := 14, ground := Go.Ground.data }, { on := 13, ground := Go.Ground.chain }, { on := 0, ground := Go.Ground.phase }, { on := 1, ground := Go.Ground.phase }, { on := 2, ground := Go.Ground.phase }, { on := 3, ground := Go.Ground.phase }, { on := 4, ground := Go.Ground.phase }, { on := 5, ground := Go.Ground.phase }, { on := 6, ground := Go.Ground.phase }, { on := 7, ground := Go.Ground.phase }, { on := 8, ground := Go.Ground.phase }, { on := 9, ground := Go.Ground.phase }, { on := 10, ground := Go.Ground.phase }, { on := 11, ground := Go.Ground.phase }, { on := 12, ground := Go.Ground.phase }, { on := 13, ground := Go.Ground.phase }, { on := 14, ground := Go.Ground.phase }], guard := none }) rfl (fun K hK => ?_) AllReadyH.nil
                        go_simp
                        refine hK.out _ _ trivial (fun _ => ?_)
                        clear hK K
                        try simp only [Act.put, List.setIfInBounds_toArray, List.set_cons_zero, List.set_cons_succ]
                        refine wpAnyH_done (by kernel_rfl) ?_ _
                        go_wp2_with fail
                        all_goals go_ret
                        all_goals exact ⟨rfl, HFB.out.trans (HB6.out.mono HFB.out.size)⟩
end Go.Proofs.Ytdbbdecmfnajiaa
