/-
  One of my texts, LTells. Own work.
-/
import Derived.Test.YtpiiehenmkinaaaDoorV6
import Derived.Test.YtpiiehenmkinaaaDoorU9
/-
  ProgramTells: the readings tell one thing. Own work.
-/
namespace Go.Proofs.YtpiiehenmkinaaaDoor
open Go.RowKit

/-- what the law's boxes hold -/
def All (w : World) (pb xb qb zb : Nat) (name : ByteArray) (regs : Int) (cv : Value) (pol : Int) (op : Nat) (a b c y : Int) (s : ByteArray) (qn : ByteArray) (qr : Int) (q1 q2 : Value) : Prop :=
  (pb < w.heap.size ∧ xb < w.heap.size ∧ qb < w.heap.size ∧ zb < w.heap.size) ∧ w.cell? ⟨pb, 0, none⟩ = some (.string name) ∧ w.cell? ⟨pb, 1, none⟩ = some (.int .i64 regs) ∧ w.cell? ⟨pb, 2, none⟩ = some (cv) ∧ w.cell? ⟨xb, 0, none⟩ = some (.int .i64 pol) ∧ w.cell? ⟨xb, 1, none⟩ = some (.int .u8 (op : Int)) ∧ w.cell? ⟨xb, 2, none⟩ = some (.int .i64 a) ∧ w.cell? ⟨xb, 3, none⟩ = some (.int .i64 b) ∧ w.cell? ⟨xb, 4, none⟩ = some (.int .i64 c) ∧ w.cell? ⟨xb, 5, none⟩ = some (.int .i64 y) ∧ w.cell? ⟨xb, 6, none⟩ = some (.string s) ∧ w.cell? ⟨qb, 0, none⟩ = some (.string qn) ∧ w.cell? ⟨qb, 1, none⟩ = some (.int .i64 qr) ∧ w.cell? ⟨qb, 2, none⟩ = some (q1) ∧ w.cell? ⟨zb, 0, none⟩ = some (.string qn) ∧ w.cell? ⟨zb, 1, none⟩ = some (.int .i64 qr) ∧ w.cell? ⟨zb, 2, none⟩ = some (q2)
theorem All.below {w w' : World} {pb xb qb zb : Nat} {name : ByteArray} {regs : Int} {cv : Value} {pol : Int} {op : Nat} {a b c y : Int} {s : ByteArray} {qn : ByteArray} {qr : Int} {q1 q2 : Value} (h : All w pb xb qb zb name regs cv pol op a b c y s qn qr q1 q2) (hb : Below w.heap.size w w') : All w' pb xb qb zb name regs cv pol op a b c y s qn qr q1 q2 := by
  obtain ⟨⟨l0, l1, l2, l3⟩, h0, h1, h2, h3, h4, h5, h6, h7, h8, h9, h10, h11, h12, h13, h14, h15⟩ := h
  exact ⟨⟨Nat.lt_of_lt_of_le l0 hb.size, Nat.lt_of_lt_of_le l1 hb.size, Nat.lt_of_lt_of_le l2 hb.size, Nat.lt_of_lt_of_le l3 hb.size⟩, (hb.cell (p := ⟨pb, 0, none⟩) l0).trans h0, (hb.cell (p := ⟨pb, 1, none⟩) l0).trans h1, (hb.cell (p := ⟨pb, 2, none⟩) l0).trans h2, (hb.cell (p := ⟨xb, 0, none⟩) l1).trans h3, (hb.cell (p := ⟨xb, 1, none⟩) l1).trans h4, (hb.cell (p := ⟨xb, 2, none⟩) l1).trans h5, (hb.cell (p := ⟨xb, 3, none⟩) l1).trans h6, (hb.cell (p := ⟨xb, 4, none⟩) l1).trans h7, (hb.cell (p := ⟨xb, 5, none⟩) l1).trans h8, (hb.cell (p := ⟨xb, 6, none⟩) l1).trans h9, (hb.cell (p := ⟨qb, 0, none⟩) l2).trans h10, (hb.cell (p := ⟨qb, 1, none⟩) l2).trans h11, (hb.cell (p := ⟨qb, 2, none⟩) l2).trans h12, (hb.cell (p := ⟨zb, 0, none⟩) l3).trans h13, (hb.cell (p := ⟨zb, 1, none⟩) l3).trans h14, (hb.cell (p := ⟨zb, 2, none⟩) l3).trans h15⟩
/-- seven cells -/
def C7 (w : World) (g : Nat) (c0 c1 c2 c3 c4 c5 c6 : Value) : Prop := g < w.heap.size ∧ w.cell? ⟨g, 0, none⟩ = some c0 ∧ w.cell? ⟨g, 1, none⟩ = some c1 ∧ w.cell? ⟨g, 2, none⟩ = some c2 ∧ w.cell? ⟨g, 3, none⟩ = some c3 ∧ w.cell? ⟨g, 4, none⟩ = some c4 ∧ w.cell? ⟨g, 5, none⟩ = some c5 ∧ w.cell? ⟨g, 6, none⟩ = some c6
theorem C7.new (w : World) (c0 c1 c2 c3 c4 c5 c6 : Value) (t : TypeId) : C7 (w.alloc (.cells #[c0, c1, c2, c3, c4, c5, c6] t)) w.heap.size c0 c1 c2 c3 c4 c5 c6 := by
  have h := heap_alloc_new w (.cells #[c0, c1, c2, c3, c4, c5, c6] t)
  have hc := fun o => cell_of_row _ w.heap.size o _ t (0, 0) h
  exact ⟨by simp, hc 0, hc 1, hc 2, hc 3, hc 4, hc 5, hc 6⟩
theorem C7.below {w w' : World} {g : Nat} {c0 c1 c2 c3 c4 c5 c6 : Value} (h : C7 w g c0 c1 c2 c3 c4 c5 c6) (hb : Below w.heap.size w w') : C7 w' g c0 c1 c2 c3 c4 c5 c6 := by
  obtain ⟨l, h0, h1, h2, h3, h4, h5, h6⟩ := h
  exact ⟨Nat.lt_of_lt_of_le l hb.size, (hb.cell (p := ⟨g, 0, none⟩) l).trans h0, (hb.cell (p := ⟨g, 1, none⟩) l).trans h1, (hb.cell (p := ⟨g, 2, none⟩) l).trans h2, (hb.cell (p := ⟨g, 3, none⟩) l).trans h3, (hb.cell (p := ⟨g, 4, none⟩) l).trans h4, (hb.cell (p := ⟨g, 5, none⟩) l).trans h5, (hb.cell (p := ⟨g, 6, none⟩) l).trans h6⟩
set_option maxRecDepth 100000 in
set_option maxHeartbeats 6400000 in
theorem tells_walk (W : World) (hl : Laid W) (p : Prg) (cv : Value) (hc : RdC W cv p.code) (hw : ∀ i ∈ p.code, i.wf) (hreg : IR p.regs) (hnz : p.name.size ≤ maxLen) (bv : Value) (lb : List UInt8) (hbd : Rd W bv lb) (pol : Int) (i : Ins) (_ : IR pol) (hi : i.wf) :
    Calls Tryd.prog 3 #[prgV p cv, bv, .agg #[.int .i64 pol, .int .u8 (i.op : Int), .int .i64 i.a, .int .i64 i.b, .int .i64 i.c, .int .i64 i.n, .string i.s]] W fun e w' => e = .returned (.bool true) ∧ Below W.heap.size W w' := by
  obtain ⟨name, regs, code⟩ := p
  obtain ⟨ao, cap, rfl, hlen⟩ := hc.shape
  obtain ⟨bo, bcap, rfl, -⟩ := id hbd
  have HIW := hide hi
  have hop := hi.op
  obtain ⟨op, a, b, c, y, s⟩ := i
  simp only at hc hw hlen hop ⊢
  show Calls Tryd.prog 3 #[.agg #[.string name, .int .i64 regs, .slice ao code.length cap], .slice bo lb.length bcap, .agg #[.int .i64 pol, .int .u8 (op : Int), .int .i64 a, .int .i64 b, .int .i64 c, .int .i64 y, .string s]] W _
  obtain ⟨n, HN⟩ := named code.length
  obtain ⟨m, HM⟩ := named lb.length
  rw [← HN.out] at hlen hc ⊢
  rw [← HM.out] at hbd ⊢
  have HC := hide hc
  have HWF := hide hw
  have HL := hide hl
  have HBD := hide hbd
  obtain ⟨pb, HPB⟩ := named W.heap.size
  obtain ⟨W1, HW1⟩ := named (W.alloc (.cells #[.string name, .int .i64 regs, .slice ao n cap] 24))
  have hb1 : Below W.heap.size W W1 := by rw [HW1.out]; exact (Below.refl _ _).alloc (Nat.le_refl _) _
  have hz1 : W1.heap.size = W.heap.size + 1 := by rw [HW1.out]; simp
  have hp1 : C3 W1 pb (.string name) (.int .i64 regs) (.slice ao n cap) := by rw [HW1.out, HPB.out]; exact C3.new _ _ _ _ _
  obtain ⟨xb, HXB⟩ := named (W.heap.size + 1)
  obtain ⟨W2, HW2⟩ := named (W1.alloc (.cells #[.int .i64 pol, .int .u8 (op : Int), .int .i64 a, .int .i64 b, .int .i64 c, .int .i64 y, .string s] 30))
  have hb2 : Below W1.heap.size W1 W2 := by rw [HW2.out]; exact (Below.refl _ _).alloc (Nat.le_refl _) _
  have HX2 := hide (show C7 W2 xb (.int .i64 pol) (.int .u8 (op : Int)) (.int .i64 a) (.int .i64 b) (.int .i64 c) (.int .i64 y) (.string s) by rw [HW2.out, HXB.out, ← hz1]; exact C7.new _ _ _ _ _ _ _ _ _)
  have HP2 := hide (hp1.below hb2)
  have HB2 := hide (below_call hb1 hb2)
  clear hc hw hl hbd hb1 hb2 hp1 hz1 hi
  go_enter Tryd.func3, Tryd.ntmps3
  go_wp2_with fail
  rw [← HW1.out, ← HW2.out]
  try rw [← HXB.out]
  try rw [← HPB.out]
  refine (great_any ⟨name, regs, code⟩ (.slice ao n cap) W2 (HC.out.below HB2.out)).mono ?_
  rintro e w3 ⟨v2, rfl, hg, hb3⟩
  have HB3 := hide (below_call HB2.out hb3)
  have HP3 := hide (HP2.out.below hb3)
  have HX3 := hide (HX2.out.below hb3)
  clear hb3
  obtain ⟨g, rfl, hgf⟩ := hg
  obtain ⟨-, p0, p1, p2, -⟩ := id HP3.out
  obtain ⟨-, x0, x1, x2, x3, x4, x5, x6⟩ := id HX3.out
  cases g with
  | true =>
    go_wp2_with fail
    refine (awake_true w3 (HL.out.below HB3.out)).mono ?_
    rintro e w9 ⟨rfl, hb9⟩
    go_wp2
    go_ret
    exact ⟨rfl, below_call HB3.out hb9⟩
  | false =>
    clear hgf
    by_cases hm : m ≤ 20000
    · have hmI : ¬ (20000 : Int) < (m : Int) := by omega
      by_cases hs : s.size ≤ 3000
      · have hsI : ¬ (3000 : Int) < (s.size : Int) := by omega
        go_wp2_with fail
        refine (bytes_any ⟨name, regs, code⟩ (.slice ao n cap) w3 (HL.out.below HB3.out).kinds (HC.out.below HB3.out) HWF.out).mono ?_
        rintro e w4 ⟨v4, rfl, ho4, hb4⟩
        obtain ⟨E, HE⟩ := named (errP ⟨name, regs, code⟩ 20)
        obtain ⟨R, HRR⟩ := named (bytesR ⟨name, regs, code⟩)
        rw [← HE.out]
        rw [← HRR.out] at ho4
        obtain ⟨o4, cp4, hv4, -⟩ := id ho4.rd
        obtain ⟨rz, HRZ⟩ := named R.length
        rw [← HRZ.out] at hv4
        subst hv4
        have HO4 := hide ho4
        have HB4 := hide (below_call HB3.out hb4)
        have HP4 := hide (HP3.out.below hb4)
        have HX4 := hide (HX3.out.below hb4)
        clear p0 p1 p2 x0 x1 x2 x3 x4 x5 x6 hb4 ho4
        obtain ⟨-, p0, p1, p2, -⟩ := id HP4.out
        go_wp2_with fail
        refine (refBytes_any ⟨name, regs, code⟩ (.slice ao n cap) w4 (HC.out.below HB4.out) HWF.out).mono ?_
        rintro e w5 ⟨v5, rfl, ho5, hb5⟩
        rw [← HE.out]
        rw [← HRR.out] at ho5
        obtain ⟨o5, cp5, hv5, -⟩ := id ho5.rd
        rw [← HRZ.out] at hv5
        subst hv5
        have HO4b := hide (HO4.out.rd.below hb5)
        have HO5 := hide ho5.rd
        have HB5 := hide (below_call HB4.out hb5)
        have HP5 := hide (HP4.out.below hb5)
        have HX5 := hide (HX4.out.below hb5)
        clear p0 p1 p2 hb5 ho5
        have kr := read_any (.slice bo m bcap) lb w5 (HL.out.below HB5.out).kinds (HBD.out.below HB5.out) (by rw [← HM.out]; omega)
        have kq := fun w h => refRead_any (.slice bo m bcap) lb w h (by rw [← HM.out]; omega)
        obtain ⟨Q, HQ⟩ := named (readR lb)
        rw [← HQ.out] at kr kq
        obtain ⟨⟨qn, qr, qc⟩, qe⟩ := Q
        have KQ := hide kq
        clear kq
        go_wp2_with fail
        refine kr.mono ?_
        rintro e w6 ⟨cq, rfl, hcq, hb6⟩
        clear kr
        try simp only at hcq
        obtain ⟨qo, qcap, hqv, -⟩ := hcq.shape
        subst hqv
        obtain ⟨qm, HQM⟩ := named qc.length
        rw [← HQM.out] at hcq ⊢
        try simp only
        rw [show prgV ⟨qn, qr, qc⟩ (.slice qo qm qcap) = .agg #[.string qn, .int .i64 qr, .slice qo qm qcap] from rfl]
        obtain ⟨W7, HW7⟩ := named (w6.alloc (.cells #[.string qn, .int .i64 qr, .slice qo qm qcap] 24))
        have hb7 : Below w6.heap.size w6 W7 := by rw [HW7.out]; exact (Below.refl _ _).alloc (Nat.le_refl _) _
        obtain ⟨qb, HQB⟩ := named w6.heap.size
        have HQ7 := hide (show C3 W7 qb (.string qn) (.int .i64 qr) (.slice qo qm qcap) by rw [HW7.out, HQB.out]; exact C3.new _ _ _ _ _)
        have HCQ7 := hide (hcq.below hb7)
        have HB7 := hide (below_call HB5.out (below_call hb6 hb7))
        have HP7 := hide ((HP5.out.below hb6).below hb7)
        have HX7 := hide ((HX5.out.below hb6).below hb7)
        have HO47 := hide ((HO4b.out.below hb6).below hb7)
        have HO57 := hide ((HO5.out.below hb6).below hb7)
        clear hcq hb6 hb7
        go_wp2_with fail
        rw [← HW7.out]
        try rw [← HQB.out]
        refine (KQ.out W7 (HBD.out.below HB7.out)).mono ?_
        rintro e w8 ⟨cz, rfl, hcz, hb8⟩
        try simp only at hcz
        obtain ⟨zo, zcap, hzv, -⟩ := hcz.shape
        subst hzv
        rw [← HQM.out] at hcz ⊢
        try simp only
        rw [show prgV ⟨qn, qr, qc⟩ (.slice zo qm zcap) = .agg #[.string qn, .int .i64 qr, .slice zo qm zcap] from rfl]
        obtain ⟨W9, HW9⟩ := named (w8.alloc (.cells #[.string qn, .int .i64 qr, .slice zo qm zcap] 24))
        have hb9 : Below w8.heap.size w8 W9 := by rw [HW9.out]; exact (Below.refl _ _).alloc (Nat.le_refl _) _
        obtain ⟨zb, HZB⟩ := named w8.heap.size
        have hz9 : C3 W9 zb (.string qn) (.int .i64 qr) (.slice zo qm zcap) := by rw [HW9.out, HZB.out]; exact C3.new _ _ _ _ _
        have HCZ9 := hide (hcz.below hb9)
        have HCQ9 := hide ((HCQ7.out.below hb8).below hb9)
        have HB9 := hide (below_call HB7.out (below_call hb8 hb9))
        have hp9 := (HP7.out.below hb8).below hb9
        have hx9 := (HX7.out.below hb8).below hb9
        have hq9 := (HQ7.out.below hb8).below hb9
        have HO49 := hide ((HO47.out.below hb8).below hb9)
        have HO59 := hide ((HO57.out.below hb8).below hb9)
        have HA9 := hide (show All W9 pb xb qb zb name regs (.slice ao n cap) pol op a b c y s qn qr (.slice qo qm qcap) (.slice zo qm zcap) from
          ⟨⟨hp9.1, hx9.1, hq9.1, hz9.1⟩, hp9.2.1, hp9.2.2.1, hp9.2.2.2.1, hx9.2.1, hx9.2.2.1, hx9.2.2.2.1, hx9.2.2.2.2.1, hx9.2.2.2.2.2.1, hx9.2.2.2.2.2.2.1, hx9.2.2.2.2.2.2.2, hq9.2.1, hq9.2.2.1, hq9.2.2.2.1, hz9.2.1, hz9.2.2.1, hz9.2.2.2.1⟩)
        have hs0 : All W9.drew pb xb qb zb name regs (.slice ao n cap) pol op a b c y s qn qr (.slice qo qm qcap) (.slice zo qm zcap) := HA9.out.below (Below.refl _ _).drew
        have HB9d := hide (below_call HB9.out (Below.refl _ _).drew)
        clear hcz hb8 hb9 hp9 hx9 hq9 hz9
        go_wp2_with fail
        rw [← HW9.out]
        try rw [← HZB.out]
        refine wp_region_held_drew (S := (fun w' => All w' pb xb qb zb name regs (.slice ao n cap) pol op a b c y s qn qr (.slice qo qm qcap) (.slice zo qm zcap))) (by kernel_rfl) hs0 (fun _ => ?_)
        refine wpAnyH_take (i := 0) (oi := { dst := some 50, op := Go.Op.load 24 (Go.Operand.tmp 3), type := 24, pos := "law.go:48", after := #[], guard := none }) (v := ?_) rfl (by kernel_rfl) (by kernel_rfl) (by kernel_rfl) (fun _ _ _ h => h) (Or.inl ⟨by rfl, ?hy1⟩) hs0 ?_
        case hy1 =>
          intro u hu
          obtain ⟨u0, u1, u2, u3, u4, u5, u6, u7, u8, u9, u10, u11, u12, u13, u14, u15, u16⟩ := hu
          go_simp
          try with_reducible rfl
        simp only [Act.put, List.setIfInBounds_toArray, List.set_cons_zero, List.set_cons_succ]
        refine wpAnyH_take (i := 1) (oi := { dst := some 51, op := Go.Op.fieldAddr 30 (Go.Operand.tmp 5) 0, type := 0, pos := "law.go:48", after := #[], guard := none }) (v := ?_) rfl (by kernel_rfl) (by kernel_rfl) (by kernel_rfl) (fun _ _ _ h => h) (Or.inl ⟨by rfl, ?hy2⟩) hs0 ?_
        case hy2 =>
          intro u hu
          obtain ⟨u0, u1, u2, u3, u4, u5, u6, u7, u8, u9, u10, u11, u12, u13, u14, u15, u16⟩ := hu
          go_simp
          try with_reducible rfl
        simp only [Act.put, List.setIfInBounds_toArray, List.set_cons_zero, List.set_cons_succ]
        refine wpAnyH_take (i := 2) (oi := { dst := some 52, op := Go.Op.load 3 (Go.Operand.tmp 51), type := 3, pos := "law.go:48", after := #[{ on := 1, ground := Go.Ground.data }], guard := none }) (v := ?_) rfl (by kernel_rfl) (by kernel_rfl) (by kernel_rfl) (fun _ _ _ h => h) (Or.inl ⟨by rfl, ?hy3⟩) hs0 ?_
        case hy3 =>
          intro u hu
          obtain ⟨u0, u1, u2, u3, u4, u5, u6, u7, u8, u9, u10, u11, u12, u13, u14, u15, u16⟩ := hu
          go_simp
          try with_reducible rfl
        simp only [Act.put, List.setIfInBounds_toArray, List.set_cons_zero, List.set_cons_succ]
        refine wpAnyH_take (i := 4) (oi := { dst := some 54, op := Go.Op.load 24 (Go.Operand.tmp 3), type := 24, pos := "law.go:48", after := #[], guard := none }) (v := ?_) rfl (by kernel_rfl) (by kernel_rfl) (by kernel_rfl) (fun _ _ _ h => h) (Or.inl ⟨by rfl, ?hy4⟩) hs0 ?_
        case hy4 =>
          intro u hu
          obtain ⟨u0, u1, u2, u3, u4, u5, u6, u7, u8, u9, u10, u11, u12, u13, u14, u15, u16⟩ := hu
          go_simp
          try with_reducible rfl
        simp only [Act.put, List.setIfInBounds_toArray, List.set_cons_zero, List.set_cons_succ]
        refine wpAnyH_take (i := 5) (oi := { dst := some 55, op := Go.Op.fieldAddr 30 (Go.Operand.tmp 5) 0, type := 0, pos := "law.go:48", after := #[], guard := none }) (v := ?_) rfl (by kernel_rfl) (by kernel_rfl) (by kernel_rfl) (fun _ _ _ h => h) (Or.inl ⟨by rfl, ?hy5⟩) hs0 ?_
        case hy5 =>
          intro u hu
          obtain ⟨u0, u1, u2, u3, u4, u5, u6, u7, u8, u9, u10, u11, u12, u13, u14, u15, u16⟩ := hu
          go_simp
          try with_reducible rfl
        simp only [Act.put, List.setIfInBounds_toArray, List.set_cons_zero, List.set_cons_succ]
        refine wpAnyH_take (i := 6) (oi := { dst := some 56, op := Go.Op.load 3 (Go.Operand.tmp 55), type := 3, pos := "law.go:48", after := #[{ on := 5, ground := Go.Ground.data }], guard := none }) (v := ?_) rfl (by kernel_rfl) (by kernel_rfl) (by kernel_rfl) (fun _ _ _ h => h) (Or.inl ⟨by rfl, ?hy6⟩) hs0 ?_
        case hy6 =>
          intro u hu
          obtain ⟨u0, u1, u2, u3, u4, u5, u6, u7, u8, u9, u10, u11, u12, u13, u14, u15, u16⟩ := hu
          go_simp
          try with_reducible rfl
        simp only [Act.put, List.setIfInBounds_toArray, List.set_cons_zero, List.set_cons_succ]
        refine wpAnyH_ready (rs := [3]) (by kernel_rfl) (by simp) ?_
        refine AllReadyH.cons (o := { dst := some 53, op := Go.Op.call { callee := Go.Callee.value (Go.Operand.func 14), args := #[Go.Operand.tmp 50, Go.Operand.tmp 52], argTypes := #[24, 3] }, type := 33, pos := "law.go:48", after := #[{ on := 0, ground := Go.Ground.data }, { on := 2, ground := Go.Ground.data }], guard := none }) rfl (fun K hK => ?_) AllReadyH.nil
        go_simp
        refine (check_any ⟨name, regs, code⟩ (.slice ao n cap) pol W9.drew (HL.out.below HB9d.out).kinds (HC.out.below HB9d.out) HWF.out).mono ?_
        rintro e c1 ⟨rfl, hb⟩
        obtain ⟨E2, HE2⟩ := named (errP ⟨name, regs, code⟩ pol)
        rw [← HE2.out]
        have HD1 := hide (below_call HB9d.out hb)
        have HK1 := hide (show Below W9.heap.size W9 c1 from below_call (Below.refl _ _).drew hb)
        have hs1 := hs0.below hb
        clear hb
        refine hK.out _ _ hs1 (fun _ => ?_)
        clear hK K
        try simp only [Act.put, List.setIfInBounds_toArray, List.set_cons_zero, List.set_cons_succ]
        refine wpAnyH_ready (rs := [7]) (by kernel_rfl) (by simp) ?_
        refine AllReadyH.cons (o := { dst := some 57, op := Go.Op.call { callee := Go.Callee.value (Go.Operand.func 15), args := #[Go.Operand.tmp 54, Go.Operand.tmp 56], argTypes := #[24, 3] }, type := 33, pos := "law.go:48", after := #[{ on := 4, ground := Go.Ground.data }, { on := 6, ground := Go.Ground.data }, { on := 3, ground := Go.Ground.chain }], guard := none }) rfl (fun K hK => ?_) AllReadyH.nil
        go_simp
        refine (refCheck_any ⟨name, regs, code⟩ (.slice ao n cap) pol c1 (HC.out.below HD1.out)).mono ?_
        rintro e c2 ⟨rfl, hb⟩
        rw [← HE2.out]
        have HD2 := hide (below_call HD1.out hb)
        have HK2 := hide (show Below W9.heap.size W9 c2 from below_call HK1.out hb)
        have hs2 := hs1.below hb
        clear hb
        refine hK.out _ _ hs2 (fun _ => ?_)
        clear hK K
        try simp only [Act.put, List.setIfInBounds_toArray, List.set_cons_zero, List.set_cons_succ]
        refine wpAnyH_take (i := 8) (oi := { dst := some 58, op := Go.Op.binOp Go.BinOp.eql 33 (Go.Operand.tmp 53) (Go.Operand.tmp 57) 33, type := 4, pos := "law.go:48", after := #[{ on := 3, ground := Go.Ground.data }, { on := 7, ground := Go.Ground.data }], guard := none }) (v := ?_) rfl (by kernel_rfl) (by kernel_rfl) (by kernel_rfl) (fun _ _ _ h => h) (Or.inl ⟨by rfl, ?hy9⟩) hs2 ?_
        case hy9 =>
          intro u hu
          obtain ⟨u0, u1, u2, u3, u4, u5, u6, u7, u8, u9, u10, u11, u12, u13, u14, u15, u16⟩ := hu
          go_simp
          try with_reducible rfl
        simp only [Act.put, List.setIfInBounds_toArray, List.set_cons_zero, List.set_cons_succ]
        refine wpAnyH_take (i := 9) (oi := { dst := some 59, op := Go.Op.move (Go.Operand.tmp 58), type := 4, pos := "law.go:48", after := #[{ on := 8, ground := Go.Ground.data }, { on := 7, ground := Go.Ground.chain }], guard := none }) (v := ?_) rfl (by kernel_rfl) (by kernel_rfl) (by kernel_rfl) (fun _ _ _ h => h) (Or.inl ⟨by rfl, ?hy10⟩) hs2 ?_
        case hy10 =>
          intro u hu
          obtain ⟨u0, u1, u2, u3, u4, u5, u6, u7, u8, u9, u10, u11, u12, u13, u14, u15, u16⟩ := hu
          go_simp
          try with_reducible rfl
        simp only [Act.put, List.setIfInBounds_toArray, List.set_cons_zero, List.set_cons_succ]
        refine wpAnyH_take (i := 10) (oi := { dst := some 60, op := Go.Op.move (Go.Operand.tmp 7), type := 25, pos := "law.go:48", after := #[{ on := 9, ground := Go.Ground.guard }], guard := some (9, true) }) (v := ?_) rfl (by kernel_rfl) (by kernel_rfl) (by kernel_rfl) (fun _ _ _ h => h) (Or.inl ⟨by rfl, ?hy11⟩) hs2 ?_
        case hy11 =>
          intro u hu
          obtain ⟨u0, u1, u2, u3, u4, u5, u6, u7, u8, u9, u10, u11, u12, u13, u14, u15, u16⟩ := hu
          go_simp
          try with_reducible rfl
        simp only [Act.put, List.setIfInBounds_toArray, List.set_cons_zero, List.set_cons_succ]
        refine wpAnyH_take (i := 11) (oi := { dst := some 61, op := Go.Op.move (Go.Operand.tmp 9), type := 25, pos := "law.go:48", after := #[{ on := 9, ground := Go.Ground.guard }], guard := some (9, true) }) (v := ?_) rfl (by kernel_rfl) (by kernel_rfl) (by kernel_rfl) (fun _ _ _ h => h) (Or.inl ⟨by rfl, ?hy12⟩) hs2 ?_
        case hy12 =>
          intro u hu
          obtain ⟨u0, u1, u2, u3, u4, u5, u6, u7, u8, u9, u10, u11, u12, u13, u14, u15, u16⟩ := hu
          go_simp
          try with_reducible rfl
        simp only [Act.put, List.setIfInBounds_toArray, List.set_cons_zero, List.set_cons_succ]
        refine wpAnyH_ready (rs := [12]) (by kernel_rfl) (by simp) ?_
        refine AllReadyH.cons (o := { dst := some 62, op := Go.Op.call { callee := Go.Callee.value (Go.Operand.func 16), args := #[Go.Operand.tmp 60, Go.Operand.tmp 61], argTypes := #[25, 25] }, type := 4, pos := "law.go:48", after := #[{ on := 10, ground := Go.Ground.data }, { on := 11, ground := Go.Ground.data }, { on := 9, ground := Go.Ground.chain }, { on := 9, ground := Go.Ground.guard }], guard := some (9, true) }) rfl (fun K hK => ?_) AllReadyH.nil
        go_simp
        have ks := same_any (.slice o4 rz cp4) (.slice o5 rz cp5) R R c2 (HO49.out.below HK2.out) (HO59.out.below HK2.out)
        rw [decide_eq_true rfl] at ks
        refine ks.mono ?_
        rintro e c3 ⟨rfl, hcc⟩
        have hb : Below c2.heap.size c2 c3 := by first | (rw [hcc]; exact Below.refl _ _) | (rw [← hcc]; exact Below.refl _ _)
        clear hcc
        have HD3 := hide (below_call HD2.out hb)
        have HK3 := hide (show Below W9.heap.size W9 c3 from below_call HK2.out hb)
        have hs3 := hs2.below hb
        clear hb ks
        refine hK.out _ _ hs3 (fun _ => ?_)
        clear hK K
        try simp only [Act.put, List.setIfInBounds_toArray, List.set_cons_zero, List.set_cons_succ]
        refine wpAnyH_take (i := 13) (oi := { dst := some 63, op := Go.Op.pick (Go.Operand.tmp 59) (Go.Operand.tmp 62) (Go.Operand.const (Go.Value.bool false)), type := 4, pos := "law.go:48", after := #[{ on := 9, ground := Go.Ground.data }, { on := 12, ground := Go.Ground.data }], guard := none }) (v := ?_) rfl (by kernel_rfl) (by kernel_rfl) (by kernel_rfl) (fun _ _ _ h => h) (Or.inl ⟨by rfl, ?hy14⟩) hs3 ?_
        case hy14 =>
          intro u hu
          obtain ⟨u0, u1, u2, u3, u4, u5, u6, u7, u8, u9, u10, u11, u12, u13, u14, u15, u16⟩ := hu
          go_simp
          try with_reducible rfl
        simp only [Act.put, List.setIfInBounds_toArray, List.set_cons_zero, List.set_cons_succ]
        refine wpAnyH_take (i := 14) (oi := { dst := some 64, op := Go.Op.move (Go.Operand.tmp 63), type := 4, pos := "law.go:48", after := #[{ on := 13, ground := Go.Ground.data }, { on := 12, ground := Go.Ground.chain }], guard := none }) (v := ?_) rfl (by kernel_rfl) (by kernel_rfl) (by kernel_rfl) (fun _ _ _ h => h) (Or.inl ⟨by rfl, ?hy15⟩) hs3 ?_
        case hy15 =>
          intro u hu
          obtain ⟨u0, u1, u2, u3, u4, u5, u6, u7, u8, u9, u10, u11, u12, u13, u14, u15, u16⟩ := hu
          go_simp
          try with_reducible rfl
        simp only [Act.put, List.setIfInBounds_toArray, List.set_cons_zero, List.set_cons_succ]
        refine wpAnyH_take (i := 15) (oi := { dst := some 65, op := Go.Op.move (Go.Operand.tmp 8), type := 33, pos := "law.go:48", after := #[{ on := 14, ground := Go.Ground.guard }], guard := some (14, true) }) (v := ?_) rfl (by kernel_rfl) (by kernel_rfl) (by kernel_rfl) (fun _ _ _ h => h) (Or.inl ⟨by rfl, ?hy16⟩) hs3 ?_
        case hy16 =>
          intro u hu
          obtain ⟨u0, u1, u2, u3, u4, u5, u6, u7, u8, u9, u10, u11, u12, u13, u14, u15, u16⟩ := hu
          go_simp
          try with_reducible rfl
        simp only [Act.put, List.setIfInBounds_toArray, List.set_cons_zero, List.set_cons_succ]
        refine wpAnyH_take (i := 16) (oi := { dst := some 66, op := Go.Op.move (Go.Operand.tmp 10), type := 33, pos := "law.go:48", after := #[{ on := 14, ground := Go.Ground.guard }], guard := some (14, true) }) (v := ?_) rfl (by kernel_rfl) (by kernel_rfl) (by kernel_rfl) (fun _ _ _ h => h) (Or.inl ⟨by rfl, ?hy17⟩) hs3 ?_
        case hy17 =>
          intro u hu
          obtain ⟨u0, u1, u2, u3, u4, u5, u6, u7, u8, u9, u10, u11, u12, u13, u14, u15, u16⟩ := hu
          go_simp
          try with_reducible rfl
        simp only [Act.put, List.setIfInBounds_toArray, List.set_cons_zero, List.set_cons_succ]
        refine wpAnyH_take (i := 17) (oi := { dst := some 67, op := Go.Op.binOp Go.BinOp.eql 33 (Go.Operand.tmp 65) (Go.Operand.tmp 66) 33, type := 4, pos := "law.go:48", after := #[{ on := 15, ground := Go.Ground.data }, { on := 16, ground := Go.Ground.data }, { on := 14, ground := Go.Ground.guard }], guard := some (14, true) }) (v := ?_) rfl (by kernel_rfl) (by kernel_rfl) (by kernel_rfl) (fun _ _ _ h => h) (Or.inl ⟨by rfl, ?hy18⟩) hs3 ?_
        case hy18 =>
          intro u hu
          obtain ⟨u0, u1, u2, u3, u4, u5, u6, u7, u8, u9, u10, u11, u12, u13, u14, u15, u16⟩ := hu
          go_simp
          try with_reducible rfl
        simp only [Act.put, List.setIfInBounds_toArray, List.set_cons_zero, List.set_cons_succ]
        refine wpAnyH_take (i := 18) (oi := { dst := some 68, op := Go.Op.pick (Go.Operand.tmp 64) (Go.Operand.tmp 67) (Go.Operand.const (Go.Value.bool false)), type := 4, pos := "law.go:48", after := #[{ on := 14, ground := Go.Ground.data }, { on := 17, ground := Go.Ground.data }], guard := none }) (v := ?_) rfl (by kernel_rfl) (by kernel_rfl) (by kernel_rfl) (fun _ _ _ h => h) (Or.inl ⟨by rfl, ?hy19⟩) hs3 ?_
        case hy19 =>
          intro u hu
          obtain ⟨u0, u1, u2, u3, u4, u5, u6, u7, u8, u9, u10, u11, u12, u13, u14, u15, u16⟩ := hu
          go_simp
          try with_reducible rfl
        simp only [Act.put, List.setIfInBounds_toArray, List.set_cons_zero, List.set_cons_succ]
        refine wpAnyH_take (i := 19) (oi := { dst := some 69, op := Go.Op.move (Go.Operand.tmp 68), type := 4, pos := "law.go:48", after := #[{ on := 18, ground := Go.Ground.data }, { on := 14, ground := Go.Ground.chain }], guard := none }) (v := ?_) rfl (by kernel_rfl) (by kernel_rfl) (by kernel_rfl) (fun _ _ _ h => h) (Or.inl ⟨by rfl, ?hy20⟩) hs3 ?_
        case hy20 =>
          intro u hu
          obtain ⟨u0, u1, u2, u3, u4, u5, u6, u7, u8, u9, u10, u11, u12, u13, u14, u15, u16⟩ := hu
          go_simp
          try with_reducible rfl
        simp only [Act.put, List.setIfInBounds_toArray, List.set_cons_zero, List.set_cons_succ]
        refine wpAnyH_take (i := 20) (oi := { dst := some 70, op := Go.Op.load 24 (Go.Operand.tmp 11), type := 24, pos := "law.go:48", after := #[{ on := 19, ground := Go.Ground.guard }], guard := some (19, true) }) (v := ?_) rfl (by kernel_rfl) (by kernel_rfl) (by kernel_rfl) (fun _ _ _ h => h) (Or.inl ⟨by rfl, ?hy21⟩) hs3 ?_
        case hy21 =>
          intro u hu
          obtain ⟨u0, u1, u2, u3, u4, u5, u6, u7, u8, u9, u10, u11, u12, u13, u14, u15, u16⟩ := hu
          go_simp
          try with_reducible rfl
        simp only [Act.put, List.setIfInBounds_toArray, List.set_cons_zero, List.set_cons_succ]
        refine wpAnyH_take (i := 21) (oi := { dst := some 71, op := Go.Op.load 24 (Go.Operand.tmp 13), type := 24, pos := "law.go:48", after := #[{ on := 19, ground := Go.Ground.guard }], guard := some (19, true) }) (v := ?_) rfl (by kernel_rfl) (by kernel_rfl) (by kernel_rfl) (fun _ _ _ h => h) (Or.inl ⟨by rfl, ?hy22⟩) hs3 ?_
        case hy22 =>
          intro u hu
          obtain ⟨u0, u1, u2, u3, u4, u5, u6, u7, u8, u9, u10, u11, u12, u13, u14, u15, u16⟩ := hu
          go_simp
          try with_reducible rfl
        simp only [Act.put, List.setIfInBounds_toArray, List.set_cons_zero, List.set_cons_succ]
        refine wpAnyH_ready (rs := [22]) (by kernel_rfl) (by simp) ?_
        refine AllReadyH.cons (o := { dst := some 72, op := Go.Op.call { callee := Go.Callee.value (Go.Operand.func 17), args := #[Go.Operand.tmp 70, Go.Operand.tmp 71], argTypes := #[24, 24] }, type := 4, pos := "law.go:48", after := #[{ on := 20, ground := Go.Ground.data }, { on := 21, ground := Go.Ground.data }, { on := 19, ground := Go.Ground.chain }, { on := 19, ground := Go.Ground.guard }], guard := some (19, true) }) rfl (fun K hK => ?_) AllReadyH.nil
        go_simp
        have ks := sameP_any ⟨qn, qr, qc⟩ ⟨qn, qr, qc⟩ (.slice qo qm qcap) (.slice zo qm zcap) c3 (HCQ9.out.below HK3.out) (HCZ9.out.below HK3.out)
        rw [show sameP ⟨qn, qr, qc⟩ ⟨qn, qr, qc⟩ = true from (sameP_eq _ _).2 rfl] at ks
        refine ks.mono ?_
        rintro e c4 ⟨rfl, hb⟩
        have HD4 := hide (below_call HD3.out hb)
        have HK4 := hide (show Below W9.heap.size W9 c4 from below_call HK3.out hb)
        have hs4 := hs3.below hb
        clear hb ks
        refine hK.out _ _ hs4 (fun _ => ?_)
        clear hK K
        try simp only [Act.put, List.setIfInBounds_toArray, List.set_cons_zero, List.set_cons_succ]
        refine wpAnyH_take (i := 23) (oi := { dst := some 73, op := Go.Op.pick (Go.Operand.tmp 69) (Go.Operand.tmp 72) (Go.Operand.const (Go.Value.bool false)), type := 4, pos := "law.go:48", after := #[{ on := 19, ground := Go.Ground.data }, { on := 22, ground := Go.Ground.data }], guard := none }) (v := ?_) rfl (by kernel_rfl) (by kernel_rfl) (by kernel_rfl) (fun _ _ _ h => h) (Or.inl ⟨by rfl, ?hy24⟩) hs4 ?_
        case hy24 =>
          intro u hu
          obtain ⟨u0, u1, u2, u3, u4, u5, u6, u7, u8, u9, u10, u11, u12, u13, u14, u15, u16⟩ := hu
          go_simp
          try with_reducible rfl
        simp only [Act.put, List.setIfInBounds_toArray, List.set_cons_zero, List.set_cons_succ]
        refine wpAnyH_take (i := 24) (oi := { dst := some 74, op := Go.Op.move (Go.Operand.tmp 73), type := 4, pos := "law.go:48", after := #[{ on := 23, ground := Go.Ground.data }, { on := 22, ground := Go.Ground.chain }], guard := none }) (v := ?_) rfl (by kernel_rfl) (by kernel_rfl) (by kernel_rfl) (fun _ _ _ h => h) (Or.inl ⟨by rfl, ?hy25⟩) hs4 ?_
        case hy25 =>
          intro u hu
          obtain ⟨u0, u1, u2, u3, u4, u5, u6, u7, u8, u9, u10, u11, u12, u13, u14, u15, u16⟩ := hu
          go_simp
          try with_reducible rfl
        simp only [Act.put, List.setIfInBounds_toArray, List.set_cons_zero, List.set_cons_succ]
        refine wpAnyH_take (i := 25) (oi := { dst := some 75, op := Go.Op.move (Go.Operand.tmp 12), type := 33, pos := "law.go:48", after := #[{ on := 24, ground := Go.Ground.guard }], guard := some (24, true) }) (v := ?_) rfl (by kernel_rfl) (by kernel_rfl) (by kernel_rfl) (fun _ _ _ h => h) (Or.inl ⟨by rfl, ?hy26⟩) hs4 ?_
        case hy26 =>
          intro u hu
          obtain ⟨u0, u1, u2, u3, u4, u5, u6, u7, u8, u9, u10, u11, u12, u13, u14, u15, u16⟩ := hu
          go_simp
          try with_reducible rfl
        simp only [Act.put, List.setIfInBounds_toArray, List.set_cons_zero, List.set_cons_succ]
        refine wpAnyH_take (i := 26) (oi := { dst := some 76, op := Go.Op.move (Go.Operand.tmp 14), type := 33, pos := "law.go:48", after := #[{ on := 24, ground := Go.Ground.guard }], guard := some (24, true) }) (v := ?_) rfl (by kernel_rfl) (by kernel_rfl) (by kernel_rfl) (fun _ _ _ h => h) (Or.inl ⟨by rfl, ?hy27⟩) hs4 ?_
        case hy27 =>
          intro u hu
          obtain ⟨u0, u1, u2, u3, u4, u5, u6, u7, u8, u9, u10, u11, u12, u13, u14, u15, u16⟩ := hu
          go_simp
          try with_reducible rfl
        simp only [Act.put, List.setIfInBounds_toArray, List.set_cons_zero, List.set_cons_succ]
        refine wpAnyH_take (i := 27) (oi := { dst := some 77, op := Go.Op.binOp Go.BinOp.eql 33 (Go.Operand.tmp 75) (Go.Operand.tmp 76) 33, type := 4, pos := "law.go:48", after := #[{ on := 25, ground := Go.Ground.data }, { on := 26, ground := Go.Ground.data }, { on := 24, ground := Go.Ground.guard }], guard := some (24, true) }) (v := ?_) rfl (by kernel_rfl) (by kernel_rfl) (by kernel_rfl) (fun _ _ _ h => h) (Or.inl ⟨by rfl, ?hy28⟩) hs4 ?_
        case hy28 =>
          intro u hu
          obtain ⟨u0, u1, u2, u3, u4, u5, u6, u7, u8, u9, u10, u11, u12, u13, u14, u15, u16⟩ := hu
          go_simp
          try with_reducible rfl
        simp only [Act.put, List.setIfInBounds_toArray, List.set_cons_zero, List.set_cons_succ]
        refine wpAnyH_take (i := 28) (oi := { dst := some 78, op := Go.Op.pick (Go.Operand.tmp 74) (Go.Operand.tmp 77) (Go.Operand.const (Go.Value.bool false)), type := 4, pos := "law.go:48", after := #[{ on := 24, ground := Go.Ground.data }, { on := 27, ground := Go.Ground.data }], guard := none }) (v := ?_) rfl (by kernel_rfl) (by kernel_rfl) (by kernel_rfl) (fun _ _ _ h => h) (Or.inl ⟨by rfl, ?hy29⟩) hs4 ?_
        case hy29 =>
          intro u hu
          obtain ⟨u0, u1, u2, u3, u4, u5, u6, u7, u8, u9, u10, u11, u12, u13, u14, u15, u16⟩ := hu
          go_simp
          try with_reducible rfl
        simp only [Act.put, List.setIfInBounds_toArray, List.set_cons_zero, List.set_cons_succ]
        refine wpAnyH_take (i := 29) (oi := { dst := some 79, op := Go.Op.move (Go.Operand.tmp 78), type := 4, pos := "law.go:48", after := #[{ on := 28, ground := Go.Ground.data }, { on := 24, ground := Go.Ground.chain }], guard := none }) (v := ?_) rfl (by kernel_rfl) (by kernel_rfl) (by kernel_rfl) (fun _ _ _ h => h) (Or.inl ⟨by rfl, ?hy30⟩) hs4 ?_
        case hy30 =>
          intro u hu
          obtain ⟨u0, u1, u2, u3, u4, u5, u6, u7, u8, u9, u10, u11, u12, u13, u14, u15, u16⟩ := hu
          go_simp
          try with_reducible rfl
        simp only [Act.put, List.setIfInBounds_toArray, List.set_cons_zero, List.set_cons_succ]
        refine wpAnyH_take (i := 30) (oi := { dst := some 80, op := Go.Op.fieldAddr 30 (Go.Operand.tmp 5) 1, type := 0, pos := "law.go:48", after := #[{ on := 29, ground := Go.Ground.guard }], guard := some (29, true) }) (v := ?_) rfl (by kernel_rfl) (by kernel_rfl) (by kernel_rfl) (fun _ _ _ h => h) (Or.inl ⟨by rfl, ?hy31⟩) hs4 ?_
        case hy31 =>
          intro u hu
          obtain ⟨u0, u1, u2, u3, u4, u5, u6, u7, u8, u9, u10, u11, u12, u13, u14, u15, u16⟩ := hu
          go_simp
          try with_reducible rfl
        simp only [Act.put, List.setIfInBounds_toArray, List.set_cons_zero, List.set_cons_succ]
        refine wpAnyH_take (i := 31) (oi := { dst := some 81, op := Go.Op.load 28 (Go.Operand.tmp 80), type := 28, pos := "law.go:48", after := #[{ on := 30, ground := Go.Ground.data }, { on := 29, ground := Go.Ground.guard }], guard := some (29, true) }) (v := ?_) rfl (by kernel_rfl) (by kernel_rfl) (by kernel_rfl) (fun _ _ _ h => h) (Or.inl ⟨by rfl, ?hy32⟩) hs4 ?_
        case hy32 =>
          intro u hu
          obtain ⟨u0, u1, u2, u3, u4, u5, u6, u7, u8, u9, u10, u11, u12, u13, u14, u15, u16⟩ := hu
          go_simp
          try with_reducible rfl
        simp only [Act.put, List.setIfInBounds_toArray, List.set_cons_zero, List.set_cons_succ]
        refine wpAnyH_take (i := 33) (oi := { dst := some 83, op := Go.Op.fieldAddr 30 (Go.Operand.tmp 5) 1, type := 0, pos := "law.go:48", after := #[{ on := 29, ground := Go.Ground.guard }], guard := some (29, true) }) (v := ?_) rfl (by kernel_rfl) (by kernel_rfl) (by kernel_rfl) (fun _ _ _ h => h) (Or.inl ⟨by rfl, ?hy33⟩) hs4 ?_
        case hy33 =>
          intro u hu
          obtain ⟨u0, u1, u2, u3, u4, u5, u6, u7, u8, u9, u10, u11, u12, u13, u14, u15, u16⟩ := hu
          go_simp
          try with_reducible rfl
        simp only [Act.put, List.setIfInBounds_toArray, List.set_cons_zero, List.set_cons_succ]
        refine wpAnyH_take (i := 34) (oi := { dst := some 84, op := Go.Op.load 28 (Go.Operand.tmp 83), type := 28, pos := "law.go:48", after := #[{ on := 33, ground := Go.Ground.data }, { on := 29, ground := Go.Ground.guard }], guard := some (29, true) }) (v := ?_) rfl (by kernel_rfl) (by kernel_rfl) (by kernel_rfl) (fun _ _ _ h => h) (Or.inl ⟨by rfl, ?hy34⟩) hs4 ?_
        case hy34 =>
          intro u hu
          obtain ⟨u0, u1, u2, u3, u4, u5, u6, u7, u8, u9, u10, u11, u12, u13, u14, u15, u16⟩ := hu
          go_simp
          try with_reducible rfl
        simp only [Act.put, List.setIfInBounds_toArray, List.set_cons_zero, List.set_cons_succ]
        refine wpAnyH_ready (rs := [32]) (by kernel_rfl) (by simp) ?_
        refine AllReadyH.cons (o := { dst := some 82, op := Go.Op.call { callee := Go.Callee.value (Go.Operand.func 18), args := #[Go.Operand.tmp 81], argTypes := #[28] }, type := 9, pos := "law.go:48", after := #[{ on := 31, ground := Go.Ground.data }, { on := 29, ground := Go.Ground.chain }, { on := 29, ground := Go.Ground.guard }], guard := some (29, true) }) rfl (fun K hK => ?_) AllReadyH.nil
        go_simp
        refine (show_any ⟨op, a, b, c, y, s⟩ HIW.out c4 (HL.out.below HD4.out) hs).mono ?_
        rintro e c5 ⟨rfl, hb⟩
        obtain ⟨SH, HSH⟩ := named (showB ⟨op, a, b, c, y, s⟩)
        rw [← HSH.out]
        have HD5 := hide (below_call HD4.out hb)
        have HK5 := hide (show Below W9.heap.size W9 c5 from below_call HK4.out hb)
        have hs5 := hs4.below hb
        clear hb
        refine hK.out _ _ hs5 (fun _ => ?_)
        clear hK K
        try simp only [Act.put, List.setIfInBounds_toArray, List.set_cons_zero, List.set_cons_succ]
        refine wpAnyH_ready (rs := [35]) (by kernel_rfl) (by simp) ?_
        refine AllReadyH.cons (o := { dst := some 85, op := Go.Op.call { callee := Go.Callee.value (Go.Operand.func 19), args := #[Go.Operand.tmp 84], argTypes := #[28] }, type := 9, pos := "law.go:48", after := #[{ on := 34, ground := Go.Ground.data }, { on := 32, ground := Go.Ground.chain }, { on := 29, ground := Go.Ground.guard }], guard := some (29, true) }) rfl (fun K hK => ?_) AllReadyH.nil
        go_simp
        refine (refShow_any ⟨op, a, b, c, y, s⟩ HIW.out c5 hs).mono ?_
        rintro e c6 ⟨rfl, hb⟩
        rw [← HSH.out]
        have HD6 := hide (below_call HD5.out hb)
        have HK6 := hide (show Below W9.heap.size W9 c6 from below_call HK5.out hb)
        have hs6 := hs5.below hb
        clear hb
        refine hK.out _ _ hs6 (fun _ => ?_)
        clear hK K
        try simp only [Act.put, List.setIfInBounds_toArray, List.set_cons_zero, List.set_cons_succ]
        refine wpAnyH_take (i := 36) (oi := { dst := some 86, op := Go.Op.binOp Go.BinOp.eql 9 (Go.Operand.tmp 82) (Go.Operand.tmp 85) 9, type := 4, pos := "law.go:48", after := #[{ on := 32, ground := Go.Ground.data }, { on := 35, ground := Go.Ground.data }, { on := 29, ground := Go.Ground.guard }], guard := some (29, true) }) (v := ?_) rfl (by kernel_rfl) (by kernel_rfl) (by kernel_rfl) (fun _ _ _ h => h) (Or.inl ⟨by rfl, ?hy37⟩) hs6 ?_
        case hy37 =>
          intro u hu
          obtain ⟨u0, u1, u2, u3, u4, u5, u6, u7, u8, u9, u10, u11, u12, u13, u14, u15, u16⟩ := hu
          go_simp
          try with_reducible rfl
        simp only [Act.put, List.setIfInBounds_toArray, List.set_cons_zero, List.set_cons_succ]
        refine wpAnyH_take (i := 37) (oi := { dst := some 87, op := Go.Op.pick (Go.Operand.tmp 79) (Go.Operand.tmp 86) (Go.Operand.const (Go.Value.bool false)), type := 4, pos := "law.go:48", after := #[{ on := 29, ground := Go.Ground.data }, { on := 36, ground := Go.Ground.data }], guard := none }) (v := ?_) rfl (by kernel_rfl) (by kernel_rfl) (by kernel_rfl) (fun _ _ _ h => h) (Or.inl ⟨by rfl, ?hy38⟩) hs6 ?_
        case hy38 =>
          intro u hu
          obtain ⟨u0, u1, u2, u3, u4, u5, u6, u7, u8, u9, u10, u11, u12, u13, u14, u15, u16⟩ := hu
          go_simp
          try with_reducible rfl
        simp only [Act.put, List.setIfInBounds_toArray, List.set_cons_zero, List.set_cons_succ]
        refine wpAnyH_take (i := 38) (oi := { dst := some 88, op := Go.Op.move (Go.Operand.tmp 87), type := 4, pos := "law.go:48", after := #[{ on := 37, ground := Go.Ground.data }, { on := 35, ground := Go.Ground.chain }], guard := none }) (v := ?_) rfl (by kernel_rfl) (by kernel_rfl) (by kernel_rfl) (fun _ _ _ h => h) (Or.inl ⟨by rfl, ?hy39⟩) hs6 ?_
        case hy39 =>
          intro u hu
          obtain ⟨u0, u1, u2, u3, u4, u5, u6, u7, u8, u9, u10, u11, u12, u13, u14, u15, u16⟩ := hu
          go_simp
          try with_reducible rfl
        simp only [Act.put, List.setIfInBounds_toArray, List.set_cons_zero, List.set_cons_succ]
        refine wpAnyH_take (i := 39) (oi := { dst := some 89, op := Go.Op.fieldAddr 30 (Go.Operand.tmp 5) 1, type := 0, pos := "law.go:48", after := #[{ on := 38, ground := Go.Ground.guard }], guard := some (38, true) }) (v := ?_) rfl (by kernel_rfl) (by kernel_rfl) (by kernel_rfl) (fun _ _ _ h => h) (Or.inl ⟨by rfl, ?hy40⟩) hs6 ?_
        case hy40 =>
          intro u hu
          obtain ⟨u0, u1, u2, u3, u4, u5, u6, u7, u8, u9, u10, u11, u12, u13, u14, u15, u16⟩ := hu
          go_simp
          try with_reducible rfl
        simp only [Act.put, List.setIfInBounds_toArray, List.set_cons_zero, List.set_cons_succ]
        refine wpAnyH_take (i := 40) (oi := { dst := some 90, op := Go.Op.fieldAddr 28 (Go.Operand.tmp 89) 0, type := 0, pos := "law.go:48", after := #[{ on := 39, ground := Go.Ground.data }, { on := 38, ground := Go.Ground.guard }], guard := some (38, true) }) (v := ?_) rfl (by kernel_rfl) (by kernel_rfl) (by kernel_rfl) (fun _ _ _ h => h) (Or.inl ⟨by rfl, ?hy41⟩) hs6 ?_
        case hy41 =>
          intro u hu
          obtain ⟨u0, u1, u2, u3, u4, u5, u6, u7, u8, u9, u10, u11, u12, u13, u14, u15, u16⟩ := hu
          go_simp
          try with_reducible rfl
        simp only [Act.put, List.setIfInBounds_toArray, List.set_cons_zero, List.set_cons_succ]
        refine wpAnyH_take (i := 41) (oi := { dst := some 91, op := Go.Op.load 26 (Go.Operand.tmp 90), type := 26, pos := "law.go:48", after := #[{ on := 40, ground := Go.Ground.data }, { on := 38, ground := Go.Ground.guard }], guard := some (38, true) }) (v := ?_) rfl (by kernel_rfl) (by kernel_rfl) (by kernel_rfl) (fun _ _ _ h => h) (Or.inl ⟨by rfl, ?hy42⟩) hs6 ?_
        case hy42 =>
          intro u hu
          obtain ⟨u0, u1, u2, u3, u4, u5, u6, u7, u8, u9, u10, u11, u12, u13, u14, u15, u16⟩ := hu
          go_simp
          try with_reducible rfl
        simp only [Act.put, List.setIfInBounds_toArray, List.set_cons_zero, List.set_cons_succ]
        refine wpAnyH_take (i := 43) (oi := { dst := some 93, op := Go.Op.fieldAddr 30 (Go.Operand.tmp 5) 1, type := 0, pos := "law.go:48", after := #[{ on := 38, ground := Go.Ground.guard }], guard := some (38, true) }) (v := ?_) rfl (by kernel_rfl) (by kernel_rfl) (by kernel_rfl) (fun _ _ _ h => h) (Or.inl ⟨by rfl, ?hy43⟩) hs6 ?_
        case hy43 =>
          intro u hu
          obtain ⟨u0, u1, u2, u3, u4, u5, u6, u7, u8, u9, u10, u11, u12, u13, u14, u15, u16⟩ := hu
          go_simp
          try with_reducible rfl
        simp only [Act.put, List.setIfInBounds_toArray, List.set_cons_zero, List.set_cons_succ]
        refine wpAnyH_take (i := 44) (oi := { dst := some 94, op := Go.Op.fieldAddr 28 (Go.Operand.tmp 93) 0, type := 0, pos := "law.go:48", after := #[{ on := 43, ground := Go.Ground.data }, { on := 38, ground := Go.Ground.guard }], guard := some (38, true) }) (v := ?_) rfl (by kernel_rfl) (by kernel_rfl) (by kernel_rfl) (fun _ _ _ h => h) (Or.inl ⟨by rfl, ?hy44⟩) hs6 ?_
        case hy44 =>
          intro u hu
          obtain ⟨u0, u1, u2, u3, u4, u5, u6, u7, u8, u9, u10, u11, u12, u13, u14, u15, u16⟩ := hu
          go_simp
          try with_reducible rfl
        simp only [Act.put, List.setIfInBounds_toArray, List.set_cons_zero, List.set_cons_succ]
        refine wpAnyH_take (i := 45) (oi := { dst := some 95, op := Go.Op.load 26 (Go.Operand.tmp 94), type := 26, pos := "law.go:48", after := #[{ on := 44, ground := Go.Ground.data }, { on := 38, ground := Go.Ground.guard }], guard := some (38, true) }) (v := ?_) rfl (by kernel_rfl) (by kernel_rfl) (by kernel_rfl) (fun _ _ _ h => h) (Or.inl ⟨by rfl, ?hy45⟩) hs6 ?_
        case hy45 =>
          intro u hu
          obtain ⟨u0, u1, u2, u3, u4, u5, u6, u7, u8, u9, u10, u11, u12, u13, u14, u15, u16⟩ := hu
          go_simp
          try with_reducible rfl
        simp only [Act.put, List.setIfInBounds_toArray, List.set_cons_zero, List.set_cons_succ]
        refine wpAnyH_ready (rs := [42]) (by kernel_rfl) (by simp) ?_
        refine AllReadyH.cons (o := { dst := some 92, op := Go.Op.call { callee := Go.Callee.value (Go.Operand.func 20), args := #[Go.Operand.tmp 91], argTypes := #[26] }, type := 9, pos := "law.go:48", after := #[{ on := 41, ground := Go.Ground.data }, { on := 38, ground := Go.Ground.chain }, { on := 38, ground := Go.Ground.guard }], guard := some (38, true) }) rfl (fun K hK => ?_) AllReadyH.nil
        go_simp
        refine (word_any op hop c6 (HL.out.below HD6.out).kinds).mono ?_
        rintro e c7 ⟨rfl, hb⟩
        obtain ⟨SW, HSW⟩ := named (wordS op)
        rw [← HSW.out]
        have HD7 := hide (below_call HD6.out hb)
        have HK7 := hide (show Below W9.heap.size W9 c7 from below_call HK6.out hb)
        have hs7 := hs6.below hb
        clear hb
        refine hK.out _ _ hs7 (fun _ => ?_)
        clear hK K
        try simp only [Act.put, List.setIfInBounds_toArray, List.set_cons_zero, List.set_cons_succ]
        refine wpAnyH_ready (rs := [46]) (by kernel_rfl) (by simp) ?_
        refine AllReadyH.cons (o := { dst := some 96, op := Go.Op.call { callee := Go.Callee.value (Go.Operand.func 21), args := #[Go.Operand.tmp 95], argTypes := #[26] }, type := 9, pos := "law.go:48", after := #[{ on := 45, ground := Go.Ground.data }, { on := 42, ground := Go.Ground.chain }, { on := 38, ground := Go.Ground.guard }], guard := some (38, true) }) rfl (fun K hK => ?_) AllReadyH.nil
        go_simp
        refine (refWord_any op hop c7).mono ?_
        rintro e c8 ⟨rfl, hb⟩
        rw [← HSW.out]
        have HD8 := hide (below_call HD7.out hb)
        have HK8 := hide (show Below W9.heap.size W9 c8 from below_call HK7.out hb)
        have hs8 := hs7.below hb
        clear hb
        refine hK.out _ _ hs8 (fun _ => ?_)
        clear hK K
        try simp only [Act.put, List.setIfInBounds_toArray, List.set_cons_zero, List.set_cons_succ]
        refine wpAnyH_take (i := 47) (oi := { dst := some 97, op := Go.Op.binOp Go.BinOp.eql 9 (Go.Operand.tmp 92) (Go.Operand.tmp 96) 9, type := 4, pos := "law.go:48", after := #[{ on := 42, ground := Go.Ground.data }, { on := 46, ground := Go.Ground.data }, { on := 38, ground := Go.Ground.guard }], guard := some (38, true) }) (v := ?_) rfl (by kernel_rfl) (by kernel_rfl) (by kernel_rfl) (fun _ _ _ h => h) (Or.inl ⟨by rfl, ?hy48⟩) hs8 ?_
        case hy48 =>
          intro u hu
          obtain ⟨u0, u1, u2, u3, u4, u5, u6, u7, u8, u9, u10, u11, u12, u13, u14, u15, u16⟩ := hu
          go_simp
          try with_reducible rfl
        simp only [Act.put, List.setIfInBounds_toArray, List.set_cons_zero, List.set_cons_succ]
        refine wpAnyH_take (i := 48) (oi := { dst := some 98, op := Go.Op.pick (Go.Operand.tmp 88) (Go.Operand.tmp 97) (Go.Operand.const (Go.Value.bool false)), type := 4, pos := "law.go:48", after := #[{ on := 38, ground := Go.Ground.data }, { on := 47, ground := Go.Ground.data }], guard := none }) (v := ?_) rfl (by kernel_rfl) (by kernel_rfl) (by kernel_rfl) (fun _ _ _ h => h) (Or.inl ⟨by rfl, ?hy49⟩) hs8 ?_
        case hy49 =>
          intro u hu
          obtain ⟨u0, u1, u2, u3, u4, u5, u6, u7, u8, u9, u10, u11, u12, u13, u14, u15, u16⟩ := hu
          go_simp
          try with_reducible rfl
        simp only [Act.put, List.setIfInBounds_toArray, List.set_cons_zero, List.set_cons_succ]
        refine wpAnyH_take (i := 49) (oi := { dst := some 99, op := Go.Op.move (Go.Operand.tmp 98), type := 4, pos := "law.go:48", after := #[{ on := 48, ground := Go.Ground.data }, { on := 46, ground := Go.Ground.chain }], guard := none }) (v := ?_) rfl (by kernel_rfl) (by kernel_rfl) (by kernel_rfl) (fun _ _ _ h => h) (Or.inl ⟨by rfl, ?hy50⟩) hs8 ?_
        case hy50 =>
          intro u hu
          obtain ⟨u0, u1, u2, u3, u4, u5, u6, u7, u8, u9, u10, u11, u12, u13, u14, u15, u16⟩ := hu
          go_simp
          try with_reducible rfl
        simp only [Act.put, List.setIfInBounds_toArray, List.set_cons_zero, List.set_cons_succ]
        refine wpAnyH_ready (rs := [50]) (by kernel_rfl) (by simp) ?_
        refine AllReadyH.cons (o := { dst := some 100, op := Go.Op.call { callee := Go.Callee.value (Go.Operand.func 9), args := #[], argTypes := #[] }, type := 4, pos := "law.go:48", after := #[{ on := 49, ground := Go.Ground.chain }, { on := 49, ground := Go.Ground.guard }], guard := some (49, true) }) rfl (fun K hK => ?_) AllReadyH.nil
        go_simp
        refine (awake_true c8 (HL.out.below HD8.out)).mono ?_
        rintro e c9 ⟨rfl, hb⟩
        have HD9 := hide (below_call HD8.out hb)
        have HK9 := hide (show Below W9.heap.size W9 c9 from below_call HK8.out hb)
        have hs9 := hs8.below hb
        clear hb
        refine hK.out _ _ hs9 (fun _ => ?_)
        clear hK K
        try simp only [Act.put, List.setIfInBounds_toArray, List.set_cons_zero, List.set_cons_succ]
        refine wpAnyH_take (i := 51) (oi := { dst := some 101, op := Go.Op.pick (Go.Operand.tmp 99) (Go.Operand.tmp 100) (Go.Operand.const (Go.Value.bool false)), type := 4, pos := "law.go:48", after := #[{ on := 49, ground := Go.Ground.data }, { on := 50, ground := Go.Ground.data }], guard := none }) (v := ?_) rfl (by kernel_rfl) (by kernel_rfl) (by kernel_rfl) (fun _ _ _ h => h) (Or.inl ⟨by rfl, ?hy52⟩) hs9 ?_
        case hy52 =>
          intro u hu
          obtain ⟨u0, u1, u2, u3, u4, u5, u6, u7, u8, u9, u10, u11, u12, u13, u14, u15, u16⟩ := hu
          go_simp
          try with_reducible rfl
        simp only [Act.put, List.setIfInBounds_toArray, List.set_cons_zero, List.set_cons_succ]
        refine wpAnyH_ready (rs := [52]) (by kernel_rfl) (by simp) ?_
        refine AllReadyH.cons (o := { dst := some 6, op := Go.Op.assign (Go.Operand.tmp 101), type := 4, pos := "law.go:48", after := #[{ on := 51, ground := Go.Ground.data }, { on := 50, ground := Go.Ground.chain }, { on := 0, ground := Go.Ground.phase }, { on := 1, ground := Go.Ground.phase }, { on := 2, ground := Go.Ground.phase }, { on := 3, ground := Go.Ground.phase }, { on := 4, ground := Go.Ground.phase }, { on := 5, ground := Go.Ground.phase }, { on := 6, ground := Go.Ground.phase }, { on := 7, ground := Go.Ground.phase }, { on := 8, ground := Go.Ground.phase }, { on := 9, ground := Go.Ground.phase }, { on := 10, ground := Go.Ground.phase }, { on := 11, ground := Go.Ground.phase }, { on := 12, ground := Go.Ground.phase }, { on := 13, ground := Go.Ground.phase }, { on := 14, ground := Go.Ground.phase }, { on := 15, ground := Go.Ground.phase }, { on := 16, ground := Go.Ground.phase }, { on := 17, ground := Go.Ground.phase }, { on := 18, ground := Go.Ground.phase }, { on := 19, ground := Go.Ground.phase }, { on := 20, ground := Go.Ground.phase }, { on := 21, ground := Go.Ground.phase }, { on := 22, ground := Go.Ground.phase }, { on := 23, ground := Go.Ground.phase }, { on := 24, ground := Go.Ground.phase }, { on := 25, ground := Go.Ground.phase }, { on := 26, ground := Go.Ground.phase }, { on := 27, ground := Go.Ground.phase }, { on := 28, ground := Go.Ground.phase }, { on := 29, ground := Go.Ground.phase }, { on := 30, ground := Go.Ground.phase }, { on := 31, ground := Go.Ground.phase }, { on := 32, ground := Go.Ground.phase }, { on := 33, ground := Go.Ground.phase }, { on := 34, ground := Go.Ground.phase }, { on := 35, ground := Go.Ground.phase }, { on := 36, ground := Go.Ground.phase }, { on := 37, ground := Go.Ground.phase }, { on := 38, ground := Go.Ground.phase }, { on := 39, ground := Go.Ground.phase }, { on := 40, ground := Go.Ground.phase }, { on := 41, ground := Go.Ground.phase }, { on := 42, ground := Go.Ground.phase }, { on := 43, ground := Go.Ground.phase }, { on := 44, ground := Go.Ground.phase }, { on := 45, ground := Go.Ground.phase }, { on := 46, ground := Go.Ground.phase }, { on := 47, ground := Go.Ground.phase }, { on := 48, ground := Go.Ground.phase }, { on := 49, ground := Go.Ground.phase }, { on := 50, ground := Go.Ground.phase }, { on := 51, ground := Go.Ground.phase }], guard := none }) rfl (fun K hK => ?_) AllReadyH.nil
        go_simp
        refine hK.out _ _ hs9 (fun _ => ?_)
        clear hK K
        try simp only [Act.put, List.setIfInBounds_toArray, List.set_cons_zero, List.set_cons_succ]
        refine wpAnyH_done (by kernel_rfl) ?_ _
        go_wp2
        go_ret
        exact ⟨rfl, HD9.out⟩
      · have hsI : (3000 : Int) < (s.size : Int) := by omega
        go_wp2_with fail
        refine (awake_true w3 (HL.out.below HB3.out)).mono ?_
        rintro e w9 ⟨rfl, hb9⟩
        go_wp2
        go_ret
        exact ⟨rfl, below_call HB3.out hb9⟩
    · have hmI : (20000 : Int) < (m : Int) := by omega
      go_wp2_with fail
      refine (awake_true w3 (HL.out.below HB3.out)).mono ?_
      rintro e w9 ⟨rfl, hb9⟩
      go_wp2
      go_ret
      exact ⟨rfl, below_call HB3.out hb9⟩
end Go.Proofs.YtpiiehenmkinaaaDoor
