/-
  The contract of Bytes. Own work.
-/
import Derived.Test.YtpiiehenmkinaaaDoorEc
import Derived.Test.YtpiiehenmkinaaaDoorDa
import Derived.Laws.MakeOwn
namespace Go.Proofs.YtpiiehenmkinaaaDoor
open Go.RowKit

theorem elem_ne {w : World} {a : Nat} {c d : Array Value} {e f : TypeId} (ha : w.heap[a]? = some (.cells c e (0, 0))) (hb : w.heap[a]? = some (.cells d f (0, 0))) (hne : e ≠ f) : False := by
  rw [ha] at hb
  cases hb
  exact hne rfl
theorem row_block {w : World} {base e k n : Nat} {v : Value} {xs : List Value} (h : w.ownsRow base e k v n xs) {a : Nat} (ha : v.ownBlock = some a) : ∃ cur, w.heap[a]? = some (.cells cur e (0, 0)) := by
  rcases h.2 with ⟨rfl, _⟩ | ⟨g, cap, cur, rfl, _, hg, _⟩
  · cases ha
  · cases ha; exact ⟨cur, hg⟩
theorem Own.beside {w w' : World} {base base' : Nat} {x v : Value} {l : List UInt8} {vs : List Value} (h : Own w base x l) (hv : OwnV w base' 25 v vs) (hg : w.grownBy w' v.ownBlock) : Own w' base x l := by
  refine World.ownsRow.kept h hg ?_
  cases hx : x.ownBlock with
  | none => exact .inl rfl
  | some k =>
    right
    intro e
    obtain ⟨c1, h1⟩ := row_block h hx
    obtain ⟨c2, h2⟩ := row_block hv e.symm
    exact elem_ne h1 h2 (by decide)
theorem Own.one {w : World} {base : Nat} {x : Value} {l : List UInt8} (h : Own w base x l) : x.oneCell' = true := by
  rcases h.2 with ⟨rfl, _⟩ | ⟨g, cap, cur, rfl, _⟩ <;> rfl
/-- rows of bytes of the call's own -/
def Rws (B : Nat) (w : World) (sv : Value) (ls : List (List UInt8)) : Prop :=
  ∃ ps : List (Value × List UInt8), ps.map Prod.snd = ls ∧ OwnV w B 25 sv (ps.map Prod.fst) ∧ ∀ x ∈ ps, Own w B x.1 x.2
theorem Rws.below {B : Nat} {w w' : World} {sv : Value} {ls : List (List UInt8)} (h : Rws B w sv ls) (hb : Below w.heap.size w w') : Rws B w' sv ls := by
  obtain ⟨ps, h1, h2, h3⟩ := h
  exact ⟨ps, h1, h2.below hb, fun x hx => (h3 x hx).below hb⟩
theorem Rws.shape {B : Nat} {w : World} {sv : Value} {ls : List (List UInt8)} (h : Rws B w sv ls) : ∃ ao cap, sv = .slice ao ls.length cap := by
  obtain ⟨ps, h1, h2, h3⟩ := h
  have e : ls.length = (ps.map Prod.fst).length := by rw [← h1]; simp
  rw [e]
  rcases h2.2 with ⟨hv, e2⟩ | ⟨g, cap, cur, hv, _⟩
  · exact ⟨none, 0, by rw [hv, e2]⟩
  · exact ⟨_, _, hv⟩
theorem Rws.append {B : Nat} {w : World} {sv : Value} {ls : List (List UInt8)} (h : Rws B w sv ls) (x : Value) (l : List UInt8) (hx : Own w B x l) (hl : ls.length ≤ 1000) (hB : B ≤ w.heap.size) (ty : TypeId) :
    ∃ v' w', (Builtin.append_ #[53, 53] ty #[sv, .slice (some ⟨w.heap.size, 0, none⟩) 1 1]).run Tryd.prog (w.alloc (.cells #[x] 25)) = .ok v' w' ∧ Rws B w' v' (ls ++ [l]) ∧ Below B w w' := by
  obtain ⟨ps, h1, h2, h3⟩ := h
  obtain ⟨i0, hi, hz0, hz1, hz2⟩ := info_parts Tryd.info25
  have hlen : (ps.map Prod.fst).length ≤ 1000 := by
    have : ls.length = (ps.map Prod.fst).length := by rw [← h1]; simp
    omega
  obtain ⟨v', w', hr, ho, hg⟩ := run_append_v (P := Tryd.prog) (w.alloc (.cells #[x] 25)) 53 ty 25 i0 (.slice none 0 0) 24 Tryd.underlying53 hi hz0 hz1 hz2 rfl (by decide) B sv x ⟨w.heap.size, 0, none⟩ 1 (ps.map Prod.fst) hx.one (by simp) (h2.alloc _) (by omega) (by simp; omega)
  refine ⟨v', w', hr, ⟨ps ++ [(x, l)], by simp [h1], by simpa using ho, fun y hy => ?_⟩, ?_⟩
  · rcases List.mem_append.1 hy with hy | hy
    · exact ((h3 y hy).alloc _).beside (h2.alloc _) hg
    · rw [List.mem_singleton.1 hy]
      exact (hx.alloc _).beside (h2.alloc _) hg
  · exact ((Below.refl B w).alloc hB _).grown hg (by simp; omega) (fun k hk => (World.ownsRow.lt h2 k hk).1)
theorem Rws.concat {B : Nat} {w : World} {sv : Value} {ls : List (List UInt8)} (h : Rws B w sv ls) (hl : 0 < ls.length) (ht : ls.flatten.length ≤ 140737488355328) :
    Calls Tryd.prog 27 #[sv] w fun e w' => ∃ v, e = .returned v ∧ Own w' w.heap.size v ls.flatten ∧ Below w.heap.size w w' := by
  obtain ⟨ps, h1, h2, h3⟩ := h
  have hp : ls.length = ps.length := by rw [← h1]; simp
  have hj : joined ps ps.length = ls.flatten := by rw [joined, List.take_length, h1]
  rcases h2.2 with ⟨hv, e⟩ | ⟨g, cap, cur, hv, hb, hg, hn, hm, hs, htk⟩
  · simp at e
    rw [e] at hp
    simp at hp
    rw [hp] at hl
    simp at hl
  · have hcells := fun i (hi : i < ps.length) => h2.cells (g := g) (by rw [hv]; rfl) i ps[i].1 (by simp [hi])
    rw [List.length_map] at hv hn
    rw [hv, ← hj]
    have hm' : cap ≤ 9223372036854775807 := hm
    exact concat_wide ps g cap w hn hm' (fun i hi => by have := hcells i hi; rw [addr_add, Nat.zero_add] at this; exact this) (fun i hi => (h3 _ (List.getElem_mem hi)).rd) (Array.getElem?_eq_some_iff.1 hg).1 (by rw [hj]; exact ht)
theorem insL_len (i : Ins) (hs : i.s.size ≤ 40) : (insL i).length ≤ 100 := by
  unfold insL blobL
  simp only [List.length_append, nm_len]
  have h1 := U_len (i.op : Int)
  have h2 := U_len i.a
  have h3 := U_len i.b
  have h4 := U_len i.c
  have h5 := U_len (foldI i.n)
  have h6 := U_len (i.s.size : Int)
  omega
theorem codeL_len (l : List Ins) (h : ∀ i ∈ l, i.s.size ≤ 40) : (codeL l).length ≤ l.length * 100 := by
  induction l with
  | nil => simp [codeL]
  | cons i l ih =>
    have e : codeL (i :: l) = insL i ++ codeL l := by simp [codeL]
    rw [e, List.length_append, List.length_cons]
    have h1 := insL_len i (h i (by simp))
    have h2 := ih (fun j hj => h j (by simp [hj]))
    omega
theorem bytesP_len (p : Prg) (h : okP p 20 = true) : (bytesP p).length ≤ 60000 := by
  obtain ⟨hn, hr, hl, -, hi⟩ := okP_in h
  have h1 := codeL_len p.code (fun i hm => (insB_range (hi i hm) hr.2).2.2.2.1)
  unfold bytesP headL blobL
  simp only [List.length_append, nm_len]
  have h2 := U_len (p.name.size : Int)
  have h3 := U_len p.regs
  have h4 := U_len (p.code.length : Int)
  omega
def bytesR (p : Prg) : List UInt8 := if okP p 20 = true then bytesP p else []

set_option maxRecDepth 100000 in
set_option maxHeartbeats 1600000 in
theorem bytes_any (p : Prg) (cv : Value) (w : World) (hk : Kinds w) (hc : RdC w cv p.code) (hw : ∀ i ∈ p.code, i.wf) :
    Calls Tryd.prog 10 #[prgV p cv] w fun e w' => ∃ v, e = .returned (.tuple #[v, .int .i64 (errP p 20)]) ∧ Own w' w.heap.size v (bytesR p) ∧ Below w.heap.size w w' := by
  obtain ⟨name, regs, code⟩ := p
  obtain ⟨ao, cap, rfl, -⟩ := hc.shape
  simp only at hc hw
  show Calls Tryd.prog 10 #[.agg #[.string name, .int .i64 regs, .slice ao code.length cap]] w _
  have HC := hide hc
  have HK := hide hk
  have HWF := hide hw
  obtain ⟨n, HN⟩ := named code.length
  rw [← HN.out] at HC ⊢
  obtain ⟨W, HW⟩ := named (w.alloc (.cells #[.string name, .int .i64 regs, .slice ao n cap] 24))
  have hbW : Below w.heap.size w W := by rw [HW.out]; exact (Below.refl _ _).alloc (Nat.le_refl _) _
  obtain ⟨pb, HPB⟩ := named w.heap.size
  have HP := hide (show C3 W pb (.string name) (.int .i64 regs) (.slice ao n cap) by rw [HW.out, HPB.out]; exact C3.new _ _ _ _ _)
  have HBW := hide hbW
  obtain ⟨R, HR⟩ := named (bytesR ⟨name, regs, code⟩)
  rw [← HR.out]
  obtain ⟨E, HE⟩ := named (errP ⟨name, regs, code⟩ 20)
  rw [← HE.out]
  clear hbW hc hk hw
  go_enter Tryd.func10, Tryd.ntmps10
  go_wp2_with fail
  rw [← HW.out, ← HPB.out]
  refine (check_any ⟨name, regs, code⟩ (.slice ao n cap) 20 W (HK.out.below HBW.out) (HC.out.below HBW.out) HWF.out).mono ?_
  rintro e w1 ⟨rfl, hb1⟩
  have HB1 := hide (below_call HBW.out hb1)
  have HP1 := hide (HP.out.below hb1)
  clear hb1
  cases hok : okP ⟨name, regs, code⟩ 20 with
  | false =>
    rw [show errP ⟨name, regs, code⟩ 20 = 100 by unfold errP; rw [hok]; rfl]
    have hbr : R = [] := by rw [HR.out]; unfold bytesR; rw [hok]; rfl
    subst hbr
    go_wp2
    refine bodyPost_ret (v := .tuple #[.slice none 0 0, .int .i64 100]) (by simp [results, Tryd.results10, go_sem]) rfl ?_
    exact ⟨_, by rw [HE.out, errP, hok]; rfl, Own.nil _ _, HB1.out⟩
  | true =>
    rw [show errP ⟨name, regs, code⟩ 20 = 0 by unfold errP; rw [hok]; rfl]
    have HBR := hide (show R = bytesP ⟨name, regs, code⟩ by rw [HR.out]; unfold bytesR; rw [hok]; rfl)
    have HLEN := hide (bytesP_len _ hok)
    have hin := okP_in hok
    have HIN := hide hin
    have HOK := hide hok
    have hn5 : n ≤ 500 := by rw [HN.out]; exact hin.2.2.1
    obtain ⟨i0, hi, hz0, hz1, hz2⟩ := info_parts Tryd.info25
    obtain ⟨w2, hmk, hom, hgm⟩ := run_make_own (P := Tryd.prog) w1 w1.heap.size 53 25 i0 (.slice none 0 0) 1 Tryd.underlying53 hi hz0 hz1 .i64 .i64 (n + 1) (by rw [hz2]; omega) (by unfold maxLen; omega) (Nat.le_refl _)
    have hmk' : (Instr.makeSlice 53 (.int .i64 0) (.int .i64 (1 + (n : Int)))).run Tryd.prog w1 = .ok (.slice (some ⟨w1.heap.size, 0, none⟩) 0 (n + 1)) w2 := by
      rw [show (1 + (n : Int)) = ((n + 1 : Nat) : Int) by omega]
      exact hmk
    have hb2 : Below w1.heap.size w1 w2 := (Below.refl _ _).grown hgm (Nat.le_refl _) (fun k hk => by cases hk)
    have HQ2 := hide hb2
    have HR2 := hide (show Rws w1.heap.size w2 (.slice (some ⟨w1.heap.size, 0, none⟩) 0 (n + 1)) [] from ⟨[], rfl, hom, fun x hx => by cases hx⟩)
    obtain ⟨-, x0, x1, x2, -⟩ := id HP1.out
    obtain ⟨-, y0, y1, y2, -⟩ := id (HP1.out.below HQ2.out)
    clear hmk hom hgm hb2 hin
    go_wp2_with fail
    refine (headBytes_any ⟨name, regs, code⟩ (.slice ao n cap) w2 (HC.out.below (below_call HB1.out HQ2.out)) HIN.out.1.2 ⟨Int.le_trans (by decide) HIN.out.2.1.1, HIN.out.2.1.2⟩ HIN.out.2.2.1).mono ?_
    rintro e w3 ⟨v3, rfl, ho3, hb3⟩
    have HQ3 := hide (below_call HQ2.out hb3)
    obtain ⟨ao3, cp3, hv3, -⟩ := id ho3.rd
    obtain ⟨hL, HHL⟩ := named (headL ⟨name, regs, code⟩)
    rw [← HHL.out] at ho3 hv3
    subst hv3
    obtain ⟨v4, w4, hr4, hrw4, hb4⟩ := (HR2.out.below hb3).append _ hL (ho3.mono HQ2.out.size) (by simp) HQ3.out.size 53
    have HRW4 := hide hrw4
    have HQ4 := hide (HQ3.out.trans hb4)
    obtain ⟨a4, cp4, hv4⟩ := hrw4.shape
    clear x0 x1 x2 y0 y1 y2 hmk' hb3 ho3 hrw4 hb4
    obtain ⟨-, x0, x1, x2, -⟩ := id (HP1.out.below HQ4.out)
    subst hv4
    go_wp2_with (at_builtin; go_must (refine Lib.wpList_append_run _ rfl _ _ _ _ rfl _ _ rfl rfl _ _ hr4 ?_))
    clear hr4
    go_loopw [4, 23] (fun sv iv wr => ∃ k : Nat, k ≤ n ∧ iv = .int .i64 k ∧ Hid (Rws w1.heap.size wr sv (hL :: (code.take k).map insL)) ∧ Hid (Below w1.heap.size w1 wr)) (fun _ iv _ => n - (intOf iv).toNat)
    case atStart => exact ⟨0, by omega, rfl, HRW4.out, HQ4.out⟩
    case round =>
      obtain ⟨k, hkn, rfl, HRW, HQR⟩ := hrel
      obtain ⟨a5, cp5, hv5⟩ := HRW.out.shape
      have hcnt : (hL :: (code.take k).map insL).length = k + 1 := by
        rw [List.length_cons, List.length_map, List.length_take, ← HN.out]
        omega
      rw [hcnt] at hv5
      subst hv5
      by_cases hlt : k < n
      · have hk5 : k < code.length := by rw [← HN.out]; exact hlt
        obtain ⟨b0, off0, hbe, hblt, c0, c1, c2, c3, c4, c5⟩ := (HC.out.below (below_call HB1.out HQR.out)).at k hk5
        subst hbe
        have hwi := HWF.out _ (List.getElem_mem hk5)
        have hrg := insB_range (HIN.out.2.2.2.2 _ (List.getElem_mem hk5)) HIN.out.2.1.2
        have htk : (code.take (k + 1)).map insL = (code.take k).map insL ++ [insL (code[k]'hk5)] := by
          rw [List.take_succ_eq_append_getElem hk5, List.map_append]
          rfl
        obtain ⟨i, HI⟩ := named (code[k]'hk5)
        rw [← HI.out] at c0 c1 c2 c3 c4 c5 hwi hrg htk
        have HTK := hide htk
        have HRG := hide hrg
        have HWI := hide hwi
        clear htk hrg hwi
        obtain ⟨X, HX⟩ := named (wr.alloc (.cells #[.int .u8 (i.op : Int), .int .i64 i.a, .int .i64 i.b, .int .i64 i.c, .int .i64 i.n, .string i.s] 28))
        have HBX := hide (show Below wr.heap.size wr X by rw [HX.out]; exact (Below.refl _ _).alloc (Nat.le_refl _) _)
        go_wp2_with fail
        rw [← HX.out]
        refine (instrBytes_any i X HWI.out.op HRG.out.1 HRG.out.2.1 HRG.out.2.2.1 HWI.out.n HRG.out.2.2.2.1).mono ?_
        rintro e w6 ⟨v6, rfl, ho6, hb6⟩
        have hbr6 := below_call HBX.out hb6
        obtain ⟨ao6, cp6, hv6, -⟩ := id ho6.rd
        obtain ⟨iL, HIL⟩ := named (insL i)
        rw [← HIL.out] at ho6 hv6
        subst hv6
        have HQ6 := hide (below_call HQR.out hbr6)
        have hB0 : w1.heap.size ≤ X.heap.size := (below_call HQR.out HBX.out).size
        obtain ⟨v7, w7, hr7, hrw7, hb7⟩ := (HRW.out.below hbr6).append _ iL (ho6.mono hB0) (by rw [hcnt]; omega) HQ6.out.size 53
        have HRW7 := hide hrw7
        have HQ7 := hide (HQ6.out.trans hb7)
        clear hbr6 hb6 ho6 hrw7 hb7 hcnt
        go_wp2_with (at_builtin; go_must (refine Lib.wpList_append_run _ rfl _ _ _ _ rfl _ _ rfl rfl _ _ hr7 ?_))
        go_roundw
        case rel =>
          refine ⟨k + 1, by omega, by go_num, ?_, HQ7.out⟩
          show Rws _ _ _ _
          rw [HTK.out, ← HIL.out]
          exact HRW7.out
        case measure => simp [intOf]; omega
      · have hkn2 : n = k := by omega
        subst hkn2
        have hfull : code.take n = code := List.take_of_length_le (by rw [HN.out]; exact Nat.le_refl _)
        rw [hfull] at HRW
        have hfl : (hL :: code.map insL).flatten = R := by
          rw [HBR.out]
          rw [HHL.out]; simp [bytesP, codeL]
        have hcc := HRW.out.concat (by simp) (by rw [hfl, HBR.out]; have := HLEN.out; omega)
        rw [hfl] at hcc
        go_wp2_with fail
        refine hcc.mono ?_
        rintro e w8 ⟨v8, rfl, ho8, hb8⟩
        have hbf := below_call (below_call HB1.out HQR.out) hb8
        have hof := ho8.mono (below_call HB1.out HQR.out).size
        go_wp2
        refine bodyPost_ret (v := .tuple #[v8, .int .i64 0]) (by simp [results, Tryd.results10, go_sem]) rfl ?_
        exact ⟨_, by rw [HE.out, errP, HOK.out]; rfl, hof, hbf⟩
end Go.Proofs.YtpiiehenmkinaaaDoor
