/-
  The law BytesLog answers true, whatever the entries, the bytes ahead and the cut: a log that is cut off anywhere is read up to the entry that was cut. No condition.
-/
import Derived.Test.YtgeljaliddedfaaWk
import Derived.Test.YtgeljaliddedfaaKeep
import Derived.Test.YtgeljaliddedfaaLBehind
namespace Go.Proofs.Ytgeljaliddedfaa
open Go.RowKit

/-- an entry that came in -/
structure Ent where
  n : Nat
  i : Int
  v : Value
  b : List UInt8

def Ent.bytes (e : Ent) : List UInt8 := entryL e.n e.i e.b
def Ent.good (w : World) (e : Ent) : Prop := Rd w e.v e.b ∧ e.n ≤ 18446744073709551615 ∧ -9223372036854775808 ≤ e.i ∧ e.i ≤ 9223372036854775807

def Ents (w : World) (v : Value) (es : List Ent) : Prop :=
  ∃ ao cap, v = .slice ao es.length cap ∧ es.length ≤ cap ∧ cap ≤ maxLen ∧ ∀ k (h : k < es.length), ∃ b off, ao = some ⟨b, off, none⟩ ∧ b < w.heap.size ∧ w.cell? ⟨b, off + k * 3, none⟩ = some (.int .u64 es[k].n) ∧ w.cell? ⟨b, off + k * 3 + 1, none⟩ = some (.int .i64 es[k].i) ∧ w.cell? ⟨b, off + k * 3 + 2, none⟩ = some es[k].v ∧ es[k].good w

/-- the first k entries, one behind the other -/
def joinE (es : List Ent) (k : Nat) : List UInt8 := ((es.take k).map Ent.bytes).flatten
theorem joinE_succ (es : List Ent) (k : Nat) (h : k < es.length) : joinE es (k + 1) = joinE es k ++ es[k].bytes := by
  unfold joinE
  rw [List.take_succ_eq_append_getElem h]
  simp only [List.map_append, List.flatten_append, List.map_cons, List.map_nil, List.flatten_cons, List.flatten_nil, List.append_nil]
theorem joinE_split (es : List Ent) (k m : Nat) (h : k ≤ m) : ∃ r, joinE es m = joinE es k ++ r := by
  refine ⟨(((es.take m).drop k).map Ent.bytes).flatten, ?_⟩
  unfold joinE
  rw [← List.flatten_append, ← List.map_append]
  congr 2
  have := List.take_append_drop k (es.take m)
  rw [List.take_take, Nat.min_eq_left h] at this
  exact this.symm

theorem Try.info3 : (Try.prog.info? 3).map (fun i => (i.zero, i.size, i.bytes)) = some (some (.int .i64 0), 1, 8) := by kernel_rfl
/-- where the entries end -/
def endsV (ahead : List UInt8) (es : List Ent) (k : Nat) : List Value := (List.range (k + 1)).map fun j => Value.int .i64 ((ahead ++ joinE es j).length : Int)
theorem endsV_succ (ahead : List UInt8) (es : List Ent) (k : Nat) : endsV ahead es (k + 1) = endsV ahead es k ++ [Value.int .i64 ((ahead ++ joinE es (k + 1)).length : Int)] := by
  unfold endsV
  rw [List.range_succ, List.map_append]
  rfl
theorem endsV_length (ahead : List UInt8) (es : List Ent) (k : Nat) : (endsV ahead es k).length = k + 1 := by simp [endsV]
theorem endsV_get (ahead : List UInt8) (es : List Ent) (k j : Nat) (h : j ≤ k) : (endsV ahead es k)[j]? = some (Value.int .i64 ((ahead ++ joinE es j).length : Int)) := by
  unfold endsV
  rw [List.getElem?_map, List.getElem?_range (by omega)]
  rfl
theorem Own.apartRow {w w' : World} {base : Nat} {row : Option Nat} {v : Value} {l : List UInt8} (h : Own w base v l) (hg : w.grownBy w' row) (hr : ∀ k, row = some k → k < base) : Own w' base v l := by
  refine World.ownsRow.kept h hg ?_
  cases hv : v.ownBlock with
  | none => exact .inl rfl
  | some k =>
    right
    intro e
    have h1 := (World.ownsRow.lt h k hv).1
    have h2 := hr k e.symm
    omega
theorem ownsRow_below {w w' : World} {base : Nat} {e : TypeId} {size : Nat} {v : Value} {n : Nat} {xs : List Value} (h : w.ownsRow base e size v n xs) (hb : Below w.heap.size w w') : w'.ownsRow base e size v n xs := by
  refine ⟨h.1, ?_⟩
  rcases h.2 with h2 | ⟨g, cap, cur, hv, hb2, hg, r⟩
  · exact .inl h2
  · exact .inr ⟨g, cap, cur, hv, hb2, by rw [hb.block g (Array.getElem?_eq_some_iff.1 hg).1]; exact hg, r⟩
theorem Ent.good_below {w w' : World} {e : Ent} (h : e.good w) (hb : Below w.heap.size w w') : e.good w' := ⟨h.1.below hb, h.2⟩
theorem joinE_le (es : List Ent) (k : Nat) (hk : k ≤ 20) (h : ∀ j (h : j < es.length), j < k → es[j].b.length ≤ 100) (hke : k ≤ es.length) : (joinE es k).length ≤ 144 * k := by
  induction k with
  | zero => simp [joinE]
  | succ k ih =>
    rw [joinE_succ es k (by omega), List.length_append]
    have h1 := ih (by omega) (fun j hj hjk => h j hj (by omega)) (by omega)
    have h2 := (entry_length es[k].n es[k].i es[k].b (h k (by omega) (by omega))).2
    unfold Ent.bytes
    omega

theorem cut_whole (es : List Ent) (ahead : List UInt8) (j q c : Nat) (hq : q < j) (hj : j ≤ es.length) (h : (ahead ++ joinE es (q + 1)).length ≤ c) :
    ∃ R, (ahead ++ joinE es j).take c = (ahead ++ joinE es q) ++ ((es[q]'(by omega)).bytes ++ R) := by
  obtain ⟨r, hr⟩ := joinE_split es (q + 1) j (by omega)
  refine ⟨r.take (c - (ahead ++ joinE es (q + 1)).length), ?_⟩
  rw [hr, ← List.append_assoc, List.take_append, List.take_of_length_le h, joinE_succ es q (by omega)]
  simp only [List.append_assoc]
theorem cut_part (es : List Ent) (ahead : List UInt8) (j q c : Nat) (hq : q < j) (hj : j ≤ es.length) (h1 : (ahead ++ joinE es q).length ≤ c) (h2 : c < (ahead ++ joinE es (q + 1)).length) :
    (ahead ++ joinE es j).take c = (ahead ++ joinE es q) ++ (es[q]'(by omega)).bytes.take (c - (ahead ++ joinE es q).length) := by
  obtain ⟨r, hr⟩ := joinE_split es (q + 1) j (by omega)
  rw [hr, ← List.append_assoc, List.take_append_of_le_length (by omega), joinE_succ es q (by omega), ← List.append_assoc, List.take_append, List.take_of_length_le h1]
/-- what is sealed of an entry -/
def Ent.body (e : Ent) : List UInt8 := bodyL e.n e.i e.b
def Ent.sealed (e : Ent) : List UInt8 := e.body ++ be4 (crc e.body)
theorem Ent.read (e : Ent) (P R : List UInt8) (hb : e.b.length ≤ 100) : getB (P ++ (e.bytes ++ R)) P.length 1048576 = (e.sealed, P.length + e.bytes.length, 0) := by
  have h := sealed_length e.n e.i e.b hb
  exact getB_blob (e.body ++ be4 (crc e.body)) P R 1048576 (by unfold Ent.body; omega) (by unfold Ent.body; omega)
theorem Ent.read_cut (e : Ent) (P : List UInt8) (k : Nat) (hb : e.b.length ≤ 100) (hk : k < e.bytes.length) : getB (P ++ e.bytes.take k) P.length 1048576 = ([], 0, 11) := by
  have h := sealed_length e.n e.i e.b hb
  exact getB_blob_cut (e.body ++ be4 (crc e.body)) P k 1048576 (by unfold Ent.body; omega) (by unfold Ent.body; omega) hk
theorem ownsRow_slice {w : World} {base : Nat} {e : TypeId} {v : Value} {n : Nat} {xs : List Value} (h : w.ownsRow base e 1 v (n + 1) xs) : ∃ g cap, v = .slice (some ⟨g, 0, none⟩) (n + 1) cap ∧ g < w.heap.size ∧ n + 1 ≤ cap ∧ cap ≤ maxLen := by
  rcases h.2 with ⟨-, h0⟩ | ⟨g, cap, cur, hv, hb, hg, hn, hm, r⟩
  · omega
  · exact ⟨g, cap, hv, (Array.getElem?_eq_some_iff.1 hg).1, hn, hm⟩

set_option maxRecDepth 100000 in
set_option maxHeartbeats 4000000 in
theorem log_walk (v va : Value) (es : List Ent) (ahead : List UInt8) (cut : Nat) (w : World) (hes : Ents w v es) (ha : Rd w va ahead) (hcut : cut < 65536) :
    Calls Try.prog 5 #[v, va, .int .u16 cut] w fun e w' => e = .returned (.bool true) ∧ Below w.heap.size w w' := by
  obtain ⟨ao, cap, rfl, hcap, hmax, hent⟩ := hes
  obtain ⟨aa, ca, hv, -⟩ := id ha
  subst hv
  obtain ⟨i0, hi, hz0, hz1, hz2⟩ := info_parts Try.info5
  have hT := run_toStr
  have HC : Hid _ := hent
  clear hent
  have hmn : ∀ ty w, (Builtin.min_ #[3, 3] ty #[.int .i64 (es.length : Int), .int .i64 20]).run Try.prog w = .ok (.int .i64 ((min es.length 20 : Nat) : Int)) w := fun ty w => run_min_i64 es.length 20 ty w
  have hm1 : min es.length 20 ≤ es.length := Nat.min_le_left _ _
  have hm2 : min es.length 20 ≤ 20 := Nat.min_le_right _ _
  obtain ⟨m, HM⟩ := named (min es.length 20)
  simp only [← HM.out] at hmn hm1 hm2
  have hmc : (m : Int) ≤ cap := by omega
  unfold maxLen at hmax
  go_enter Try.func5, Try.ntmps5
  go_wp2_with fail
  clear hmn
  go_loopw [27] (fun iv wr => ∃ k : Nat, k ≤ m ∧ iv = .int .i64 k ∧ Below w.heap.size w wr ∧ ∀ j (h : j < es.length), j < k → es[j].b.length ≤ 100) (fun iv _ => m - (intOf iv).toNat)
  case atStart => exact ⟨0, by omega, rfl, Below.refl _ _, fun j _ h => absurd h (by omega)⟩
  case round =>
    obtain ⟨k, hk, rfl, hb, hall⟩ := hrel
    have HALL : Hid _ := hall
    clear hall
    by_cases hlt : k < m
    · have hkl : k < es.length := by omega
      have hlt' : (k : Int) < m := by omega
      obtain ⟨b, off, rfl, hbs, h0, h1, h2, hgood⟩ := HC.out k hkl
      have g0 := (hb.cell (p := ⟨b, off + k * 3, none⟩) hbs).trans h0
      have g1 := (hb.cell (p := ⟨b, off + k * 3 + 1, none⟩) hbs).trans h1
      have g2 := (hb.cell (p := ⟨b, off + k * 3 + 2, none⟩) hbs).trans h2
      obtain ⟨ax, cx, hvx, -⟩ := id hgood.1
      rw [hvx] at g2
      obtain ⟨N, HN⟩ := named es[k].n
      obtain ⟨I, HI⟩ := named es[k].i
      obtain ⟨Bb, HB⟩ := named es[k].b
      rw [← HN.out] at g0
      rw [← HI.out] at g1
      rw [← HB.out] at g2
      clear h0 h1 h2 hvx
      by_cases hbig : 100 < Bb.length
      · have hbig' : (100 : Int) < Bb.length := by omega
        go_wp2_with fail
        refine (awake_true _).mono ?_
        rintro e w7 ⟨rfl, hb7⟩
        go_wp2
        go_ret
        exact ⟨rfl, below_alloc_call hb hb7⟩
      · have hbig' : ¬ (100 : Int) < Bb.length := by omega
        go_wp2
        go_roundw
        case rel =>
          refine ⟨k + 1, by omega, by go_num, hb.alloc hb.size _, fun j h hj => ?_⟩
          by_cases e : j = k
          · subst e; rw [← HB.out]; omega
          · exact HALL.out j h (by omega)
        case measure => simp [intOf]; omega
    · obtain rfl : k = m := by omega
      have hlt' : ¬ (k : Int) < k := by omega
      clear hlt hk
      by_cases ha50 : 50 < ahead.length
      · have ha50' : (50 : Int) < ahead.length := by omega
        go_wp2_with fail
        refine (awake_true _).mono ?_
        rintro e w7 ⟨rfl, hb7⟩
        go_wp2
        go_ret
        exact ⟨rfl, below_call hb hb7⟩
      · have ha50' : ¬ (50 : Int) < ahead.length := by omega
        have har := ha.below hb
        go_wp2_with fail
        refine (copyBytes_any _ ahead _ har (by omega)).mono ?_
        rintro e w1 ⟨v1, rfl, hown1, hb1⟩
        have hB1 := below_call hb hb1
        have hrd1 := hown1.rd
        obtain ⟨a1, c1, hv1, -⟩ := id hown1.rd
        subst hv1
        clear hb1 hown1 har hb
        obtain ⟨j0, hj0, hjz0, hjz1, hjz2⟩ := info_parts Try.info3
        go_wp2_with fail
        go_loopw [9, 10, 48] (fun bv ev iv wr => ∃ j : Nat, j ≤ k ∧ iv = .int .i64 j ∧ Rd wr bv (ahead ++ joinE es j) ∧ wr.ownsRow w.heap.size 3 1 ev (j + 1) (endsV ahead es j) ∧ Below w.heap.size w wr) (fun _ _ iv _ => k - (intOf iv).toNat)
        case atStart =>
          refine ⟨0, by omega, rfl, ?_, ?_, hB1.alloc hB1.size _⟩
          · have := hrd1.alloc (.cells #[Value.int IntKind.i64 (ahead.length : Int)] 3)
            simpa [joinE] using this
          · refine ⟨by simp [endsV_length], .inr ⟨w1.heap.size, 1, _, rfl, hB1.size, heap_alloc_new w1 _, Nat.le_refl _, by simp [maxLen], rfl, ?_⟩⟩
            simp [endsV, joinE]
        case round =>
          obtain ⟨j, hj, rfl, hrb, hoe, hbj⟩ := hrel
          by_cases hjk : j < k
          · have hjk' : (j : Int) < k := by omega
            have hjl : j < es.length := by omega
            obtain ⟨b, off, rfl, hbs, h0, h1, h2, hgood⟩ := HC.out j hjl
            have g0 := (hbj.cell (p := ⟨b, off + j * 3, none⟩) hbs).trans h0
            have g1 := (hbj.cell (p := ⟨b, off + j * 3 + 1, none⟩) hbs).trans h1
            have g2 := (hbj.cell (p := ⟨b, off + j * 3 + 2, none⟩) hbs).trans h2
            have hgw : es[j].good wr := Ent.good_below hgood hbj
            have hB100 := HALL.out j hjl hjk
            obtain ⟨ax, cx, hvx, -⟩ := id hgood.1
            have hbytes : es[j].bytes = entryL es[j].n es[j].i es[j].b := rfl
            have hsu := joinE_succ es j hjl
            have hle := joinE_le es j (by omega) (fun i hi hij => HALL.out i hi (by omega)) (by omega)
            rw [hbytes] at hsu
            obtain ⟨hr1, hr2, hr3, hr4⟩ := hgw
            rw [hvx] at g2 hr1
            obtain ⟨N, HN⟩ := named es[j].n
            obtain ⟨I, HI⟩ := named es[j].i
            obtain ⟨Bb, HB⟩ := named es[j].b
            rw [← HN.out] at g0 hr2 hsu
            rw [← HI.out] at g1 hr3 hr4 hsu
            rw [← HB.out] at g2 hr1 hB100 hsu
            obtain ⟨Lj, HLJ⟩ := named (ahead ++ joinE es j)
            have hLj : Lj.length ≤ 1000000 := by rw [HLJ.out, List.length_append]; omega
            rw [← HLJ.out] at hrb
            have hnew : Lj ++ entryL N I Bb = ahead ++ joinE es (j + 1) := by rw [hsu, HLJ.out, List.append_assoc]
            have HNEW : Hid _ := hnew
            have HR : Hid (N ≤ 18446744073709551615 ∧ -9223372036854775808 ≤ I ∧ I ≤ 9223372036854775807) := ⟨hr2, hr3, hr4⟩
            clear h0 h1 h2 hvx hbytes hsu hle hr2 hr3 hr4 hnew
            go_wp2_with fail
            refine (put_any N I _ _ Bb Lj _ HR.out.1 HR.out.2.1 HR.out.2.2 (hr1.alloc _) (hrb.alloc _) hB100 hLj).mono ?_
            rintro e w2 ⟨v2, rfl, hown2, hb2⟩
            rw [HNEW.out] at hown2
            have hoe2 : w2.ownsRow w.heap.size 3 1 _ (j + 1) (endsV ahead es j) := ownsRow_below (hoe.alloc _) hb2
            have hrowlt : ∀ q, Value.ownBlock u10 = some q → q < wr.heap.size := fun q hq => (hoe.lt q hq).2
            have hB2 := below_alloc_call hbj hb2
            have hsz2 := hB2.size
            have hlen2 : (ahead ++ joinE es (j + 1)).length ≤ 1000000 := by
              have hle := joinE_le es (j + 1) (by omega) (fun i hi hij => HALL.out i hi (by omega)) (by omega)
              rw [List.length_append]
              omega
            obtain ⟨L2, HL2⟩ := named (ahead ++ joinE es (j + 1))
            rw [← HL2.out] at hown2 hlen2
            obtain ⟨a2, c2, hv2, -⟩ := id hown2.rd
            subst hv2
            clear hb2 hoe hrb hr1 g0 g1 g2 hbj
            go_wp2_with (at_builtin; go_must (refine wpList_append_own _ rfl (.tmp 55) (.tmp 58) 48 rfl w.heap.size 3 j0 (.int .i64 0) 1 8 Try.underlying48 hj0 hjz0 hjz1 hjz2 rfl (by decide) _ _ _ rfl (hoe2.alloc _) ⟨w2.heap.size, 0, none⟩ 1 1 [.int .i64 (L2.length : Int)] rfl rfl ?_ ?_ ?_ ?_ ?_ ?_))
            · intro q u hq
              match q, hq with
              | 0, hq => simp at hq; subst hq; simp [Addr.add]
            · intro u hu; simp at hu; subst hu; rfl
            · unfold maxLen; omega
            · omega
            · simp; omega
            · intro ev2 w3 hoe3 hg3 _
              have hB3 : Below w.heap.size w w3 := (hB2.alloc hsz2 _).grown hg3 (by simp; omega) (fun q hq => (hoe2.lt q hq).1)
              have hown3 : Own w3 _ (.slice a2 L2.length c2) L2 := (hown2.alloc _).apartRow hg3 (fun q hq => by have := hrowlt q hq; simp; omega)
              have hrd3 := hown3.rd
              have hoe4 : w3.ownsRow w.heap.size 3 1 ev2 (j + 1 + 1) (endsV ahead es (j + 1)) := by rw [endsV_succ, ← HL2.out]; exact hoe3
              clear hoe3 hg3 hown3 hoe2 hown2 hB2 hrowlt
              go_wp2
              go_roundw
              case rel => exact ⟨j + 1, by omega, by go_num, by rw [← HL2.out]; exact hrd3, hoe4, hB3⟩
              case measure => simp [intOf]; omega
          · obtain rfl : j = k := by omega
            have hjk' : ¬ (j : Int) < j := by omega
            clear hjk hj
            have hWn := joinE_le es j (by omega) (fun i hi hij => HALL.out i hi (by omega)) (by omega)
            obtain ⟨Lm, HLM⟩ := named (ahead ++ joinE es j)
            obtain ⟨A, HA⟩ := named ahead.length
            obtain ⟨Wn, HWN⟩ := named (joinE es j).length
            have hLm : Lm.length = A + Wn := by rw [HLM.out, List.length_append, HA.out, HWN.out]
            rw [← HLM.out] at hrb
            rw [← HWN.out] at hWn
            obtain ⟨ab, cb, hvb, hcb, hmb, -⟩ := id hrb
            rw [hLm] at hvb hcb
            subst hvb
            unfold maxLen at hmb
            obtain ⟨r, hr⟩ : ∃ r : Nat, r = cut % (Wn + 1) := ⟨_, rfl⟩
            have hrW : r ≤ Wn := by rw [hr]; have := Nat.mod_lt cut (show 0 < Wn + 1 by omega); omega
            have hrI2 : (cut : Int) % ((A : Int) + (Wn : Int) - (A : Int) + 1) = (r : Int) := by
              rw [show (A : Int) + (Wn : Int) - (A : Int) + 1 = ((Wn + 1 : Nat) : Int) by omega, hr]
              simp
            clear hr
            have hrcut := hrb.take (A + r) (by rw [hLm]; omega)
            rw [← HA.out] at ha50 ha50' ⊢
            have hAr : (A : Int) + r ≤ cb := by omega
            clear hrb
            obtain ⟨ge, ce, hve, hge, hce1, hce2⟩ := ownsRow_slice hoe
            rw [hve] at hoe
            subst hve
            unfold maxLen at hce2
            obtain ⟨wo, rfl⟩ : ∃ wo : World, wo = wr := ⟨_, rfl⟩
            have hcellE : ∀ i, i ≤ j → wo.cell? ⟨ge, i, none⟩ = some (.int .i64 ((ahead ++ joinE es i).length : Int)) := fun i hi => by
              rw [World.ownsRow.cellAt hoe i (by omega), endsV_get _ _ _ _ hi]
            have HCE : Hid _ := hcellE
            clear hcellE hoe
            go_wp2_with fail
            go_loopw [14, 80] (fun av iv wq => ∃ q e : Nat, q ≤ j ∧ iv = .int .i64 q ∧ av = .int .i64 e ∧ e = (ahead ++ joinE es q).length ∧ e ≤ A + r ∧ Below wo.heap.size wo wq) (fun _ iv _ => j - (intOf iv).toNat)
            case atStart => exact ⟨0, A, by omega, rfl, rfl, by rw [HA.out]; simp [joinE], by omega, Below.refl _ _⟩
            case round =>
              obtain ⟨q, e, hq, rfl, rfl, he, hec, hbq⟩ := hrel
              have HEQ : Hid _ := he
              clear he
              have hBq : Below w.heap.size w wr := below_call hbj hbq
              have hrcq := hrcut.below hbq
              have hszq := hbq.size
              by_cases hqj : q < j
              · have hqj' : (q : Int) < j := by omega
                have hql : q < es.length := by omega
                obtain ⟨b, off, rfl, hbs, h0, h1, h2, hgood⟩ := HC.out q hql
                have g0 := (hBq.cell (p := ⟨b, off + q * 3, none⟩) hbs).trans h0
                have g1 := (hBq.cell (p := ⟨b, off + q * 3 + 1, none⟩) hbs).trans h1
                have g2 := (hBq.cell (p := ⟨b, off + q * 3 + 2, none⟩) hbs).trans h2
                have hgw : es[q].good wr := Ent.good_below hgood hBq
                have hB100 := HALL.out q hql hqj
                obtain ⟨ax, cx, hvx, -⟩ := id hgood.1
                obtain ⟨hr1, hr2, hr3, hr4⟩ := hgw
                rw [hvx] at g2 hr1
                have hce := (hbq.cell (p := ⟨ge, q + 1, none⟩) hge).trans (HCE.out (q + 1) (by omega))
                obtain ⟨e2, HE2⟩ := named (ahead ++ joinE es (q + 1)).length
                rw [← HE2.out] at hce
                have hq1 : (q : Int) + 1 < (j : Int) + 1 := by omega
                by_cases hwh : e2 ≤ A + r
                · have hwh' : ¬ (A : Int) + r < e2 := by omega
                  obtain ⟨R, hR⟩ := cut_whole es ahead j q (A + r) hqj (by omega) (by rw [← HE2.out]; exact hwh)
                  have hlenx : (ahead ++ joinE es (q + 1)).length = (ahead ++ joinE es q).length + es[q].bytes.length := by
                    rw [joinE_succ es q hql, ← List.append_assoc, List.length_append]
                  have hread := es[q].read (ahead ++ joinE es q) R hB100
                  rw [← hR, ← hlenx, ← HLM.out, ← HEQ.out, ← HE2.out] at hread
                  have hlc : (Lm.take (A + r)).length ≤ 100000 := by rw [List.length_take]; omega
                  obtain ⟨Lc, HLC⟩ := named (Lm.take (A + r))
                  rw [← HLC.out] at hrcq hread hlc
                  have hsl := sealed_length es[q].n es[q].i es[q].b hB100
                  have hbl : es[q].body.length ≤ 1000 := by
                    have := hsl
                    rw [List.length_append] at this
                    show (bodyL es[q].n es[q].i es[q].b).length ≤ 1000
                    omega
                  have hsl2 : es[q].sealed.length ≤ 1000 := Nat.le_trans hsl (by omega)
                  have hbN : getU es[q].body 0 = _ := body_N es[q].n es[q].i es[q].b hr2
                  have hbI : getU es[q].body _ = _ := body_I es[q].n es[q].i es[q].b hr3 hr4
                  have hbZ : unfoldI ((foldI es[q].i).toNat : Int) = es[q].i := by
                    have := (foldI_range es[q].i hr3 hr4).1
                    rw [Int.toNat_of_nonneg this, unfold_fold]
                  have hbB : getB es[q].body _ _ = _ := body_B es[q].n es[q].i es[q].b hB100
                  have hbU : unsealL es[q].sealed = (es[q].body, 0) := entry_unseal es[q].n es[q].i es[q].b
                  have hgot := fun wx hwx => got_ok (.slice ab (A + r) cb) Lc es[q].sealed es[q].body es[q].b e e2 es[q].n _ _ _ es[q].i wx hwx hlc hsl2 hbl hread hbU hbN hbI hbZ hbB
                  obtain ⟨N, HN⟩ := named es[q].n
                  obtain ⟨I, HI⟩ := named es[q].i
                  obtain ⟨Bb, HB⟩ := named es[q].b
                  rw [← HN.out] at g0
                  rw [← HI.out] at g1
                  rw [← HB.out] at g2 hr1
                  simp only [← HN.out, ← HI.out, ← HB.out] at hgot
                  have HGOT : Hid _ := hgot
                  clear h0 h1 h2 hvx hr2 hr3 hr4 hR hlenx hread hB100 hsl hbl hsl2 hbN hbI hbZ hbB hbU hgot
                  go_wp2_with fail
                  refine Calls.mono (HGOT.out _ (hrcq.alloc _)) ?_
                  rintro er w2 ⟨vb, rfl, hrdb, hb2⟩
                  have hB2 := below_alloc_call hBq hb2
                  have hce2' : w2.cell? ⟨ge, q + 1, none⟩ = some (.int .i64 (e2 : Int)) := by
                    have h := (hb2.cell (p := ⟨ge, q + 1, none⟩) (by simp; omega))
                    rw [h, World.cell?_alloc_past _ _ _ (by omega)]
                    exact hce
                  have hge2 : ge < w2.heap.size := by have := hb2.size; simp at this; omega
                  have hwq2 : wr.heap.size < w2.heap.size := by have := hb2.size; simp at this; omega
                  obtain ⟨x0, x1, x2⟩ := three_below (B := wr.heap.size) (a := .int .u64 (N : Int)) (b := .int .i64 I) (c := .slice ax Bb.length cx) (by simp) hb2 ⟨by simp, by simp, by simp⟩
                  obtain ⟨ay, cy, hvy, -⟩ := id hrdb
                  subst hvy
                  have hsy := run_str (w2.alloc (.cells #[.int .u64 (N : Int), .int .i64 I, .slice ay Bb.length cy] 47)) _ Bb (hrdb.alloc _)
                  have hsx := run_str (w2.alloc (.cells #[.int .u64 (N : Int), .int .i64 I, .slice ay Bb.length cy] 47)) _ Bb (((hr1.alloc _).below hb2).alloc _)
                  have hbq2 : Below wo.heap.size wo (w2.alloc (.cells #[.int .u64 (N : Int), .int .i64 I, .slice ay Bb.length cy] 47)) :=
                    (below_alloc_call hbq hb2).alloc (by omega) _
                  have hnn : ((N : Int) != (N : Int)) = false := by simp
                  have hii : (I != I) = false := by simp
                  have hee : ((e2 : Int) != (e2 : Int)) = false := by simp
                  have hwne : ¬ wr.heap.size = w2.heap.size := by omega
                  clear hb2 hce g0 g1 g2 hr1 hrcq hrdb
                  go_wp2_with fail
                  go_roundw
                  case rel => exact ⟨q + 1, e2, by omega, by go_num, rfl, HE2.out, hwh, hbq2⟩
                  case measure => simp [intOf]; omega
                · have hwh' : (A : Int) + r < e2 := by omega
                  have hpart := cut_part es ahead j q (A + r) hqj (by omega) (by rw [← HEQ.out]; exact hec) (by rw [← HE2.out]; omega)
                  have hlenx : (ahead ++ joinE es (q + 1)).length = (ahead ++ joinE es q).length + es[q].bytes.length := by
                    rw [joinE_succ es q hql, ← List.append_assoc, List.length_append]
                  have hshort := es[q].read_cut (ahead ++ joinE es q) (A + r - (ahead ++ joinE es q).length) hB100 (by rw [← HE2.out, ← HEQ.out] at hlenx; rw [← HEQ.out]; omega)
                  rw [← hpart, ← HLM.out, ← HEQ.out] at hshort
                  have hlc : (Lm.take (A + r)).length ≤ 100000 := by rw [List.length_take]; omega
                  obtain ⟨Lc, HLC⟩ := named (Lm.take (A + r))
                  rw [← HLC.out] at hrcq hshort hlc
                  have HSH : Hid _ := hshort
                  obtain ⟨N, HN⟩ := named es[q].n
                  obtain ⟨I, HI⟩ := named es[q].i
                  obtain ⟨Bb, HB⟩ := named es[q].b
                  rw [← HN.out] at g0
                  rw [← HI.out] at g1
                  rw [← HB.out] at g2 hr1
                  clear h0 h1 h2 hvx hr2 hr3 hr4 hpart hlenx hshort hB100
                  go_wp2_with fail
                  refine (got_short _ Lc e _ (hrcq.alloc _) hlc HSH.out).mono ?_
                  rintro er w2 ⟨rfl, hb2⟩
                  have hB2 := below_alloc_call hBq hb2
                  have hce2' : w2.cell? ⟨ge, q + 1, none⟩ = some (.int .i64 (e2 : Int)) := by
                    have h := (hb2.cell (p := ⟨ge, q + 1, none⟩) (by simp; omega))
                    rw [h, World.cell?_alloc_past _ _ _ (by omega)]
                    exact hce
                  have hge2 : ge < w2.heap.size := by have := hb2.size; simp at this; omega
                  clear hb2 hce g0 g1 g2 hr1 hrcq
                  go_wp2_with fail
                  refine (awake_true _).mono ?_
                  rintro er w7 ⟨rfl, hb7⟩
                  go_wp2
                  go_ret
                  exact ⟨rfl, below_alloc_call hB2 hb7⟩
              · obtain rfl : q = j := by omega
                have hqj' : ¬ (q : Int) < q := by omega
                have hfin : e = A + r := by
                  have h := HEQ.out
                  rw [← HLM.out, hLm] at h
                  omega
                have hfin' : ((e : Int) == (A : Int) + (r : Int)) = true := by rw [hfin]; simp
                clear hfin
                go_wp2_with fail
                refine (awake_true _).mono ?_
                rintro er w7 ⟨rfl, hb7⟩
                go_wp2
                go_ret
                exact ⟨rfl, below_call hBq hb7⟩
end Go.Proofs.Ytgeljaliddedfaa
