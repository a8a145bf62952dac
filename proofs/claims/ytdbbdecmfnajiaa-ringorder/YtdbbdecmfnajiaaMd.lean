/-
  Going round the places of a queue; the contracts of gather. Own work.
-/
import Derived.Test.YtdbbdecmfnajiaaMc
namespace Go.Proofs.Ytdbbdecmfnajiaa
open Go.RowKit

set_option maxRecDepth 100000 in
set_option maxHeartbeats 1600000 in
/-- the places that have numbers are gone round -/
theorem round67 {w : World} {qb n first count : Nat} {pv : Value} {most : Int} (ab pb : Nat) (I : Nat → World → Prop) (hfn : count ≤ n ∧ (0 < count → first < n)) (hn2 : n ≤ 1000000) (hc2 : count ≤ 65536) (hp : ∃ ao, pv = .slice ao n n)
    (hI : I 0 w) (hh : ∀ k u, I k u → u.heap[qb]? = some (.cells #[.int .i64 most, pv, .int .i64 first, .int .i64 count] 93 (0, 0))) (hd : ∀ k u j, I k u → I k (u.drewN j))
    (hs : ∀ k u, k < count → I k u → Calls Try.prog 67 #[.int .i64 ((first + k) % n : Nat), .pointer (some ⟨ab, 0, none⟩), .pointer (some ⟨pb, 0, none⟩)] u fun e u' => e = .returned (.tuple #[]) ∧ I (k + 1) u') :
    Calls Try.prog 54 #[.pointer (some ⟨qb, 0, none⟩), .func (.func 67) #[] #[.pointer (some ⟨ab, 0, none⟩), .pointer (some ⟨pb, 0, none⟩)]] w fun e w' => e = .returned (.tuple #[]) ∧ I count w' := by
  have hc := hh 0 w hI
  have s3 : w.cell? ⟨qb, 3, none⟩ = some (.int .i64 count) := by rw [cell_of hc]; rfl
  have HI := hide hI
  clear hI hc
  go_enter Try.func54, Try.ntmps54
  go_wp2_with fail
  go_loopw [9] (fun iv wr => ∃ k : Nat, k ≤ count ∧ iv = .int .i64 k ∧ Hid (I k wr)) (fun iv _ => count - (intOf iv).toNat)
  case atStart => exact ⟨0, Nat.zero_le _, rfl, HI⟩
  case round =>
    obtain ⟨k, hk, rfl, HK⟩ := hrel
    by_cases hlt : k < count
    · have kp := place_any (hh k wr HK.out) hp (by omega) hn2 (hfn.2 (by omega)) k (by omega)
      have hkI : (k : Int) < (count : Int) := by omega
      have ks' := fun j => hs k _ hlt (hd k _ j HK.out)
      obtain ⟨p, HP⟩ := named ((first + k) % n)
      rw [← HP.out] at kp ks'
      clear HI s3
      go_wp2_with fail
      (with_reducible refine Calls.mono kp ?_)
      clear kp
      rintro e u ⟨rfl, j, rfl⟩
      have ks := ks' j
      go_wp2_with fail
      (with_reducible refine Calls.mono ks ?_)
      clear ks
      rintro e u ⟨rfl, hi⟩
      have HI1 := hide hi
      clear hi
      go_wp2_with fail
      go_roundw
      case rel => exact ⟨k + 1, hlt, by go_num, HI1.out⟩
      case measure => simp [intOf]; omega
    · have hkI : ¬ (k : Int) < (count : Int) := by omega
      obtain rfl : k = count := by omega
      clear HI s3
      go_wp2_with fail
      go_end0
      exact ⟨rfl, HK.out⟩

set_option maxRecDepth 100000 in
set_option maxHeartbeats 1600000 in
/-- the places that have numbers are gone round -/
theorem round82 {w : World} {qb n first count : Nat} {pv : Value} {most : Int} (b0 b1 b2 b3 : Nat) (I : Nat → World → Prop) (hfn : count ≤ n ∧ (0 < count → first < n)) (hn2 : n ≤ 1000000) (hc2 : count ≤ 65536) (hp : ∃ ao, pv = .slice ao n n)
    (hI : I 0 w) (hh : ∀ k u, I k u → u.heap[qb]? = some (.cells #[.int .i64 most, pv, .int .i64 first, .int .i64 count] 93 (0, 0))) (hd : ∀ k u j, I k u → I k (u.drewN j))
    (hs : ∀ k u, k < count → I k u → Calls Try.prog 82 #[.int .i64 ((first + k) % n : Nat), .pointer (some ⟨b0, 0, none⟩), .pointer (some ⟨b1, 0, none⟩), .pointer (some ⟨b2, 0, none⟩), .pointer (some ⟨b3, 0, none⟩)] u fun e u' => e = .returned (.tuple #[]) ∧ I (k + 1) u') :
    Calls Try.prog 54 #[.pointer (some ⟨qb, 0, none⟩), .func (.func 82) #[] #[.pointer (some ⟨b0, 0, none⟩), .pointer (some ⟨b1, 0, none⟩), .pointer (some ⟨b2, 0, none⟩), .pointer (some ⟨b3, 0, none⟩)]] w fun e w' => e = .returned (.tuple #[]) ∧ I count w' := by
  have hc := hh 0 w hI
  have s3 : w.cell? ⟨qb, 3, none⟩ = some (.int .i64 count) := by rw [cell_of hc]; rfl
  have HI := hide hI
  clear hI hc
  go_enter Try.func54, Try.ntmps54
  go_wp2_with fail
  go_loopw [9] (fun iv wr => ∃ k : Nat, k ≤ count ∧ iv = .int .i64 k ∧ Hid (I k wr)) (fun iv _ => count - (intOf iv).toNat)
  case atStart => exact ⟨0, Nat.zero_le _, rfl, HI⟩
  case round =>
    obtain ⟨k, hk, rfl, HK⟩ := hrel
    by_cases hlt : k < count
    · have kp := place_any (hh k wr HK.out) hp (by omega) hn2 (hfn.2 (by omega)) k (by omega)
      have hkI : (k : Int) < (count : Int) := by omega
      have ks' := fun j => hs k _ hlt (hd k _ j HK.out)
      obtain ⟨p, HP⟩ := named ((first + k) % n)
      rw [← HP.out] at kp ks'
      clear HI s3
      go_wp2_with fail
      (with_reducible refine Calls.mono kp ?_)
      clear kp
      rintro e u ⟨rfl, j, rfl⟩
      have ks := ks' j
      go_wp2_with fail
      (with_reducible refine Calls.mono ks ?_)
      clear ks
      rintro e u ⟨rfl, hi⟩
      have HI1 := hide hi
      clear hi
      go_wp2_with fail
      go_roundw
      case rel => exact ⟨k + 1, hlt, by go_num, HI1.out⟩
      case measure => simp [intOf]; omega
    · have hkI : ¬ (k : Int) < (count : Int) := by omega
      obtain rfl : k = count := by omega
      clear HI s3
      go_wp2_with fail
      go_end0
      exact ⟨rfl, HK.out⟩

/-- numbers as they stand in the places, the first one first -/
def qL (f : Nat → Int) (first n count : Nat) : List Int := (List.range count).map fun i => f ((first + i) % n)
theorem qL_len (f : Nat → Int) (first n count : Nat) : (qL f first n count).length = count := by simp [qL]
theorem qL_succ (f : Nat → Int) (first n k : Nat) : qL f first n (k + 1) = qL f first n k ++ [f ((first + k) % n)] := by simp [qL, List.range_succ]
theorem qL_get (f : Nat → Int) (first n count i : Nat) (h : i < count) : (qL f first n count)[i]? = some (f ((first + i) % n)) := by simp [qL, h]

theorem C1_new (w : World) (a : Value) (t : TypeId) : (w.alloc (.cells #[a] t)).heap[w.heap.size]? = some (.cells #[a] t (0, 0)) := heap_new w _
theorem drewN_heap (w : World) (j : Nat) : (w.drewN j).heap = w.heap := rfl

/-- behind k numbers of gather nil -/
structure GI (w0 : World) (qb pb n first : Nat) (pv : Value) (hdr : Obj) (f : Nat → Int) (ab k : Nat) (u : World) : Prop where
  be : Below w0.heap.size w0 u
  pl : Pl u pv n f
  qh : u.heap[qb]? = some hdr
  hp : u.heap[pb]? = some (.cells #[pv] 22 (0, 0))
  al : w0.heap.size ≤ ab
  ha : ∃ v, u.heap[ab]? = some (.cells #[v] 22 (0, 0)) ∧ OwnI u w0.heap.size v (qL f first n k)

set_option maxRecDepth 100000 in
set_option maxHeartbeats 1600000 in
theorem GI.step {w0 u : World} {qb pb n first : Nat} {pv : Value} {hdr : Obj} {f : Nat → Int} {ab k : Nat} (h : GI w0 qb pb n first pv hdr f ab k u) (hn : 0 < n) (hk : k ≤ 65536) (hqp : pv.ownBlock ≠ some qb) (hq0 : qb < w0.heap.size) (hpv : ∀ a, pv.ownBlock = some a → a < w0.heap.size) (hne : ab ≠ pb) :
    Calls Try.prog 67 #[.int .i64 ((first + k) % n : Nat), .pointer (some ⟨ab, 0, none⟩), .pointer (some ⟨pb, 0, none⟩)] u fun e u' => e = .returned (.tuple #[]) ∧ GI w0 qb pb n first pv hdr f ab (k + 1) u' := by
  obtain ⟨hb, hpl, hqh, hp, hal, v, ha, ho⟩ := h
  obtain ⟨g, rfl, hgl, hn2, hfz, hcell⟩ := hpl.at hn
  have hat : (first + k) % n < n := Nat.mod_lt _ hn
  have hbX : Below u.heap.size u (u.alloc (.cells #[.int .i64 (f ((first + k) % n))] 3)).drew := ((Below.refl _ _).alloc (Nat.le_refl _) _).drew
  have hoX := ho.below hbX
  have hag : ab ≠ g := by
    obtain ⟨cur, hc⟩ := hpl.elem g rfl
    exact ne_of_elem ha hc (by decide)
  have hg0 := hpv g rfl
  obtain ⟨v', w2, hr, ho2, hg2, hown⟩ := hoX.append1 (f ((first + k) % n)) (by rw [qL_len]; omega) (Nat.le_trans hb.size hbX.size) u.heap.size 0 (by rw [cell_of (show (u.alloc (.cells #[.int .i64 (f ((first + k) % n))] 3)).drew.heap[u.heap.size]? = _ from heap_new u _)]; rfl) rfl 22
  have hvg : ∀ j, v.ownBlock = some j → w0.heap.size ≤ j ∧ j < u.heap.size := fun j hj => ho.lt j hj
  have hvab : v.ownBlock ≠ some ab := by
    intro e
    obtain ⟨cur, hc⟩ := ho.elem ab e
    exact ne_of_elem hc ha (by decide) rfl
  have hvpb : v.ownBlock ≠ some pb := by
    intro e
    obtain ⟨cur, hc⟩ := ho.elem pb e
    exact ne_of_elem hc hp (by decide) rfl
  -- what is as it was behind the append
  have keep : ∀ b, b < u.heap.size → v.ownBlock ≠ some b → w2.heap[b]? = u.heap[b]? := fun b hb' hne' => (hg2.block b (Nat.lt_of_lt_of_le hb' hbX.size) (Ne.symm hne')).trans (hbX.block b hb')
  have hv0 : ∀ b, b < w0.heap.size → v.ownBlock ≠ some b := fun b hb' e => by have := (hvg b e).1; omega
  have k1 := keep g hgl (hv0 g hg0)
  have k2 := keep pb (lt_of hp) hvpb
  have k3 := keep ab (lt_of ha) hvab
  have k4 := keep qb (by have := hb.size; omega) (hv0 qb hq0)
  have hb2 : Below w0.heap.size w0 w2 := (hb.trans (hbX.mono hb.size)).grown hg2 (Nat.le_trans hb.size hbX.size) fun j hj => (hvg j hj).1
  have hpl2 : Pl w2 (.slice (some ⟨g, 0, none⟩) n n) n f := hpl.heap fun a e => by cases e; exact k1
  obtain ⟨g', hv', -, -, -, hcell2⟩ := hpl2.at hn
  cases hv'
  refine (gather1_any ha (by rw [cell_of hp]; rfl) (hcell _ hat) hat hne hag hr (by obtain ⟨ao, c, e⟩ := ho2.shape; exact ⟨ao, _, c, e⟩) (by obtain ⟨ao, c, e⟩ := ho.shape; exact ⟨ao, _, c, e⟩)
    (by rw [cell_of (k2.trans hp)]; rfl) (hcell2 _ hat) (k3.trans ha)).mono ?_
  rintro e u' ⟨rfl, rfl⟩
  have hs : ∀ b, b ≠ ab → (w2.setCell ⟨ab, 0, none⟩ v').heap[b]? = w2.heap[b]? := fun b hb' => Below.heap_setCell _ _ _ _ hb'
  refine ⟨rfl, hb2.setCell hal _, hpl2.heap fun a e => ?_, ?_, ?_, hal, v', ?_, ?_⟩
  · cases e; exact hs g (Ne.symm hag)
  · rw [hs qb (by omega), k4]; exact hqh
  · rw [hs pb (Ne.symm hne), k2]; exact hp
  · have := heap_setCell_same w2 ab 0 _ 22 v' (k3.trans ha)
    simpa using this
  · rw [qL_succ]
    refine ho2.heap fun a e => hs a ?_
    rintro rfl
    obtain ⟨cur, hc⟩ := ho2.elem a e
    exact ne_of_elem hc (k3.trans ha) (by decide) rfl

/-- behind k numbers of gather into places made for them -/
structure GR (w0 : World) (qb pb n first m g2 : Nat) (pv : Value) (hdr : Obj) (f : Nat → Int) (ab k : Nat) (u : World) : Prop where
  be : Below w0.heap.size w0 u
  pl : Pl u pv n f
  qh : u.heap[qb]? = some hdr
  hp : u.heap[pb]? = some (.cells #[pv] 22 (0, 0))
  al : w0.heap.size ≤ ab
  gl : w0.heap.size ≤ g2
  ha : u.heap[ab]? = some (.cells #[.slice (some ⟨g2, 0, none⟩) k m] 22 (0, 0))
  ne : ∃ h, Pl u (.slice (some ⟨g2, 0, none⟩) m m) m h ∧ ∀ i, i < k → h i = f ((first + i) % n)

set_option maxRecDepth 100000 in
set_option maxHeartbeats 1600000 in
theorem GR.step {w0 u : World} {qb pb n first m g2 : Nat} {pv : Value} {hdr : Obj} {f : Nat → Int} {ab k : Nat} (h : GR w0 qb pb n first m g2 pv hdr f ab k u) (hn : 0 < n) (hk : k < m) (hq0 : qb < w0.heap.size) (hpv : ∀ a, pv.ownBlock = some a → a < w0.heap.size) (hne : ab ≠ pb) :
    Calls Try.prog 67 #[.int .i64 ((first + k) % n : Nat), .pointer (some ⟨ab, 0, none⟩), .pointer (some ⟨pb, 0, none⟩)] u fun e u' => e = .returned (.tuple #[]) ∧ GR w0 qb pb n first m g2 pv hdr f ab (k + 1) u' := by
  obtain ⟨hb, hpl, hqh, hp, hal, hgl2, ha, h', hpl', hh'⟩ := h
  obtain ⟨g, rfl, hgl, hn2, hfz, hcell⟩ := hpl.at hn
  have hat : (first + k) % n < n := Nat.mod_lt _ hn
  have hbX : Below u.heap.size u (u.alloc (.cells #[.int .i64 (f ((first + k) % n))] 3)).drew := ((Below.refl _ _).alloc (Nat.le_refl _) _).drew
  have hag : ab ≠ g := by
    obtain ⟨cur, hc⟩ := hpl.elem g rfl
    exact ne_of_elem ha hc (by decide)
  have hg0 := hpv g rfl
  have hl2 : g2 < u.heap.size := hpl'.lt g2 rfl
  have hag2 : ab ≠ g2 := by
    obtain ⟨cur, hc⟩ := hpl'.elem g2 rfl
    exact ne_of_elem ha hc (by decide)
  have hpg2 : pb ≠ g2 := by
    obtain ⟨cur, hc⟩ := hpl'.elem g2 rfl
    exact ne_of_elem hp hc (by decide)
  have hplX : Pl (u.alloc (.cells #[.int .i64 (f ((first + k) % n))] 3)).drew (.slice (some ⟨g2, 0, none⟩) m m) m h' := hpl'.heap fun a e => by cases e; exact hbX.block g2 hl2
  obtain ⟨w2, hr, ho2, hg2⟩ := hplX.append1 hk (f ((first + k) % n)) u.heap.size (by rw [cell_of (show (u.alloc (.cells #[.int .i64 (f ((first + k) % n))] 3)).drew.heap[u.heap.size]? = _ from heap_new u _)]; rfl) 22
  have keep : ∀ b, b < u.heap.size → b ≠ g2 → w2.heap[b]? = u.heap[b]? := fun b hb' hne' => (hg2.block b (Nat.lt_of_lt_of_le hb' hbX.size) (fun e => hne' (Option.some.inj e))).trans (hbX.block b hb')
  have k1 := keep g hgl (by omega)
  have k2 := keep pb (lt_of hp) hpg2
  have k3 := keep ab (lt_of ha) hag2
  have k4 := keep qb (by have := hb.size; omega) (by omega)
  have hb2 : Below w0.heap.size w0 w2 := (hb.trans (hbX.mono hb.size)).grown hg2 (Nat.le_trans hb.size hbX.size) fun j hj => by cases hj; exact hgl2
  have hpl2 : Pl w2 (.slice (some ⟨g, 0, none⟩) n n) n f := hpl.heap fun a e => by cases e; exact k1
  obtain ⟨g', hv', -, -, -, hcell2⟩ := hpl2.at hn
  cases hv'
  refine (gather1_any ha (by rw [cell_of hp]; rfl) (hcell _ hat) hat hne hag hr ⟨_, _, _, rfl⟩ ⟨_, _, _, rfl⟩ (by rw [cell_of (k2.trans hp)]; rfl) (hcell2 _ hat) (k3.trans ha)).mono ?_
  rintro e u' ⟨rfl, rfl⟩
  have hs : ∀ b, b ≠ ab → (w2.setCell ⟨ab, 0, none⟩ (.slice (some ⟨g2, 0, none⟩) (k + 1) m)).heap[b]? = w2.heap[b]? := fun b hb' => Below.heap_setCell _ _ _ _ hb'
  refine ⟨rfl, hb2.setCell hal _, hpl2.heap fun a e => ?_, ?_, ?_, hal, hgl2, ?_, _, ho2.heap fun a e => ?_, fun i hi => ?_⟩
  · cases e; exact hs g (Ne.symm hag)
  · rw [hs qb (by omega), k4]; exact hqh
  · rw [hs pb (Ne.symm hne), k2]; exact hp
  · have := heap_setCell_same w2 ab 0 _ 22 (.slice (some ⟨g2, 0, none⟩) (k + 1) m) (k3.trans ha)
    simpa using this
  · cases e; exact hs g2 (Ne.symm hag2)
  · unfold setF
    by_cases e : i = k
    · rw [if_pos e, e]
    · rw [if_neg e]; exact hh' i (by omega)
end Go.Proofs.Ytdbbdecmfnajiaa
