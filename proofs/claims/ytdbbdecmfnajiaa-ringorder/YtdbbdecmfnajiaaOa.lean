/-
  Rings, and lists of the call's own held in a map by the same names. Own work.
-/
import Derived.Test.YtdbbdecmfnajiaaNa
namespace Go.Proofs.Ytdbbdecmfnajiaa
open Go.RowKit Go.Sort

/-- a slice reads as it did where its block has not turned -/
theorem RdI.keep {w w' : World} {v : Value} {l : List Int} (h : RdI w v l) (hk : ∀ ao n c, v = .slice (some ao) n c → w'.heap[ao.block]? = w.heap[ao.block]?) : RdI w' v l := by
  obtain ⟨ao, cap, hv, h1, h2, h3, h4⟩ := h
  refine ⟨ao, cap, hv, h1, h2, h3, fun k hk' => ?_⟩
  obtain ⟨b, off, e, c0⟩ := h4 k hk'
  refine ⟨b, off, e, ?_⟩
  subst e
  rw [World.cell?_of_block (w := w) (a := ⟨b, off + k, none⟩) (show w'.heap[b]? = w.heap[b]? from hk ⟨b, off, none⟩ _ _ hv)]
  exact c0
def NB (w : World) (F : Nat → Prop) (v : Value) : Prop := ∀ ao n c, v = .slice (some ao) n c → ¬ F ao.block ∧ ao.block < w.heap.size
/-- lists held in a map, beside rings -/
structure OS (w0 w : World) (r : Value) (size : Int) (hb m : Nat) (A : PR) (F : Nat → Prop) (hn : Nat) (H : MF) (LH : ByteArray → List Int) : Prop where
  rq : Rq w0.heap.size w0 w r size m A F
  mp : Mp w hb hn H
  hbg : w0.heap.size ≤ hb
  hnF : ¬ F hb
  cap : ∀ s x, A s = some x → x.1 = size
  rd : ∀ s v, H s = some v → RdI w v (LH s) ∧ NB w F v
  no : ∀ s, H s = none → LH s = []
/-- a block of the call's own beside -/
structure OP (w0 w : World) (F : Nat → Prop) (xb : Nat) (xo : Array Value) : Prop where
  h : w.heap[xb]? = some (.cells xo 43 (0, 0))
  nF : ¬ F xb
  ge : w0.heap.size ≤ xb
section
variable {w0 w w' : World} {r : Value} {size : Int} {hb m hn xb : Nat} {A : PR} {F G : Nat → Prop} {H : MF} {LH : ByteArray → List Int} {xo : Array Value}
theorem OS.below (h : OS w0 w r size hb m A F hn H LH) (hB : Below w.heap.size w w') : OS w0 w' r size hb m A F hn H LH :=
  ⟨h.rq.below hB, h.mp.heap (hB.block _ h.mp.lt), h.hbg, h.hnF, h.cap, fun s v hv => ⟨(h.rd s v hv).1.below hB, fun ao n c e => ⟨((h.rd s v hv).2 ao n c e).1, Nat.lt_of_lt_of_le ((h.rd s v hv).2 ao n c e).2 hB.size⟩⟩, h.no⟩
theorem OP.below (h : OP w0 w F xb xo) (hB : Below w.heap.size w w') : OP w0 w' F xb xo := ⟨(hB.block _ (lt_of h.h)).trans h.h, h.nF, h.ge⟩
theorem OS.step (h : OS w0 w r size hb m A F hn H LH) {m' : Nat} {A' : PR} (k1 : Rg w' r size m' A' G) (k2 : Step F w w' G) (hc : ∀ s x, A' s = some x → x.1 = size) : OS w0 w' r size hb m' A' G hn H LH := by
  have ng : ∀ b, b < w.heap.size → ¬ F b → ¬ G b := fun b hb hF hG => by
    rcases k2.new b hG with h1 | h1
    · exact hF h1
    · omega
  refine ⟨h.rq.step k1 k2, h.mp.heap (k2.chg.block _ h.mp.lt h.hnF), h.hbg, ng _ h.mp.lt h.hnF, hc, fun s v hv => ?_, h.no⟩
  obtain ⟨h1, h2⟩ := h.rd s v hv
  exact ⟨h1.keep fun ao n c e => k2.chg.block _ (h2 ao n c e).2 (h2 ao n c e).1, fun ao n c e => ⟨ng _ (h2 ao n c e).2 (h2 ao n c e).1, Nat.lt_of_lt_of_le (h2 ao n c e).2 k2.chg.size⟩⟩
theorem OP.step (h : OP w0 w F xb xo) (k2 : Step F w w' G) : OP w0 w' G xb xo :=
  ⟨(k2.chg.block _ (lt_of h.h) h.nF).trans h.h, fun hG => by
    rcases k2.new _ hG with h1 | h1
    · exact h.nF h1
    · have := lt_of h.h; omega, h.ge⟩
theorem OS.look (h : OS w0 w r size hb m A F hn H LH) (s : ByteArray) : RdI w ((H s).getD (.slice none 0 0)) (LH s) ∧ NB w F ((H s).getD (.slice none 0 0)) := by
  cases hs : H s with
  | none => rw [h.no s hs]; exact ⟨RdI.nil w, fun ao n c e => by cases e⟩
  | some v => exact h.rd s v hs
theorem NB.step {v : Value} (h : NB w F v) (k2 : Step F w w' G) : NB w' G v := fun ao n c e => ⟨fun hG => by
    rcases k2.new _ hG with h1 | h1
    · exact (h ao n c e).1 h1
    · have := (h ao n c e).2; omega, Nat.lt_of_lt_of_le (h ao n c e).2 k2.chg.size⟩
def setL (LH : ByteArray → List Int) (s : ByteArray) (L : List Int) : ByteArray → List Int := fun t => if t = s then L else LH t
theorem OS.store (h : OS w0 w r size hb m A F hn H LH) (hn2 : hn < 1000000) {s : ByteArray} (hs : right s) {nv : Value} {L : List Int} (hr : RdI w nv L) (hN : NB w F nv) :
    ∃ w' hn', (Instr.mapUpdate 63 (.map (some hb)) (.string s) nv).run Try.prog w = .ok () w' ∧ OS w0 w' r size hb m A F hn' (setM H s nv) (setL LH s L) ∧ hn' ≤ hn + 1 ∧ Below w0.heap.size w w' ∧ (∀ xb xo, OP w0 w F xb xo → OP w0 w' F xb xo) ∧ w.grownBy w' (some hb) := by
  obtain ⟨w', hrun, hm, hg, hz⟩ := h.mp.store mt63 hn2 hs.max nv
  obtain ⟨es, ck, hmm⟩ := h.mp.isMap
  have keepR : ∀ v l, RdI w v l → RdI w' v l := fun v l hv => by
    obtain ⟨ao, cap, e, h1, h2, h3, h4⟩ := hv
    refine ⟨ao, cap, e, h1, h2, h3, fun k hk => ?_⟩
    obtain ⟨b, off, e2, c0⟩ := h4 k hk
    refine ⟨b, off, e2, ?_⟩
    have hne : b ≠ hb := by
      rintro rfl
      simp [World.cell?, hmm] at c0
    rw [World.cell?_of_block (w := w) (a := ⟨b, off + k, none⟩) (hg.block b (World.block_lt_of_cell? w _ c0) (fun e => hne (Option.some.inj e)))]
    exact c0
  have keepN : ∀ v, NB w F v → NB w' F v := fun v hv ao n c e => ⟨(hv ao n c e).1, Nat.lt_of_lt_of_le (hv ao n c e).2 hg.size⟩
  have hB0 : Below w0.heap.size w w' := (Below.refl _ _).grown hg h.rq.le fun k e => by cases e; exact h.hbg
  refine ⟨w', _, hrun, ⟨⟨h.rq.rg.heap hg.size fun b hF => hg.block b (h.rq.rg.sub b hF) (fun e => h.hnF (by cases e; exact hF)), h.rq.new, h.rq.bel.grown hg h.rq.le (fun k e => by cases e; exact h.hbg), Nat.le_trans h.rq.le hg.size⟩, hm, h.hbg, h.hnF, h.cap, fun t v hv => ?_, fun t ht => ?_⟩, by split <;> omega, hB0, fun xb xo hx => ⟨?_, hx.nF, hx.ge⟩, hg⟩
  · unfold setM at hv
    unfold setL
    by_cases e : t = s
    · rw [if_pos e] at hv ⊢
      cases hv
      exact ⟨keepR _ _ hr, keepN _ hN⟩
    · rw [if_neg e] at hv ⊢
      exact ⟨keepR _ _ (h.rd t v hv).1, keepN _ (h.rd t v hv).2⟩
  · unfold setM at ht
    unfold setL
    by_cases e : t = s
    · rw [if_pos e] at ht; cases ht
    · rw [if_neg e] at ht ⊢
      exact h.no t ht
  · have hne : xb ≠ hb := by rintro rfl; rw [hx.h] at hmm; cases hmm
    exact (hg.block xb (lt_of hx.h) (fun e => hne (Option.some.inj e))).trans hx.h
/-- the cap is nowhere another one -/
theorem cap_set (hc : ∀ s x, A s = some x → x.1 = size) (s : ByteArray) (L : List Int) : ∀ t x, setA A s (keepO size size L) t = some x → x.1 = size := fun t x h => by
  unfold setA at h
  by_cases e : t = s
  · rw [if_pos e] at h
    unfold keepO at h
    split at h
    · cases h
    · cases h; rfl
  · rw [if_neg e] at h; exact hc t x h
theorem lA_set (A : PR) (s t : ByteArray) (L : List Int) : lA (setA A s (keepO size size L)) t = if t = s then L else lA A t := by
  by_cases e : t = s
  · rw [if_pos e, e]
    exact lA_keep (setA_same A s _)
  · rw [if_neg e]
    unfold lA
    rw [setA_other _ _ _ _ e]
theorem OS.capA (h : OS w0 w r size hb m A F hn H LH) {s : ByteArray} (hs : right s) : capA size A s = size := by
  unfold Go.Proofs.Ytdbbdecmfnajiaa.capA
  cases hA : A s with
  | none => simp [hs]
  | some x => exact h.cap s x hA
theorem keepN_le (A : PR) (s : ByteArray) (o : Option (Int × List Int)) (m : Nat) : keepN A s o m ≤ m + 1 := by
  unfold keepN
  split <;> split <;> omega
/-- at the loop's head -/
def OI (w0 w : World) (r : Value) (size : Nat) (hb i : Nat) : Prop :=
  ∃ m A F hn H LH, OS w0 w r size hb m A F hn H LH ∧ (∀ s, lA A s = LH s) ∧ m ≤ i ∧ hn ≤ i ∧ ∀ s, (LH s).length ≤ size
end
/-- in a round: the call's block is known -/
def OR (w0 w : World) (r : Value) (size : Nat) (hb i xb : Nat) (xo : Array Value) : Prop :=
  ∃ m A F hn H LH, OS w0 w r size hb m A F hn H LH ∧ (∀ s, lA A s = LH s) ∧ m ≤ i ∧ hn ≤ i ∧ (∀ s, (LH s).length ≤ size) ∧ OP w0 w F xb xo
theorem OR.oi {w0 w : World} {r : Value} {size hb i xb : Nat} {xo : Array Value} (h : OR w0 w r size hb i xb xo) : OI w0 w r size hb i := by
  obtain ⟨m, A, F, hn, H, LH, h1, h2, h3, h4, h5, -⟩ := h
  exact ⟨m, A, F, hn, H, LH, h1, h2, h3, h4, h5⟩
theorem OI.start {w0 w : World} {r : Value} {size hb i : Nat} {xo : Array Value} (h : OI w0 w r size hb i) {X : World} (hX : Hid (X = w.alloc (.cells xo 43))) : OR w0 X r size hb i w.heap.size xo := by
  obtain ⟨m, A, F, hn, H, LH, h1, h2, h3, h4, h5⟩ := h
  have hb' : Below w.heap.size w X := by rw [hX.out]; exact (Below.refl _ _).alloc (Nat.le_refl _) _
  exact ⟨m, A, F, hn, H, LH, h1.below hb', h2, h3, h4, h5, by rw [hX.out]; exact heap_new w _, fun hF => by have := h1.rq.rg.sub _ hF; omega, h1.rq.le⟩
theorem OI.bel {w0 w : World} {r : Value} {size hb i : Nat} (h : OI w0 w r size hb i) : Below w0.heap.size w0 w := by
  obtain ⟨m, A, F, hn, H, LH, h1, -⟩ := h
  exact h1.rq.bel
theorem OI.more {w0 w : World} {r : Value} {size hb i j : Nat} (h : OI w0 w r size hb i) (hj : i ≤ j) : OI w0 w r size hb j := by
  obtain ⟨m, A, F, hn, H, LH, h1, h2, h3, h4, h5⟩ := h
  exact ⟨m, A, F, hn, H, LH, h1, h2, by omega, by omega, h5⟩
theorem OR.below {w0 w w' : World} {r : Value} {size hb i xb : Nat} {xo : Array Value} (h : OR w0 w r size hb i xb xo) (hB : Below w.heap.size w w') : OR w0 w' r size hb i xb xo := by
  obtain ⟨m, A, F, hn, H, LH, h1, h2, h3, h4, h5, h6⟩ := h
  exact ⟨m, A, F, hn, H, LH, h1.below hB, h2, h3, h4, h5, h6.below hB⟩
theorem OR.more {w0 w : World} {r : Value} {size hb i j xb : Nat} {xo : Array Value} (h : OR w0 w r size hb i xb xo) (hj : i ≤ j) : OR w0 w r size hb j xb xo := by
  obtain ⟨m, A, F, hn, H, LH, h1, h2, h3, h4, h5, h6⟩ := h
  exact ⟨m, A, F, hn, H, LH, h1, h2, by omega, by omega, h5, h6⟩

/-- a ring was changed at one name, its list not yet: the list that was, the one that is to be, and what the map held -/
def OM (w0 w : World) (r : Value) (size : Nat) (hb i xb : Nat) (xo : Array Value) (s : ByteArray) (hv : Value) (L L' : List Int) : Prop :=
  ∃ m A F hn H LH, OS w0 w r size hb m A F hn H LH ∧ (∀ t, lA A t = if t = s then L' else LH t) ∧ m ≤ i + 1 ∧ hn ≤ i ∧ (∀ t, (LH t).length ≤ size) ∧ OP w0 w F xb xo ∧ RdI w hv L ∧ NB w F hv ∧ L'.length ≤ size
section
variable {w0 w w' : World} {r : Value} {size hb i xb : Nat} {xo : Array Value} {s : ByteArray} {hv : Value} {L L' : List Int}
theorem OM.below (h : OM w0 w r size hb i xb xo s hv L L') (hB : Below w.heap.size w w') : OM w0 w' r size hb i xb xo s hv L L' := by
  obtain ⟨m, A, F, hn, H, LH, h1, h2, h3, h4, h5, h6, h7, h8, h9⟩ := h
  exact ⟨m, A, F, hn, H, LH, h1.below hB, h2, h3, h4, h5, h6.below hB, h7.below hB, fun ao n c e => ⟨(h8 ao n c e).1, Nat.lt_of_lt_of_le (h8 ao n c e).2 hB.size⟩, h9⟩
theorem OM.rd (h : OM w0 w r size hb i xb xo s hv L L') : RdI w hv L := by
  obtain ⟨m, A, F, hn, H, LH, h1, h2, h3, h4, h5, h6, h7, h8, h9⟩ := h
  exact h7
theorem OM.op (h : OM w0 w r size hb i xb xo s hv L L') : w.heap[xb]? = some (.cells xo 43 (0, 0)) := by
  obtain ⟨m, A, F, hn, H, LH, h1, h2, h3, h4, h5, h6, h7, h8, h9⟩ := h
  exact h6.h
/-- the new list is laid into the map -/
theorem OM.store (h : OM w0 w r size hb i xb xo s hv L L') (hi : i ≤ 1000) (hs : right s) {u : World} (hB : Below w.heap.size w u) {nv : Value} (hr : RdI u nv L') (hN : ∀ ao n c, nv = .slice (some ao) n c → (w.heap.size ≤ ao.block ∨ ∃ n' c' ao', hv = .slice (some ao') n' c' ∧ ao'.block = ao.block) ∧ ao.block < u.heap.size) :
    ∃ w', (Instr.mapUpdate 63 (.map (some hb)) (.string s) nv).run Try.prog u = .ok () w' ∧ OR w0 w' r size hb (i + 1) xb xo := by
  obtain ⟨m, A, F, hn, H, LH, h1, h2, h3, h4, h5, h6, h7, h8, h9⟩ := h
  have hnb : NB u F nv := fun ao n c e => by
    obtain ⟨hx, hlt⟩ := hN ao n c e
    refine ⟨fun hF => ?_, hlt⟩
    rcases hx with hx | ⟨n', c', ao', e2, e3⟩
    · have := h1.rq.rg.sub _ hF; omega
    · exact (h8 ao' n' c' e2).1 (by rw [e3]; exact hF)
  obtain ⟨w', hn', hrun, k1, k2, -, k3, -⟩ := (h1.below hB).store (by omega) hs hr hnb
  refine ⟨w', hrun, m, A, F, hn', _, _, k1, fun t => ?_, h3, by omega, fun t => ?_, k3 _ _ (h6.below hB)⟩
  · rw [h2 t]; rfl
  · unfold setL
    by_cases e : t = s
    · rw [if_pos e]; exact h9
    · rw [if_neg e]; exact h5 t
end
/-- what the map holds by a name -/
theorem OR.look {w0 w : World} {r : Value} {size hb i xb : Nat} {xo : Array Value} (h : OR w0 w r size hb i xb xo) (s : ByteArray) (hs : right s) : ∃ hv L, (Instr.lookup 63 (.map (some hb)) (.string s) false).run Try.prog w = .ok hv w ∧ RdI w hv L ∧ L.length ≤ size ∧
    (∀ x : Int, if (L.length < size ∧ i < 1000) then Calls Try.prog 12 #[r, .string s, .int .i64 x] w (fun e w' => e = .returned (.int .i64 0) ∧ OM w0 w' r size hb i xb xo s hv L (L ++ [x])) else (size ≤ L.length → Calls Try.prog 12 #[r, .string s, .int .i64 x] w (fun e w' => e = .returned (.int .i64 50) ∧ OR w0 w' r size hb i xb xo))) ∧
    (∀ x t, L = x :: t → Calls Try.prog 23 #[r, .string s] w (fun e w' => e = .returned (.tuple #[.int .i64 x, .bool true]) ∧ OM w0 w' r size hb i xb xo s hv L t)) ∧
    (L = [] → Calls Try.prog 23 #[r, .string s] w (fun e w' => e = .returned (.tuple #[.int .i64 0, .bool false]) ∧ OR w0 w' r size hb i xb xo)) ∧
    (∀ x, x ∈ L → Calls Try.prog 25 #[r, .string s, .int .i64 x] w (fun e w' => e = .returned (.bool true) ∧ OM w0 w' r size hb i xb xo s hv L (L.erase x))) ∧
    (∀ x, x ∉ L → Calls Try.prog 25 #[r, .string s, .int .i64 x] w (fun e w' => e = .returned (.bool false) ∧ OR w0 w' r size hb i xb xo)) ∧
    Calls Try.prog 18 #[r, .string s] w (fun e w' => e = .returned (.int .i64 L.length) ∧ Below w.heap.size w w') ∧
    Calls Try.prog 14 #[r, .string s] w (fun e w' => e = .returned (.int .i64 (max ((size : Int) - L.length) 0)) ∧ Below w.heap.size w w') ∧
    Calls Try.prog 29 #[r, .string s, hv] w (fun e w' => e = .returned (.bool true) ∧ Below w.heap.size w w') := by
  have hh := h
  obtain ⟨m, A, F, hn, H, LH, h1, h2, h3, h4, h5, h6⟩ := h
  have hlk := h1.look s
  have hcap := h1.capA hs
  have hl65 := (h1.rq.rg.cap s).1
  rw [h2] at hl65
  have mkM : ∀ (w' : World) (G : Nat → Prop) (m' : Nat) (L' : List Int), Rg w' r size m' (setA A s (keepO size size L')) G → Step F w w' G → m' ≤ i + 1 → L'.length ≤ size → OM w0 w' r size hb i xb xo s ((H s).getD (.slice none 0 0)) (LH s) L' := fun w' G m' L' k1 k2 hm hL =>
    ⟨m', _, G, hn, H, LH, h1.step k1 k2 (cap_set h1.cap s L'), fun t => by rw [lA_set, h2], hm, h4, h5, h6.step k2, hlk.1.keep fun ao n c e => k2.chg.block _ (hlk.2 ao n c e).2 (hlk.2 ao n c e).1, hlk.2.step k2, hL⟩
  have mkR : ∀ (w' : World) (G : Nat → Prop), Rg w' r size m A G → Step F w w' G → OR w0 w' r size hb i xb xo := fun w' G k1 k2 =>
    ⟨m, A, G, hn, H, LH, h1.step k1 k2 h1.cap, h2, h3, h4, h5, h6.step k2⟩
  refine ⟨(H s).getD (.slice none 0 0), LH s, h1.mp.look mt63 hs.max, hlk.1, h5 s, fun x => ?_, fun x t hL => ?_, fun hL => ?_, fun x hx => ?_, fun x hx => ?_, ?_, ?_, ?_⟩
  · split
    · rename_i hc
      have hp : putR size m A s x = (0, setA A s (keepO size size (LH s ++ [x])), keepN A s (keepO size size (LH s ++ [x])) m) := by
        unfold putR
        rw [if_neg (fun h => h hs), hcap, h2, if_neg (by omega), if_neg (fun h => by omega)]
      have k := put_r h1.rq.rg s hs.max x
      rw [hp] at k
      refine k.mono ?_
      rintro e w' ⟨rfl, G, k1, k2⟩
      exact ⟨rfl, mkM w' G (keepN A s (keepO size size (LH s ++ [x])) m) _ k1 k2 (by have := keepN_le A s (keepO size size (LH s ++ [x])) m; omega) (by rw [List.length_append]; simp; omega)⟩
    · intro hc
      have hp : putR size m A s x = (50, A, m) := by
        unfold putR
        rw [if_neg (fun h => h hs), hcap, h2, if_pos (by omega)]
      have k := put_r h1.rq.rg s hs.max x
      rw [hp] at k
      refine k.mono ?_
      rintro e w' ⟨rfl, G, k1, k2⟩
      exact ⟨rfl, mkR w' G k1 k2⟩
  · have hp : takeR size m A s = (setA A s (keepO size size t), keepN A s (keepO size size t) m) := by
      unfold takeR
      rw [h2, hL]
      simp only
      rw [hcap]
    have hd : headA A s = (x, true) := by unfold headA; rw [h2, hL]
    have k := take_r h1.rq.rg s hs.max
    rw [hp, hd] at k
    refine k.mono ?_
    rintro e w' ⟨rfl, G, k1, k2⟩
    exact ⟨rfl, mkM w' G (keepN A s (keepO size size t) m) _ k1 k2 (by have := keepN_le A s (keepO size size t) m; omega) (by have := h5 s; rw [hL, List.length_cons] at this; omega)⟩
  · have hp : takeR size m A s = (A, m) := by
      unfold takeR
      rw [h2, hL]
    have hd : headA A s = (0, false) := by unfold headA; rw [h2, hL]
    have k := take_r h1.rq.rg s hs.max
    rw [hp, hd] at k
    refine k.mono ?_
    rintro e w' ⟨rfl, G, k1, k2⟩
    exact ⟨rfl, mkR w' G k1 k2⟩
  · have hp : dropR size m A s x = (setA A s (keepO size size ((LH s).erase x)), keepN A s (keepO size size ((LH s).erase x)) m) := by
      unfold dropR
      rw [h2, if_pos hx, hcap]
    have k := drop_r h1.rq.rg s hs.max x
    rw [hp, h2, decide_eq_true hx] at k
    refine k.mono ?_
    rintro e w' ⟨rfl, G, k1, k2⟩
    exact ⟨rfl, mkM w' G (keepN A s (keepO size size ((LH s).erase x)) m) _ k1 k2 (by have := keepN_le A s (keepO size size ((LH s).erase x)) m; omega) (by have := h5 s; have h7 := List.length_erase_of_mem hx; omega)⟩
  · have hp : dropR size m A s x = (A, m) := by
      unfold dropR
      rw [h2, if_neg hx]
    have k := drop_r h1.rq.rg s hs.max x
    rw [hp, h2, decide_eq_false hx] at k
    refine k.mono ?_
    rintro e w' ⟨rfl, G, k1, k2⟩
    exact ⟨rfl, mkR w' G k1 k2⟩
  · have k := len_r h1.rq.rg s hs.max
    rw [h2] at k
    exact k
  · have k := room_r h1.rq.rg s hs.max
    rw [h2, hcap] at k
    exact k
  · have k := has_r h1.rq.rg s hs.max hlk.1 (by omega)
    rw [h2, decide_eq_true rfl] at k
    exact k
end Go.Proofs.Ytdbbdecmfnajiaa
