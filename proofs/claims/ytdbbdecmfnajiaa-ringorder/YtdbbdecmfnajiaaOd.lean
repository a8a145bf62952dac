/-
  What is told of one name, at whatever world behind. Own work.
-/
import Derived.Test.YtdbbdecmfnajiaaOc
namespace Go.Proofs.Ytdbbdecmfnajiaa
open Go.RowKit Go.Sort

/-- what the map holds by a name, at whatever world behind -/
theorem OR.lookB {w0 w : World} {r : Value} {size hb i xb : Nat} {xo : Array Value} (h : OR w0 w r size hb i xb xo) (s : ByteArray) (hs : right s) : ∃ hv L, L.length ≤ size ∧ ∀ u, Below w.heap.size w u → (Instr.lookup 63 (.map (some hb)) (.string s) false).run Try.prog u = .ok hv u ∧ RdI u hv L ∧
    (∀ x : Int, if (L.length < size ∧ i < 1000) then Calls Try.prog 12 #[r, .string s, .int .i64 x] u (fun e w' => e = .returned (.int .i64 0) ∧ OM w0 w' r size hb i xb xo s hv L (L ++ [x])) else (size ≤ L.length → Calls Try.prog 12 #[r, .string s, .int .i64 x] u (fun e w' => e = .returned (.int .i64 50) ∧ OR w0 w' r size hb i xb xo))) ∧
    (∀ x t, L = x :: t → Calls Try.prog 23 #[r, .string s] u (fun e w' => e = .returned (.tuple #[.int .i64 x, .bool true]) ∧ OM w0 w' r size hb i xb xo s hv L t)) ∧
    (L = [] → Calls Try.prog 23 #[r, .string s] u (fun e w' => e = .returned (.tuple #[.int .i64 0, .bool false]) ∧ OR w0 w' r size hb i xb xo)) ∧
    (∀ x, x ∈ L → Calls Try.prog 25 #[r, .string s, .int .i64 x] u (fun e w' => e = .returned (.bool true) ∧ OM w0 w' r size hb i xb xo s hv L (L.erase x))) ∧
    (∀ x, x ∉ L → Calls Try.prog 25 #[r, .string s, .int .i64 x] u (fun e w' => e = .returned (.bool false) ∧ OR w0 w' r size hb i xb xo)) ∧
    Calls Try.prog 18 #[r, .string s] u (fun e w' => e = .returned (.int .i64 L.length) ∧ Below u.heap.size u w') ∧
    Calls Try.prog 14 #[r, .string s] u (fun e w' => e = .returned (.int .i64 (max ((size : Int) - L.length) 0)) ∧ Below u.heap.size u w') ∧
    Calls Try.prog 29 #[r, .string s, hv] u (fun e w' => e = .returned (.bool true) ∧ Below u.heap.size u w') := by
  obtain ⟨m, A, F, hn, H, LH, h1, h2, h3, h4, h5, h6⟩ := h
  refine ⟨(H s).getD (.slice none 0 0), LH s, h5 s, fun u hu => ?_⟩
  have h1 := h1.below hu
  have h6 := h6.below hu
  have hlk := h1.look s
  have hcap := h1.capA hs
  have hl65 := (h1.rq.rg.cap s).1
  rw [h2] at hl65
  have mkM : ∀ (w' : World) (G : Nat → Prop) (m' : Nat) (L' : List Int), Rg w' r size m' (setA A s (keepO size size L')) G → Step F u w' G → m' ≤ i + 1 → L'.length ≤ size → OM w0 w' r size hb i xb xo s ((H s).getD (.slice none 0 0)) (LH s) L' := fun w' G m' L' k1 k2 hm hL =>
    ⟨m', _, G, hn, H, LH, h1.step k1 k2 (cap_set h1.cap s L'), fun t => by rw [lA_set, h2], hm, h4, h5, h6.step k2, hlk.1.keep fun ao n c e => k2.chg.block _ (hlk.2 ao n c e).2 (hlk.2 ao n c e).1, hlk.2.step k2, hL⟩
  have mkR : ∀ (w' : World) (G : Nat → Prop), Rg w' r size m A G → Step F u w' G → OR w0 w' r size hb i xb xo := fun w' G k1 k2 =>
    ⟨m, A, G, hn, H, LH, h1.step k1 k2 h1.cap, h2, h3, h4, h5, h6.step k2⟩
  refine ⟨h1.mp.look mt63 hs.max, hlk.1, fun x => ?_, fun x t hL => ?_, fun hL => ?_, fun x hx => ?_, fun x hx => ?_, ?_, ?_, ?_⟩
  · split
    · rename_i hc
      have hp : putR size m A s x = (0, setA A s (keepO size size (LH s ++ [x])), keepN A s (keepO size size (LH s ++ [x])) m) := by
        unfold putR
        rw [if_neg (fun h => h hs), hcap, h2, if_neg (by omega), if_neg (fun h => by omega)]
      have k := put_r h1.rq.rg s hs.max x
      rw [hp] at k
      refine k.mono ?_
      rintro e w' ⟨rfl, G, k1, k2⟩
      exact ⟨rfl, mkM w' G (keepN A s (keepO size size (LH s ++ [x])) m) _ k1 k2 (by have := keepN_le A s (keepO size size (LH s ++ [x])) m; omega) (by rw [List.length_append]; simp; omega)⟩
    · intro hc
      have hp : putR size m A s x = (50, A, m) := by
        unfold putR
        rw [if_neg (fun h => h hs), hcap, h2, if_pos (by omega)]
      have k := put_r h1.rq.rg s hs.max x
      rw [hp] at k
      refine k.mono ?_
      rintro e w' ⟨rfl, G, k1, k2⟩
      exact ⟨rfl, mkR w' G k1 k2⟩
  · have hp : takeR size m A s = (setA A s (keepO size size t), keepN A s (keepO size size t) m) := by
      unfold takeR
      rw [h2, hL]
      simp only
      rw [hcap]
    have hd : headA A s = (x, true) := by unfold headA; rw [h2, hL]
    have k := take_r h1.rq.rg s hs.max
    rw [hp, hd] at k
    refine k.mono ?_
    rintro e w' ⟨rfl, G, k1, k2⟩
    exact ⟨rfl, mkM w' G (keepN A s (keepO size size t) m) _ k1 k2 (by have := keepN_le A s (keepO size size t) m; omega) (by have := h5 s; rw [hL, List.length_cons] at this; omega)⟩
  · have hp : takeR size m A s = (A, m) := by
      unfold takeR
      rw [h2, hL]
    have hd : headA A s = (0, false) := by unfold headA; rw [h2, hL]
    have k := take_r h1.rq.rg s hs.max
    rw [hp, hd] at k
    refine k.mono ?_
    rintro e w' ⟨rfl, G, k1, k2⟩
    exact ⟨rfl, mkR w' G k1 k2⟩
  · have hp : dropR size m A s x = (setA A s (keepO size size ((LH s).erase x)), keepN A s (keepO size size ((LH s).erase x)) m) := by
      unfold dropR
      rw [h2, if_pos hx, hcap]
    have k := drop_r h1.rq.rg s hs.max x
    rw [hp, h2, decide_eq_true hx] at k
    refine k.mono ?_
    rintro e w' ⟨rfl, G, k1, k2⟩
    exact ⟨rfl, mkM w' G (keepN A s (keepO size size ((LH s).erase x)) m) _ k1 k2 (by have := keepN_le A s (keepO size size ((LH s).erase x)) m; omega) (by have := h5 s; have h7 := List.length_erase_of_mem hx; omega)⟩
  · have hp : dropR size m A s x = (A, m) := by
      unfold dropR
      rw [h2, if_neg hx]
    have k := drop_r h1.rq.rg s hs.max x
    rw [hp, h2, decide_eq_false hx] at k
    refine k.mono ?_
    rintro e w' ⟨rfl, G, k1, k2⟩
    exact ⟨rfl, mkR w' G k1 k2⟩
  · have k := len_r h1.rq.rg s hs.max
    rw [h2] at k
    exact k
  · have k := room_r h1.rq.rg s hs.max
    rw [h2, hcap] at k
    exact k
  · have k := has_r h1.rq.rg s hs.max hlk.1 (by omega)
    rw [h2, decide_eq_true rfl] at k
    exact k
/-- where the number lies first, as far as it was looked for from behind -/
def AT (L : List Int) (nn : Int) (j : Nat) (a : Int) : Prop :=
  (a = -1 ∧ ∀ i, j ≤ i → L[i]? ≠ some nn) ∨ ∃ t : Nat, a = (t : Int) ∧ j ≤ t ∧ L[t]? = some nn ∧ ∀ i, j ≤ i → i < t → L[i]? ≠ some nn
theorem AT.start (L : List Int) (nn : Int) : AT L nn L.length (-1) := .inl ⟨rfl, fun i hi => by simp [hi]⟩
theorem AT.hit {L : List Int} {nn : Int} {j : Nat} (hj : L[j]? = some nn) : AT L nn j (j : Int) := .inr ⟨j, rfl, Nat.le_refl _, hj, fun i h1 h2 => by omega⟩
theorem AT.miss {L : List Int} {nn a : Int} {j : Nat} (h : AT L nn (j + 1) a) (hj : L[j]? ≠ some nn) : AT L nn j a := by
  rcases h with ⟨e, h⟩ | ⟨t, e, h1, h2, h3⟩
  · refine .inl ⟨e, fun i hi => ?_⟩
    by_cases e2 : i = j
    · rw [e2]; exact hj
    · exact h i (by omega)
  · refine .inr ⟨t, e, by omega, h2, fun i hi hi2 => ?_⟩
    by_cases e2 : i = j
    · rw [e2]; exact hj
    · exact h3 i (by omega) hi2
theorem AT.done {L : List Int} {nn a : Int} (h : AT L nn 0 a) : (a = -1 ∧ nn ∉ L) ∨ ∃ t : Nat, a = (t : Int) ∧ t < L.length ∧ nn ∈ L ∧ L.erase nn = L.take t ++ L.drop (t + 1) := by
  rcases h with ⟨e, h⟩ | ⟨t, e, h1, h2, h3⟩
  · refine .inl ⟨e, fun hm => ?_⟩
    obtain ⟨i, hi⟩ := List.mem_iff_getElem?.1 hm
    exact h i (Nat.zero_le _) hi
  · exact .inr ⟨t, e, (List.getElem?_eq_some_iff.1 h2).1, List.mem_iff_getElem?.2 ⟨t, h2⟩, erase_at t h2 fun i hi => h3 i (Nat.zero_le _) hi⟩
end Go.Proofs.Ytdbbdecmfnajiaa
