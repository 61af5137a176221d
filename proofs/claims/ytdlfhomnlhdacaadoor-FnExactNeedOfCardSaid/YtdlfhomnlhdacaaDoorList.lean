/-
  Lists of goats: an argument opened to cells.
-/
import Derived.Test.YtdlfhomnlhdacaaDoorGoatT
import Derived.Test.YtdlfhomnlhdacaaDoorListK
namespace Go.Proofs.YtdlfhomnlhdacaaDoor
open Go Go.RowKit Go.BigFrame Go.ChangeShapes Go.WideShapes Go.Deep

/-! ### Goats as arguments -/
structure FitsG (h : Nat → Int) : Prop where
  lo : ∀ k, k < 4 → -128 ≤ h k ∧ h k ≤ 127
  mid : ∀ k, 4 ≤ k → k < 6 → -32768 ≤ h k ∧ h k ≤ 32767
  hi : -128 ≤ h 6 ∧ h 6 ≤ 127
def gts (hs : Nat → Nat → Int) : Nat → Value := fun k => gt (hs (k / 7)) (k % 7)
def GoatArg (W : World) (v : Value) (n : Nat) (hs : Nat → Nat → Int) : Prop :=
  (n = 0 ∧ v = .slice none 0 0) ∨ ∃ b o c, v = .slice (some ⟨b, o, none⟩) n c ∧ Lies W b o (n * 7) (gts hs)
theorem GoatArg.below {w W : World} {v : Value} {n : Nat} {hs : Nat → Nat → Int} (h : GoatArg w v n hs) (hb : Below w.heap.size w W) : GoatArg W v n hs := by
  rcases h with h | ⟨b, o, c, e, h⟩
  · exact .inl h
  · exact .inr ⟨b, o, c, e, h.below hb⟩

section
variable {H : Type} {enc : TypeId × Value → H} {w : World} {base : Nat} {spare : Nat → Bool} {held : Bool}
set_option maxRecDepth 100000 in
theorem goat_cells {fuel : Nat} {cs : List Value} {x : DataW H × List MemPlace} (h : DataW.trod enc Tryd.prog w base spare held fuel 107 cs = some x) :
    ∃ g : Nat → Int, cs = (List.range 7).map (gt g) ∧ FitsG g := by
  obtain ⟨xs, n, -, -, hlen, hxl, hf⟩ := DataW.trod_struct Tryd.underlying107 h
  have e : Tryd.prog.cellsOf 107 = 7 := by kernel_rfl
  have e2 : Tryd.prog.cellsOf 36 = 2 := by kernel_rfl
  have e8 : Tryd.prog.cellsOf 22 = 1 := by kernel_rfl
  have e16 : Tryd.prog.cellsOf 23 = 1 := by kernel_rfl
  rw [e] at hlen
  match cs, hlen with
  | [c0, c1, c2, c3, c4, c5, c6], _ =>
    match xs, hxl with
    | [y0, y1, y2, y3, y4], _ =>
      have h0 := hf 0 _ rfl
      have h1 := hf 1 _ rfl
      have h2 := hf 2 _ rfl
      have h3 := hf 3 _ rfl
      have h4 := hf 4 _ rfl
      change DataW.trod _ _ _ _ _ _ _ 36 ((List.drop 0 [c0, c1, c2, c3, c4, c5, c6]).take (Tryd.prog.cellsOf 36)) = some y0 at h0
      change DataW.trod _ _ _ _ _ _ _ 36 ((List.drop 2 [c0, c1, c2, c3, c4, c5, c6]).take (Tryd.prog.cellsOf 36)) = some y1 at h1
      change DataW.trod _ _ _ _ _ _ _ 23 ((List.drop 4 [c0, c1, c2, c3, c4, c5, c6]).take (Tryd.prog.cellsOf 23)) = some y2 at h2
      change DataW.trod _ _ _ _ _ _ _ 23 ((List.drop 5 [c0, c1, c2, c3, c4, c5, c6]).take (Tryd.prog.cellsOf 23)) = some y3 at h3
      change DataW.trod _ _ _ _ _ _ _ 22 ((List.drop 6 [c0, c1, c2, c3, c4, c5, c6]).take (Tryd.prog.cellsOf 22)) = some y4 at h4
      rw [e2] at h0 h1
      rw [e16] at h2 h3
      rw [e8] at h4
      obtain ⟨p0, p1, hp, b0, b1⟩ := spot_cells h0
      obtain ⟨p2, p3, hq, b2, b3⟩ := spot_cells h1
      obtain ⟨p4, h4', b4⟩ := trod_num Tryd.underlying23 h2
      obtain ⟨p5, h5', b5⟩ := trod_num Tryd.underlying23 h3
      obtain ⟨p6, h6', b6⟩ := trod_num Tryd.underlying22 h4
      simp at hp hq h4' h5' h6'
      refine ⟨fun k => match k with | 0 => p0 | 1 => p1 | 2 => p2 | 3 => p3 | 4 => p4 | 5 => p5 | _ => p6, ?_, ?_, ?_, ?_⟩
      · obtain ⟨rfl, rfl⟩ := hp
        obtain ⟨rfl, rfl⟩ := hq
        subst h4' h5' h6'
        rfl
      · intro k hk
        rcases (show k = 0 ∨ k = 1 ∨ k = 2 ∨ k = 3 by omega) with rfl | rfl | rfl | rfl
        · exact b0
        · exact b1
        · exact b2
        · exact b3
      · intro k hk hk'
        rcases (show k = 4 ∨ k = 5 by omega) with rfl | rfl
        · exact has_i16 b4
        · exact has_i16 b5
      · exact has_i8 b6

set_option maxRecDepth 100000 in
/-- A list of goats out of its type and its reading. -/
theorem open_goats {t : TypeId} (ht : Tryd.prog.underlying t = some (.slice 107)) {b0 : Nat} {v : Value} {d : DataW H} {p : List MemPlace} (hval : Value.okWide Tryd.prog w .any b0 t v) (h : DataW.Trod enc Tryd.prog w base spare held t v d p) :
    ∃ n hs, n ≤ maxLen ∧ (∀ i, i < n → FitsG (hs i)) ∧ GoatArg w v n hs := by
  obtain ⟨fuel, h⟩ := h
  have e : Tryd.prog.cellsOf 107 = 7 := by kernel_rfl
  obtain ⟨sa, sl, sc, rfl⟩ := okWide_slice ht hval
  rcases open_slice ht h with ⟨h1, -⟩ | ⟨a, len, cap, m, n, D, Pl, hcs, hb, hl, hm, hmm, -, hi⟩
  · simp only [Value.cells] at h1
    obtain ⟨rfl, rfl, rfl⟩ : sa = none ∧ sl = 0 ∧ sc = 0 := by simpa using h1
    exact ⟨0, fun _ _ => 0, by decide, fun i hi => absurd hi (by omega), .inl ⟨rfl, rfl⟩⟩
  · obtain ⟨e1, e2, e3⟩ : sa = some a ∧ sl = len ∧ sc = cap := by simpa [Value.cells] using hcs
    subst e1 e2 e3
    have hlen : sl ≤ m := by rw [hmm]; split <;> omega
    rw [e] at hi
    have key : ∀ i, ∃ g : Nat → Int, i < sl → (FitsG g ∧ ∀ j, j < 7 → w.cell? (a.add (i * 7 + j)) = some (gt g j)) := fun i => by
      by_cases hil : i < sl
      · obtain ⟨cs', hc, ht'⟩ := hi i (by omega)
        obtain ⟨g, hg, fg⟩ := goat_cells ht'
        obtain ⟨-, -, hat⟩ := World.cells?_some hc
        refine ⟨g, fun _ => ⟨fg, fun j hj => ?_⟩⟩
        have := hat j hj
        rw [← Go.Deep.add_add] 
        rw [this, hg]
        simp [hj]
      · exact ⟨fun _ => 0, fun h => absurd h hil⟩
    have hspot : a.spot = none := by
      unfold Value.okWide at hval
      rw [ht] at hval
      simp only [Cell.okWide, Cell.ok, ht] at hval
      exact hval.2.2.2.1
    obtain ⟨ab, ao, asp⟩ := a
    simp only at hspot
    subst hspot
    refine ⟨sl, fun i => (key i).choose, by omega, fun i hil => ((key i).choose_spec hil).1, .inr ⟨ab, ao, sc, rfl, fun k hk => ?_⟩⟩
    have hki := ((key (k / 7)).choose_spec (by omega)).2 (k % 7) (by omega)
    rw [show k / 7 * 7 + k % 7 = k by omega] at hki
    have e2 : (⟨ab, ao, none⟩ : Addr).add k = ⟨ab, ao + k, none⟩ := by
      unfold Addr.add
      by_cases h0 : k = 0
      · simp [h0]
      · simp [h0]
    rw [e2] at hki
    exact hki
end
end Go.Proofs.YtdlfhomnlhdacaaDoor
