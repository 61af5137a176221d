/-
  Several texts in one: HerdV, HerdM, HeadC, Sets, PastW, PastTS.
-/
import Derived.Test.YtcdpdcjdjcbhcaaDoorP2
import Derived.Test.YtcdpdcjdjcbhcaaDoorP8
import Derived.Lib.TrailingZeros
import Derived.Laws.Strings
import Derived.Test.YtcdpdcjdjcbhcaaDoorP4
import Derived.Test.YtcdpdcjdjcbhcaaDoorP5
import Derived.Test.YtcdpdcjdjcbhcaaDoorP7
import Derived.Laws.BitsLemmas
import Derived.Laws.Shifts
import Derived.Test.YtcdpdcjdjcbhcaaDoorP6
/-
  A herd's three lists: an argument opened.
-/
namespace Go.Proofs.YtcdpdcjdjcbhcaaDoor
open Go Go.RowKit Go.BigFrame Go.ChangeShapes Go.WideShapes Go.Deep

structure Hd where
  n1 : Nat
  n2 : Nat
  n3 : Nat
  ss : Nat → ByteArray
  es : Nat → Int
  fs : Nat → Int
structure FitsH (d : Hd) : Prop where
  l1 : d.n1 ≤ maxLen
  l2 : d.n2 ≤ maxLen
  l3 : d.n3 ≤ maxLen
  s : ∀ i, i < d.n1 → (d.ss i).size ≤ maxLen
  e : ∀ i, i < d.n2 → -32768 ≤ d.es i ∧ d.es i ≤ 32767
  f : ∀ i, i < d.n3 → 0 ≤ d.fs i ∧ d.fs i ≤ 65535
def h3 (a b c : Value) : Nat → Value := fun k => if k = 0 then a else if k = 1 then b else c
def HerdArg (W : World) (v : Value) (d : Hd) : Prop := ∃ v1 v2 v3, v = .agg (arr 3 (h3 v1 v2 v3)) ∧ Arg1 W v1 d.n1 (vStringS d.ss) ∧ Arg1 W v2 d.n2 (vInt16S d.es) ∧ Arg1 W v3 d.n3 (vUint16S d.fs)
theorem HerdArg.below {w W : World} {v : Value} {d : Hd} (h : HerdArg w v d) (hb : Below w.heap.size w W) : HerdArg W v d := by
  obtain ⟨v1, v2, v3, e, h1, h2, h3⟩ := h
  exact ⟨v1, v2, v3, e, h1.below hb, h2.below hb, h3.below hb⟩

section
variable {H : Type} {enc : TypeId × Value → H} {w : World} {base : Nat} {spare : Nat → Bool} {held : Bool}
set_option maxRecDepth 100000 in
theorem open_herd {b0 : Nat} {v : Value} {d : DataW H} {p : List MemPlace} (hval : Value.okWide Tryd.prog w .any b0 73 v) (h : DataW.Trod enc Tryd.prog w base spare held 73 v d p) :
    ∃ D : Hd, FitsH D ∧ HerdArg w v D := by
  unfold Value.okWide at hval
  rw [Tryd.underlying73] at hval
  obtain ⟨cs, rfl, hsz, ts, hts, -, hcell⟩ := hval
  have e1 : Tryd.prog.cellsOf 73 = 3 := by kernel_rfl
  have e2 : Tryd.prog.cellTypes Tryd.prog.depth 73 = some [69, 70, 71] := by kernel_rfl
  rw [e1] at hsz
  obtain rfl : [69, 70, 71] = ts := Option.some.inj (e2.symm.trans hts)
  obtain ⟨fuel, h⟩ := h
  have hcs : (Value.agg cs).cells = cs := rfl
  rw [hcs] at h
  obtain ⟨xs, n, -, -, hlen, hxl, hf⟩ := DataW.trod_struct Tryd.underlying73 h
  obtain ⟨l⟩ := cs
  simp only [List.size_toArray] at hsz
  have f1 : Tryd.prog.cellsOf 69 = 1 := by kernel_rfl
  have f2 : Tryd.prog.cellsOf 70 = 1 := by kernel_rfl
  have f3 : Tryd.prog.cellsOf 71 = 1 := by kernel_rfl
  match l, hsz with
  | [c0, c1, c2], _ =>
    match xs, hxl with
    | [y0, y1, y2], _ =>
      have h0 := hf 0 _ rfl
      have h1 := hf 1 _ rfl
      have h2 := hf 2 _ rfl
      change DataW.trod _ _ _ _ _ _ _ 69 ((List.drop 0 [c0, c1, c2]).take (Tryd.prog.cellsOf 69)) = some y0 at h0
      change DataW.trod _ _ _ _ _ _ _ 70 ((List.drop 1 [c0, c1, c2]).take (Tryd.prog.cellsOf 70)) = some y1 at h1
      change DataW.trod _ _ _ _ _ _ _ 71 ((List.drop 2 [c0, c1, c2]).take (Tryd.prog.cellsOf 71)) = some y2 at h2
      rw [f1] at h0
      rw [f2] at h1
      rw [f3] at h2
      obtain ⟨u0, hu0, k0⟩ := hcell 0 c0 rfl
      obtain ⟨u1, hu1, k1⟩ := hcell 1 c1 rfl
      obtain ⟨u2, hu2, k2⟩ := hcell 2 c2 rfl
      simp at hu0 hu1 hu2
      subst hu0 hu1 hu2
      obtain ⟨n1, ss, hn1, hs, A1⟩ := openStringS k0 h0
      obtain ⟨n2, es, hn2, he, A2⟩ := openInt16S k1 h1
      obtain ⟨n3, fs, hn3, hf', A3⟩ := openUint16S k2 h2
      refine ⟨⟨n1, n2, n3, ss, es, fs⟩, ⟨hn1, hn2, hn3, hs, he, hf'⟩, c0, c1, c2, ?_, A1, A2, A3⟩
      rfl
end
end Go.Proofs.YtcdpdcjdjcbhcaaDoor

/-
  PLAIN: sets of goats as numbers of 16 bits; names; valid herds, as the document has them and as the program finds them.
-/
namespace Go.Proofs.YtcdpdcjdjcbhcaaDoor
open Go Go.RowKit

/-- The bits of a set, ascending. -/
def bitsL (s : Nat) : List Nat := (List.range 16).filter fun k => s.testBit k
/-- The least bit of a set. -/
def tz (s : Nat) : Nat := Go.Lib.ctz 16 s
theorem mem_bitsL {s k : Nat} (h : s < 65536) : k ∈ bitsL s ↔ s.testBit k = true := by
  simp only [bitsL, List.mem_filter, List.mem_range, and_iff_right_iff_imp]
  intro hk
  refine Nat.lt_of_not_le fun hge => ?_
  have : s < 2 ^ k := Nat.lt_of_lt_of_le h (Nat.pow_le_pow_right (by decide) hge : 2 ^ 16 ≤ 2 ^ k)
  rw [Nat.testBit_lt_two_pow this] at hk
  exact absurd hk (by decide)
theorem bit_lt {s k n : Nat} (h : s < 2 ^ n) (hk : s.testBit k = true) : k < n := by
  refine Nat.lt_of_not_le fun hge => ?_
  have : s < 2 ^ k := Nat.lt_of_lt_of_le h (Nat.pow_le_pow_right (by decide) hge)
  rw [Nat.testBit_lt_two_pow this] at hk
  exact absurd hk (by decide)
theorem tz_spec {s : Nat} (h : s < 65536) (h0 : s ≠ 0) : tz s < 16 ∧ s.testBit (tz s) = true ∧ ∀ j, j < tz s → s.testBit j = false := by
  obtain ⟨m, hm, hk⟩ := Go.Lib.ctzFrom_spec 16 s (by omega) h
  have e : tz s = Go.Lib.ctzFrom 16 s := by simp [tz, Go.Lib.ctz, h0]
  rw [e]
  generalize Go.Lib.ctzFrom 16 s = k at hm hk ⊢
  subst hm
  refine ⟨hk, ?_, fun j hj => ?_⟩
  · rw [Nat.mul_comm, Nat.testBit_mul_two_pow]; simp [Nat.testBit_zero]
  · rw [Nat.mul_comm, Nat.testBit_mul_two_pow]; simp; omega
/-- A set without one of its bits. -/
def less (s k : Nat) : Nat := s &&& (65535 ^^^ 2 ^ k)
theorem less_bit {s k : Nat} (h : s < 65536) (j : Nat) : (less s k).testBit j = (s.testBit j && decide (j ≠ k)) := by
  unfold less
  rw [Nat.testBit_and, Nat.testBit_xor, show (65535 : Nat) = 2 ^ 16 - 1 by rfl, Nat.testBit_two_pow_sub_one, Nat.testBit_two_pow]
  by_cases hj : s.testBit j = true
  · have := bit_lt (n := 16) h hj
    by_cases e : k = j
    · subst e; simp [this]
    · have e' : ¬ j = k := fun h => e h.symm
      simp [this, e, e']
  · simp at hj; simp [hj]
theorem less_lt {s k : Nat} (h : s < 65536) : less s k < 65536 := Nat.lt_of_le_of_lt Nat.and_le_left h
theorem bitsL_cons {s : Nat} (h : s < 65536) (h0 : s ≠ 0) : bitsL s = tz s :: bitsL (less s (tz s)) := by
  obtain ⟨h1, h2, h3⟩ := tz_spec h h0
  generalize tz s = t at h1 h2 h3 ⊢
  have hr : List.range 16 = List.range t ++ t :: (List.range (15 - t)).map (t + 1 + ·) := by
    rw [show 16 = (t + 1) + (15 - t) by omega, List.range_add, List.range_succ]
    simp
  unfold bitsL
  rw [hr]
  simp only [List.filter_append, List.filter_cons, less_bit h, h2, Bool.true_and]
  have e1 : (List.range t).filter (fun k => s.testBit k) = [] := by
    rw [List.filter_eq_nil_iff]; intro a ha; simp [h3 a (by simpa using ha)]
  have e2 : (List.range t).filter (fun k => s.testBit k && decide (k ≠ t)) = [] := by
    rw [List.filter_eq_nil_iff]; intro a ha; simp [h3 a (by simpa using ha)]
  rw [e1, e2]
  simp
  apply List.filter_congr
  intro a ha
  simp at ha
  obtain ⟨b, _, rfl⟩ := ha
  have : ¬ t + 1 + b = t := by omega
  simp [this]
theorem bitsL_zero : bitsL 0 = [] := by simp [bitsL]
theorem bitsL_len (s : Nat) : (bitsL s).length ≤ 16 := by
  have := List.length_filter_le (fun k => s.testBit k) (List.range 16)
  simpa [bitsL] using this

/-! ### Names -/
def byteAt (s : ByteArray) (i : Nat) : Nat := ((s[i]?).map (·.toNat)).getD 0
/-- Are the first k bytes letters? -/
def nameU (s : ByteArray) : Nat → Bool
  | 0 => true
  | k + 1 => nameU s k && decide (97 ≤ byteAt s k ∧ byteAt s k ≤ 122)
def nameB (s : ByteArray) : Bool := decide (1 ≤ s.size ∧ s.size ≤ 8) && nameU s s.size
theorem nameU_iff {s : ByteArray} : ∀ {n : Nat}, nameU s n = true ↔ ∀ k, k < n → 97 ≤ byteAt s k ∧ byteAt s k ≤ 122
  | 0 => by simp [nameU]
  | n + 1 => by
    simp only [nameU, Bool.and_eq_true, decide_eq_true_eq, nameU_iff (n := n)]
    constructor
    · intro ⟨h1, h2⟩ k hk
      rcases Nat.lt_succ_iff_lt_or_eq.1 hk with h | rfl
      · exact h1 k h
      · exact h2
    · intro h
      exact ⟨fun k hk => h k (by omega), h n (by omega)⟩
theorem name_no {s : ByteArray} {k : Nat} (hk : k < s.size) (h : ¬ (97 ≤ byteAt s k ∧ byteAt s k ≤ 122)) : nameB s = false := by
  have : nameU s s.size = false := by
    cases e : nameU s s.size with
    | false => rfl
    | true => exact absurd (nameU_iff.1 e k hk) h
  simp [nameB, this]

/-! ### Herds -/
def foe (d : Hd) (i k : Nat) : Bool := (d.fs i).toNat.testBit k
/-- Is the goat i a goat apart from those before it? -/
def pairU (d : Hd) (i : Nat) : Nat → Bool
  | 0 => true
  | k + 1 => pairU d i k && (decide (d.ss k ≠ d.ss i) && (foe d i k == foe d k i))
def goatB (d : Hd) (i : Nat) : Bool := nameB (d.ss i) && decide (0 ≤ d.es i ∧ d.es i ≤ 100) && decide (d.fs i < 2 ^ d.n1) && !foe d i i
def herdU (d : Hd) : Nat → Bool
  | 0 => true
  | i + 1 => herdU d i && (goatB d i && pairU d i i)
def herdB (d : Hd) : Bool := decide (d.n1 ≤ 14 ∧ d.n2 = d.n1 ∧ d.n3 = d.n1) && herdU d d.n1
theorem pairU_iff {d : Hd} {i : Nat} : ∀ {n : Nat}, pairU d i n = true ↔ ∀ k, k < n → d.ss k ≠ d.ss i ∧ foe d i k = foe d k i
  | 0 => by simp [pairU]
  | n + 1 => by
    simp only [pairU, Bool.and_eq_true, decide_eq_true_eq, beq_iff_eq, pairU_iff (n := n)]
    constructor
    · intro ⟨h1, h2⟩ k hk
      rcases Nat.lt_succ_iff_lt_or_eq.1 hk with h | rfl
      · exact h1 k h
      · exact h2
    · intro h
      exact ⟨fun k hk => h k (by omega), h n (by omega)⟩
theorem herdU_iff {d : Hd} : ∀ {n : Nat}, herdU d n = true ↔ ∀ i, i < n → goatB d i = true ∧ pairU d i i = true
  | 0 => by simp [herdU]
  | n + 1 => by
    simp only [herdU, Bool.and_eq_true, herdU_iff (n := n)]
    constructor
    · intro ⟨h1, h2⟩ k hk
      rcases Nat.lt_succ_iff_lt_or_eq.1 hk with h | rfl
      · exact h1 k h
      · exact h2
    · intro h
      exact ⟨fun k hk => h k (by omega), h n (by omega)⟩
theorem herd_no {d : Hd} {i : Nat} (hi : i < d.n1) (h : (goatB d i && pairU d i i) = false) : herdB d = false := by
  have : herdU d d.n1 = false := by
    cases e : herdU d d.n1 with
    | false => rfl
    | true => have := herdU_iff.1 e i hi; rw [this.1, this.2] at h; exact absurd h (by decide)
  simp [herdB, this]
theorem pair_no {d : Hd} {i k : Nat} (hk : k < i) (h : ¬ (d.ss k ≠ d.ss i ∧ foe d i k = foe d k i)) : pairU d i i = false := by
  cases e : pairU d i i with
  | false => rfl
  | true => exact absurd (pairU_iff.1 e k hk) h
structure HerdOk (d : Hd) : Prop where
  n : d.n1 ≤ 14
  l2 : d.n2 = d.n1
  l3 : d.n3 = d.n1
  name : ∀ i, i < d.n1 → nameB (d.ss i) = true
  eats : ∀ i, i < d.n1 → 0 ≤ d.es i ∧ d.es i ≤ 100
  foes : ∀ i, i < d.n1 → d.fs i < 2 ^ d.n1
  self : ∀ i, i < d.n1 → foe d i i = false
  apart : ∀ i k, i < d.n1 → k < d.n1 → d.ss i = d.ss k → i = k
  symm : ∀ i k, i < d.n1 → k < d.n1 → foe d i k = foe d k i
theorem herdB_iff {d : Hd} : herdB d = true ↔ HerdOk d := by
  simp only [herdB, Bool.and_eq_true, decide_eq_true_eq, herdU_iff, pairU_iff, goatB, Bool.not_eq_true']
  constructor
  · rintro ⟨⟨h1, h2, h3⟩, h⟩
    refine ⟨h1, h2, h3, fun i hi => (h i hi).1.1.1.1, fun i hi => (h i hi).1.1.1.2, fun i hi => (h i hi).1.1.2, fun i hi => (h i hi).1.2, fun i k hi hk e => ?_, fun i k hi hk => ?_⟩
    · rcases Nat.lt_trichotomy i k with l | l | l
      · exact absurd e ((h k hk).2 i l).1
      · exact l
      · exact absurd e.symm ((h i hi).2 k l).1
    · rcases Nat.lt_trichotomy i k with l | l | l
      · exact ((h k hk).2 i l).2.symm
      · rw [l]
      · exact ((h i hi).2 k l).2
  · intro h
    exact ⟨⟨h.n, h.l2, h.l3⟩, fun i hi => ⟨⟨⟨⟨h.name i hi, h.eats i hi⟩, h.foes i hi⟩, h.self i hi⟩, fun k hk => ⟨fun e => by have := h.apart k i (by omega) hi e; omega, h.symm i k hi (by omega)⟩⟩⟩

/-! ### The same, as the program finds it -/
/-- Is each foe of the first goats another goat of the herd, and a foe of its foes? -/
def mutB (d : Hd) (i : Nat) : Bool := decide (d.fs i < 2 ^ d.n1) && !foe d i i && (bitsL (d.fs i).toNat).all fun k => foe d k i
theorem mut_iff {d : Hd} (hf : ∀ i, i < d.n1 → 0 ≤ d.fs i ∧ d.fs i ≤ 65535) : (∀ i, i < d.n1 → mutB d i = true) ↔ (∀ i, i < d.n1 → d.fs i < 2 ^ d.n1) ∧ (∀ i, i < d.n1 → foe d i i = false) ∧ ∀ i k, i < d.n1 → k < d.n1 → foe d i k = foe d k i := by
  simp only [mutB, Bool.and_eq_true, decide_eq_true_eq, Bool.not_eq_true', List.all_eq_true]
  constructor
  · intro h
    refine ⟨fun i hi => (h i hi).1.1, fun i hi => (h i hi).1.2, fun i k hi hk => ?_⟩
    have key : ∀ i k, i < d.n1 → foe d i k = true → foe d k i = true := fun i k hi hik =>
      (h i hi).2 k ((mem_bitsL (by have := hf i hi; omega)).2 hik)
    cases e1 : foe d i k with
    | true => exact (key i k hi e1).symm
    | false =>
      cases e2 : foe d k i with
      | false => rfl
      | true => rw [key k i hk e2] at e1; exact absurd e1 (by decide)
  · rintro ⟨h1, h2, h3⟩ i hi
    refine ⟨⟨h1 i hi, h2 i hi⟩, fun k hk => ?_⟩
    have hk1 := (mem_bitsL (by have := hf i hi; omega)).1 hk
    have hk2 : k < d.n1 := bit_lt (n := d.n1) (by have := h1 i hi; have := hf i hi; rw [Int.toNat_lt (by omega)]; simpa using h1 i hi) hk1
    rw [← h3 i k hi hk2]; exact hk1
theorem addK_len {K : Type} [DecidableEq K] {ks : List K} {k : K} : (k ∈ ks → addK ks k = ks) ∧ (¬ k ∈ ks → (addK ks k).length = ks.length + 1) := by
  unfold addK
  exact ⟨fun h => by rw [if_pos h], fun h => by rw [if_neg h]; simp⟩
/-- The names that came with the first goats, each once. -/
def keysU (d : Hd) : Nat → List ByteArray
  | 0 => []
  | i + 1 => addK (keysU d i) (d.ss i)
theorem keysU_len (d : Hd) : ∀ n, (keysU d n).length ≤ n
  | 0 => Nat.le_refl _
  | n + 1 => by
    have := keysU_len d n
    have h := addK_len (ks := keysU d n) (k := d.ss n)
    show (addK (keysU d n) (d.ss n)).length ≤ n + 1
    by_cases hk : d.ss n ∈ keysU d n
    · rw [h.1 hk]; omega
    · rw [h.2 hk]; omega
theorem keysU_mem {d : Hd} {s : ByteArray} : ∀ {n}, s ∈ keysU d n ↔ ∃ i, i < n ∧ d.ss i = s
  | 0 => by simp [keysU]
  | n + 1 => by
    have ih := keysU_mem (d := d) (s := s) (n := n)
    have key : s ∈ keysU d (n + 1) ↔ s ∈ keysU d n ∨ s = d.ss n := mem_addK
    rw [key, ih]
    constructor
    · rintro (⟨i, hi, e⟩ | e)
      · exact ⟨i, by omega, e⟩
      · exact ⟨n, by omega, e.symm⟩
    · rintro ⟨i, hi, e⟩
      rcases Nat.lt_succ_iff_lt_or_eq.1 hi with h | rfl
      · exact .inl ⟨i, h, e⟩
      · exact .inr e.symm
theorem keysU_all {d : Hd} : ∀ {n}, (keysU d n).length = n ↔ ∀ i k, i < n → k < n → d.ss i = d.ss k → i = k
  | 0 => by simp [keysU]
  | n + 1 => by
    have hl := keysU_len d n
    have ih := keysU_all (d := d) (n := n)
    by_cases h : d.ss n ∈ keysU d n
    · have e : keysU d (n + 1) = keysU d n := addK_len.1 h
      rw [e]
      constructor
      · intro h'; omega
      · intro h'
        obtain ⟨i, hi, e⟩ := keysU_mem.1 h
        have := h' i n (by omega) (by omega) e
        omega
    · have el : (keysU d (n + 1)).length = (keysU d n).length + 1 := addK_len.2 h
      rw [el]
      constructor
      · intro h' i k hi hk e
        have h2 := ih.1 (by omega)
        rcases Nat.lt_succ_iff_lt_or_eq.1 hi with hi | rfl <;> rcases Nat.lt_succ_iff_lt_or_eq.1 hk with hk | rfl
        · exact h2 i k hi hk e
        · exact absurd (keysU_mem.2 ⟨i, hi, e⟩) h
        · exact absurd (keysU_mem.2 ⟨k, hk, e.symm⟩) h
        · rfl
      · intro h'
        have := ih.2 (fun i k hi hk e => h' i k (by omega) (by omega) e)
        omega
def toldB (d : Hd) (i : Nat) : Bool := nameB (d.ss i) && decide (0 ≤ d.es i ∧ d.es i ≤ 100)
/-- A herd is valid as the program finds it. -/
theorem herdB_impl {d : Hd} (hf : ∀ i, i < d.n3 → 0 ≤ d.fs i ∧ d.fs i ≤ 65535) (h1 : d.n1 ≤ 14) (h2 : d.n2 = d.n1) (h3 : d.n3 = d.n1) :
    herdB d = true ↔ (∀ i, i < d.n1 → toldB d i = true) ∧ (keysU d d.n1).length = d.n1 ∧ ∀ i, i < d.n1 → mutB d i = true := by
  rw [herdB_iff, mut_iff (fun i hi => hf i (by omega)), keysU_all]
  simp only [toldB, Bool.and_eq_true, decide_eq_true_eq]
  exact ⟨fun h => ⟨fun i hi => ⟨h.name i hi, h.eats i hi⟩, h.apart, h.foes, h.self, h.symm⟩, fun h => ⟨h1, h2, h3, fun i hi => (h.1 i hi).1, fun i hi => (h.1 i hi).2, h.2.2.1, h.2.2.2.1, h.2.1, h.2.2.2.2⟩⟩
end Go.Proofs.YtcdpdcjdjcbhcaaDoor

/-
  PLAIN LAW: a region that draws its order: its first m operations read or make quiet calls; then comes one call of any kind; the others are quiet again, over another class of worlds.
-/
namespace Go.Proofs.YtcdpdcjdjcbhcaaDoor
open Go
variable {P : Program} {ops : Array Oper} {C : World → Prop}

def tailsB (ops : Array Oper) (n : Nat) : Bool := (List.range ops.size).all fun t => decide (t ≤ n) || (List.range ops.size).any fun u => decide (n ≤ u) && Region.waitsFor .any ops t u

/-- While one of the first n is open, number n waits. -/
theorem waits_n {n : Nat} {s : Array Bool} (hs : Region.sinkB .any ops n = true) (hn : n < ops.size) (inv : HeadInv .any ops n s) (i : Nat) (hi : i < n) (ho : s.getD i true = false) (hr : n ∈ Region.ready .any ops s) : False := by
  obtain ⟨j, hj, hw⟩ := List.any_eq_true.1 (List.all_eq_true.1 hs i (List.mem_range.2 hi))
  rw [Bool.and_eq_true] at hw
  have hij : i < j := of_decide_eq_true hw.1
  have hjn : j < n + 1 := List.mem_range.1 hj
  obtain ⟨o, hoj, d, hd, hb, hon⟩ := Region.waitsFor_spec hw.2
  have no : s.getD d.on false = true → False := fun h => by
    rw [hon, getD_both ho] at h
    cases h
  rcases Nat.lt_or_ge j n with h | h
  · refine waits_n hs hn inv j h ?_ hr
    cases hl : s.getD j false with
    | true => exact (no (inv.closed j o hoj hl d hd hb)).elim
    | false => exact getD_in (by rw [inv.size]; omega) hl
  · obtain rfl : j = n := by omega
    obtain ⟨-, o', ho', ha⟩ := mem_ready.1 hr
    rw [hoj] at ho'
    cases ho'
    exact no (ha d hd hb)
termination_by n - i
/-- What lies behind number n waits for it or for what lies behind it. -/
theorem waits_tail {n : Nat} {s : Array Bool} (hc : tailsB ops n = true) (inv : HeadInv .any ops n s) {t : Nat} (ht : n < t) (hr : t ∈ Region.ready .any ops s) : False := by
  obtain ⟨-, o, ho, ha⟩ := mem_ready.1 hr
  have h1 := List.all_eq_true.1 hc t (List.mem_range.2 (Array.getElem?_eq_some_iff.1 ho).1)
  rw [Bool.or_eq_true] at h1
  rcases h1 with h1 | h1
  · have := of_decide_eq_true h1
    omega
  · obtain ⟨u, hu, h2⟩ := List.any_eq_true.1 h1
    rw [Bool.and_eq_true] at h2
    obtain ⟨o', ho', d, hd, hb, hon⟩ := Region.waitsFor_spec h2.2
    rw [ho] at ho'
    cases ho'
    have h3 := ha d hd hb
    rw [hon, getD_both (inv.tail u (of_decide_eq_true h2.1) (List.mem_range.1 hu))] at h3
    cases h3

theorem below_of_openT {n i j : Nat} {s : Array Bool} (hs : Region.sinkB .any ops n = true) (hc : tailsB ops n = true) (hn : n < ops.size) (inv : HeadInv .any ops n s) (hin : i < n)
    (hi : i ∈ Region.ready .any ops s) (hj : j ∈ Region.ready .any ops s) : j < n := by
  rcases Nat.lt_trichotomy j n with h | rfl | h
  · exact h
  · exact (waits_n hs hn inv i hin (mem_ready.1 hi).1 hj).elim
  · exact (waits_tail hc inv h hj).elim

theorem headQ_firstT {n i : Nat} {oi : Oper} {v : Value} {T : Array Bool → Act → Prop} (hoi : ops[i]? = some oi) (hsel : ∀ (j : Nat) (o : Oper) cs b, ops[j]? = some o → o.op ≠ .select cs b)
    (hs : Region.sinkB .any ops n = true) (hc : tailsB ops n = true) (hn : n < ops.size) (hin : i < n) (hT : ∀ s a, T s a → ∀ j ∈ Region.ready .any ops s, n ≤ j) (f : Nat) :
    ∀ s a, HeadInv .any ops n s →
      (∀ j oj, ops[j]? = some oj → j ≠ i → s.getD j true = false → (∀ e ∈ oj.after, Region.binds .any e = true → e.on ≠ i) → oi.apart ops oj = true) →
      i ∈ Region.ready .any ops s → YieldsIn P ops C oi v a → headQ P ops C n T f (s.setIfInBounds i true) (a.put oi.dst v) → headQ P ops C n T (f + 1) s a := by
  induction f with
  | zero =>
    intro s a inv _ hr hy H
    refine ⟨List.ne_nil_of_mem hr, fun j hj => ⟨below_of_openT hs hc hn inv hin hr hj, ?_⟩⟩
    by_cases e : j = i
    · subst e; exact hy.qOp hoi H
    · exact absurd (hT _ _ H j (ready_mono hj e)) (by have := below_of_openT hs hc hn inv hin hr hj; omega)
  | succ f ih =>
    intro s a inv hfree hr hy H
    refine ⟨List.ne_nil_of_mem hr, fun j hj => ?_⟩
    have hjn := below_of_openT hs hc hn inv hin hr hj
    refine ⟨hjn, ?_⟩
    by_cases e : j = i
    · subst e; exact hy.qOp hoi H
    obtain ⟨hju, oj, hoj, hdone⟩ := mem_ready.1 hj
    have hfj := hfree j oj hoj e hju fun d hd hb he => by
      have h1 := hdone d hd hb
      rw [he, getD_both (mem_ready.1 hr).1] at h1
      cases h1
    have step := qOp_put hoj hfj (fun cs b => hsel i oi cs b hoi) (fun cs b => hsel j oj cs b hoj) hy (H.2 j (ready_mono hj e)).2
    refine qOp_mono (fun a' h' => ih _ a' (inv.set hj hjn) (fun k ok hk hki hku hno => hfree k ok hk hki ?_ hno) (ready_mono hr (Ne.symm e)) h'.1 ?_) step
    · by_cases ejk : j = k
      · subst ejk; exact hju
      · rwa [getD_set_ne true ejk] at hku
    · rw [Array.setIfInBounds_comm _ _ e]; exact h'.2

/-- The same with all that is left as the head. -/
theorem headQ_firstA {i : Nat} {oi : Oper} {v : Value} {T : Array Bool → Act → Prop} (hoi : ops[i]? = some oi) (hsel : ∀ (j : Nat) (o : Oper) cs b, ops[j]? = some o → o.op ≠ .select cs b)
    (hT : ∀ s a, T s a → Region.ready .any ops s = []) (f : Nat) :
    ∀ s a, (∀ j oj, ops[j]? = some oj → j ≠ i → s.getD j true = false → (∀ e ∈ oj.after, Region.binds .any e = true → e.on ≠ i) → oi.apart ops oj = true) →
      i ∈ Region.ready .any ops s → YieldsIn P ops C oi v a → headQ P ops C ops.size T f (s.setIfInBounds i true) (a.put oi.dst v) → headQ P ops C ops.size T (f + 1) s a := by
  have lt : ∀ {j : Nat} {s : Array Bool}, j ∈ Region.ready .any ops s → j < ops.size := fun h => by
    obtain ⟨-, o, ho, -⟩ := mem_ready.1 h
    exact (Array.getElem?_eq_some_iff.1 ho).1
  induction f with
  | zero =>
    intro s a _ hr hy H
    refine ⟨List.ne_nil_of_mem hr, fun j hj => ⟨lt hj, ?_⟩⟩
    by_cases e : j = i
    · subst e; exact hy.qOp hoi H
    · have := ready_mono hj e
      rw [hT _ _ H] at this
      cases this
  | succ f ih =>
    intro s a hfree hr hy H
    refine ⟨List.ne_nil_of_mem hr, fun j hj => ⟨lt hj, ?_⟩⟩
    by_cases e : j = i
    · subst e; exact hy.qOp hoi H
    obtain ⟨hju, oj, hoj, hdone⟩ := mem_ready.1 hj
    have hfj := hfree j oj hoj e hju fun d hd hb he => by
      have h1 := hdone d hd hb
      rw [he, getD_both (mem_ready.1 hr).1] at h1
      cases h1
    have step := qOp_put hoj hfj (fun cs b => hsel i oi cs b hoi) (fun cs b => hsel j oj cs b hoj) hy (H.2 j (ready_mono hj e)).2
    refine qOp_mono (fun a' h' => ih _ a' (fun k ok hk hki hku hno => hfree k ok hk hki ?_ hno) (ready_mono hr (Ne.symm e)) h'.1 ?_) step
    · by_cases ejk : j = k
      · subst ejk; exact hju
      · rwa [getD_set_ne true ejk] at hku
    · rw [Array.setIfInBounds_comm _ _ e]; exact h'.2

def lexHeadS (ops : Array Oper) (s0 : Array Bool) : Nat → Nat → Array Bool → Bool
  | 0, _, s => decide (s = s0)
  | f + 1, k, s => (Region.ready .any ops s).contains k && Region.free .any ops s k && lexHeadS ops s0 f (k + 1) (s.setIfInBounds k true)

theorem headQ_lexS {n : Nat} {s0 : Array Bool} {R : Act → Prop} (hsel : Region.noSelect ops = true) (hs : Region.sinkB .any ops n = true) (hc : tailsB ops n = true) (hn : n < ops.size) (h0 : Region.ready .any ops s0 = [n]) (l : List Oper) :
    ∀ (k : Nat) (s : Array Bool) (a : Act), (∀ j, j < l.length → l[j]? = ops[k + j]?) → k + l.length = n → HeadInv .any ops n s → lexHeadS ops s0 l.length k s = true →
      wpQuiet P ops C R l a → headQ P ops C n (fun s' a' => s' = s0 ∧ R a') l.length s a := by
  induction l with
  | nil =>
    intro k s a _ hk _ hB h
    exact ⟨by simpa [lexHeadS] using hB, h⟩
  | cons o l ih =>
    intro k s a hl hk inv hB h
    have h1 : ops[k]? = some o := by simpa using (hl 0 (by simp)).symm
    simp only [List.length_cons, lexHeadS, Bool.and_eq_true] at hB hk
    have hr : k ∈ Region.ready .any ops s := by simpa using hB.1.1
    have hq : qOp P ops C k (wpQuiet P ops C R l) a := by unfold qOp; simp only [h1]; exact h
    obtain ⟨v, hy, hK⟩ := yieldsIn_of_qOp h1 hq
    refine headQ_firstT h1 (Region.noSelect_spec hsel) hs hc hn (by omega) (fun s' a' h' j hj => by rw [h'.1, h0] at hj; simp at hj; omega) l.length s a inv (Region.free_spec h1 hB.1.2) hr hy ?_
    refine ih (k + 1) _ _ (fun j hj => ?_) (by omega) (inv.set hr (by omega)) hB.2 hK
    have := hl (j + 1) (by simp; omega)
    simpa [Nat.add_assoc, Nat.add_comm 1 j] using this

theorem headQ_lexA {R : Act → Prop} (hsel : Region.noSelect ops = true) (l : List Oper) :
    ∀ (k : Nat) (s : Array Bool) (a : Act), (∀ j, j < l.length → l[j]? = ops[k + j]?) → Region.lexHead .any ops 0 l.length k s = true →
      wpQuiet P ops C R l a → headQ P ops C ops.size (fun s' a' => Region.ready .any ops s' = [] ∧ R a') l.length s a := by
  induction l with
  | nil =>
    intro k s a _ hB h
    exact ⟨by simpa [Region.lexHead, Region.seqB] using hB, h⟩
  | cons o l ih =>
    intro k s a hl hB h
    have h1 : ops[k]? = some o := by simpa using (hl 0 (by simp)).symm
    simp only [List.length_cons, Region.lexHead, Bool.and_eq_true] at hB
    have hr : k ∈ Region.ready .any ops s := by simpa using hB.1.1
    have hq : qOp P ops C k (wpQuiet P ops C R l) a := by unfold qOp; simp only [h1]; exact h
    obtain ⟨v, hy, hK⟩ := yieldsIn_of_qOp h1 hq
    refine headQ_firstA h1 (Region.noSelect_spec hsel) (fun s' a' h' => h'.1) l.length s a (Region.free_spec h1 hB.1.2) hr hy ?_
    refine ih (k + 1) _ _ (fun j hj => ?_) hB.2 hK
    have := hl (j + 1) (by simp; omega)
    simpa [Nat.add_assoc, Nat.add_comm 1 j] using this

/-- The first n are listed. -/
def heads (m n : Nat) : Array Bool := (List.range n).foldl (fun s i => s.setIfInBounds i true) (Array.replicate m false)
def callB (ops : Array Oper) (n : Nat) : Bool :=
  Region.noSelect ops && decide (n < ops.size) && Region.sinkB .any ops n && tailsB ops n && lexHeadS ops (heads ops.size n) n 0 (Array.replicate ops.size false) && decide (Region.ready .any ops (heads ops.size n) = [n]) &&
    Region.lexHead .any ops 0 (ops.size - (n + 1)) (n + 1) ((heads ops.size n).setIfInBounds n true)

/-- What is left behind the call: quiet over a class of worlds. -/
def ThenQuiet (P : Program) (ops : Array Oper) (Q : Exit → Act → World → Prop) (rest : List Oper) (a : Act) (w : World) : Prop := ∃ C2 : World → Prop, C2 w ∧ wpQuiet P ops C2 (fun a3 => ∀ w3, C2 w3 → Q .normal a3 w3) rest a

theorem any_call {Q : Exit → Act → World → Prop} {a : Act} {w : World} {l : List Oper} (n : Nat) {on : Oper} (hon : l[n]? = some on) (hgd : on.guard = none) (hB : callB l.toArray n = true) (hC : C w)
    (h : wpQuiet P l.toArray C (fun a' => ∀ w', C w' → on.wp P a' w' (ThenQuiet P l.toArray Q (l.drop (n + 1))) Q) (l.take n) a) : wpAny P .any l.toArray Q l.toArray.size (Array.replicate l.toArray.size false) a w := by
  simp only [callB, Bool.and_eq_true, decide_eq_true_eq] at hB
  obtain ⟨⟨⟨⟨⟨⟨b1, b2⟩, b3⟩, b4⟩, b5⟩, b6⟩, b7⟩ := hB
  have e0 : l.toArray.size = l.length := by simp
  have e1 : (l.take n).length = n := by rw [List.length_take]; omega
  have e2 : (l.drop (n + 1)).length = l.toArray.size - (n + 1) := by rw [List.length_drop, e0]
  have inv : HeadInv .any l.toArray n (Array.replicate l.toArray.size false) :=
    { size := by simp
      closed := fun j oj _ hl => by rw [getD_replicate_false] at hl; cases hl
      tail := fun t _ ht => getD_in (by simpa using ht) (getD_replicate_false _ _) }
  have H := headQ_lexS (P := P) (C := C) (s0 := heads l.toArray.size n) b1 b3 b4 b2 b6 (l.take n) 0 _ a (fun j hj => by rw [e1] at hj; simp [hj]) (by rw [e1]; omega) inv (by rw [e1]; exact b5) h
  have K := any_of_headQ (Q := Q) (g := (l.drop (n + 1)).length + 1) (fun s a' w' hw' ht => by
    obtain ⟨rfl, hq⟩ := ht
    refine ⟨fun h0 => (by rw [b6] at h0; cases h0), fun i hi => ?_⟩
    rw [b6] at hi
    obtain rfl : i = n := by simpa using hi
    unfold wpOp
    have ho : l.toArray[i]? = some on := by simpa using hon
    rw [ho]
    have hw : Region.wanted on (yielded l.toArray a'.tmps) = true := by simp [Region.wanted, hgd]
    simp only [hw, if_true]
    refine .inl (Oper.wp_mono (fun a2 w2 hh => ?_) (hq w' hw'))
    obtain ⟨C2, hc2, h2⟩ := hh
    have H2 := headQ_lexA (P := P) (C := C2) b1 (l.drop (i + 1)) (i + 1) _ a2 (fun j _ => by simp [List.getElem?_drop]) (by rw [e2]; exact b7) h2
    have := any_of_headQ (Q := Q) (g := 0) (fun s3 a3 w3 hw3 ht3 => ⟨ht3.1, ht3.2 w3 hw3⟩) _ _ _ w2 hc2 H2
    simpa using this) _ _ _ w hC H
  rwa [e1, e2, show n + (l.toArray.size - (n + 1) + 1) = l.toArray.size by omega] at K

/-- The region, over the memory of a call. -/
theorem region_call_mem {Q : Exit → Act → World → Prop} {a : Act} {w : Base} {W : World} {L : Blocks} {id : Nat} {l : List Oper} (m : Nat) {on : Oper} (hon : l[m]? = some on) (hgd : on.guard = none) (hm : P.follows .mixedOrders = true) (hB : callB l.toArray m = true) (hM : Mem w L W)
    (h : wpQuiet P l.toArray (Mem w L) (fun a' => ∀ W', Mem w L W' → on.wp P a' W' (ThenQuiet P l.toArray Q (l.drop (m + 1))) Q) (l.take m) a) : (Code.region id l.toArray true).wp P Q a W :=
  wp_region_any hm (any_call (C := Mem w L) m hon hgd hB hM.drew h)
end Go.Proofs.YtcdpdcjdjcbhcaaDoor

/-
  Sets of goats: (impl.goatSet).has, joined, first, list, count and impl.alone by contracts.
-/
namespace Go.Proofs.YtcdpdcjdjcbhcaaDoor
open Go Go.RowKit Go.BigFrame

theorem u16_two (k : Nat) (hk : k < 16) : 2 ^ k < 65536 := Nat.pow_lt_pow_right (by decide) hk
theorem and_u16 {a b : Nat} (ha : a < 65536) (hb : b < 65536) : bits .and .u16 (a : Int) (b : Int) = ((a &&& b : Nat) : Int) :=
  (bits_nat .u16 16 (by decide) (fun n h0 h1 => IntWalk.u16_in n (by omega)) a b ha hb).1
theorem or_u16 {a b : Nat} (ha : a < 65536) (hb : b < 65536) : bits .or .u16 (a : Int) (b : Int) = ((a ||| b : Nat) : Int) :=
  (bits_nat .u16 16 (by decide) (fun n h0 h1 => IntWalk.u16_in n (by omega)) a b ha hb).2
/-- A set without another one. -/
def minus (a b : Nat) : Nat := a &&& (65535 ^^^ b)
theorem minus_lt {a b : Nat} (ha : a < 65536) : minus a b < 65536 := Nat.lt_of_le_of_lt Nat.and_le_left ha
theorem minus_bit {a b : Nat} (ha : a < 65536) (j : Nat) : (minus a b).testBit j = (a.testBit j && !b.testBit j) := by
  unfold minus
  rw [Nat.testBit_and, Nat.testBit_xor, show (65535 : Nat) = 2 ^ 16 - 1 by rfl, Nat.testBit_two_pow_sub_one]
  by_cases hj : a.testBit j = true
  · have := bit_lt (n := 16) ha hj
    simp [this]
  · simp at hj; simp [hj]
theorem not_u16 {b : Nat} (hb : b < 65536) : (~~~ (BitVec.ofInt IntKind.u16.bits (b : Int))).toNat = 65535 ^^^ b := by
  have e : (BitVec.ofInt IntKind.u16.bits (b : Int)).toNat = b := by
    rw [BitVec.ofInt_natCast, BitVec.toNat_ofNat]; exact Nat.mod_eq_of_lt hb
  apply Nat.eq_of_testBit_eq
  intro i
  rw [BitVec.toNat_not, e, Nat.testBit_xor, show (65535 : Nat) = 2 ^ 16 - 1 by rfl, Nat.testBit_two_pow_sub_one]
  rw [show 2 ^ IntKind.u16.bits - 1 - b = 2 ^ 16 - (b + 1) by show 2 ^ 16 - 1 - b = _; omega, Nat.testBit_two_pow_sub_succ hb]
  by_cases h : i < 16
  · simp [h]
  · have : b.testBit i = false := Nat.testBit_lt_two_pow (Nat.lt_of_lt_of_le hb (Nat.pow_le_pow_right (by decide) (by omega) : 2 ^ 16 ≤ 2 ^ i))
    simp [h, this]
theorem minus_u16 {a b : Nat} (ha : a < 65536) (hb : b < 65536) : bits .andNot .u16 (a : Int) (b : Int) = ((minus a b : Nat) : Int) := by
  have e : (BitVec.ofInt IntKind.u16.bits (a : Int)).toNat = a := by
    rw [BitVec.ofInt_natCast, BitVec.toNat_ofNat]; exact Nat.mod_eq_of_lt ha
  show IntKind.u16.wrap ((BitVec.ofInt IntKind.u16.bits (a : Int) &&& ~~~ BitVec.ofInt IntKind.u16.bits (b : Int)).toNat : Int) = _
  rw [BitVec.toNat_and, e, not_u16 hb]
  exact IntWalk.u16_in _ (by have := minus_lt (b := b) ha; unfold minus at this; omega)

set_option maxHeartbeats 400000 in
theorem alone_any (k : Nat) (hk : k < 16) (s : Nat) (hs : 2 ^ k = s) (w : World) :
    Calls Tryd.prog 133 #[.int .i64 k] w fun e w' => e = .returned (.int .u16 s) ∧ Below w.heap.size w w' := by
  have h0 : (0 : Int) ≤ k := by omega
  have h1 : (k : Int) ≤ 16 := by omega
  have h2 := u16_two k hk
  have e : IntKind.u16.wrap (2 ^ k) = (s : Int) := by
    rw [← hs, ← IntWalk.u16_in ((2 ^ k : Nat) : Int) ⟨Int.natCast_nonneg _, by omega⟩]; simp
  clear hs
  go_enter Tryd.func133, Tryd.ntmps133
  go_wp2
  go_ret
  exact ⟨rfl, Below.refl _ _⟩
set_option maxHeartbeats 400000 in
theorem joined_any (a b : Nat) (ha : a < 65536) (hb : b < 65536) (s : Nat) (hs : a ||| b = s) (w : World) :
    Calls Tryd.prog 134 #[.int .u16 a, .int .u16 b] w fun e w' => e = .returned (.int .u16 s) ∧ Below w.heap.size w w' := by
  have e := or_u16 ha hb
  rw [hs] at e
  clear hs
  go_enter Tryd.func134, Tryd.ntmps134
  go_wp2
  go_ret
  exact ⟨rfl, Below.refl _ _⟩
theorem and_two {a k : Nat} : a &&& 2 ^ k = if a.testBit k then 2 ^ k else 0 := by
  apply Nat.eq_of_testBit_eq
  intro i
  rw [Nat.testBit_and, Nat.testBit_two_pow]
  by_cases h : a.testBit k = true
  · rw [if_pos h, Nat.testBit_two_pow]
    by_cases e : k = i
    · subst e; simp [h]
    · simp [e]
  · rw [if_neg h]
    by_cases e : k = i
    · subst e; simpa using h
    · simp [e]
set_option maxHeartbeats 400000 in
theorem has_any (a : Nat) (ha : a < 65536) (k : Nat) (hk : k < 16) (w : World) :
    Calls Tryd.prog 148 #[.int .u16 a, .int .i64 k] w fun e w' => e = .returned (.bool (a.testBit k)) ∧ Below w.heap.size w w' := by
  obtain ⟨s, hs⟩ : ∃ s, 2 ^ k = s := ⟨_, rfl⟩
  have hs2 := u16_two k hk
  have hpos : 0 < 2 ^ k := Nat.two_pow_pos k
  have e := and_u16 ha (by rw [← hs]; exact hs2 : s < 65536)
  have ht := and_two (a := a) (k := k)
  rw [hs] at ht hpos
  have hM := Mem.nil w
  cases hb : a.testBit k
  · rw [hb, if_neg (by decide)] at ht
    rw [ht] at e
    clear ht hb
    go_enter Tryd.func148, Tryd.ntmps148
    go_wp2_with (first | (go_at_call 133; refine (alone_any k hk s hs _).mono ?_; rintro e W' ⟨rfl, hb'⟩; have hM' := hM.call hb'; clear hM hb'; have hM := hM'; clear hM'))
    go_ret
    exact ⟨rfl, hM.below⟩
  · rw [hb, if_pos rfl] at ht
    rw [ht] at e
    have hz : ((s : Int) == 0) = false := by simpa using (by omega : ¬ s = 0)
    have hz2 : ((s : Int) != 0) = true := by simpa using (by omega : ¬ s = 0)
    clear ht hb
    go_enter Tryd.func148, Tryd.ntmps148
    go_wp2_with (first | (go_at_call 133; refine (alone_any k hk s hs _).mono ?_; rintro e W' ⟨rfl, hb'⟩; have hM' := hM.call hb'; clear hM hb'; have hM := hM'; clear hM'))
    go_ret
    exact ⟨rfl, hM.below⟩

/-! ### The least goat of a set -/
/-- The table by which it is found. -/
def Tab (W : World) : Prop := ∀ j, j < 32 → W.cell? ⟨5, j, none⟩ = some (.int .u8 (Lib.deBruijn32tab.getD j 0))
theorem Tab.below {W W' : World} (h : Tab W) (hb : Below W.heap.size W W') : Tab W' := fun j hj => by
  rw [hb.cell (p := ⟨5, j, none⟩) (block_lt_of_cell (h j hj))]; exact h j hj
theorem tz_key (s : Nat) (h : s < 65536) (h0 : s ≠ 0) : ∃ a idx : Nat, idx < 32 ∧ tz s < 16 ∧ bits .and .u16 (s : Int) (IntKind.u16.wrap (-(s : Int))) = (a : Int) ∧ a < 65536 ∧ (a : Int) * 125613361 % 4294967296 / 134217728 = (idx : Int) ∧ Lib.deBruijn32tab.getD idx 0 = tz s := by
  obtain ⟨hlow, hk⟩ := Lib.lowest_bit 16 s h0 (by omega)
  obtain ⟨hi, htab⟩ := Lib.deBruijn32_at (Lib.ctz 16 s) (by omega)
  have e1 : IntKind.u16.wrap (-(s : Int)) = ((65536 - s : Nat) : Int) := by simp [IntKind.wrap, IntKind.signed, IntKind.bits]; omega
  refine ⟨2 ^ Lib.ctz 16 s, 2 ^ Lib.ctz 16 s * 125613361 % 4294967296 / 134217728, hi, hk, ?_, u16_two _ hk, ?_, htab⟩
  · rw [e1, and_u16 h (by omega)]; exact congrArg _ hlow
  · generalize 2 ^ Lib.ctz 16 s = q
    omega
set_option maxRecDepth 100000 in
set_option maxHeartbeats 400000 in
theorem tz_any (s : Nat) (h : s < 65536) (h0 : s ≠ 0) (t : Nat) (ht : tz s = t) (w : World) (hT : Tab w) :
    Calls Tryd.prog 150 #[.int .u16 s] w fun e w' => e = .returned (.int .i64 t) ∧ Below w.heap.size w w' := by
  obtain ⟨a, idx, hi, hk, e1, e2, e3, e4⟩ := tz_key s h h0
  have hz : ((s : Int) == 0) = false := by simpa using h0
  have hc := hT idx hi
  rw [e4, ht] at hc
  rw [ht] at hk
  have c2 : IntKind.u32.wrap (a : Int) = a := IntWalk.u32_in _ (by omega)
  have c3 : IntKind.i64.wrap (t : Int) = t := IntWalk.i64_in _ (by omega)
  have hi1 : (0 : Int) ≤ idx := by omega
  have hi2 : (idx : Int) < 32 := by omega
  clear hT e4 ht h0
  go_enter Tryd.func150, Tryd.ntmps150
  go_wp2
  go_ret
  exact ⟨rfl, Below.refl _ _⟩
set_option maxHeartbeats 400000 in
theorem first_any (s : Nat) (h : s < 65536) (h0 : s ≠ 0) (t : Nat) (ht : tz s = t) (w : World) (hT : Tab w) :
    Calls Tryd.prog 135 #[.int .u16 s] w fun e w' => e = .returned (.int .i64 t) ∧ Below w.heap.size w w' := by
  have hM := Mem.nil w
  have HT := Lib.hid hT
  clear hT
  go_enter Tryd.func135, Tryd.ntmps135
  go_wp2_with (first | (go_at_call 150; refine (tz_any s h h0 t ht _ (HT.out.below hM.below)).mono ?_; rintro e W' ⟨rfl, hb'⟩; have hM' := hM.call hb'; clear hM hb'; have hM := hM'; clear hM'))
  go_ret
  exact ⟨rfl, hM.below⟩
end Go.Proofs.YtcdpdcjdjcbhcaaDoor

/-
  The text of a pasture.
-/
namespace Go.Proofs.YtcdpdcjdjcbhcaaDoor
open Go Go.RowKit Go.BigFrame

/-- The word of a cell. -/
def markW (on : Bool) (c : UInt8) : List UInt8 := if on then [c] else []
theorem markW_len (on : Bool) (c : UInt8) : (markW on c).length ≤ 1 := by cases on <;> simp [markW]
def wordP (g : Nat → Int) (x y : Nat) : List UInt8 := numB (g (2 + y * 10 + x)) ++ markW (bitB (g (102 + y)) x) 124 ++ markW (bitB (g (112 + y)) x) 95
def rowP (g : Nat → Int) (y n : Nat) : List UInt8 := joinT [32] (fun x => wordP g x y) n
def linesP (g : Nat → Int) (n : Nat) : List UInt8 := catT (fun y => rowP g y (g 0).toNat ++ [10]) n
def pastT (g : Nat → Int) : List UInt8 := if okB g then linesP g (g 1).toNat else []
theorem pastT_no {g : Nat → Int} (h : okB g = false) : pastT g = [] := by unfold pastT; rw [h]; rfl
theorem pastT_yes {g : Nat → Int} (h : okB g = true) : pastT g = linesP g (g 1).toNat := by unfold pastT; rw [h]; rfl
theorem okB_size {g : Nat → Int} (h : okB g = true) : (1 ≤ g 0 ∧ g 0 ≤ 10) ∧ (1 ≤ g 1 ∧ g 1 ≤ 10) := by
  unfold okB at h
  rw [Bool.and_eq_true, Bool.and_eq_true] at h
  exact ⟨inB_true h.1.1, inB_true h.1.2⟩
theorem okB_row {g : Nat → Int} {y : Nat} (h : okB g = true) (hy : y < 10) : rowOk g y = true := by
  cases e : rowOk g y
  · rw [okB_no hy e] at h; cases h
  · rfl
theorem okB_grass {g : Nat → Int} (h : okB g = true) {x y : Nat} (hx : x < 10) (hy : y < 10) : 0 ≤ g (2 + y * 10 + x) ∧ g (2 + y * 10 + x) ≤ 1000 := by
  have hr := okB_row h hy
  cases e : cellOk g y x
  · rw [rowOk_cell hx e] at hr; cases hr
  · unfold cellOk at e
    rw [Bool.and_eq_true] at e
    exact inB_true e.1
theorem wordP_len {g : Nat → Int} (h : okB g = true) {x y : Nat} (hx : x < 10) (hy : y < 10) : (wordP g x y).length ≤ 12 := by
  have h1 := numB_len (n := g (2 + y * 10 + x)) (by have := okB_grass h hx hy; omega)
  have h2 := markW_len (bitB (g (102 + y)) x) 124
  have h3 := markW_len (bitB (g (112 + y)) x) 95
  unfold wordP
  simp only [List.length_append]
  omega
theorem rowP_len {g : Nat → Int} (h : okB g = true) {y : Nat} (hy : y < 10) {n : Nat} (hn : n ≤ 10) : (rowP g y n).length ≤ 130 := by
  have h1 := joinT_len (sep := [32]) (f := fun x => wordP g x y) (m := 12) n (fun k hk => wordP_len h (by omega) hy)
  have h2 : n * (12 + 1) ≤ 10 * 13 := Nat.mul_le_mul (by omega) (by omega)
  simp only [List.length_cons, List.length_nil] at h1
  unfold rowP
  omega
theorem linesP_len {g : Nat → Int} (h : okB g = true) {n : Nat} (hn : n ≤ 10) : (linesP g n).length ≤ 1310 := by
  have hs := okB_size h
  have h1 := catT_len (f := fun y => rowP g y (g 0).toNat ++ [10]) (m := 131) n (fun k hk => by
    have := rowP_len h (y := k) (by omega) (n := (g 0).toNat) (by omega)
    simp only [List.length_append, List.length_cons, List.length_nil]; omega)
  have h2 : n * 131 ≤ 10 * 131 := Nat.mul_le_mul (by omega) (by omega)
  unfold linesP
  omega

/-- A word and what stands behind it. -/
def cellP (g : Nat → Int) (W : Nat) (c : Nat × Nat) : List UInt8 := wordP g c.1 c.2 ++ [if c.1 + 1 = W then 10 else 32]
theorem join_cat (sep : List UInt8) (f : Nat → List UInt8) : ∀ n, joinT sep f (n + 1) = catT (fun k => f k ++ sep) n ++ f n
  | 0 => by rw [joinT_one, catT_zero, List.nil_append]
  | n + 1 => by rw [joinT_succ sep f (by omega), join_cat sep f n, catT_succ]; simp only [List.append_assoc]
theorem flat_upto (g : Nat → Int) (W : Nat) (hW : 0 < W) (hg : (g 0).toNat = W) : ∀ i, ((upto W i).map (cellP g W)).flatten = linesP g (i / W) ++ catT (fun x => wordP g x (i / W) ++ [32]) (i % W)
  | 0 => by simp [upto, linesP, catT_zero]
  | i + 1 => by
    rw [upto_succ, List.map_append, List.flatten_append, flat_upto g W hW hg i]
    have hlt := Nat.mod_lt i hW
    have hd := Nat.div_add_mod i W
    generalize hq : i / W = q at *
    generalize hr : i % W = r at *
    by_cases e : r + 1 = W
    · have ei : i + 1 = W * (q + 1) := by rw [Nat.mul_succ]; omega
      rw [ei, Nat.mul_div_cancel_left _ hW, Nat.mul_mod_right, catT_zero, List.append_nil]
      have : linesP g (q + 1) = linesP g q ++ (rowP g q W ++ [10]) := by unfold linesP; rw [catT_succ, hg]
      rw [this]
      have e2 : rowP g q W = catT (fun x => wordP g x q ++ [32]) r ++ wordP g r q := by unfold rowP; rw [← e]; exact join_cat [32] (fun x => wordP g x q) r
      rw [e2]
      simp [cellP, cellAt, hq, hr, e]
    · have ei : i + 1 = W * q + (r + 1) := by omega
      have e1 : (i + 1) / W = q := by rw [ei, Nat.mul_add_div hW, Nat.div_eq_of_lt (by omega)]; rfl
      have e2 : (i + 1) % W = r + 1 := by rw [ei, Nat.mul_add_mod]; exact Nat.mod_eq_of_lt (by omega)
      rw [e1, e2, catT_succ]
      simp [cellP, cellAt, hq, hr, e]
/-- The texts of these cells. -/
def cellsT {W H : Nat} (g : Nat → Int) (xs : List (Cell W H)) : List UInt8 := ((xs.map (·.1)).map (cellP g W)).flatten
theorem cellsT_nil {W H : Nat} (g : Nat → Int) : cellsT g ([] : List (Cell W H)) = [] := rfl
theorem cellsT_snoc {W H : Nat} (g : Nat → Int) (xs : List (Cell W H)) (x : Cell W H) : cellsT g (xs ++ [x]) = cellsT g xs ++ (wordP g x.1.1 x.1.2 ++ [if x.1.1 + 1 = W then 10 else 32]) := by
  simp [cellsT, cellP]
theorem cellsT_all {W H : Nat} {g : Nat → Int} (ho : okB g = true) (h0 : g 0 = W) (h1 : g 1 = H) {xs : List (Cell W H)} (h : xs.map (·.1) = upto W (W * H)) : cellsT g xs = pastT g := by
  have hs := okB_size ho
  have hW : 0 < W := by omega
  unfold cellsT
  rw [h, flat_upto g W hW (by omega), Nat.mul_mod_right, catT_zero, List.append_nil, Nat.mul_div_cancel_left _ hW, pastT_yes ho, h1]
  rfl
theorem cellsT_len {W H : Nat} {g : Nat → Int} (ho : okB g = true) (hH : H ≤ 10) (hW : W ≤ 10) : ∀ (xs : List (Cell W H)), (cellsT g xs).length ≤ xs.length * 13
  | [] => by simp [cellsT]
  | x :: xs => by
    have ih := cellsT_len ho hH hW xs
    have h1 := wordP_len ho (x := x.1.1) (y := x.1.2) (by have := x.2.1; omega) (by have := x.2.2; omega)
    have e : cellsT g (x :: xs) = cellP g W x.1 ++ cellsT g xs := by simp [cellsT]
    rw [e, List.length_append, List.length_cons, Nat.succ_mul]
    unfold cellP
    simp only [List.length_append, List.length_cons, List.length_nil]
    omega

/-- No hurdle stands on the border. -/
theorem bitB_nat {r c : Nat} (hr : r < 65536) : bitB (r : Int) c = r.testBit c := by
  unfold bitB
  have e : ((r : Int) / 2 ^ c) = ((r / 2 ^ c : Nat) : Int) := by rw [Int.natCast_ediv]; simp
  rw [e, show (1 : Int) = ((1 : Nat) : Int) from rfl, and_u16 (Nat.lt_of_le_of_lt (Nat.div_le_self _ _) hr) (by decide), Nat.testBit_eq_decide_div_mod_eq, Nat.and_one_is_mod]
  rcases Nat.mod_two_eq_zero_or_one (r / 2 ^ c) with h | h <;> rw [h] <;> rfl
theorem minus_none {r m j : Nat} (hr : r < 65536) (h : minus r m = 0) (hm : m.testBit j = false) : r.testBit j = false := by
  have := minus_bit (b := m) hr j
  rw [h, hm, Nat.zero_testBit] at this
  simpa using this.symm
theorem mask_eq {g : Nat → Int} (h : 1 ≤ g 0 ∧ g 0 ≤ 10) : mask g = ((2 ^ (g 0).toNat - 1 : Nat) : Int) := by
  unfold mask
  generalize hn : (g 0).toNat = n
  have : n = 1 ∨ n = 2 ∨ n = 3 ∨ n = 4 ∨ n = 5 ∨ n = 6 ∨ n = 7 ∨ n = 8 ∨ n = 9 ∨ n = 10 := by omega
  rcases this with rfl | rfl | rfl | rfl | rfl | rfl | rfl | rfl | rfl | rfl <;> decide
theorem east_last {g : Nat → Int} (hg : Fits g) (ho : okB g = true) {x y : Nat} (hx : (x : Int) + 1 = g 0) (hy : (y : Int) < g 1) : bitB (g (102 + y)) x = false := by
  have hs := okB_size ho
  have hr := okB_row ho (y := y) (by omega)
  have hb := hg.bits (102 + y) (by omega) (by omega)
  have hE : badE g y = false := by
    cases e : badE g y
    · rfl
    · rw [rowOk_E e] at hr; cases hr
  unfold badE at hE
  rw [if_pos hy, mask_eq hs.1] at hE
  obtain ⟨r, hr2⟩ : ∃ r : Nat, g (102 + y) = r := ⟨(g (102 + y)).toNat, by omega⟩
  rw [hr2] at hE hb ⊢
  have hx' : (g 0).toNat = x + 1 := by omega
  have hp : 2 ^ (x + 1) ≤ 2 ^ 10 := Nat.pow_le_pow_right (by decide) (by omega)
  have hd : (((2 ^ (g 0).toNat - 1 : Nat) : Int) / 2) = ((2 ^ x - 1 : Nat) : Int) := by
    rw [hx', show ((2 : Int)) = ((2 : Nat) : Int) from rfl, ← Int.natCast_ediv, Nat.pow_succ]
    congr 1; omega
  rw [hd, minus_u16 (by omega) (by rw [Nat.pow_succ] at hp; omega)] at hE
  rw [bitB_nat (by omega)]
  refine minus_none (m := 2 ^ x - 1) (by omega) ?_ (by rw [Nat.testBit_two_pow_sub_one]; simp)
  have : ((minus r (2 ^ x - 1) : Nat) : Int) = 0 := by simpa using hE
  omega
theorem south_last {g : Nat → Int} (hg : Fits g) (ho : okB g = true) {x y : Nat} (hx : (x : Int) < g 0) (hy : (y : Int) + 1 = g 1) : bitB (g (112 + y)) x = false := by
  have hs := okB_size ho
  have hr := okB_row ho (y := y) (by omega)
  have hb := hg.bits (112 + y) (by omega) (by omega)
  have hS : badS g y = false := by
    cases e : badS g y
    · rfl
    · rw [rowOk_S e] at hr; cases hr
  unfold badS at hS
  rw [if_neg (by omega)] at hS
  obtain ⟨r, hr2⟩ : ∃ r : Nat, g (112 + y) = r := ⟨(g (112 + y)).toNat, by omega⟩
  rw [hr2] at hS hb ⊢
  rw [show (0 : Int) = ((0 : Nat) : Int) from rfl, minus_u16 (by omega) (by decide)] at hS
  rw [bitB_nat (by omega)]
  refine minus_none (m := 0) (by omega) ?_ (by simp)
  have : ((minus r 0 : Nat) : Int) = 0 := by simpa using hS
  omega
theorem fencedB_east {g : Nat → Int} (hg : Fits g) (ho : okB g = true) {x y : Nat} (hx : (x : Int) < g 0) (hy : (y : Int) < g 1) : fencedB g 1 x y = bitB (g (102 + y)) x := by
  have hs := okB_size ho
  have ef : fenceB g 1 x y = bitB (g (102 + y)) x := by simp [fenceB, sideRow, sideBit]
  unfold fencedB
  rw [ef]
  by_cases e : (x : Int) + 1 = g 0
  · rw [east_last hg ho e hy, Bool.and_false]
  · have : isB g (nxX 1 x) (nxY 1 y) = true := by
      show isB g ((x : Int) + 1) (y : Int) = true
      unfold isB
      rw [inB_yes (show _ ∧ _ from ⟨by omega, by omega⟩), inB_yes (show _ ∧ _ from ⟨by omega, by omega⟩)]; rfl
    rw [this, Bool.true_and]
theorem fencedB_south {g : Nat → Int} (hg : Fits g) (ho : okB g = true) {x y : Nat} (hx : (x : Int) < g 0) (hy : (y : Int) < g 1) : fencedB g 2 x y = bitB (g (112 + y)) x := by
  have hs := okB_size ho
  have ef : fenceB g 2 x y = bitB (g (112 + y)) x := by simp [fenceB, sideRow, sideBit]
  unfold fencedB
  rw [ef]
  by_cases e : (y : Int) + 1 = g 1
  · rw [south_last hg ho hx e, Bool.and_false]
  · have : isB g (nxX 2 x) (nxY 2 y) = true := by
      show isB g (x : Int) ((y : Int) + 1) = true
      unfold isB
      rw [inB_yes (show _ ∧ _ from ⟨by omega, by omega⟩), inB_yes (show _ ∧ _ from ⟨by omega, by omega⟩)]; rfl
    rw [this, Bool.true_and]
end Go.Proofs.YtcdpdcjdjcbhcaaDoor

/-
  The text of a pasture; spec.l01Text, PastureText by contracts.
-/
namespace Go.Proofs.YtcdpdcjdjcbhcaaDoor
open Go Go.RowKit Go.BigFrame

theorem str_app {l a b : List UInt8} (h : a = b) : Value.string (bs (l ++ a)) = Value.string (bs (l ++ b)) := by rw [h]
set_option maxRecDepth 100000 in
set_option maxHeartbeats 16000000 in
theorem l01Text_any (g : Nat → Int) (hg : Fits g) (ho : okB g = true) (bp : Nat) (w : World) (hA : At w bp 122 (pas g)) :
    Calls Tryd.prog 65 #[.pointer (some ⟨bp, 0, none⟩)] w fun e w' => e = .returned (.string (bs (pastT g))) ∧ Below w.heap.size w w' := by
  have hM : Mem w [(bp, 122, pas g)] w := (Mem.nil w).old hA (fun i p h => by simp at h)
  have HP := Lib.hid (pastT_yes ho)
  have hs := okB_size ho
  obtain ⟨W, hW⟩ : ∃ W : Nat, g 0 = W := ⟨(g 0).toNat, by omega⟩
  obtain ⟨H, hH⟩ : ∃ H : Nat, g 1 = H := ⟨(g 1).toNat, by omega⟩
  have hWn : (g 0).toNat = W := by omega
  have hHn : (g 1).toNat = H := by omega
  have hW10 : W ≤ 10 := by omega
  have hH10 : H ≤ 10 := by omega
  have HL := Lib.hid (fun (k : Nat) (hk : k ≤ H) => linesP_len ho (n := k) (by omega))
  have HR := Lib.hid (fun (k : Nat) (hk : k < H) (n : Nat) (hn : n ≤ W) => rowP_len ho (y := k) (by omega) (n := n) (by omega))
  have HN := Lib.hid (fun (k : Nat) (hk : k < H) (j : Nat) (hj : j < W) => okB_grass ho (x := j) (y := k) (by omega) (by omega))
  have HB := Lib.hid (fun (i : Nat) (h1 : 102 ≤ i) (h2 : i < 122) => hg.bits i h1 h2)
  have HLS := Lib.hid (fun (k : Nat) => show linesP g (k + 1) = linesP g k ++ (rowP g k W ++ [10]) from by unfold linesP; rw [catT_succ, hWn])
  have eW : pas g 0 = .int .i8 (W : Int) := by rw [← hW]; rfl
  have eH : pas g 1 = .int .i8 (H : Int) := by rw [← hH]; rfl
  rw [hHn] at HP
  clear hA hg ho hs hW hH hWn hHn
  go_enter Tryd.func65, Tryd.ntmps65
  go_wp2
  go_loopw [3, 4] (fun s i wr => ∃ (k : Nat) (l : List UInt8), k ≤ H ∧ i = .int .i8 k ∧ s = .string (bs l) ∧ Hid (l = linesP g k) ∧ Mem w [(bp, 122, pas g)] wr) (fun _ i _ => H - (intOf i).toNat)
  case atStart => exact ⟨0, [], by omega, rfl, rfl, Lib.hid rfl, hM⟩
  case round =>
    clear hM
    obtain ⟨k, l, hk, rfl, rfl, hl, hM⟩ := hrel
    have hll := HL.out k hk
    rw [← hl.out] at hll
    by_cases hlt : k < H
    · have l2 : decide ((k : Int) < H) = true := decide_eq_true (by omega)
      have l3 : (k : Int) < 10 := by omega
      go_wp2_with (first | (refine wpList_get1 rfl _ _ rfl _ _ rfl hM 0 rfl (cellTab _ rfl) (by omega) _ eH ?_))
      have HR2 := Lib.hid (HR.out k hlt)
      have HN2 := Lib.hid (HN.out k hlt)
      go_loopw [3, 5] (fun s i wr => ∃ (j : Nat) (m : List UInt8), j ≤ W ∧ i = .int .i8 j ∧ s = .string (bs (l ++ m)) ∧ Hid (m = rowP g k j) ∧ Mem w [(bp, 122, pas g)] wr) (fun _ i _ => W - (intOf i).toNat)
      case atStart => exact ⟨0, [], by omega, rfl, by rw [List.append_nil], Lib.hid rfl, hM⟩
      case round =>
        clear hM
        obtain ⟨j, m, hj, rfl, rfl, hm, hM⟩ := hrel
        have hmm := HR2.out j hj
        rw [← hm.out] at hmm
        by_cases hjlt : j < W
        · have j2 : decide ((j : Int) < W) = true := decide_eq_true (by omega)
          have j3 : (j : Int) < 10 := by omega
          have e0 : pas g (2 + k * 10 + j) = .int .i16 (g (2 + k * 10 + j)) := pas_i16 g (by omega) (by omega)
          have e1 : pas g (102 + k) = .int .u16 (g (102 + k)) := pas_u16 g (by omega)
          have e2 : pas g (112 + k) = .int .u16 (g (112 + k)) := pas_u16 g (by omega)
          have hr1 := HB.out (102 + k) (by omega) (by omega)
          have hr2 := HB.out (112 + k) (by omega) (by omega)
          have hn := HN2.out j hjlt
          have cn : IntKind.i64.wrap (g (2 + k * 10 + j)) = g (2 + k * 10 + j) := IntWalk.i64_in _ (by omega)
          have cx : IntKind.u64.wrap (j : Int) = j := IntWalk.u64_in _ (by omega)
          have mx : min j 16 = j := by omega
          have hb1 := bitB_eq (g (102 + k)) j
          have hb2 := bitB_eq (g (112 + k)) j
          have HK := Lib.hid (fun (W : World) => Decimal_any (g (2 + k * 10 + j)) hn.1 (by omega) W)
          have ld := numB_len (n := g (2 + k * 10 + j)) (by omega)
          have hwd : wordP g j k = numB (g (2 + k * 10 + j)) ++ markW (bitB (g (102 + k)) j) 124 ++ markW (bitB (g (112 + k)) j) 95 := rfl
          generalize hv : numB (g (2 + k * 10 + j)) = v at HK ld hwd
          have Hwd := Lib.hid hwd
          clear hwd hv
          have hq : rowP g k (j + 1) = (if 0 < j then m ++ [32] else []) ++ wordP g j k := by
            unfold rowP
            by_cases h0 : 0 < j
            · rw [if_pos h0, joinT_succ [32] _ h0, hm.out]; rfl
            · obtain rfl : j = 0 := by omega
              rw [if_neg h0, joinT_one, List.nil_append]
          have Hq := Lib.hid hq
          clear hq
          have ht : (v ++ markW (bitB (g (102 + k)) j) 124 ++ markW (bitB (g (112 + k)) j) 95).length ≤ 12 := by
            have h2 := markW_len (bitB (g (102 + k)) j) 124
            have h3 := markW_len (bitB (g (112 + k)) j) 95
            simp only [List.length_append]; omega
          obtain ⟨t1, ht1⟩ : ∃ t, bitB (g (102 + k)) j = t := ⟨_, rfl⟩
          obtain ⟨t2, ht2⟩ : ∃ t, bitB (g (112 + k)) j = t := ⟨_, rfl⟩
          rw [ht1] at hb1 Hwd
          rw [ht2] at hb2 Hwd
          clear ht1 ht2 ht
          rcases Nat.eq_zero_or_pos j with h0 | h0
          · have dz : decide ((j : Int) > 0) = false := decide_eq_false (by omega)
            have dy : decide (0 < (j : Int)) = false := decide_eq_false (by omega)
            have dx : decide (0 < j) = false := decide_eq_false (by omega)
            have hm0 : m = [] := by rw [hm.out, h0]; rfl
            have H0 := Lib.hid h0
            have Hm0 := Lib.hid hm0
            clear h0 hm0
            cases t1 <;> cases t2
            all_goals
              go_wp2_with (first | (refine wpList_cat rfl _ _ rfl _ _ rfl rfl (by simp only [List.length_append, List.length_cons, List.length_nil]; omega) ?_) | (refine wpList_get1 rfl _ _ rfl _ _ rfl hM 0 rfl (cellTab _ rfl) (by omega) _ eW ?_) | (refine wpList_get1 rfl _ _ rfl _ _ rfl hM 0 rfl (cellTab _ rfl) (by omega) _ e0 ?_) | (refine wpList_get1 rfl _ _ rfl _ _ rfl hM 0 rfl (cellTab _ rfl) (by omega) _ e1 ?_) | (refine wpList_get1 rfl _ _ rfl _ _ rfl hM 0 rfl (cellTab _ rfl) (by omega) _ e2 ?_) | (go_at_call 94; (with_reducible refine (HK.out _).mono ?_); rintro e W' ⟨rfl, hb'⟩; have hM' := hM.call hb'; clear hM hb'; have hM := hM'; clear hM'))
              go_roundw
              case rel => exact ⟨j + 1, rowP g k (j + 1), by omega, by go_num, str_app (by rw [Hq.out, if_neg (by rw [H0.out]; omega), Hwd.out, Hm0.out]; simp [markW]), Lib.hid rfl, hM⟩
              case measure => simp [intOf]; omega
          · have dz : decide ((j : Int) > 0) = true := decide_eq_true (by omega)
            have dy : decide (0 < (j : Int)) = true := decide_eq_true (by omega)
            have dx : decide (0 < j) = true := decide_eq_true (by omega)
            cases t1 <;> cases t2
            all_goals
              go_wp2_with (first | (refine wpList_cat rfl _ _ rfl _ _ rfl rfl (by simp only [List.length_append, List.length_cons, List.length_nil]; omega) ?_) | (refine wpList_get1 rfl _ _ rfl _ _ rfl hM 0 rfl (cellTab _ rfl) (by omega) _ eW ?_) | (refine wpList_get1 rfl _ _ rfl _ _ rfl hM 0 rfl (cellTab _ rfl) (by omega) _ e0 ?_) | (refine wpList_get1 rfl _ _ rfl _ _ rfl hM 0 rfl (cellTab _ rfl) (by omega) _ e1 ?_) | (refine wpList_get1 rfl _ _ rfl _ _ rfl hM 0 rfl (cellTab _ rfl) (by omega) _ e2 ?_) | (go_at_call 94; (with_reducible refine (HK.out _).mono ?_); rintro e W' ⟨rfl, hb'⟩; have hM' := hM.call hb'; clear hM hb'; have hM := hM'; clear hM'))
              go_roundw
              case rel => exact ⟨j + 1, rowP g k (j + 1), by omega, by go_num, str_app (by rw [Hq.out, if_pos h0, Hwd.out]; simp [markW]), Lib.hid rfl, hM⟩
              case measure => simp [intOf]; omega
        · obtain rfl : j = W := by omega
          have j2 : decide ((j : Int) < j) = false := decide_eq_false (by omega)
          go_wp2_with (first | (refine wpList_cat rfl _ _ rfl _ _ rfl rfl (by simp only [List.length_append, List.length_cons, List.length_nil]; omega) ?_) | (refine wpList_get1 rfl _ _ rfl _ _ rfl hM 0 rfl (cellTab _ rfl) (by omega) _ eW ?_))
          go_roundw
          case rel => exact ⟨k + 1, linesP g (k + 1), by omega, by go_num, by rw [HLS.out, ← hl.out, ← hm.out], Lib.hid rfl, hM⟩
          case measure => simp [intOf]; omega
    · obtain rfl : k = H := by omega
      have l2 : decide ((k : Int) < k) = false := decide_eq_false (by omega)
      go_wp2_with (first | (refine wpList_get1 rfl _ _ rfl _ _ rfl hM 0 rfl (cellTab _ rfl) (by omega) _ eH ?_))
      go_ret
      exact ⟨ret_bs (by rw [HP.out, ← hl.out]), hM.below⟩

set_option maxRecDepth 100000 in
set_option maxHeartbeats 4000000 in
theorem specPastureText_any (g : Nat → Int) (hg : Fits g) (w : World) :
    Calls Tryd.prog 28 #[.agg (arr 122 (pas g))] w fun e w' => e = .returned (.string (bs (pastT g))) ∧ Below w.heap.size w w' := by
  have hM := Mem.nil w
  cases ho : okB g
  · have Ho := Lib.hid ho
    clear ho
    have tk_b1 : True := trivial
    go_enter Tryd.func28, Tryd.ntmps28
    go_wp2_with (first | (have _t := tk_b1; refine wpList_box rfl _ _ rfl _ _ rfl hM ?_; intro b1 W' hb1 hM'; clear hM tk_b1; have hM := hM'; clear hM') | (go_at_call 64; refine (l01Ok_any g hg _ _ (hM.ats 0 _ _ _ rfl)).mono ?_; rintro e W' ⟨rfl, hb'⟩; rw [Ho.out]; have hM' := hM.call hb'; clear hM hb'; have hM := hM'; clear hM'))
    go_ret
    exact ⟨ret_bs (pastT_no Ho.out).symm, hM.below⟩
  · have Ho := Lib.hid ho
    have Ht := Lib.hid (fun (b : Nat) (W : World) (hA : At W b 122 (pas g)) => l01Text_any g hg ho b W hA)
    clear ho
    have tk_b1 : True := trivial
    go_enter Tryd.func28, Tryd.ntmps28
    go_wp2_with (first | (have _t := tk_b1; refine wpList_box rfl _ _ rfl _ _ rfl hM ?_; intro b1 W' hb1 hM'; clear hM tk_b1; have hM := hM'; clear hM') | (go_at_call 64; refine (l01Ok_any g hg _ _ (hM.ats 0 _ _ _ rfl)).mono ?_; rintro e W' ⟨rfl, hb'⟩; rw [Ho.out]; have hM' := hM.call hb'; clear hM hb'; have hM := hM'; clear hM') | (go_at_call 65; (with_reducible refine (Ht.out _ _ (hM.ats 0 _ _ _ rfl)).mono ?_); rintro e W' ⟨rfl, hb'⟩; have hM' := hM.call hb'; clear hM hb'; have hM := hM'; clear hM'))
    go_ret
    exact ⟨rfl, hM.below⟩
end Go.Proofs.YtcdpdcjdjcbhcaaDoor

