/-
  Several texts in one: ReadN, ReadW, Slice, Own, SplitM, Byte.
-/
import Derived.Test.YtaaphdbaocjecaaGreatDoorP2
import Derived.Great.BuildSlice
import Derived.Lib.Hide
import Derived.Test.YtaaphdbaocjecaaGreatDoorP1
import Derived.Deep.DeepAppendWide
import Derived.ArgAppend
import Derived.Laws.Strings2
import Derived.Lib.Strings
import Derived.Test.YtaaphdbaocjecaaGreatDoorProg
/-
  Numbers read.
-/
namespace Go.Proofs.YtaaphdbaocjecaaGreatDoor
open Go

def isD (d : UInt8) : Bool := decide (48 ≤ d.toNat) && decide (d.toNat ≤ 57)
theorem isD_iff {d : UInt8} : isD d = true ↔ 48 ≤ d.toNat ∧ d.toNat ≤ 57 := by unfold isD; simp
def valFrom (n : Nat) (l : List UInt8) : Nat := l.foldl (fun n d => 10 * n + (d.toNat - 48)) n
def valD (l : List UInt8) : Nat := valFrom 0 l
theorem valFrom_snoc (n : Nat) (l : List UInt8) (d : UInt8) : valFrom n (l ++ [d]) = 10 * valFrom n l + (d.toNat - 48) := by simp [valFrom]
theorem valD_snoc (l : List UInt8) (d : UInt8) : valD (l ++ [d]) = 10 * valD l + (d.toNat - 48) := valFrom_snoc 0 l d
/-- Digits, with no needless 0 ahead. -/
def PlainD (l : List UInt8) : Prop := l ≠ [] ∧ (∀ d, d ∈ l → isD d = true) ∧ (l.head? = some 48 → l.length = 1)
theorem ofNat_digit {d : UInt8} (h : isD d = true) : UInt8.ofNat (48 + (d.toNat - 48)) = d := by
  have := isD_iff.1 h
  rw [show 48 + (d.toNat - 48) = d.toNat by omega]
  exact UInt8.ofNat_toNat
theorem toNat_digit {k : Nat} (h : k < 10) : (UInt8.ofNat (48 + k)).toNat = 48 + k := by
  rw [UInt8.toNat_ofNat']
  exact Nat.mod_eq_of_lt (by omega)
theorem isD_ofNat {k : Nat} (h : k < 10) : isD (UInt8.ofNat (48 + k)) = true := isD_iff.2 (by rw [toNat_digit h]; omega)
theorem snoc_cases (l : List UInt8) : l = [] ∨ ∃ r d, l = r ++ [d] := by
  cases h : l.reverse with
  | nil => exact .inl (by simpa using h)
  | cons d r => exact .inr ⟨r.reverse, d, by rw [← List.reverse_reverse l, h]; simp⟩
theorem decD_small {u : Nat} (h : u < 10) : Lib.decDigits u = [UInt8.ofNat (48 + u)] := Lib.decDigits_one h
theorem decD_big {u : Nat} (h : ¬ u < 10) : Lib.decDigits u = Lib.decDigits (u / 10) ++ [UInt8.ofNat (48 + u % 10)] := by rw [Lib.decDigits, dif_neg h]
theorem decD_ne : ∀ u, Lib.decDigits u ≠ [] := fun u => by
  by_cases h : u < 10
  · rw [decD_small h]; simp
  · rw [decD_big h]; simp
theorem decD_val : ∀ (n u : Nat), u ≤ n → valD (Lib.decDigits u) = u
  | n, u, hn => by
    by_cases h : u < 10
    · rw [decD_small h]
      have := toNat_digit h
      simp [valD, valFrom]; omega
    · cases n with
      | zero => omega
      | succ n =>
        rw [decD_big h, valD_snoc, decD_val n (u / 10) (by omega), toNat_digit (by omega)]
        omega
theorem decD_isD : ∀ (n u : Nat), u ≤ n → ∀ d, d ∈ Lib.decDigits u → isD d = true
  | n, u, hn, d, hd => by
    by_cases h : u < 10
    · rw [decD_small h] at hd
      rw [List.mem_singleton.1 hd]; exact isD_ofNat h
    · cases n with
      | zero => omega
      | succ n =>
        rw [decD_big h] at hd
        rcases List.mem_append.1 hd with hd | hd
        · exact decD_isD n (u / 10) (by omega) d hd
        · rw [List.mem_singleton.1 hd]; exact isD_ofNat (Nat.mod_lt _ (by omega))
theorem decD_head : ∀ (n u : Nat), u ≤ n → 0 < u → (Lib.decDigits u).head? ≠ some 48
  | n, u, hn, h0, e => by
    by_cases h : u < 10
    · rw [decD_small h] at e
      have e2 : UInt8.ofNat (48 + u) = 48 := by injection e
      have := toNat_digit h
      rw [e2] at this
      have e3 : (48 : UInt8).toNat = 48 := rfl
      omega
    · cases n with
      | zero => omega
      | succ n =>
        rw [decD_big h, List.head?_append] at e
        cases hh : (Lib.decDigits (u / 10)).head? with
        | none => exact decD_ne _ (List.head?_eq_none_iff.1 hh)
        | some a =>
          rw [hh] at e
          simp at e; subst e
          exact decD_head n (u / 10) (by omega) (by omega) hh
theorem decD_plain (u : Nat) : PlainD (Lib.decDigits u) := by
  refine ⟨decD_ne u, decD_isD u u (Nat.le_refl _), fun e => ?_⟩
  by_cases h : 0 < u
  · exact absurd e (decD_head u u (Nat.le_refl _) h)
  · obtain rfl : u = 0 := by omega
    rw [decD_small (by omega)]; rfl
theorem plain_dec : ∀ (n : Nat) (l : List UInt8), l.length ≤ n → PlainD l → l = Lib.decDigits (valD l)
  | 0, l, hn, h => absurd (List.eq_nil_of_length_eq_zero (by omega)) h.1
  | n + 1, l, hn, h => by
    rcases snoc_cases l with rfl | ⟨r, d, rfl⟩
    · exact absurd rfl h.1
    · have hd := h.2.1 d (by simp)
      have hd2 := isD_iff.1 hd
      by_cases hr : r = []
      · subst hr
        have ev : valD ([] ++ [d]) = d.toNat - 48 := by rw [valD_snoc]; simp [valD, valFrom]
        rw [ev, decD_small (by omega), ofNat_digit hd]; rfl
      · have hlen : 1 ≤ r.length := by
          rcases Nat.eq_zero_or_pos r.length with e | e
          · exact absurd (List.eq_nil_of_length_eq_zero e) hr
          · exact e
        have hh : (r ++ [d]).head? = r.head? := by cases r with
          | nil => exact absurd rfl hr
          | cons a r => rfl
        have hnh : r.head? ≠ some 48 := fun e => by
          have := h.2.2 (by rw [hh]; exact e)
          simp only [List.length_append, List.length_cons, List.length_nil] at this
          omega
        have hp : PlainD r := ⟨hr, fun x hx => h.2.1 x (by simp [hx]), fun e => absurd e hnh⟩
        have ih := plain_dec n r (by simp only [List.length_append, List.length_cons, List.length_nil] at hn; omega) hp
        have hv : 0 < valD r := by
          rcases Nat.eq_zero_or_pos (valD r) with e | e
          · rw [e] at ih
            exact absurd (by rw [ih, decD_small (by omega)]; rfl) hnh
          · exact e
        rw [valD_snoc, decD_big (by omega), show (10 * valD r + (d.toNat - 48)) / 10 = valD r by omega, show (10 * valD r + (d.toNat - 48)) % 10 = d.toNat - 48 by omega, ← ih, ofNat_digit hd]
/-- A number of at most nine digits, as spec.l01Number takes it. -/
def numB9 (l : List UInt8) : Bool := !l.isEmpty && decide (l.length ≤ 9) && !(l.head? == some 48 && decide (1 < l.length)) && l.all isD
theorem numB9_plain {l : List UInt8} (h : numB9 l = true) : PlainD l ∧ l.length ≤ 9 := by
  unfold numB9 at h
  simp only [Bool.and_eq_true, Bool.not_eq_true', decide_eq_true_eq, List.all_eq_true] at h
  obtain ⟨⟨⟨h1, h2⟩, h3⟩, h4⟩ := h
  refine ⟨⟨fun e => by subst e; simp at h1, h4, fun e => ?_⟩, h2⟩
  rw [e] at h3
  simp at h3
  cases l with
  | nil => simp at e
  | cons a r => simp only [List.length_cons] at h3 ⊢; omega
theorem numB9_iff {l : List UInt8} : numB9 l = true ↔ l.length ≤ 9 ∧ l = Lib.decDigits (valD l) := by
  constructor
  · intro h
    obtain ⟨h1, h2⟩ := numB9_plain h
    exact ⟨h2, plain_dec _ l (Nat.le_refl _) h1⟩
  · rintro ⟨h1, h2⟩
    have hp : PlainD l := by rw [h2]; exact decD_plain _
    unfold numB9
    simp only [Bool.and_eq_true, Bool.not_eq_true', decide_eq_true_eq, List.all_eq_true]
    refine ⟨⟨⟨?_, h1⟩, ?_⟩, hp.2.1⟩
    · cases l with
      | nil => exact absurd rfl hp.1
      | cons a r => rfl
    · by_cases e : l.head? = some 48
      · have := hp.2.2 e
        simp [this]
      · simp [e]
/-- The library's numbers. -/
theorem parseM_dec (M : Nat) (hM : M < 1844674407370955162) : ∀ (l : List UInt8) (acc : Nat), (∀ d, d ∈ l → isD d = true) → valFrom acc l ≤ M → Lib.parseUintM M acc l = .ok (valFrom acc l)
  | [], acc, _, _ => rfl
  | c :: r, acc, hd, hv => by
    have h1 := isD_iff.1 (hd c (by simp))
    have mono : ∀ (r : List UInt8) (a : Nat), a ≤ valFrom a r := by
      intro r
      induction r with
      | nil => intro a; exact Nat.le_refl _
      | cons x r ih => intro a; have := ih (10 * a + (x.toNat - 48)); show a ≤ valFrom (10 * a + (x.toNat - 48)) r; omega
    have e : valFrom acc (c :: r) = valFrom (acc * 10 + (c.toNat - 48)) r := by show valFrom (10 * acc + (c.toNat - 48)) r = _; rw [Nat.mul_comm]
    rw [e] at hv ⊢
    have h2 := mono r (acc * 10 + (c.toNat - 48))
    rw [Lib.parseUintM, if_pos h1, if_neg (by omega), if_neg (by omega)]
    exact parseM_dec M hM r _ (fun d h => hd d (by simp [h])) hv
theorem parseB_dec {B u : Nat} (hB : B ≤ 32) (h0 : 1 ≤ B) (hu : u < 2 ^ (B - 1)) : Lib.parseIntB B (Lib.decDigits u) = .ok (u : Int) := by
  have hp := decD_plain u
  have hv := decD_val u u (Nat.le_refl _)
  have hle : 2 ^ B ≤ 2 ^ 32 := Nat.pow_le_pow_right (by decide) hB
  have hlt : 2 ^ (B - 1) ≤ 2 ^ B - 1 := by
    have : 2 ^ B = 2 ^ (B - 1) * 2 := by rw [← Nat.pow_succ]; congr 1; omega
    have := Nat.pow_pos (n := B - 1) (show 0 < 2 by decide)
    omega
  cases hc : Lib.decDigits u with
  | nil => exact absurd hc hp.1
  | cons c r =>
    have hd := isD_iff.1 (hp.2.1 c (by rw [hc]; simp))
    rw [Lib.parseIntB_plain B c r (by omega) (by omega)]
    have e : Lib.parseUintB B (c :: r) = .ok u := by
      unfold Lib.parseUintB
      rw [if_neg (by simp), ← hc, parseM_dec _ (by omega) _ 0 hp.2.1 (by show valD _ ≤ _; rw [hv]; omega)]
      show Lib.NumEnd.ok (valD (Lib.decDigits u)) = _
      rw [hv]
    rw [e]
    simp only [Lib.signlessC]
    rw [if_neg (by omega)]
end Go.Proofs.YtaaphdbaocjecaaGreatDoor

/-
  Words read: two parts, numbers, spots.
-/
namespace Go.Proofs.YtaaphdbaocjecaaGreatDoor
open Go

theorem parts_two {c : UInt8} {w p q : List UInt8} : partsC c w = [p, q] ↔ w = p ++ c :: q ∧ c ∉ p ∧ c ∉ q := by
  constructor
  · intro h
    have hn := partsC_none c w
    rw [h] at hn
    refine ⟨?_, hn p (by simp), hn q (by simp)⟩
    rw [← join_partsC c _ w (Nat.le_refl _), h, join_two, show Lib.join [q] [c] = q from Lib.join_one _ _]
    simp
  · rintro ⟨rfl, h1, h2⟩
    rw [partsC_app p q h1, partsC_free q h2]
theorem numB_dig (n : Int) : ∀ d, d ∈ numB n → isD d = true := decD_isD _ _ (Nat.le_refl _)
theorem numB_free {c : UInt8} (h : isD c = false) (n : Int) : c ∉ numB n := fun e => by rw [numB_dig n c e] at h; cases h
theorem numB_ne (n : Int) : numB n ≠ [] := decD_ne _
theorem numB_val {n : Int} (h : 0 ≤ n) : (valD (numB n) : Int) = n := by unfold numB; rw [decD_val _ _ (Nat.le_refl _)]; omega
theorem numB_inj {m n : Int} (hm : 0 ≤ m) (hn : 0 ≤ n) (h : numB m = numB n) : m = n := by rw [← numB_val hm, h, numB_val hn]
theorem num9_numB {l : List UInt8} (h : numB9 l = true) : l = numB (valD l) := by
  have := (numB9_iff.1 h).2
  unfold numB
  rwa [Int.toNat_natCast]
theorem nDigits_le9 {u : Nat} (h : u < 1000000000) : Lib.nDigits u ≤ 9 := by
  have key : ∀ (k u : Nat), u < 10 ^ (k + 1) → Lib.nDigits u ≤ k + 1 := by
    intro k
    induction k with
    | zero => intro u h; rw [Lib.nDigits_small (by omega)]; omega
    | succ k ih =>
      intro u h
      by_cases h10 : u < 10
      · rw [Lib.nDigits_small h10]; omega
      · rw [Lib.nDigits_big h10]
        have := ih (u / 10) (by rw [Nat.div_lt_iff_lt_mul (by omega)]; rw [Nat.pow_succ] at h; omega)
        omega
  exact key 8 u h
theorem numB_num9 {n : Int} (h0 : 0 ≤ n) (h : n < 1000000000) : numB9 (numB n) = true := by
  refine numB9_iff.2 ⟨?_, ?_⟩
  · unfold numB; rw [Lib.decDigits_length]; exact nDigits_le9 (by omega)
  · have := numB_val h0
    unfold numB at this ⊢
    rw [decD_val _ _ (Nat.le_refl _)]
theorem parse_numB {B : Nat} {n : Int} (hB : B ≤ 32) (h1 : 1 ≤ B) (h0 : 0 ≤ n) (h : n < 2 ^ (B - 1)) : Lib.parseIntB B (numB n) = .ok n := by
  unfold numB
  have e : ((2 ^ (B - 1) : Nat) : Int) = 2 ^ (B - 1) := by simp
  rw [parseB_dec hB h1 (by omega)]
  congr 1
  omega
/-- A spot's word. -/
theorem spotT_free {c : UInt8} (h : isD c = false) (h2 : c ≠ 44) (x y : Int) : c ∉ spotT x y := by
  intro e
  unfold spotT at e
  rcases List.mem_append.1 e with e | e
  · rcases List.mem_append.1 e with e | e
    · exact numB_free h x e
    · simp at e; exact h2 e
  · exact numB_free h y e
theorem spotT_parts (x y : Int) : partsC 44 (spotT x y) = [numB x, numB y] :=
  parts_two.2 ⟨by unfold spotT; simp, numB_free (by decide) x, numB_free (by decide) y⟩
theorem spotT_cut (x y : Int) : Lib.cut (spotT x y) [44] = (numB x, numB y, true) := by
  have : spotT x y = numB x ++ 44 :: numB y := by unfold spotT; simp
  rw [this]
  exact cut_app (numB_free (by decide) x)
theorem spotT_inj {x y u v : Int} (hx : 0 ≤ x) (hy : 0 ≤ y) (hu : 0 ≤ u) (hv : 0 ≤ v) (h : spotT x y = spotT u v) : x = u ∧ y = v := by
  have := spotT_parts x y
  rw [h, spotT_parts] at this
  simp at this
  exact ⟨(numB_inj hu hx this.1).symm, (numB_inj hv hy this.2).symm⟩
/-- A joined text's parts are its words. -/
theorem partsC_joinT {c : UInt8} {f : Nat → List UInt8} {n : Nat} (hn : 0 < n) (hf : ∀ k, k < n → c ∉ f k) : partsC c (joinT [c] f n) = (List.range n).map f := by
  unfold joinT
  refine partsC_join c _ (fun e => ?_) (fun w hw => ?_)
  · have := congrArg List.length e
    simp at this; omega
  · obtain ⟨k, hk, rfl⟩ := List.mem_map.1 hw
    exact hf k (List.mem_range.1 hk)
theorem joinT_inj {c : UInt8} {f g : Nat → List UInt8} {n m : Nat} (hn : 0 < n) (hm : 0 < m) (hf : ∀ k, k < n → c ∉ f k) (hg : ∀ k, k < m → c ∉ g k) (h : joinT [c] f n = joinT [c] g m) : n = m ∧ ∀ k, k < n → f k = g k := by
  have e := partsC_joinT hn hf
  rw [h, partsC_joinT hm hg] at e
  have el := congrArg List.length e
  simp only [List.length_map, List.length_range] at el
  subst el
  refine ⟨rfl, fun k hk => ?_⟩
  have := congrArg (fun l => l[k]?) e
  simp [hk] at this
  exact this.symm
theorem joinT_parts {c : UInt8} {f : Nat → List UInt8} {l : List UInt8} (h : ∀ k, k < (partsC c l).length → (partsC c l)[k]? = some (f k)) : joinT [c] f (partsC c l).length = l := by
  unfold joinT
  have : (List.range (partsC c l).length).map f = partsC c l := by
    apply List.ext_getElem?
    intro k
    by_cases hk : k < (partsC c l).length
    · rw [h k hk]; simp [hk]
    · rw [List.getElem?_eq_none (by simp; omega), List.getElem?_eq_none (by omega)]
  rw [this]
  exact join_partsC c _ l (Nat.le_refl _)
end Go.Proofs.YtaaphdbaocjecaaGreatDoor

/-
  PLAIN LAWS: slices of rows by value: a slice literal of one or two such elements is a new block.
-/
namespace Go.Proofs.YtaaphdbaocjecaaGreatDoor
open Go Go.RowKit

theorem fold_lay (f : Nat → Value) (off : Nat) : ∀ (m : Nat) (cs : Array Value), off + m ≤ cs.size →
    (((List.range m).map f).zipIdx.foldl (fun cs x => cs.setIfInBounds (off + x.2) x.1) cs).size = cs.size ∧
    ∀ k : Nat, (((List.range m).map f).zipIdx.foldl (fun cs x => cs.setIfInBounds (off + x.2) x.1) cs)[k]? = if off ≤ k ∧ k < off + m then some (f (k - off)) else cs[k]?
  | 0, cs, _ => by
    refine ⟨rfl, fun k => ?_⟩
    rw [if_neg (by omega)]; rfl
  | m + 1, cs, h => by
    obtain ⟨i1, i2⟩ := fold_lay f off m cs (by omega)
    rw [List.range_succ, List.map_append, List.zipIdx_append, List.foldl_append]
    simp only [List.map_cons, List.map_nil, List.length_map, List.length_range, Nat.zero_add, List.zipIdx_cons, List.zipIdx_nil, List.foldl_cons, List.foldl_nil]
    refine ⟨by rw [Array.size_setIfInBounds, i1], fun k => ?_⟩
    rw [Array.getElem?_setIfInBounds, i2 k, i1]
    by_cases h1 : off + m = k
    · subst h1
      simp [show off + m < cs.size by omega]
    · simp only [h1, if_false]
      by_cases h2 : off ≤ k ∧ k < off + m
      · rw [if_pos h2, if_pos (by omega)]
      · rw [if_neg h2, if_neg (by omega)]

theorem fill_one {place : Nat → Option (Nat × Nat)} {cs : Array Value} {i off m : Nat} {f : Nat → Value} (hp : place i = some (off, m)) (hle : off + m ≤ cs.size) (rest : List (Nat × Value)) :
    ∃ cs', Instr.fill place cs ((i, .agg (arr m f)) :: rest) = Instr.fill place cs' rest ∧ cs'.size = cs.size ∧ ∀ k : Nat, cs'[k]? = if off ≤ k ∧ k < off + m then some (f (k - off)) else cs[k]? := by
  refine ⟨_, ?_, (fold_lay f off m cs hle).1, (fold_lay f off m cs hle).2⟩
  rw [Instr.fill, hp]
  have e1 : (decide ((Value.agg (arr m f)).cells.size ≠ m) || decide (off + (Value.agg (arr m f)).cells.size > cs.size)) = false := by
    simp [Value.cells, arr_size]; omega
  simp only [Value.cells] at e1 ⊢
  rw [← Array.foldl_toList, Array.toList_zipIdx, arr_toList]
  simp only [arr_size, ne_eq, not_true_eq_false, gt_iff_lt, show ¬ cs.size < off + m by omega, decide_false, Bool.or_self, Bool.false_eq_true, or_self, if_false]

variable {P : Program} {ops : Array Oper} {rest : List Oper} {o : Oper} {a : Act} {w : Base} {W : World} {Q : Exit → Act → World → Prop} {L : Blocks}
/-- A slice literal of one element that is a row of m cells: a new block. -/
theorem wpList_slice1 (hgd : o.guard = none) (t e : TypeId) (x : Operand) (ho : o.op = .buildSlice t 1 #[(0, x)]) (m : Nat) (f : Nat → Value) (hx : a.eval x = .agg (arr m f)) (z : Value)
    (hu : P.underlying t = some (.slice e)) (hz : (P.info? e).map (fun i => (i.size, i.zero)) = some (m, some z)) (hm : 0 < m) (hm' : m ≤ 1000) (hM : Mem w L W)
    (h : ∀ b W', w.B ≤ b → Mem w ((b, m, f) :: L) W' → wpList P ops Q rest (a.put o.dst (.slice (some ⟨b, 0, none⟩) 1 1)) W') : wpList P ops Q (o :: rest) a W := by
  obtain ⟨ie, hie, hq⟩ := Option.map_eq_some_iff.1 hz
  simp only [Prod.mk.injEq] at hq
  refine wpList_buildSlice hgd t e 1 _ ho (arr m f) ie z hu hie hq.2 (by rw [hq.1]; omega) (by rw [hq.1]; omega) ?_ (h _ _ hM.size (hM.alloc e m f))
  rw [hq.1]
  rw [show (Array.map (fun x => match x with | (i, x) => (i, a.eval x)) #[(0, x)]).toList = [(0, Value.agg (arr m f))] by simp [hx]]
  obtain ⟨cs, h1, h2, h3⟩ := fill_one (f := f) (place := fun i => some (i * m, m)) (i := 0) (off := 0 * m) (m := m) rfl (cs := (Array.range (1 * m)).map (z.cells[· % z.cells.size]!)) (by simp) []
  rw [h1, Instr.fill]
  refine congrArg some (arr_ext (by rw [h2]; simp) (fun k hk => ?_))
  rw [h3, if_pos (by omega)]; simp
/-- A slice literal of two such elements. -/
theorem wpList_slice2 (hgd : o.guard = none) (t e : TypeId) (x y : Operand) (ho : o.op = .buildSlice t 2 #[(0, x), (1, y)]) (m : Nat) (f g : Nat → Value) (hx : a.eval x = .agg (arr m f)) (hy : a.eval y = .agg (arr m g)) (z : Value)
    (hu : P.underlying t = some (.slice e)) (hz : (P.info? e).map (fun i => (i.size, i.zero)) = some (m, some z)) (hm : 0 < m) (hm' : m ≤ 1000) (hM : Mem w L W)
    (h : ∀ b W', w.B ≤ b → Mem w ((b, 2 * m, fun k => if k < m then f k else g (k - m)) :: L) W' → wpList P ops Q rest (a.put o.dst (.slice (some ⟨b, 0, none⟩) 2 2)) W') : wpList P ops Q (o :: rest) a W := by
  obtain ⟨ie, hie, hq⟩ := Option.map_eq_some_iff.1 hz
  simp only [Prod.mk.injEq] at hq
  refine wpList_buildSlice hgd t e 2 _ ho (arr (2 * m) fun k => if k < m then f k else g (k - m)) ie z hu hie hq.2 (by rw [hq.1]; omega) (by rw [hq.1]; omega) ?_ (h _ _ hM.size (hM.alloc e (2 * m) _))
  rw [hq.1]
  rw [show (Array.map (fun x => match x with | (i, x) => (i, a.eval x)) #[(0, x), (1, y)]).toList = [(0, Value.agg (arr m f)), (1, Value.agg (arr m g))] by simp [hx, hy]]
  obtain ⟨cs, h1, h2, h3⟩ := fill_one (f := f) (place := fun i => some (i * m, m)) (i := 0) (off := 0 * m) (m := m) rfl (cs := (Array.range (2 * m)).map (z.cells[· % z.cells.size]!)) (by simp; omega) [(1, Value.agg (arr m g))]
  rw [h1]
  have hs : cs.size = 2 * m := by rw [h2]; simp
  obtain ⟨ds, g1, g2, g3⟩ := fill_one (f := g) (place := fun i => some (i * m, m)) (i := 1) (off := 1 * m) (m := m) rfl (cs := cs) (by omega) []
  rw [g1, Instr.fill]
  refine congrArg some (arr_ext (by rw [g2, hs]) (fun k hk => ?_))
  rw [g3]
  by_cases hk2 : k < m
  · rw [if_neg (by omega), h3, if_pos (by omega)]; simp [hk2]
  · rw [if_pos (by omega)]; simp [hk2]
end Go.Proofs.YtaaphdbaocjecaaGreatDoor

/-
  PLAIN LAWS: a list that a walk appends to, one element after the other: none yet, or the first cells of a block of the call's own.
-/
namespace Go.Proofs.YtaaphdbaocjecaaGreatDoor
open Go Go.RowKit

/-- The list v of n elements of m cells: R; beside it lie the blocks K. -/
def Lst (w : Base) (K : Blocks) (m : Nat) (v : Value) (n : Nat) (R : Nat → Value) (W : World) : Prop :=
  (v = .slice none 0 0 ∧ n = 0 ∧ Mem w K W) ∨ ∃ b c F, v = .slice (some ⟨b, 0, none⟩) n c ∧ w.B ≤ b ∧ n ≤ c ∧ (∀ j, j < n * m → F j = R j) ∧ Mem w ((b, c * m, F) :: K) W
theorem Lst.mem {w : Base} {K : Blocks} {m : Nat} {v : Value} {n : Nat} {R : Nat → Value} {W : World} (h : Lst w K m v n R W) : Mem w K W := by
  rcases h with ⟨-, -, h⟩ | ⟨b, c, F, -, -, -, -, h⟩
  · exact h
  · exact h.drop

theorem Lst.only {w : Base} {K : Blocks} {m : Nat} {v : Value} {n : Nat} {R : Nat → Value} {W : World} (h : Lst w K m v n R W) : Lst w [] m v n R W := by
  rcases h with ⟨h1, h2, h⟩ | ⟨b, c, F, h1, h2, h3, h4, h⟩
  · exact .inl ⟨h1, h2, Mem.start h.good⟩
  · refine .inr ⟨b, c, F, h1, h2, h3, h4, h.good, fun i b' n' f' hi => ?_, fun i j x y hi hj hne => ?_⟩
    · match i, hi with
      | 0, hi => exact h.ats 0 b' n' f' (by simpa using hi)
      | i + 1, hi => simp at hi
    · match i, j, hi, hj with
      | 0, 0, _, _ => exact absurd rfl hne
      | 0, j + 1, _, hj => simp at hj
      | i + 1, _, hi, _ => simp at hi

theorem arr_any (A : Array Value) : A = arr A.size (fun k => A[k]?.getD undef) := arr_ext rfl (fun k hk => by simp [hk])
theorem Mem.allocA {w : Base} {W : World} {L : Blocks} (h : Mem w L W) (t : TypeId) (A : Array Value) (n : Nat) (hs : A.size = n) : Mem w ((W.heap.size, n, fun k => A[k]?.getD undef) :: L) (W.alloc (.cells A t)) := by
  subst hs
  have := h.alloc t A.size (fun k => A[k]?.getD undef)
  rwa [← arr_any] at this
theorem Mem.skip {w : Base} {W : World} {p q : Nat × Nat × (Nat → Value)} {L : Blocks} (h : Mem w (p :: q :: L) W) : Mem w (p :: L) W :=
  ⟨h.good, fun i b n f hi => by
    match i, hi with
    | 0, hi => exact h.ats 0 b n f (by simpa using hi)
    | i + 1, hi => exact h.ats (i + 2) b n f (by simpa using hi),
   fun i j x y hi hj hne => by
    match i, j, hi, hj with
    | 0, 0, _, _ => exact absurd rfl hne
    | 0, j + 1, hi, hj => exact h.apart 0 (j + 2) x y (by simpa using hi) (by simpa using hj) (by omega)
    | i + 1, 0, hi, hj => exact h.apart (i + 2) 0 x y (by simpa using hi) (by simpa using hj) (by omega)
    | i + 1, j + 1, hi, hj => exact h.apart (i + 2) (j + 2) x y (by simpa using hi) (by simpa using hj) (by omega)⟩
theorem Mem.swap {w : Base} {W : World} {p q : Nat × Nat × (Nat → Value)} {L : Blocks} (h : Mem w (p :: q :: L) W) : Mem w (q :: p :: L) W :=
  ⟨h.good, fun i b n f hi => by
    match i, hi with
    | 0, hi => exact h.ats 1 b n f (by simpa using hi)
    | 1, hi => exact h.ats 0 b n f (by simpa using hi)
    | i + 2, hi => exact h.ats (i + 2) b n f (by simpa using hi),
   fun i j x y hi hj hne => by
    match i, j, hi, hj with
    | 0, 0, _, _ => exact absurd rfl hne
    | 1, 1, _, _ => exact absurd rfl hne
    | 0, 1, hi, hj => exact h.apart 1 0 x y (by simpa using hi) (by simpa using hj) (by omega)
    | 1, 0, hi, hj => exact h.apart 0 1 x y (by simpa using hi) (by simpa using hj) (by omega)
    | 0, j + 2, hi, hj => exact h.apart 1 (j + 2) x y (by simpa using hi) (by simpa using hj) (by omega)
    | 1, j + 2, hi, hj => exact h.apart 0 (j + 2) x y (by simpa using hi) (by simpa using hj) (by omega)
    | i + 2, 0, hi, hj => exact h.apart (i + 2) 1 x y (by simpa using hi) (by simpa using hj) (by omega)
    | i + 2, 1, hi, hj => exact h.apart (i + 2) 0 x y (by simpa using hi) (by simpa using hj) (by omega)
    | i + 2, j + 2, hi, hj => exact h.apart (i + 2) (j + 2) x y (by simpa using hi) (by simpa using hj) (by omega)⟩
theorem add_any (b o j : Nat) : (⟨b, o, none⟩ : Addr).add j = ⟨b, o + j, none⟩ := by unfold Addr.add; split <;> simp_all
theorem At.list {W : World} {b N : Nat} {f : Nat → Value} (hA : At W b N f) {k : Nat} (hk : k ≤ N) : ∀ j v, (arr k f).toList[j]? = some v → W.cell? ((⟨b, 0, none⟩ : Addr).add j) = some v := fun j v hv => by
  rw [arr_toList] at hv
  have hj : j < k := by have := (List.getElem?_eq_some_iff.1 hv).1; simpa using this
  simp [hj] at hv
  rw [add_any, Nat.zero_add, hA.cell (by omega), hv]

section
variable {P : Program} {ops : Array Oper} {rest : List Oper} {o : Oper} {a : Act} {w : Base} {W : World} {Q : Exit → Act → World → Prop} {L K : Blocks}
/-- A slice literal of no element. -/
theorem wpList_slice0 (hgd : o.guard = none) (t e : TypeId) (ho : o.op = .buildSlice t 0 #[]) (m : Nat)
    (hu : P.underlying t = some (.slice e)) (hz : (P.info? e).map (fun i => i.size) = some m) (hM : Mem w L W)
    (h : ∀ b W', w.B ≤ b → Mem w ((b, 0, fun _ => undef) :: L) W' → wpList P ops Q rest (a.put o.dst (.slice (some ⟨b, 0, none⟩) 0 0)) W') : wpList P ops Q (o :: rest) a W := by
  obtain ⟨ie, hie, hq⟩ := Option.map_eq_some_iff.1 hz
  refine wpList_plain hgd fun J hJ => ?_
  have hr : (Instr.buildSlice t 0 #[]).run P W = .ok (.slice (some ⟨W.heap.size, 0, none⟩) 0 0) (W.alloc (.cells (arr 0 fun _ => undef) e)) := by
    have e0 : Array.range 0 = #[] := rfl
    simp [Instr.buildSlice, run_underlying hu, sizeOf, typeInfo, hie, Instr.fill, newRow, arr, e0]
  unfold Oper.wp execOp
  simp only [ho, Array.map_empty, Sem.run_bind, hr, Result.andThen_ok]
  exact hJ _ _ (h _ _ hM.size (hM.alloc e 0 _))

/-- The first element is appended. -/
theorem wpList_push0 (hgd : o.guard = none) (s x : Operand) (t : TypeId) (ho : o.op = .call { callee := .builtin .append, args := #[s, x], argTypes := #[t, t] })
    (e : TypeId) (m bs : Nat) (z : Value) (hu : P.underlying t = some (.slice e)) (hz : (P.info? e).map (fun i => (i.size, i.zero, i.bytes)) = some (m, some z, bs)) (hzs : z.cells.size = m) (hbs : bs ≤ 1000)
    (hs : a.eval s = .slice none 0 0) (bn : Nat) (f : Nat → Value) (hx : a.eval x = .slice (some ⟨bn, 0, none⟩) 1 1) (hM : Mem w ((bn, m, f) :: K) W) (R : Nat → Value) (hR : ∀ j, j < m → f j = R j)
    (h : ∀ b' c' F' W', w.B ≤ b' → 1 ≤ c' → (∀ j, j < 1 * m → F' j = R j) → Mem w ((b', c' * m, F') :: K) W' → wpList P ops Q rest (a.put o.dst (.slice (some ⟨b', 0, none⟩) 1 c')) W') : wpList P ops Q (o :: rest) a W := by
  obtain ⟨i, hi, hq⟩ := Option.map_eq_some_iff.1 hz
  simp only [Prod.mk.injEq] at hq
  obtain ⟨rfl, q2, rfl⟩ := hq
  refine wpList_plain hgd fun J hJ => ?_
  have hr := run_append_nil (P := P) W t o.type e i z hu hi q2 ⟨bn, 0, none⟩ 1 1 (arr i.size f).toList (by simp [arr_size]) (hM.at0.list (Nat.le_refl _)) (by omega) (by omega) (by omega)
  have hge := grownCap_ge W 1 0 e
  unfold Oper.wp execOp
  simp only [ho, resolve, invoke, builtin, Sem.run_bind, Sem.run_pure, Result.andThen_ok, List.map_toArray, List.map_cons, List.map_nil, hs, hx, hr]
  refine hJ _ _ (h _ _ _ _ hM.size hge (fun j hj => ?_) (hM.drew.allocA e _ (grownCap W 1 0 e * i.size) ?_).skip)
  · have hj' : j < i.size := by omega
    rw [← hR j hj']
    simp [Array.getElem?_append, arr, hj']
  · simp only [Array.size_append, List.size_toArray, size_zeroCells, hzs, Array.length_toList, arr_size]
    conv => lhs; lhs; rw [← Nat.one_mul i.size]
    rw [← Nat.add_mul]
    congr 1; omega

/-- One more element is appended. -/
theorem wpList_push1 (hgd : o.guard = none) (s x : Operand) (t : TypeId) (ho : o.op = .call { callee := .builtin .append, args := #[s, x], argTypes := #[t, t] })
    (e : TypeId) (m bs : Nat) (z : Value) (hu : P.underlying t = some (.slice e)) (hz : (P.info? e).map (fun i => (i.size, i.zero, i.bytes)) = some (m, some z, bs)) (hzs : z.cells.size = m) (hbs : bs ≤ 1000)
    (b n c : Nat) (F : Nat → Value) (hs : a.eval s = .slice (some ⟨b, 0, none⟩) n c) (hb : w.B ≤ b) (hnc : n ≤ c) (hn : n ≤ 1048576)
    (bn : Nat) (f : Nat → Value) (hx : a.eval x = .slice (some ⟨bn, 0, none⟩) 1 1) (h1 : ∀ k, k < m → (f k).oneCell' = true) (hM : Mem w ((bn, m, f) :: (b, c * m, F) :: K) W) (R : Nat → Value) (hR0 : ∀ j, j < n * m → F j = R j) (hR : ∀ j, j < m → f j = R (n * m + j))
    (h : ∀ b' c' F' W', w.B ≤ b' → n + 1 ≤ c' → (∀ j, j < (n + 1) * m → F' j = R j) → Mem w ((b', c' * m, F') :: K) W' → wpList P ops Q rest (a.put o.dst (.slice (some ⟨b', 0, none⟩) (n + 1) c')) W') : wpList P ops Q (o :: rest) a W := by
  obtain ⟨i, hi, hq⟩ := Option.map_eq_some_iff.1 hz
  simp only [Prod.mk.injEq] at hq
  obtain ⟨rfl, q2, rfl⟩ := hq
  refine wpList_plain hgd fun J hJ => ?_
  have hnews := hM.at0.list (Nat.le_refl _)
  by_cases hroom : n + 1 ≤ c
  · have hfit : n * i.size + i.size ≤ c * i.size := by
      have := Nat.mul_le_mul_right i.size hroom
      rwa [Nat.add_mul, Nat.one_mul] at this
    obtain ⟨t0, ht0⟩ := hM.ats 1 _ _ _ rfl
    have hfc := run_firstCells_some (P := P) W i.size 1 ⟨bn, 0, none⟩ 1 1 (arr i.size f).toList (by simp [arr_size]) hnews
    have hst := run_storeCells_at (P := P) b (n * i.size) t0 (arr i.size f).toList 0 (arr (c * i.size) F) W ht0 (by simp [arr_size]; omega) (fun v hv => by
      rw [arr_toList] at hv; simp at hv; obtain ⟨k, hk, rfl⟩ := hv; exact h1 k hk)
    rw [Nat.add_zero, arr_lay hfit] at hst
    have hr : (Builtin.append_ #[t, t] o.type #[.slice (some ⟨b, 0, none⟩) n c, .slice (some ⟨bn, 0, none⟩) 1 1]).run P W = .ok (.slice (some ⟨b, 0, none⟩) (n + 1) c) (W.setRow b (arr (c * i.size) (lay F (n * i.size) i.size f))) := by
      simp [Builtin.append_, run_underlying hu, sizeOf, typeInfo, hi, Builtin.lenOf, hroom, hfc, add_any, hst]
    unfold Oper.wp execOp
    simp only [ho, resolve, invoke, builtin, Sem.run_bind, Sem.run_pure, Result.andThen_ok, List.map_toArray, List.map_cons, List.map_nil, hs, hx, hr]
    refine hJ _ _ (h b c _ _ hb hroom (fun j hj => ?_) (hM.setRow 1 rfl hb _).drop)
    rw [Nat.add_mul, Nat.one_mul] at hj
    simp only [lay]
    by_cases hj' : j < n * i.size
    · rw [if_neg (by omega)]; exact hR0 j hj'
    · rw [if_pos (by omega), hR _ (by omega), show n * i.size + (j - n * i.size) = j by omega]
  · have hle : n * i.size ≤ c * i.size := Nat.mul_le_mul_right _ hnc
    have hb48 : Builtin.nextslicecap (n + 1) c * i.bytes ≤ 281474976710656 := growslice_fits (by omega) (by
      have : (n + 1) * i.bytes ≤ 1048577 * 1000 := Nat.mul_le_mul (by omega) hbs
      omega)
    have hr := run_append_grow (P := P) W t o.type e i z hu hi q2 ⟨b, 0, none⟩ n c (arr (n * i.size) F).toList (by simp [arr_size]) ((hM.ats 1 _ _ _ rfl).list hle) ⟨bn, 0, none⟩ 1 1 (arr i.size f).toList (by simp [arr_size]) hnews (by omega) (by omega) hb48
    have hge := grownCap_ge W (n + 1) c e
    unfold Oper.wp execOp
    simp only [ho, resolve, invoke, builtin, Sem.run_bind, Sem.run_pure, Result.andThen_ok, List.map_toArray, List.map_cons, List.map_nil, hs, hx, hr]
    refine hJ _ _ (h _ _ _ _ hM.size hge (fun j hj => ?_) (hM.drew.allocA e _ (grownCap W (n + 1) c e * i.size) ?_).skip.skip)
    · rw [Nat.add_mul, Nat.one_mul] at hj
      by_cases hj' : j < n * i.size
      · rw [← hR0 j hj']
        rw [Array.getElem?_append_left (by simp [arr_size]; omega), Array.getElem?_append_left (by simp [arr_size]; omega), Array.toArray_toList, arr_at hj']
        rfl
      · rw [show j = n * i.size + (j - n * i.size) by omega, ← hR _ (by omega)]
        rw [Array.getElem?_append_left (by simp [arr_size]; omega), Array.getElem?_append_right (by simp [arr_size]), Array.toArray_toList, Array.toArray_toList, arr_size, Nat.add_sub_cancel_left, arr_at (by omega)]
        rfl
    · simp only [Array.size_append, List.size_toArray, size_zeroCells, hzs, Array.length_toList, arr_size]
      rw [← Nat.succ_mul, ← Nat.add_mul]
      congr 1; simp only [Nat.succ_eq_add_one]; omega
end
end Go.Proofs.YtaaphdbaocjecaaGreatDoor

/-
  A text cut into its parts, byte by byte; reads of bytes; pieces.
-/
namespace Go.Proofs.YtaaphdbaocjecaaGreatDoor
open Go Go.RowKit Go.BigFrame

/-- From b up to i. -/
def sub (l : List UInt8) (b i : Nat) : List UInt8 := (l.drop b).take (i - b)
theorem bs_extract (l : List UInt8) (b i : Nat) : (bs l).extract b i = bs (sub l b i) := by
  have h : ((bs l).extract b i).data.toList = (bs (sub l b i)).data.toList := by rw [Lib.extract_data, bs_data, bs_data]; rfl
  have h2 := Array.toList_inj.1 h
  cases he : (bs l).extract b i with
  | mk d => rw [he] at h2; cases hb : bs (sub l b i) with | mk d2 => rw [hb] at h2; exact congrArg ByteArray.mk h2
theorem sub_len (l : List UInt8) {b i : Nat} (h : i ≤ l.length) : (sub l b i).length = i - b := by unfold sub; rw [List.length_take, List.length_drop]; omega
theorem sub_nil (l : List UInt8) (b : Nat) : sub l b b = [] := by simp [sub]
theorem sub_all (l : List UInt8) (b : Nat) : sub l b l.length = l.drop b := by unfold sub; rw [List.take_of_length_le]; simp
theorem sub_zero (l : List UInt8) (i : Nat) : sub l 0 i = l.take i := by simp [sub]
theorem sub_snoc (l : List UInt8) {b i : Nat} (hb : b ≤ i) (hi : i < l.length) : sub l b (i + 1) = sub l b i ++ [l[i]'hi] := by
  unfold sub
  have e : i + 1 - b = (i - b) + 1 := by omega
  rw [e, List.take_succ_eq_append_getElem (by rw [List.length_drop]; omega)]
  congr 2
  rw [List.getElem_drop]
  congr 1
  omega
/-- So far the parts are ps, and what lies between b and i. -/
def CutAt (c : UInt8) (l : List UInt8) (i : Nat) (ps : List (List UInt8)) (b : Nat) : Prop := b ≤ i ∧ partsC c (l.take i) = ps ++ [sub l b i]
theorem cutAt_zero (c : UInt8) (l : List UInt8) : CutAt c l 0 [] 0 := ⟨Nat.le_refl _, by rw [sub_nil, List.take_zero]; rfl⟩
theorem cutAt_hit {c : UInt8} {l : List UInt8} {i b : Nat} {ps : List (List UInt8)} (h : CutAt c l i ps b) (hi : i < l.length) (hc : l[i]'hi = c) : CutAt c l (i + 1) (ps ++ [sub l b i]) (i + 1) := by
  refine ⟨Nat.le_refl _, ?_⟩
  rw [List.take_succ_eq_append_getElem hi, hc, partsC_snoc_c, h.2, sub_nil]
theorem cutAt_on {c : UInt8} {l : List UInt8} {i b : Nat} {ps : List (List UInt8)} (h : CutAt c l i ps b) (hi : i < l.length) (hc : l[i]'hi ≠ c) : CutAt c l (i + 1) ps b := by
  refine ⟨Nat.le_succ_of_le h.1, ?_⟩
  rw [List.take_succ_eq_append_getElem hi, partsC_snoc hc _ _ _ h.2, sub_snoc l h.1 hi]
theorem cutAt_end {c : UInt8} {l : List UInt8} {b : Nat} {ps : List (List UInt8)} (h : CutAt c l l.length ps b) : partsC c l = ps ++ [sub l b l.length] := by
  have := h.2
  rwa [List.take_length] at this
/-- Byte k of a text. -/
def byteL (l : List UInt8) (k : Nat) : Nat := (l[k]?.getD 0).toNat
theorem byteL_eq {l : List UInt8} {k : Nat} (h : k < l.length) : byteL l k = (l[k]'h).toNat := by simp [byteL, h]
theorem byteL_le (l : List UInt8) (k : Nat) : byteL l k ≤ 255 := by
  unfold byteL
  have := (l[k]?.getD 0).toNat_lt
  omega
theorem bs_byte {l : List UInt8} {k : Nat} (h : k < l.length) (h2 : k < (bs l).size) : ((bs l)[k]'h2).toNat = byteL l k := by
  rw [byteL_eq h]
  congr 1
/-- The value of the digits so far: as spec.l01Number goes. -/
theorem valD_take {l : List UInt8} {i : Nat} (hi : i < l.length) : valD (l.take (i + 1)) = 10 * valD (l.take i) + (byteL l i - 48) := by
  rw [List.take_succ_eq_append_getElem hi, valD_snoc, byteL_eq hi]
theorem valD_lt : ∀ (n : Nat) (l : List UInt8), l.length = n → (∀ d, d ∈ l → isD d = true) → valD l < 10 ^ n
  | 0, l, h, _ => by obtain rfl : l = [] := List.eq_nil_of_length_eq_zero h; decide
  | n + 1, l, h, hd => by
    rcases snoc_cases l with rfl | ⟨r, d, rfl⟩
    · simp at h
    · have ih := valD_lt n r (by simp only [List.length_append, List.length_cons, List.length_nil] at h; omega) (fun x hx => hd x (by simp [hx]))
      have h1 := isD_iff.1 (hd d (by simp))
      rw [valD_snoc, Nat.pow_succ]; omega
end Go.Proofs.YtaaphdbaocjecaaGreatDoor

/-
  Bytes of a text, read.
-/
namespace Go.Proofs.YtaaphdbaocjecaaGreatDoor
open Go Go.RowKit Go.BigFrame

theorem idx_run {o : Oper} {a : Act} (x y : Operand) (ho : o.op = .index 9 x y) (l : List UInt8) (hx : a.eval x = .string (bs l)) (k : Nat) (hk : k < l.length) (hy : a.eval y = .int .i64 k) (W : World) :
    (execOp a.eval o).run Tryz.prog W = .ok (.value (.int .u8 (byteL l k))) W := by
  have hk2 : k < (bs l).size := by rw [bs_size]; exact hk
  have hb : 0 ≤ (k : Int) ∧ (k : Int) < (bs l).size := by omega
  unfold execOp
  simp only [ho, hx, hy, Sem.run_bind, Sem.run_pure, run_index_string W 9 (bs l) .i64 (k : Int) Tryz.underlying9, dif_pos hb, Result.andThen_ok, Int.toNat_natCast]
  rw [bs_byte hk hk2]
theorem wpList_idx {ops : Array Oper} {rest : List Oper} {o : Oper} {a : Act} {W : World} {Q : Exit → Act → World → Prop} (hgd : o.guard = none) (x y : Operand) (ho : o.op = .index 9 x y) (l : List UInt8) (hx : a.eval x = .string (bs l)) (k : Nat) (hk : k < l.length) (hy : a.eval y = .int .i64 k) (v : Int) (hv : (byteL l k : Int) = v)
    (h : wpList Tryz.prog ops Q rest (a.put o.dst (.int .u8 v)) W) : wpList Tryz.prog ops Q (o :: rest) a W := by
  refine wpList_plain hgd fun K hK => ?_
  unfold Oper.wp
  rw [idx_run x y ho l hx k hk hy W, hv]
  exact hK _ _ h
theorem wpList_gidx {ops : Array Oper} {rest : List Oper} {o : Oper} {a : Act} {W : World} {Q : Exit → Act → World → Prop} (hw : Region.wanted o (yielded ops a.tmps) = true) (x y : Operand) (ho : o.op = .index 9 x y) (l : List UInt8) (hx : a.eval x = .string (bs l)) (k : Nat) (hk : k < l.length) (hy : a.eval y = .int .i64 k) (v : Int) (hv : (byteL l k : Int) = v)
    (h : wpList Tryz.prog ops Q rest (a.put o.dst (.int .u8 v)) W) : wpList Tryz.prog ops Q (o :: rest) a W := by
  refine wpList_want hw fun K hK => ?_
  unfold Oper.wp
  rw [idx_run x y ho l hx k hk hy W, hv]
  exact hK _ _ h
end Go.Proofs.YtaaphdbaocjecaaGreatDoor

