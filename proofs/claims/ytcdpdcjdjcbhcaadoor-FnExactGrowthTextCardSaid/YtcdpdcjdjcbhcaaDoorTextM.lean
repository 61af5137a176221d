/-
  Texts: numbers, spots, words in a row.
-/
import Derived.Lib.ItoaLen
import Derived.Lib.Join
import Derived.Laws.Concat
import Derived.Lib.Hide
namespace Go.Proofs.YtcdpdcjdjcbhcaaDoor
open Go

/-- A string of these bytes. -/
def bs (l : List UInt8) : ByteArray := ⟨l.toArray⟩
theorem bs_size (l : List UInt8) : (bs l).size = l.length := by simp [bs, ByteArray.size]
theorem bs_append (a b : List UInt8) : bs a ++ bs b = bs (a ++ b) := ByteArray.mk_append_mk a b
theorem bs_data (l : List UInt8) : (bs l).data.toList = l := by simp [bs]
theorem cat_run {P : Program} (a b : List UInt8) (h : a.length + b.length ≤ 100000000) (W : World) : (Op.stringOp .add (bs a) (bs b)).run P W = .ok (.string (bs (a ++ b))) W := by
  rw [run_string_add_sum W _ _ (by rw [bs_size, bs_size]; omega), bs_append]

theorem ret_bs {l m : List UInt8} (h : l = m) : Ending.returned (.string (bs l)) = .returned (.string (bs m)) := by rw [h]

/-- A number's digits. -/
def numB (n : Int) : List UInt8 := Lib.decDigits n.toNat
theorem nDigits_le10 {u : Nat} (h : u < 10000000000) : Lib.nDigits u ≤ 10 := by
  have key : ∀ (k u : Nat), u < 10 ^ (k + 1) → Lib.nDigits u ≤ k + 1 := by
    intro k
    induction k with
    | zero => intro u h; rw [Lib.nDigits_small (by omega)]; omega
    | succ k ih =>
      intro u h
      by_cases h10 : u < 10
      · rw [Lib.nDigits_small h10]; omega
      · rw [Lib.nDigits_big h10]
        have := ih (u / 10) (by rw [Nat.div_lt_iff_lt_mul (by omega)]; rw [Nat.pow_succ] at h; omega)
        omega
  exact key 9 u h
theorem numB_len {n : Int} (h : n ≤ 9000000000) : (numB n).length ≤ 10 := by
  unfold numB
  rw [Lib.decDigits_length]
  exact nDigits_le10 (by omega)
/-- A spot's text. -/
def spotT (x y : Int) : List UInt8 := numB x ++ [44] ++ numB y
theorem spotT_len {x y : Int} (hx : x ≤ 9000000000) (hy : y ≤ 9000000000) : (spotT x y).length ≤ 21 := by
  have := numB_len hx
  have := numB_len hy
  simp [spotT]; omega

/-- The first n words, with a separator between them. -/
def joinT (sep : List UInt8) (f : Nat → List UInt8) (n : Nat) : List UInt8 := Lib.join ((List.range n).map f) sep
theorem joinT_zero (sep : List UInt8) (f : Nat → List UInt8) : joinT sep f 0 = [] := rfl
theorem joinT_one (sep : List UInt8) (f : Nat → List UInt8) : joinT sep f 1 = f 0 := by
  unfold joinT; exact Lib.join_one _ _
theorem join_snoc (sep y : List UInt8) : ∀ (xs : List (List UInt8)), xs ≠ [] → Lib.join (xs ++ [y]) sep = Lib.join xs sep ++ sep ++ y := by
  intro xs h
  cases xs with
  | nil => exact absurd rfl h
  | cons x r =>
    rw [List.cons_append, Lib.join_cons, Lib.join_cons]
    simp [Lib.joinTail, List.append_assoc]
theorem joinT_succ (sep : List UInt8) (f : Nat → List UInt8) {n : Nat} (h : 0 < n) : joinT sep f (n + 1) = joinT sep f n ++ sep ++ f n := by
  unfold joinT
  rw [List.range_succ, List.map_append, List.map_singleton]
  exact join_snoc sep _ _ (by cases n with | zero => omega | succ n => simp [List.range_succ])
theorem joinT_len {sep : List UInt8} {f : Nat → List UInt8} {m : Nat} : ∀ n : Nat, (∀ k, k < n → (f k).length ≤ m) → (joinT sep f n).length ≤ n * (m + sep.length)
  | 0, _ => by simp [joinT_zero]
  | n + 1, h => by
    have ih := joinT_len (sep := sep) n (fun k hk => h k (by omega))
    have hn := h n (by omega)
    by_cases h0 : n = 0
    · subst h0; rw [joinT_one]; omega
    · rw [joinT_succ sep f (by omega)]
      simp only [List.length_append]
      rw [Nat.succ_mul]; omega
end Go.Proofs.YtcdpdcjdjcbhcaaDoor
