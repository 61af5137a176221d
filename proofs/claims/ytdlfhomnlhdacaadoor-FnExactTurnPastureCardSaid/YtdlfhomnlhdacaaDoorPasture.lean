/-
  PLAIN LAWS and contracts where a pasture is handed back: two results, the first in memory; a region that reads first and then stores; a pasture with one cell written.
-/
import Derived.Test.YtdlfhomnlhdacaaDoorCheck
import Derived.Test.YtdlfhomnlhdacaaDoorNeq
import Derived.Test.YtdlfhomnlhdacaaDoorEqP
import Derived.Test.YtdlfhomnlhdacaaDoorAsked
import Derived.Test.YtdlfhomnlhdacaaDoorResults
import Derived.Laws.ResultCell
import Derived.StillTail
namespace Go.Proofs.YtdlfhomnlhdacaaDoor
open Go Go.RowKit Go.BigFrame

theorem region_tail_mem {P : Program} {Q : Exit → Act → World → Prop} {a : Act} {W : World} {id : Nat} {r : List Oper} (m : Nat) (hm : P.follows .mixedOrders = true) (hB : Region.lexTailB .any r.toArray m = true)
    (h : wpStill P r.toArray W.drew (fun a' => wpList P r.toArray Q (r.drop m) a' W.drew) (r.take m) a) : (Code.region id r.toArray true).wp P Q a W :=
  wp_region_still_tail m hm hB h

/-- A pasture and a code. -/
def pasR (g : Nat → Int) (c : Int) : Value := .tuple #[.agg (arr 122 (pas g)), .int .i64 c]
theorem pasR_eq (g : Nat → Int) (c : Int) : pasR g c = .tuple #[.agg (arr 122 (pas g)), .int .i64 c] := rfl
theorem ret_pas {g g' : Nat → Int} {c c' : Int} (h : arr 122 (pas g) = arr 122 (pas g')) (h' : c = c') : Ending.returned (.tuple #[.agg (arr 122 (pas g)), .int .i64 c]) = .returned (pasR g' c') := by rw [h, h', pasR_eq]
/-- No pasture. -/
def g0 : Nat → Int := fun _ => 0
theorem pas_g0 : zP = pas g0 := rfl
@[go_sem] theorem zero_cells_pas : Tryd.zeroCells29 = arr 122 zP := by kernel_rfl
theorem lay_zP (f : Nat → Value) : ∀ k, k < 122 → lay f 0 122 zP k = pas g0 k := fun k hk => by simp [lay, hk]; rfl
theorem lay_pas (f : Nat → Value) (g : Nat → Int) : ∀ k, k < 122 → lay f 0 122 (pas g) k = pas g k := fun k hk => by simp [lay, hk]
theorem lay_pas0 (f : Nat → Value) (g : Nat → Int) : ∀ k, k < 122 → lay f 0 122 (fun j => pas g (0 + j)) k = pas g k := fun k hk => by simp [lay, hk]
/-- Two pastures laid into cells compare as equal. -/
theorem eqP_lay (z z' : Nat → Value) (g : Nat → Int) (w : World) :
    Calls Tryd.prog 17 #[.agg (arr 122 (fun k => lay z 0 122 (pas g) (0 + k))), .agg (arr 122 (fun k => lay z' 0 122 (pas g) (0 + k)))] w fun e w' => e = .returned (.bool true) ∧ Below w.heap.size w w' := by
  rw [arr_congr (g := pas g) (fun k hk => by rw [Nat.zero_add]; exact lay_pas _ _ k hk), arr_congr (f := fun k => lay z' 0 122 (pas g) (0 + k)) (g := pas g) (fun k hk => by rw [Nat.zero_add]; exact lay_pas _ _ k hk)]
  exact eqPasture_same g w
/-- g with n at place k. -/
def setG (g : Nat → Int) (k : Nat) (n : Int) : Nat → Int := fun j => if j = k then n else g j
theorem lay_upd (f : Nat → Value) (g : Nat → Int) (i : Nat) (n : Int) (h : 2 ≤ i) (h' : i < 102) : ∀ k, k < 122 → lay f 0 122 (fun j => upd (pas g) i (.int .i16 n) (0 + j)) k = pas (setG g i n) k := fun k hk => by
  simp only [lay, hk, Nat.zero_le, Nat.zero_add, and_self, if_true, Nat.sub_zero]
  unfold upd pas setG
  by_cases e : k = i
  · subst e; simp [kd_i16 h h']
  · simp [e]
theorem upd_grass (g : Nat → Int) (k : Nat) (n : Int) (h : 2 ≤ k) (h' : k < 102) : upd (pas g) k (.int .i16 n) = pas (setG g k n) := by
  funext j
  unfold upd pas setG
  by_cases e : j = k
  · subst e; simp [kd_i16 h h']
  · simp [e]
end Go.Proofs.YtdlfhomnlhdacaaDoor
