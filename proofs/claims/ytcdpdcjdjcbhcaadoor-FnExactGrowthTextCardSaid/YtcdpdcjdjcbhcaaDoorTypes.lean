/-
  THE TYPES OF THE PROGRAM THAT ARE ROWS OF CELLS, AND THOSE OF ONE CELL, as the walks' arms ask them; a pasture's cells.
-/
import Derived.Test.YtcdpdcjdjcbhcaaDoorProg
import Derived.KernelRfl
import Derived.Test.YtcdpdcjdjcbhcaaDoorKit
namespace Go.Proofs.YtcdpdcjdjcbhcaaDoor
open Go Go.RowKit

/-- The integer kind of each cell of a pasture. -/
def kd (k : Nat) : IntKind := if k < 2 then .i8 else if k < 102 then .i16 else .u16
/-- A pasture's cells. -/
def pas (g : Nat → Int) : Nat → Value := fun k => .int (kd k) (g k)
theorem kd_i8 {k : Nat} (h : k < 2) : kd k = .i8 := by simp [kd, h]
theorem kd_i16 {k : Nat} (h : 2 ≤ k) (h' : k < 102) : kd k = .i16 := by
  unfold kd; rw [if_neg (by omega), if_pos h']
theorem kd_u16 {k : Nat} (h : 102 ≤ k) : kd k = .u16 := by
  unfold kd; rw [if_neg (by omega), if_neg (by omega)]
theorem pas_i16 (g : Nat → Int) {k : Nat} (h : 2 ≤ k) (h' : k < 102) : pas g k = .int .i16 (g k) := by unfold pas; rw [kd_i16 h h']
theorem pas_u16 (g : Nat → Int) {k : Nat} (h : 102 ≤ k) : pas g k = .int .u16 (g k) := by unfold pas; rw [kd_u16 h]
def zP : Nat → Value := fun k => .int (kd k) 0

/-- A spot's two cells. -/
def sp (x y : Int) : Nat → Value := fun k => .int .i8 (if k = 0 then x else y)
/-- Each cell of a pasture fits its kind. -/
structure Fits (g : Nat → Int) : Prop where
  w : -128 ≤ g 0 ∧ g 0 ≤ 127
  h : -128 ≤ g 1 ∧ g 1 ≤ 127
  grass : ∀ k, 2 ≤ k → k < 102 → -32768 ≤ g k ∧ g k ≤ 32767
  bits : ∀ k, 102 ≤ k → k < 122 → 0 ≤ g k ∧ g k ≤ 65535


/-- The integer kind of each cell of a goat; a goat's cells. -/
def gk (k : Nat) : IntKind := if k < 4 then .i8 else if k < 6 then .i16 else .i8
def gt (h : Nat → Int) : Nat → Value := fun k => .int (gk k) (h k)
def zG : Nat → Value := fun k => .int (gk k) 0

/-- The integer kind of each cell of a growth; a growth's cells: the table's eleven, the limit. -/
def grk (k : Nat) : IntKind := if k < 11 then .i8 else .i16
def gro (h : Nat → Int) : Nat → Value := fun k => .int (grk k) (h k)
def zW : Nat → Value := fun k => .int (grk k) 0
theorem gro_i8 (h : Nat → Int) {k : Nat} (hk : k < 11) : gro h k = .int .i8 (h k) := by simp [gro, grk, hk]
theorem gro_lim (h : Nat → Int) : gro h 11 = .int .i16 (h 11) := rfl
/-- Each cell of a growth fits its kind. -/
structure FitsW (h : Nat → Int) : Prop where
  tab : ∀ k, k < 11 → -128 ≤ h k ∧ h k ≤ 127
  lim : -32768 ≤ h 11 ∧ h 11 ≤ 32767

/-- A hurdle's cells. -/
def hd (x y : Int) (s : Bool) : Nat → Value := fun k => if k = 0 then .int .i8 x else if k = 1 then .int .i8 y else .bool s

def zMem : Nat → Value := fun k => if k = 0 then .string ⟨#[]⟩ else if k = 1 then .int .i16 0 else .int .u16 0
def zFlk : Nat → Value := fun k => if k = 0 then .slice none 0 0 else .map none
def rowInfo (ty : TypeId) : Option Nat :=
  match ty with
  | 52 => some 10
  | 53 => some 100
  | 55 => some 10
  | 59 => some 122
  | 57 => some 122
  | 82 => some 2
  | 86 => some 2
  | 134 => some 7
  | 137 => some 7
  | 84 => some 3
  | 88 => some 3
  | 30 => some 11
  | 35 => some 12
  | 33 => some 12
  | 76 => some 3
  | 73 => some 3
  | 157 => some 3
  | 152 => some 2
  | _ => none
theorem rowTab (ty m : Nat) (h : rowInfo ty = some m) : RowT Tryd.prog ty m := by
  unfold rowInfo at h
  split at h
  · cases h; exact ⟨⟨_, Tryd.underlying52, rfl⟩, by kernel_rfl⟩
  · cases h; exact ⟨⟨_, Tryd.underlying53, rfl⟩, by kernel_rfl⟩
  · cases h; exact ⟨⟨_, Tryd.underlying55, rfl⟩, by kernel_rfl⟩
  · cases h; exact ⟨⟨_, Tryd.underlying59, rfl⟩, by kernel_rfl⟩
  · cases h; exact ⟨⟨_, Tryd.underlying57, rfl⟩, by kernel_rfl⟩
  · cases h; exact ⟨⟨_, Tryd.underlying82, rfl⟩, by kernel_rfl⟩
  · cases h; exact ⟨⟨_, Tryd.underlying86, rfl⟩, by kernel_rfl⟩
  · cases h; exact ⟨⟨_, Tryd.underlying134, rfl⟩, by kernel_rfl⟩
  · cases h; exact ⟨⟨_, Tryd.underlying137, rfl⟩, by kernel_rfl⟩
  · cases h; exact ⟨⟨_, Tryd.underlying84, rfl⟩, by kernel_rfl⟩
  · cases h; exact ⟨⟨_, Tryd.underlying88, rfl⟩, by kernel_rfl⟩
  · cases h; exact ⟨⟨_, Tryd.underlying30, rfl⟩, by kernel_rfl⟩
  · cases h; exact ⟨⟨_, Tryd.underlying35, rfl⟩, by kernel_rfl⟩
  · cases h; exact ⟨⟨_, Tryd.underlying33, rfl⟩, by kernel_rfl⟩
  · cases h; exact ⟨⟨_, Tryd.underlying76, rfl⟩, by kernel_rfl⟩
  · cases h; exact ⟨⟨_, Tryd.underlying73, rfl⟩, by kernel_rfl⟩
  · cases h; exact ⟨⟨_, Tryd.underlying157, rfl⟩, by kernel_rfl⟩
  · cases h; exact ⟨⟨_, Tryd.underlying152, rfl⟩, by kernel_rfl⟩
  · cases h

def cellInfo (ty : TypeId) : Bool :=
  match ty with
  | 29 => true
  | 31 => true
  | 54 => true
  | 3 => true
  | 2 => true
  | 4 => true
  | 127 => true
  | 9 => true
  | 69 => true
  | 70 => true
  | 71 => true
  | 179 => true
  | 149 => true
  | 155 => true
  | 150 => true
  | 5 => true
  | _ => false
theorem cellTab (ty : Nat) (h : cellInfo ty = true) : CellT Tryd.prog ty := by
  unfold cellInfo at h
  split at h
  · exact ⟨⟨_, Tryd.underlying29, rfl⟩, by kernel_rfl⟩
  · exact ⟨⟨_, Tryd.underlying31, rfl⟩, by kernel_rfl⟩
  · exact ⟨⟨_, Tryd.underlying54, rfl⟩, by kernel_rfl⟩
  · exact ⟨⟨_, Tryd.underlying3, rfl⟩, by kernel_rfl⟩
  · exact ⟨⟨_, Tryd.underlying2, rfl⟩, by kernel_rfl⟩
  · exact ⟨⟨_, Tryd.underlying4, rfl⟩, by kernel_rfl⟩
  · exact ⟨⟨_, Tryd.underlying127, rfl⟩, by kernel_rfl⟩
  · exact ⟨⟨_, Tryd.underlying9, rfl⟩, by kernel_rfl⟩
  · exact ⟨⟨_, Tryd.underlying69, rfl⟩, by kernel_rfl⟩
  · exact ⟨⟨_, Tryd.underlying70, rfl⟩, by kernel_rfl⟩
  · exact ⟨⟨_, Tryd.underlying71, rfl⟩, by kernel_rfl⟩
  · exact ⟨⟨_, Tryd.underlying179, rfl⟩, by kernel_rfl⟩
  · exact ⟨⟨_, Tryd.underlying149, rfl⟩, by kernel_rfl⟩
  · exact ⟨⟨_, Tryd.underlying155, rfl⟩, by kernel_rfl⟩
  · exact ⟨⟨_, Tryd.underlying150, rfl⟩, by kernel_rfl⟩
  · exact ⟨⟨_, Tryd.underlying5, rfl⟩, by kernel_rfl⟩
  · cases h

def zeroInfo (ty : TypeId) : Option (Nat × (Nat → Value)) :=
  match ty with
  | 52 => some (10, fun _ => .int .i16 0)
  | 53 => some (100, fun _ => .int .i16 0)
  | 55 => some (10, fun _ => .int .u16 0)
  | 59 => some (122, zP)
  | 82 => some (2, fun _ => .int .i8 0)
  | 134 => some (7, zG)
  | 84 => some (3, hd 0 0 false)
  | 30 => some (11, fun _ => .int .i8 0)
  | 35 => some (12, zW)
  | 76 => some (3, fun _ => .slice none 0 0)
  | 157 => some (3, zMem)
  | 152 => some (2, zFlk)
  | _ => none
theorem zeroTab (ty n : Nat) (f : Nat → Value) (h : zeroInfo ty = some (n, f)) : (Tryd.prog.info? ty).map (·.zero) = some (some (.agg (arr n f))) := by
  unfold zeroInfo at h
  split at h
  · cases h; kernel_rfl
  · cases h; kernel_rfl
  · cases h; kernel_rfl
  · cases h; kernel_rfl
  · cases h; kernel_rfl
  · cases h; kernel_rfl
  · cases h; kernel_rfl
  · cases h; kernel_rfl
  · cases h; kernel_rfl
  · cases h; kernel_rfl
  · cases h; kernel_rfl
  · cases h; kernel_rfl
  · cases h

def zero1Info (ty : TypeId) : Option Value :=
  match ty with
  | 4 => some (.bool false)
  | 2 => some (.int .i64 0)
  | 3 => some (.int .i64 0)
  | 29 => some (.int .i8 0)
  | 127 => some .nilIface
  | _ => none
theorem zero1Tab (ty : Nat) (v : Value) (h : zero1Info ty = some v) : (Tryd.prog.info? ty).map (·.zero) = some (some v) := by
  unfold zero1Info at h
  split at h
  · cases h; kernel_rfl
  · cases h; kernel_rfl
  · cases h; kernel_rfl
  · cases h; kernel_rfl
  · cases h; kernel_rfl
  · cases h
end Go.Proofs.YtcdpdcjdjcbhcaaDoor
