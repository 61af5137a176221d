/-
  strconv.FormatInt, strings.Join by contracts.
-/
import Derived.Test.YtcdpdcjdjcbhcaaDoorTextLay
import Derived.Test.YtcdpdcjdjcbhcaaDoorTextM
import Derived.Test.YtcdpdcjdjcbhcaaDoorListC
import Derived.Test.YtcdpdcjdjcbhcaaDoorStringSC
import Derived.Lib.AppendIntMem
import Derived.WalkSmall
namespace Go.Proofs.YtcdpdcjdjcbhcaaDoor
open Go Go.RowKit Go.BigFrame Go.Shelf

/-- The table that FormatInt reads. -/
def TabP (W : World) : Prop := Lib.TabIs Tryd.prog W "internal/strconv.uint64pow10" .u64 Lib.pow10Tab
theorem tabP_g : Tryd.prog.globalNamed "internal/strconv.uint64pow10" = some 2 := by kernel_rfl
theorem TabP.lt {W : World} (h : TabP W) : 2 < W.heap.size := by
  have h := h
  unfold TabP Lib.TabIs World.var? at h
  simp only [tabP_g, Option.bind_some] at h
  by_cases hl : 2 < W.heap.size
  · exact hl
  · rw [Array.getElem?_eq_none (by omega)] at h; cases h
theorem TabP.below {W W' : World} (h : TabP W) (hb : Below W.heap.size W W') : TabP W' := var?_below hb tabP_g h.lt h

theorem fmt_any (n : Int) (h0 : 0 ≤ n) (h1 : n ≤ 9000000000) (w : World) (hT : TabP w) :
    Calls Tryd.prog 52 #[.int .i64 n, .int .i64 10] w fun e w' => e = .returned (.string (bs (numB n))) ∧ Below w.heap.size w w' := by
  refine (Any.strconv_FormatInt_10 Tryd.fmtLays n (by omega) (by omega) w hT).mono ?_
  rintro e w' ⟨rfl, k, os, rfl⟩
  exact ⟨by rw [show Lib.itoa n = numB n from by unfold Lib.itoa numB; rw [if_neg (by omega)]]; rfl, Lib.below_grow _ _ (Nat.le_refl _) k os⟩

theorem joinExtra : Builder.Extra Tryd.prog Tryd.joinLays_ren := { sizeBuilder := by kernel_rfl, liesBuilder := by kernel_rfl, t5 := Tryd.underlying5, a5 := Tryd.isAgg5, z5 := Tryd.sizeOf5, v5 := Tryd.zeroValue5, infoByte := by kernel_rfl, cellsByte := by kernel_rfl, sizeByte := by kernel_rfl, neB5 := by decide }

/-- The strings that f tells. -/
def strF (f : Nat → List UInt8) : Nat → Value := fun k => .string (bs (f k))
theorem join_none (a : Option Addr) (c : Nat) (sep : List UInt8) (w : World) :
    Calls Tryd.prog 46 #[.slice a 0 c, .string (bs sep)] w fun e w' => e = .returned (.string (bs [])) ∧ Below w.heap.size w w' := by
  refine (Any.strings_Join_none Tryd.joinLays joinExtra a c (bs sep) w).mono ?_
  rintro e w' ⟨rfl, rfl⟩
  exact ⟨rfl, Below.refl _ _⟩
theorem join_any (b n N c : Nat) (f : Nat → List UInt8) (F : Nat → Value) (sep : List UInt8) (m : Nat) (hf : ∀ k, k < n → (f k).length ≤ m) (hm : n * (m + sep.length) ≤ 100000000) (hn : n ≤ 1048576) (hnN : n ≤ N) (hF : ∀ k, k < n → F k = strF f k) (hc : n ≤ c) (w : World) (hA : At w b N F) :
    Calls Tryd.prog 46 #[.slice (some ⟨b, 0, none⟩) n c, .string (bs sep)] w fun e w' => e = .returned (.string (bs (joinT sep f n))) ∧ Below w.heap.size w w' := by
  have hl : ((List.range n).map fun k => bs (f k)).length = n := by simp
  have hmap : (((List.range n).map fun k => bs (f k)).map (·.data.toList)) = (List.range n).map f := by
    rw [List.map_map]
    exact List.map_congr_left (fun k _ => bs_data (f k))
  have hx := Any.strings_Join Tryd.joinLays joinExtra b 0 c ((List.range n).map fun k => bs (f k)) (bs sep) w
    (fun j x hj => by
      rw [List.getElem?_map] at hj
      obtain ⟨i, hi, rfl⟩ := Option.map_eq_some_iff.1 hj
      rw [List.getElem?_range] at hi
      · obtain rfl := Option.some.inj hi
        have hjn : j < n := by
          have := (List.getElem?_eq_some_iff.1 (by simpa using hj : ((List.range n).map fun k => bs (f k))[j]? = some (bs (f j)))).1
          simpa using this
        rw [Nat.zero_add, hA.cell (by omega), hF j hjn]; rfl
      · have := (List.getElem?_eq_some_iff.1 hi).1
        simpa using this)
    hA.lt (by rw [hl]; omega) (by rw [hl]; exact hc)
    (by rw [hmap, bs_data]; have := joinT_len (sep := sep) n hf; unfold joinT at this; omega)
  rw [hl, hmap, bs_data] at hx
  exact hx
end Go.Proofs.YtcdpdcjdjcbhcaaDoor
