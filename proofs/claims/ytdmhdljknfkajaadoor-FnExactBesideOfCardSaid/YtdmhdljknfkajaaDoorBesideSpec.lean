/-
  spec.l01Beside and spec.BesideOf by contracts.
-/
import Derived.Test.YtdmhdljknfkajaaDoorFenced
import Derived.Test.YtdmhdljknfkajaaDoorNext
import Derived.Test.YtdmhdljknfkajaaDoorLists
import Derived.Test.YtdmhdljknfkajaaDoorSpotS
import Derived.Test.YtdmhdljknfkajaaDoorAsked
namespace Go.Proofs.YtdmhdljknfkajaaDoor
open Go Go.RowKit Go.BigFrame

theorem over_any (k : Nat) (hk : k < 4) (x y : Int) (hx : 0 ≤ x ∧ x ≤ 9) (hy : 0 ≤ y ∧ y ≤ 9) (w : World) :
    Calls Tryd.prog 89 #[.agg (arr 2 (sp x y)), .int .i64 k] w fun e w' => e = .returned (.agg (arr 2 (sp (nxX k x) (nxY k y)))) ∧ Below w.heap.size w w' := by
  rcases (show k = 0 ∨ k = 1 ∨ k = 2 ∨ k = 3 by omega) with rfl | rfl | rfl | rfl
  · exact over_0 x y hx hy w
  · exact over_1 x y hx hy w
  · exact over_2 x y hx hy w
  · exact over_3 x y hx hy w
theorem l01Next_any (k : Nat) (hk : k < 4) (x y : Int) (hx : 0 ≤ x ∧ x ≤ 9) (hy : 0 ≤ y ∧ y ≤ 9) (w : World) :
    Calls Tryd.prog 78 #[.agg (arr 2 (sp x y)), .int .i64 k] w fun e w' => e = .returned (.agg (arr 2 (sp (nxX k x) (nxY k y)))) ∧ Below w.heap.size w w' := by
  rcases (show k = 0 ∨ k = 1 ∨ k = 2 ∨ k = 3 by omega) with rfl | rfl | rfl | rfl
  · exact l01Next_0 x y hx hy w
  · exact l01Next_1 x y hx hy w
  · exact l01Next_2 x y hx hy w
  · exact l01Next_3 x y hx hy w

/-- Spots of a list. -/
def sI (l : List (Int × Int)) : Nat → Int × Int := fun k => l.getD k (0, 0)
theorem spsI_old {l : List (Int × Int)} (x : Int × Int) {j : Nat} (h : j < l.length * 2) : sps (sI l) j = sps (sI (l ++ [x])) j := by
  have e : sI (l ++ [x]) (j / 2) = sI l (j / 2) := by simp [sI, List.getElem?_append, show j / 2 < l.length by omega]
  simp [sps, e]
theorem spsI_new (l : List (Int × Int)) (u v : Int) {j : Nat} (h : j < 2) : sp u v j = sps (sI (l ++ [(u, v)])) (l.length * 2 + j) := by
  rw [sps_row _ _ _ h]
  simp [sI]

/-- The spots behind the open ones of the first i sides. -/
def besL (g : Nat → Int) (x y : Int) (i : Nat) : List (Int × Int) := ((List.range i).filter fun k => !closedB g k x y).map fun k => (nxX k x, nxY k y)
theorem besL_yes {g : Nat → Int} {x y : Int} {k : Nat} (h : closedB g k x y = false) : besL g x y (k + 1) = besL g x y k ++ [(nxX k x, nxY k y)] := by
  simp [besL, List.range_succ, List.filter_append, h]
theorem besL_no {g : Nat → Int} {x y : Int} {k : Nat} (h : closedB g k x y = true) : besL g x y (k + 1) = besL g x y k := by
  simp [besL, List.range_succ, List.filter_append, h]
theorem besL_len {g : Nat → Int} {x y : Int} {i : Nat} : (besL g x y i).length ≤ i := by
  unfold besL
  rw [List.length_map]
  exact Nat.le_trans (List.length_filter_le _ _) (by simp)
def besOf (g : Nat → Int) (x y : Int) : List (Int × Int) := if askC g x y true = 0 then besL g x y 4 else []

/-- A list and a code. -/
def GivesI (w : World) (l : List (Int × Int)) (c : Int) (e : Ending) (w' : World) : Prop := ∃ v, e = .returned (.tuple #[v, .int .i64 c]) ∧ Lst w [] 2 v l.length (sps (sI l)) w'
def GivesL (w : World) (l : List (Int × Int)) (e : Ending) (w' : World) : Prop := ∃ v, e = .returned v ∧ Lst w [] 2 v l.length (sps (sI l)) w'
def BesIn (w : Base) (K : Blocks) (g : Nat → Int) (x y : Int) (i : Nat) (v : Value) (wr : World) : Prop := Lst w K 2 v (besL g x y i).length (sps (sI (besL g x y i))) wr

set_option maxRecDepth 100000 in
set_option maxHeartbeats 1000000 in
theorem l01Beside_any (g : Nat → Int) (hg : Fits g) (ho : okB g = true) (bp : Nat) (x y : Int) (hx : 0 ≤ x ∧ x ≤ 9) (hy : 0 ≤ y ∧ y ≤ 9) (w : World) (hA : At w bp 122 (pas g)) :
    Calls Tryd.prog 65 #[.pointer (some ⟨bp, 0, none⟩), .agg (arr 2 (sp x y))] w (GivesL w (besL g x y 4)) := by
  have hM : Mem w [(bp, 122, pas g)] w := (Mem.nil w).old hA (fun i p h => by simp at h)
  have Hx := Lib.hid hx
  have Hy := Lib.hid hy
  have Ho := Lib.hid ho
  clear hA hx hy ho
  have tk_b1 : True := trivial; have tk_b2 : True := trivial
  go_enter Tryd.func65, Tryd.ntmps65
  go_wp2_with (first | (have _t := tk_b1; refine wpList_box rfl _ _ rfl _ _ rfl hM ?_; intro b1 W' hb1 hM'; clear hM tk_b1; have hM := hM'; clear hM') | (have _t := tk_b2; refine wpList_slice0 rfl _ _ rfl _ spot_under rfl hM ?_; intro b2 W' hb2 hM'; clear hM tk_b2; have hM := hM'; clear hM'))
  go_loopw [5, 6] (fun v i wr => ∃ k : Nat, k ≤ 4 ∧ i = .int .i64 k ∧ BesIn w [(b1, 2, sp x y), (bp, 122, pas g)] g x y k v wr) (fun _ i _ => 4 - (intOf i).toNat)
  case atStart => exact ⟨0, by omega, rfl, .inr ⟨b2, 0, fun _ => undef, rfl, hb2, Nat.le_refl _, fun j hj => absurd hj (by simp [besL]), hM⟩⟩
  case round =>
    clear hM
    obtain ⟨k, hk, rfl, hL⟩ := hrel
    by_cases hlt : k < 4
    · have l2 : (k : Int) < 4 := by omega
      have hl := besL_len (g := g) (x := x) (y := y) (i := k)
      cases hc : closedB g k x y
      · have Hc := Lib.hid hc
        have Hy2 := Lib.hid (besL_yes hc)
        have hnew := fun q hq => spsI_new (besL g x y k) (nxX k x) (nxY k y) (j := q) hq
        have hold := fun q hq => spsI_old (l := besL g x y k) (nxX k x, nxY k y) (j := q) hq
        have Hn := Lib.hid hnew
        clear hc hnew
        rcases hL with ⟨rfl, hn0, hM⟩ | ⟨b, c, F, rfl, hb, hnc, hF, hM⟩
        · have Hq : Hid (∀ q, q < 2 → sp (nxX k x) (nxY k y) q = sps (sI (besL g x y k ++ [(nxX k x, nxY k y)])) q) := Lib.hid (fun q hq => by have := Hn.out q hq; rwa [hn0, Nat.zero_mul, Nat.zero_add] at this)
          clear hold hl
          have tk_b3 : True := trivial; have tk_p1 : True := trivial; have tk_r1 : True := trivial; have tk_r2 : True := trivial
          go_wp2_with (first | (go_at_call 52; (with_reducible refine (l01Closed_any g hg Ho.out bp k hlt x y Hx.out Hy.out _ (hM.ats 1 _ _ _ rfl)).mono ?_); rintro e W' ⟨rfl, hb'⟩; rw [Hc.out]; have hM' := hM.call hb'; clear hM hb'; have hM := hM'; clear hM') | (go_at_call 78; (with_reducible refine (l01Next_any k hlt x y Hx.out Hy.out _).mono ?_); rintro e W' ⟨rfl, hb'⟩; have hM' := hM.call hb'; clear hM hb'; have hM := hM'; clear hM') | (have _t := tk_r1; (refine wpList_get rfl _ _ rfl _ _ rfl hM 0 rfl (rowTab _ _ rfl) (by omega) ?_); clear tk_r1) | (have _t := tk_r2; (refine wpList_get rfl _ _ rfl _ _ rfl hM 0 rfl (rowTab _ _ rfl) (by omega) ?_); clear tk_r2) | (have _t := tk_b3; refine wpList_slice1 rfl _ _ _ rfl _ _ rfl _ spot_under spot_info (by omega) (by omega) hM ?_; intro b3 W' hb3 hM'; clear hM tk_b3; have hM := hM'; clear hM') | (have _t := tk_p1; refine wpList_push0 rfl _ _ _ rfl _ 2 _ _ spot_under spot_infoB rfl (by omega) rfl _ _ rfl hM (sps (sI (besL g x y k ++ [(nxX k x, nxY k y)]))) Hq.out ?_; intro bL cL FL W' hbL hcL hFL hM'; clear hM tk_p1; have hM := hM'; clear hM'))
          go_roundw
          case rel => exact ⟨k + 1, by omega, by go_num, by
            unfold BesIn
            rw [Hy2.out, List.length_append, hn0]
            exact .inr ⟨bL, cL, FL, rfl, hbL, hcL, hFL, hM⟩⟩
          case measure => simp [intOf]; omega
        · have Hf : Hid (∀ q, q < (besL g x y k).length * 2 → F q = sps (sI (besL g x y k ++ [(nxX k x, nxY k y)])) q) := Lib.hid (fun q hq => by rw [hF q hq]; exact hold q hq)
          have hn : (besL g x y k).length ≤ 1048576 := by omega
          clear hold hl hF
          have tk_b3 : True := trivial; have tk_p1 : True := trivial; have tk_r1 : True := trivial; have tk_r2 : True := trivial
          go_wp2_with (first | (go_at_call 52; (with_reducible refine (l01Closed_any g hg Ho.out bp k hlt x y Hx.out Hy.out _ (hM.ats 2 _ _ _ rfl)).mono ?_); rintro e W' ⟨rfl, hb'⟩; rw [Hc.out]; have hM' := hM.call hb'; clear hM hb'; have hM := hM'; clear hM') | (go_at_call 78; (with_reducible refine (l01Next_any k hlt x y Hx.out Hy.out _).mono ?_); rintro e W' ⟨rfl, hb'⟩; have hM' := hM.call hb'; clear hM hb'; have hM := hM'; clear hM') | (have _t := tk_r1; (refine wpList_get rfl _ _ rfl _ _ rfl hM 1 rfl (rowTab _ _ rfl) (by omega) ?_); clear tk_r1) | (have _t := tk_r2; (refine wpList_get rfl _ _ rfl _ _ rfl hM 1 rfl (rowTab _ _ rfl) (by omega) ?_); clear tk_r2) | (have _t := tk_b3; refine wpList_slice1 rfl _ _ _ rfl _ _ rfl _ spot_under spot_info (by omega) (by omega) hM ?_; intro b3 W' hb3 hM'; clear hM tk_b3; have hM := hM'; clear hM') | (have _t := tk_p1; refine wpList_push1 rfl _ _ _ rfl _ 2 _ _ spot_under spot_infoB rfl (by omega) _ _ _ _ rfl hb hnc hn _ _ rfl sp_one hM (sps (sI (besL g x y k ++ [(nxX k x, nxY k y)]))) Hf.out Hn.out ?_; intro bL cL FL W' hbL hcL hFL hM'; clear hM tk_p1; have hM := hM'; clear hM'))
          go_roundw
          case rel => exact ⟨k + 1, by omega, by go_num, by
            unfold BesIn
            rw [Hy2.out, List.length_append]
            exact .inr ⟨bL, cL, FL, rfl, hbL, hcL, hFL, hM⟩⟩
          case measure => simp [intOf]; omega
      · have Hc := Lib.hid hc
        have Hy2 := Lib.hid (besL_no hc)
        clear hc
        rcases hL with ⟨rfl, hn0, hM⟩ | ⟨b, c, F, rfl, hb, hnc, hF, hM⟩
        · have tk_r1 : True := trivial
          go_wp2_with (first | (go_at_call 52; (with_reducible refine (l01Closed_any g hg Ho.out bp k hlt x y Hx.out Hy.out _ (hM.ats 1 _ _ _ rfl)).mono ?_); rintro e W' ⟨rfl, hb'⟩; rw [Hc.out]; have hM' := hM.call hb'; clear hM hb'; have hM := hM'; clear hM') | (have _t := tk_r1; (refine wpList_get rfl _ _ rfl _ _ rfl hM 0 rfl (rowTab _ _ rfl) (by omega) ?_); clear tk_r1))
          go_roundw
          case rel => exact ⟨k + 1, by omega, by go_num, by
            unfold BesIn
            rw [Hy2.out]
            exact .inl ⟨rfl, hn0, hM⟩⟩
          case measure => simp [intOf]; omega
        · have Hf := Lib.hid hF
          clear hF
          have tk_r1 : True := trivial
          go_wp2_with (first | (go_at_call 52; (with_reducible refine (l01Closed_any g hg Ho.out bp k hlt x y Hx.out Hy.out _ (hM.ats 2 _ _ _ rfl)).mono ?_); rintro e W' ⟨rfl, hb'⟩; rw [Hc.out]; have hM' := hM.call hb'; clear hM hb'; have hM := hM'; clear hM') | (have _t := tk_r1; (refine wpList_get rfl _ _ rfl _ _ rfl hM 1 rfl (rowTab _ _ rfl) (by omega) ?_); clear tk_r1))
          go_roundw
          case rel => exact ⟨k + 1, by omega, by go_num, by
            unfold BesIn
            rw [Hy2.out]
            exact .inr ⟨b, c, F, rfl, hb, hnc, Hf.out, hM⟩⟩
          case measure => simp [intOf]; omega
    · obtain rfl : k = 4 := by omega
      go_wp2
      go_ret
      exact ⟨_, rfl, hL.only⟩

set_option maxRecDepth 100000 in
set_option maxHeartbeats 1000000 in
theorem specBesideOf_any (g : Nat → Int) (hg : Fits g) (x y : Int) (hx : -128 ≤ x ∧ x ≤ 127) (hy : -128 ≤ y ∧ y ≤ 127) (w : World) :
    Calls Tryd.prog 35 #[.agg (arr 122 (pas g)), .agg (arr 2 (sp x y))] w (GivesI w (besOf g x y) (askC g x y true)) := by
  have hM := Mem.nil w
  have Hx := Lib.hid hx
  have Hy := Lib.hid hy
  clear hx hy
  by_cases h0 : askC g x y true = 0
  · have hk : okB g = true ∧ isB g x y = true := by
      rcases askC_cases g x y true with h | h | h
      · omega
      · omega
      · exact ⟨h.1, h.2.1⟩
    have hb := isB_bounds hk.1 hk.2
    have e1 : besOf g x y = besL g x y 4 := by simp [besOf, h0]
    rw [e1, h0]
    have H0 := Lib.hid h0
    have Ho := Lib.hid hk.1
    have Hx2 : Hid (0 ≤ x ∧ x ≤ 9) := Lib.hid (by omega)
    have Hy2 : Hid (0 ≤ y ∧ y ≤ 9) := Lib.hid (by omega)
    clear h0 hk hb e1
    have tk_b1 : True := trivial; have tk_b2 : True := trivial; have tk_r1 : True := trivial; have tk_r2 : True := trivial
    go_enter Tryd.func35, Tryd.ntmps35
    go_wp2_with (first | (have _t := tk_b1; refine wpList_box rfl _ _ rfl _ _ rfl hM ?_; intro b1 W' hb1 hM'; clear hM tk_b1; have hM := hM'; clear hM') | (have _t := tk_b2; refine wpList_box rfl _ _ rfl _ _ rfl hM ?_; intro b2 W' hb2 hM'; clear hM tk_b2; have hM := hM'; clear hM') | (have _t := tk_r1; (refine wpList_get rfl _ _ rfl _ _ rfl hM 0 rfl (rowTab _ _ rfl) (by omega) ?_); clear tk_r1) | (have _t := tk_r2; (refine wpList_get rfl _ _ rfl _ _ rfl hM 0 rfl (rowTab _ _ rfl) (by omega) ?_); clear tk_r2) | (go_at_call 64; (with_reducible refine (l01Asked_any g hg b1 x y Hx.out Hy.out true _ (hM.ats 1 _ _ _ rfl)).mono ?_); rintro e W' ⟨rfl, hb'⟩; rw [H0.out]; have hM' := hM.call hb'; clear hM hb'; have hM := hM'; clear hM') | (go_at_call 65; refine (l01Beside_any g hg Ho.out b1 x y Hx2.out Hy2.out _ (hM.ats 1 _ _ _ rfl)).mono ?_; rintro e W' ⟨v0, rfl, hL0⟩; have hU := Lst.up hM hL0; clear hL0))
    go_ret2
    exact ⟨_, rfl, hU.1⟩
  · have e1 : besOf g x y = [] := by simp [besOf, h0]
    rw [e1]
    generalize hc : askC g x y true = cc at h0
    have Hc := Lib.hid hc
    clear hc e1
    have tk_b1 : True := trivial; have tk_b2 : True := trivial; have tk_b3 : True := trivial; have tk_r1 : True := trivial
    go_enter Tryd.func35, Tryd.ntmps35
    go_wp2_with (first | (have _t := tk_b1; refine wpList_box rfl _ _ rfl _ _ rfl hM ?_; intro b1 W' hb1 hM'; clear hM tk_b1; have hM := hM'; clear hM') | (have _t := tk_b2; refine wpList_box rfl _ _ rfl _ _ rfl hM ?_; intro b2 W' hb2 hM'; clear hM tk_b2; have hM := hM'; clear hM') | (have _t := tk_r1; (refine wpList_get rfl _ _ rfl _ _ rfl hM 0 rfl (rowTab _ _ rfl) (by omega) ?_); clear tk_r1) | (go_at_call 64; (with_reducible refine (l01Asked_any g hg b1 x y Hx.out Hy.out true _ (hM.ats 1 _ _ _ rfl)).mono ?_); rintro e W' ⟨rfl, hb'⟩; rw [Hc.out]; have hM' := hM.call hb'; clear hM hb'; have hM := hM'; clear hM') | (have _t := tk_b3; refine wpList_slice0 rfl _ _ rfl _ spot_under rfl hM ?_; intro b3 W' hb3 hM'; clear hM tk_b3; have hM := hM'; clear hM'))
    go_ret2
    exact ⟨_, rfl, Lst.only (.inr ⟨b3, 0, fun _ => undef, rfl, hb3, Nat.le_refl _, fun j hj => absurd hj (by simp), hM⟩)⟩
end Go.Proofs.YtdmhdljknfkajaaDoor
