/-
  Several texts in one: ReadSgM, NumS, ReadU, ReadSgI, WordsSg, TextF, SpotT, Words, Cut, ValidSights.
-/
import Derived.Test.YtaaphdbaocjecaaGreatDoorP3
import Derived.Test.YtaaphdbaocjecaaGreatDoorP8
import Derived.WideShapes
import Derived.Tactics
import Derived.Test.YtaaphdbaocjecaaGreatDoorP7
import Derived.Test.YtaaphdbaocjecaaGreatDoorP5
import Derived.Test.YtaaphdbaocjecaaGreatDoorP2
import Derived.Test.YtaaphdbaocjecaaGreatDoorP4
import Derived.Laws.BytesString
import Derived.Laws.Cells
/-
  What a text of sights tells.
-/
namespace Go.Proofs.YtaaphdbaocjecaaGreatDoor
open Go Go.RowKit Go.BigFrame

theorem sightW_parts (hs : Nat → Nat → Int) (k : Nat) : partsC 58 (sightW hs k) = [numB (hs k 0), spotT (hs k 1) (hs k 2)] :=
  parts_two.2 ⟨by unfold sightW; simp, numB_free (by decide) _, spotT_free (by decide) (by decide) _ _⟩
theorem sightW_cut (hs : Nat → Nat → Int) (k : Nat) : Lib.cut (sightW hs k) [58] = (numB (hs k 0), spotT (hs k 1) (hs k 2), true) := by
  have : sightW hs k = numB (hs k 0) ++ 58 :: spotT (hs k 1) (hs k 2) := by unfold sightW; simp
  rw [this]
  exact cut_app (numB_free (by decide) _)
theorem sightW_free (hs : Nat → Nat → Int) (k : Nat) : (32 : UInt8) ∉ sightW hs k := by
  intro e
  unfold sightW at e
  rcases List.mem_append.1 e with e | e
  · rcases List.mem_append.1 e with e | e
    · exact numB_free (by decide) _ e
    · simp at e
  · exact spotT_free (by decide) (by decide) _ _ e
/-- Three numbers as a sight may have them. -/
def SightIn (d x y : Int) : Prop := (0 ≤ d ∧ d ≤ 1000) ∧ (0 ≤ x ∧ x ≤ 9) ∧ (0 ≤ y ∧ y ≤ 9)
theorem sightW_inj {hs gs : Nat → Nat → Int} {k : Nat} (h1 : SightIn (hs k 0) (hs k 1) (hs k 2)) (h2 : SightIn (gs k 0) (gs k 1) (gs k 2)) (h : sightW hs k = sightW gs k) : hs k 0 = gs k 0 ∧ hs k 1 = gs k 1 ∧ hs k 2 = gs k 2 := by
  have := sightW_parts hs k
  rw [h, sightW_parts] at this
  simp at this
  obtain ⟨a, b⟩ := spotT_inj h2.2.1.1 h2.2.2.1 h1.2.1.1 h1.2.2.1 this.2
  exact ⟨(numB_inj h2.1.1 h1.1.1 this.1).symm, a.symm, b.symm⟩
/-- A text tells these sights. -/
def TellsS (l : List UInt8) (n : Nat) (hs : Nat → Nat → Int) : Prop := sightsB gMost n hs = true ∧ l = joinT [32] (sightW hs) n
theorem TellsS.in {l : List UInt8} {n : Nat} {hs : Nat → Nat → Int} (h : TellsS l n hs) : ∀ i, i < n → SightIn (hs i 0) (hs i 1) (hs i 2) := (sightsB_most h.1).2
theorem TellsS.len {l : List UInt8} {n : Nat} {hs : Nat → Nat → Int} (h : TellsS l n hs) : n ≤ 40 := (sightsB_most h.1).1
theorem TellsS.parts {l : List UInt8} {n : Nat} {hs : Nat → Nat → Int} (h : TellsS l n hs) (h0 : 0 < n) : partsC 32 l = (List.range n).map (sightW hs) := by
  rw [h.2]; exact partsC_joinT h0 (fun k _ => sightW_free hs k)
theorem TellsS.zero {l : List UInt8} {n : Nat} {hs : Nat → Nat → Int} (h : TellsS l n hs) : n = 0 ↔ l = [] := by
  constructor
  · rintro rfl; exact h.2
  · intro e
    rcases Nat.eq_zero_or_pos n with h0 | h0
    · exact h0
    · have hp := h.parts h0
      rw [e] at hp
      have h1 : (partsC 32 ([] : List UInt8))[0]? = some [] := rfl
      rw [hp] at h1
      simp [h0] at h1
      have : numB (hs 0 0) = [] := by unfold sightW at h1; simp at h1
      exact absurd this (numB_ne _)
theorem TellsS.uniq {l : List UInt8} {n m : Nat} {hs gs : Nat → Nat → Int} (h : TellsS l n hs) (k : TellsS l m gs) : n = m ∧ ∀ i, i < n → hs i 0 = gs i 0 ∧ hs i 1 = gs i 1 ∧ hs i 2 = gs i 2 := by
  rcases Nat.eq_zero_or_pos n with h0 | h0
  · have : m = 0 := k.zero.2 (h.zero.1 h0)
    exact ⟨by omega, fun i hi => absurd hi (by omega)⟩
  · have m0 : 0 < m := by
      rcases Nat.eq_zero_or_pos m with e | e
      · exact absurd (h.zero.2 (k.zero.1 e)) (by omega)
      · exact e
    have hj := h.2.symm.trans k.2
    obtain ⟨e, hw⟩ := joinT_inj h0 m0 (fun i _ => sightW_free hs i) (fun i _ => sightW_free gs i) hj
    exact ⟨e, fun i hi => sightW_inj (h.in i hi) (k.in i (by omega)) (hw i hi)⟩
/-- Its text is asked: told, or nothing. -/
theorem tellsS_text {l : List UInt8} {n : Nat} {hs : Nat → Nat → Int} (h : sightsT n hs = l) (hl : l ≠ []) : TellsS l n hs := by
  cases e : sightsB gMost n hs
  · rw [sightsT_no e] at h; exact absurd h.symm hl
  · exact ⟨e, by rw [← h, sightsT_yes e]⟩
theorem TellsS.text {l : List UInt8} {n : Nat} {hs : Nat → Nat → Int} (h : TellsS l n hs) : sightsT n hs = l := by rw [sightsT_yes h.1, h.2]
end Go.Proofs.YtaaphdbaocjecaaGreatDoor

/-
  spec.l01Number by contract.
-/
namespace Go.Proofs.YtaaphdbaocjecaaGreatDoor
open Go Go.RowKit Go.BigFrame

theorem numB9_long {l : List UInt8} (h : 9 < l.length) : numB9 l = false := by unfold numB9; rw [decide_eq_false (by omega)]; simp
theorem numB9_zero {l : List UInt8} (h : byteL l 0 = 48) (h1 : 1 < l.length) : numB9 l = false := by
  cases l with
  | nil => simp at h1
  | cons a r =>
    have ha : a = 48 := by
      have : a.toNat = 48 := by simpa [byteL] using h
      exact UInt8.toNat_inj.1 this
    subst ha
    have : (decide (1 < (48 :: r : List UInt8).length)) = true := decide_eq_true h1
    unfold numB9
    rw [this]; simp
theorem numB9_dig {l : List UInt8} {k : Nat} (hk : k < l.length) (h : byteL l k < 48 ∨ 57 < byteL l k) : numB9 l = false := by
  have : l.all isD = false := by
    rw [List.all_eq_false]
    refine ⟨l[k]'hk, List.getElem_mem hk, ?_⟩
    rw [byteL_eq hk] at h
    intro e
    have := isD_iff.1 e
    omega
  unfold numB9; rw [this]; simp
theorem numB9_yes {l : List UInt8} (h0 : l ≠ []) (h9 : l.length ≤ 9) (hh : byteL l 0 ≠ 48 ∨ l.length ≤ 1) (hd : ∀ k, k < l.length → 48 ≤ byteL l k ∧ byteL l k ≤ 57) : numB9 l = true := by
  have ha : l.all isD = true := by
    rw [List.all_eq_true]
    intro d hm
    obtain ⟨k, hk, rfl⟩ := List.getElem_of_mem hm
    have := hd k hk
    rw [byteL_eq hk] at this
    exact isD_iff.2 this
  unfold numB9
  rw [ha, decide_eq_true h9]
  cases l with
  | nil => exact absurd rfl h0
  | cons a r =>
    simp only [List.isEmpty_cons, Bool.not_false, Bool.true_and, Bool.and_true, List.head?_cons, Bool.not_eq_true', Bool.and_eq_false_iff]
    rcases hh with hh | hh
    · left
      rw [beq_eq_false_iff_ne]
      intro e
      apply hh
      simp at e
      simp [byteL, e]
    · right; exact decide_eq_false (by omega)

def numV (l : List UInt8) : Int := if numB9 l then valD l else 0
theorem numV_no {l : List UInt8} (h : numB9 l = false) : numV l = 0 := by unfold numV; rw [h]; rfl
theorem numV_yes {l : List UInt8} (h : numB9 l = true) : numV l = valD l := by unfold numV; rw [h]; rfl
theorem bs_isEmpty (l : List UInt8) : (bs l).toList.isEmpty = l.isEmpty := by rw [ByteArray.toList_eq, bs_data]
theorem ret_two {a b : Value} {x y : Value} (h : a = x) (h2 : b = y) : Ending.returned (.tuple #[a, b]) = .returned (.tuple #[x, y]) := by rw [h, h2]

set_option maxRecDepth 100000 in
set_option maxHeartbeats 4000000 in
theorem l01Number_any (l : List UInt8) (w : World) :
    Calls Tryz.prog 17 #[.string (bs l)] w fun e w' => e = .returned (.tuple #[.int .i64 (numV l), .bool (numB9 l)]) ∧ Below w.heap.size w w' := by
  have hM := Mem.nil w
  by_cases h0 : l = []
  · subst h0
    have hE : (bs []).toList.isEmpty = true := bs_isEmpty []
    have hq : numB9 [] = false := rfl
    go_enter Tryz.func17, Tryz.ntmps17
    go_wp2
    refine bodyPost_ret (results_tmp2 rfl _ _ _) rfl ?_
    exact ⟨by rw [numV_no hq, hq]; rfl, hM.below⟩
  have hE : (bs l).toList.isEmpty = false := by
    rw [bs_isEmpty]; cases l with
    | nil => exact absurd rfl h0
    | cons a r => rfl
  have hz : (bs l).size = l.length := bs_size l
  by_cases h9 : 9 < l.length
  · have d1 : decide ((l.length : Int) > 9) = true := decide_eq_true (by omega)
    have d2 : (9 : Int) < l.length := by omega
    have Hq := Lib.hid (numB9_long h9)
    go_enter Tryz.func17, Tryz.ntmps17
    go_wp2
    refine bodyPost_ret (results_tmp2 rfl _ _ _) rfl ?_
    exact ⟨by rw [numV_no Hq.out, Hq.out]; rfl, hM.below⟩
  have d1 : decide ((l.length : Int) > 9) = false := decide_eq_false (by omega)
  have d2 : ¬ (9 : Int) < l.length := by omega
  have hpos : 0 < l.length := List.length_pos_iff.2 h0
  by_cases hh : byteL l 0 = 48 ∧ 1 < l.length
  · have Hq := Lib.hid (numB9_zero hh.1 hh.2)
    have b0 : ((byteL l 0 : Nat) : Int) = 48 := by omega
    have d3 : decide ((l.length : Int) > 1) = true := decide_eq_true (by omega)
    have d4 : (1 : Int) < l.length := by omega
    clear hh
    go_enter Tryz.func17, Tryz.ntmps17
    go_wp2_with (first | (refine wpList_gidx rfl _ _ rfl l rfl 0 hpos rfl _ b0 ?_))
    refine bodyPost_ret (results_tmp2 rfl _ _ _) rfl ?_
    exact ⟨by rw [numV_no Hq.out, Hq.out]; rfl, hM.below⟩
  obtain ⟨v0, hv0⟩ : ∃ v : Int, ((byteL l 0 : Nat) : Int) = v := ⟨_, rfl⟩
  have hcase : (v0 = 48 ∧ l.length = 1) ∨ v0 ≠ 48 := by
    by_cases e : v0 = 48
    · exact .inl ⟨e, by have : ¬ (byteL l 0 = 48 ∧ 1 < l.length) := hh; omega⟩
    · exact .inr e
  have hfin : byteL l 0 ≠ 48 ∨ l.length ≤ 1 := by omega
  have Hfin := Lib.hid hfin
  have H0 := Lib.hid h0
  clear hh hfin h0
  have main : ∀ (Q : Exit → Act → World → Prop), True := fun _ => trivial
  rcases hcase with ⟨e0, e1⟩ | e0
  all_goals
    first
    | (have q0 : (v0 == 48) = true := by rw [beq_iff_eq]; exact e0)
    | (have q0 : (v0 == 48) = false := by rw [beq_eq_false_iff_ne]; exact e0)
    first
    | (have q1 : decide (v0 = 48) = true := decide_eq_true e0)
    | (have q1 : decide (v0 = 48) = false := decide_eq_false e0)
    first
    | (have d3 : decide ((l.length : Int) > 1) = false := decide_eq_false (by omega))
    | skip
    first
    | (have d4 : ¬ (1 : Int) < l.length := by omega)
    | skip
    have E0 := Lib.hid e0
    clear e0 main
    go_enter Tryz.func17, Tryz.ntmps17
    go_wp2_with (first | (refine wpList_gidx rfl _ _ rfl l rfl 0 hpos rfl _ hv0 ?_))
    go_loopw [4, 5] (fun n i wr => ∃ k : Nat, k ≤ l.length ∧ n = .int .i64 (valD (l.take k)) ∧ i = .int .i64 k ∧ Hid (∀ j, j < k → 48 ≤ byteL l j ∧ byteL l j ≤ 57) ∧ Mem (Base.of w) [] wr) (fun _ i _ => l.length - (intOf i).toNat)
    case atStart => exact ⟨0, by omega, rfl, rfl, Lib.hid (fun j hj => absurd hj (by omega)), hM⟩
    case round =>
      clear hM
      obtain ⟨k, hk, rfl, rfl, hd, hM⟩ := hrel
      by_cases hlt : k < l.length
      · have l2 : (k : Int) < l.length := by omega
        obtain ⟨v, bv⟩ : ∃ v : Int, ((byteL l k : Nat) : Int) = v := ⟨_, rfl⟩
        have hv255 := byteL_le l k
        by_cases h48 : v < 48
        · have Hq := Lib.hid (numB9_dig hlt (.inl (by omega)))
          go_wp2_with (first | (refine wpList_idx rfl _ _ rfl l rfl k hlt rfl _ bv ?_) | (refine wpList_gidx rfl _ _ rfl l rfl k hlt rfl _ bv ?_))
          refine bodyPost_ret (results_tmp2 rfl _ _ _) rfl ?_
          exact ⟨by rw [numV_no Hq.out, Hq.out]; rfl, hM.below⟩
        by_cases h57 : 57 < v
        · have Hq := Lib.hid (numB9_dig hlt (.inr (by omega)))
          go_wp2_with (first | (refine wpList_idx rfl _ _ rfl l rfl k hlt rfl _ bv ?_) | (refine wpList_gidx rfl _ _ rfl l rfl k hlt rfl _ bv ?_))
          refine bodyPost_ret (results_tmp2 rfl _ _ _) rfl ?_
          exact ⟨by rw [numV_no Hq.out, Hq.out]; rfl, hM.below⟩
        have hval := valD_take hlt
        have hlt2 := valD_lt k (l.take k) (by rw [List.length_take]; omega) (fun d hm => by
          obtain ⟨j, hj, rfl⟩ := List.getElem_of_mem hm
          rw [List.length_take] at hj
          rw [List.getElem_take]
          have := hd.out j (by omega)
          rw [byteL_eq (by omega)] at this
          exact isD_iff.2 this)
        have hp : 10 ^ k ≤ 10 ^ 8 := Nat.pow_le_pow_right (by decide) (by omega)
        obtain ⟨u, hu⟩ : ∃ u : Int, ((valD (l.take k) : Nat) : Int) = u := ⟨_, rfl⟩
        have hu2 : 0 ≤ u ∧ u < 100000000 := by omega
        have c1 : IntKind.u8.wrap (v - 48) = v - 48 := IntWalk.u8_in _ (by omega)
        have c2 : IntKind.i64.wrap (v - 48) = v - 48 := IntWalk.i64_in _ (by omega)
        have c3 : IntKind.i64.wrap (10 * u) = 10 * u := IntWalk.i64_in _ (by omega)
        have c4 : IntKind.i64.wrap (10 * u + (v - 48)) = 10 * u + (v - 48) := IntWalk.i64_in _ (by omega)
        have Hn := Lib.hid (show ((valD (l.take (k + 1)) : Nat) : Int) = 10 * u + (v - 48) by rw [hval]; omega)
        have Hd := Lib.hid (show ∀ j, j < k + 1 → 48 ≤ byteL l j ∧ byteL l j ≤ 57 from fun j hj => by
          by_cases e : j = k
          · subst e; omega
          · exact hd.out j (by omega))
        rw [hu]
        clear hval hlt2 hp hu
        go_wp2_with (first | (refine wpList_idx rfl _ _ rfl l rfl k hlt rfl _ bv ?_) | (refine wpList_gidx rfl _ _ rfl l rfl k hlt rfl _ bv ?_))
        go_roundw
        case rel => exact ⟨k + 1, by omega, by rw [Hn.out]; try go_num, by go_num, Hd, hM⟩
        case measure => simp [intOf]; omega
      · obtain rfl : k = l.length := by omega
        have Hq := Lib.hid (numB9_yes H0.out (by omega) Hfin.out hd.out)
        rw [List.take_length]
        go_wp2
        refine bodyPost_ret (results_tmp2 rfl _ _ _) rfl ?_
        exact ⟨by rw [numV_yes Hq.out, Hq.out]; rfl, hM.below⟩
end Go.Proofs.YtaaphdbaocjecaaGreatDoor

/-
  Lists read from texts: what all of them use.
-/
namespace Go.Proofs.YtaaphdbaocjecaaGreatDoor
open Go Go.RowKit Go.BigFrame

theorem pOk_numB {B : Nat} {n : Int} (hB : B ≤ 32) (h1 : 1 ≤ B) (h0 : 0 ≤ n) (h : n < 2 ^ (B - 1)) : pOk B (numB n) = true ∧ pVal B (numB n) = n := pOk_of (parse_numB hB h1 h0 h)
theorem sp_told {x y : Int} (hx : 0 ≤ x ∧ x < 128) (hy : 0 ≤ y ∧ y < 128) : spOk (spotT x y) = true ∧ spX (spotT x y) = x ∧ spY (spotT x y) = y := by
  have hc := spotT_cut x y
  have h1 := pOk_numB (B := 8) (n := x) (by omega) (by omega) hx.1 (by omega)
  have h2 := pOk_numB (B := 8) (n := y) (by omega) (by omega) hy.1 (by omega)
  unfold spOk spX spY spE spS
  rw [hc]
  simp only [h1.1, h1.2, h2.1, h2.2]
  exact ⟨rfl, IntWalk.i8_in _ (by omega), IntWalk.i8_in _ (by omega)⟩
theorem joinT_congr {s : List UInt8} {f g : Nat → List UInt8} {n : Nat} (h : ∀ k, k < n → f k = g k) : joinT s f n = joinT s g n := by
  unfold joinT
  rw [List.map_congr_left (fun k hk => h k (List.mem_range.1 hk))]
theorem part_len (c : UInt8) (l : List UInt8) (j : Nat) : ((partsC c l).getD j []).length ≤ l.length := by
  have key : ∀ (n : Nat) (l : List UInt8), l.length ≤ n → ∀ p, p ∈ partsC c l → p.length ≤ l.length := by
    intro n
    induction n with
    | zero =>
      intro l hl p hp
      obtain rfl : l = [] := List.eq_nil_of_length_eq_zero (by omega)
      simp [partsC] at hp; subst hp; simp
    | succ n ih =>
      intro l hl p hp
      rcases first_c c l with h1 | ⟨u, r, h1, rfl⟩
      · rw [partsC_free l h1] at hp; simp at hp; subst hp; exact Nat.le_refl _
      · rw [partsC_app u r h1] at hp
        simp only [List.length_append, List.length_cons] at hl ⊢
        rcases List.mem_cons.1 hp with rfl | hp
        · omega
        · have := ih r (by omega) p hp
          omega
  rw [List.getD_eq_getElem?_getD]
  by_cases hj : j < (partsC c l).length
  · rw [List.getElem?_eq_getElem hj]
    exact key l.length l (Nat.le_refl _) _ (List.getElem_mem hj)
  · rw [List.getElem?_eq_none (by omega)]; simp
theorem Lst.call {b0 : Base} {K : Blocks} {m n : Nat} {v : Value} {R : Nat → Value} {W W' : World} (h : Lst b0 K m v n R W) (hb : Below W.heap.size W W') : Lst b0 K m v n R W' := by
  rcases h with ⟨h1, h2, h⟩ | ⟨b, c, F, h1, h2, h3, h4, h⟩
  · exact .inl ⟨h1, h2, h.call hb⟩
  · exact .inr ⟨b, c, F, h1, h2, h3, h4, h.call hb⟩
theorem bs_beq (x y : List UInt8) : ((bs x).toList == (bs y).toList) = decide (x = y) := by
  rw [ByteArray.toList_eq, ByteArray.toList_eq, bs_data, bs_data]
  by_cases h : x = y
  · rw [decide_eq_true h, h]; exact beq_self_eq_true _
  · rw [decide_eq_false h, beq_eq_false_iff_ne]; exact h
theorem Lst.same {b0 : Base} {K : Blocks} {m n : Nat} {v : Value} {R R' : Nat → Value} {W : World} (h : Lst b0 K m v n R W) (e : ∀ j, j < n * m → R j = R' j) : Lst b0 K m v n R' W := by
  rcases h with h | ⟨b, c, F, h1, h2, h3, h4, h⟩
  · exact .inl h
  · exact .inr ⟨b, c, F, h1, h2, h3, fun j hj => (h4 j hj).trans (e j hj), h⟩
theorem two_of {ps : List (List UInt8)} (h : ps.length = 2) : ps = [ps.getD 0 [], ps.getD 1 []] := by
  match ps, h with
  | [a, b], _ => rfl
theorem numV_pos {l : List UInt8} : 0 ≤ numV l := by unfold numV; split <;> omega
theorem num_back {l : List UInt8} (h : numB9 l = true) : l = numB (numV l) := by
  rw [numV_yes h]; exact num9_numB h
theorem numV_numB {n : Int} (h0 : 0 ≤ n) (h : n < 1000000000) : numV (numB n) = n := by rw [numV_yes (numB_num9 h0 h), numB_val h0]
/-- Fewer blocks. -/
theorem Mem.fewer {b0 : Base} {L L' : Blocks} {W : World} (h : Mem b0 L W) (hs : L'.Sublist L) : Mem b0 L' W := by
  have hw : L.Pairwise (fun p q => p.1 ≠ q.1) := List.pairwise_iff_getElem.2 fun i j hi hj hlt => h.apart i j _ _ (List.getElem?_eq_getElem hi) (List.getElem?_eq_getElem hj) (by omega)
  have hw2 := List.pairwise_iff_getElem.1 (hw.sublist hs)
  refine ⟨h.good, fun i b n f hi => h.ofK _ (hs.subset (List.mem_of_getElem? hi)), fun i j p q hi hj hne => ?_⟩
  obtain ⟨hil, ei⟩ := List.getElem?_eq_some_iff.1 hi
  obtain ⟨hjl, ej⟩ := List.getElem?_eq_some_iff.1 hj
  rcases Nat.lt_or_gt_of_ne hne with h1 | h1
  · have := hw2 i j hil hjl h1; rwa [ei, ej] at this
  · have := hw2 j i hjl hil h1; rw [ei, ej] at this; exact fun e => this e.symm
/-- A call of l01Split: its list, by one variable. -/
def SplitTo (l : List UInt8) (c : Int) (ps : List (List UInt8)) (n : Nat) : Prop := ∀ w : World, Calls Tryz.prog 15 #[.string (bs l), .int .u8 c] w fun e w' => ∃ b c1 F, e = .returned (.slice (some ⟨b, 0, none⟩) n c1) ∧ w.heap.size ≤ b ∧ n ≤ c1 ∧ (∀ j, j < n → F j = txF ps j) ∧ At w' b (c1 * 1) F ∧ Below w.heap.size w w'
theorem splitTo_any (l : List UInt8) (c : UInt8) (n : Int) (k : Nat) (hn : n = c.toNat) (hl : l.length ≤ 1048576) (hk : (partsC c l).length = k) : SplitTo l n (partsC c l) k := fun w => by
  have := l01Split_new l c n hn hl w
  rwa [hk] at this
end Go.Proofs.YtaaphdbaocjecaaGreatDoor

/-
  What impl's loose parsing makes of a text that tells sights.
-/
namespace Go.Proofs.YtaaphdbaocjecaaGreatDoor
open Go Go.RowKit Go.BigFrame

theorem sg_told {hs : Nat → Nat → Int} {k : Nat} (hb : SightIn (hs k 0) (hs k 1) (hs k 2)) : sgOk (sightW hs k) = true ∧ sgV (sightW hs k) 0 = hs k 0 ∧ sgV (sightW hs k) 1 = hs k 1 ∧ sgV (sightW hs k) 2 = hs k 2 := by
  obtain ⟨⟨d0, d1⟩, ⟨x0, x1⟩, y0, y1⟩ := hb
  have hc := sightW_cut hs k
  obtain ⟨s0, s1, s2⟩ := sp_told (x := hs k 1) (y := hs k 2) (by omega) (by omega)
  have h1 := pOk_numB (B := 16) (n := hs k 0) (by omega) (by omega) (by omega) (by omega)
  unfold sgOk sgV sgP sgN
  rw [hc]
  simp only [s0, s1, s2, h1.1, h1.2]
  exact ⟨rfl, IntWalk.i16_in _ (by omega), rfl, rfl⟩
/-- The words; what they tell loosely. -/
def sgWs (l : List UInt8) : Nat := if l = [] then 0 else (partsC 32 l).length
def sgHs (l : List UInt8) : Nat → Nat → Int := fun j => sgV ((partsC 32 l).getD j [])
def BadS (l : List UInt8) : Prop := l ≠ [] ∧ (40 < (partsC 32 l).length ∨ ∃ j, j < (partsC 32 l).length ∧ sgOk ((partsC 32 l).getD j []) = false)
theorem TellsS.words {l : List UInt8} {m : Nat} {gs : Nat → Nat → Int} (h : TellsS l m gs) (h0 : l ≠ []) : (partsC 32 l).length = m ∧ ∀ j, j < m → (partsC 32 l).getD j [] = sightW gs j := by
  have hm : 0 < m := by
    rcases Nat.eq_zero_or_pos m with e | e
    · exact absurd (h.zero.1 e) h0
    · exact e
  rw [h.parts hm]
  refine ⟨by simp, fun j hj => ?_⟩
  rw [List.getD_eq_getElem?_getD]
  simp [hj]
theorem BadS.no {l : List UInt8} (h : BadS l) (m : Nat) (gs : Nat → Nat → Int) : ¬ TellsS l m gs := fun k => by
  obtain ⟨e1, e2⟩ := k.words h.1
  rcases h.2 with h2 | ⟨j, hj, h2⟩
  · have := k.len; omega
  · rw [e2 j (by omega), (sg_told (k.in j (by omega))).1] at h2; cases h2
theorem sgHs_told {l : List UInt8} {m : Nat} {gs : Nat → Nat → Int} (k : TellsS l m gs) : sgWs l = m ∧ ∀ j, j < m → sgHs l j 0 = gs j 0 ∧ sgHs l j 1 = gs j 1 ∧ sgHs l j 2 = gs j 2 := by
  by_cases h0 : l = []
  · have hm : m = 0 := k.zero.2 h0
    subst hm
    exact ⟨by unfold sgWs; rw [if_pos h0], fun j hj => absurd hj (by omega)⟩
  · obtain ⟨e1, e2⟩ := k.words h0
    refine ⟨by unfold sgWs; rw [if_neg h0]; exact e1, fun j hj => ?_⟩
    unfold sgHs
    rw [e2 j hj]
    exact (sg_told (k.in j hj)).2
theorem fits_sgV (l : List UInt8) : FitsSight (sgV l) := by
  have w8 : ∀ x, -128 ≤ IntKind.i8.wrap x ∧ IntKind.i8.wrap x ≤ 127 := fun x => by unfold IntKind.wrap; simp [IntKind.signed, IntKind.bits]; omega
  have w16 : ∀ x, -32768 ≤ IntKind.i16.wrap x ∧ IntKind.i16.wrap x ≤ 32767 := fun x => by unfold IntKind.wrap; simp [IntKind.signed, IntKind.bits]; omega
  exact ⟨w16 _, w8 _, w8 _⟩
theorem sightW_congr {hs gs : Nat → Nat → Int} {k : Nat} (e : hs k 0 = gs k 0 ∧ hs k 1 = gs k 1 ∧ hs k 2 = gs k 2) : sightW hs k = sightW gs k := by
  unfold sightW; rw [e.1, e.2.1, e.2.2]
theorem all_congr {n : Nat} {p q : Nat → Bool} (h : ∀ k, k < n → p k = q k) : (List.range n).all p = (List.range n).all q := by
  rw [Bool.eq_iff_iff, List.all_eq_true, List.all_eq_true]
  exact ⟨fun e k hk => by rw [← h k (List.mem_range.1 hk)]; exact e k hk, fun e k hk => by rw [h k (List.mem_range.1 hk)]; exact e k hk⟩
theorem sightsB_congr {g : Nat → Int} {n : Nat} {hs gs : Nat → Nat → Int} (e : ∀ j, j < n → hs j 0 = gs j 0 ∧ hs j 1 = gs j 1 ∧ hs j 2 = gs j 2) : sightsB g n hs = sightsB g n gs := by
  have h1 : (List.range n).all (dayB hs) = (List.range n).all (dayB gs) := all_congr (fun k hk => by
    unfold dayB
    by_cases h0 : k = 0
    · subst h0; rw [(e 0 hk).1]
    · rw [(e k hk).1, (e (k - 1) (by omega)).1])
  have h2 : ((List.range n).all fun i => isB g (hs i 1) (hs i 2)) = (List.range n).all fun i => isB g (gs i 1) (gs i 2) := all_congr (fun k hk => by rw [(e k hk).2.1, (e k hk).2.2])
  unfold sightsB seenB
  rw [h1, h2]
theorem TellsS.same {l : List UInt8} {m : Nat} {gs hs : Nat → Nat → Int} (k : TellsS l m gs) (h : ∀ j, j < m → hs j 0 = gs j 0 ∧ hs j 1 = gs j 1 ∧ hs j 2 = gs j 2) : TellsS l m hs :=
  ⟨by rw [sightsB_congr h]; exact k.1, by rw [k.2]; exact joinT_congr fun j hj => (sightW_congr (h j hj)).symm⟩
theorem sightsB_nil {hs : Nat → Nat → Int} : sightsB gMost (sgWs []) hs = true := by
  have : sgWs [] = 0 := by unfold sgWs; simp
  rw [this]; rfl
/-- Its text asked: told, or nothing. -/
theorem sgText_yes {l : List UInt8} (h : sightsT (sgWs l) (sgHs l) = l) : TellsS l (sgWs l) (sgHs l) := by
  by_cases h0 : l = []
  · subst h0; exact ⟨sightsB_nil, rfl⟩
  · exact tellsS_text h h0
theorem sgText_no {l : List UInt8} (h : sightsT (sgWs l) (sgHs l) ≠ l) (m : Nat) (gs : Nat → Nat → Int) : ¬ TellsS l m gs := fun k => by
  obtain ⟨e, hw⟩ := sgHs_told k
  apply h
  rw [e]
  exact (k.same hw).text
end Go.Proofs.YtaaphdbaocjecaaGreatDoor

/-
  impl.parseWords of sights by contract.
-/
namespace Go.Proofs.YtaaphdbaocjecaaGreatDoor
open Go Go.RowKit Go.BigFrame

theorem parseSight_yes {a : Nat → Addr} (l : List UInt8) (hl : l.length ≤ 1048576) (h : sgOk l = true) (w : World) (hE : PEnv a w) :
    Calls Tryz.prog 26 #[.string (bs l)] w fun e w' => e = .returned (.tuple #[.agg (arr 3 (vSight (sgV l))), .nilIface]) ∧ Below w.heap.size w w' := by
  refine (parseSight_any l hl w hE).mono ?_
  rintro e w' ⟨v, N, rfl, ⟨-, rfl⟩ | ⟨h2, -⟩, hM, -⟩
  · exact ⟨rfl, hM.below⟩
  · rw [h] at h2; cases h2
theorem parseSight_no {a : Nat → Addr} (l : List UInt8) (hl : l.length ≤ 1048576) (h : sgOk l = false) (w : World) (hE : PEnv a w) :
    Calls Tryz.prog 26 #[.string (bs l)] w fun e w' => ∃ t p N, e = .returned (.tuple #[.agg (arr 3 (vSight (sgV l))), .iface t (.pointer p)]) ∧ ErrIn a 2 (.iface t (.pointer p)) N ∧ Mem (Base.of w) N w' ∧ ∀ p, p ∈ N → w.heap.size ≤ p.1 := by
  refine (parseSight_any l hl w hE).mono ?_
  rintro e w' ⟨v, N, rfl, ⟨h2, -⟩ | ⟨-, h2⟩, hM, hge⟩
  · rw [h] at h2; cases h2
  · obtain ⟨t, p, rfl⟩ := h2.iface
    exact ⟨t, p, N, rfl, h2, hM, hge⟩
theorem sight_under : Tryz.prog.underlying 28 = some (.slice 55) := Tryz.underlying28
theorem sight_info2 : (Tryz.prog.info? 55).map (fun i => (i.size, i.zero)) = some (3, some (.agg (arr 3 zSight))) := by kernel_rfl
theorem sight_ones {h : Nat → Int} : ∀ k, k < 3 → (vSight h k).oneCell' = true := fun _ _ => rfl
/-- What parseWords answers. -/
def PWordsS (a : Nat → Addr) (l : List UInt8) (w : World) (e : Ending) (w' : World) : Prop :=
  (∃ v N, e = .returned (.tuple #[.slice none 0 0, v]) ∧ ErrIn a 2 v N ∧ Mem (Base.of w) N w' ∧ BadS l) ∨
  (∃ v, e = .returned (.tuple #[v, .nilIface]) ∧ Lst (Base.of w) [] 3 v (sgWs l) (sSight (sgHs l)) w' ∧ sgWs l ≤ 40)
set_option maxRecDepth 100000 in
set_option maxHeartbeats 4000000 in
theorem parseWordsSg_any {a : Nat → Addr} (l : List UInt8) (hl : l.length ≤ 1048576) (w : World) (hE : PEnv a w) :
    Calls Tryz.prog 25 #[.string (bs l), .int .i64 40, .func (.func 26) #[] #[]] w (PWordsS a l w) := by
  have hM := Mem.nil w
  have HE := Lib.hid hE
  clear hE
  have hemp := bs_isEmpty l
  by_cases h0 : l = []
  · subst h0
    go_enter Tryz.func25, Tryz.ntmps25
    go_wp2
    refine bodyPost_ret (results_tmp2 rfl _ _ _) rfl ?_
    exact .inr ⟨_, rfl, .inl ⟨rfl, rfl, hM⟩, by unfold sgWs; simp⟩
  have hne : (bs l).toList.isEmpty = false := by
    rw [hemp]; cases l with
    | nil => exact absurd rfl h0
    | cons a r => rfl
  have H0 := Lib.hid h0
  clear hemp h0
  by_cases hmany : 40 < (partsC 32 l).length
  · have Hb := Lib.hid (show BadS l from ⟨H0.out, .inl hmany⟩)
    have hlen : (wordsN 32 41 l).length = 41 := by
      by_cases h13 : (partsC 32 l).length ≤ 41
      · rw [wordsN_few (by omega) h13]; omega
      · exact wordsN_many (by omega) (by omega)
    have HN := Lib.hid (fun (W : World) (h : MaxP W) => splitN_any l 32 41 hl (by omega) (by omega) W h)
    rw [hlen] at HN
    clear hlen hmany
    go_enter Tryz.func25, Tryz.ntmps25
    go_wp2_with (first | (go_at_call 29; refine (HN.out _ (HE.out.max.below hM.below)).mono ?_; rintro e W' ⟨wb, N, F, rfl, hwb, hnN, hF, hA', hcb⟩; have hM' := hM.call hcb; clear hM hwb hnN hF hA' hcb; have hM := hM'; clear hM'))
    ((try simp only [Act.put, List.setIfInBounds_toArray, List.set_cons_succ, List.set_cons_zero]); refine wp_region_mem (by kernel_rfl) (by kernel_rfl) hM ?_; clear hM; (repeat (first | go_big_quiet_skip | (go_big_quiet_want; first | (refine quiet_old _ _ rfl _ _ rfl (cellTab _ rfl) (errV (a 3)) (fun W hM2 => (HE.out.errs.below hM2.below).vars 3 (by omega)) ?_; (simp only [Act.put, List.setIfInBounds_toArray, List.set_cons_succ, List.set_cons_zero]); go_big_quiet_on) | (refine quiet_val ?_; apply Exists.intro; refine ⟨fun W => ?_, ?_⟩; (go_simp; (try simp only [rfl, if_true, Bool.false_eq_true, if_false]); rfl); (simp only [Act.put, List.setIfInBounds_toArray, List.set_cons_succ, List.set_cons_zero]); go_big_quiet_on)))); (with_reducible refine wpQuiet_nil ?_); intro W' hM)
    go_wp2
    refine bodyPost_ret (results_tmp2 rfl _ _ _) rfl ?_
    exact .inl ⟨_, [], rfl, ErrIn.one 2, hM, Hb.out⟩
  have hw : wordsN 32 41 l = partsC 32 l := wordsN_few (by omega) (by omega)
  have HN := Lib.hid (fun (W : World) (h : MaxP W) => splitN_any l 32 41 hl (by omega) (by omega) W h)
  rw [hw] at HN
  have HL := Lib.hid (fun j => Nat.le_trans (part_len 32 l j) hl)
  have Hst := Lib.hid (show sgWs l = (partsC 32 l).length from by unfold sgWs; rw [if_neg H0.out])
  have Hhs := Lib.hid (show ∀ j, sgHs l j = sgV ((partsC 32 l).getD j []) from fun j => rfl)
  have Hbad := Lib.hid (show ∀ j, j < (partsC 32 l).length → sgOk ((partsC 32 l).getD j []) = false → BadS l from fun j h1 h2 => ⟨H0.out, .inr ⟨j, h1, h2⟩⟩)
  obtain ⟨n, hn⟩ : ∃ n, (partsC 32 l).length = n := ⟨_, rfl⟩
  rw [hn] at HN Hst Hbad hmany
  have Hn := Lib.hid hn
  have hn12 : n ≤ 40 := by omega
  have d12 : decide ((n : Int) > 40) = false := decide_eq_false (by omega)
  have d13 : ¬ (40 : Int) < n := by omega
  clear hw hn hmany
  have tk_sp : True := trivial
  go_enter Tryz.func25, Tryz.ntmps25
  go_wp2_with (first | (have _t := tk_sp; go_at_call 29; refine (HN.out _ (HE.out.max.below hM.below)).mono ?_; rintro e W' ⟨wb, N, F, rfl, hwb, hnN, hF, hA', hcb⟩; have hM' := hM.fresh' hcb hA' hwb; simp only [List.nil_append] at hM'; have HF := Lib.hid hF; clear hM hF hA' hcb tk_sp; have hM := hM'; clear hM'))
  go_loopw [9, 27] (fun v i wr => ∃ k : Nat, k ≤ n ∧ i = .int .i64 k ∧ Lst (Base.of w) [(wb, N, F)] 3 v k (sSight (sgHs l)) wr) (fun _ i _ => n - (intOf i).toNat)
  case atStart => exact ⟨0, by omega, rfl, .inl ⟨rfl, rfl, hM⟩⟩
  case round =>
    clear hM
    obtain ⟨k, hk, rfl, hL⟩ := hrel
    by_cases hlt : k < n
    · have l2 : (k : Int) < n := by omega
      have hle : k ≤ 1048576 := by omega
      obtain ⟨wd, hwd⟩ : ∃ wd, (partsC 32 l).getD k [] = wd := ⟨_, rfl⟩
      have e0 : F k = .string (bs wd) := by rw [HF.out k hlt, ← hwd]; rfl
      have e1 : F (k * 1) = .string (bs wd) := by rw [Nat.mul_one]; exact e0
      have hwl := HL.out k
      rw [hwd] at hwl
      have Hh := Lib.hid ((Hhs.out k).trans (congrArg sgV hwd))
      have Hbd := Lib.hid (show sgOk wd = false → BadS l from fun h => Hbad.out k hlt (by rw [hwd]; exact h))
      have el : arr 3 (fun j => vSight (sgV wd) (0 + j)) = arr 3 (vSight (sgV wd)) := arr_congr fun j hj => by rw [Nat.zero_add]
      clear hwd
      cases hok : sgOk wd
      · have HP := Lib.hid (fun (W : World) (h : PEnv a W) => parseSight_no wd hwl hok W h)
        have Hbb := Lib.hid (Hbd.out hok)
        have hM := hL.mem
        clear hL hok Hbd
        have tk_r1 : True := trivial; have tk_b3 : True := trivial; have tk_r2 : True := trivial
        go_wp2_with (first | (have _t := tk_r1; refine wpList_get1 rfl _ _ rfl _ _ rfl hM 0 rfl (cellTab _ rfl) (by omega) _ (by first | exact e0 | exact e1) ?_; clear tk_r1) | (go_at_call 26; refine (HP.out _ (HE.out.below hM.below)).mono ?_; rintro e W' ⟨t, p, M, rfl, hv, hN, hge⟩; have Hv := Lib.hid hv; have hM' := hM.back hN hge; simp only [List.cons_append, List.nil_append] at hM'; clear hM hN hge hv; have hM := hM'; clear hM') | (have _t := tk_b3; refine wpList_zero rfl _ rfl zeroSight hM ?_; intro b3 W' hb3 hM'; clear hM tk_b3; have hM := hM'; clear hM') | (have _t := tk_r2; (refine wpList_lay rfl _ _ _ rfl _ _ rfl _ _ rfl hM 0 rfl (by assumption) rowSight (by omega) (fun _ _ => rfl) ?_; intro W' hM'; clear hM; have hM := hM'; clear hM'; simp only [List.set] at hM; have hM1 := hM.re 0 rfl (vSight (sgV wd)) (fun j hj => by simp [lay, hj]); simp only [List.set_cons_zero] at hM1; clear hM; have hM := hM1; clear hM1); clear tk_r2))
        refine bodyPost_ret (results_tmp2 rfl _ _ _) rfl ?_
        exact .inl ⟨_, M, rfl, Hv.out, hM.drop.drop, Hbb.out⟩
      · have HY := Lib.hid (fun (W : World) (h : PEnv a W) => parseSight_yes wd hwl hok W h)
        have Hnew := Lib.hid (show ∀ j, j < 3 → vSight (sgV wd) j = sSight (sgHs l) (k * 3 + j) from fun j hj => by rw [sSight_row _ _ _ hj, Hh.out])
        clear hok Hbd
        rcases hL with ⟨rfl, hn0, hM⟩ | ⟨bw, cw, G, rfl, hbb, hnc, hFF, hM⟩
        · have Hq : Hid (∀ j, j < 3 → vSight (sgV wd) j = sSight (sgHs l) j) := Lib.hid (fun j hj => by have := Hnew.out j hj; rwa [hn0, Nat.zero_mul, Nat.zero_add] at this)
          have Hn0 := Lib.hid hn0
          clear hn0
          have tk_r1 : True := trivial; have tk_b3 : True := trivial; have tk_r2 : True := trivial; have tk_r3 : True := trivial; have tk_l1 : True := trivial; have tk_p1 : True := trivial
          go_wp2_with (first | (have _t := tk_r1; refine wpList_get1 rfl _ _ rfl _ _ rfl hM 0 rfl (cellTab _ rfl) (by omega) _ (by first | exact e0 | exact e1) ?_; clear tk_r1) | (go_at_call 26; refine (HY.out _ (HE.out.below hM.below)).mono ?_; rintro e W' ⟨rfl, hb'⟩; have hM' := hM.call hb'; clear hM hb'; have hM := hM'; clear hM') | (have _t := tk_b3; refine wpList_zero rfl _ rfl zeroSight hM ?_; intro b3 W' hb3 hM'; clear hM tk_b3; have hM := hM'; clear hM') | (have _t := tk_r2; (refine wpList_lay rfl _ _ _ rfl _ _ rfl _ _ rfl hM 0 rfl (by assumption) rowSight (by omega) (fun _ _ => rfl) ?_; intro W' hM'; clear hM; have hM := hM'; clear hM'; simp only [List.set] at hM; have hM1 := hM.re 0 rfl (vSight (sgV wd)) (fun j hj => by simp [lay, hj]); simp only [List.set_cons_zero] at hM1; clear hM; have hM := hM1; clear hM1); clear tk_r2) | (have _t := tk_r3; (refine wpList_get rfl _ _ rfl _ _ rfl hM 0 rfl rowSight (by omega) ?_); rw [el]; clear tk_r3) | (have _t := tk_l1; refine wpList_slice1 rfl _ _ _ rfl _ _ rfl _ sight_under sight_info2 (by omega) (by omega) hM ?_; intro bn W' hbn hM'; clear hM tk_l1; have hM := hM'; clear hM') | (have _t := tk_p1; refine wpList_push0 rfl _ _ _ rfl _ 3 _ _ sight_under infoSight rfl (by omega) rfl _ _ rfl hM (sSight (sgHs l)) Hq.out ?_; intro bL cL FL W' hbL hcL hFL hM'; clear hM tk_p1; have hM := hM'; clear hM'))
          go_roundw
          case rel => exact ⟨k + 1, by omega, by go_num, by
            rw [Hn0.out]
            exact .inr ⟨bL, cL, FL, rfl, hbL, hcL, hFL, hM.skip⟩⟩
          case measure => simp [intOf]; omega
        · have Hf := Lib.hid hFF
          clear hFF
          have tk_r1 : True := trivial; have tk_b3 : True := trivial; have tk_r2 : True := trivial; have tk_r3 : True := trivial; have tk_l1 : True := trivial; have tk_p1 : True := trivial
          go_wp2_with (first | (have _t := tk_r1; refine wpList_get1 rfl _ _ rfl _ _ rfl hM 1 rfl (cellTab _ rfl) (by omega) _ (by first | exact e0 | exact e1) ?_; clear tk_r1) | (go_at_call 26; refine (HY.out _ (HE.out.below hM.below)).mono ?_; rintro e W' ⟨rfl, hb'⟩; have hM' := hM.call hb'; clear hM hb'; have hM := hM'; clear hM') | (have _t := tk_b3; refine wpList_zero rfl _ rfl zeroSight hM ?_; intro b3 W' hb3 hM'; clear hM tk_b3; have hM := hM'; clear hM') | (have _t := tk_r2; (refine wpList_lay rfl _ _ _ rfl _ _ rfl _ _ rfl hM 0 rfl (by assumption) rowSight (by omega) (fun _ _ => rfl) ?_; intro W' hM'; clear hM; have hM := hM'; clear hM'; simp only [List.set] at hM; have hM1 := hM.re 0 rfl (vSight (sgV wd)) (fun j hj => by simp [lay, hj]); simp only [List.set_cons_zero] at hM1; clear hM; have hM := hM1; clear hM1); clear tk_r2) | (have _t := tk_r3; (refine wpList_get rfl _ _ rfl _ _ rfl hM 0 rfl rowSight (by omega) ?_); rw [el]; clear tk_r3) | (have _t := tk_l1; refine wpList_slice1 rfl _ _ _ rfl _ _ rfl _ sight_under sight_info2 (by omega) (by omega) hM.swap ?_; intro bn W' hbn hM'; clear hM tk_l1; have hM := hM'; clear hM') | (have _t := tk_p1; refine wpList_push1 rfl _ _ _ rfl _ 3 _ _ sight_under infoSight rfl (by omega) _ _ _ _ rfl hbb hnc hle _ _ rfl sight_ones hM (sSight (sgHs l)) Hf.out Hnew.out ?_; intro bL cL FL W' hbL hcL hFL hM'; clear hM tk_p1; have hM := hM'; clear hM'))
          go_roundw
          case rel => exact ⟨k + 1, by omega, by go_num, .inr ⟨bL, cL, FL, rfl, hbL, hcL, hFL, hM.skip⟩⟩
          case measure => simp [intOf]; omega
    · obtain rfl : k = n := by omega
      have hM := hL.mem
      go_wp2
      refine bodyPost_ret (results_tmp2 rfl _ _ _) rfl ?_
      exact .inr ⟨_, rfl, by rw [Hst.out]; exact hL.only, by rw [Hst.out]; omega⟩
end Go.Proofs.YtaaphdbaocjecaaGreatDoor

/-
  spec.Decimal by contract.
-/
namespace Go.Proofs.YtaaphdbaocjecaaGreatDoor
open Go Go.RowKit Go.BigFrame

theorem numB_small {n : Int} (h0 : 0 ≤ n) (h : n < 10) : numB n = [UInt8.ofNat (48 + n % 10).toNat] := by
  unfold numB; rw [Lib.decDigits, dif_pos (by omega)]; congr 2; omega
theorem numB_more {n : Int} (h : 10 ≤ n) : numB n = numB (n / 10) ++ [UInt8.ofNat (48 + n % 10).toNat] := by
  unfold numB
  rw [Lib.decDigits, dif_neg (by omega)]
  congr 2
  · congr 1; omega
  · congr 2; omega

/-- A string of the one byte that a block holds. -/
theorem run_str1 {P : Program} {W : World} {src dst e : TypeId} (hs : P.underlying src = some (.slice e)) (he : P.underlying e = some (.int .u8)) (hd : P.underlying dst = some .string) {b n c : Nat} {f : Nat → Value} (hA : At W b n f) (hn : 1 ≤ n) (k : Int) (hf : f 0 = .int .u8 k) :
    (convert src dst (.slice (some ⟨b, 0, none⟩) 1 c)).run P W = .ok (.string (bs [UInt8.ofNat k.toNat])) W := by
  rw [run_convert_bytes_string W src dst e _ _ _ hs he hd]
  have hl : (loadCells ⟨b, 0, none⟩ 1).run P W = .ok ([k].map (Value.int .u8)).toArray W := by
    exact run_loadCells W ⟨b, 0, none⟩ 1 (fun _ => .int .u8 k) (fun j hj => by
      obtain rfl : j = 0 := by omega
      exact (hA.cell (k := 0) (by omega)).trans (congrArg some hf))
  rw [run_bytesToString W _ 1 c [k] hl]
  rfl

section
variable {P : Program} {o : Oper} {a : Act} {w : Base} {L x : Blocks} {K : Act → (World → Prop) → Prop}
theorem step_str1 (src dst e : TypeId) (y : Operand) (ho : o.op = .convert src dst y) (hs : P.underlying src = some (.slice e)) (he : P.underlying e = some (.int .u8)) (hd : P.underlying dst = some .string) (b c : Nat) (hx : a.eval y = .slice (some ⟨b, 0, none⟩) 1 c) (i : Nat) {n : Nat} {f : Nat → Value} (hi : x[i]? = some (b, n, f)) (hn : 1 ≤ n) (k : Int) (hf : f 0 = .int .u8 k)
    (h : K (a.put o.dst (.string (bs [UInt8.ofNat k.toNat]))) (Mem w (x ++ L))) : stepT P (Mem w L) o a (Mem w (x ++ L)) K := by
  have hil : i < x.length := (List.getElem?_eq_some_iff.1 hi).1
  have hi' : (x ++ L)[i]? = some (b, n, f) := by rw [List.getElem?_append_left hil]; exact hi
  intro W hM
  refine .inl ⟨_, _, W, .inl ?_, kept_mem w L x, hM, h⟩
  unfold execOp
  simp only [ho, hx, run_str1 hs he hd (hM.ats i _ _ _ hi') hn k hf, Sem.run_bind, Sem.run_pure, Result.andThen_ok]
end
theorem wpList_str1 {P : Program} {ops : Array Oper} {rest : List Oper} {o : Oper} {a : Act} {W : World} {Q : Exit → Act → World → Prop} (hgd : o.guard = none) (src dst e : TypeId) (y : Operand) (ho : o.op = .convert src dst y) (hs : P.underlying src = some (.slice e)) (he : P.underlying e = some (.int .u8)) (hd : P.underlying dst = some .string) (b c : Nat) (hx : a.eval y = .slice (some ⟨b, 0, none⟩) 1 c) {n : Nat} {f : Nat → Value} (hA : At W b n f) (hn : 1 ≤ n) (k : Int) (hf : f 0 = .int .u8 k)
    (h : wpList P ops Q rest (a.put o.dst (.string (bs [UInt8.ofNat k.toNat]))) W) : wpList P ops Q (o :: rest) a W := by
  refine wpList_plain hgd fun K hK => ?_
  unfold Oper.wp execOp
  simp only [ho, hx, run_str1 hs he hd hA hn k hf, Sem.run_bind, Sem.run_pure, Result.andThen_ok]
  exact hK _ _ h
theorem cat_op {P : Program} {o : Oper} {a : Act} {t t' : TypeId} (x y : Operand) (ho : o.op = .binOp .add t x y t') (u v : List UInt8) (hx : a.eval x = .string (bs u)) (hy : a.eval y = .string (bs v)) (hb : u.length + v.length ≤ 100000000) (W : World) : (execOp a.eval o).run P W = .ok (.value (.string (bs (u ++ v)))) W := by
  unfold execOp
  have hg : (eqGuard .add t x y (.string (bs u)) (.string (bs v))).run P W = .ok () W := rfl
  simp only [ho, hx, hy, binOp, hg, cat_run u v hb W, Sem.run_bind, Sem.run_pure, Result.andThen_ok]
theorem wpList_cat {P : Program} {ops : Array Oper} {rest : List Oper} {o : Oper} {a : Act} {W : World} {Q : Exit → Act → World → Prop} (hgd : o.guard = none) {t t' : TypeId} (x y : Operand) (ho : o.op = .binOp .add t x y t') (u v : List UInt8) (hx : a.eval x = .string (bs u)) (hy : a.eval y = .string (bs v)) (hb : u.length + v.length ≤ 100000000)
    (h : wpList P ops Q rest (a.put o.dst (.string (bs (u ++ v)))) W) : wpList P ops Q (o :: rest) a W := by
  refine wpList_plain hgd fun K hK => ?_
  unfold Oper.wp
  rw [cat_op x y ho u v hx hy hb W]
  exact hK _ _ h
theorem infoU8 : (Tryz.prog.info? 5).map (fun i => (i.size, i.zero)) = some (1, some (.int .u8 0)) := by kernel_rfl
theorem bytes_under : Tryz.prog.underlying 95 = some (.slice 5) := Tryz.underlying95

end Go.Proofs.YtaaphdbaocjecaaGreatDoor

/-
  (impl.Spot).text by contract.
-/
namespace Go.Proofs.YtaaphdbaocjecaaGreatDoor
open Go Go.RowKit Go.BigFrame

set_option maxRecDepth 100000 in
set_option maxHeartbeats 1000000 in
theorem spotText_any (x y : Int) (hx : 0 ≤ x ∧ x ≤ 127) (hy : 0 ≤ y ∧ y ≤ 127) (w : World) (hT : TabP w) :
    Calls Tryz.prog 44 #[.agg (arr 2 (sp x y))] w fun e w' => e = .returned (.string (bs (spotT x y))) ∧ Below w.heap.size w w' := by
  have hM := Mem.nil w
  have e0 : sp x y 0 = .int .i8 x := rfl
  have e1 : sp x y 1 = .int .i8 y := rfl
  have cx : IntKind.i64.wrap x = x := IntWalk.i64_in _ (by omega)
  have cy : IntKind.i64.wrap y = y := IntWalk.i64_in _ (by omega)
  have lx := numB_len (n := x) (by omega)
  have ly := numB_len (n := y) (by omega)
  have HX := Lib.hid (fun (W : World) (h : TabP W) => fmt_any x hx.1 (by omega) W h)
  have HY := Lib.hid (fun (W : World) (h : TabP W) => fmt_any y hy.1 (by omega) W h)
  have HT := Lib.hid hT
  clear hT
  obtain ⟨u, hu⟩ : ∃ u, numB x = u := ⟨_, rfl⟩
  obtain ⟨v, hv⟩ : ∃ v, numB y = v := ⟨_, rfl⟩
  have hr : spotT x y = u ++ [44] ++ v := by unfold spotT; rw [hu, hv]
  rw [hr]
  rw [hu] at HX lx
  rw [hv] at HY ly
  clear hu hv hr
  have tk_b1 : True := trivial
  go_enter Tryz.func44, Tryz.ntmps44
  go_wp2_with (first | (have _t := tk_b1; refine wpList_box rfl _ _ rfl _ _ rfl hM ?_; intro b1 W' hb1 hM'; clear hM tk_b1; have hM := hM'; clear hM'))
  ((try simp only [Act.put, List.setIfInBounds_toArray, List.set_cons_succ, List.set_cons_zero]); refine wp_region_mem (by kernel_rfl) (by kernel_rfl) hM ?_; clear hM; (repeat (first | go_big_quiet_skip | (go_big_quiet_want; first | (refine quiet_get1 _ _ rfl _ _ rfl 0 rfl (cellTab _ rfl) (by omega) _ e0 ?_; (simp only [Act.put, List.setIfInBounds_toArray, List.set_cons_succ, List.set_cons_zero]); go_big_quiet_on) | (refine quiet_get1 _ _ rfl _ _ rfl 0 rfl (cellTab _ rfl) (by omega) _ e1 ?_; (simp only [Act.put, List.setIfInBounds_toArray, List.set_cons_succ, List.set_cons_zero]); go_big_quiet_on) | (refine quiet_call ?_; apply Exists.intro; apply Exists.intro; apply Exists.intro; refine ⟨fun W => ?_, fun W hM => ?_, ?_⟩; (go_simp; exact ⟨rfl, rfl⟩); (with_reducible exact HX.out W (HT.out.below hM.below)); (simp only [Act.put, List.setIfInBounds_toArray, List.set_cons_succ, List.set_cons_zero]); go_big_quiet_on) | (refine quiet_call ?_; apply Exists.intro; apply Exists.intro; apply Exists.intro; refine ⟨fun W => ?_, fun W hM => ?_, ?_⟩; (go_simp; exact ⟨rfl, rfl⟩); (with_reducible exact HY.out W (HT.out.below hM.below)); (simp only [Act.put, List.setIfInBounds_toArray, List.set_cons_succ, List.set_cons_zero]); go_big_quiet_on) | (refine quiet_val ⟨_, fun W => cat_op _ _ rfl _ _ rfl rfl (by simp only [List.length_append, List.length_cons, List.length_nil]; omega) W, ?_⟩; (simp only [Act.put, List.setIfInBounds_toArray, List.set_cons_succ, List.set_cons_zero]); go_big_quiet_on) | (refine quiet_val ?_; apply Exists.intro; refine ⟨fun W => ?_, ?_⟩; (go_simp; (try simp only [cx, cy, if_true, Bool.false_eq_true, if_false]); rfl); (simp only [Act.put, List.setIfInBounds_toArray, List.set_cons_succ, List.set_cons_zero]); go_big_quiet_on)))); (with_reducible refine wpQuiet_nil ?_); intro W' hM)
  go_wp2
  go_ret
  exact ⟨ret_bs (l := u ++ 44 :: v) (by simp), hM.below⟩
end Go.Proofs.YtaaphdbaocjecaaGreatDoor

/-
  Words: a list of strings that grows; how it is joined.
-/
namespace Go.Proofs.YtaaphdbaocjecaaGreatDoor
open Go Go.RowKit Go.BigFrame

theorem strs_under : Tryz.prog.underlying 33 = some (.slice 9) := Tryz.underlying33
theorem strs_info : (Tryz.prog.info? 9).map (fun i => (i.size, i.zero)) = some (1, some (.string ⟨#[]⟩)) := by kernel_rfl
theorem strF_one {f : Nat → List UInt8} : ∀ k, k < 1 → ((fun _ => strF f k) k : Value).oneCell' = true := fun _ _ => rfl
/-- Words that a call listed, joined. -/
theorem join_lst {w : World} {K : Blocks} {v : Value} {n : Nat} {f : Nat → List UInt8} {W : World} (h : Lst (Base.of w) K 1 v n (strF f) W) (sep : List UInt8) (m : Nat) (hf : ∀ k, k < n → (f k).length ≤ m) (hm : n * (m + sep.length) ≤ 100000000) (hn : n ≤ 1048576) :
    Calls Tryz.prog 36 #[v, .string (bs sep)] W fun e w' => e = .returned (.string (bs (joinT sep f n))) ∧ Below W.heap.size W w' := by
  rcases h with ⟨rfl, rfl, hM⟩ | ⟨b, c, F, rfl, hb, hc, hF, hM⟩
  · exact joinS_none _ _ _ _
  · exact join_any b n (c * 1) c f F sep m hf hm hn (by omega) (fun k hk => hF k (by omega)) hc W (hM.ats 0 _ _ _ rfl)
end Go.Proofs.YtaaphdbaocjecaaGreatDoor

/-
  PLAIN LAWS: the first k of a list.
-/
namespace Go.Proofs.YtaaphdbaocjecaaGreatDoor
open Go Go.RowKit

theorem run_cutTo {P : Program} {t e : TypeId} (hu : P.underlying t = some (.slice e)) {m : Nat} (hz : (P.info? e).map (·.size) = some m) (b off n c k : Nat) (hk : k ≤ c) (W : World) :
    (Instr.sliceAt t (.slice (some ⟨b, off, none⟩) n c) none (some (.int .i64 k)) none).run P W = .ok (.slice (some ⟨b, off, none⟩) k c) W := by
  obtain ⟨ie, hie, hq⟩ := Option.map_eq_some_iff.1 hz
  have hle : (k : Int) ≤ c := by omega
  have hb1 : (Instr.sliceBound (.int .i64 k) c .sliceAcap).run P W = .ok k W := by
    simp [Instr.sliceBound, asIntOf, hle]
  have hr : (Instr.slice t (.slice (some ⟨b, off, none⟩) n c) none (some (.int .i64 k)) none).run P W = .ok (.slice (some ⟨b, off, none⟩) k c) W := by
    simp [Instr.slice, Instr.sliceBounds, run_underlying hu, sizeOf, typeInfo, hie, hq, hb1, add_any]
  unfold Instr.sliceAt
  simp only [Sem.run_bind, run_underlying hu, Result.andThen_ok, hr]
end Go.Proofs.YtaaphdbaocjecaaGreatDoor

/-
  impl.ValidSights, spec.ValidSights by contracts; laws.FnExactValidSights returns true.
-/
namespace Go.Proofs.YtaaphdbaocjecaaGreatDoor
open Go Go.RowKit Go.BigFrame

/-- The day of the sight before the k-th one, 0 at the first. -/
def lastD (hs : Nat → Nat → Int) (k : Nat) : Int := if k = 0 then 0 else hs (k - 1) 0
theorem lastD_succ (hs : Nat → Nat → Int) (k : Nat) : lastD hs (k + 1) = hs k 0 := by simp [lastD]
theorem dayB_last {hs : Nat → Nat → Int} {k : Nat} (hall : ∀ j, j < k → dayB hs j = true) (h1 : ¬ hs k 0 < lastD hs k) (h2 : ¬ 1000 < hs k 0) : dayB hs k = true := by
  unfold lastD at h1
  by_cases h0 : k = 0
  · subst h0; simp at h1; exact dayB_first (inB_yes ⟨by omega, by omega⟩)
  · rw [if_neg h0] at h1
    have := hall (k - 1) (by omega)
    unfold dayB at this
    rw [Bool.and_eq_true] at this
    have := inB_true this.1
    exact dayB_up (inB_yes ⟨by omega, by omega⟩) h1
theorem dayB_less {hs : Nat → Nat → Int} {k : Nat} (h1 : hs k 0 < lastD hs k) : dayB hs k = false := by
  unfold lastD at h1
  by_cases h0 : k = 0
  · subst h0; simp at h1; exact dayB_range (inB_no (by omega))
  · rw [if_neg h0] at h1; exact dayB_down h0 h1
theorem dayB_more {hs : Nat → Nat → Int} {k : Nat} (h1 : 1000 < hs k 0) : dayB hs k = false := dayB_range (inB_no (by omega))
theorem lay_sight (z : Nat → Value) (hs : Nat → Nat → Int) (k : Nat) : ∀ j, j < 3 → lay z 0 3 (fun i => sSight hs (k * 3 + i)) j = vSight (hs k) j := fun j hj => by
  simp only [lay, Nat.zero_add, Nat.sub_zero]
  rw [if_pos ⟨by omega, hj⟩]
  exact sSight_row hs k j hj

set_option maxRecDepth 100000 in
set_option maxHeartbeats 4000000 in
theorem implValidSights_anyG (g : Nat → Int) (hg : Fits g) (b n c : Nat) (hs : Nat → Nat → Int) (hF : ∀ i, i < n → FitsSight (hs i)) (hn : n ≤ 1048576) (w : World) (N : Nat) (G : Nat → Value) (hG : ∀ j, j < n * 3 → G j = sSight hs j) (hN : n * 3 ≤ N) (hB : At w b N G) :
    Calls Tryz.prog 42 #[.agg (arr 122 (pas g)), .slice (some ⟨b, 0, none⟩) n c] w fun e w' => e = .returned (.bool (sightsB g n hs)) ∧ Below w.heap.size w w' := by
  have hM : Mem w [(b, N, G)] w := (Mem.nil w).old hB (fun i p h => by simp at h)
  have HG := Lib.hid hG
  clear hG
  have hv : ∀ W, Calls Tryz.prog 55 #[.agg (arr 122 (pas g))] W fun e w' => e = .returned (.bool (okB g)) ∧ Below W.heap.size W w' := fun W => by
    rw [okB_eq]; exact implValid_any g hg W
  have Hv := Lib.hid hv
  have HF := Lib.hid hF
  clear hv hB hF
  have tk_b1 : True := trivial; have tk_q1 : True := trivial
  cases ho : okB g
  · have Hp := Lib.hid (sightsB_ok (n := n) (hs := hs) ho)
    have Ho := Lib.hid ho
    clear ho
    go_enter Tryz.func42, Tryz.ntmps42
    go_wp2_with (first | (go_at_call 55; (with_reducible refine (Hv.out _).mono ?_); rintro e W' ⟨rfl, hb'⟩; rw [Ho.out]; have hM' := hM.call hb'; clear hM hb'; have hM := hM'; clear hM') | (have _t := tk_b1; refine wpList_box rfl _ _ rfl _ _ rfl hM ?_; intro b1 W' hb1 hM'; clear hM tk_b1; have hM := hM'; clear hM') | (have _t := tk_q1; (refine wpList_get rfl _ _ rfl _ _ rfl hM 0 rfl (rowTab _ _ rfl) (by omega) ?_); clear tk_q1))
    go_ret
    exact ⟨ret_bool Hp.out.symm, hM.below⟩
  have Ho := Lib.hid ho
  clear ho
  by_cases h40 : 40 < n
  · have Hp : Hid (sightsB g n hs = false) := Lib.hid (sightsB_seen (by unfold seenB; rw [decide_eq_false (show ¬ n ≤ 40 by omega), Bool.and_false]))
    have hz : 40 < (n : Int) := by omega
    go_enter Tryz.func42, Tryz.ntmps42
    go_wp2_with (first | (go_at_call 55; (with_reducible refine (Hv.out _).mono ?_); rintro e W' ⟨rfl, hb'⟩; rw [Ho.out]; have hM' := hM.call hb'; clear hM hb'; have hM := hM'; clear hM') | (have _t := tk_b1; refine wpList_box rfl _ _ rfl _ _ rfl hM ?_; intro b1 W' hb1 hM'; clear hM tk_b1; have hM := hM'; clear hM') | (have _t := tk_q1; (refine wpList_get rfl _ _ rfl _ _ rfl hM 0 rfl (rowTab _ _ rfl) (by omega) ?_); clear tk_q1))
    go_ret
    exact ⟨ret_bool Hp.out.symm, hM.below⟩
  have hz : ¬ 40 < (n : Int) := by omega
  go_enter Tryz.func42, Tryz.ntmps42
  go_wp2_with (first | (go_at_call 55; (with_reducible refine (Hv.out _).mono ?_); rintro e W' ⟨rfl, hb'⟩; rw [Ho.out]; have hM' := hM.call hb'; clear hM hb'; have hM := hM'; clear hM') | (have _t := tk_b1; refine wpList_box rfl _ _ rfl _ _ rfl hM ?_; intro b1 W' hb1 hM'; clear hM tk_b1; have hM := hM'; clear hM') | (have _t := tk_q1; (refine wpList_get rfl _ _ rfl _ _ rfl hM 0 rfl (rowTab _ _ rfl) (by omega) ?_); clear tk_q1))
  go_loopw [5, 18] (fun l i wr => ∃ k : Nat, k ≤ n ∧ l = .int .i16 (lastD hs k) ∧ i = .int .i64 k ∧ Hid (∀ j, j < k → dayB hs j = true) ∧ Hid (∀ j, j < k → isB g (hs j 1) (hs j 2) = true) ∧ Mem w [(b1, 122, pas g), (b, N, G)] wr) (fun _ i _ => n - (intOf i).toNat)
  case atStart => exact ⟨0, by omega, rfl, rfl, Lib.hid (fun j hj => absurd hj (by omega)), Lib.hid (fun j hj => absurd hj (by omega)), hM⟩
  case round =>
    clear hM
    obtain ⟨k, hk, rfl, rfl, hday, hcell, hM⟩ := hrel
    by_cases hlt : k < n
    · have l2 : (k : Int) < n := by omega
      have eG : arr 3 (fun j => G (k * 3 + j)) = arr 3 (vSight (hs k)) := arr_congr fun j hj => by rw [HG.out _ (by omega), sSight_row _ _ _ hj]
      generalize hL : lastD hs k = L
      have tk_b3 : True := trivial; have tk_r1 : True := trivial; have tk_r2 : True := trivial
      have e0 : vSight (hs k) 0 = .int .i16 (hs k 0) := rfl
      have e2 : arr 2 (fun j => vSight (hs k) (1 + j)) = arr 2 (sp (hs k 1) (hs k 2)) := spSight1 (hs k)
      by_cases h1 : hs k 0 < L
      · have Hx := Lib.hid (dayB_less (hs := hs) (k := k) (by rw [hL]; exact h1))
        have d1 : decide (hs k 0 < L) = true := decide_eq_true h1
        go_wp2_with (first | (have _t := tk_r1; (refine wpList_get rfl _ _ rfl _ _ rfl hM 1 rfl rowSight (by omega) ?_); rw [eG]; clear tk_r1) | (have _t := tk_b3; refine wpList_zero rfl _ rfl zeroSight hM ?_; intro b3 W' hb3 hM'; clear hM tk_b3; have hM := hM'; clear hM') | (have _t := tk_r2; (refine wpList_lay rfl _ _ _ rfl _ _ rfl _ _ rfl hM 0 rfl (by assumption) rowSight (by omega) (fun _ _ => rfl) ?_; intro W' hM'; clear hM; have hM := hM'; clear hM'; simp only [List.set] at hM; have hM1 := hM.re 0 rfl (vSight (hs k)) (fun j hj => by simp [lay, hj]); simp only [List.set_cons_zero] at hM1; clear hM; have hM := hM1; clear hM1); clear tk_r2) | (refine wpList_get1 rfl _ _ rfl _ _ rfl hM 0 rfl (cellTab _ rfl) (by omega) _ e0 ?_))
        go_ret
        exact ⟨ret_bool (sightsB_seen (seenB_no hlt Hx.out)).symm, hM.below⟩
      have d1 : decide (hs k 0 < L) = false := decide_eq_false h1
      by_cases h2 : 1000 < hs k 0
      · have Hx := Lib.hid (dayB_more (hs := hs) (k := k) h2)
        have d2 : decide (1000 < hs k 0) = true := decide_eq_true h2
        go_wp2_with (first | (have _t := tk_r1; (refine wpList_get rfl _ _ rfl _ _ rfl hM 1 rfl rowSight (by omega) ?_); rw [eG]; clear tk_r1) | (have _t := tk_b3; refine wpList_zero rfl _ rfl zeroSight hM ?_; intro b3 W' hb3 hM'; clear hM tk_b3; have hM := hM'; clear hM') | (have _t := tk_r2; (refine wpList_lay rfl _ _ _ rfl _ _ rfl _ _ rfl hM 0 rfl (by assumption) rowSight (by omega) (fun _ _ => rfl) ?_; intro W' hM'; clear hM; have hM := hM'; clear hM'; simp only [List.set] at hM; have hM1 := hM.re 0 rfl (vSight (hs k)) (fun j hj => by simp [lay, hj]); simp only [List.set_cons_zero] at hM1; clear hM; have hM := hM1; clear hM1); clear tk_r2) | (refine wpList_get1 rfl _ _ rfl _ _ rfl hM 0 rfl (cellTab _ rfl) (by omega) _ e0 ?_) | (refine wpList_gget1 ?_ _ _ rfl _ _ rfl hM 0 rfl (cellTab _ rfl) (by omega) _ e0 ?_; kernel_rfl))
        go_ret
        exact ⟨ret_bool (sightsB_seen (seenB_no hlt Hx.out)).symm, hM.below⟩
      have d2 : decide (1000 < hs k 0) = false := decide_eq_false h2
      have Hx := Lib.hid (dayB_last hday.out (by rw [hL]; exact h1) h2)
      cases he : isB g (hs k 1) (hs k 2)
      all_goals
        have He := Lib.hid he
        clear he
        go_wp2_with (first | (have _t := tk_r1; (refine wpList_get rfl _ _ rfl _ _ rfl hM 1 rfl rowSight (by omega) ?_); rw [eG]; clear tk_r1) | (have _t := tk_b3; refine wpList_zero rfl _ rfl zeroSight hM ?_; intro b3 W' hb3 hM'; clear hM tk_b3; have hM := hM'; clear hM') | (have _t := tk_r2; (refine wpList_lay rfl _ _ _ rfl _ _ rfl _ _ rfl hM 0 rfl (by assumption) rowSight (by omega) (fun _ _ => rfl) ?_; intro W' hM'; clear hM; have hM := hM'; clear hM'; simp only [List.set] at hM; have hM1 := hM.re 0 rfl (vSight (hs k)) (fun j hj => by simp [lay, hj]); simp only [List.set_cons_zero] at hM1; clear hM; have hM := hM1; clear hM1); clear tk_r2) | (refine wpList_get1 rfl _ _ rfl _ _ rfl hM 0 rfl (cellTab _ rfl) (by omega) _ e0 ?_) | (refine wpList_gget1 ?_ _ _ rfl _ _ rfl hM 0 rfl (cellTab _ rfl) (by omega) _ e0 ?_; kernel_rfl) | (refine wpList_gget ?_ _ _ rfl _ _ rfl hM 1 rfl (rowTab _ _ rfl) (by omega) ?_; kernel_rfl) | ((refine wpList_gget ?_ _ _ rfl _ _ rfl hM 0 rfl (rowTab _ 2 rfl) (by omega) ?_; kernel_rfl); rw [e2]) | (go_at_call 34; (with_reducible refine (hasCell_any g (hs k 1) (hs k 2) _).mono ?_); rintro e W' ⟨rfl, hb'⟩; rw [He.out]; have hM' := hM.call hb'; clear hM hb'; have hM := hM'; clear hM'))
      · go_ret
        exact ⟨ret_bool (sightsB_no hlt He.out).symm, hM.below⟩
      · go_roundw
        case rel => exact ⟨k + 1, by omega, by rw [lastD_succ], by go_num, Lib.hid (fun j hj => by
          by_cases e : j = k
          · rw [e]; exact Hx.out
          · exact hday.out j (by omega)), Lib.hid (fun j hj => by
          by_cases e : j = k
          · rw [e]; exact He.out
          · exact hcell.out j (by omega)), hM.drop⟩
        case measure => simp [intOf]; omega
    · obtain rfl : k = n := by omega
      go_wp2
      go_ret
      exact ⟨ret_bool (sightsB_yes Ho.out (by rw [seenB_all hday.out]; exact decide_eq_true (by omega)) hcell.out).symm, hM.below⟩

theorem implValidSights_any (g : Nat → Int) (hg : Fits g) (b n c : Nat) (hs : Nat → Nat → Int) (hF : ∀ i, i < n → FitsSight (hs i)) (hn : n ≤ 1048576) (w : World) (hB : At w b (n * 3) (sSight hs)) :
    Calls Tryz.prog 42 #[.agg (arr 122 (pas g)), .slice (some ⟨b, 0, none⟩) n c] w fun e w' => e = .returned (.bool (sightsB g n hs)) ∧ Below w.heap.size w w' :=
  implValidSights_anyG g hg b n c hs hF hn w (n * 3) (sSight hs) (fun _ _ => rfl) (Nat.le_refl _) hB
end Go.Proofs.YtaaphdbaocjecaaGreatDoor

