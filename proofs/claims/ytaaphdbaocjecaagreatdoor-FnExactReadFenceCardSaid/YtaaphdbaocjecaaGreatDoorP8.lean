/-
  Several texts in one: HasCell, FenceW, ReadFeM, ReadFeI, WordsFe, Words, Cat, GivesR, FenceTI, ReadFeX.
-/
import Derived.Lib.Hide
import Derived.Test.YtaaphdbaocjecaaGreatDoorP2
import Derived.Test.YtaaphdbaocjecaaGreatDoorP7
import Derived.Test.YtaaphdbaocjecaaGreatDoorP3
import Derived.Test.YtaaphdbaocjecaaGreatDoorP5
/-
  (impl.Pasture).hasCell by contract.
-/
namespace Go.Proofs.YtaaphdbaocjecaaGreatDoor
open Go Go.RowKit Go.BigFrame

set_option maxHeartbeats 4000000 in
theorem hasCell_any (g : Nat → Int) (x y : Int) (w : World) :
    Calls Tryz.prog 34 #[.agg (arr 122 (pas g)), .agg (arr 2 (sp x y))] w fun e w' => e = .returned (.bool (isB g x y)) ∧ Below w.heap.size w w' := by
  have hM := Mem.nil w
  have e0 : pas g 0 = .int .i8 (g 0) := rfl
  have e1 : pas g 1 = .int .i8 (g 1) := rfl
  have e2 : sp x y 0 = .int .i8 x := rfl
  have e3 : sp x y 1 = .int .i8 y := rfl
  have tk_b1 : True := trivial; have tk_b2 : True := trivial
  rcases (show x < 0 ∨ (0 ≤ x ∧ g 0 ≤ x) ∨ (0 ≤ x ∧ x < g 0) by omega) with r0 | ⟨r0, r1⟩ | ⟨r0, r1⟩
  · have hf : Hid (isB g x y = false) := Lib.hid (by simp [isB, inB_no (show ¬ (0 ≤ x ∧ x ≤ g 0 - 1) by omega)])
    have d0 : decide (0 ≤ x) = false := decide_eq_false (by omega)
    clear r0
    go_enter Tryz.func34, Tryz.ntmps34
    go_wp2_with (first | (have _t := tk_b1; refine wpList_box rfl _ _ rfl _ _ rfl hM ?_; intro b1 W' hb1 hM'; clear hM tk_b1; have hM := hM'; clear hM') | (have _t := tk_b2; refine wpList_box rfl _ _ rfl _ _ rfl hM ?_; intro b2 W' hb2 hM'; clear hM tk_b2; have hM := hM'; clear hM') | (refine wpList_get1 rfl _ _ rfl _ _ rfl hM 0 rfl (cellTab _ rfl) (by omega) _ rfl ?_) | (refine wpList_get1 rfl _ _ rfl _ _ rfl hM 1 rfl (cellTab _ rfl) (by omega) _ rfl ?_) | (refine wpList_gget1 ?_ _ _ rfl _ _ rfl hM 0 rfl (cellTab _ rfl) (by omega) _ rfl ?_; kernel_rfl) | (refine wpList_gget1 ?_ _ _ rfl _ _ rfl hM 1 rfl (cellTab _ rfl) (by omega) _ rfl ?_; kernel_rfl))
    go_ret
    exact ⟨ret_bool hf.out.symm, hM.below⟩
  · have hf : Hid (isB g x y = false) := Lib.hid (by simp [isB, inB_no (show ¬ (0 ≤ x ∧ x ≤ g 0 - 1) by omega)])
    have d0 : decide (0 ≤ x) = true := decide_eq_true (by omega)
    have d1 : decide (x < g 0) = false := decide_eq_false (by omega)
    clear r0 r1
    go_enter Tryz.func34, Tryz.ntmps34
    go_wp2_with (first | (have _t := tk_b1; refine wpList_box rfl _ _ rfl _ _ rfl hM ?_; intro b1 W' hb1 hM'; clear hM tk_b1; have hM := hM'; clear hM') | (have _t := tk_b2; refine wpList_box rfl _ _ rfl _ _ rfl hM ?_; intro b2 W' hb2 hM'; clear hM tk_b2; have hM := hM'; clear hM') | (refine wpList_get1 rfl _ _ rfl _ _ rfl hM 0 rfl (cellTab _ rfl) (by omega) _ rfl ?_) | (refine wpList_get1 rfl _ _ rfl _ _ rfl hM 1 rfl (cellTab _ rfl) (by omega) _ rfl ?_) | (refine wpList_gget1 ?_ _ _ rfl _ _ rfl hM 0 rfl (cellTab _ rfl) (by omega) _ rfl ?_; kernel_rfl) | (refine wpList_gget1 ?_ _ _ rfl _ _ rfl hM 1 rfl (cellTab _ rfl) (by omega) _ rfl ?_; kernel_rfl))
    go_ret
    exact ⟨ret_bool hf.out.symm, hM.below⟩
  have d0 : decide (0 ≤ x) = true := decide_eq_true (by omega)
  have d1 : decide (x < g 0) = true := decide_eq_true (by omega)
  have q0 := inB_yes (show 0 ≤ x ∧ x ≤ g 0 - 1 by omega)
  clear r0 r1
  rcases (show y < 0 ∨ (0 ≤ y ∧ g 1 ≤ y) ∨ (0 ≤ y ∧ y < g 1) by omega) with r0 | ⟨r0, r1⟩ | ⟨r0, r1⟩
  · have hf : Hid (isB g x y = false) := Lib.hid (by simp [isB, inB_no (show ¬ (0 ≤ y ∧ y ≤ g 1 - 1) by omega)])
    have d2 : decide (0 ≤ y) = false := decide_eq_false (by omega)
    clear r0 q0
    go_enter Tryz.func34, Tryz.ntmps34
    go_wp2_with (first | (have _t := tk_b1; refine wpList_box rfl _ _ rfl _ _ rfl hM ?_; intro b1 W' hb1 hM'; clear hM tk_b1; have hM := hM'; clear hM') | (have _t := tk_b2; refine wpList_box rfl _ _ rfl _ _ rfl hM ?_; intro b2 W' hb2 hM'; clear hM tk_b2; have hM := hM'; clear hM') | (refine wpList_get1 rfl _ _ rfl _ _ rfl hM 0 rfl (cellTab _ rfl) (by omega) _ rfl ?_) | (refine wpList_get1 rfl _ _ rfl _ _ rfl hM 1 rfl (cellTab _ rfl) (by omega) _ rfl ?_) | (refine wpList_gget1 ?_ _ _ rfl _ _ rfl hM 0 rfl (cellTab _ rfl) (by omega) _ rfl ?_; kernel_rfl) | (refine wpList_gget1 ?_ _ _ rfl _ _ rfl hM 1 rfl (cellTab _ rfl) (by omega) _ rfl ?_; kernel_rfl))
    go_ret
    exact ⟨ret_bool hf.out.symm, hM.below⟩
  · have hf : Hid (isB g x y = false) := Lib.hid (by simp [isB, inB_no (show ¬ (0 ≤ y ∧ y ≤ g 1 - 1) by omega)])
    have d2 : decide (0 ≤ y) = true := decide_eq_true (by omega)
    have d3 : decide (y < g 1) = false := decide_eq_false (by omega)
    clear r0 r1 q0
    go_enter Tryz.func34, Tryz.ntmps34
    go_wp2_with (first | (have _t := tk_b1; refine wpList_box rfl _ _ rfl _ _ rfl hM ?_; intro b1 W' hb1 hM'; clear hM tk_b1; have hM := hM'; clear hM') | (have _t := tk_b2; refine wpList_box rfl _ _ rfl _ _ rfl hM ?_; intro b2 W' hb2 hM'; clear hM tk_b2; have hM := hM'; clear hM') | (refine wpList_get1 rfl _ _ rfl _ _ rfl hM 0 rfl (cellTab _ rfl) (by omega) _ rfl ?_) | (refine wpList_get1 rfl _ _ rfl _ _ rfl hM 1 rfl (cellTab _ rfl) (by omega) _ rfl ?_) | (refine wpList_gget1 ?_ _ _ rfl _ _ rfl hM 0 rfl (cellTab _ rfl) (by omega) _ rfl ?_; kernel_rfl) | (refine wpList_gget1 ?_ _ _ rfl _ _ rfl hM 1 rfl (cellTab _ rfl) (by omega) _ rfl ?_; kernel_rfl))
    go_ret
    exact ⟨ret_bool hf.out.symm, hM.below⟩
  · have hf : Hid (isB g x y = true) := Lib.hid (by simp [isB, q0, inB_yes (show 0 ≤ y ∧ y ≤ g 1 - 1 by omega)])
    have d2 : decide (0 ≤ y) = true := decide_eq_true (by omega)
    have d3 : decide (y < g 1) = true := decide_eq_true (by omega)
    clear r0 r1 q0
    go_enter Tryz.func34, Tryz.ntmps34
    go_wp2_with (first | (have _t := tk_b1; refine wpList_box rfl _ _ rfl _ _ rfl hM ?_; intro b1 W' hb1 hM'; clear hM tk_b1; have hM := hM'; clear hM') | (have _t := tk_b2; refine wpList_box rfl _ _ rfl _ _ rfl hM ?_; intro b2 W' hb2 hM'; clear hM tk_b2; have hM := hM'; clear hM') | (refine wpList_get1 rfl _ _ rfl _ _ rfl hM 0 rfl (cellTab _ rfl) (by omega) _ rfl ?_) | (refine wpList_get1 rfl _ _ rfl _ _ rfl hM 1 rfl (cellTab _ rfl) (by omega) _ rfl ?_) | (refine wpList_gget1 ?_ _ _ rfl _ _ rfl hM 0 rfl (cellTab _ rfl) (by omega) _ rfl ?_; kernel_rfl) | (refine wpList_gget1 ?_ _ _ rfl _ _ rfl hM 1 rfl (cellTab _ rfl) (by omega) _ rfl ?_; kernel_rfl))
    go_ret
    exact ⟨ret_bool hf.out.symm, hM.below⟩

theorem sp_of {f : Nat → Value} {x y : Int} (h0 : f 0 = .int .i8 x) (h1 : f 1 = .int .i8 y) : arr 2 f = arr 2 (sp x y) := arr_congr fun k hk => by
  rcases (show k = 0 ∨ k = 1 by omega) with rfl | rfl
  · exact h0
  · exact h1
/-- The same over any two cells that hold the spot. -/
theorem hasCell_of (g : Nat → Int) (f : Nat → Value) (x y : Int) (h0 : f 0 = .int .i8 x) (h1 : f 1 = .int .i8 y) (w : World) :
    Calls Tryz.prog 34 #[.agg (arr 122 (pas g)), .agg (arr 2 f)] w fun e w' => e = .returned (.bool (isB g x y)) ∧ Below w.heap.size w w' := by
  rw [sp_of h0 h1]
  exact hasCell_any g x y w
end Go.Proofs.YtaaphdbaocjecaaGreatDoor

/-
  The text of a fence; (impl.Hurdle).word by contract.
-/
namespace Go.Proofs.YtaaphdbaocjecaaGreatDoor
open Go Go.RowKit Go.BigFrame

def sepB (s : Bool) : UInt8 := if s then 95 else 124
def fenceW (hs : Nat → Nat → Int) (k : Nat) : List UInt8 := spotT (hs k 0) (hs k 1) ++ [sepB (hs k 2 == 1)]
def hurP (h : Nat → Int) : Bool := isB gMost (h 0) (h 1)
def fenceA (n : Nat) (hs : Nat → Nat → Int) : Bool := decide (n ≤ 180) && (List.range n).all fun i => hurP (hs i)
def fenceT (n : Nat) (hs : Nat → Nat → Int) : List UInt8 := if fenceA n hs then joinT [32] (fenceW hs) n else []
theorem fenceT_no {n k : Nat} {hs : Nat → Nat → Int} (hk : k < n) (h : hurP (hs k) = false) : fenceT n hs = [] := by
  have : ((List.range n).all fun i => hurP (hs i)) = false := by rw [List.all_eq_false]; exact ⟨k, by simpa using hk, by rw [h]; decide⟩
  unfold fenceT fenceA; rw [this, Bool.and_false]; rfl
theorem fenceT_many {n : Nat} {hs : Nat → Nat → Int} (h : 180 < n) : fenceT n hs = [] := by
  unfold fenceT fenceA; rw [decide_eq_false (by omega)]; rfl
theorem fenceT_yes {n : Nat} {hs : Nat → Nat → Int} (hn : n ≤ 180) (h : ∀ k, k < n → hurP (hs k) = true) : fenceT n hs = joinT [32] (fenceW hs) n := by
  have : ((List.range n).all fun i => hurP (hs i)) = true := by rw [List.all_eq_true]; intro i hi; exact h i (by simpa using hi)
  unfold fenceT fenceA; rw [this, decide_eq_true hn]; rfl
theorem hurP_most {h : Nat → Int} (hb : hurP h = true) : (0 ≤ h 0 ∧ h 0 ≤ 9) ∧ (0 ≤ h 1 ∧ h 1 ≤ 9) := by
  unfold hurP at hb
  simp only [Bool.and_eq_true, isB_most] at hb
  exact ⟨inB_true hb.1, inB_true hb.2⟩
theorem fenceW_len {hs : Nat → Nat → Int} {k : Nat} (h : hurP (hs k) = true) : (fenceW hs k).length ≤ 32 := by
  obtain ⟨h0, h1⟩ := hurP_most h
  have := spotT_len (x := hs k 0) (y := hs k 1) (by omega) (by omega)
  simp [fenceW]; omega

set_option maxHeartbeats 400000 in
theorem word_any (h : Nat → Int) (hb : hurP h = true) (w : World) (hT : TabP w) :
    Calls Tryz.prog 35 #[.agg (arr 3 (vHurdle h))] w fun e w' => e = .returned (.string (bs (spotT (h 0) (h 1) ++ [sepB (h 2 == 1)]))) ∧ Below w.heap.size w w' := by
  have hM := Mem.nil w
  obtain ⟨⟨x0, x1⟩, y0, y1⟩ := hurP_most hb
  have HT := Lib.hid hT
  have e2 : vHurdle h 2 = .bool (h 2 == 1) := rfl
  have e1 : arr 2 (fun j => vHurdle h (0 + j)) = arr 2 (sp (h 0) (h 1)) := spHurdle0 h
  have lx := spotT_len (x := h 0) (y := h 1) (by omega) (by omega)
  have HX := Lib.hid (fun (W : World) (hT : TabP W) => spotText_any (h 0) (h 1) ⟨x0, by omega⟩ ⟨y0, by omega⟩ W hT)
  obtain ⟨v, hv⟩ : ∃ v, spotT (h 0) (h 1) = v := ⟨_, rfl⟩
  obtain ⟨s, hs⟩ : ∃ s, (h 2 == 1) = s := ⟨_, rfl⟩
  rw [hs] at e2
  rw [hv] at lx HX
  rw [hv, hs]
  clear hT hv hs hb
  have tk_b1 : True := trivial
  cases s
  all_goals
    go_enter Tryz.func35, Tryz.ntmps35
    go_wp2_with (first | (have _t := tk_b1; refine wpList_box rfl _ _ rfl _ _ rfl hM ?_; intro b1 W' hb1 hM'; clear hM tk_b1; have hM := hM'; clear hM') | (refine wpList_get1 rfl _ _ rfl _ _ rfl hM 0 rfl (cellTab _ rfl) (by omega) _ e2 ?_) | ((refine wpList_get rfl _ _ rfl _ _ rfl hM 0 rfl (rowTab _ 2 rfl) (by omega) ?_); rw [e1]) | (go_at_call 44; (with_reducible refine (HX.out _ (HT.out.below hM.below)).mono ?_); rintro e W' ⟨rfl, hb'⟩; have hM' := hM.call hb'; clear hM hb'; have hM := hM'; clear hM') | (refine wpList_cat rfl _ _ rfl _ _ rfl rfl (by simp only [List.length_append, List.length_cons, List.length_nil]; omega) ?_))
    go_ret
    exact ⟨rfl, hM.below⟩
end Go.Proofs.YtaaphdbaocjecaaGreatDoor

/-
  What a text of a fence tells.
-/
namespace Go.Proofs.YtaaphdbaocjecaaGreatDoor
open Go Go.RowKit Go.BigFrame

theorem sepB_dig (s : Bool) : isD (sepB s) = false := by cases s <;> rfl
theorem fenceW_free {c : UInt8} (h : isD c = false) (h2 : c ≠ 44) (h3 : ∀ s, c ≠ sepB s) (hs : Nat → Nat → Int) (k : Nat) : c ∉ fenceW hs k := by
  intro e
  unfold fenceW at e
  rcases List.mem_append.1 e with e | e
  · exact spotT_free h h2 _ _ e
  · simp at e; exact h3 _ e
theorem fenceW_ne (hs : Nat → Nat → Int) (k : Nat) : fenceW hs k ≠ [] := by unfold fenceW; simp
theorem sepB_inj {a b : Bool} (h : sepB a = sepB b) : a = b := by cases a <;> cases b <;> first | rfl | (exact absurd h (by decide))
theorem fenceW_inj {hs gs : Nat → Nat → Int} {k : Nat} (h1 : hurP (hs k) = true) (h2 : hurP (gs k) = true) (h : fenceW hs k = fenceW gs k) : hs k 0 = gs k 0 ∧ hs k 1 = gs k 1 ∧ (hs k 2 == 1) = (gs k 2 == 1) := by
  unfold fenceW at h
  obtain ⟨e1, e2⟩ := List.append_inj' h rfl
  have a1 := hurP_most h1
  have a2 := hurP_most h2
  obtain ⟨a, b⟩ := spotT_inj a1.1.1 a1.2.1 a2.1.1 a2.2.1 e1
  exact ⟨a, b, sepB_inj (by simpa using e2)⟩
/-- A text tells this fence. -/
def TellsF (l : List UInt8) (n : Nat) (hs : Nat → Nat → Int) : Prop := n ≤ 180 ∧ (∀ i, i < n → hurP (hs i) = true) ∧ l = joinT [32] (fenceW hs) n
theorem fenceW_32 (hs : Nat → Nat → Int) (k : Nat) : (32 : UInt8) ∉ fenceW hs k := fenceW_free (by decide) (by decide) (fun s => by cases s <;> decide) hs k
theorem TellsF.parts {l : List UInt8} {n : Nat} {hs : Nat → Nat → Int} (h : TellsF l n hs) (h0 : 0 < n) : partsC 32 l = (List.range n).map (fenceW hs) := by
  rw [h.2.2]; exact partsC_joinT h0 (fun k _ => fenceW_32 hs k)
theorem TellsF.zero {l : List UInt8} {n : Nat} {hs : Nat → Nat → Int} (h : TellsF l n hs) : n = 0 ↔ l = [] := by
  constructor
  · rintro rfl; exact h.2.2
  · intro e
    rcases Nat.eq_zero_or_pos n with h0 | h0
    · exact h0
    · have hp := h.parts h0
      rw [e] at hp
      have h1 : (partsC 32 ([] : List UInt8))[0]? = some [] := rfl
      rw [hp] at h1
      simp [h0] at h1
      exact absurd h1 (fenceW_ne hs 0)
theorem TellsF.uniq {l : List UInt8} {n m : Nat} {hs gs : Nat → Nat → Int} (h : TellsF l n hs) (k : TellsF l m gs) : n = m ∧ ∀ i, i < n → hs i 0 = gs i 0 ∧ hs i 1 = gs i 1 ∧ (hs i 2 == 1) = (gs i 2 == 1) := by
  rcases Nat.eq_zero_or_pos n with h0 | h0
  · have : m = 0 := k.zero.2 (h.zero.1 h0)
    exact ⟨by omega, fun i hi => absurd hi (by omega)⟩
  · have m0 : 0 < m := by
      rcases Nat.eq_zero_or_pos m with e | e
      · exact absurd (h.zero.2 (k.zero.1 e)) (by omega)
      · exact e
    have hj := h.2.2.symm.trans k.2.2
    obtain ⟨e, hw⟩ := joinT_inj h0 m0 (fun i _ => fenceW_32 hs i) (fun i _ => fenceW_32 gs i) hj
    exact ⟨e, fun i hi => fenceW_inj (h.2.1 i hi) (k.2.1 i (by omega)) (hw i hi)⟩
theorem fenceT_or {n : Nat} {hs : Nat → Nat → Int} : (n ≤ 180 ∧ ∀ i, i < n → hurP (hs i) = true) ∨ fenceT n hs = [] := by
  by_cases hn : n ≤ 180
  · by_cases h : ∀ i, i < n → hurP (hs i) = true
    · exact .inl ⟨hn, h⟩
    · obtain ⟨i, hi⟩ := Classical.not_forall.1 h
      rw [Classical.not_imp] at hi
      exact .inr (fenceT_no hi.1 (by simpa using hi.2))
  · exact .inr (fenceT_many (by omega))
theorem tellsF_text {l : List UInt8} {n : Nat} {hs : Nat → Nat → Int} (h : fenceT n hs = l) (hl : l ≠ []) : TellsF l n hs := by
  rcases fenceT_or (n := n) (hs := hs) with ⟨h1, h2⟩ | h1
  · exact ⟨h1, h2, by rw [← h, fenceT_yes h1 h2]⟩
  · exact absurd (h.symm.trans h1) hl
theorem TellsF.text {l : List UInt8} {n : Nat} {hs : Nat → Nat → Int} (h : TellsF l n hs) : fenceT n hs = l := by rw [fenceT_yes h.1 h.2.1, h.2.2]
end Go.Proofs.YtaaphdbaocjecaaGreatDoor

/-
  What impl's loose parsing makes of a text that tells fences.
-/
namespace Go.Proofs.YtaaphdbaocjecaaGreatDoor
open Go Go.RowKit Go.BigFrame

theorem suffix_snoc (u : List UInt8) (a b : UInt8) : Lib.hasSuffix (u ++ [a]) [b] = decide (a = b) := by
  unfold Lib.hasSuffix
  rw [Bool.eq_iff_iff, List.isSuffixOf_iff_suffix, decide_eq_true_iff]
  constructor
  · rintro ⟨t, e⟩
    have := congrArg List.getLast? e
    simp at this
    exact this.symm
  · rintro rfl
    exact ⟨u, rfl⟩
theorem suffix_free {u : List UInt8} {b : UInt8} (h : b ∉ u) : Lib.hasSuffix u [b] = false := by
  unfold Lib.hasSuffix
  rw [Bool.eq_false_iff]
  intro e
  obtain ⟨t, e⟩ := List.isSuffixOf_iff_suffix.1 e
  apply h
  rw [← e]; simp
theorem trim_yes (u : List UInt8) (a : UInt8) : Lib.trimSuffix (u ++ [a]) [a] = u := by
  unfold Lib.trimSuffix
  rw [suffix_snoc, if_pos (by simp)]
  simp
theorem trim_no {u : List UInt8} {p : List UInt8} (h : Lib.hasSuffix u p = false) : Lib.trimSuffix u p = u := by
  unfold Lib.trimSuffix
  rw [h]; rfl
theorem fh_told {hs : Nat → Nat → Int} {k : Nat} (hb : hurP (hs k) = true) : fhOk (fenceW hs k) = true ∧ fhV (fenceW hs k) 0 = hs k 0 ∧ fhV (fenceW hs k) 1 = hs k 1 ∧ (fhV (fenceW hs k) 2 == 1) = (hs k 2 == 1) := by
  obtain ⟨⟨x0, x1⟩, y0, y1⟩ := hurP_most hb
  obtain ⟨s0, s1, s2⟩ := sp_told (x := hs k 0) (y := hs k 1) (by omega) (by omega)
  have hf : (124 : UInt8) ∉ spotT (hs k 0) (hs k 1) := spotT_free (by decide) (by decide) _ _
  have key : fhP (fenceW hs k) = spotT (hs k 0) (hs k 1) ∧ fhS (fenceW hs k) = (hs k 2 == 1) := by
    unfold fhP fhR fhS fenceW
    cases hs k 2 == 1
    · have e1 : sepB false = 124 := rfl
      rw [e1, suffix_snoc]
      rw [trim_no (p := [95]) (by rw [suffix_snoc]; rfl), trim_yes]
      exact ⟨rfl, rfl⟩
    · have e1 : sepB true = 95 := rfl
      rw [e1, suffix_snoc, trim_yes, trim_no (suffix_free hf)]
      exact ⟨rfl, rfl⟩
  unfold fhOk fhV
  rw [key.1, key.2]
  refine ⟨s0, s1, s2, ?_⟩
  cases hs k 2 == 1 <;> rfl
/-- The words; what they tell loosely. -/
def fhWs (l : List UInt8) : Nat := if l = [] then 0 else (partsC 32 l).length
def fhHs (l : List UInt8) : Nat → Nat → Int := fun j => fhV ((partsC 32 l).getD j [])
def BadF (l : List UInt8) : Prop := l ≠ [] ∧ (180 < (partsC 32 l).length ∨ ∃ j, j < (partsC 32 l).length ∧ fhOk ((partsC 32 l).getD j []) = false)
theorem TellsF.words {l : List UInt8} {m : Nat} {gs : Nat → Nat → Int} (h : TellsF l m gs) (h0 : l ≠ []) : (partsC 32 l).length = m ∧ ∀ j, j < m → (partsC 32 l).getD j [] = fenceW gs j := by
  have hm : 0 < m := by
    rcases Nat.eq_zero_or_pos m with e | e
    · exact absurd (h.zero.1 e) h0
    · exact e
  rw [h.parts hm]
  refine ⟨by simp, fun j hj => ?_⟩
  rw [List.getD_eq_getElem?_getD]
  simp [hj]
theorem BadF.no {l : List UInt8} (h : BadF l) (m : Nat) (gs : Nat → Nat → Int) : ¬ TellsF l m gs := fun k => by
  obtain ⟨e1, e2⟩ := k.words h.1
  rcases h.2 with h2 | ⟨j, hj, h2⟩
  · have := k.1; omega
  · rw [e2 j (by omega), (fh_told (k.2.1 j (by omega))).1] at h2; cases h2
theorem fhHs_told {l : List UInt8} {m : Nat} {gs : Nat → Nat → Int} (k : TellsF l m gs) : fhWs l = m ∧ ∀ j, j < m → fhHs l j 0 = gs j 0 ∧ fhHs l j 1 = gs j 1 ∧ (fhHs l j 2 == 1) = (gs j 2 == 1) := by
  by_cases h0 : l = []
  · have hm : m = 0 := k.zero.2 h0
    subst hm
    exact ⟨by unfold fhWs; rw [if_pos h0], fun j hj => absurd hj (by omega)⟩
  · obtain ⟨e1, e2⟩ := k.words h0
    refine ⟨by unfold fhWs; rw [if_neg h0]; exact e1, fun j hj => ?_⟩
    unfold fhHs
    rw [e2 j hj]
    exact (fh_told (k.2.1 j hj)).2
theorem fenceW_congr {hs gs : Nat → Nat → Int} {k : Nat} (e : hs k 0 = gs k 0 ∧ hs k 1 = gs k 1 ∧ (hs k 2 == 1) = (gs k 2 == 1)) : fenceW hs k = fenceW gs k := by
  unfold fenceW; rw [e.1, e.2.1, e.2.2]
theorem TellsF.same {l : List UInt8} {m : Nat} {gs hs : Nat → Nat → Int} (k : TellsF l m gs) (h : ∀ j, j < m → hs j 0 = gs j 0 ∧ hs j 1 = gs j 1 ∧ (hs j 2 == 1) = (gs j 2 == 1)) : TellsF l m hs :=
  ⟨k.1, fun i hi => by unfold hurP; rw [(h i hi).1, (h i hi).2.1]; exact k.2.1 i hi, by rw [k.2.2]; exact joinT_congr fun j hj => (fenceW_congr (h j hj)).symm⟩
/-- Its text asked: told, or nothing. -/
theorem fhText_yes {l : List UInt8} (h : fenceT (fhWs l) (fhHs l) = l) : TellsF l (fhWs l) (fhHs l) := by
  by_cases h0 : l = []
  · subst h0; exact ⟨by unfold fhWs; simp, fun i hi => absurd hi (by unfold fhWs; simp), rfl⟩
  · exact tellsF_text h h0
theorem fhText_no {l : List UInt8} (h : fenceT (fhWs l) (fhHs l) ≠ l) (m : Nat) (gs : Nat → Nat → Int) : ¬ TellsF l m gs := fun k => by
  obtain ⟨e, hw⟩ := fhHs_told k
  apply h
  rw [e]
  exact (k.same hw).text
end Go.Proofs.YtaaphdbaocjecaaGreatDoor

/-
  impl.parseWords of hurdles by contract.
-/
namespace Go.Proofs.YtaaphdbaocjecaaGreatDoor
open Go Go.RowKit Go.BigFrame

theorem parseHurdle_yes {a : Nat → Addr} (l : List UInt8) (hl : l.length ≤ 1048576) (h : fhOk l = true) (w : World) (hE : PEnv a w) :
    Calls Tryz.prog 19 #[.string (bs l)] w fun e w' => e = .returned (.tuple #[.agg (arr 3 (vHurdle (fhV l))), .nilIface]) ∧ Below w.heap.size w w' := by
  refine (parseHurdle_any l hl w hE).mono ?_
  rintro e w' ⟨v, N, rfl, ⟨-, rfl⟩ | ⟨h2, -⟩, hM, -⟩
  · exact ⟨rfl, hM.below⟩
  · rw [h] at h2; cases h2
theorem parseHurdle_no {a : Nat → Addr} (l : List UInt8) (hl : l.length ≤ 1048576) (h : fhOk l = false) (w : World) (hE : PEnv a w) :
    Calls Tryz.prog 19 #[.string (bs l)] w fun e w' => ∃ t p N, e = .returned (.tuple #[.agg (arr 3 (vHurdle (fhV l))), .iface t (.pointer p)]) ∧ ErrIn a 1 (.iface t (.pointer p)) N ∧ Mem (Base.of w) N w' ∧ ∀ p, p ∈ N → w.heap.size ≤ p.1 := by
  refine (parseHurdle_any l hl w hE).mono ?_
  rintro e w' ⟨v, N, rfl, ⟨h2, -⟩ | ⟨-, h2⟩, hM, hge⟩
  · rw [h] at h2; cases h2
  · obtain ⟨t, p, rfl⟩ := h2.iface
    exact ⟨t, p, N, rfl, h2, hM, hge⟩
theorem hurdle_under : Tryz.prog.underlying 22 = some (.slice 43) := Tryz.underlying22
theorem hurdle_info2 : (Tryz.prog.info? 43).map (fun i => (i.size, i.zero)) = some (3, some (.agg (arr 3 zHurdle))) := by kernel_rfl
theorem hurdle_ones {h : Nat → Int} : ∀ k, k < 3 → (vHurdle h k).oneCell' = true := vHur_one h
/-- What parseWords answers. -/
def PWordsF (a : Nat → Addr) (l : List UInt8) (w : World) (e : Ending) (w' : World) : Prop :=
  (∃ v N, e = .returned (.tuple #[.slice none 0 0, v]) ∧ ErrIn a 1 v N ∧ Mem (Base.of w) N w' ∧ BadF l) ∨
  (∃ v, e = .returned (.tuple #[v, .nilIface]) ∧ Lst (Base.of w) [] 3 v (fhWs l) (sHurdle (fhHs l)) w' ∧ fhWs l ≤ 180)
set_option maxRecDepth 100000 in
set_option maxHeartbeats 4000000 in
theorem parseWordsFe_any {a : Nat → Addr} (l : List UInt8) (hl : l.length ≤ 1048576) (w : World) (hE : PEnv a w) :
    Calls Tryz.prog 18 #[.string (bs l), .int .i64 180, .func (.func 19) #[] #[]] w (PWordsF a l w) := by
  have hM := Mem.nil w
  have HE := Lib.hid hE
  clear hE
  have hemp := bs_isEmpty l
  by_cases h0 : l = []
  · subst h0
    go_enter Tryz.func18, Tryz.ntmps18
    go_wp2
    refine bodyPost_ret (results_tmp2 rfl _ _ _) rfl ?_
    exact .inr ⟨_, rfl, .inl ⟨rfl, rfl, hM⟩, by unfold fhWs; simp⟩
  have hne : (bs l).toList.isEmpty = false := by
    rw [hemp]; cases l with
    | nil => exact absurd rfl h0
    | cons a r => rfl
  have H0 := Lib.hid h0
  clear hemp h0
  by_cases hmany : 180 < (partsC 32 l).length
  · have Hb := Lib.hid (show BadF l from ⟨H0.out, .inl hmany⟩)
    have hlen : (wordsN 32 181 l).length = 181 := by
      by_cases h13 : (partsC 32 l).length ≤ 181
      · rw [wordsN_few (by omega) h13]; omega
      · exact wordsN_many (by omega) (by omega)
    have HN := Lib.hid (fun (W : World) (h : MaxP W) => splitN_any l 32 181 hl (by omega) (by omega) W h)
    rw [hlen] at HN
    clear hlen hmany
    go_enter Tryz.func18, Tryz.ntmps18
    go_wp2_with (first | (go_at_call 29; refine (HN.out _ (HE.out.max.below hM.below)).mono ?_; rintro e W' ⟨wb, N, F, rfl, hwb, hnN, hF, hA', hcb⟩; have hM' := hM.call hcb; clear hM hwb hnN hF hA' hcb; have hM := hM'; clear hM'))
    ((try simp only [Act.put, List.setIfInBounds_toArray, List.set_cons_succ, List.set_cons_zero]); refine wp_region_mem (by kernel_rfl) (by kernel_rfl) hM ?_; clear hM; (repeat (first | go_big_quiet_skip | (go_big_quiet_want; first | (refine quiet_old _ _ rfl _ _ rfl (cellTab _ rfl) (errV (a 3)) (fun W hM2 => (HE.out.errs.below hM2.below).vars 3 (by omega)) ?_; (simp only [Act.put, List.setIfInBounds_toArray, List.set_cons_succ, List.set_cons_zero]); go_big_quiet_on) | (refine quiet_val ?_; apply Exists.intro; refine ⟨fun W => ?_, ?_⟩; (go_simp; (try simp only [rfl, if_true, Bool.false_eq_true, if_false]); rfl); (simp only [Act.put, List.setIfInBounds_toArray, List.set_cons_succ, List.set_cons_zero]); go_big_quiet_on)))); (with_reducible refine wpQuiet_nil ?_); intro W' hM)
    go_wp2
    refine bodyPost_ret (results_tmp2 rfl _ _ _) rfl ?_
    exact .inl ⟨_, [], rfl, ErrIn.one 1, hM, Hb.out⟩
  have hw : wordsN 32 181 l = partsC 32 l := wordsN_few (by omega) (by omega)
  have HN := Lib.hid (fun (W : World) (h : MaxP W) => splitN_any l 32 181 hl (by omega) (by omega) W h)
  rw [hw] at HN
  have HL := Lib.hid (fun j => Nat.le_trans (part_len 32 l j) hl)
  have Hst := Lib.hid (show fhWs l = (partsC 32 l).length from by unfold fhWs; rw [if_neg H0.out])
  have Hhs := Lib.hid (show ∀ j, fhHs l j = fhV ((partsC 32 l).getD j []) from fun j => rfl)
  have Hbad := Lib.hid (show ∀ j, j < (partsC 32 l).length → fhOk ((partsC 32 l).getD j []) = false → BadF l from fun j h1 h2 => ⟨H0.out, .inr ⟨j, h1, h2⟩⟩)
  obtain ⟨n, hn⟩ : ∃ n, (partsC 32 l).length = n := ⟨_, rfl⟩
  rw [hn] at HN Hst Hbad hmany
  have Hn := Lib.hid hn
  have hn12 : n ≤ 180 := by omega
  have d12 : decide ((n : Int) > 180) = false := decide_eq_false (by omega)
  have d13 : ¬ (180 : Int) < n := by omega
  clear hw hn hmany
  have tk_sp : True := trivial
  go_enter Tryz.func18, Tryz.ntmps18
  go_wp2_with (first | (have _t := tk_sp; go_at_call 29; refine (HN.out _ (HE.out.max.below hM.below)).mono ?_; rintro e W' ⟨wb, N, F, rfl, hwb, hnN, hF, hA', hcb⟩; have hM' := hM.fresh' hcb hA' hwb; simp only [List.nil_append] at hM'; have HF := Lib.hid hF; clear hM hF hA' hcb tk_sp; have hM := hM'; clear hM'))
  go_loopw [9, 27] (fun v i wr => ∃ k : Nat, k ≤ n ∧ i = .int .i64 k ∧ Lst (Base.of w) [(wb, N, F)] 3 v k (sHurdle (fhHs l)) wr) (fun _ i _ => n - (intOf i).toNat)
  case atStart => exact ⟨0, by omega, rfl, .inl ⟨rfl, rfl, hM⟩⟩
  case round =>
    clear hM
    obtain ⟨k, hk, rfl, hL⟩ := hrel
    by_cases hlt : k < n
    · have l2 : (k : Int) < n := by omega
      have hle : k ≤ 1048576 := by omega
      obtain ⟨wd, hwd⟩ : ∃ wd, (partsC 32 l).getD k [] = wd := ⟨_, rfl⟩
      have e0 : F k = .string (bs wd) := by rw [HF.out k hlt, ← hwd]; rfl
      have e1 : F (k * 1) = .string (bs wd) := by rw [Nat.mul_one]; exact e0
      have hwl := HL.out k
      rw [hwd] at hwl
      have Hh := Lib.hid ((Hhs.out k).trans (congrArg fhV hwd))
      have Hbd := Lib.hid (show fhOk wd = false → BadF l from fun h => Hbad.out k hlt (by rw [hwd]; exact h))
      have el : arr 3 (fun j => vHurdle (fhV wd) (0 + j)) = arr 3 (vHurdle (fhV wd)) := arr_congr fun j hj => by rw [Nat.zero_add]
      clear hwd
      cases hok : fhOk wd
      · have HP := Lib.hid (fun (W : World) (h : PEnv a W) => parseHurdle_no wd hwl hok W h)
        have Hbb := Lib.hid (Hbd.out hok)
        have hM := hL.mem
        clear hL hok Hbd
        have tk_r1 : True := trivial; have tk_b3 : True := trivial; have tk_r2 : True := trivial
        go_wp2_with (first | (have _t := tk_r1; refine wpList_get1 rfl _ _ rfl _ _ rfl hM 0 rfl (cellTab _ rfl) (by omega) _ (by first | exact e0 | exact e1) ?_; clear tk_r1) | (go_at_call 19; refine (HP.out _ (HE.out.below hM.below)).mono ?_; rintro e W' ⟨t, p, M, rfl, hv, hN, hge⟩; have Hv := Lib.hid hv; have hM' := hM.back hN hge; simp only [List.cons_append, List.nil_append] at hM'; clear hM hN hge hv; have hM := hM'; clear hM') | (have _t := tk_b3; refine wpList_zero rfl _ rfl zeroHurdle hM ?_; intro b3 W' hb3 hM'; clear hM tk_b3; have hM := hM'; clear hM') | (have _t := tk_r2; (refine wpList_lay rfl _ _ _ rfl _ _ rfl _ _ rfl hM 0 rfl (by assumption) rowHurdle (by omega) (vHur_one _) ?_; intro W' hM'; clear hM; have hM := hM'; clear hM'; simp only [List.set] at hM; have hM1 := hM.re 0 rfl (vHurdle (fhV wd)) (fun j hj => by simp [lay, hj]); simp only [List.set_cons_zero] at hM1; clear hM; have hM := hM1; clear hM1); clear tk_r2))
        refine bodyPost_ret (results_tmp2 rfl _ _ _) rfl ?_
        exact .inl ⟨_, M, rfl, Hv.out, hM.drop.drop, Hbb.out⟩
      · have HY := Lib.hid (fun (W : World) (h : PEnv a W) => parseHurdle_yes wd hwl hok W h)
        have Hnew := Lib.hid (show ∀ j, j < 3 → vHurdle (fhV wd) j = sHurdle (fhHs l) (k * 3 + j) from fun j hj => by rw [sHurdle_row _ _ _ hj, Hh.out])
        clear hok Hbd
        rcases hL with ⟨rfl, hn0, hM⟩ | ⟨bw, cw, G, rfl, hbb, hnc, hFF, hM⟩
        · have Hq : Hid (∀ j, j < 3 → vHurdle (fhV wd) j = sHurdle (fhHs l) j) := Lib.hid (fun j hj => by have := Hnew.out j hj; rwa [hn0, Nat.zero_mul, Nat.zero_add] at this)
          have Hn0 := Lib.hid hn0
          clear hn0
          have tk_r1 : True := trivial; have tk_b3 : True := trivial; have tk_r2 : True := trivial; have tk_r3 : True := trivial; have tk_l1 : True := trivial; have tk_p1 : True := trivial
          go_wp2_with (first | (have _t := tk_r1; refine wpList_get1 rfl _ _ rfl _ _ rfl hM 0 rfl (cellTab _ rfl) (by omega) _ (by first | exact e0 | exact e1) ?_; clear tk_r1) | (go_at_call 19; refine (HY.out _ (HE.out.below hM.below)).mono ?_; rintro e W' ⟨rfl, hb'⟩; have hM' := hM.call hb'; clear hM hb'; have hM := hM'; clear hM') | (have _t := tk_b3; refine wpList_zero rfl _ rfl zeroHurdle hM ?_; intro b3 W' hb3 hM'; clear hM tk_b3; have hM := hM'; clear hM') | (have _t := tk_r2; (refine wpList_lay rfl _ _ _ rfl _ _ rfl _ _ rfl hM 0 rfl (by assumption) rowHurdle (by omega) (vHur_one _) ?_; intro W' hM'; clear hM; have hM := hM'; clear hM'; simp only [List.set] at hM; have hM1 := hM.re 0 rfl (vHurdle (fhV wd)) (fun j hj => by simp [lay, hj]); simp only [List.set_cons_zero] at hM1; clear hM; have hM := hM1; clear hM1); clear tk_r2) | (have _t := tk_r3; (refine wpList_get rfl _ _ rfl _ _ rfl hM 0 rfl rowHurdle (by omega) ?_); rw [el]; clear tk_r3) | (have _t := tk_l1; refine wpList_slice1 rfl _ _ _ rfl _ _ rfl _ hurdle_under hurdle_info2 (by omega) (by omega) hM ?_; intro bn W' hbn hM'; clear hM tk_l1; have hM := hM'; clear hM') | (have _t := tk_p1; refine wpList_push0 rfl _ _ _ rfl _ 3 _ _ hurdle_under infoHurdle rfl (by omega) rfl _ _ rfl hM (sHurdle (fhHs l)) Hq.out ?_; intro bL cL FL W' hbL hcL hFL hM'; clear hM tk_p1; have hM := hM'; clear hM'))
          go_roundw
          case rel => exact ⟨k + 1, by omega, by go_num, by
            rw [Hn0.out]
            exact .inr ⟨bL, cL, FL, rfl, hbL, hcL, hFL, hM.skip⟩⟩
          case measure => simp [intOf]; omega
        · have Hf := Lib.hid hFF
          clear hFF
          have tk_r1 : True := trivial; have tk_b3 : True := trivial; have tk_r2 : True := trivial; have tk_r3 : True := trivial; have tk_l1 : True := trivial; have tk_p1 : True := trivial
          go_wp2_with (first | (have _t := tk_r1; refine wpList_get1 rfl _ _ rfl _ _ rfl hM 1 rfl (cellTab _ rfl) (by omega) _ (by first | exact e0 | exact e1) ?_; clear tk_r1) | (go_at_call 19; refine (HY.out _ (HE.out.below hM.below)).mono ?_; rintro e W' ⟨rfl, hb'⟩; have hM' := hM.call hb'; clear hM hb'; have hM := hM'; clear hM') | (have _t := tk_b3; refine wpList_zero rfl _ rfl zeroHurdle hM ?_; intro b3 W' hb3 hM'; clear hM tk_b3; have hM := hM'; clear hM') | (have _t := tk_r2; (refine wpList_lay rfl _ _ _ rfl _ _ rfl _ _ rfl hM 0 rfl (by assumption) rowHurdle (by omega) (vHur_one _) ?_; intro W' hM'; clear hM; have hM := hM'; clear hM'; simp only [List.set] at hM; have hM1 := hM.re 0 rfl (vHurdle (fhV wd)) (fun j hj => by simp [lay, hj]); simp only [List.set_cons_zero] at hM1; clear hM; have hM := hM1; clear hM1); clear tk_r2) | (have _t := tk_r3; (refine wpList_get rfl _ _ rfl _ _ rfl hM 0 rfl rowHurdle (by omega) ?_); rw [el]; clear tk_r3) | (have _t := tk_l1; refine wpList_slice1 rfl _ _ _ rfl _ _ rfl _ hurdle_under hurdle_info2 (by omega) (by omega) hM.swap ?_; intro bn W' hbn hM'; clear hM tk_l1; have hM := hM'; clear hM') | (have _t := tk_p1; refine wpList_push1 rfl _ _ _ rfl _ 3 _ _ hurdle_under infoHurdle rfl (by omega) _ _ _ _ rfl hbb hnc hle _ _ rfl hurdle_ones hM (sHurdle (fhHs l)) Hf.out Hnew.out ?_; intro bL cL FL W' hbL hcL hFL hM'; clear hM tk_p1; have hM := hM'; clear hM'))
          go_roundw
          case rel => exact ⟨k + 1, by omega, by go_num, .inr ⟨bL, cL, FL, rfl, hbL, hcL, hFL, hM.skip⟩⟩
          case measure => simp [intOf]; omega
    · obtain rfl : k = n := by omega
      have hM := hL.mem
      go_wp2
      refine bodyPost_ret (results_tmp2 rfl _ _ _) rfl ?_
      exact .inr ⟨_, rfl, by rw [Hst.out]; exact hL.only, by rw [Hst.out]; omega⟩
end Go.Proofs.YtaaphdbaocjecaaGreatDoor

/-
  Words: a list of strings that grows; how it is joined.
-/
namespace Go.Proofs.YtaaphdbaocjecaaGreatDoor
open Go Go.RowKit Go.BigFrame

theorem strs_under : Tryz.prog.underlying 33 = some (.slice 9) := Tryz.underlying33
theorem strs_info : (Tryz.prog.info? 9).map (fun i => (i.size, i.zero)) = some (1, some (.string ⟨#[]⟩)) := by kernel_rfl
theorem strF_one {f : Nat → List UInt8} : ∀ k, k < 1 → ((fun _ => strF f k) k : Value).oneCell' = true := fun _ _ => rfl
/-- Words that a call listed, joined. -/
theorem join_lst {w : World} {K : Blocks} {v : Value} {n : Nat} {f : Nat → List UInt8} {W : World} (h : Lst (Base.of w) K 1 v n (strF f) W) (sep : List UInt8) (m : Nat) (hf : ∀ k, k < n → (f k).length ≤ m) (hm : n * (m + sep.length) ≤ 100000000) (hn : n ≤ 1048576) :
    Calls Tryz.prog 36 #[v, .string (bs sep)] W fun e w' => e = .returned (.string (bs (joinT sep f n))) ∧ Below W.heap.size W w' := by
  rcases h with ⟨rfl, rfl, hM⟩ | ⟨b, c, F, rfl, hb, hc, hF, hM⟩
  · exact joinS_none _ _ _ _
  · exact join_any b n (c * 1) c f F sep m hf hm hn (by omega) (fun k hk => hF k (by omega)) hc W (hM.ats 0 _ _ _ rfl)
end Go.Proofs.YtaaphdbaocjecaaGreatDoor

/-
  PLAIN LAW: a list's elements are appended to a list that has none and no room.
-/
namespace Go.Proofs.YtaaphdbaocjecaaGreatDoor
open Go Go.RowKit

/-- A block that a call gave, told by its world. -/
theorem Mem.freshQ {b0 : Base} {L : Blocks} {X X' : World} {b n : Nat} {f : Nat → Value} (hM : Mem b0 L X) (hb : Below X.heap.size X X') (ha : At X' b n f) (hge : X.heap.size ≤ b) : Mem b0 ((b, n, f) :: L) X' := by
  have hM2 := hM.call hb
  have off : ∀ (i : Nat) (p : Nat × Nat × (Nat → Value)), L[i]? = some p → p.1 ≠ b := fun i p h => by
    have := (hM.ats i p.1 p.2.1 p.2.2 h).lt
    omega
  refine ⟨hM2.good, fun i b' n' f' hi => ?_, fun i j x y hi hj hne => ?_⟩
  · match i, hi with
    | 0, hi => simp at hi; obtain ⟨rfl, rfl, rfl⟩ := hi; exact ha
    | i + 1, hi => exact hM2.ats i b' n' f' (by simpa using hi)
  · match i, j, hi, hj with
    | 0, 0, _, _ => exact absurd rfl hne
    | 0, j + 1, hi, hj => simp at hi hj; rw [← hi]; exact fun e => off j y hj e.symm
    | i + 1, 0, hi, hj => simp at hi hj; rw [← hj]; exact off i x hi
    | i + 1, j + 1, hi, hj => exact hM2.apart i j x y (by simpa using hi) (by simpa using hj) (by omega)

section
variable {P : Program} {ops : Array Oper} {rest : List Oper} {o : Oper} {a : Act} {w : Base} {W : World} {Q : Exit → Act → World → Prop} {L : Blocks}
/-- A list's elements, one or more, are appended to a list that has none and no room. -/
theorem wpList_cat0 (hgd : o.guard = none) (s x : Operand) (t : TypeId) (ho : o.op = .call { callee := .builtin .append, args := #[s, x], argTypes := #[t, t] })
    (e : TypeId) (m bs : Nat) (z : Value) (hu : P.underlying t = some (.slice e)) (hz : (P.info? e).map (fun i => (i.size, i.zero, i.bytes)) = some (m, some z, bs)) (hzs : z.cells.size = m) (hbs : bs ≤ 1000)
    (b0 : Nat) (hs : a.eval s = .slice (some ⟨b0, 0, none⟩) 0 0) (bn n cn : Nat) (hx : a.eval x = .slice (some ⟨bn, 0, none⟩) n cn) (hn1 : 1 ≤ n) (hn : n ≤ 1048576)
    (hM : Mem w L W) (i0 : Nat) {N : Nat} {f : Nat → Value} (hi0 : L[i0]? = some (bn, N, f)) (hN : n * m ≤ N)
    (h : ∀ b' c' F' W', w.B ≤ b' → n ≤ c' → (∀ j, j < n * m → F' j = f j) → Mem w ((b', c' * m, F') :: L) W' → wpList P ops Q rest (a.put o.dst (.slice (some ⟨b', 0, none⟩) n c')) W') : wpList P ops Q (o :: rest) a W := by
  obtain ⟨i, hi, hq⟩ := Option.map_eq_some_iff.1 hz
  simp only [Prod.mk.injEq] at hq
  obtain ⟨rfl, q2, rfl⟩ := hq
  refine wpList_plain hgd fun J hJ => ?_
  have hb48 : Builtin.nextslicecap (0 + n) 0 * i.bytes ≤ 281474976710656 := growslice_fits (by omega) (by
    have : (0 + n) * i.bytes ≤ 1048576 * 1000 := Nat.mul_le_mul (by omega) hbs
    omega)
  have hr := run_append_grow (P := P) W t o.type e i z hu hi q2 ⟨b0, 0, none⟩ 0 0 [] (by simp) (fun j v hv => by simp at hv) ⟨bn, 0, none⟩ n cn (arr (n * i.size) f).toList (by simp [arr_size]) ((hM.ats i0 _ _ _ hi0).list hN) (by omega) (by omega) hb48
  have hge := grownCap_ge W (0 + n) 0 e
  rw [Nat.zero_add] at hr hge
  unfold Oper.wp execOp
  simp only [ho, resolve, invoke, builtin, Sem.run_bind, Sem.run_pure, Result.andThen_ok, List.map_toArray, List.map_cons, List.map_nil, hs, hx, hr]
  refine hJ _ _ (h _ _ _ _ hM.size hge (fun j hj => ?_) (hM.drew.allocA e _ (grownCap W n 0 e * i.size) ?_))
  · rw [Array.getElem?_append_left (by simp [arr_size]; omega)]
    simp [arr, hj]
  · simp only [Array.size_append, List.size_toArray, size_zeroCells, hzs, Array.length_toList, arr_size, List.length_nil]
    rw [Nat.zero_add, ← Nat.add_mul]
    congr 1; omega
end
end Go.Proofs.YtaaphdbaocjecaaGreatDoor

/-
  PLAIN: what a call gives that returns a list and a code (or a list, a number and a code): no element, or the first cells of a new block; a block brought to the front.
-/
namespace Go.Proofs.YtaaphdbaocjecaaGreatDoor
open Go Go.RowKit

/-- The list v: n elements of m cells, R, in a new block; or none. -/
def NewL (m n : Nat) (R : Nat → Value) (w : World) (v : Value) (w' : World) : Prop :=
  (n = 0 ∧ (∃ a c, v = .slice a 0 c) ∧ Below w.heap.size w w') ∨ ∃ b c N F, v = .slice (some ⟨b, 0, none⟩) n c ∧ w.heap.size ≤ b ∧ n * m ≤ N ∧ (∀ j, j < n * m → F j = R j) ∧ At w' b N F ∧ Below w.heap.size w w'
def GivesR (m n : Nat) (R : Nat → Value) (cc : Int) (w : World) (e : Ending) (w' : World) : Prop := ∃ v, e = .returned (.tuple #[v, .int .i64 cc]) ∧ NewL m n R w v w'
def GivesR2 (m n : Nat) (R : Nat → Value) (x cc : Int) (w : World) (e : Ending) (w' : World) : Prop := ∃ v, e = .returned (.tuple #[v, .int .i64 x, .int .i64 cc]) ∧ NewL m n R w v w'
theorem NewL.zero {m n : Nat} {R : Nat → Value} {w : World} {v : Value} {w' : World} (h : NewL m n R w v w') (hn : n = 0) : ∃ a c, v = .slice a 0 c ∧ Below w.heap.size w w' := by
  rcases h with ⟨-, ⟨a, c, h⟩, hb⟩ | ⟨b, c, N, F, h, -, -, -, -, hb⟩
  · exact ⟨a, c, h, hb⟩
  · exact ⟨_, c, by rw [h, hn], hb⟩
theorem NewL.some {m n : Nat} {R : Nat → Value} {w : World} {v : Value} {w' : World} (h : NewL m n R w v w') (hn : 0 < n) : ∃ b c N F, v = .slice (some ⟨b, 0, none⟩) n c ∧ w.heap.size ≤ b ∧ n * m ≤ N ∧ (∀ j, j < n * m → F j = R j) ∧ At w' b N F ∧ Below w.heap.size w w' := by
  rcases h with ⟨h, -⟩ | h
  · omega
  · exact h
theorem GivesR.to {m n n' : Nat} {R R' : Nat → Value} {c c' : Int} {w : World} {e : Ending} {w' : World} (h : GivesR m n R c w e w') (hn : n = n') (hR : R = R') (hc : c = c') : GivesR m n' R' c' w e w' := by rw [← hn, ← hR, ← hc]; exact h
/-- No list. -/
theorem GivesR.none {m : Nat} {R : Nat → Value} {n : Nat} {cc cc' : Int} {w w' : World} {a : Option Addr} {c : Nat} (hb : Below w.heap.size w w') (hn : n = 0) (hc : cc' = cc) : GivesR m n R cc w (.returned (.tuple #[.slice a 0 c, .int .i64 cc'])) w' := ⟨_, by rw [hc], .inl ⟨hn, ⟨a, c, rfl⟩, hb⟩⟩
/-- The i-th block is brought to the front. -/
theorem Mem.toFront {w : Base} {W : World} {L : Blocks} (h : Mem w L W) (i : Nat) {p : Nat × Nat × (Nat → Value)} (hi : L[i]? = some p) : Mem w (p :: L.eraseIdx i) W := by
  have key : ∀ j q, (L.eraseIdx i)[j]? = some q → L[if j < i then j else j + 1]? = some q := fun j q hq => by
    rw [List.getElem?_eraseIdx] at hq
    split at hq <;> rename_i hji
    · rw [if_pos hji]; exact hq
    · rw [if_neg hji]; exact hq
  refine ⟨h.good, fun j b n f hj => ?_, fun j k x y hj hk hne => ?_⟩
  · match j, hj with
    | 0, hj => simp at hj; subst hj; exact h.ats i _ _ _ hi
    | j + 1, hj => exact h.ats _ b n f (key j _ (by simpa using hj))
  · match j, k, hj, hk with
    | 0, 0, _, _ => exact absurd rfl hne
    | 0, k + 1, hj, hk =>
      simp at hj; subst hj
      exact h.apart i _ _ y hi (key k _ (by simpa using hk)) (by split <;> omega)
    | j + 1, 0, hj, hk =>
      simp at hk; subst hk
      exact h.apart _ i x _ (key j _ (by simpa using hj)) hi (by split <;> omega)
    | j + 1, k + 1, hj, hk => exact h.apart _ _ x y (key j _ (by simpa using hj)) (key k _ (by simpa using hk)) (by split <;> split <;> omega)
end Go.Proofs.YtaaphdbaocjecaaGreatDoor

/-
  impl.FenceText by contract.
-/
namespace Go.Proofs.YtaaphdbaocjecaaGreatDoor
open Go Go.RowKit Go.BigFrame

theorem sHur_one (hs : Nat → Nat → Int) (k : Nat) : (sHurdle hs k).oneCell' = true := hd_one _ _ _ _
theorem lay_hurdle (z : Nat → Value) (hs : Nat → Nat → Int) (k : Nat) : ∀ j, j < 3 → lay z 0 3 (fun i => sHurdle hs (k * 3 + i)) j = vHurdle (hs k) j := fun j hj => by
  simp only [lay, Nat.zero_add, Nat.sub_zero]
  rw [if_pos ⟨by omega, hj⟩]
  exact sHurdle_row hs k j hj

set_option maxRecDepth 100000 in
set_option maxHeartbeats 4000000 in
theorem implFenceText_anyG (b n c : Nat) (hs : Nat → Nat → Int) (_hF : ∀ i, i < n → FitsHurdle (hs i)) (hn : n ≤ 1048576) (w : World) (hT : TabP w) (N : Nat) (G : Nat → Value) (hG : ∀ j, j < n * 3 → G j = sHurdle hs j) (hN : n * 3 ≤ N) (hB : At w b N G) :
    Calls Tryz.prog 21 #[.slice (some ⟨b, 0, none⟩) n c] w fun e w' => e = .returned (.string (bs (fenceT n hs))) ∧ Below w.heap.size w w' := by
  have hM : Mem w [(b, N, G)] w := (Mem.nil w).old hB (fun i p h => by simp at h)
  have HG := Lib.hid hG
  clear hG
  have HT := Lib.hid hT
  clear hB hT
  by_cases h12 : 180 < n
  · have d1 : decide ((n : Int) > 180) = true := decide_eq_true (by omega)
    have d2 : (180 : Int) < n := by omega
    have Hp := Lib.hid (fenceT_many (hs := hs) h12)
    go_enter Tryz.func21, Tryz.ntmps21
    go_wp2
    go_ret
    exact ⟨ret_bs Hp.out.symm, hM.below⟩
  have d1 : decide ((n : Int) > 180) = false := decide_eq_false (by omega)
  have d2 : ¬ (180 : Int) < n := by omega
  have tk_b4 : True := trivial; have tk_y4 : True := trivial
  go_enter Tryz.func21, Tryz.ntmps21
  go_wp2_with (first | (refine wpList_greatest rfl _ _ rfl rfl rfl ?_) | (have _t := tk_b4; refine wpList_zero rfl _ rfl (zeroTab _ _ _ rfl) hM ?_; intro b4 W' hb4 hM'; clear hM tk_b4; have hM := hM'; clear hM') | (have _t := tk_y4; (refine wpList_lay rfl _ _ _ rfl _ _ rfl _ _ rfl hM 0 rfl (by assumption) (rowTab _ _ rfl) (by omega) ?_ ?_; (first | (intro _ _; rfl) | (intro k _; exact h1 _) | (intro k _; simp only [lay, upd]; (repeat' split) <;> first | exact h1 _ | rfl)); intro W' hM'; clear hM; have hM := hM'; clear hM'; simp only [List.set] at hM); clear tk_y4))
  have hM1 := hM.re 0 rfl (pas gMost) (fun j hj => by simp [lay, hj])
  simp only [List.set_cons_zero] at hM1
  clear hM
  have hM := hM1
  clear hM1
  go_loopw [4, 13] (fun v i wr => ∃ k : Nat, k ≤ n ∧ i = .int .i64 k ∧ Hid (∀ j, j < k → hurP (hs j) = true) ∧ Lst (Base.of w) [(b4, 122, pas gMost), (b, N, G)] 1 v k (strF (fenceW hs)) wr) (fun _ i _ => n - (intOf i).toNat)
  case atStart => exact ⟨0, by omega, rfl, Lib.hid (fun j hj => absurd hj (by omega)), .inl ⟨rfl, rfl, hM⟩⟩
  case round =>
    clear hM
    obtain ⟨k, hk, rfl, hall, hL⟩ := hrel
    by_cases hlt : k < n
    · have l2 : (k : Int) < n := by omega
      have eG : arr 3 (fun j => G (k * 3 + j)) = arr 3 (vHurdle (hs k)) := arr_congr fun j hj => by rw [HG.out _ (by omega), sHurdle_row _ _ _ hj]
      have el : arr 3 (fun j => vHurdle (hs k) (0 + j)) = arr 3 (vHurdle (hs k)) := arr_congr fun j hj => by rw [Nat.zero_add]
      have e1 : arr 2 (fun j => vHurdle (hs k) (0 + j)) = arr 2 (sp (hs k 0) (hs k 1)) := spHurdle0 (hs k)
      have eg : arr 122 (fun j => pas gMost (0 + j)) = arr 122 (pas gMost) := arr_congr fun j hj => by rw [Nat.zero_add]
      cases he : hurP (hs k)
      · have Hp := Lib.hid (fenceT_no hlt he)
        have He : Hid (isB gMost (hs k 0) (hs k 1) = false) := Lib.hid he
        clear he
        rcases hL with ⟨rfl, hn0, hM⟩ | ⟨bw, cw, F, rfl, hbb, hnc, hFF, hM⟩
        · have Hn0 := Lib.hid hn0
          clear hn0
          have tk_b3 : True := trivial; have tk_r1 : True := trivial; have tk_r2 : True := trivial; have tk_r3 : True := trivial; have tk_r4 : True := trivial
          go_wp2_with (first | (have _t := tk_r1; (refine wpList_get rfl _ _ rfl _ _ rfl hM 1 rfl rowHurdle (by omega) ?_); rw [eG]; clear tk_r1) | (have _t := tk_b3; refine wpList_zero rfl _ rfl zeroHurdle hM ?_; intro b3 W' hb3 hM'; clear hM tk_b3; have hM := hM'; clear hM') | (have _t := tk_r2; (refine wpList_lay rfl _ _ _ rfl _ _ rfl _ _ rfl hM 0 rfl (by assumption) rowHurdle (by omega) (fun i _ => hd_one _ _ _ i) ?_; intro W' hM'; clear hM; have hM := hM'; clear hM'; simp only [List.set] at hM; have hM1 := hM.re 0 rfl (vHurdle (hs k)) (fun j hj => by simp [lay, hj]); simp only [List.set_cons_zero] at hM1; clear hM; have hM := hM1; clear hM1); clear tk_r2) | (have _t := tk_r3; (refine wpList_get rfl _ _ rfl _ _ rfl hM 1 rfl (rowTab _ 122 rfl) (by omega) ?_); rw [eg]; clear tk_r3) | (have _t := tk_r4; (refine wpList_get rfl _ _ rfl _ _ rfl hM 0 rfl (rowTab _ 2 rfl) (by omega) ?_); rw [e1]; clear tk_r4) | (go_at_call 34; refine (hasCell_any gMost (hs k 0) (hs k 1) _).mono ?_; rintro e W' ⟨rfl, hb'⟩; rw [He.out]; have hM' := hM.call hb'; clear hM hb'; have hM := hM'; clear hM'))
          go_ret
          exact ⟨ret_bs Hp.out.symm, hM.below⟩
        · have tk_b3 : True := trivial; have tk_r1 : True := trivial; have tk_r2 : True := trivial; have tk_r3 : True := trivial; have tk_r4 : True := trivial
          go_wp2_with (first | (have _t := tk_r1; (refine wpList_get rfl _ _ rfl _ _ rfl hM 2 rfl rowHurdle (by omega) ?_); rw [eG]; clear tk_r1) | (have _t := tk_b3; refine wpList_zero rfl _ rfl zeroHurdle hM ?_; intro b3 W' hb3 hM'; clear hM tk_b3; have hM := hM'; clear hM') | (have _t := tk_r2; (refine wpList_lay rfl _ _ _ rfl _ _ rfl _ _ rfl hM 0 rfl (by assumption) rowHurdle (by omega) (fun i _ => hd_one _ _ _ i) ?_; intro W' hM'; clear hM; have hM := hM'; clear hM'; simp only [List.set] at hM; have hM1 := hM.re 0 rfl (vHurdle (hs k)) (fun j hj => by simp [lay, hj]); simp only [List.set_cons_zero] at hM1; clear hM; have hM := hM1; clear hM1); clear tk_r2) | (have _t := tk_r3; (refine wpList_get rfl _ _ rfl _ _ rfl hM 2 rfl (rowTab _ 122 rfl) (by omega) ?_); rw [eg]; clear tk_r3) | (have _t := tk_r4; (refine wpList_get rfl _ _ rfl _ _ rfl hM 0 rfl (rowTab _ 2 rfl) (by omega) ?_); rw [e1]; clear tk_r4) | (go_at_call 34; refine (hasCell_any gMost (hs k 0) (hs k 1) _).mono ?_; rintro e W' ⟨rfl, hb'⟩; rw [He.out]; have hM' := hM.call hb'; clear hM hb'; have hM := hM'; clear hM'))
          go_ret
          exact ⟨ret_bs Hp.out.symm, hM.below⟩
      have Hs := Lib.hid (show ∀ j, j < k + 1 → hurP (hs j) = true from fun j hj => by
        by_cases e : j = k
        · rw [e]; exact he
        · exact hall.out j (by omega))
      have He : Hid (isB gMost (hs k 0) (hs k 1) = true) := Lib.hid he
      have lw := fenceW_len he
      have HWd := Lib.hid (fun (W : World) (h : TabP W) => word_any (hs k) he W h)
      obtain ⟨v, hv⟩ : ∃ v, spotT (hs k 0) (hs k 1) ++ [sepB (hs k 2 == 1)] = v := ⟨_, rfl⟩
      have HW := Lib.hid (show ∀ j, j < 1 → Value.string (bs v) = strF (fenceW hs) (k * 1 + j) from fun j hj => by
        obtain rfl : j = 0 := by omega
        unfold strF fenceW
        rw [Nat.mul_one, Nat.add_zero, hv])
      rw [hv] at HWd
      have hle : k ≤ 1048576 := by omega
      clear hv he
      rcases hL with ⟨rfl, hn0, hM⟩ | ⟨bw, cw, F, rfl, hbb, hnc, hFF, hM⟩
      · have Hn0 := Lib.hid hn0
        have Hq : Hid (∀ j, j < 1 → (fun _ => Value.string (bs v)) j = strF (fenceW hs) j) := Lib.hid (fun j hj => by have := HW.out j hj; rwa [hn0, Nat.zero_mul, Nat.zero_add] at this)
        clear hn0
        have tk_b3 : True := trivial; have tk_r1 : True := trivial; have tk_r2 : True := trivial; have tk_r3 : True := trivial; have tk_r4 : True := trivial; have tk_r5 : True := trivial; have tk_l1 : True := trivial; have tk_p1 : True := trivial
        go_wp2_with (first | (have _t := tk_r1; (refine wpList_get rfl _ _ rfl _ _ rfl hM 1 rfl rowHurdle (by omega) ?_); rw [eG]; clear tk_r1) | (have _t := tk_b3; refine wpList_zero rfl _ rfl zeroHurdle hM ?_; intro b3 W' hb3 hM'; clear hM tk_b3; have hM := hM'; clear hM') | (have _t := tk_r2; (refine wpList_lay rfl _ _ _ rfl _ _ rfl _ _ rfl hM 0 rfl (by assumption) rowHurdle (by omega) (fun i _ => hd_one _ _ _ i) ?_; intro W' hM'; clear hM; have hM := hM'; clear hM'; simp only [List.set] at hM; have hM1 := hM.re 0 rfl (vHurdle (hs k)) (fun j hj => by simp [lay, hj]); simp only [List.set_cons_zero] at hM1; clear hM; have hM := hM1; clear hM1); clear tk_r2) | (have _t := tk_r3; (refine wpList_get rfl _ _ rfl _ _ rfl hM 1 rfl (rowTab _ 122 rfl) (by omega) ?_); rw [eg]; clear tk_r3) | (have _t := tk_r4; (refine wpList_get rfl _ _ rfl _ _ rfl hM 0 rfl (rowTab _ 2 rfl) (by omega) ?_); rw [e1]; clear tk_r4) | (go_at_call 34; refine (hasCell_any gMost (hs k 0) (hs k 1) _).mono ?_; rintro e W' ⟨rfl, hb'⟩; rw [He.out]; have hM' := hM.call hb'; clear hM hb'; have hM := hM'; clear hM') | (have _t := tk_r5; (refine wpList_get rfl _ _ rfl _ _ rfl hM 0 rfl rowHurdle (by omega) ?_); rw [el]; clear tk_r5) | (go_at_call 35; refine (HWd.out _ (HT.out.below hM.below)).mono ?_; rintro e W' ⟨rfl, hb'⟩; have hM' := hM.call hb'; clear hM hb'; have hM := hM'; clear hM') | (have _t := tk_l1; refine wpList_lit1 rfl _ _ _ rfl (.string (bs v)) rfl rfl _ strs_under strs_info hM ?_; intro l1 W' hl1 hM'; clear hM tk_l1; have hM := hM'; clear hM') | (have _t := tk_p1; refine wpList_push0 rfl _ _ _ rfl _ 1 _ _ strs_under infoStringS rfl (by omega) rfl _ _ rfl hM (strF (fenceW hs)) Hq.out ?_; intro bL cL FL W' hbL hcL hFL hM'; clear hM tk_p1; have hM := hM'; clear hM'))
        go_roundw
        case rel => exact ⟨k + 1, by omega, by go_num, Hs, by
          rw [Hn0.out]
          exact .inr ⟨bL, cL, FL, rfl, hbL, hcL, hFL, hM.skip⟩⟩
        case measure => simp [intOf]; omega
      · have Hf := Lib.hid hFF
        clear hFF
        have tk_b3 : True := trivial; have tk_r1 : True := trivial; have tk_r2 : True := trivial; have tk_r3 : True := trivial; have tk_r4 : True := trivial; have tk_r5 : True := trivial; have tk_l1 : True := trivial; have tk_p1 : True := trivial
        go_wp2_with (first | (have _t := tk_r1; (refine wpList_get rfl _ _ rfl _ _ rfl hM 2 rfl rowHurdle (by omega) ?_); rw [eG]; clear tk_r1) | (have _t := tk_b3; refine wpList_zero rfl _ rfl zeroHurdle hM ?_; intro b3 W' hb3 hM'; clear hM tk_b3; have hM := hM'; clear hM') | (have _t := tk_r2; (refine wpList_lay rfl _ _ _ rfl _ _ rfl _ _ rfl hM 0 rfl (by assumption) rowHurdle (by omega) (fun i _ => hd_one _ _ _ i) ?_; intro W' hM'; clear hM; have hM := hM'; clear hM'; simp only [List.set] at hM; have hM1 := hM.re 0 rfl (vHurdle (hs k)) (fun j hj => by simp [lay, hj]); simp only [List.set_cons_zero] at hM1; clear hM; have hM := hM1; clear hM1); clear tk_r2) | (have _t := tk_r3; (refine wpList_get rfl _ _ rfl _ _ rfl hM 2 rfl (rowTab _ 122 rfl) (by omega) ?_); rw [eg]; clear tk_r3) | (have _t := tk_r4; (refine wpList_get rfl _ _ rfl _ _ rfl hM 0 rfl (rowTab _ 2 rfl) (by omega) ?_); rw [e1]; clear tk_r4) | (go_at_call 34; refine (hasCell_any gMost (hs k 0) (hs k 1) _).mono ?_; rintro e W' ⟨rfl, hb'⟩; rw [He.out]; have hM' := hM.call hb'; clear hM hb'; have hM := hM'; clear hM') | (have _t := tk_r5; (refine wpList_get rfl _ _ rfl _ _ rfl hM 0 rfl rowHurdle (by omega) ?_); rw [el]; clear tk_r5) | (go_at_call 35; refine (HWd.out _ (HT.out.below hM.below)).mono ?_; rintro e W' ⟨rfl, hb'⟩; have hM' := hM.call hb'; clear hM hb'; have hM := hM'; clear hM') | (have _t := tk_l1; refine wpList_lit1 rfl _ _ _ rfl (.string (bs v)) rfl rfl _ strs_under strs_info hM ?_; intro l1 W' hl1 hM'; clear hM tk_l1; have hM1 := (hM'.toFront 2 rfl).toFront 1 rfl; simp only [List.eraseIdx_cons_succ, List.eraseIdx_cons_zero] at hM1; clear hM'; have hM := hM1; clear hM1) | (have _t := tk_p1; refine wpList_push1 rfl _ _ _ rfl _ 1 _ _ strs_under infoStringS rfl (by omega) _ _ _ _ rfl hbb hnc hle _ _ rfl strF_one hM (strF (fenceW hs)) Hf.out HW.out ?_; intro bL cL FL W' hbL hcL hFL hM'; clear hM tk_p1; have hM := hM'; clear hM'))
        go_roundw
        case rel => exact ⟨k + 1, by omega, by go_num, Hs, .inr ⟨bL, cL, FL, rfl, hbL, hcL, hFL, hM.skip⟩⟩
        case measure => simp [intOf]; omega
    · obtain rfl : k = n := by omega
      have HJ := Lib.hid (join_lst hL [32] 32 (fun j hj => fenceW_len (hall.out j hj)) (by simp only [List.length_cons, List.length_nil]; omega) (by omega))
      have Hp := Lib.hid (fenceT_yes (n := k) (by omega) hall.out)
      have hM := hL.mem
      go_wp2_with (first | (go_at_call 36; refine (HJ.out).mono ?_; rintro e W' ⟨rfl, hb'⟩; have hM' := hM.call hb'; clear hM hb'; have hM := hM'; clear hM'))
      go_ret
      exact ⟨ret_bs Hp.out.symm, hM.below⟩
theorem implFenceText_any (b n c : Nat) (hs : Nat → Nat → Int) (_hF : ∀ i, i < n → FitsHurdle (hs i)) (hn : n ≤ 1048576) (w : World) (hT : TabP w) (hB : At w b (n * 3) (sHurdle hs)) :
    Calls Tryz.prog 21 #[.slice (some ⟨b, 0, none⟩) n c] w fun e w' => e = .returned (.string (bs (fenceT n hs))) ∧ Below w.heap.size w w' :=
  implFenceText_anyG b n c hs _hF hn w hT (n * 3) (sHurdle hs) (fun _ _ => rfl) (Nat.le_refl _) hB
end Go.Proofs.YtaaphdbaocjecaaGreatDoor

/-
  impl.ReadFence by contract.
-/
namespace Go.Proofs.YtaaphdbaocjecaaGreatDoor
open Go Go.RowKit Go.BigFrame

set_option maxRecDepth 100000 in
set_option maxHeartbeats 4000000 in
theorem implFenceText_nil (w : World) :
    Calls Tryz.prog 21 #[.slice none 0 0] w fun e w' => e = .returned (.string (bs [])) ∧ Below w.heap.size w w' := by
  have hM := Mem.nil w
  have tk_b4 : True := trivial; have tk_y4 : True := trivial
  go_enter Tryz.func21, Tryz.ntmps21
  go_wp2_with (first | (refine wpList_greatest rfl _ _ rfl rfl rfl ?_) | (have _t := tk_b4; refine wpList_zero rfl _ rfl (zeroTab _ _ _ rfl) hM ?_; intro b4 W' hb4 hM'; clear hM tk_b4; have hM := hM'; clear hM') | (have _t := tk_y4; (refine wpList_lay rfl _ _ _ rfl _ _ rfl _ _ rfl hM 0 rfl (by assumption) (rowTab _ _ rfl) (by omega) ?_ ?_; (first | (intro _ _; rfl) | (intro k _; exact h1 _) | (intro k _; simp only [lay, upd]; (repeat' split) <;> first | exact h1 _ | rfl)); intro W' hM'; clear hM; have hM := hM'; clear hM'; simp only [List.set] at hM); clear tk_y4))
  refine wp_loop_rounds 1 ?_
  rw [rounds_succ]
  go_wp2_with (first | (go_at_call 36; refine (joinS_none none 0 [32] _).mono ?_; rintro e W' ⟨rfl, hb'⟩; have hM' := hM.call hb'; clear hM hb'; have hM := hM'; clear hM'))
  go_ret
  exact ⟨rfl, hM.below⟩
theorem fits_fhV (l : List UInt8) : FitsHurdle (fhV l) := by
  have w8 : ∀ x, -128 ≤ IntKind.i8.wrap x ∧ IntKind.i8.wrap x ≤ 127 := fun x => by unfold IntKind.wrap; simp [IntKind.signed, IntKind.bits]; omega
  refine ⟨w8 _, w8 _, ?_⟩
  unfold fhV
  cases fhS l
  · exact ⟨by show (0 : Int) ≤ 0; omega, by show (0 : Int) ≤ 1; omega⟩
  · exact ⟨by show (0 : Int) ≤ 1; omega, by show (1 : Int) ≤ 1; omega⟩
/-- What both Reads answer. -/
def ReadF (l : List UInt8) (w : World) (e : Ending) (w' : World) : Prop :=
  ∃ v n hs c, e = .returned (.tuple #[v, .int .i64 c]) ∧ Lst (Base.of w) [] 3 v n (sHurdle hs) w' ∧ ((TellsF l n hs ∧ c = 0) ∨ (n = 0 ∧ c = 5 ∧ ∀ m gs, ¬ TellsF l m gs))
structure RdEnv (a : Nat → Addr) (W : World) : Prop where
  env : PEnv a W
  tab : TabP W
theorem RdEnv.below {a : Nat → Addr} {W W' : World} (h : RdEnv a W) (hb : Below W.heap.size W W') : RdEnv a W' := ⟨h.env.below hb, h.tab.below hb⟩
theorem implFenceText_lst (n : Nat) (hs : Nat → Nat → Int) (v : Value) (w0 w : World) (hF : ∀ i, i < n → FitsHurdle (hs i)) (hn : n ≤ 1048576) (hT : TabP w) (hL : Lst (Base.of w0) [] 3 v n (sHurdle hs) w) :
    Calls Tryz.prog 21 #[v] w fun e w' => e = .returned (.string (bs (fenceT n hs))) ∧ Below w.heap.size w w' := by
  rcases hL with ⟨rfl, rfl, hM⟩ | ⟨b, c, G, rfl, hb, hc, hG, hM⟩
  · refine (implFenceText_nil w).mono ?_
    rintro e w' ⟨rfl, h⟩
    exact ⟨by rw [fenceT_yes (by omega) (fun k hk => absurd hk (by omega)), joinT_zero], h⟩
  · exact implFenceText_anyG b n c hs hF hn w hT (c * 3) G hG (Nat.mul_le_mul_right 3 hc) (hM.ats 0 _ _ _ rfl)
set_option maxRecDepth 100000 in
set_option maxHeartbeats 4000000 in
theorem implReadFence_any {a : Nat → Addr} (l : List UInt8) (hl : l.length ≤ 1048576) (w : World) (hE : RdEnv a w) :
    Calls Tryz.prog 6 #[.string (bs l)] w (ReadF l w) := by
  have hM := Mem.nil w
  have HE := Lib.hid hE
  have HP := Lib.hid (parseWordsFe_any l hl w hE.env)
  clear hE
  go_enter Tryz.func6, Tryz.ntmps6
  go_wp2_with (first | (go_at_call 18; refine HP.out.mono ?_))
  rintro e W' (⟨v, N, rfl, herr, hN, hbad⟩ | ⟨v, rfl, hL, h12⟩)
  · obtain ⟨t, p, rfl⟩ := herr.iface
    have hE2 := HE.out.below hN.below
    have HC := Lib.hid (codeG_any hE2.env.errs (herr.syn hE2.env.errs hN.ofK))
    have Hb := Lib.hid hbad
    clear herr hbad hE2 hM
    go_wp2_with (first | (go_at_call 20; refine HC.out.mono ?_; rintro e W' ⟨rfl, rfl⟩))
    refine bodyPost_ret (results_tmp2 rfl _ _ _) rfl ?_
    exact ⟨_, 0, fhHs l, 5, rfl, .inl ⟨rfl, rfl, Mem.start hN.good⟩, .inr ⟨rfl, rfl, Hb.out.no⟩⟩
  · have HT := Lib.hid (implFenceText_lst (fhWs l) (fhHs l) v w W' (fun i _ => fits_fhV _) (by omega) (HE.out.below hL.mem.below).tab hL)
    have HL := Lib.hid hL
    clear hL hM
    have hq := bs_beq (fenceT (fhWs l) (fhHs l)) l
    have Hy := Lib.hid (fhText_yes (l := l))
    have Hno := Lib.hid (fhText_no (l := l))
    obtain ⟨tx, htx⟩ : ∃ tx, fenceT (fhWs l) (fhHs l) = tx := ⟨_, rfl⟩
    rw [htx] at HT hq Hy Hno
    clear htx h12
    by_cases he : tx = l
    · rw [decide_eq_true he] at hq
      have Hk := Lib.hid (Hy.out he)
      clear he Hy Hno
      go_wp2_with (first | (go_at_call 21; refine HT.out.mono ?_; rintro e W2 ⟨rfl, hb2⟩))
      refine bodyPost_ret (results_tmp2 rfl _ _ _) rfl ?_
      exact ⟨_, fhWs l, fhHs l, 0, rfl, HL.out.call hb2, .inl ⟨Hk.out, rfl⟩⟩
    · rw [decide_eq_false he] at hq
      have Hk := Lib.hid (Hno.out he)
      clear he Hy Hno
      go_wp2_with (first | (go_at_call 21; refine HT.out.mono ?_; rintro e W2 ⟨rfl, hb2⟩))
      refine bodyPost_ret (results_tmp2 rfl _ _ _) rfl ?_
      exact ⟨_, 0, fhHs l, 5, rfl, .inl ⟨rfl, rfl, Mem.start (HL.out.mem.call hb2).good⟩, .inr ⟨rfl, rfl, Hk.out⟩⟩
end Go.Proofs.YtaaphdbaocjecaaGreatDoor

