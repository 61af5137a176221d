/-
  Several texts in one: Valid, Check, Lists, ReadFence.
-/
import Derived.Test.YtaaphdbaocjecaaGreatDoorP10
import Derived.Test.YtaaphdbaocjecaaGreatDoorP8
import Derived.Test.YtaaphdbaocjecaaGreatDoorP3
import Derived.Test.YtaaphdbaocjecaaGreatDoorP6
import Derived.Test.YtaaphdbaocjecaaGreatDoorP9
/-
  impl.ValidPasture by contract.
-/
namespace Go.Proofs.YtaaphdbaocjecaaGreatDoor
open Go Go.RowKit Go.BigFrame

/-- Is a pasture valid, as impl asks it? -/
def validB (g : Nat → Int) : Bool := inB 1 10 (g 0) && inB 1 10 (g 1) && (grassB g (g 0).toNat (g 1).toNat && hurB g)

set_option maxRecDepth 100000 in
set_option maxHeartbeats 2000000 in
theorem implValid_any (g : Nat → Int) (hg : Fits g) (w : World) :
    Calls Tryz.prog 55 #[.agg (arr 122 (pas g))] w fun e w' => e = .returned (.bool (validB g)) ∧ Below w.heap.size w w' := by
  have hM := Mem.nil w
  have e0 : pas g 0 = .int .i8 (g 0) := rfl
  have e1 : pas g 1 = .int .i8 (g 1) := rfl
  have hw := hg.w
  have hh := hg.h
  have tk_b1 : True := trivial
  rcases (show g 0 < 1 ∨ (¬ g 0 < 1 ∧ 10 < g 0) ∨ (¬ g 0 < 1 ∧ ¬ 10 < g 0) by omega) with r0 | ⟨r0, r1⟩ | ⟨r0, r1⟩
  · have hf : Hid (validB g = false) := Lib.hid (by simp [validB, inB_no (show ¬ (1 ≤ g 0 ∧ g 0 ≤ 10) by omega)])
    have d0 : decide (g 0 < 1) = true := decide_eq_true r0
    go_enter Tryz.func55, Tryz.ntmps55
    go_wp2_with (first | (have _t := tk_b1; refine wpList_box rfl _ _ rfl _ _ rfl hM ?_; intro b1 W' hb1 hM'; clear hM tk_b1; have hM := hM'; clear hM') | (refine wpList_get1 rfl _ _ rfl _ _ rfl hM 0 rfl (cellTab _ rfl) (by omega) _ rfl ?_) | (refine wpList_gget1 ?_ _ _ rfl _ _ rfl hM 0 rfl (cellTab _ rfl) (by omega) _ rfl ?_; kernel_rfl))
    go_ret
    exact ⟨ret_bool hf.out.symm, hM.below⟩
  · have hf : Hid (validB g = false) := Lib.hid (by simp [validB, inB_no (show ¬ (1 ≤ g 0 ∧ g 0 ≤ 10) by omega)])
    have d0 : decide (g 0 < 1) = false := decide_eq_false r0
    have d1 : decide (10 < g 0) = true := decide_eq_true r1
    go_enter Tryz.func55, Tryz.ntmps55
    go_wp2_with (first | (have _t := tk_b1; refine wpList_box rfl _ _ rfl _ _ rfl hM ?_; intro b1 W' hb1 hM'; clear hM tk_b1; have hM := hM'; clear hM') | (refine wpList_get1 rfl _ _ rfl _ _ rfl hM 0 rfl (cellTab _ rfl) (by omega) _ rfl ?_) | (refine wpList_gget1 ?_ _ _ rfl _ _ rfl hM 0 rfl (cellTab _ rfl) (by omega) _ rfl ?_; kernel_rfl))
    go_ret
    exact ⟨ret_bool hf.out.symm, hM.below⟩
  have d0 : decide (g 0 < 1) = false := decide_eq_false r0
  have d1 : decide (10 < g 0) = false := decide_eq_false r1
  rcases (show g 1 < 1 ∨ (¬ g 1 < 1 ∧ 10 < g 1) ∨ (¬ g 1 < 1 ∧ ¬ 10 < g 1) by omega) with q0 | ⟨q0, q1⟩ | ⟨q0, q1⟩
  · have hf : Hid (validB g = false) := Lib.hid (by simp [validB, inB_no (show ¬ (1 ≤ g 1 ∧ g 1 ≤ 10) by omega)])
    have d2 : decide (g 1 < 1) = true := decide_eq_true q0
    go_enter Tryz.func55, Tryz.ntmps55
    go_wp2_with (first | (have _t := tk_b1; refine wpList_box rfl _ _ rfl _ _ rfl hM ?_; intro b1 W' hb1 hM'; clear hM tk_b1; have hM := hM'; clear hM') | (refine wpList_get1 rfl _ _ rfl _ _ rfl hM 0 rfl (cellTab _ rfl) (by omega) _ rfl ?_) | (refine wpList_gget1 ?_ _ _ rfl _ _ rfl hM 0 rfl (cellTab _ rfl) (by omega) _ rfl ?_; kernel_rfl))
    go_ret
    exact ⟨ret_bool hf.out.symm, hM.below⟩
  · have hf : Hid (validB g = false) := Lib.hid (by simp [validB, inB_no (show ¬ (1 ≤ g 1 ∧ g 1 ≤ 10) by omega)])
    have d2 : decide (g 1 < 1) = false := decide_eq_false q0
    have d3 : decide (10 < g 1) = true := decide_eq_true q1
    go_enter Tryz.func55, Tryz.ntmps55
    go_wp2_with (first | (have _t := tk_b1; refine wpList_box rfl _ _ rfl _ _ rfl hM ?_; intro b1 W' hb1 hM'; clear hM tk_b1; have hM := hM'; clear hM') | (refine wpList_get1 rfl _ _ rfl _ _ rfl hM 0 rfl (cellTab _ rfl) (by omega) _ rfl ?_) | (refine wpList_gget1 ?_ _ _ rfl _ _ rfl hM 0 rfl (cellTab _ rfl) (by omega) _ rfl ?_; kernel_rfl))
    go_ret
    exact ⟨ret_bool hf.out.symm, hM.below⟩
  have d2 : decide (g 1 < 1) = false := decide_eq_false q0
  have d3 : decide (10 < g 1) = false := decide_eq_false q1
  have hgr := fun W => hasValidGrass_any g hg (g 0).toNat (g 1).toNat (by omega) (by omega) (by omega) (by omega) W
  have hhr := fun W => hasValidHurdles_any g hg (by omega) (by omega) W
  have hv : Hid (validB g = (grassB g (g 0).toNat (g 1).toNat && hurB g)) := Lib.hid (by simp [validB, inB_yes (show 1 ≤ g 0 ∧ g 0 ≤ 10 by omega), inB_yes (show 1 ≤ g 1 ∧ g 1 ≤ 10 by omega)])
  cases hB : grassB g (g 0).toNat (g 1).toNat
  · rw [hB] at hgr
    have hf : Hid (validB g = false) := Lib.hid (by rw [hv.out, hB]; rfl)
    go_enter Tryz.func55, Tryz.ntmps55
    go_wp2_with (first | (have _t := tk_b1; refine wpList_box rfl _ _ rfl _ _ rfl hM ?_; intro b1 W' hb1 hM'; clear hM tk_b1; have hM := hM'; clear hM') | (refine wpList_get1 rfl _ _ rfl _ _ rfl hM 0 rfl (cellTab _ rfl) (by omega) _ rfl ?_) | (refine wpList_get rfl _ _ rfl _ _ rfl hM 0 rfl (rowTab _ _ rfl) (by omega) ?_) | (go_at_call 66; refine (hgr _).mono ?_; rintro e W' ⟨rfl, hb'⟩; have hM' := hM.call hb'; clear hM hb'; have hM := hM'; clear hM') | (refine wpList_gget1 ?_ _ _ rfl _ _ rfl hM 0 rfl (cellTab _ rfl) (by omega) _ rfl ?_; kernel_rfl))
    go_ret
    exact ⟨ret_bool hf.out.symm, hM.below⟩
  · rw [hB] at hgr
    have hf : Hid (validB g = hurB g) := Lib.hid (by rw [hv.out, hB]; rfl)
    go_enter Tryz.func55, Tryz.ntmps55
    go_wp2_with (first | (have _t := tk_b1; refine wpList_box rfl _ _ rfl _ _ rfl hM ?_; intro b1 W' hb1 hM'; clear hM tk_b1; have hM := hM'; clear hM') | (refine wpList_get1 rfl _ _ rfl _ _ rfl hM 0 rfl (cellTab _ rfl) (by omega) _ rfl ?_) | (refine wpList_get rfl _ _ rfl _ _ rfl hM 0 rfl (rowTab _ _ rfl) (by omega) ?_) | (go_at_call 66; refine (hgr _).mono ?_; rintro e W' ⟨rfl, hb'⟩; have hM' := hM.call hb'; clear hM hb'; have hM := hM'; clear hM') | (go_at_call 67; refine (hhr _).mono ?_; rintro e W' ⟨rfl, hb'⟩; have hM' := hM.call hb'; clear hM hb'; have hM := hM'; clear hM') | (refine wpList_gget1 ?_ _ _ rfl _ _ rfl hM 0 rfl (cellTab _ rfl) (by omega) _ rfl ?_; kernel_rfl) | (refine wpList_gget ?_ _ _ rfl _ _ rfl hM 0 rfl (rowTab _ _ rfl) (by omega) ?_; kernel_rfl))
    go_ret
    exact ⟨ret_bool hf.out.symm, hM.below⟩
end Go.Proofs.YtaaphdbaocjecaaGreatDoor

/-
  impl.checkCells by contracts.
-/
namespace Go.Proofs.YtaaphdbaocjecaaGreatDoor
open Go Go.RowKit Go.BigFrame

theorem spot_info : (Tryz.prog.info? 41).map (fun i => (i.size, i.zero)) = some (2, some (.agg (arr 2 fun _ => .int .i8 0))) := by kernel_rfl
/-- Spots one behind the other. -/
def sps (s : Nat → Int × Int) : Nat → Value := fun k => .int .i8 (if k % 2 = 0 then (s (k / 2)).1 else (s (k / 2)).2)
theorem sp_sps (x y : Int) : ∀ k, k < 2 → sp x y k = sps (fun _ => (x, y)) k := fun k hk => by
  rcases (show k = 0 ∨ k = 1 by omega) with rfl | rfl <;> rfl
theorem sp_sps0 (x y : Int) : ∀ k, k < 2 → sp x y (0 + k) = sps (fun _ => (x, y)) k := fun k hk => by
  rw [Nat.zero_add]; exact sp_sps x y k hk
/-- The first n of them are all cells. -/
def allB (g : Nat → Int) (s : Nat → Int × Int) (n : Nat) : Bool := (List.range n).all fun i => isB g (s i).1 (s i).2
theorem allB_zero (g : Nat → Int) (s : Nat → Int × Int) : allB g s 0 = true := rfl
theorem allB_one (g : Nat → Int) (s : Nat → Int × Int) : allB g s 1 = isB g (s 0).1 (s 0).2 := by simp [allB, List.range_succ]
theorem allB_no {g : Nat → Int} {s : Nat → Int × Int} {n i : Nat} (hi : i < n) (h : isB g (s i).1 (s i).2 = false) : allB g s n = false := by
  unfold allB; rw [List.all_eq_false]; exact ⟨i, by simpa using hi, by rw [h]; decide⟩
theorem allB_yes {g : Nat → Int} {s : Nat → Int × Int} {n : Nat} (h : ∀ i, i < n → isB g (s i).1 (s i).2 = true) : allB g s n = true := by
  unfold allB; rw [List.all_eq_true]; intro i hi; exact h i (by simpa using hi)

/-- What checkCells answers of a valid pasture. -/
def chkS (a : Nat → Addr) (g : Nat → Int) (s : Nat → Int × Int) (n : Nat) : Value := if allB g s n then .nilIface else errV (a 1)
theorem chkS_yes {a : Nat → Addr} {g : Nat → Int} {s : Nat → Int × Int} {n : Nat} (h : allB g s n = true) : chkS a g s n = .nilIface := by simp [chkS, h]
theorem chkS_no {a : Nat → Addr} {g : Nat → Int} {s : Nat → Int × Int} {n : Nat} (h : allB g s n = false) : chkS a g s n = errV (a 1) := by simp [chkS, h]
theorem ret_v {a b : Value} (h : a = b) : Ending.returned a = .returned b := by rw [h]

theorem sps_fst (s : Nat → Int × Int) (k : Nat) : sps s (k * 2 + 0) = .int .i8 (s k).1 := by
  simp [sps]
theorem sps_snd (s : Nat → Int × Int) (k : Nat) : sps s (k * 2 + 1) = .int .i8 (s k).2 := by
  have : (k * 2 + 1) / 2 = k := by omega
  simp [sps, this]

theorem lay_sp0 (z : Nat → Value) (s : Nat → Int × Int) (k : Nat) : lay z 0 2 (fun j => sps s (k * 2 + j)) 0 = .int .i8 (s k).1 := by
  simpa [lay] using sps_fst s k
theorem lay_sp1 (z : Nat → Value) (s : Nat → Int × Int) (k : Nat) : lay z 0 2 (fun j => sps s (k * 2 + j)) 1 = .int .i8 (s k).2 := by
  simpa [lay] using sps_snd s k

end Go.Proofs.YtaaphdbaocjecaaGreatDoor

/-
  Lists that are results: what a law may take of them.
-/
namespace Go.Proofs.YtaaphdbaocjecaaGreatDoor
open Go Go.RowKit Go.BigFrame

theorem sps_row (s : Nat → Int × Int) (k j : Nat) (hj : j < 2) : sps s (k * 2 + j) = sp (s k).1 (s k).2 j := by
  rcases (show j = 0 ∨ j = 1 by omega) with rfl | rfl
  · exact sps_fst s k
  · exact sps_snd s k
theorem spot_infoB : (Tryz.prog.info? 41).map (fun i => (i.size, i.zero, i.bytes)) = some (2, some (.agg (arr 2 fun _ => .int .i8 0)), 2) := by kernel_rfl
theorem sp_one {x y : Int} : ∀ k, k < 2 → (sp x y k).oneCell' = true := fun k hk => by
  rcases (show k = 0 ∨ k = 1 by omega) with rfl | rfl <;> rfl

theorem sp_one0 {x y : Int} : ∀ k, k < 2 → (sp x y (0 + k)).oneCell' = true := fun k hk => by rw [Nat.zero_add]; exact sp_one k hk
theorem Lst.up {w0 w1 : World} {K : Blocks} {m n : Nat} {v : Value} {R : Nat → Value} {W : World} (hM : Mem w0 K w1) (h : Lst w1 [] m v n R W) : Lst w0 [] m v n R W ∧ Below w1.heap.size w1 W := by
  rcases h with ⟨h1, h2, h⟩ | ⟨b, c, F, h1, h2, h3, h4, h⟩
  · exact ⟨.inl ⟨h1, h2, Mem.start (hM.call h.below).good⟩, h.below⟩
  · exact ⟨.inr ⟨b, c, F, h1, Nat.le_trans hM.size h2, h3, h4, h.base (hM.call h.below).good⟩, h.below⟩
theorem Mem.freshH {b0 : Base} {L : Blocks} {X X' : World} {b n : Nat} {f : Nat → Value} (hM : Mem b0 L X) (hb : Below X.heap.size X X') (ha : At X' b n f) (hge : X.heap.size ≤ b) : Mem b0 ((b, n, f) :: L) X' := by
  have hM2 := hM.call hb
  have off : ∀ (i : Nat) (p : Nat × Nat × (Nat → Value)), L[i]? = some p → p.1 ≠ b := fun i p h => by
    have := (hM.ats i p.1 p.2.1 p.2.2 h).lt
    omega
  refine ⟨hM2.good, fun i b' n' f' hi => ?_, fun i j x y hi hj hne => ?_⟩
  · match i, hi with
    | 0, hi => simp at hi; obtain ⟨rfl, rfl, rfl⟩ := hi; exact ha
    | i + 1, hi => exact hM2.ats i b' n' f' (by simpa using hi)
  · match i, j, hi, hj with
    | 0, 0, _, _ => exact absurd rfl hne
    | 0, j + 1, hi, hj => simp at hi hj; rw [← hi]; exact fun e => off j y hj e.symm
    | i + 1, 0, hi, hj => simp at hi hj; rw [← hj]; exact off i x hi
    | i + 1, j + 1, hi, hj => exact hM2.apart i j x y (by simpa using hi) (by simpa using hj) (by omega)
theorem Lst.some {w : World} {m n : Nat} {v : Value} {R : Nat → Value} {W : World} (h : Lst w [] m v n R W) (hn : 0 < n) : ∃ b c F, v = .slice (some ⟨b, 0, none⟩) n c ∧ w.heap.size ≤ b ∧ n ≤ c ∧ (∀ j, j < n * m → F j = R j) ∧ At W b (c * m) F ∧ Below w.heap.size w W := by
  rcases h with ⟨-, h, -⟩ | ⟨b, c, F, h1, h2, h3, h4, h5⟩
  · omega
  · exact ⟨b, c, F, h1, h2, h3, h4, h5.at0, h5.below⟩
theorem Lst.zero {w : World} {m n : Nat} {v : Value} {R : Nat → Value} {W : World} (h : Lst w [] m v n R W) (hn : n = 0) : ∃ a c, v = .slice a 0 c ∧ Below w.heap.size w W := by
  rcases h with ⟨h1, -, h⟩ | ⟨b, c, F, h1, h2, h3, h4, h5⟩
  · exact ⟨none, 0, h1, h.below⟩
  · exact ⟨_, c, by rw [h1, hn], h5.below⟩
end Go.Proofs.YtaaphdbaocjecaaGreatDoor

/-
  laws.FnExactReadFence returns true.
-/
namespace Go.Proofs.YtaaphdbaocjecaaGreatDoor
open Go Go.RowKit Go.BigFrame Go.ChangeShapes Go.WideShapes Go.Deep

set_option maxRecDepth 100000 in
set_option maxHeartbeats 8000000 in
theorem lawReadFence_any {a : Nat → Addr} (s : ByteArray) (hs : s.size ≤ maxLen) (w : World) (hE : RdEnv a w) :
    Calls Tryz.prog 3 #[.string s] w fun e w' => e = .returned (.bool true) ∧ Below w.heap.size w w' := by
  have hM := Mem.nil w
  have HE := Lib.hid hE
  clear hE
  by_cases h1 : 1048576 < s.size
  · have z1 : decide ((1048576 : Int) < s.size) = true := decide_eq_true (by omega)
    have z2 : decide ((s.size : Int) > 1048576) = true := decide_eq_true (by omega)
    go_enter Tryz.func3, Tryz.ntmps3
    go_wp2
    go_ret
    exact ⟨rfl, hM.below⟩
  have z1 : decide ((1048576 : Int) < s.size) = false := decide_eq_false (by omega)
  have z2 : decide ((s.size : Int) > 1048576) = false := decide_eq_false (by omega)
  obtain ⟨l, hl⟩ : ∃ l, l = s.data.toList := ⟨_, rfl⟩
  have el : s = bs l := by rw [hl]; exact (bs_back s).symm
  have hlen : l.length ≤ 1048576 := by rw [← bs_size, ← el]; omega
  obtain ⟨LN, HS0, CC, h12, hK⟩ := readF_one l
  have hle : LN ≤ 1048576 := by omega
  have hS : ∀ W, Calls Tryz.prog 5 #[.string s] W fun e w' => ∃ v, e = .returned (.tuple #[v, .int .i64 CC]) ∧ Lst (Base.of W) [] 3 v LN (sHurdle HS0) w' := fun W => by
    rw [el]; exact (specReadFence_any l hlen W).mono (fun e w' h => hK W e w' h)
  have hI : ∀ W, RdEnv a W → Calls Tryz.prog 6 #[.string s] W fun e w' => ∃ v, e = .returned (.tuple #[v, .int .i64 CC]) ∧ Lst (Base.of W) [] 3 v LN (sHurdle HS0) w' := fun W hE => by
    rw [el]; exact (implReadFence_any l hlen W hE).mono (fun e w' h => hK W e w' h)
  have HS := Lib.hid hS
  have HI := Lib.hid hI
  clear hS hI hK hl el hlen h1 h12
  rcases Nat.eq_zero_or_pos LN with hn | hn
  · have Hn := Lib.hid hn
    clear hn
    have tk_A : True := trivial; have tk_B : True := trivial; have tk_e1 : True := trivial; have tk_m : True := trivial; have tk_h1 : True := trivial; have tk_C : True := trivial; have tk_e2 : True := trivial; have tk_h2 : True := trivial
    go_enter Tryz.func3, Tryz.ntmps3
    go_wp2_with (first | (have _t := tk_A; go_at_call 5; refine (HS.out _).mono ?_; rintro e W' ⟨vr, rfl, hL0⟩; obtain ⟨aA, cA, rfl, hbl⟩ := hL0.zero Hn.out; have hM' := hM.call hbl; clear hM hbl hL0 tk_A; have hM := hM'; clear hM') | (have _t := tk_B; go_at_call 6; refine (HI.out _ (HE.out.below hM.below)).mono ?_; rintro e W' ⟨vr, rfl, hL0⟩; obtain ⟨aB, cB, rfl, hbl⟩ := hL0.zero Hn.out; have hM' := hM.call hbl; clear hM hbl hL0 tk_B; have hM := hM'; clear hM') | (have _t := tk_e1; go_at_call 7; (with_reducible refine (eqHurdleS_zero aB aA cB cA _).mono ?_); rintro e W' ⟨rfl, hb'⟩; have hM' := hM.call hb'; clear hM hb'; have hM := hM'; clear hM'; clear tk_e1) | (have _t := tk_m; go_at_call 8; (with_reducible refine (markHurdleS_zero _ _ _ _).mono ?_); rintro e W' ⟨rfl, hb'⟩; have hM' := hM.call hb'; clear hM hb'; have hM := hM'; clear hM'; clear tk_m) | (have _t := tk_h1; go_at_call 9; (with_reducible refine (heldHurdleS_zero _ _ _ _).mono ?_); rintro e W' ⟨rfl, hb'⟩; have hM' := hM.call hb'; clear hM hb'; have hM := hM'; clear hM'; clear tk_h1) | (have _t := tk_C; go_at_call 6; refine (HI.out _ (HE.out.below hM.below)).mono ?_; rintro e W' ⟨vr, rfl, hL0⟩; obtain ⟨aC, cC, rfl, hbl⟩ := hL0.zero Hn.out; have hM' := hM.call hbl; clear hM hbl hL0 tk_C; have hM := hM'; clear hM') | (have _t := tk_e2; go_at_call 7; (with_reducible refine (eqHurdleS_zero aC aA cC cA _).mono ?_); rintro e W' ⟨rfl, hb'⟩; have hM' := hM.call hb'; clear hM hb'; have hM := hM'; clear hM'; clear tk_e2) | (have _t := tk_h2; go_at_call 9; (with_reducible refine (heldHurdleS_zero _ _ _ _).mono ?_); rintro e W' ⟨rfl, hb'⟩; have hM' := hM.call hb'; clear hM hb'; have hM := hM'; clear hM'; clear tk_h2))
    go_ret
    exact ⟨rfl, hM.below⟩
  have Hn := Lib.hid hn
  clear hn
  obtain ⟨MM, hMM⟩ : ∃ q : Nat, q = 1 + LN * 3 := ⟨_, rfl⟩
  have hMd : decide ((MM : Int) < 0) = false := decide_eq_false (by omega)
  have hMn : ¬ (MM : Int) < 0 := by omega
  have HMM := Lib.hid hMM
  clear hMM
  have tk_A : True := trivial; have tk_B : True := trivial; have tk_e1 : True := trivial; have tk_m : True := trivial; have tk_h1 : True := trivial; have tk_C : True := trivial; have tk_e2 : True := trivial; have tk_h2 : True := trivial
  go_enter Tryz.func3, Tryz.ntmps3
  go_wp2_with (first | (have _t := tk_A; go_at_call 5; refine (HS.out _).mono ?_; rintro e W' ⟨vr, rfl, hL0⟩; obtain ⟨bA, cA, FA, rfl, hbA, hcA, hFA, hAA, hbl⟩ := hL0.some Hn.out; have h2A := Nat.le_trans hM.size hbA; have hNA : LN * 3 ≤ cA * 3 := Nat.mul_le_mul_right 3 hcA; have hM' := hM.freshH hbl hAA hbA; clear hM hAA hbl hL0 hbA tk_A; have HFA := Lib.hid hFA; clear hFA; have hM := hM'; clear hM') | (have _t := tk_B; go_at_call 6; refine (HI.out _ (HE.out.below hM.below)).mono ?_; rintro e W' ⟨vr, rfl, hL0⟩; obtain ⟨bB, cB, FB, rfl, hbB, hcB, hFB, hAA, hbl⟩ := hL0.some Hn.out; have h2B := Nat.le_trans hM.size hbB; have hNB : LN * 3 ≤ cB * 3 := Nat.mul_le_mul_right 3 hcB; have hM' := hM.freshH hbl hAA hbB; clear hM hAA hbl hL0 hbB tk_B; have HFB := Lib.hid hFB; clear hFB; have hM := hM'; clear hM') | (have _t := tk_e1; go_at_call 7; (with_reducible refine (eqHurdleS_list bB bA LN cB cA (cB * 3) (cA * 3) FB FA HS0 HFB.out HFA.out hNB hNA hle _ (hM.ats 0 _ _ _ rfl) (hM.ats 1 _ _ _ rfl) (hM.apart 0 1 _ _ rfl rfl (by omega))).mono ?_); rintro e W' ⟨rfl, hb'⟩; have hM' := hM.call hb'; clear hM hb'; have hM := hM'; clear hM'; clear tk_e1) | (have _t := tk_m; go_at_call 8; refine (markHurdleS_list _ _ bB LN cB (cB * 3) 1 FB hNB hle (by omega) h2B _ hM).mono ?_; rintro e W' ⟨rfl, GB, hGB, hM'⟩; rw [← HMM.out]; have HGB := Lib.hid hGB; clear hM hGB tk_m; have hM := hM'; clear hM') | (have _t := tk_h1; go_at_call 9; refine (heldHurdleS_list bB LN cB (cB * 3) 1 GB hNB hle (by omega) HGB.out _ (hM.ats 0 _ _ _ rfl)).mono ?_; rintro e W' ⟨rfl, hb'⟩; rw [← HMM.out]; have hM' := hM.call hb'; clear hM hb' tk_h1; have hM := hM'; clear hM') | (have _t := tk_C; go_at_call 6; refine (HI.out _ (HE.out.below hM.below)).mono ?_; rintro e W' ⟨vr, rfl, hL0⟩; obtain ⟨bC, cC, FC, rfl, hbC, hcC, hFC, hAA, hbl⟩ := hL0.some Hn.out; have h2C := Nat.le_trans hM.size hbC; have hNC : LN * 3 ≤ cC * 3 := Nat.mul_le_mul_right 3 hcC; have hM' := hM.freshH hbl hAA hbC; clear hM hAA hbl hL0 hbC tk_C; have HFC := Lib.hid hFC; clear hFC; have hM := hM'; clear hM') | (have _t := tk_e2; go_at_call 7; (with_reducible refine (eqHurdleS_list bC bA LN cC cA (cC * 3) (cA * 3) FC FA HS0 HFC.out HFA.out hNC hNA hle _ (hM.ats 0 _ _ _ rfl) (hM.ats 2 _ _ _ rfl) (hM.apart 0 2 _ _ rfl rfl (by omega))).mono ?_); rintro e W' ⟨rfl, hb'⟩; have hM' := hM.call hb'; clear hM hb'; have hM := hM'; clear hM'; clear tk_e2) | (have _t := tk_h2; go_at_call 9; refine (heldHurdleS_list bB LN cB (cB * 3) 1 GB hNB hle (by omega) HGB.out _ (hM.ats 1 _ _ _ rfl)).mono ?_; rintro e W' ⟨rfl, hb'⟩; rw [← HMM.out]; have hM' := hM.call hb'; clear hM hb' tk_h2; have hM := hM'; clear hM'))
  go_ret
  exact ⟨rfl, hM.below⟩
end Go.Proofs.YtaaphdbaocjecaaGreatDoor

