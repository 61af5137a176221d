/-
  Several texts in one: AreFoesC, FoesOfC, GroupsI, AsQ.
-/
import Derived.Test.YthodkbmenndnoaaDoorP9
import Derived.Stop.Asserts
/-
  spec.AreFoes, impl.AreFoes by contracts.
-/
namespace Go.Proofs.YthodkbmenndnoaaDoor
open Go Go.RowKit Go.BigFrame

def two2 (x y : Int) : Nat → Int := fun j => if j = 0 then x else y
def boolCode (b : Bool) (c : Int) : Value := .tuple #[.bool b, .int .i64 c]
def areC (d : Hd) (x y : Int) : Int := askC d 2 (two2 x y)
def areB (d : Hd) (x y : Int) : Bool := decide (areC d x y = 0) && foe d x.toNat y.toNat
theorem lit2_ints {x y : Int} {W : World} {b : Nat} {F : Nat → Value} (h : At W b 2 F) (hF : F = fun k => if k = 0 then .int .i64 x else .int .i64 y) : IntsAt W (some ⟨b, 0, none⟩) 2 (two2 x y) :=
  .inr ⟨b, 2, F, rfl, by omega, fun j _ => by rw [hF]; simp only [two2]; split <;> rfl, h⟩
theorem are_0 {d : Hd} {x y : Int} (h : areC d x y = 0) : HerdOk d ∧ (∀ j, j < 2 → 0 ≤ two2 x y j ∧ two2 x y j < d.n1) ∧ areB d x y = foe d x.toNat y.toNat ∧ ∃ i k : Nat, x = i ∧ y = k ∧ i < d.n1 ∧ k < d.n1 := by
  obtain ⟨h1, h2⟩ := askC_0 h
  have hx := h2 0 (by omega)
  have hy := h2 1 (by omega)
  simp only [two2] at hx hy
  refine ⟨h1, h2, by unfold areB; rw [decide_eq_true h, Bool.true_and], x.toNat, y.toNat, ?_⟩
  simp at hx hy
  omega
theorem are_no {d : Hd} {x y : Int} (h : areC d x y ≠ 0) : areB d x y = false := by unfold areB; rw [decide_eq_false h]; rfl

set_option maxRecDepth 100000 in
set_option maxHeartbeats 2000000 in
theorem specAreFoes_any (d : Hd) (b1 b2 b3 : Nat) (hd : FitsH d) (x y : Int) (w : World) (hM0 : Mem w (hdB d b1 b2 b3) w) :
    Calls Tryd.prog 26 #[.agg (arr 3 (hdV d b1 b2 b3)), .int .i64 x, .int .i64 y] w fun e w' => e = .returned (boolCode (areB d x y) (areC d x y)) ∧ Below w.heap.size w w' := by
  have hM : Mem w (hdB d b1 b2 b3 ++ []) w := by rw [List.append_nil]; exact hM0
  have H0 := Lib.hid hM0
  clear hM0
  have HAC := Lib.hid (fun (bh : Nat) (a : Option Addr) (W : World) hB hG => l06Asked_any d bh b1 b2 b3 hd a 2 2 (two2 x y) (by omega) W hB hG)
  by_cases hc : areC d x y = 0
  · obtain ⟨hOk, -, hB, i, k, rfl, rfl, hi, hk⟩ := are_0 hc
    have h14 := hOk.n
    have a3 : hdV d b1 b2 b3 2 = .slice (some ⟨b3, 0, none⟩) d.n3 d.n3 := rfl
    have HC := Lib.hid (show askC d 2 (two2 (i : Int) (k : Int)) = 0 from hc)
    have HR := Lib.hid (show boolCode (areB d (i : Int) (k : Int)) (areC d (i : Int) (k : Int)) = .tuple #[.bool (foe d i k), .int .i64 0] from by rw [hB, hc]; rfl)
    have HARE := Lib.hid (fun (bh : Nat) (W : World) (hH : At W bh 3 (hdV d b1 b2 b3)) (h3 : At W b3 d.n3 (vUint16S d.fs)) => l06Are_at d bh b3 d.n3 d.n3 d.n3 (hdV d b1 b2 b3) (vUint16S d.fs) a3 i k (by rw [hOk.l3]; exact hi) (Nat.le_refl _) (by omega) (hd.f i (by rw [hOk.l3]; exact hi)) rfl W hH h3)
    clear hc hB hOk
    have tk_x1 : True := trivial; have tk_l1 : True := trivial
    go_enter Tryd.func26, Tryd.ntmps26
    go_wp2_with (first | (have _t := tk_x1; refine wpList_box rfl _ _ rfl _ _ rfl hM ?_; intro x1 W' hx1 hM'; clear hM tk_x1; have hM := hM'; clear hM') | (have _t := tk_l1; refine wpList_lit2 rfl _ _ _ _ rfl (.int .i64 (i : Int)) (.int .i64 (k : Int)) rfl rfl rfl rfl _ int64s_underR int64_infoR hM ?_; intro l1 W' hl1 hM'; clear hM tk_l1; have hM := hM'; clear hM') | (go_at_call 62; refine (HAC.out x1 _ _ (hM.drop.boxed) (lit2_ints (hM.ats 0 _ _ _ rfl) rfl)).mono ?_; rintro e W' ⟨rfl, hb'⟩; rw [HC.out]; have hM' := hM.call hb'; clear hM hb'; have hM := hM'; clear hM') | (go_at_call 63; (with_reducible refine (HARE.out x1 _ (hM.ats 1 _ _ _ rfl) (hM.ats 4 _ _ _ rfl)).mono ?_); rintro e W' ⟨rfl, hb'⟩; have hM' := hM.call hb'; clear hM hb'; have hM := hM'; clear hM'))
    go_ret2
    rw [HR.out]
    exact ⟨rfl, hM.below⟩
  · have HR := Lib.hid (show boolCode (areB d x y) (areC d x y) = .tuple #[.bool false, .int .i64 (askC d 2 (two2 x y))] from by rw [are_no hc]; rfl)
    have hz : askC d 2 (two2 x y) ≠ 0 := hc
    rw [HR.out]
    clear hc HR
    generalize askC d 2 (two2 x y) = C at *
    have z1 : (C != 0) = true := bne_iff_ne.2 hz
    have z2 : (C == 0) = false := beq_eq_false_iff_ne.2 hz
    have tk_x1 : True := trivial; have tk_l1 : True := trivial
    go_enter Tryd.func26, Tryd.ntmps26
    go_wp2_with (first | (have _t := tk_x1; refine wpList_box rfl _ _ rfl _ _ rfl hM ?_; intro x1 W' hx1 hM'; clear hM tk_x1; have hM := hM'; clear hM') | (have _t := tk_l1; refine wpList_lit2 rfl _ _ _ _ rfl (.int .i64 x) (.int .i64 y) rfl rfl rfl rfl _ int64s_underR int64_infoR hM ?_; intro l1 W' hl1 hM'; clear hM tk_l1; have hM := hM'; clear hM') | (go_at_call 62; (with_reducible refine (HAC.out x1 _ _ (hM.drop.boxed) (lit2_ints (hM.ats 0 _ _ _ rfl) rfl)).mono ?_); rintro e W' ⟨rfl, hb'⟩; have hM' := hM.call hb'; clear hM hb'; have hM := hM'; clear hM'))
    go_ret2
    exact ⟨rfl, hM.below⟩

set_option maxRecDepth 100000 in
set_option maxHeartbeats 2000000 in
theorem implAreFoes_any {a : Nat → Addr} (d : Hd) (b1 b2 b3 : Nat) (hd : FitsH d) (x y : Int) (w : World) (hM0 : Mem w (hdB d b1 b2 b3) w) (hE : Errs a w) (hT : Tab w) :
    Calls Tryd.prog 27 #[.agg (arr 3 (hdV d b1 b2 b3)), .int .i64 x, .int .i64 y] w fun e w' => e = .returned (boolCode (areB d x y) (areC d x y)) ∧ Below w.heap.size w w' := by
  have hM := Mem.nil w
  have H0 := Lib.hid hM0
  have HE := Lib.hid hE
  have HT := Lib.hid hT
  clear hM0 hE hT
  by_cases hc : areC d x y = 0
  · obtain ⟨hOk, hys, hB, i, k, rfl, rfl, hi, hk⟩ := are_0 hc
    have h14 := hOk.n
    have HR := Lib.hid (show boolCode (areB d (i : Int) (k : Int)) (areC d (i : Int) (k : Int)) = .tuple #[.bool (foe d i k), .int .i64 0] from by rw [hB, hc]; rfl)
    have hFW := fun (ga : Option Addr) (W : World) hB hE hG => flockWith_ok (r := a 1) d b1 b2 b3 hd ga 2 2 (two2 (i : Int) (k : Int)) (by omega) W hB hE hG hOk hys
    have HAF := Lib.hid (fun (ma : Option Addr) (c : Nat) (W : World) hA => areFoes_any d ma d.n1 c i k hi (by omega) (hd.f i (by rw [hOk.l3]; exact hi)) W hA)
    clear hc hB hys
    obtain ⟨hv, hhv⟩ : ∃ f, hdV d b1 b2 b3 = f := ⟨_, rfl⟩
    rw [hhv] at hFW ⊢
    have HFW := Lib.hid hFW
    obtain ⟨n, hn⟩ : ∃ n, d.n1 = n := ⟨_, rfl⟩
    rw [hn] at HFW HAF
    clear hhv hFW hOk
    have tk_x1 : True := trivial; have tk_r1 : True := trivial; have tk_l1 : True := trivial; have tk_f8 : True := trivial; have tk_s1 : True := trivial
    go_enter Tryd.func27, Tryd.ntmps27
    go_wp2_with (first | (have _t := tk_x1; refine wpList_box rfl _ _ rfl _ _ rfl hM ?_; intro x1 W' hx1 hM'; clear hM tk_x1; have hM := hM'; clear hM') | (have _t := tk_r1; refine wpList_get rfl _ _ rfl _ _ rfl hM 0 rfl (rowTab _ _ rfl) (by omega) ?_; simp only [Nat.zero_add]; clear tk_r1) | (have _t := tk_l1; refine wpList_lit2 rfl _ _ _ _ rfl (.int .i64 (i : Int)) (.int .i64 (k : Int)) rfl rfl rfl rfl _ int64s_underR int64_infoR hM ?_; intro l1 W' hl1 hM'; clear hM tk_l1; have hM := hM'; clear hM') | (go_at_call 64; refine (HFW.out _ _ ((H0.out.call hM.below).base (Below.refl _ _)) ⟨(HE.out.below hM.below).vars 1 (by omega), HT.out.below hM.below⟩ (lit2_ints (hM.ats 0 _ _ _ rfl) rfl)).mono ?_; rintro e Wf ⟨ma, mc, m, rfl, hmc, hMA, hO, hb'⟩; have hM' := hM.call hb'; have HB0 := Lib.hid hM'.below; have hM2 := hM'.base (w' := Base.of Wf) (Below.refl _ _); have HMA := Lib.hid hMA; clear hM hb' hO hMA hM'; have hM := hM2; clear hM2) | (have _t := tk_f8; refine wpList_zero rfl _ rfl (zeroTab _ _ _ rfl) hM ?_; intro f8 W' hf8 hM'; clear hM tk_f8; have hM := hM'; clear hM') | (have _t := tk_s1; refine wpList_lay rfl _ _ _ rfl _ _ rfl _ _ rfl hM 0 rfl (by assumption) (rowTab _ _ rfl) (by omega) (fun k _ => flkV_one _ _ _ _ k) ?_; intro W' hM'; have hM2 := hM'.re 0 rfl (flkV ma n mc m) (fun k hk => by simp [lay, hk]); simp only [List.set] at hM2; clear hM hM' tk_s1; have hM := hM2; clear hM2) | (refine wpList_get1 rfl _ _ rfl _ _ rfl hM 0 rfl (cellTab _ rfl) (by omega) (.slice ma n mc) rfl ?_) | (go_at_call 70; (with_reducible refine (HAF.out ma mc _ (HMA.out.below hM.below)).mono ?_); rintro e W' ⟨rfl, hb'⟩; have hM' := hM.call hb'; clear hM hb'; have hM := hM'; clear hM'))
    go_ret2
    rw [HR.out]
    exact ⟨rfl, HB0.out.trans (hM.below.mono HB0.out.size)⟩
  · have HR := Lib.hid (show boolCode (areB d x y) (areC d x y) = .tuple #[.bool false, .int .i64 (askC d 2 (two2 x y))] from by rw [are_no hc]; rfl)
    have hz : askC d 2 (two2 x y) ≠ 0 := hc
    have hFW := fun (ga : Option Addr) (W : World) hB hE hT hG => flockWith_bad (a := a) d b1 b2 b3 hd ga 2 2 (two2 x y) (by omega) W hB hE hT hG hz
    rw [HR.out]
    clear hc HR
    obtain ⟨hv, hhv⟩ : ∃ f, hdV d b1 b2 b3 = f := ⟨_, rfl⟩
    rw [hhv] at hFW ⊢
    generalize askC d 2 (two2 x y) = C at *
    have HFW := Lib.hid hFW
    clear hhv hFW
    have tk_x1 : True := trivial; have tk_r1 : True := trivial; have tk_l1 : True := trivial; have tk_f8 : True := trivial; have tk_s1 : True := trivial
    go_enter Tryd.func27, Tryd.ntmps27
    go_wp2_with (first | (have _t := tk_x1; refine wpList_box rfl _ _ rfl _ _ rfl hM ?_; intro x1 W' hx1 hM'; clear hM tk_x1; have hM := hM'; clear hM') | (have _t := tk_r1; refine wpList_get rfl _ _ rfl _ _ rfl hM 0 rfl (rowTab _ _ rfl) (by omega) ?_; simp only [Nat.zero_add]; clear tk_r1) | (have _t := tk_l1; refine wpList_lit2 rfl _ _ _ _ rfl (.int .i64 x) (.int .i64 y) rfl rfl rfl rfl _ int64s_underR int64_infoR hM ?_; intro l1 W' hl1 hM'; clear hM tk_l1; have hM := hM'; clear hM') | (go_at_call 64; refine (HFW.out _ _ ((H0.out.call hM.below).base (Below.refl _ _)) (HE.out.below hM.below) (HT.out.below hM.below) (lit2_ints (hM.ats 0 _ _ _ rfl) rfl)).mono ?_; rintro e Wf ⟨ff, ev, rfl, hone, hEv, hb'⟩; have hM' := hM.call hb'; have hN := hEv.neq; have hGd := hEv.guard; have HEv := Lib.hid hEv; have HOne := Lib.hid hone; clear hM hb' hEv hone; have hM := hM'; clear hM') | (have _t := tk_f8; refine wpList_zero rfl _ rfl (zeroTab _ _ _ rfl) hM ?_; intro f8 W' hf8 hM'; clear hM tk_f8; have hM := hM'; clear hM') | (have _t := tk_s1; refine wpList_lay rfl _ _ _ rfl _ _ rfl _ _ rfl hM 0 rfl (by assumption) (rowTab _ _ rfl) (by omega) HOne.out ?_; intro W' hM'; clear hM tk_s1; have hM := hM'; clear hM'; simp only [List.set] at hM) | (go_at_call 65; refine (HEv.out.code (HE.out.below hM.below)).mono ?_; rintro e W' ⟨rfl, rfl⟩))
    go_ret2
    exact ⟨rfl, hM.below⟩
end Go.Proofs.YthodkbmenndnoaaDoor

/-
  spec.FoesOf, impl.FoesOf by contracts.
-/
namespace Go.Proofs.YthodkbmenndnoaaDoor
open Go Go.RowKit Go.BigFrame

def oneY (x : Int) : Nat → Int := fun _ => x
def foesC (d : Hd) (x : Int) : Int := askC d 1 (oneY x)
def foesL (d : Hd) (x : Int) : List Nat := if foesC d x = 0 then bitsL (d.fs x.toNat).toNat else []
theorem lit1_ints {x : Int} {W : World} {b : Nat} {F : Nat → Value} (h : At W b 1 F) (hF : F = fun _ => .int .i64 x) : IntsAt W (some ⟨b, 0, none⟩) 1 (oneY x) :=
  .inr ⟨b, 1, F, rfl, by omega, fun j _ => by rw [hF]; rfl, h⟩
theorem foes_0 {d : Hd} {x : Int} (h : foesC d x = 0) : HerdOk d ∧ (∀ j, j < 1 → 0 ≤ oneY x j ∧ oneY x j < d.n1) ∧ foesL d x = bitsL (d.fs x.toNat).toNat ∧ ∃ i : Nat, x = i ∧ i < d.n1 := by
  obtain ⟨h1, h2⟩ := askC_0 h
  have hx := h2 0 (by omega)
  simp only [oneY] at hx
  refine ⟨h1, h2, by unfold foesL; rw [if_pos h], x.toNat, ?_⟩
  omega
theorem foes_no {d : Hd} {x : Int} (h : foesC d x ≠ 0) : foesL d x = [] := by unfold foesL; rw [if_neg h]
/-- What comes of it. -/
def GivesF2 (l : List Nat) (c : Int) (w : World) (e : Ending) (w' : World) : Prop := GivesR 1 l.length (vInt64S (numsF (natI l))) c w e w'
theorem GivesF2.none {l : List Nat} {cc cc' : Int} {w w' : World} {a : Option Addr} {c : Nat} (hb : Below w.heap.size w w') (hn : l = []) (hc : cc' = cc) : GivesF2 l cc w (.returned (.tuple #[.slice a 0 c, .int .i64 cc'])) w' := GivesR.none hb (by rw [hn]; rfl) hc
theorem GivesF2.some {l : List Nat} {w w' : World} {v : Value} (h : Lst w [] 1 v l.length (vI (natI l)) w') : GivesF2 l 0 w (.returned (.tuple #[v, .int .i64 0])) w' := ⟨v, rfl, h.newL⟩
/-- The foes of a goat, found one by one. -/
def foeU (d : Hd) (i : Nat) : Nat → List Nat
  | 0 => []
  | k + 1 => if foe d i k then foeU d i k ++ [k] else foeU d i k
theorem foeU_eq (d : Hd) (i : Nat) : ∀ n, foeU d i n = (List.range n).filter fun k => foe d i k
  | 0 => rfl
  | n + 1 => by
    rw [List.range_succ, List.filter_append, ← foeU_eq d i n]
    simp only [foeU, List.filter_cons, List.filter_nil]
    cases foe d i n <;> simp
theorem foeU_len (d : Hd) (i n : Nat) : (foeU d i n).length ≤ n := by
  rw [foeU_eq]
  have := List.length_filter_le (fun k => foe d i k) (List.range n)
  simpa using this
theorem foeU_bits {d : Hd} {i n : Nat} (hn : n ≤ 16) (h : (d.fs i).toNat < 2 ^ n) : foeU d i n = bitsL (d.fs i).toNat := by
  rw [foeU_eq]
  unfold bitsL
  have e : List.range 16 = List.range n ++ (List.range (16 - n)).map (n + ·) := by rw [← List.range_add]; congr 1; omega
  rw [e, List.filter_append]
  have e2 : ((List.range (16 - n)).map (n + ·)).filter (fun k => (d.fs i).toNat.testBit k) = [] := by
    rw [List.filter_eq_nil_iff]
    intro a ha
    simp at ha
    obtain ⟨q, -, rfl⟩ := ha
    rw [Nat.testBit_lt_two_pow (Nat.lt_of_lt_of_le h (Nat.pow_le_pow_right (by decide) (by omega)))]
    decide
  rw [e2, List.append_nil]
  rfl

set_option maxRecDepth 100000 in
set_option maxHeartbeats 4000000 in
theorem specFoesOf_any (d : Hd) (b1 b2 b3 : Nat) (hd : FitsH d) (x : Int) (w : World) (hM0 : Mem w (hdB d b1 b2 b3) w) :
    Calls Tryd.prog 20 #[.agg (arr 3 (hdV d b1 b2 b3)), .int .i64 x] w (GivesF2 (foesL d x) (foesC d x) w) := by
  have hM : Mem w (hdB d b1 b2 b3 ++ []) w := by rw [List.append_nil]; exact hM0
  have H0 := Lib.hid hM0
  clear hM0
  have HAC := Lib.hid (fun (bh : Nat) (a : Option Addr) (W : World) hB hG => l06Asked_any d bh b1 b2 b3 hd a 1 1 (oneY x) (by omega) W hB hG)
  by_cases hc : foesC d x = 0
  · obtain ⟨hOk, -, hB, i, rfl, hi⟩ := foes_0 hc
    have h14 := hOk.n
    have a1 : hdV d b1 b2 b3 0 = .slice (some ⟨b1, 0, none⟩) d.n1 d.n1 := rfl
    have a3 : hdV d b1 b2 b3 2 = .slice (some ⟨b3, 0, none⟩) d.n3 d.n3 := rfl
    have hfi := hd.f i (by rw [hOk.l3]; exact hi)
    have HC := Lib.hid (show askC d 1 (oneY (i : Int)) = 0 from hc)
    have HR := Lib.hid (show foesL d (i : Int) = foeU d i d.n1 ∧ foesC d (i : Int) = 0 from ⟨by rw [hB, foeU_bits (by omega)]; rfl; have := hOk.foes i hi; rw [Int.toNat_lt (by omega)]; exact_mod_cast this, hc⟩)
    have HARE := Lib.hid (fun (bh : Nat) (k : Nat) (hk : k < d.n1) (W : World) (hH : At W bh 3 (hdV d b1 b2 b3)) (h3 : At W b3 d.n3 (vUint16S d.fs)) => l06Are_at d bh b3 d.n3 d.n3 d.n3 (hdV d b1 b2 b3) (vUint16S d.fs) a3 i k (by rw [hOk.l3]; exact hi) (Nat.le_refl _) (by omega) hfi rfl W hH h3)
    clear hc hB hOk hfi
    have tk_x1 : True := trivial; have tk_l1 : True := trivial; have tk_s0 : True := trivial
    go_enter Tryd.func20, Tryd.ntmps20
    go_wp2_with (first | (have _t := tk_x1; refine wpList_box rfl _ _ rfl _ _ rfl hM ?_; intro x1 W' hx1 hM'; clear hM tk_x1; have hM := hM'; clear hM') | (have _t := tk_l1; refine wpList_lit1 rfl _ _ _ rfl (.int .i64 (i : Int)) rfl rfl _ int64s_underR int64_infoR hM ?_; intro l1 W' hl1 hM'; clear hM tk_l1; have hM := hM'; clear hM') | (go_at_call 62; refine (HAC.out x1 _ _ (hM.drop.boxed) (lit1_ints (hM.ats 0 _ _ _ rfl) rfl)).mono ?_; rintro e W' ⟨rfl, hb'⟩; rw [HC.out]; have hM' := hM.call hb'; clear hM hb'; have hM := hM'; clear hM') | (have _t := tk_s0; refine wpList_slice0 rfl _ _ rfl _ int64s_underR int64_info0 hM ?_; intro s0 W' hs0 hM'; clear hM tk_s0; have hM := hM'; clear hM'))
    have HF0 := Lib.hid (fun j (hj : j < (natI (foeU d i 0)).length * 1) => show (fun _ : Nat => undef) j = vI (natI (foeU d i 0)) j from absurd hj (by simp [foeU, natI]))
    obtain ⟨n, hn⟩ : ∃ n, d.n1 = n := ⟨_, rfl⟩
    rw [hn] at HR HARE a1 hi h14
    clear hn
    simp only [hdB, List.cons_append, List.nil_append] at hM
    generalize hdV d b1 b2 b3 = hv at *
    go_loopw [7, 8] (fun v i8 wr => ∃ k : Nat, k ≤ n ∧ i8 = .int .i64 k ∧ ∃ b c F, v = .slice (some ⟨b, 0, none⟩) (natI (foeU d i k)).length c ∧ w.heap.size ≤ b ∧ (natI (foeU d i k)).length ≤ c ∧ Hid (∀ j, j < (natI (foeU d i k)).length * 1 → F j = vI (natI (foeU d i k)) j) ∧ Mem w ((b, c * 1, F) :: (l1, 1, fun _ => Value.int .i64 (i : Int)) :: (x1, 3, hv) :: (b1, d.n1, vStringS d.ss) :: (b2, d.n2, vInt16S d.es) :: [(b3, d.n3, vUint16S d.fs)]) wr) (fun _ i8 _ => n - (intOf i8).toNat)
    case atStart => exact ⟨0, by omega, rfl, s0, 0, _, rfl, hs0, by simp [foeU, natI], HF0, hM⟩
    case round =>
      clear hM
      obtain ⟨k, hk, rfl, b, c, F, rfl, hbb, hnc, hF, hM⟩ := hrel
      by_cases hlt : k < n
      · have l2 : (k : Int) < n := by omega
        have hlen : (natI (foeU d i k)).length ≤ 1048576 := by rw [natI_len]; have := foeU_len d i k; omega
        have HN := Lib.hid (fun (h : foe d i k = true) => show natI (foeU d i (k + 1)) = natI (foeU d i k) ++ [(k : Int)] from by simp [foeU, h, natI])
        have HN2 := Lib.hid (fun (h : foe d i k = false) => show natI (foeU d i (k + 1)) = natI (foeU d i k) from by simp [foeU, h])
        generalize natI (foeU d i k) = rl at *
        have Hnew := Lib.hid (fun j (hj : j < 1) => vI_new rl (k : Int) hj)
        have Hf := Lib.hid (fun j (hj : j < rl.length * 1) => (hF.out j hj).trans (vI_old rl (k : Int) hj))
        cases hfo : foe d i k
        · have HFo := Lib.hid hfo
          have HE := Lib.hid (HN2.out hfo)
          clear hfo HN HN2
          go_wp2_with (first | (refine wpList_get1 rfl _ _ rfl _ _ rfl hM 2 rfl (cellTab _ rfl) (by omega) _ a1 ?_) | (go_at_call 63; refine (HARE.out x1 k hlt _ (hM.ats 2 _ _ _ rfl) (hM.ats 5 _ _ _ rfl)).mono ?_; rintro e W' ⟨rfl, hb'⟩; rw [HFo.out]; have hM' := hM.call hb'; clear hM hb'; have hM := hM'; clear hM'))
          go_roundw
          case rel => exact ⟨k + 1, by omega, by go_num, b, c, F, by rw [HE.out], hbb, by rw [HE.out]; exact hnc, by rw [HE.out]; exact hF, hM⟩
          case measure => simp [intOf]; omega
        · have HFo := Lib.hid hfo
          have HE := Lib.hid (HN.out hfo)
          clear hfo HN HN2
          have tk_l2b : True := trivial; have tk_p1 : True := trivial
          go_wp2_with (first | (refine wpList_get1 rfl _ _ rfl _ _ rfl hM 2 rfl (cellTab _ rfl) (by omega) _ a1 ?_) | (go_at_call 63; refine (HARE.out x1 k hlt _ (hM.ats 2 _ _ _ rfl) (hM.ats 5 _ _ _ rfl)).mono ?_; rintro e W' ⟨rfl, hb'⟩; rw [HFo.out]; have hM' := hM.call hb'; clear hM hb'; have hM := hM'; clear hM') | (have _t := tk_l2b; refine wpList_lit1 rfl _ _ _ rfl (.int .i64 (k : Int)) rfl rfl _ int64s_underR int64_infoR hM ?_; intro l2b W' hl2b hM'; clear hM tk_l2b; have hM := hM'; clear hM') | (have _t := tk_p1; refine wpList_push1 rfl _ _ _ rfl _ 1 _ _ int64s_underR infoInt64S rfl (by omega) _ _ _ _ rfl hbb hnc hlen _ _ rfl i64_one hM (vI (rl ++ [(k : Int)])) Hf.out Hnew.out ?_; intro bL cL FL W' hbL hcL hFL hM'; clear hM tk_p1; have hM := hM'; clear hM'))
          go_roundw
          case rel => exact ⟨k + 1, by omega, by go_num, bL, cL, FL, by rw [HE.out, List.length_append]; rfl, hbL, by rw [HE.out, List.length_append]; exact hcL, by rw [HE.out, List.length_append]; exact Lib.hid hFL, hM⟩
          case measure => simp [intOf]; omega
      · obtain rfl : k = n := by omega
        go_wp2_with (first | (refine wpList_get1 rfl _ _ rfl _ _ rfl hM 2 rfl (cellTab _ rfl) (by omega) _ a1 ?_))
        go_ret2
        rw [HR.out.1, HR.out.2]
        have hL : Lst w _ 1 (.slice (some ⟨b, 0, none⟩) (natI (foeU d i k)).length c) (natI (foeU d i k)).length (vI (natI (foeU d i k))) wr := .inr ⟨b, c, F, rfl, hbb, hnc, hF.out, hM⟩
        rw [natI_len] at hL ⊢
        exact GivesF2.some hL.only
  · have hz : askC d 1 (oneY x) ≠ 0 := hc
    have HR := Lib.hid (foes_no hc)
    unfold foesC
    clear hc
    generalize askC d 1 (oneY x) = C at *
    have z1 : (C != 0) = true := bne_iff_ne.2 hz
    have z2 : (C == 0) = false := beq_eq_false_iff_ne.2 hz
    have tk_x1 : True := trivial; have tk_l1 : True := trivial; have tk_s0 : True := trivial
    go_enter Tryd.func20, Tryd.ntmps20
    go_wp2_with (first | (have _t := tk_x1; refine wpList_box rfl _ _ rfl _ _ rfl hM ?_; intro x1 W' hx1 hM'; clear hM tk_x1; have hM := hM'; clear hM') | (have _t := tk_l1; refine wpList_lit1 rfl _ _ _ rfl (.int .i64 x) rfl rfl _ int64s_underR int64_infoR hM ?_; intro l1 W' hl1 hM'; clear hM tk_l1; have hM := hM'; clear hM') | (go_at_call 62; (with_reducible refine (HAC.out x1 _ _ (hM.drop.boxed) (lit1_ints (hM.ats 0 _ _ _ rfl) rfl)).mono ?_); rintro e W' ⟨rfl, hb'⟩; have hM' := hM.call hb'; clear hM hb'; have hM := hM'; clear hM') | (have _t := tk_s0; refine wpList_slice0 rfl _ _ rfl _ int64s_underR int64_info0 hM ?_; intro s0 W' hs0 hM'; clear hM tk_s0; have hM := hM'; clear hM'))
    go_ret2
    exact GivesF2.none hM.below HR.out rfl
theorem Lst.rise {w0 w1 : World} {K : Blocks} {m n : Nat} {v : Value} {R : Nat → Value} {W : World} (hM : Mem w0 K w1) (h : Lst w1 [] m v n R W) : Lst w0 [] m v n R W ∧ Below w1.heap.size w1 W := by
  rcases h with ⟨h1, h2, h⟩ | ⟨b, c, F, h1, h2, h3, h4, h⟩
  · exact ⟨.inl ⟨h1, h2, Mem.start (hM.call h.below).good⟩, h.below⟩
  · exact ⟨.inr ⟨b, c, F, h1, Nat.le_trans hM.size h2, h3, h4, h.base (hM.call h.below).good⟩, h.below⟩
/-- A goat's foes out of the program's goats. -/
theorem MemsAt.foes {W : World} {a : Option Addr} {n : Nat} {d : Hd} (h : MemsAt W a n d) {i : Nat} (hi : i < n) {s : Nat} (hs : d.fs i = s) : ∃ b N F, a = some ⟨b, 0, none⟩ ∧ i * 3 + 2 < N ∧ F (i * 3 + 2) = .int .u16 s ∧ At W b N F := by
  obtain ⟨b, N, F, h1, h2, -, h3, h4⟩ := h.row hi
  exact ⟨b, N, F, h1, by omega, (h3 2 (by omega)).trans (by rw [← hs]; rfl), h4⟩
set_option maxRecDepth 100000 in
set_option maxHeartbeats 4000000 in
theorem implFoesOf_any {a : Nat → Addr} (d : Hd) (b1 b2 b3 : Nat) (hd : FitsH d) (x : Int) (w : World) (hM0 : Mem w (hdB d b1 b2 b3) w) (hE : Errs a w) (hT : Tab w) :
    Calls Tryd.prog 21 #[.agg (arr 3 (hdV d b1 b2 b3)), .int .i64 x] w (GivesF2 (foesL d x) (foesC d x) w) := by
  have hM := Mem.nil w
  have H0 := Lib.hid hM0
  have HE := Lib.hid hE
  have HT := Lib.hid hT
  clear hM0 hE hT
  by_cases hc : foesC d x = 0
  · obtain ⟨hOk, hys, hB, i, rfl, hi⟩ := foes_0 hc
    have h14 := hOk.n
    have hfi := hd.f i (by rw [hOk.l3]; exact hi)
    obtain ⟨s, hs⟩ : ∃ s : Nat, d.fs i = s := ⟨(d.fs i).toNat, by omega⟩
    have hs2 : s < 65536 := by omega
    have HR := Lib.hid (show foesL d (i : Int) = bitsL s ∧ foesC d (i : Int) = 0 from ⟨by rw [hB, Int.toNat_natCast, hs]; rfl, hc⟩)
    have Hs := Lib.hid hs
    have hFW := fun (ga : Option Addr) (W : World) hB hE hG => flockWith_ok (r := a 1) d b1 b2 b3 hd ga 1 1 (oneY (i : Int)) (by omega) W hB hE hG hOk hys
    clear hc hB hys hs hfi
    obtain ⟨hv, hhv⟩ : ∃ f, hdV d b1 b2 b3 = f := ⟨_, rfl⟩
    rw [hhv] at hFW ⊢
    have HFW := Lib.hid hFW
    obtain ⟨n, hn⟩ : ∃ n, d.n1 = n := ⟨_, rfl⟩
    rw [hn] at HFW hi
    have l2 : (i : Int) < n := by omega
    clear hhv hFW hOk
    have tk_x1 : True := trivial; have tk_r1 : True := trivial; have tk_l1 : True := trivial; have tk_f8 : True := trivial; have tk_s1 : True := trivial; have tk_m1 : True := trivial
    go_enter Tryd.func21, Tryd.ntmps21
    go_wp2_with (first | (have _t := tk_x1; refine wpList_box rfl _ _ rfl _ _ rfl hM ?_; intro x1 W' hx1 hM'; clear hM tk_x1; have hM := hM'; clear hM') | (have _t := tk_r1; refine wpList_get rfl _ _ rfl _ _ rfl hM 0 rfl (rowTab _ _ rfl) (by omega) ?_; simp only [Nat.zero_add]; clear tk_r1) | (have _t := tk_l1; refine wpList_lit1 rfl _ _ _ rfl (.int .i64 (i : Int)) rfl rfl _ int64s_underR int64_infoR hM ?_; intro l1 W' hl1 hM'; clear hM tk_l1; have hM := hM'; clear hM') | (go_at_call 64; refine (HFW.out _ _ ((H0.out.call hM.below).base (Below.refl _ _)) ⟨(HE.out.below hM.below).vars 1 (by omega), HT.out.below hM.below⟩ (lit1_ints (hM.ats 0 _ _ _ rfl) rfl)).mono ?_; rintro e Wf ⟨ma, mc, m, rfl, hmc, hMA, hO, hb'⟩; obtain ⟨bm, Nm, Fm, rfl, hNm, hFm, hAm⟩ := hMA.foes hi Hs.out; have hM' := hM.call hb'; have HB0 := Lib.hid hM'.below; have hM2 := hM'.base (w' := Base.of Wf) (Below.refl _ _); have HAm := Lib.hid hAm; clear hM hb' hO hMA hM' hAm; have hM := hM2; clear hM2) | (have _t := tk_f8; refine wpList_zero rfl _ rfl (zeroTab _ _ _ rfl) hM ?_; intro f8 W' hf8 hM'; clear hM tk_f8; have hM := hM'; clear hM') | (have _t := tk_s1; refine wpList_lay rfl _ _ _ rfl _ _ rfl _ _ rfl hM 0 rfl (by assumption) (rowTab _ _ rfl) (by omega) (fun k _ => flkV_one _ _ _ _ k) ?_; intro W' hM'; have hM2 := hM'.re 0 rfl (flkV (some ⟨bm, 0, none⟩) n mc m) (fun k hk => by simp [lay, hk]); simp only [List.set] at hM2; clear hM hM' tk_s1; have hM := hM2; clear hM2) | (have _t := tk_m1; refine wpList_get1 rfl _ _ rfl _ _ rfl hM 0 rfl (cellTab _ rfl) (by omega) (.slice (some ⟨bm, 0, none⟩) n mc) rfl ?_; clear tk_m1) | (refine wpList_getAt1 rfl _ _ rfl _ _ rfl (HAm.out.below hM.below HAm.out.lt) (cellTab _ rfl) hNm _ hFm ?_) | (go_at_call 66; refine (list_any s hs2 _ ((HT.out.below HB0.out).below hM.below)).mono ?_; rintro e W' ⟨v, rfl, hL⟩; have HL := Lib.hid hL; clear hL))
    go_ret2
    rw [HR.out.1, HR.out.2]
    have hU := Lst.rise ((hM.base (w' := Base.of w) (HB0.out.trans (hM.below.mono HB0.out.size)))) HL.out
    exact GivesF2.some hU.1
  · have hz : askC d 1 (oneY x) ≠ 0 := hc
    have HR := Lib.hid (foes_no hc)
    have hFW := fun (ga : Option Addr) (W : World) hB hE hT hG => flockWith_bad (a := a) d b1 b2 b3 hd ga 1 1 (oneY x) (by omega) W hB hE hT hG hz
    unfold foesC
    clear hc
    obtain ⟨hv, hhv⟩ : ∃ f, hdV d b1 b2 b3 = f := ⟨_, rfl⟩
    rw [hhv] at hFW ⊢
    generalize askC d 1 (oneY x) = C at *
    have HFW := Lib.hid hFW
    clear hhv hFW
    have tk_x1 : True := trivial; have tk_r1 : True := trivial; have tk_l1 : True := trivial; have tk_f8 : True := trivial; have tk_s1 : True := trivial
    go_enter Tryd.func21, Tryd.ntmps21
    go_wp2_with (first | (have _t := tk_x1; refine wpList_box rfl _ _ rfl _ _ rfl hM ?_; intro x1 W' hx1 hM'; clear hM tk_x1; have hM := hM'; clear hM') | (have _t := tk_r1; refine wpList_get rfl _ _ rfl _ _ rfl hM 0 rfl (rowTab _ _ rfl) (by omega) ?_; simp only [Nat.zero_add]; clear tk_r1) | (have _t := tk_l1; refine wpList_lit1 rfl _ _ _ rfl (.int .i64 x) rfl rfl _ int64s_underR int64_infoR hM ?_; intro l1 W' hl1 hM'; clear hM tk_l1; have hM := hM'; clear hM') | (go_at_call 64; refine (HFW.out _ _ ((H0.out.call hM.below).base (Below.refl _ _)) (HE.out.below hM.below) (HT.out.below hM.below) (lit1_ints (hM.ats 0 _ _ _ rfl) rfl)).mono ?_; rintro e Wf ⟨ff, ev, rfl, hone, hEv, hb'⟩; have hM' := hM.call hb'; have hN := hEv.neq; have hGd := hEv.guard; have HEv := Lib.hid hEv; have HOne := Lib.hid hone; clear hM hb' hEv hone; have hM := hM'; clear hM') | (have _t := tk_f8; refine wpList_zero rfl _ rfl (zeroTab _ _ _ rfl) hM ?_; intro f8 W' hf8 hM'; clear hM tk_f8; have hM := hM'; clear hM') | (have _t := tk_s1; refine wpList_lay rfl _ _ _ rfl _ _ rfl _ _ rfl hM 0 rfl (by assumption) (rowTab _ _ rfl) (by omega) HOne.out ?_; intro W' hM'; clear hM tk_s1; have hM := hM'; clear hM'; simp only [List.set] at hM) | (go_at_call 65; refine (HEv.out.code (HE.out.below hM.below)).mono ?_; rintro e W' ⟨rfl, rfl⟩))
    go_ret2
    exact GivesF2.none hM.below HR.out rfl
end Go.Proofs.YthodkbmenndnoaaDoor

/-
  (impl.members).checkNumbers, checkPeace by contracts.
-/
namespace Go.Proofs.YthodkbmenndnoaaDoor
open Go Go.RowKit Go.BigFrame

set_option maxRecDepth 100000 in
set_option maxHeartbeats 2000000 in
theorem checkNumbers_any {a : Nat → Addr} (d : Hd) (ma : Option Addr) (mc : Nat) (h14 : d.n1 ≤ 14) (ga : Option Addr) (gn gc : Nat) (ys : Nat → Int) (hgn : gn ≤ 1048576) (R : Value) (hR : (if numsB d gn ys = true then .nilIface else errV (a 2)) = R) (w : World) (hG : IntsAt w ga gn ys) (hE : Errs a w) :
    Calls Tryd.prog 96 #[.slice ma d.n1 mc, .slice ga gn gc] w fun e w' => e = .returned R ∧ Below w.heap.size w w' := by
  have hM := Mem.nil w
  have HG := Lib.hid hG
  have HE := Lib.hid hE
  have HR := Lib.hid hR
  clear hG hE hR
  by_cases hl : gn = d.n1
  case neg =>
    have v2 : w.cell? ⟨3, 0, none⟩ = some (errV (a 2)) := HE.out.vars 2 (by omega)
    have HZ := Lib.hid (show numsB d gn ys = false from by unfold numsB; rw [decide_eq_false hl]; rfl)
    have z1 : ((gn : Int) != (d.n1 : Int)) = true := bne_iff_ne.2 (by omega)
    have z2 : ((gn : Int) == (d.n1 : Int)) = false := beq_eq_false_iff_ne.2 (by omega)
    have z3 : ¬ (gn : Int) = d.n1 := by omega
    clear hl
    go_enter Tryd.func96, Tryd.ntmps96
    go_wp2
    go_ret
    exact ⟨by rw [← HR.out, HZ.out]; rfl, hM.below⟩
  obtain ⟨n, hn⟩ : ∃ n, d.n1 = n := ⟨_, rfl⟩
  have Hn := Lib.hid hn
  rw [hn] at h14 ⊢
  rw [hn] at hl
  subst hl
  clear hn
  go_enter Tryd.func96, Tryd.ntmps96
  go_wp2
  go_loopw [15] (fun i wr => ∃ k : Nat, k ≤ gn ∧ i = .int .i64 k ∧ Hid (numU ys k = true) ∧ Mem w [] wr) (fun i _ => gn - (intOf i).toNat)
  case atStart => exact ⟨0, by omega, rfl, Lib.hid rfl, hM⟩
  case round =>
    clear hM
    obtain ⟨k, hk, rfl, hall, hM⟩ := hrel
    by_cases hlt : k < gn
    · have l2 : (k : Int) < gn := by omega
      obtain ⟨bg, Ng, Fg, rfl, hNg, hFg, hAg⟩ := HG.out.at hlt
      have HAg := Lib.hid hAg
      obtain ⟨y, hy⟩ : ∃ y, ys k = y := ⟨_, rfl⟩
      rw [hy] at hFg
      have HSt := Lib.hid (show numU ys (k + 1) = inB 0 13 y from by simp only [numU, hall.out, Bool.true_and, hy])
      have HFn := Lib.hid (show inB 0 13 y = false → numsB d gn ys = false from fun h => by unfold numsB; rw [numU_no hlt (by rw [hy]; exact h), Bool.and_false])
      have v2 : wr.cell? ⟨3, 0, none⟩ = some (errV (a 2)) := (HE.out.below hM.below).vars 2 (by omega)
      clear hAg hy
      by_cases h0 : y < 0
      · have d0 : decide (y < 0) = true := decide_eq_true h0
        have HZ := Lib.hid (HFn.out (inB_no (by omega)))
        go_wp2_with (first | (refine wpList_getAt1 rfl _ _ rfl _ _ rfl (HAg.out.below hM.below HAg.out.lt) (cellTab _ rfl) (by omega) _ hFg ?_))
        go_ret
        exact ⟨by rw [← HR.out, HZ.out]; rfl, hM.below⟩
      have d0 : decide (y < 0) = false := decide_eq_false h0
      by_cases h1 : 14 ≤ y
      · have d1 : decide (14 ≤ y) = true := decide_eq_true h1
        have HZ := Lib.hid (HFn.out (inB_no (by omega)))
        go_wp2_with (first | (refine wpList_getAt1 rfl _ _ rfl _ _ rfl (HAg.out.below hM.below HAg.out.lt) (cellTab _ rfl) (by omega) _ hFg ?_))
        go_ret
        exact ⟨by rw [← HR.out, HZ.out]; rfl, hM.below⟩
      have d1 : decide (14 ≤ y) = false := decide_eq_false h1
      have HZ := Lib.hid (HSt.out.trans (inB_yes (by omega)))
      clear v2
      go_wp2_with (first | (refine wpList_getAt1 rfl _ _ rfl _ _ rfl (HAg.out.below hM.below HAg.out.lt) (cellTab _ rfl) (by omega) _ hFg ?_))
      go_roundw
      case rel => exact ⟨k + 1, by omega, by go_num, HZ, hM⟩
      case measure => simp [intOf]; omega
    · obtain rfl : k = gn := by omega
      have HZ := Lib.hid (show numsB d k ys = true from by unfold numsB; rw [hall.out, Hn.out, decide_eq_true rfl]; rfl)
      go_wp2
      go_ret
      exact ⟨by rw [← HR.out, HZ.out]; rfl, hM.below⟩

/-- The refusal of groups for a quarrel. -/
def quarV (i k : Nat) : Value := .iface 111 (.agg #[.int .i64 (i : Int), .int .i64 (k : Int)])
theorem run_quarrel (x y : Int) (W : World) : (Instr.build 111 #[(0, .int .i64 x), (1, .int .i64 y)]).run Tryd.prog W = .ok (.agg #[.int .i64 x, .int .i64 y]) W := by kernel_rfl
theorem wpList_quarrel {ops : Array Oper} {rest : List Oper} {o : Oper} {a : Act} {W : World} {Q : Exit → Act → World → Prop} (hgd : o.guard = none) (x y : Operand) (ho : o.op = .build 111 #[(0, x), (1, y)]) (i k : Int)
    (hx : a.eval x = .int .i64 i) (hy : a.eval y = .int .i64 k)
    (h : wpList Tryd.prog ops Q rest (a.put o.dst (.agg #[.int .i64 i, .int .i64 k])) W) : wpList Tryd.prog ops Q (o :: rest) a W := by
  refine wpList_plain hgd fun K hK => ?_
  have hr := run_quarrel i k W
  rw [← hx, ← hy] at hr
  unfold Oper.wp execOp
  simp only [ho, List.map_toArray, List.map_cons, List.map_nil, Sem.run_bind, Sem.run_pure, hr, Result.andThen_ok]
  rw [hx, hy]
  exact hK _ _ h
/-- What the check of peace gives. -/
def peaceV (a : Nat → Addr) (d : Hd) (n : Nat) (ys : Nat → Int) : Value := if numsB d n ys then (match quarI d ys n n with | some (i, k) => quarV i k | none => .nilIface) else errV (a 2)

set_option maxRecDepth 100000 in
set_option maxHeartbeats 8000000 in
theorem checkPeace_any {a : Nat → Addr} (d : Hd) (ma : Option Addr) (mc : Nat) (hOk : HerdOk d) (hf : ∀ i, i < d.n1 → 0 ≤ d.fs i ∧ d.fs i ≤ 65535) (ga : Option Addr) (gn gc : Nat) (ys : Nat → Int) (hgn : gn ≤ 1048576) (w : World) (hA : MemsAt w ma d.n1 d) (hG : IntsAt w ga gn ys) (hE : Errs a w) (hT : Tab w) :
    Calls Tryd.prog 92 #[.slice ma d.n1 mc, .slice ga gn gc] w fun e w' => e = .returned (peaceV a d gn ys) ∧ Below w.heap.size w w' := by
  have hM := Mem.nil w
  have HG := Lib.hid hG
  have HE := Lib.hid hE
  have HT := Lib.hid hT
  have HA := Lib.hid hA
  have HF := Lib.hid hf
  have h14 := hOk.n
  have HFo := Lib.hid hOk.foes
  have HCN := Lib.hid (fun (R : Value) (hR : (if numsB d gn ys = true then .nilIface else errV (a 2)) = R) (W : World) hG hE => checkNumbers_any (a := a) d ma mc h14 ga gn gc ys hgn R hR W hG hE)
  clear hG hE hT hA hf hOk
  cases hnb : numsB d gn ys
  · have HZ := Lib.hid (show peaceV a d gn ys = errV (a 2) from by unfold peaceV; rw [hnb]; rfl)
    have HB := Lib.hid hnb
    have hIf : Hid ((if numsB d gn ys = true then Value.nilIface else errV (a 2)) = errV (a 2)) := Lib.hid (by rw [hnb]; rfl)
    clear hnb
    go_enter Tryd.func92, Tryd.ntmps92
    go_wp2_with (first | (go_at_call 96; refine (HCN.out _ hIf.out _ (HG.out.below hM.below) (HE.out.below hM.below)).mono ?_; rintro e W' ⟨rfl, hb'⟩; have hM' := hM.call hb'; clear hM hb'; have hM := hM'; clear hM'))
    go_ret
    rw [HZ.out]
    exact ⟨rfl, hM.below⟩
  have hIf : Hid ((if numsB d gn ys = true then Value.nilIface else errV (a 2)) = Value.nilIface) := Lib.hid (by rw [hnb]; rfl)
  obtain ⟨hnn, -⟩ := numsB_iff.1 hnb
  subst hnn
  obtain ⟨n, hn⟩ : ∃ n, d.n1 = n := ⟨_, rfl⟩
  have HZ := Lib.hid (show ∀ o, quarI d ys n n = o → peaceV a d n ys = (match o with | some (i, k) => quarV i k | none => .nilIface) from fun o h => by unfold peaceV; rw [← hn, hnb, if_pos rfl, hn, h])
  rw [hn] at HG HA HF HFo HCN hIf h14 ⊢
  clear hnb
  obtain ⟨al, hal⟩ : ∃ al, 2 ^ n - 1 = al := ⟨_, rfl⟩
  have HAL := Lib.hid hal
  have hal2 : al < 65536 := by rw [← hal]; have := u16_two n (by omega); omega
  have HLA := Lib.hid (show ∀ W, Tab W → Calls Tryd.prog 66 #[.int .u16 al] W (GivesV (List.range n) W) from fun W h => by rw [← bits_all h14, hal]; exact list_any al hal2 W h)
  clear hn hal
  go_enter Tryd.func92, Tryd.ntmps92
  go_wp2_with (first | (go_at_call 96; refine (HCN.out _ hIf.out _ (HG.out.below hM.below) (HE.out.below hM.below)).mono ?_; rintro e W' ⟨rfl, hb'⟩; have hM' := hM.call hb'; clear hM hb'; have hM := hM'; clear hM') | (go_at_call 101; refine (all_any ma n mc h14 al HAL.out _).mono ?_; rintro e W' ⟨rfl, hb'⟩; have hM' := hM.call hb'; clear hM hb'; have hM := hM'; clear hM') | (go_at_call 66; refine (HLA.out _ (HT.out.below hM.below)).mono ?_; rintro e W' hGv; obtain ⟨la, lc, rfl, hlc, hL, hb'⟩ := hGv.nums; have hM' := hM.call hb'; have HL := Lib.hid hL; clear hM hb' hGv hL; have hM := hM'; clear hM'))
  have HL' := HL
  have HB1 := Lib.hid hM.below
  obtain ⟨W1, hW1⟩ : ∃ W1, W1 = W' := ⟨_, rfl⟩
  have hM2 := hM.base (w' := Base.of W') (Below.refl _ _)
  clear HL hM
  have hM := hM2
  clear hM2 hW1 W1
  go_loopw [20] (fun v wr => ∃ i : Nat, i ≤ n ∧ v = .int .i64 i ∧ Hid (quarI d ys n i = none) ∧ Mem (Base.of W') [] wr) (fun v _ => n - (intOf v).toNat)
  case atStart => exact ⟨0, by omega, rfl, Lib.hid rfl, hM⟩
  case round =>
    clear hM
    obtain ⟨i, hi, rfl, hall, hM⟩ := hrel
    have HL := HL'
    by_cases hlt : i < n
    · have l2 : (i : Int) < n := by omega
      obtain ⟨bl, NL, FL, rfl, hNL, hFL, hAL⟩ := HL.out.at (k := i) (by simpa using hlt)
      rw [List.getElem_range] at hFL
      rw [List.length_range] at hNL
      obtain ⟨s, hs⟩ : ∃ s : Nat, d.fs i = s := ⟨(d.fs i).toNat, by have := HF.out i hlt; omega⟩
      have hs2 : s < 65536 := by have := HF.out i hlt; omega
      obtain ⟨bm, Nm, Fm, hma, hNm, hFm, hAm⟩ := ((HA.out.below HB1.out).below hM.below).foes hlt hs
      subst hma
      have HAL := Lib.hid hAL
      have HAm := Lib.hid hAm
      have Hfo := Lib.hid (show ∀ k, foe d i k = s.testBit k from fun k => by unfold foe; rw [show (d.fs i).toNat = s by omega])
      have hsn : s < 2 ^ n := by have := HFo.out i hlt; rw [hs] at this; exact_mod_cast this
      have HLS := Lib.hid (fun (W : World) (h : Tab W) => list_any s hs2 W h)
      clear hAL hAm hs
      go_wp2_with (first | (refine wpList_getAt1 rfl _ _ rfl _ _ rfl (HAL.out.below hM.below HAL.out.lt) (cellTab _ rfl) (by omega) _ hFL ?_) | (refine wpList_getAt1 rfl _ _ rfl _ _ rfl HAm.out (cellTab _ rfl) hNm _ hFm ?_) | (go_at_call 66; refine (HLS.out _ ((HT.out.below HB1.out).below hM.below)).mono ?_; rintro e W2 hGv; obtain ⟨la, lc, rfl, hlc, hL, hb'⟩ := hGv.nums; have hM' := hM.call hb'; have HL2 := Lib.hid hL; have HM2 := Lib.hid hM'; have hM2 := hM'.base (w' := Base.of W2) (Below.refl _ _); clear hM hb' hGv hL hM'; have hM := hM2; clear hM2))
      have Hmem := Lib.hid (show ∀ x, x ∈ bitsL s → x < n ∧ foe d i x = true from fun x hx => ⟨bit_lt hsn ((mem_bitsL hs2).1 hx), by rw [Hfo.out]; exact (mem_bitsL hs2).1 hx⟩)
      have Hbef := Lib.hid (show ∀ (m : Nat), (∀ k, k < m → s.testBit k = true → i < k → ys i ≠ ys k) → quarK d ys i m = none from fun m h => quarK_none.2 fun k hk hik => by
        unfold qAt
        rw [Hfo.out]
        cases hb : s.testBit k with
        | false => rw [Bool.and_false]
        | true => rw [decide_eq_false (h k hk hb hik), Bool.false_and])
      have Hord := Lib.hid (fun (j : Nat) (hj : j < (bitsL s).length) (x : Nat) (hx : x < (bitsL s)[j]) (hb : s.testBit x = true) => bits_before hs2 hj hx hb)
      have Hin := Lib.hid (fun (x : Nat) (hb : s.testBit x = true) => (mem_bitsL hs2).2 hb)
      have hlen := bitsL_len s
      have HBw := Lib.hid (HB1.out.trans (HM2.out.below.mono HB1.out.size))
      have HL3 := HL2
      clear HL HL2 HAL HLS
      generalize bitsL s = l at *
      go_loopw [31] (fun v wr => ∃ j : Nat, j ≤ l.length ∧ v = .int .i64 j ∧ Hid (∀ q (hq : q < l.length), q < j → i < l[q] → ys i ≠ ys l[q]) ∧ Mem (Base.of W2) [] wr) (fun v _ => l.length - (intOf v).toNat)
      case atStart => exact ⟨0, by omega, rfl, Lib.hid (fun q _ h => absurd h (by omega)), hM⟩
      case round =>
        clear hM
        obtain ⟨j, hj, rfl, hall2, hM⟩ := hrel
        have HL := HL3
        by_cases hjl : j < l.length
        · have l3 : (j : Int) < l.length := by omega
          obtain ⟨bk, NK, FK, rfl, hNK, hFK, hAK⟩ := HL.out.at hjl
          obtain ⟨hxn, hxf⟩ := Hmem.out _ (List.getElem_mem hjl)
          obtain ⟨x, hx⟩ : ∃ x, l[j] = x := ⟨_, rfl⟩
          rw [hx] at hFK hxn hxf
          have HAK := Lib.hid hAK
          have HX := Lib.hid hx
          have HXF := Lib.hid hxf
          have HSt := Lib.hid (show (i < x → ys i ≠ ys x) → ∀ q (hq : q < l.length), q < j + 1 → i < l[q] → ys i ≠ ys l[q] from fun h q hq hqj => by
            by_cases e : q = j
            · subst e; rw [HX.out]; exact h
            · exact hall2.out q hq (by omega))
          clear hAK hx hxf
          by_cases hix : i < x
          case neg =>
            have d0 : decide (i < x) = false := decide_eq_false hix
            have HZ := Lib.hid (HSt.out (fun h => absurd h hix))
            clear hix
            go_wp2_with (first | (refine wpList_getAt1 rfl _ _ rfl _ _ rfl (HAK.out.below hM.below HAK.out.lt) (cellTab _ rfl) (by omega) _ hFK ?_))
            ((try simp only [Act.put, List.setIfInBounds_toArray, List.set_cons_succ, List.set_cons_zero]); refine wp_region_mem (by kernel_rfl) (by kernel_rfl) hM ?_; clear hM; (repeat (first | go_big_quiet_skip | (go_big_quiet_want; first | (refine quiet_val ?_; apply Exists.intro; refine ⟨fun W => ?_, ?_⟩; (go_simp; (try simp only [d0, if_true, Bool.false_eq_true, if_false]); rfl); (simp only [Act.put, List.setIfInBounds_toArray, List.set_cons_succ, List.set_cons_zero]); go_big_quiet_on)))); (with_reducible refine wpQuiet_nil ?_); intro W' hM)
            go_wp2
            go_roundw
            case rel => exact ⟨j + 1, by omega, by go_num, HZ, hM⟩
            case measure => simp [intOf]; omega
          have d0 : decide (i < x) = true := decide_eq_true hix
          obtain ⟨bg, Ng, Fg, rfl, hNg, hFg, hAg⟩ := HG.out.at hlt
          obtain ⟨bg2, Ng2, Fg2, heq, hNg2, hFg2, hAg2⟩ := HG.out.at hxn
          obtain rfl : bg = bg2 := by simpa using heq
          have HAg := Lib.hid hAg
          have HAg2 := Lib.hid hAg2
          obtain ⟨y, hy⟩ : ∃ y, ys i = y := ⟨_, rfl⟩
          obtain ⟨z, hz⟩ : ∃ z, ys x = z := ⟨_, rfl⟩
          rw [hy] at hFg
          rw [hz] at hFg2
          have HYZ := Lib.hid (And.intro hy hz)
          clear hAg hAg2 heq hy hz
          by_cases hyz : y = z
          case neg =>
            have e1 : (y == z) = false := beq_eq_false_iff_ne.2 hyz
            have HZ := Lib.hid (HSt.out (fun _ => by rw [HYZ.out.1, HYZ.out.2]; exact hyz))
            clear hyz
            go_wp2_with (first | (refine wpList_getAt1 rfl _ _ rfl _ _ rfl (HAK.out.below hM.below HAK.out.lt) (cellTab _ rfl) (by omega) _ hFK ?_))
            ((try simp only [Act.put, List.setIfInBounds_toArray, List.set_cons_succ, List.set_cons_zero]); refine wp_region_mem (by kernel_rfl) (by kernel_rfl) hM ?_; clear hM; (repeat (first | go_big_quiet_skip | (go_big_quiet_want; first | (refine quiet_old _ _ rfl _ _ rfl (cellTab _ rfl) (.int .i64 y) (fun W hM2 => ((HAg.out.below (HBw.out.trans (hM2.below.mono HBw.out.size)) HAg.out.lt).cell (by omega)).trans (congrArg some hFg)) ?_; (simp only [Act.put, List.setIfInBounds_toArray, List.set_cons_succ, List.set_cons_zero]); go_big_quiet_on) | (refine quiet_old _ _ rfl _ _ rfl (cellTab _ rfl) (.int .i64 z) (fun W hM2 => ((HAg2.out.below (HBw.out.trans (hM2.below.mono HBw.out.size)) HAg2.out.lt).cell (by omega)).trans (congrArg some hFg2)) ?_; (simp only [Act.put, List.setIfInBounds_toArray, List.set_cons_succ, List.set_cons_zero]); go_big_quiet_on) | (refine quiet_val ?_; apply Exists.intro; refine ⟨fun W => ?_, ?_⟩; (go_simp; (try simp only [d0, e1, if_true, Bool.false_eq_true, if_false]); rfl); (simp only [Act.put, List.setIfInBounds_toArray, List.set_cons_succ, List.set_cons_zero]); go_big_quiet_on)))); (with_reducible refine wpQuiet_nil ?_); intro W' hM)
            go_wp2
            go_roundw
            case rel => exact ⟨j + 1, by omega, by go_num, HZ, hM⟩
            case measure => simp [intOf]; omega
          subst hyz
          have HZ1 := Lib.hid (HZ.out (some (i, x)) (quarI_at hall.out (quarK_at (Hbef.out x (fun k hk hb hik => by
            obtain ⟨q, hq, hqj, e⟩ := Hord.out j hjl k (by rw [HX.out]; exact hk) hb
            subst e
            exact hall2.out q hq hqj hik)) hix (by unfold qAt; rw [HYZ.out.1, HYZ.out.2, decide_eq_true rfl, HXF.out]; rfl) n hxn) n hlt))
          clear HZ hix
          go_wp2_with (first | (refine wpList_getAt1 rfl _ _ rfl _ _ rfl (HAK.out.below hM.below HAK.out.lt) (cellTab _ rfl) (by omega) _ hFK ?_))
          ((try simp only [Act.put, List.setIfInBounds_toArray, List.set_cons_succ, List.set_cons_zero]); refine wp_region_mem (by kernel_rfl) (by kernel_rfl) hM ?_; clear hM; (repeat (first | go_big_quiet_skip | (go_big_quiet_want; first | (refine quiet_old _ _ rfl _ _ rfl (cellTab _ rfl) (.int .i64 y) (fun W hM2 => ((HAg.out.below (HBw.out.trans (hM2.below.mono HBw.out.size)) HAg.out.lt).cell (by omega)).trans (congrArg some hFg)) ?_; (simp only [Act.put, List.setIfInBounds_toArray, List.set_cons_succ, List.set_cons_zero]); go_big_quiet_on) | (refine quiet_old _ _ rfl _ _ rfl (cellTab _ rfl) (.int .i64 y) (fun W hM2 => ((HAg2.out.below (HBw.out.trans (hM2.below.mono HBw.out.size)) HAg2.out.lt).cell (by omega)).trans (congrArg some hFg2)) ?_; (simp only [Act.put, List.setIfInBounds_toArray, List.set_cons_succ, List.set_cons_zero]); go_big_quiet_on) | (refine quiet_val ?_; apply Exists.intro; refine ⟨fun W => ?_, ?_⟩; (go_simp; (try simp only [d0, beq_self_eq_true, if_true, Bool.false_eq_true, if_false]); rfl); (simp only [Act.put, List.setIfInBounds_toArray, List.set_cons_succ, List.set_cons_zero]); go_big_quiet_on)))); (with_reducible refine wpQuiet_nil ?_); intro W' hM)
          go_wp2_with (first | (refine wpList_quarrel rfl _ _ rfl i x rfl rfl ?_; (simp only [Act.put, List.setIfInBounds_toArray, List.set_cons_succ, List.set_cons_zero])))
          go_ret
          rw [HZ1.out]
          exact ⟨rfl, HBw.out.trans (hM.below.mono HBw.out.size)⟩
        · obtain rfl : j = l.length := by omega
          have HZ2 := Lib.hid (quarI_step hall.out (Hbef.out n (fun k hk hb hik => by
            obtain ⟨q, hq, e⟩ := List.getElem_of_mem (Hin.out k hb)
            subst e
            exact hall2.out q hq hq hik)))
          go_wp2
          go_roundw
          case rel => exact ⟨i + 1, by omega, by go_num, HZ2, HM2.out.call hM.below⟩
          case measure => simp [intOf]; omega
    · obtain rfl : i = n := by omega
      have HZ2 := Lib.hid (HZ.out none hall.out)
      go_wp2
      go_ret
      rw [HZ2.out]
      exact ⟨rfl, HB1.out.trans (hM.below.mono HB1.out.size)⟩
end Go.Proofs.YthodkbmenndnoaaDoor

/-
  errors.As at a quarrel, by contracts.
-/
namespace Go.Proofs.YthodkbmenndnoaaDoor
open Go Go.RowKit Go.BigFrame Go.Extern.Stop Go.Stop Go.Extern

/-! ### CLOSED FACTS -/
def hdl (t : TypeId) : Value := .pointer (some ⟨9, t, none⟩)
def rty (t : TypeId) : Value := .iface 155 (.agg #[hdl t])
def rvl (t : TypeId) (a : Addr) (f : Int) : Value := .agg #[hdl t, .pointer (some a), .int .u64 f]
theorem q_valueOf (t : Addr) (w : World) : (ReflectliteValue.unpack (.iface 113 (.pointer (some t)))).run Tryd.prog w
    = .ok (.agg #[.pointer (some ⟨9, 113, none⟩), .pointer (some ⟨w.heap.size, 0, none⟩), .int .u64 150]) (w.alloc (.cells #[.pointer (some t)] 113)) := by kernel_rfl
theorem q_type (a : Addr) (w : World) : (ReflectliteValue.methodAny (ReflectliteValue.valueError "reflectlite.Value.Type" 0) (fun t _ _ _ => ReflectliteType.toType t) #[.agg #[.pointer (some ⟨9, 113, none⟩), .pointer (some a), .int .u64 150]]).run Tryd.prog w
    = .ok (.iface 155 (.agg #[.pointer (some ⟨9, 113, none⟩)])) w := by kernel_rfl
theorem q_methodKind (h : Value) (w : World) : (Go.method 301 155 (.agg #[h]) "Kind").run Tryd.prog w = .ok (140, h) w := by kernel_rfl
theorem q_kindP (w : World) : ((ReflectliteType.abiMethod fun t => (fun a : Nat => Value.int IntKind.u8 (a : Int)) <$> Rtype.kind t) #[.pointer (some ⟨9, 113, none⟩)]).run Tryd.prog w = .ok (.int .u8 22) w := by kernel_rfl
theorem q_kindQ (w : World) : ((ReflectliteType.abiMethod fun t => (fun a : Nat => Value.int IntKind.u8 (a : Int)) <$> Rtype.kind t) #[.pointer (some ⟨9, 111, none⟩)]).run Tryd.prog w = .ok (.int .u8 25) w := by kernel_rfl
theorem q_rlm (z : Sem Value) (f : TypeId → Addr → Nat → Nat → Sem Value) (v : Value) :
    ReflectliteValue.method z f #[v] = (do match ← ReflectliteValue.parts v with | none => z | some (t, a, fl) => f t a fl (fl % 32)) := rfl
theorem q_partsP (a : Addr) (w : World) : (ReflectliteValue.parts (.agg #[.pointer (some ⟨9, 113, none⟩), .pointer (some a), .int .u64 150])).run Tryd.prog w = .ok (some (113, a, 150)) w := by kernel_rfl
theorem q_isNil (a p : Addr) (W : World) (ha : W.cell? a = some (.pointer (some p))) :
    (ReflectliteValue.method (ReflectliteValue.valueError "reflectlite.Value.IsNil" 0) ReflectliteValue.isNil #[.agg #[.pointer (some ⟨9, 113, none⟩), .pointer (some a), .int .u64 150]]).run Tryd.prog W = .ok (.bool false) W := by
  rw [q_rlm]
  simp only [Sem.run_bind, q_partsP, Result.andThen]
  simp [ReflectliteValue.isNil, loadVar, isAgg, underlying, Tryd.underlying113, ha, Result.andThen]
theorem q_methodElem (h : Value) (w : World) : (Go.method 301 155 (.agg #[h]) "Elem").run Tryd.prog w = .ok (155, .agg #[h]) w := by kernel_rfl
theorem q_methodImplements (h : Value) (w : World) : (Go.method 301 155 (.agg #[h]) "Implements").run Tryd.prog w = .ok (156, .agg #[h]) w := by kernel_rfl
theorem q_methodAssignableTo (h : Value) (w : World) : (Go.method 301 155 (.agg #[h]) "AssignableTo").run Tryd.prog w = .ok (153, .agg #[h]) w := by kernel_rfl
theorem q_elem (w : World) : (ReflectliteType.method ReflectliteType.elem #[.agg #[.pointer (some ⟨9, 113, none⟩)]]).run Tryd.prog w = .ok (.iface 155 (.agg #[.pointer (some ⟨9, 111, none⟩)])) w := by kernel_rfl
theorem q_implements (w : World) : (ReflectliteType.relation "Implements" ReflectliteType.implements_ #[.agg #[.pointer (some ⟨9, 111, none⟩)], .iface 155 (.agg #[.pointer (some ⟨9, 85, none⟩)])]).run Tryd.prog w = .ok (.bool true) w := by kernel_rfl
theorem q_typeOf (v : Value) (w : World) : (ReflectliteType.typeOf #[.iface 111 v]).run Tryd.prog w = .ok (.iface 155 (.agg #[.pointer (some ⟨9, 111, none⟩)])) w := by kernel_rfl
theorem q_assign (w : World) : (ReflectliteType.relation "AssignableTo" ReflectliteType.assignableTo #[.agg #[.pointer (some ⟨9, 111, none⟩)], .iface 155 (.agg #[.pointer (some ⟨9, 111, none⟩)])]).run Tryd.prog w = .ok (.bool true) w := by kernel_rfl
theorem q_assignNo (w : World) : (ReflectliteType.relation "AssignableTo" ReflectliteType.assignableTo #[.agg #[.pointer (some ⟨9, 170, none⟩)], .iface 155 (.agg #[.pointer (some ⟨9, 111, none⟩)])]).run Tryd.prog w = .ok (.bool false) w := by kernel_rfl
theorem q_valueQ (x y : Int) (w : World) : (ReflectliteValue.unpack (.iface 111 (.agg #[.int .i64 x, .int .i64 y]))).run Tryd.prog w
    = .ok (.agg #[.pointer (some ⟨9, 111, none⟩), .pointer (some ⟨w.heap.size, 0, none⟩), .int .u64 153]) (w.alloc (.cells #[.int .i64 x, .int .i64 y] 111)) := by kernel_rfl
theorem q_elemOf (w : World) : (Rtype.elem? 113).run Tryd.prog w = .ok (some 111) w := by kernel_rfl
theorem q_mk (p : Addr) (w : World) : (ReflectliteValue.mk 111 p ReflectliteValue.flagAddr).run Tryd.prog w = .ok (.agg #[.pointer (some ⟨9, 111, none⟩), .pointer (some p), .int .u64 409]) w := by kernel_rfl
theorem q_elemV (a p : Addr) (W : World) (ha : W.cell? a = some (.pointer (some p))) :
    (ReflectliteValue.method (ReflectliteValue.valueError "reflectlite.Value.Elem" 0) ReflectliteValue.elem #[.agg #[.pointer (some ⟨9, 113, none⟩), .pointer (some a), .int .u64 150]]).run Tryd.prog W
      = .ok (.agg #[.pointer (some ⟨9, 111, none⟩), .pointer (some p), .int .u64 409]) W := by
  rw [q_rlm]
  simp only [Sem.run_bind, q_partsP, Result.andThen]
  simp [ReflectliteValue.elem, loadVar, isAgg, underlying, Tryd.underlying113, ha, Result.andThen, q_elemOf, q_mk]
theorem q_rls (v x : Value) : ReflectliteValue.set #[v, x] = (do
    let (some (dst, a, fl), some (src, b, _)) := (← ReflectliteValue.parts v, ← ReflectliteValue.parts x)
      | unsupported (.noEntry "extern/(internal/reflectlite.Value).Set.zeroValue")
    if fl / ReflectliteValue.flagAddr % 2 == 0 then unsupported (.noEntry "extern/(internal/reflectlite.Value).Set.unaddressable")
    let val ← loadVar src b
    if ← Rtype.directlyAssignable dst src then storeVar dst a val
    else if ← Rtype.implements dst src then
      if (← Rtype.kind src) == 20 then
        match val with
        | .nilIface => unsupported (.noEntry "extern/reflectlite: a nil value of one interface type handed on as a value of another")
        | _ => storeVar dst a val
      else storeVar dst a (.iface src val)
    else panicString ("reflectlite.Set: value of type " ++ (← Rtype.spelt src) ++ " is not assignable to type " ++ (← Rtype.spelt dst))
    pure (.tuple #[])) := rfl
theorem q_partsA (a : Addr) (w : World) : (ReflectliteValue.parts (.agg #[.pointer (some ⟨9, 111, none⟩), .pointer (some a), .int .u64 409])).run Tryd.prog w = .ok (some (111, a, 409)) w := by kernel_rfl
theorem q_partsB (a : Addr) (w : World) : (ReflectliteValue.parts (.agg #[.pointer (some ⟨9, 111, none⟩), .pointer (some a), .int .u64 153])).run Tryd.prog w = .ok (some (111, a, 153)) w := by kernel_rfl
theorem q_direct (w : World) : (Rtype.directlyAssignable 111 111).run Tryd.prog w = .ok true w := by kernel_rfl
theorem q_size (w : World) : (sizeOf 111).run Tryd.prog w = .ok 2 w := by kernel_rfl
def qF (x y : Int) : Nat → Value := fun k => if k = 0 then .int .i64 x else .int .i64 y
/-- (Value).Set at a quarrel's variable. -/
theorem q_set (t b : Nat) (x y : Int) (F : Nat → Value) (tb tt : TypeId) (W : World) (hb : W.heap[b]? = some (.cells (arr 2 (qF x y)) tb (0, 0))) (ht : W.heap[t]? = some (.cells (arr 2 F) tt (0, 0))) :
    (ReflectliteValue.set #[.agg #[.pointer (some ⟨9, 111, none⟩), .pointer (some ⟨t, 0, none⟩), .int .u64 409], .agg #[.pointer (some ⟨9, 111, none⟩), .pointer (some ⟨b, 0, none⟩), .int .u64 153]]).run Tryd.prog W
      = .ok (.tuple #[]) (W.setRow t (arr 2 (qF x y))) := by
  have hs := run_storeCells_at (P := Tryd.prog) t 0 tt [.int .i64 x, .int .i64 y] 0 (arr 2 F) W ht (by simp [arr_size]) (fun v hv => by simp at hv; rcases hv with rfl | rfl <;> rfl)
  have hr : W.rangeAt b 0 (arr 2 (qF x y)).toList := by
    have h := World.rangeAt_of_block hb 0 2
    rw [arr_extract (by omega)] at h
    simpa using h
  obtain ⟨⟨d, hu, hd⟩, hm⟩ : RowT Tryd.prog 111 2 := ⟨⟨_, Tryd.underlying111, rfl⟩, by kernel_rfl⟩
  have hl : (loadVar 111 ⟨b, 0, none⟩).run Tryd.prog W = .ok (.agg #[.int .i64 x, .int .i64 y]) W :=
    run_loadVar_mid (P := Tryd.prog) W b 0 111 (arr 2 (qF x y)).toList d hr hu hd (by rw [hm]; simp [arr_size])
  rw [q_rls]
  simp only [Sem.run_bind, q_partsA, q_partsB, Result.andThen]
  simp [ReflectliteValue.flagAddr, hl, Result.andThen, q_direct, storeVar, Value.cells]
  rw [hs]
  rfl

set_option maxRecDepth 100000 in
set_option maxHeartbeats 4000000 in
/-- errors.As(a quarrel, a quarrel's variable). -/
theorem as_hit (w0 : World) (L : Blocks) (t : Nat) (x y : Int) (F : Nat → Value) (w : World) (hM : Mem w0 ((t, 2, F) :: L) w) (hge : w0.heap.size ≤ t) (hg : w0.cell? ⟨7, 0, none⟩ = some (.iface 155 (.agg #[.pointer (some ⟨9, 85, none⟩)]))) :
    Calls Tryd.prog 94 #[.iface 111 (.agg #[.int .i64 x, .int .i64 y]), .iface 113 (.pointer (some ⟨t, 0, none⟩))] w fun e w' => e = .returned (.bool true) ∧ Mem w0 ((t, 2, qF x y) :: L) w' := by
  have h6 := @run_callFunc_extern Tryd.prog 114 _ (fun args => ReflectliteValue.unpack (args.getD 0 (.tuple #[]))) Tryd.func114 (by kernel_rfl) (by kernel_rfl) (by kernel_rfl) (by kernel_rfl)
  have h7 := @run_callFunc_extern Tryd.prog 115 _ (ReflectliteValue.methodAny (ReflectliteValue.valueError "reflectlite.Value.Type" 0) (fun t _ _ _ => ReflectliteType.toType t)) Tryd.func115 (by kernel_rfl) (by kernel_rfl) (by kernel_rfl) (by kernel_rfl)
  have h8 := @run_callFunc_extern Tryd.prog 116 _ (ReflectliteValue.method (ReflectliteValue.valueError "reflectlite.Value.IsNil" 0) ReflectliteValue.isNil) Tryd.func116 (by kernel_rfl) (by kernel_rfl) (by kernel_rfl) (by kernel_rfl)
  have h27 := @run_callFunc_extern Tryd.prog 140 _ (ReflectliteType.abiMethod fun t => do pure (.int .u8 (← Rtype.kind t))) Tryd.func140 (by kernel_rfl) (by kernel_rfl) (by kernel_rfl) (by kernel_rfl)
  have h37 := @run_callFunc_extern Tryd.prog 155 _ (ReflectliteType.method ReflectliteType.elem) Tryd.func155 (by kernel_rfl) (by kernel_rfl) (by kernel_rfl) (by kernel_rfl)
  have h38 := @run_callFunc_extern Tryd.prog 156 _ (ReflectliteType.relation "Implements" ReflectliteType.implements_) Tryd.func156 (by kernel_rfl) (by kernel_rfl) (by kernel_rfl) (by kernel_rfl)
  have h10 := @run_callFunc_extern Tryd.prog 121 _ ReflectliteType.typeOf Tryd.func121 (by kernel_rfl) (by kernel_rfl) (by kernel_rfl) (by kernel_rfl)
  have h35 := @run_callFunc_extern Tryd.prog 153 _ (ReflectliteType.relation "AssignableTo" ReflectliteType.assignableTo) Tryd.func153 (by kernel_rfl) (by kernel_rfl) (by kernel_rfl) (by kernel_rfl)
  have h11 := @run_callFunc_extern Tryd.prog 124 _ (ReflectliteValue.method (ReflectliteValue.valueError "reflectlite.Value.Elem" 0) ReflectliteValue.elem) Tryd.func124 (by kernel_rfl) (by kernel_rfl) (by kernel_rfl) (by kernel_rfl)
  have h12 := @run_callFunc_extern Tryd.prog 125 _ ReflectliteValue.set Tryd.func125 (by kernel_rfl) (by kernel_rfl) (by kernel_rfl) (by kernel_rfl)
  have tO := q_typeOf
  have mA := q_methodAssignableTo
  have a25 := q_assign
  have v25 := q_valueQ
  have f6 := q_valueOf
  have f7 := q_type
  have mK := q_methodKind
  have mE := q_methodElem
  have mI := q_methodImplements
  have k27 := q_kindP
  have k25 := q_kindQ
  have e27 := q_elem
  have i25 := q_implements
  have hM1 := hM.alloc 113 1 (fun _ => .pointer (some ⟨t, 0, none⟩))
  have hM2 := hM1.alloc 140 3 (h3 (.pointer (some ⟨9, 113, none⟩)) (.pointer (some ⟨w.heap.size, 0, none⟩)) (.int .u64 150))
  rw [show arr 1 (fun _ => Value.pointer (some ⟨t, 0, none⟩)) = #[.pointer (some ⟨t, 0, none⟩)] from rfl, show ∀ a b c : Value, arr 3 (h3 a b c) = #[a, b, c] from fun _ _ _ => rfl] at hM2
  have n8 := q_isNil ⟨w.heap.size, 0, none⟩ ⟨t, 0, none⟩ _ ((hM2.ats 1 _ _ _ rfl).cell (by omega))
  have hg2 := (hM2.below.cell (block_lt_of_cell hg)).trans hg
  have hM3 := hM2.alloc 140 3 (h3 (.pointer (some ⟨9, 113, none⟩)) (.pointer (some ⟨w.heap.size, 0, none⟩)) (.int .u64 150))
  rw [show ∀ a b c : Value, arr 3 (h3 a b c) = #[a, b, c] from fun _ _ _ => rfl] at hM3
  have el := q_elemV ⟨w.heap.size, 0, none⟩ ⟨t, 0, none⟩ _ ((hM3.ats 2 _ _ _ rfl).cell (by omega))
  have hM4 := hM3.alloc 111 2 (qF x y)
  have e4 : arr 2 (qF x y) = #[.int .i64 x, .int .i64 y] := rfl
  obtain ⟨tb, hb4⟩ := hM4.ats 0 _ _ _ rfl
  obtain ⟨tt, ht4⟩ := hM4.ats 4 _ _ _ rfl
  have st := q_set t _ x y F tb tt _ hb4 ht4
  have hM5 := hM4.setRow 4 rfl hge (qF x y)
  have hM6 := hM5.drop.drop.drop.drop
  simp only [e4, World.size_alloc] at st hM6
  have HM6 := Lib.hid hM6
  clear hM hM1 hM2 hM3 hM4 hM5 hM6 hb4 ht4
  go_enter Tryd.func94, Tryd.ntmps94
  go_wp2
  refine wp_loop_rounds 1 ?_
  rw [rounds_succ]
  go_wp2
  go_ret
  exact ⟨rfl, HM6.out⟩
end Go.Proofs.YthodkbmenndnoaaDoor

